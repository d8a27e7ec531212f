/- The walk of WholeTexts: digits there and back. -/
import Derived.Test.YtgammgdckneoiabDoorLawAdds
import Derived.Test.YtgammgdckneoiabDoorRRead
namespace Go.Proofs.YtgammgdckneoiabDoor
open Go.RowKit

theorem txtR_len (n : Bool) (xs : List Int) : (∀ x ∈ txtR n xs, 0 ≤ x ∧ x < 256) ∧ (txtR n xs).length ≤ 400 := by
  have hd := dec_digs (val8 xs)
  have hl := dec_le (val8 xs)
  unfold txtR txt
  split
  · split
    · exact ⟨by decide, by decide⟩
    · generalize dec (val8 xs) = q at *
      refine ⟨?_, ?_⟩
      · intro x hx
        rcases List.mem_append.1 hx with hx | hx
        · cases n <;> simp at hx
          omega
        · have := hd x hx
          omega
      · rw [List.length_append]
        cases n <;> simp <;> omega
  · exact ⟨by simp, by simp⟩
theorem rdM_len (ss : List Int) : (rdM ss).length ≤ 140737488351232 := by
  have h : ∀ V, (fitM V).length ≤ 140737488351232 := by
    intro V
    unfold fitM
    split
    · rw [mag_len]; omega
    · simp
  unfold rdM
  split
  · split
    · exact h _
    · simp
  · simp
theorem txtR_read (ss : List Int) (hE : rdE ss = 0) : txtR (rdB ss) (rdM ss) = ss := by
  obtain ⟨h1, h2⟩ := txt_read ss hE
  unfold txtR
  rw [h2, if_pos rfl, h1]
theorem readR_txt (n : Bool) (xs : List Int) (hb : ∀ x ∈ xs, 0 ≤ x ∧ x < 256) (hr : rightB n xs = true) : rdB (txtR n xs) = n ∧ rdE (txtR n xs) = 0 ∧ rdM (txtR n xs) = xs := by
  unfold txtR
  rw [hr, if_pos rfl]
  exact read_txt n xs hb hr

set_option maxRecDepth 100000 in
set_option maxHeartbeats 8000000 in
theorem texts_law {a1 : Option Addr} {l1 c1 : Nat} {xs ss : List Int} {w : World} (n1 : Bool) (h1 : IsB w a1 l1 c1 xs) (hl1 : l1 ≤ 140737488351232) (hsb : ∀ x ∈ ss, 0 ≤ x ∧ x < 256) (hsl : ss.length ≤ 9223372036854775807) :
    Calls Tryd.prog 7 #[.agg #[.bool n1, .slice a1 l1 c1], .string (strOfNums ss)] w fun e w' => e = .returned (.bool true) ∧ Below w.heap.size w w' := by
  have hb := box_below w (.cells #[.bool n1, .slice a1 l1 c1] 24)
  have t2 := heap_alloc_new w (.cells #[.bool n1, .slice a1 l1 c1] 24)
  have kx := h1.below hb
  have hbyte := h1.byte
  obtain ⟨htb, htl⟩ := txtR_len n1 xs
  have hrt := readR_txt n1 xs hbyte
  obtain ⟨tt, Htt⟩ : ∃ q, Hid (txtR n1 xs = q) := ⟨_, rfl⟩
  rw [Htt.out] at htb htl hrt
  go_enter Tryd.func7, Tryd.ntmps7
  obtain ⟨r0, r1, _, _⟩ := intVarT t2
  go_wp2_with fail
  generalize w.alloc (.cells #[.bool n1, .slice a1 l1 c1] 24) = w1 at *
  clear r0 r1
  refine (given_any n1 kx hl1).mono ?_
  rintro e w2 ⟨g1, rfl, hg1, _, hb2⟩
  have b5 := box_below w2 (.cells #[.bool n1, .slice (some ⟨g1, 0, none⟩) l1 (l1 + 8)] 25)
  have t5 := heap_alloc_new w2 (.cells #[.bool n1, .slice (some ⟨g1, 0, none⟩) l1 (l1 + 8)] 25)
  have b25 := below_size hb2 (Nat.le_refl _) b5
  replace t2 := (b25.block _ (lt_of_block t2)).trans t2
  replace kx := kx.below b25
  replace hg1 := hg1.below b5
  have hB3 := below_size hb (Nat.le_refl _) b25
  obtain ⟨r0, r1, _, _⟩ := intVarT t5
  clear hb hb2 b5 b25
  go_wp2_with fail
  generalize hq3 : w2.alloc (.cells #[.bool n1, .slice (some ⟨g1, 0, none⟩) l1 (l1 + 8)] 25) = w3 at *
  clear hq3
  generalize w2.heap.size = i5 at *
  clear r0 r1
  -- t: whole.Text
  refine (wtext_any n1 (hg1.front (ys := pad) h1.size)).mono ?_
  rintro e w4 ⟨rfl, hb4⟩
  rw [Htt.out]
  replace t2 := (hb4.block _ (lt_of_block t2)).trans t2
  replace t5 := (hb4.block _ (lt_of_block t5)).trans t5
  replace kx := kx.below hb4
  replace hg1 := hg1.below hb4
  replace hB3 := below_size hB3 (Nat.le_refl _) hb4
  clear hb4
  go_wp2_with fail
  -- a: whole.Read
  refine (read_any ss w4 hsb hsl).mono ?_
  rintro e w5 ⟨va, rfl, oa, hb5⟩
  obtain ⟨bs, Hbs⟩ : ∃ b, Hid (rdB ss = b) := ⟨_, rfl⟩
  obtain ⟨es, Hes⟩ : ∃ b, Hid (rdE ss = b) := ⟨_, rfl⟩
  obtain ⟨ms, Hms⟩ : ∃ b, Hid (rdM ss = b) := ⟨_, rfl⟩
  have hmsl : ms.length ≤ 140737488351232 := by rw [← Hms.out]; exact rdM_len ss
  rw [Hms.out] at oa
  rw [Hbs.out, Hes.out]
  obtain ⟨pa, ca, rfl, _⟩ := oa.2
  have b7 := box_below w5 (.cells #[.bool bs, .slice pa ms.length ca] 25)
  have t7 := heap_alloc_new w5 (.cells #[.bool bs, .slice pa ms.length ca] 25)
  have bA := hb5.trans (b7.mono hb5.size)
  replace oa := oa.below b7
  have u2 := (bA.block _ (lt_of_block t2)).trans t2
  have u5 := (bA.block _ (lt_of_block t5)).trans t5
  clear hb5 b7
  go_wp2_with fail
  generalize hq7 : w5.alloc (.cells #[.bool bs, .slice pa ms.length ca] 25) = w6 at *
  clear hq7
  generalize w5.heap.size = i7 at *
  have hpa : ∀ g' n' c', Value.slice pa ms.length ca = .slice (some ⟨g', 0, none⟩) n' c' → g' < w6.heap.size := by
    intro g' n' c' he
    have ho := oa.1
    rw [he] at ho
    exact (ho.lt g' rfl).2
  -- b: the document's Read
  refine (rread_any ss w6 hsb hsl).mono ?_
  rintro e w7 ⟨vb, rfl, ob, hb7⟩
  rw [Hms.out] at ob
  rw [Hbs.out, Hes.out]
  obtain ⟨pb, cb, rfl, hIb⟩ := ob.2
  have b9 := box_below w7 (.cells #[.bool bs, .slice pb ms.length cb] 24)
  have t9 := heap_alloc_new w7 (.cells #[.bool bs, .slice pb ms.length cb] 24)
  have bB := hb7.trans (b9.mono hb7.size)
  have s9 := hb7.size
  replace oa := oa.below bB
  replace ob := ob.below b9
  replace u2 := (bB.block _ (lt_of_block u2)).trans u2
  replace u5 := (bB.block _ (lt_of_block u5)).trans u5
  replace t7 := (bB.block _ (lt_of_block t7)).trans t7
  have bAB := below_size bA (Nat.le_refl _) bB
  clear hb7 b9 hIb bA bB
  obtain ⟨r0, r1, _, _⟩ := intVarT u2
  go_wp2_with fail
  generalize hq9 : w7.alloc (.cells #[.bool bs, .slice pb ms.length cb] 24) = w8 at *
  clear hq9
  generalize w7.heap.size = i9 at *
  clear r0 r1
  -- the document's Text
  refine (rtext_any n1 (kx.below bAB)).mono ?_
  rintro e w9 ⟨rfl, hb9⟩
  rw [Htt.out]
  replace oa := oa.below hb9
  replace ob := ob.below hb9
  replace u2 := (hb9.block _ (lt_of_block u2)).trans u2
  replace u5 := (hb9.block _ (lt_of_block u5)).trans u5
  replace t7 := (hb9.block _ (lt_of_block t7)).trans t7
  replace t9 := (hb9.block _ (lt_of_block t9)).trans t9
  replace bAB := below_size bAB (Nat.le_refl _) hb9
  clear hb9
  obtain ⟨r0, r1, _, _⟩ := intVarT t7
  obtain ⟨r2, r3, _, _⟩ := intVarT t9
  obtain ⟨r4, r5, _, _⟩ := intVarT u5
  obtain ⟨r6, r7, _, _⟩ := intVarT u2
  go_wp2_with fail
  clear r0 r1 r2 r3 r4 r5 r6 r7
  refine (one_true (wo := w4) bs n1 n1 es bAB oa ob.isB hg1 kx hl1).mono ?_
  rintro e w10 ⟨rfl, hW, hk⟩
  have K : ∀ j, w6.heap.size ≤ j → j < w9.heap.size → w10.heap[j]? = w9.heap[j]? := fun j hj hj' => hk j hj' (fun g' n' c' he => by have := hpa g' n' c' he; omega)
  have ob2 := ob.keep (fun g hg hg' => K g hg hg')
  have v9 := (K _ s9 (lt_of_block t9)).trans t9
  have v2 := (hW.block _ (lt_of_block t2)).trans t2
  have v5 := (hW.block _ (lt_of_block t5)).trans t5
  have kx2 := kx.below hW
  have hB10 := below_size hB3 (Nat.le_refl _) hW
  clear K hk oa ob u2 u5 t7 t9 bAB hpa
  have htext : es = 0 → txtR bs ms = ss := fun h => by rw [← Hbs.out, ← Hms.out]; exact txtR_read ss (by rw [Hes.out]; exact h)
  have hmid : ∀ w11 : World, Below w10.heap.size w10 w11 → True := fun _ _ => trivial
  clear hmid
  by_cases hE : es = 0
  · have hss := htext hE
    subst hE
    obtain ⟨r0, r1, _, _⟩ := intVarT v9
    go_wp2_with fail
    clear r0 r1
    have hms : ms.length ≤ 140737488351232 := hmsl
    refine (given_any bs ob2.isB hms).mono ?_
    rintro e w11 ⟨g3, rfl, hg3, _, hb11⟩
    have z2a := (hb11.block _ (lt_of_block v2)).trans v2
    have kx3 := kx2.below hb11
    have hB11a := below_size hB10 (Nat.le_refl _) hb11
    go_wp2_with fail
    refine (wtext_any bs (hg3.front (ys := pad) rfl)).mono ?_
    rintro e w11b ⟨rfl, hb11b⟩
    rw [hss]
    have z2 := (hb11b.block _ (lt_of_block z2a)).trans z2a
    have kx4 := kx3.below hb11b
    have hB11 := below_size hB11a (Nat.le_refl _) hb11b
    clear hb11 hb11b z2a kx3 hB11a hg3 v9 v2 v5 hss htext
    obtain ⟨r0, r1, _, _⟩ := intVarT z2
    go_wp2_with fail
    clear r0 r1
    refine (rright_any n1 kx4).mono ?_
    rintro e w12 ⟨rfl, hb12⟩
    have y2 := (hb12.block _ (lt_of_block z2)).trans z2
    have hB12 := below_size hB11 (Nat.le_refl _) hb12
    have kx5a := kx4.below hb12
    cases hr : rightB n1 xs with
    | false =>
      go_wp2_with fail
      refine (known_true _).mono ?_
      rintro e w17 ⟨rfl, hb17⟩
      have hB17 := below_size hB12 (Nat.le_refl _) hb17
      go_wp2
      go_ret
      exact ⟨rfl, hB17⟩
    | true =>
      obtain ⟨e1, e2, e3⟩ := hrt hr
      have c33 := read_any tt w12 htb (by omega)
      rw [e1, e2, e3] at c33
      clear e1 e2 e3 hrt
      go_wp2_with fail
      refine c33.mono ?_
      rintro e w13 ⟨vc, rfl, oc, hb13⟩
      obtain ⟨pc, cc, rfl, ic0⟩ := oc.2
      have b11 := box_below w13 (.cells #[.bool n1, .slice pc xs.length cc] 25)
      have t11 := heap_alloc_new w13 (.cells #[.bool n1, .slice pc xs.length cc] 25)
      have b1311 := below_size hb13 (Nat.le_refl _) b11
      have x2 := (b1311.block _ (lt_of_block y2)).trans y2
      have kx5 := kx5a.below b1311
      have ic := ic0.below b11
      have hB14 := below_size hB12 (Nat.le_refl _) b1311
      clear c33 hb13 b11 b1311 ic0 oc
      go_wp2
      generalize hq11 : w13.alloc (.cells #[.bool n1, .slice pc xs.length cc] 25) = w14 at *
      clear hq11
      generalize w13.heap.size = i11 at *
      refine wp_region_inv2' (fun A D a w' => ∃ v59 v60 v61 v62 v63 v64 v65 v66 v67 v68 v69 v4, a = ((((((((((((A.put (some 59) v59).put (some 60) v60).put (some 61) v61).put (some 62) v62).put (some 63) v63).put (some 64) v64).put (some 65) v65).put (some 66) v66).put (some 67) v67).put (some 68) v68).put (some 69) v69).put (some 4) v4) ∧ Below w14.heap.size w14 w' ∧ (D 0 → v59 = .agg #[.bool n1, .slice pc xs.length cc]) ∧ (D 1 → v60 = .agg #[.bool n1, .slice pc xs.length cc]) ∧ (D 2 → v61 = .agg #[.bool n1, .slice a1 l1 c1]) ∧ (D 3 → v62 = .bool true) ∧ (D 4 → v63 = .bool true) ∧ (D 5 → v64 = .int .i64 0) ∧ (D 6 → v65 = .bool true) ∧ (D 7 → v66 = .bool true) ∧ (D 8 → v67 = .bool true) ∧ (D 9 → v68 = .bool true) ∧ (D 10 → v69 = .bool true) ∧ (D 11 → v4 = .bool true)) (by kernel_rfl) (by kernel_rfl) ?mono ?start ?step ?done
      case mono =>
        rintro D D' a w' hD ⟨v59, v60, v61, v62, v63, v64, v65, v66, v67, v68, v69, v4, ha, jB, e0, e1, e2, e3, e4, e5, e6, e7, e8, e9, e10, e11⟩
        exact ⟨v59, v60, v61, v62, v63, v64, v65, v66, v67, v68, v69, v4, ha, jB, fun h => e0 ((hD 0).2 h), fun h => e1 ((hD 1).2 h), fun h => e2 ((hD 2).2 h), fun h => e3 ((hD 3).2 h), fun h => e4 ((hD 4).2 h), fun h => e5 ((hD 5).2 h), fun h => e6 ((hD 6).2 h), fun h => e7 ((hD 7).2 h), fun h => e8 ((hD 8).2 h), fun h => e9 ((hD 9).2 h), fun h => e10 ((hD 10).2 h), fun h => e11 ((hD 11).2 h)⟩
      case start => exact ⟨undef, undef, undef, undef, undef, undef, undef, undef, undef, undef, undef, (.bool false), by kernel_rfl, (Below.refl _ _).drew, fun h => h.elim, fun h => h.elim, fun h => h.elim, fun h => h.elim, fun h => h.elim, fun h => h.elim, fun h => h.elim, fun h => h.elim, fun h => h.elim, fun h => h.elim, fun h => h.elim, fun h => h.elim⟩
      case step =>
        intro i o ho D a w' hI hn hcl hd
        obtain ⟨v59, v60, v61, v62, v63, v64, v65, v66, v67, v68, v69, v4, ha, jB, e0, e1, e2, e3, e4, e5, e6, e7, e8, e9, e10, e11⟩ := hI
        match i, ho with
        | 0, ho =>
          cases Option.some.inj ho
          refine ⟨rfl, ?_⟩
          have ev : a.tmps[11]?.getD undef = .pointer (some ⟨i11, 0, none⟩) := by rw [ha]; kernel_rfl
          refine wp_load_row 25 (.tmp 11) rfl i11 (eval_of ev) 25 _ _ _ ((jB.block _ (lt_of_block t11)).trans t11) Tryd.underlying25 rfl size25 ?_
          exact ⟨(.agg #[.bool n1, .slice pc xs.length cc]), v60, v61, v62, v63, v64, v65, v66, v67, v68, v69, v4, by rw [ha]; kernel_rfl, jB, fun _ => rfl, fun h => e1 (h.resolve_left (by decide)), fun h => e2 (h.resolve_left (by decide)), fun h => e3 (h.resolve_left (by decide)), fun h => e4 (h.resolve_left (by decide)), fun h => e5 (h.resolve_left (by decide)), fun h => e6 (h.resolve_left (by decide)), fun h => e7 (h.resolve_left (by decide)), fun h => e8 (h.resolve_left (by decide)), fun h => e9 (h.resolve_left (by decide)), fun h => e10 (h.resolve_left (by decide)), fun h => e11 (h.resolve_left (by decide))⟩
        | 1, ho =>
          cases Option.some.inj ho
          refine ⟨rfl, ?_⟩
          have ev : a.tmps[59]?.getD undef = .agg #[.bool n1, .slice pc xs.length cc] := by rw [ha, e0 (hd ⟨0, .data⟩ (by simp) rfl)]; kernel_rfl
          refine wp_enter (f := 12) (args := #[.agg #[.bool n1, .slice pc xs.length cc]]) (by simp [execOp, ev, go_sem]) ?_
          refine (taken_any n1 pc xs.length cc w').mono ?_
          rintro e w6 ⟨rfl, HB⟩
          refine ⟨_, rfl, ?_⟩
          exact ⟨v59, (.agg #[.bool n1, .slice pc xs.length cc]), v61, v62, v63, v64, v65, v66, v67, v68, v69, v4, by rw [ha]; kernel_rfl, below_size jB (Nat.le_refl _) HB, fun h => e0 (h.resolve_left (by decide)), fun _ => rfl, fun h => e2 (h.resolve_left (by decide)), fun h => e3 (h.resolve_left (by decide)), fun h => e4 (h.resolve_left (by decide)), fun h => e5 (h.resolve_left (by decide)), fun h => e6 (h.resolve_left (by decide)), fun h => e7 (h.resolve_left (by decide)), fun h => e8 (h.resolve_left (by decide)), fun h => e9 (h.resolve_left (by decide)), fun h => e10 (h.resolve_left (by decide)), fun h => e11 (h.resolve_left (by decide))⟩
        | 2, ho =>
          cases Option.some.inj ho
          refine ⟨rfl, ?_⟩
          have ev : a.tmps[2]?.getD undef = .pointer (some ⟨w.heap.size, 0, none⟩) := by rw [ha]; kernel_rfl
          refine wp_load_row 24 (.tmp 2) rfl w.heap.size (eval_of ev) 24 _ _ _ ((jB.block _ (lt_of_block x2)).trans x2) Tryd.underlying24 rfl size24' ?_
          exact ⟨v59, v60, (.agg #[.bool n1, .slice a1 l1 c1]), v62, v63, v64, v65, v66, v67, v68, v69, v4, by rw [ha]; kernel_rfl, jB, fun h => e0 (h.resolve_left (by decide)), fun h => e1 (h.resolve_left (by decide)), fun _ => rfl, fun h => e3 (h.resolve_left (by decide)), fun h => e4 (h.resolve_left (by decide)), fun h => e5 (h.resolve_left (by decide)), fun h => e6 (h.resolve_left (by decide)), fun h => e7 (h.resolve_left (by decide)), fun h => e8 (h.resolve_left (by decide)), fun h => e9 (h.resolve_left (by decide)), fun h => e10 (h.resolve_left (by decide)), fun h => e11 (h.resolve_left (by decide))⟩
        | 3, ho =>
          cases Option.some.inj ho
          refine ⟨rfl, ?_⟩
          have ev : a.tmps[60]?.getD undef = .agg #[.bool n1, .slice pc xs.length cc] := by rw [ha, e1 (hd ⟨1, .data⟩ (by simp) rfl)]; kernel_rfl
          have ev' : a.tmps[61]?.getD undef = .agg #[.bool n1, .slice a1 l1 c1] := by rw [ha, e2 (hd ⟨2, .data⟩ (by simp) rfl)]; kernel_rfl
          refine wp_enter (f := 11) (args := #[.agg #[.bool n1, .slice pc xs.length cc], .agg #[.bool n1, .slice a1 l1 c1]]) (by simp [execOp, ev, ev', go_sem]) ?_
          refine (same_true n1 (ic.below jB) (kx5.below jB)).mono ?_
          rintro e w6 ⟨rfl, HB⟩
          refine ⟨_, rfl, ?_⟩
          exact ⟨v59, v60, v61, (.bool true), v63, v64, v65, v66, v67, v68, v69, v4, by rw [ha]; kernel_rfl, below_size jB (Nat.le_refl _) HB, fun h => e0 (h.resolve_left (by decide)), fun h => e1 (h.resolve_left (by decide)), fun h => e2 (h.resolve_left (by decide)), fun _ => rfl, fun h => e4 (h.resolve_left (by decide)), fun h => e5 (h.resolve_left (by decide)), fun h => e6 (h.resolve_left (by decide)), fun h => e7 (h.resolve_left (by decide)), fun h => e8 (h.resolve_left (by decide)), fun h => e9 (h.resolve_left (by decide)), fun h => e10 (h.resolve_left (by decide)), fun h => e11 (h.resolve_left (by decide))⟩
        | 4, ho =>
          cases Option.some.inj ho
          refine ⟨rfl, ?_⟩
          have ev : a.tmps[62]?.getD undef = .bool true := by rw [ha, e3 (hd ⟨3, .data⟩ (by simp) rfl)]; kernel_rfl
          refine wp_value (w' := w') (v := .bool true) (by simp [execOp, ev, go_sem]) ?_
          exact ⟨v59, v60, v61, v62, (.bool true), v64, v65, v66, v67, v68, v69, v4, by rw [ha]; kernel_rfl, jB, fun h => e0 (h.resolve_left (by decide)), fun h => e1 (h.resolve_left (by decide)), fun h => e2 (h.resolve_left (by decide)), fun h => e3 (h.resolve_left (by decide)), fun _ => rfl, fun h => e5 (h.resolve_left (by decide)), fun h => e6 (h.resolve_left (by decide)), fun h => e7 (h.resolve_left (by decide)), fun h => e8 (h.resolve_left (by decide)), fun h => e9 (h.resolve_left (by decide)), fun h => e10 (h.resolve_left (by decide)), fun h => e11 (h.resolve_left (by decide))⟩
        | 5, ho =>
          cases Option.some.inj ho
          refine ⟨by rw [ha, e4 (hd ⟨4, .guard⟩ (by simp) rfl)]; kernel_rfl, ?_⟩
          have ev : a.tmps[12]?.getD undef = .int .i64 0 := by rw [ha]; kernel_rfl
          refine wp_value (w' := w') (v := .int .i64 0) (by simp [execOp, ev, go_sem]) ?_
          exact ⟨v59, v60, v61, v62, v63, (.int .i64 0), v65, v66, v67, v68, v69, v4, by rw [ha]; kernel_rfl, jB, fun h => e0 (h.resolve_left (by decide)), fun h => e1 (h.resolve_left (by decide)), fun h => e2 (h.resolve_left (by decide)), fun h => e3 (h.resolve_left (by decide)), fun h => e4 (h.resolve_left (by decide)), fun _ => rfl, fun h => e6 (h.resolve_left (by decide)), fun h => e7 (h.resolve_left (by decide)), fun h => e8 (h.resolve_left (by decide)), fun h => e9 (h.resolve_left (by decide)), fun h => e10 (h.resolve_left (by decide)), fun h => e11 (h.resolve_left (by decide))⟩
        | 6, ho =>
          cases Option.some.inj ho
          refine ⟨by rw [ha, e4 (hd ⟨4, .guard⟩ (by simp) rfl)]; kernel_rfl, ?_⟩
          have ev : a.tmps[64]?.getD undef = .int .i64 0 := by rw [ha, e5 (hd ⟨5, .data⟩ (by simp) rfl)]; kernel_rfl
          refine wp_value (w' := w') (v := .bool true) (by simp [execOp, ev, go_sem]) ?_
          exact ⟨v59, v60, v61, v62, v63, v64, (.bool true), v66, v67, v68, v69, v4, by rw [ha]; kernel_rfl, jB, fun h => e0 (h.resolve_left (by decide)), fun h => e1 (h.resolve_left (by decide)), fun h => e2 (h.resolve_left (by decide)), fun h => e3 (h.resolve_left (by decide)), fun h => e4 (h.resolve_left (by decide)), fun h => e5 (h.resolve_left (by decide)), fun _ => rfl, fun h => e7 (h.resolve_left (by decide)), fun h => e8 (h.resolve_left (by decide)), fun h => e9 (h.resolve_left (by decide)), fun h => e10 (h.resolve_left (by decide)), fun h => e11 (h.resolve_left (by decide))⟩
        | 7, ho =>
          cases Option.some.inj ho
          refine ⟨rfl, ?_⟩
          have ev : a.tmps[63]?.getD undef = .bool true := by rw [ha, e4 (hd ⟨4, .data⟩ (by simp) rfl)]; kernel_rfl
          have ev' : a.tmps[65]?.getD undef = .bool true := by rw [ha, e6 (hd ⟨6, .data⟩ (by simp) rfl)]; kernel_rfl
          refine wp_value (w' := w') (v := .bool true) (by simp [execOp, ev, ev', go_sem]) ?_
          exact ⟨v59, v60, v61, v62, v63, v64, v65, (.bool true), v67, v68, v69, v4, by rw [ha]; kernel_rfl, jB, fun h => e0 (h.resolve_left (by decide)), fun h => e1 (h.resolve_left (by decide)), fun h => e2 (h.resolve_left (by decide)), fun h => e3 (h.resolve_left (by decide)), fun h => e4 (h.resolve_left (by decide)), fun h => e5 (h.resolve_left (by decide)), fun h => e6 (h.resolve_left (by decide)), fun _ => rfl, fun h => e8 (h.resolve_left (by decide)), fun h => e9 (h.resolve_left (by decide)), fun h => e10 (h.resolve_left (by decide)), fun h => e11 (h.resolve_left (by decide))⟩
        | 8, ho =>
          cases Option.some.inj ho
          refine ⟨rfl, ?_⟩
          have ev : a.tmps[66]?.getD undef = .bool true := by rw [ha, e7 (hd ⟨7, .data⟩ (by simp) rfl)]; kernel_rfl
          refine wp_value (w' := w') (v := .bool true) (by simp [execOp, ev, go_sem]) ?_
          exact ⟨v59, v60, v61, v62, v63, v64, v65, v66, (.bool true), v68, v69, v4, by rw [ha]; kernel_rfl, jB, fun h => e0 (h.resolve_left (by decide)), fun h => e1 (h.resolve_left (by decide)), fun h => e2 (h.resolve_left (by decide)), fun h => e3 (h.resolve_left (by decide)), fun h => e4 (h.resolve_left (by decide)), fun h => e5 (h.resolve_left (by decide)), fun h => e6 (h.resolve_left (by decide)), fun h => e7 (h.resolve_left (by decide)), fun _ => rfl, fun h => e9 (h.resolve_left (by decide)), fun h => e10 (h.resolve_left (by decide)), fun h => e11 (h.resolve_left (by decide))⟩
        | 9, ho =>
          cases Option.some.inj ho
          refine ⟨by rw [ha, e8 (hd ⟨8, .guard⟩ (by simp) rfl)]; kernel_rfl, ?_⟩
          refine wp_enter (f := 20) (args := #[]) (by simp [execOp, go_sem]) ?_
          refine (known_true w').mono ?_
          rintro e w6 ⟨rfl, HB⟩
          refine ⟨_, rfl, ?_⟩
          exact ⟨v59, v60, v61, v62, v63, v64, v65, v66, v67, (.bool true), v69, v4, by rw [ha]; kernel_rfl, below_size jB (Nat.le_refl _) HB, fun h => e0 (h.resolve_left (by decide)), fun h => e1 (h.resolve_left (by decide)), fun h => e2 (h.resolve_left (by decide)), fun h => e3 (h.resolve_left (by decide)), fun h => e4 (h.resolve_left (by decide)), fun h => e5 (h.resolve_left (by decide)), fun h => e6 (h.resolve_left (by decide)), fun h => e7 (h.resolve_left (by decide)), fun h => e8 (h.resolve_left (by decide)), fun _ => rfl, fun h => e10 (h.resolve_left (by decide)), fun h => e11 (h.resolve_left (by decide))⟩
        | 10, ho =>
          cases Option.some.inj ho
          refine ⟨rfl, ?_⟩
          have ev : a.tmps[67]?.getD undef = .bool true := by rw [ha, e8 (hd ⟨8, .data⟩ (by simp) rfl)]; kernel_rfl
          have ev' : a.tmps[68]?.getD undef = .bool true := by rw [ha, e9 (hd ⟨9, .data⟩ (by simp) rfl)]; kernel_rfl
          refine wp_value (w' := w') (v := .bool true) (by simp [execOp, ev, ev', go_sem]) ?_
          exact ⟨v59, v60, v61, v62, v63, v64, v65, v66, v67, v68, (.bool true), v4, by rw [ha]; kernel_rfl, jB, fun h => e0 (h.resolve_left (by decide)), fun h => e1 (h.resolve_left (by decide)), fun h => e2 (h.resolve_left (by decide)), fun h => e3 (h.resolve_left (by decide)), fun h => e4 (h.resolve_left (by decide)), fun h => e5 (h.resolve_left (by decide)), fun h => e6 (h.resolve_left (by decide)), fun h => e7 (h.resolve_left (by decide)), fun h => e8 (h.resolve_left (by decide)), fun h => e9 (h.resolve_left (by decide)), fun _ => rfl, fun h => e11 (h.resolve_left (by decide))⟩
        | 11, ho =>
          cases Option.some.inj ho
          refine ⟨rfl, ?_⟩
          have ev : a.tmps[69]?.getD undef = .bool true := by rw [ha, e10 (hd ⟨10, .data⟩ (by simp) rfl)]; kernel_rfl
          refine wp_value (w' := w') (v := .bool true) (by simp [execOp, ev, go_sem]) ?_
          exact ⟨v59, v60, v61, v62, v63, v64, v65, v66, v67, v68, v69, (.bool true), by rw [ha]; kernel_rfl, jB, fun h => e0 (h.resolve_left (by decide)), fun h => e1 (h.resolve_left (by decide)), fun h => e2 (h.resolve_left (by decide)), fun h => e3 (h.resolve_left (by decide)), fun h => e4 (h.resolve_left (by decide)), fun h => e5 (h.resolve_left (by decide)), fun h => e6 (h.resolve_left (by decide)), fun h => e7 (h.resolve_left (by decide)), fun h => e8 (h.resolve_left (by decide)), fun h => e9 (h.resolve_left (by decide)), fun h => e10 (h.resolve_left (by decide)), fun _ => rfl⟩
        | i + 12, ho => simp at ho
      case done =>
        rintro D a w' ⟨v59, v60, v61, v62, v63, v64, v65, v66, v67, v68, v69, v4, ha, jB, e0, e1, e2, e3, e4, e5, e6, e7, e8, e9, e10, e11⟩ hall
        obtain rfl := e11 (hall 11 (by decide))
        clear e0 e1 e2 e3 e4 e5 e6 e7 e8 e9 e10 e11 hall
        have hB15 := below_size hB14 (Nat.le_refl _) jB
        rw [ha]
        clear ha
        simp only [Act.put, List.setIfInBounds_toArray, List.set_cons_zero, List.set_cons_succ]
        go_wp2
        go_ret
        exact ⟨rfl, hB15⟩
  · have hE' : (es == 0) = false := by simpa using hE
    have z2 := v2
    have kx4 := kx2
    have hB11 := hB10
    clear v9 v2 v5 htext
    obtain ⟨r0, r1, _, _⟩ := intVarT z2
    go_wp2_with fail
    clear r0 r1
    refine (rright_any n1 kx4).mono ?_
    rintro e w12 ⟨rfl, hb12⟩
    have y2 := (hb12.block _ (lt_of_block z2)).trans z2
    have hB12 := below_size hB11 (Nat.le_refl _) hb12
    have kx5a := kx4.below hb12
    cases hr : rightB n1 xs with
    | false =>
      go_wp2_with fail
      refine (known_true _).mono ?_
      rintro e w17 ⟨rfl, hb17⟩
      have hB17 := below_size hB12 (Nat.le_refl _) hb17
      go_wp2
      go_ret
      exact ⟨rfl, hB17⟩
    | true =>
      obtain ⟨e1, e2, e3⟩ := hrt hr
      have c33 := read_any tt w12 htb (by omega)
      rw [e1, e2, e3] at c33
      clear e1 e2 e3 hrt
      go_wp2_with fail
      refine c33.mono ?_
      rintro e w13 ⟨vc, rfl, oc, hb13⟩
      obtain ⟨pc, cc, rfl, ic0⟩ := oc.2
      have b11 := box_below w13 (.cells #[.bool n1, .slice pc xs.length cc] 25)
      have t11 := heap_alloc_new w13 (.cells #[.bool n1, .slice pc xs.length cc] 25)
      have b1311 := below_size hb13 (Nat.le_refl _) b11
      have x2 := (b1311.block _ (lt_of_block y2)).trans y2
      have kx5 := kx5a.below b1311
      have ic := ic0.below b11
      have hB14 := below_size hB12 (Nat.le_refl _) b1311
      clear c33 hb13 b11 b1311 ic0 oc
      go_wp2
      generalize hq11 : w13.alloc (.cells #[.bool n1, .slice pc xs.length cc] 25) = w14 at *
      clear hq11
      generalize w13.heap.size = i11 at *
      refine wp_region_inv2' (fun A D a w' => ∃ v59 v60 v61 v62 v63 v64 v65 v66 v67 v68 v69 v4, a = ((((((((((((A.put (some 59) v59).put (some 60) v60).put (some 61) v61).put (some 62) v62).put (some 63) v63).put (some 64) v64).put (some 65) v65).put (some 66) v66).put (some 67) v67).put (some 68) v68).put (some 69) v69).put (some 4) v4) ∧ Below w14.heap.size w14 w' ∧ (D 0 → v59 = .agg #[.bool n1, .slice pc xs.length cc]) ∧ (D 1 → v60 = .agg #[.bool n1, .slice pc xs.length cc]) ∧ (D 2 → v61 = .agg #[.bool n1, .slice a1 l1 c1]) ∧ (D 3 → v62 = .bool true) ∧ (D 4 → v63 = .bool true) ∧ (D 5 → v64 = .int .i64 0) ∧ (D 6 → v65 = .bool true) ∧ (D 7 → v66 = .bool true) ∧ (D 8 → v67 = .bool true) ∧ (D 9 → v68 = .bool true) ∧ (D 10 → v69 = .bool true) ∧ (D 11 → v4 = .bool true)) (by kernel_rfl) (by kernel_rfl) ?mono ?start ?step ?done
      case mono =>
        rintro D D' a w' hD ⟨v59, v60, v61, v62, v63, v64, v65, v66, v67, v68, v69, v4, ha, jB, e0, e1, e2, e3, e4, e5, e6, e7, e8, e9, e10, e11⟩
        exact ⟨v59, v60, v61, v62, v63, v64, v65, v66, v67, v68, v69, v4, ha, jB, fun h => e0 ((hD 0).2 h), fun h => e1 ((hD 1).2 h), fun h => e2 ((hD 2).2 h), fun h => e3 ((hD 3).2 h), fun h => e4 ((hD 4).2 h), fun h => e5 ((hD 5).2 h), fun h => e6 ((hD 6).2 h), fun h => e7 ((hD 7).2 h), fun h => e8 ((hD 8).2 h), fun h => e9 ((hD 9).2 h), fun h => e10 ((hD 10).2 h), fun h => e11 ((hD 11).2 h)⟩
      case start => exact ⟨undef, undef, undef, undef, undef, undef, undef, undef, undef, undef, undef, (.bool false), by kernel_rfl, (Below.refl _ _).drew, fun h => h.elim, fun h => h.elim, fun h => h.elim, fun h => h.elim, fun h => h.elim, fun h => h.elim, fun h => h.elim, fun h => h.elim, fun h => h.elim, fun h => h.elim, fun h => h.elim, fun h => h.elim⟩
      case step =>
        intro i o ho D a w' hI hn hcl hd
        obtain ⟨v59, v60, v61, v62, v63, v64, v65, v66, v67, v68, v69, v4, ha, jB, e0, e1, e2, e3, e4, e5, e6, e7, e8, e9, e10, e11⟩ := hI
        match i, ho with
        | 0, ho =>
          cases Option.some.inj ho
          refine ⟨rfl, ?_⟩
          have ev : a.tmps[11]?.getD undef = .pointer (some ⟨i11, 0, none⟩) := by rw [ha]; kernel_rfl
          refine wp_load_row 25 (.tmp 11) rfl i11 (eval_of ev) 25 _ _ _ ((jB.block _ (lt_of_block t11)).trans t11) Tryd.underlying25 rfl size25 ?_
          exact ⟨(.agg #[.bool n1, .slice pc xs.length cc]), v60, v61, v62, v63, v64, v65, v66, v67, v68, v69, v4, by rw [ha]; kernel_rfl, jB, fun _ => rfl, fun h => e1 (h.resolve_left (by decide)), fun h => e2 (h.resolve_left (by decide)), fun h => e3 (h.resolve_left (by decide)), fun h => e4 (h.resolve_left (by decide)), fun h => e5 (h.resolve_left (by decide)), fun h => e6 (h.resolve_left (by decide)), fun h => e7 (h.resolve_left (by decide)), fun h => e8 (h.resolve_left (by decide)), fun h => e9 (h.resolve_left (by decide)), fun h => e10 (h.resolve_left (by decide)), fun h => e11 (h.resolve_left (by decide))⟩
        | 1, ho =>
          cases Option.some.inj ho
          refine ⟨rfl, ?_⟩
          have ev : a.tmps[59]?.getD undef = .agg #[.bool n1, .slice pc xs.length cc] := by rw [ha, e0 (hd ⟨0, .data⟩ (by simp) rfl)]; kernel_rfl
          refine wp_enter (f := 12) (args := #[.agg #[.bool n1, .slice pc xs.length cc]]) (by simp [execOp, ev, go_sem]) ?_
          refine (taken_any n1 pc xs.length cc w').mono ?_
          rintro e w6 ⟨rfl, HB⟩
          refine ⟨_, rfl, ?_⟩
          exact ⟨v59, (.agg #[.bool n1, .slice pc xs.length cc]), v61, v62, v63, v64, v65, v66, v67, v68, v69, v4, by rw [ha]; kernel_rfl, below_size jB (Nat.le_refl _) HB, fun h => e0 (h.resolve_left (by decide)), fun _ => rfl, fun h => e2 (h.resolve_left (by decide)), fun h => e3 (h.resolve_left (by decide)), fun h => e4 (h.resolve_left (by decide)), fun h => e5 (h.resolve_left (by decide)), fun h => e6 (h.resolve_left (by decide)), fun h => e7 (h.resolve_left (by decide)), fun h => e8 (h.resolve_left (by decide)), fun h => e9 (h.resolve_left (by decide)), fun h => e10 (h.resolve_left (by decide)), fun h => e11 (h.resolve_left (by decide))⟩
        | 2, ho =>
          cases Option.some.inj ho
          refine ⟨rfl, ?_⟩
          have ev : a.tmps[2]?.getD undef = .pointer (some ⟨w.heap.size, 0, none⟩) := by rw [ha]; kernel_rfl
          refine wp_load_row 24 (.tmp 2) rfl w.heap.size (eval_of ev) 24 _ _ _ ((jB.block _ (lt_of_block x2)).trans x2) Tryd.underlying24 rfl size24' ?_
          exact ⟨v59, v60, (.agg #[.bool n1, .slice a1 l1 c1]), v62, v63, v64, v65, v66, v67, v68, v69, v4, by rw [ha]; kernel_rfl, jB, fun h => e0 (h.resolve_left (by decide)), fun h => e1 (h.resolve_left (by decide)), fun _ => rfl, fun h => e3 (h.resolve_left (by decide)), fun h => e4 (h.resolve_left (by decide)), fun h => e5 (h.resolve_left (by decide)), fun h => e6 (h.resolve_left (by decide)), fun h => e7 (h.resolve_left (by decide)), fun h => e8 (h.resolve_left (by decide)), fun h => e9 (h.resolve_left (by decide)), fun h => e10 (h.resolve_left (by decide)), fun h => e11 (h.resolve_left (by decide))⟩
        | 3, ho =>
          cases Option.some.inj ho
          refine ⟨rfl, ?_⟩
          have ev : a.tmps[60]?.getD undef = .agg #[.bool n1, .slice pc xs.length cc] := by rw [ha, e1 (hd ⟨1, .data⟩ (by simp) rfl)]; kernel_rfl
          have ev' : a.tmps[61]?.getD undef = .agg #[.bool n1, .slice a1 l1 c1] := by rw [ha, e2 (hd ⟨2, .data⟩ (by simp) rfl)]; kernel_rfl
          refine wp_enter (f := 11) (args := #[.agg #[.bool n1, .slice pc xs.length cc], .agg #[.bool n1, .slice a1 l1 c1]]) (by simp [execOp, ev, ev', go_sem]) ?_
          refine (same_true n1 (ic.below jB) (kx5.below jB)).mono ?_
          rintro e w6 ⟨rfl, HB⟩
          refine ⟨_, rfl, ?_⟩
          exact ⟨v59, v60, v61, (.bool true), v63, v64, v65, v66, v67, v68, v69, v4, by rw [ha]; kernel_rfl, below_size jB (Nat.le_refl _) HB, fun h => e0 (h.resolve_left (by decide)), fun h => e1 (h.resolve_left (by decide)), fun h => e2 (h.resolve_left (by decide)), fun _ => rfl, fun h => e4 (h.resolve_left (by decide)), fun h => e5 (h.resolve_left (by decide)), fun h => e6 (h.resolve_left (by decide)), fun h => e7 (h.resolve_left (by decide)), fun h => e8 (h.resolve_left (by decide)), fun h => e9 (h.resolve_left (by decide)), fun h => e10 (h.resolve_left (by decide)), fun h => e11 (h.resolve_left (by decide))⟩
        | 4, ho =>
          cases Option.some.inj ho
          refine ⟨rfl, ?_⟩
          have ev : a.tmps[62]?.getD undef = .bool true := by rw [ha, e3 (hd ⟨3, .data⟩ (by simp) rfl)]; kernel_rfl
          refine wp_value (w' := w') (v := .bool true) (by simp [execOp, ev, go_sem]) ?_
          exact ⟨v59, v60, v61, v62, (.bool true), v64, v65, v66, v67, v68, v69, v4, by rw [ha]; kernel_rfl, jB, fun h => e0 (h.resolve_left (by decide)), fun h => e1 (h.resolve_left (by decide)), fun h => e2 (h.resolve_left (by decide)), fun h => e3 (h.resolve_left (by decide)), fun _ => rfl, fun h => e5 (h.resolve_left (by decide)), fun h => e6 (h.resolve_left (by decide)), fun h => e7 (h.resolve_left (by decide)), fun h => e8 (h.resolve_left (by decide)), fun h => e9 (h.resolve_left (by decide)), fun h => e10 (h.resolve_left (by decide)), fun h => e11 (h.resolve_left (by decide))⟩
        | 5, ho =>
          cases Option.some.inj ho
          refine ⟨by rw [ha, e4 (hd ⟨4, .guard⟩ (by simp) rfl)]; kernel_rfl, ?_⟩
          have ev : a.tmps[12]?.getD undef = .int .i64 0 := by rw [ha]; kernel_rfl
          refine wp_value (w' := w') (v := .int .i64 0) (by simp [execOp, ev, go_sem]) ?_
          exact ⟨v59, v60, v61, v62, v63, (.int .i64 0), v65, v66, v67, v68, v69, v4, by rw [ha]; kernel_rfl, jB, fun h => e0 (h.resolve_left (by decide)), fun h => e1 (h.resolve_left (by decide)), fun h => e2 (h.resolve_left (by decide)), fun h => e3 (h.resolve_left (by decide)), fun h => e4 (h.resolve_left (by decide)), fun _ => rfl, fun h => e6 (h.resolve_left (by decide)), fun h => e7 (h.resolve_left (by decide)), fun h => e8 (h.resolve_left (by decide)), fun h => e9 (h.resolve_left (by decide)), fun h => e10 (h.resolve_left (by decide)), fun h => e11 (h.resolve_left (by decide))⟩
        | 6, ho =>
          cases Option.some.inj ho
          refine ⟨by rw [ha, e4 (hd ⟨4, .guard⟩ (by simp) rfl)]; kernel_rfl, ?_⟩
          have ev : a.tmps[64]?.getD undef = .int .i64 0 := by rw [ha, e5 (hd ⟨5, .data⟩ (by simp) rfl)]; kernel_rfl
          refine wp_value (w' := w') (v := .bool true) (by simp [execOp, ev, go_sem]) ?_
          exact ⟨v59, v60, v61, v62, v63, v64, (.bool true), v66, v67, v68, v69, v4, by rw [ha]; kernel_rfl, jB, fun h => e0 (h.resolve_left (by decide)), fun h => e1 (h.resolve_left (by decide)), fun h => e2 (h.resolve_left (by decide)), fun h => e3 (h.resolve_left (by decide)), fun h => e4 (h.resolve_left (by decide)), fun h => e5 (h.resolve_left (by decide)), fun _ => rfl, fun h => e7 (h.resolve_left (by decide)), fun h => e8 (h.resolve_left (by decide)), fun h => e9 (h.resolve_left (by decide)), fun h => e10 (h.resolve_left (by decide)), fun h => e11 (h.resolve_left (by decide))⟩
        | 7, ho =>
          cases Option.some.inj ho
          refine ⟨rfl, ?_⟩
          have ev : a.tmps[63]?.getD undef = .bool true := by rw [ha, e4 (hd ⟨4, .data⟩ (by simp) rfl)]; kernel_rfl
          have ev' : a.tmps[65]?.getD undef = .bool true := by rw [ha, e6 (hd ⟨6, .data⟩ (by simp) rfl)]; kernel_rfl
          refine wp_value (w' := w') (v := .bool true) (by simp [execOp, ev, ev', go_sem]) ?_
          exact ⟨v59, v60, v61, v62, v63, v64, v65, (.bool true), v67, v68, v69, v4, by rw [ha]; kernel_rfl, jB, fun h => e0 (h.resolve_left (by decide)), fun h => e1 (h.resolve_left (by decide)), fun h => e2 (h.resolve_left (by decide)), fun h => e3 (h.resolve_left (by decide)), fun h => e4 (h.resolve_left (by decide)), fun h => e5 (h.resolve_left (by decide)), fun h => e6 (h.resolve_left (by decide)), fun _ => rfl, fun h => e8 (h.resolve_left (by decide)), fun h => e9 (h.resolve_left (by decide)), fun h => e10 (h.resolve_left (by decide)), fun h => e11 (h.resolve_left (by decide))⟩
        | 8, ho =>
          cases Option.some.inj ho
          refine ⟨rfl, ?_⟩
          have ev : a.tmps[66]?.getD undef = .bool true := by rw [ha, e7 (hd ⟨7, .data⟩ (by simp) rfl)]; kernel_rfl
          refine wp_value (w' := w') (v := .bool true) (by simp [execOp, ev, go_sem]) ?_
          exact ⟨v59, v60, v61, v62, v63, v64, v65, v66, (.bool true), v68, v69, v4, by rw [ha]; kernel_rfl, jB, fun h => e0 (h.resolve_left (by decide)), fun h => e1 (h.resolve_left (by decide)), fun h => e2 (h.resolve_left (by decide)), fun h => e3 (h.resolve_left (by decide)), fun h => e4 (h.resolve_left (by decide)), fun h => e5 (h.resolve_left (by decide)), fun h => e6 (h.resolve_left (by decide)), fun h => e7 (h.resolve_left (by decide)), fun _ => rfl, fun h => e9 (h.resolve_left (by decide)), fun h => e10 (h.resolve_left (by decide)), fun h => e11 (h.resolve_left (by decide))⟩
        | 9, ho =>
          cases Option.some.inj ho
          refine ⟨by rw [ha, e8 (hd ⟨8, .guard⟩ (by simp) rfl)]; kernel_rfl, ?_⟩
          refine wp_enter (f := 20) (args := #[]) (by simp [execOp, go_sem]) ?_
          refine (known_true w').mono ?_
          rintro e w6 ⟨rfl, HB⟩
          refine ⟨_, rfl, ?_⟩
          exact ⟨v59, v60, v61, v62, v63, v64, v65, v66, v67, (.bool true), v69, v4, by rw [ha]; kernel_rfl, below_size jB (Nat.le_refl _) HB, fun h => e0 (h.resolve_left (by decide)), fun h => e1 (h.resolve_left (by decide)), fun h => e2 (h.resolve_left (by decide)), fun h => e3 (h.resolve_left (by decide)), fun h => e4 (h.resolve_left (by decide)), fun h => e5 (h.resolve_left (by decide)), fun h => e6 (h.resolve_left (by decide)), fun h => e7 (h.resolve_left (by decide)), fun h => e8 (h.resolve_left (by decide)), fun _ => rfl, fun h => e10 (h.resolve_left (by decide)), fun h => e11 (h.resolve_left (by decide))⟩
        | 10, ho =>
          cases Option.some.inj ho
          refine ⟨rfl, ?_⟩
          have ev : a.tmps[67]?.getD undef = .bool true := by rw [ha, e8 (hd ⟨8, .data⟩ (by simp) rfl)]; kernel_rfl
          have ev' : a.tmps[68]?.getD undef = .bool true := by rw [ha, e9 (hd ⟨9, .data⟩ (by simp) rfl)]; kernel_rfl
          refine wp_value (w' := w') (v := .bool true) (by simp [execOp, ev, ev', go_sem]) ?_
          exact ⟨v59, v60, v61, v62, v63, v64, v65, v66, v67, v68, (.bool true), v4, by rw [ha]; kernel_rfl, jB, fun h => e0 (h.resolve_left (by decide)), fun h => e1 (h.resolve_left (by decide)), fun h => e2 (h.resolve_left (by decide)), fun h => e3 (h.resolve_left (by decide)), fun h => e4 (h.resolve_left (by decide)), fun h => e5 (h.resolve_left (by decide)), fun h => e6 (h.resolve_left (by decide)), fun h => e7 (h.resolve_left (by decide)), fun h => e8 (h.resolve_left (by decide)), fun h => e9 (h.resolve_left (by decide)), fun _ => rfl, fun h => e11 (h.resolve_left (by decide))⟩
        | 11, ho =>
          cases Option.some.inj ho
          refine ⟨rfl, ?_⟩
          have ev : a.tmps[69]?.getD undef = .bool true := by rw [ha, e10 (hd ⟨10, .data⟩ (by simp) rfl)]; kernel_rfl
          refine wp_value (w' := w') (v := .bool true) (by simp [execOp, ev, go_sem]) ?_
          exact ⟨v59, v60, v61, v62, v63, v64, v65, v66, v67, v68, v69, (.bool true), by rw [ha]; kernel_rfl, jB, fun h => e0 (h.resolve_left (by decide)), fun h => e1 (h.resolve_left (by decide)), fun h => e2 (h.resolve_left (by decide)), fun h => e3 (h.resolve_left (by decide)), fun h => e4 (h.resolve_left (by decide)), fun h => e5 (h.resolve_left (by decide)), fun h => e6 (h.resolve_left (by decide)), fun h => e7 (h.resolve_left (by decide)), fun h => e8 (h.resolve_left (by decide)), fun h => e9 (h.resolve_left (by decide)), fun h => e10 (h.resolve_left (by decide)), fun _ => rfl⟩
        | i + 12, ho => simp at ho
      case done =>
        rintro D a w' ⟨v59, v60, v61, v62, v63, v64, v65, v66, v67, v68, v69, v4, ha, jB, e0, e1, e2, e3, e4, e5, e6, e7, e8, e9, e10, e11⟩ hall
        obtain rfl := e11 (hall 11 (by decide))
        clear e0 e1 e2 e3 e4 e5 e6 e7 e8 e9 e10 e11 hall
        have hB15 := below_size hB14 (Nat.le_refl _) jB
        rw [ha]
        clear ha
        simp only [Act.put, List.setIfInBounds_toArray, List.set_cons_zero, List.set_cons_succ]
        go_wp2
        go_ret
        exact ⟨rfl, hB15⟩
end Go.Proofs.YtgammgdckneoiabDoor
