/- places.put: a commit at some keys. -/
import Derived.Test.YtigmpmichhghdaaPla
namespace Go.Proofs.Ytigmpmichhghdaa
open Go.RowKit
set_option maxRecDepth 100000
/-- Between two keys. -/
structure Mid (w : World) (S : Nat → Prop) (bp mb : Nat) (wr : World) (g : Int → List Int) : Prop where
  cell : wr.cell? ⟨bp, 0, none⟩ = some (.map (some mb))
  m : ∃ F, PlM wr (fun b => S b ∨ w.heap.size ≤ b) mb F g
  ty : ∃ cs t, wr.heap[bp]? = some (.cells cs t (0, 0)) ∧ t ≠ 2
  own : S bp
  fp : Fp S w wr
  kc : KeepC bp w wr
theorem Mid.pl {w : World} {S : Nat → Prop} {bp mb : Nat} {wr : World} {g : Int → List Int} (h : Mid w S bp mb wr g) : Pl wr (fun b => S b ∨ w.heap.size ≤ b) bp g := ⟨⟨some mb, h.cell, h.m⟩, .inl h.own, h.ty⟩
theorem IsMap.below' {w w1 w2 : World} {b : Nat} {f : Int → Option Value} {r : Option Nat} (h : IsMap w b f) (h1 : Below w.heap.size w w1) (h2 : w1.grownBy w2 r) (hr : r ≠ some b) : IsMap w2 b f :=
  h.same ((h2.block b (Nat.lt_of_lt_of_le h.lt h1.size) (fun e => hr e.symm)).trans (h1.block b h.lt))
theorem PlM.row_ne {w : World} {S : Nat → Prop} {mb : Nat} {F : Int → Option Value} {f : Int → List Int} {x : Int} {va : Option Addr} {vn vc : Nat} (h : PlM w S mb F f) (hv : (F x).getD (.slice none 0 0) = .slice va vn vc) : (Value.slice va vn vc).ownBlock ≠ some mb := by
  intro e
  cases hF : F x with
  | none => rw [hF] at hv; cases hv; cases e
  | some u =>
    rw [hF] at hv
    cases hv
    obtain ⟨_, cur, hc⟩ := own_block (h.yes x _ hF).1.1 e
    obtain ⟨L, c, hL, _⟩ := h.map
    rw [hL] at hc
    cases hc
theorem Mid.step {w : World} {S : Nat → Prop} {bp mb k : Nat} {wr wp w6 w' : World} {c x : Int} {ks : List Int} {f : Int → List Int} {F : Int → Option Value} {va a8 : Option Addr} {vn vc n8 c8 : Nat} {l : List Int}
    (M : Mid w S bp mb wr (putF c (ks.take k) f)) (hx : ks[k]? = some x) (hbp : Below wr.heap.size wr wp) (gp : wp.grownBy w6 (Value.slice va vn vc).ownBlock) (O : OwnI w6 0 (.slice a8 n8 c8) (l ++ [c]))
    (hat : ∀ g, (Value.slice a8 n8 c8).ownBlock = some g → (Value.slice va vn vc).ownBlock = some g ∨ wp.heap.size ≤ g) (M7 : IsMap w' mb (fun i => if i = x then some (.slice a8 n8 c8) else F i)) (g7 : w6.grownBy w' (some mb))
    (hC : w'.heap[bp]? = wr.heap[bp]?) (hM : PlM wr (fun b => S b ∨ w.heap.size ≤ b) mb F (putF c (ks.take k) f)) (hv : (F x).getD (.slice none 0 0) = .slice va vn vc) (hl : putF c (ks.take k) f x = l ∧ addL c l = l ++ [c]) :
    Mid w S bp mb w' (putF c (ks.take (k + 1)) f) := by
  have hMp := hM.same (S' := fun b => S b ∨ w.heap.size ≤ b) (fun _ h => h) (fun b hb _ => hbp.block b hb)
  have hN : ∀ b, wp.heap.size ≤ b → (S b ∨ w.heap.size ≤ b) := fun b hb => .inr (Nat.le_trans (Nat.le_trans M.fp.size hbp.size) hb)
  have hU := hMp.upd hv gp O (by simp) hat M7 g7 (fun _ h => h) hN
  have e : (fun o => if o = x then l ++ [c] else putF c (ks.take k) f o) = putF c (ks.take (k + 1)) f := by
    rw [take_at hx, putF_snoc]
    funext o
    by_cases h : o = x
    · subst h
      simp only [if_true]
      rw [hl.1, hl.2]
    · simp [h]
  rw [e] at hU
  refine ⟨(cell_eq hC).trans M.cell, ⟨_, hU⟩, ?_, M.own, ?_, M.kc.trans (KeepC.of_eq hC)⟩
  · obtain ⟨cs, t, hb, ht⟩ := M.ty
    exact ⟨cs, t, hC.trans hb, ht⟩
  · refine M.fp.trans ⟨g7.os.trans (gp.os.trans hbp.os), g7.tape.trans (gp.tape.trans hbp.tape), g7.output.trans (gp.output.trans hbp.output), Nat.le_trans hbp.size (Nat.le_trans gp.size g7.size), fun b hb hs => ?_⟩
    have h1 : b < wp.heap.size := Nat.lt_of_lt_of_le hb hbp.size
    have h2 : b < w6.heap.size := Nat.lt_of_lt_of_le h1 gp.size
    refine (g7.block b h2 (fun e => hs (by cases e; exact hM.own))).trans ((gp.block b h1 (fun e => hs ?_)).trans (hbp.block b hb))
    cases hF : F x with
    | none => rw [hF] at hv; cases hv; cases e
    | some u =>
      rw [hF] at hv
      cases hv
      exact (hM.yes x _ hF).2.2 b e.symm
set_option maxHeartbeats 8000000 in
theorem put_any {w : World} {S : Nat → Prop} {bp : Nat} {f : Int → List Int} {ka : Option Addr} {kn kc : Nat} {ks : List Int} (c : Int) (hc64 : I64 c) (P : Pl w S bp f) (hk : IsI w ka kn kc ks) (hap : ∀ b off, ka = some ⟨b, off, none⟩ → 0 < kn → ¬ S b) (hkn : kn ≤ 1048576) (hfl : ∀ o, (f o).length ≤ 900000000) :
    Calls Try.prog 32 #[.pointer (some ⟨bp, 0, none⟩), .int .i64 c, .slice ka kn kc] w fun e w' => e = .returned (.tuple #[]) ∧ Pl w' (fun b => S b ∨ w.heap.size ≤ b) bp (putF c ks f) ∧ Fp S w w' ∧ KeepC bp w w' := by
  have hmm := @run_makeMap Try.prog
  have hem := fun (r : Option Nat) (w : World) => run_eql_map_nil (P := Try.prog) w 61 2 23 r Try.underlying61
  obtain ⟨⟨mv, hcv, hV⟩, hSb, hty⟩ := id P
  have hfr := P.fro
  have P1 := P.below (box_below (o := .map #[] 0))
  have hfr1 := P1.fro
  have hcv1 : (w.alloc (.map #[] 0)).cell? ⟨bp, 0, none⟩ = some (.map mv) := ((box_below (o := .map #[] 0)).cell (p := ⟨bp, 0, none⟩) P.lt).trans hcv
  go_enter Try.func32, Try.ntmps32
  go_upto_if 13 with fail
  go_cut [] from 13 to 17 (fun wx => ∃ mb, Mid w S bp mb wx (putF c (ks.take 0) f))
  case first =>
    cases mv with
    | none =>
      go_wp2
      go_meet
      have hbw := (Below.heap_alloc w (.map #[] 0) bp P.lt)
      obtain ⟨cs, t, hb, ht⟩ := hty
      have hb1 := hbw.trans hb
      have hs1 := heap_setCell_same (w.alloc (.map #[] 0)) bp 0 cs t (.map (some w.heap.size)) hb1
      have hc0 : 0 < cs.size := by
        have := hcv
        rw [cell_of_row w bp 0 _ _ _ hb] at this
        exact (Array.getElem?_eq_some_iff.1 this).1
      have hms : ((w.alloc (.map #[] 0)).setCell ⟨bp, 0, none⟩ (.map (some w.heap.size))).heap[w.heap.size]? = (w.alloc (.map #[] 0)).heap[w.heap.size]? := heap_setCell_other _ ⟨bp, 0, none⟩ _ _ (by have := P.lt; show w.heap.size ≠ bp; omega)
      refine ⟨w.heap.size, ?_, ⟨_, (IsMap.made w).same hms, .inr (Nat.le_refl _), fun k _ => ?_, (fun k v hv => (by cases hv)), (fun k k' v v' g hv => (by cases hv))⟩, ⟨_, t, hs1, ht⟩, hSb, ⟨rfl, rfl, rfl, by simp, fun b hb' hS => ?_⟩, fun cs' t' hb' => ?_⟩
      · rw [cell_of_row _ bp 0 _ _ _ hs1]
        simp [hc0]
      · rw [List.take_zero, putF_nil]
        exact hV k
      · exact (heap_setCell_other _ ⟨bp, 0, none⟩ b _ (fun e => hS (by show S b; rw [show b = bp from e]; exact hSb))).trans (Below.heap_alloc _ _ _ hb')
      · rw [hb] at hb'
        cases hb'
        exact ⟨_, hs1⟩
    | some mb =>
      go_wp2
      go_meet
      refine ⟨mb, hcv, ?_, hty, hSb, Fp.refl _ _, KeepC.of_eq rfl⟩
      rw [List.take_zero, putF_nil]
      obtain ⟨F, hF⟩ := hV
      exact ⟨F, hF.same (fun _ h => .inl h) (fun _ _ _ => rfl)⟩
  case rest =>
    obtain ⟨mb, M0⟩ := hcut
    clear hcv hV hfr hty hcv1 hfr1 P1 hem hmm
    have hkn' : kn ≤ 9223372036854775807 := by omega
    have hSb' := hSb
    go_wp2
    go_loopw [20] (fun iv wr' => ∃ k : Nat, k ≤ kn ∧ iv = .int .i64 (k : Int) ∧ Mid w S bp mb wr' (putF c (ks.take k) f)) (fun iv _ => kn - (intOf iv).toNat)
    case atStart => exact ⟨0, by omega, rfl, M0⟩
    case round =>
    obtain ⟨k, hk', rfl, M⟩ := hrel
    by_cases hlt : k < kn
    · have hkI := hk.fp M.fp hap
      obtain ⟨b, off, x, rfl, hbl0, cx, hx, hx64⟩ := hkI.at_ k hlt
      obtain ⟨F, hM⟩ := M.m
      obtain ⟨va, vn, vc, hvF, OV⟩ := hM.get x
      obtain ⟨cs, t, hbt, htt⟩ := M.ty
      have hcell := M.cell
      have hlk := hM.map.lookup (P := Try.prog) (t := 61) Try.underlying61 Try.underlying2 (z := .slice none 0 0) (Try.zeroValue23 wr) x
      rw [hvF] at hlk
      replace hvF : Hid ((F x).getD (.slice none 0 0) = .slice va vn vc) := hvF
      have hbl : bp < wr.heap.size := lt_of_block hbt
      have hbm : bp ≠ mb := fun e => by
        obtain ⟨L, q, hL, _⟩ := hM.map
        rw [← e, hbt] at hL
        cases hL
      have hrowM := hM.row_ne hvF.out
      have hlen : (putF c (ks.take k) f x).length ≤ 1000000000 := by
        have h1 := hfl x
        have h2 := addL_len c (f x)
        unfold putF
        split <;> omega
      obtain ⟨l, hl⟩ : ∃ l, Hid (putF c (ks.take k) f x = l) := ⟨_, rfl⟩
      rw [hl.out] at OV hlen
      have hvn : Hid (vn = l.length) := by obtain ⟨_, _, _, e, h⟩ := OV.shape; cases e; exact h
      have hvn0 : vn ≤ 9223372036854775807 := by rw [hvn.out]; omega
      clear hk hkI M0
      rcases Nat.eq_zero_or_pos vn with h0 | hpos
      · have hl0 : Hid (l = []) := List.eq_nil_of_length_eq_zero (by rw [← hvn.out]; exact h0)
        subst h0
        have hll : Hid (putF c (ks.take k) f x = l ∧ addL c l = l ++ [c]) := ⟨hl.out, by rw [hl0.out]; rfl⟩
        clear hl0
        go_upto_region 7 with fail
        refine wp_region_inv' (fun A D a w' => ∃ v43 v44 v45 v46 v47 v48 v49 v50 v51 nb a8 n8 c8, a = (((((((((A.put (some 43) v43).put (some 44) v44).put (some 45) v45).put (some 46) v46).put (some 47) v47).put (some 48) v48).put (some 49) v49).put (some 50) v50).put (some 51) v51) ∧ w'.heap[bp]? = wr.heap[bp]? ∧ (D 8 ∨ Below wr.heap.size wr w') ∧ (D 0 → v43 = .pointer (some ⟨bp, 0, none⟩)) ∧ (D 1 → v44 = .pointer (some ⟨bp, 0, none⟩)) ∧ (D 2 → v45 = .pointer (some ⟨bp, 0, none⟩)) ∧ (D 3 → v46 = .map (some mb)) ∧ (D 4 → v47 = .int .i64 x) ∧ (D 5 → v48 = .slice va 0 vc) ∧ (D 6 → v49 = .int .i64 c) ∧ (D 7 → v50 = .slice (some ⟨nb, 0, none⟩) 1 1) ∧ (D 8 → v51 = .slice a8 n8 c8) ∧ (D 9 → ∃ wp w6 : World, Below wr.heap.size wr wp ∧ wp.grownBy w6 (Value.slice va 0 vc).ownBlock ∧ OwnI w6 0 (.slice a8 n8 c8) (l ++ [c]) ∧ (∀ g, (Value.slice a8 n8 c8).ownBlock = some g → (Value.slice va 0 vc).ownBlock = some g ∨ wp.heap.size ≤ g) ∧ IsMap w' mb (fun i => if i = x then some (.slice a8 n8 c8) else F i) ∧ w6.grownBy w' (some mb)) ∧ (D 7 → ¬ D 8 → w'.cell? ⟨nb, 0, none⟩ = some (.int .i64 c)) ∧ (D 8 → ¬ D 9 → ∃ wp, Below wr.heap.size wr wp ∧ wp.grownBy w' (Value.slice va 0 vc).ownBlock ∧ OwnI w' 0 (.slice a8 n8 c8) (l ++ [c]) ∧ (∀ g, (Value.slice a8 n8 c8).ownBlock = some g → (Value.slice va 0 vc).ownBlock = some g ∨ wp.heap.size ≤ g))) (by kernel_rfl) (by kernel_rfl) ?mono ?start ?step ?done
        case mono =>
          rintro D D' a w' hD ⟨v43, v44, v45, v46, v47, v48, v49, v50, v51, nb, a8, n8, c8, ha, hC, hB, e0, e1, e2, e3, e4, e5, e6, e7, e8, hQ, hLit, hA⟩
          exact ⟨v43, v44, v45, v46, v47, v48, v49, v50, v51, nb, a8, n8, c8, ha, hC, hB.imp_left (hD 8).1, fun h => e0 ((hD 0).2 h), fun h => e1 ((hD 1).2 h), fun h => e2 ((hD 2).2 h), fun h => e3 ((hD 3).2 h), fun h => e4 ((hD 4).2 h), fun h => e5 ((hD 5).2 h), fun h => e6 ((hD 6).2 h), fun h => e7 ((hD 7).2 h), fun h => e8 ((hD 8).2 h), fun h => hQ ((hD 9).2 h), fun h h' => hLit ((hD 7).2 h) (fun k => h' ((hD 8).1 k)), fun h h' => hA ((hD 8).2 h) (fun k => h' ((hD 9).1 k))⟩
        case start => exact ⟨u43, u44, u45, u46, u47, u48, u49, u50, u51, 0, none, 0, 0, by kernel_rfl, rfl, .inr ((Below.refl _ _).drew), fun h => h.elim, fun h => h.elim, fun h => h.elim, fun h => h.elim, fun h => h.elim, fun h => h.elim, fun h => h.elim, fun h => h.elim, fun h => h.elim, fun h => h.elim, fun h _ => h.elim, fun h _ => h.elim⟩
        case step =>
          intro i o ho D a w' hI hn hcl hd
          obtain ⟨v43, v44, v45, v46, v47, v48, v49, v50, v51, nb, a8, n8, c8, ha, hC, hB, e0, e1, e2, e3, e4, e5, e6, e7, e8, hQ, hLit, hA⟩ := hI
          match i, ho with
          | 0, ho =>
            cases Option.some.inj ho
            have ev : a.tmps[0]?.getD undef = .pointer (some ⟨bp, 0, none⟩) := by rw [ha]; kernel_rfl
            refine wp_value (w' := w') (v := .pointer (some ⟨bp, 0, none⟩)) (by simp [execOp, ev, go_sem]) ?_
            exact ⟨(.pointer (some ⟨bp, 0, none⟩)), v44, v45, v46, v47, v48, v49, v50, v51, nb, a8, n8, c8, by rw [ha]; kernel_rfl, hC, hB.imp_left .inr, fun _ => rfl, fun h => e1 (h.resolve_left (by decide)), fun h => e2 (h.resolve_left (by decide)), fun h => e3 (h.resolve_left (by decide)), fun h => e4 (h.resolve_left (by decide)), fun h => e5 (h.resolve_left (by decide)), fun h => e6 (h.resolve_left (by decide)), fun h => e7 (h.resolve_left (by decide)), fun h => e8 (h.resolve_left (by decide)), fun h => hQ (h.resolve_left (by decide)), fun h h' => hLit (h.resolve_left (by decide)) (fun k => h' (.inr k)), fun h h' => hA (h.resolve_left (by decide)) (fun k => h' (.inr k))⟩
          | 1, ho =>
            cases Option.some.inj ho
            have ev : a.tmps[43]?.getD undef = .pointer (some ⟨bp, 0, none⟩) := by rw [ha, e0 (hd ⟨0, .data⟩ (by simp) rfl)]; kernel_rfl
            refine wp_value (w' := w') (v := .pointer (some ⟨bp, 0, none⟩)) (by simp [execOp, ev, go_sem]) ?_
            exact ⟨v43, (.pointer (some ⟨bp, 0, none⟩)), v45, v46, v47, v48, v49, v50, v51, nb, a8, n8, c8, by rw [ha]; kernel_rfl, hC, hB.imp_left .inr, fun h => e0 (h.resolve_left (by decide)), fun _ => rfl, fun h => e2 (h.resolve_left (by decide)), fun h => e3 (h.resolve_left (by decide)), fun h => e4 (h.resolve_left (by decide)), fun h => e5 (h.resolve_left (by decide)), fun h => e6 (h.resolve_left (by decide)), fun h => e7 (h.resolve_left (by decide)), fun h => e8 (h.resolve_left (by decide)), fun h => hQ (h.resolve_left (by decide)), fun h h' => hLit (h.resolve_left (by decide)) (fun k => h' (.inr k)), fun h h' => hA (h.resolve_left (by decide)) (fun k => h' (.inr k))⟩
          | 2, ho =>
            cases Option.some.inj ho
            have ev : a.tmps[44]?.getD undef = .pointer (some ⟨bp, 0, none⟩) := by rw [ha, e1 (hd ⟨1, .data⟩ (by simp) rfl)]; kernel_rfl
            refine wp_value (w' := w') (v := .pointer (some ⟨bp, 0, none⟩)) (by simp [execOp, ev, go_sem]) ?_
            exact ⟨v43, v44, (.pointer (some ⟨bp, 0, none⟩)), v46, v47, v48, v49, v50, v51, nb, a8, n8, c8, by rw [ha]; kernel_rfl, hC, hB.imp_left .inr, fun h => e0 (h.resolve_left (by decide)), fun h => e1 (h.resolve_left (by decide)), fun _ => rfl, fun h => e3 (h.resolve_left (by decide)), fun h => e4 (h.resolve_left (by decide)), fun h => e5 (h.resolve_left (by decide)), fun h => e6 (h.resolve_left (by decide)), fun h => e7 (h.resolve_left (by decide)), fun h => e8 (h.resolve_left (by decide)), fun h => hQ (h.resolve_left (by decide)), fun h h' => hLit (h.resolve_left (by decide)) (fun k => h' (.inr k)), fun h h' => hA (h.resolve_left (by decide)) (fun k => h' (.inr k))⟩
          | 3, ho =>
            cases Option.some.inj ho
            have ev : a.tmps[45]?.getD undef = .pointer (some ⟨bp, 0, none⟩) := by rw [ha, e2 (hd ⟨2, .data⟩ (by simp) rfl)]; kernel_rfl
            have hcc := (cell_eq hC).trans hcell
            refine wp_value (w' := w') (v := .map (some mb)) (by simp [execOp, ev, go_sem, hcc]) ?_
            exact ⟨v43, v44, v45, (.map (some mb)), v47, v48, v49, v50, v51, nb, a8, n8, c8, by rw [ha]; kernel_rfl, hC, hB.imp_left .inr, fun h => e0 (h.resolve_left (by decide)), fun h => e1 (h.resolve_left (by decide)), fun h => e2 (h.resolve_left (by decide)), fun _ => rfl, fun h => e4 (h.resolve_left (by decide)), fun h => e5 (h.resolve_left (by decide)), fun h => e6 (h.resolve_left (by decide)), fun h => e7 (h.resolve_left (by decide)), fun h => e8 (h.resolve_left (by decide)), fun h => hQ (h.resolve_left (by decide)), fun h h' => hLit (h.resolve_left (by decide)) (fun k => h' (.inr k)), fun h h' => hA (h.resolve_left (by decide)) (fun k => h' (.inr k))⟩
          | 4, ho =>
            cases Option.some.inj ho
            have ev : a.tmps[7]?.getD undef = .int .i64 x := by rw [ha]; kernel_rfl
            refine wp_value (w' := w') (v := .int .i64 x) (by simp [execOp, ev, go_sem]) ?_
            exact ⟨v43, v44, v45, v46, (.int .i64 x), v48, v49, v50, v51, nb, a8, n8, c8, by rw [ha]; kernel_rfl, hC, hB.imp_left .inr, fun h => e0 (h.resolve_left (by decide)), fun h => e1 (h.resolve_left (by decide)), fun h => e2 (h.resolve_left (by decide)), fun h => e3 (h.resolve_left (by decide)), fun _ => rfl, fun h => e5 (h.resolve_left (by decide)), fun h => e6 (h.resolve_left (by decide)), fun h => e7 (h.resolve_left (by decide)), fun h => e8 (h.resolve_left (by decide)), fun h => hQ (h.resolve_left (by decide)), fun h h' => hLit (h.resolve_left (by decide)) (fun k => h' (.inr k)), fun h h' => hA (h.resolve_left (by decide)) (fun k => h' (.inr k))⟩
          | 5, ho =>
            cases Option.some.inj ho
            have ev : a.tmps[8]?.getD undef = .slice va 0 vc := by rw [ha]; kernel_rfl
            refine wp_value (w' := w') (v := .slice va 0 vc) (by simp [execOp, ev, go_sem]) ?_
            exact ⟨v43, v44, v45, v46, v47, (.slice va 0 vc), v49, v50, v51, nb, a8, n8, c8, by rw [ha]; kernel_rfl, hC, hB.imp_left .inr, fun h => e0 (h.resolve_left (by decide)), fun h => e1 (h.resolve_left (by decide)), fun h => e2 (h.resolve_left (by decide)), fun h => e3 (h.resolve_left (by decide)), fun h => e4 (h.resolve_left (by decide)), fun _ => rfl, fun h => e6 (h.resolve_left (by decide)), fun h => e7 (h.resolve_left (by decide)), fun h => e8 (h.resolve_left (by decide)), fun h => hQ (h.resolve_left (by decide)), fun h h' => hLit (h.resolve_left (by decide)) (fun k => h' (.inr k)), fun h h' => hA (h.resolve_left (by decide)) (fun k => h' (.inr k))⟩
          | 6, ho =>
            cases Option.some.inj ho
            have ev : a.tmps[1]?.getD undef = .int .i64 c := by rw [ha]; kernel_rfl
            refine wp_value (w' := w') (v := .int .i64 c) (by simp [execOp, ev, go_sem]) ?_
            exact ⟨v43, v44, v45, v46, v47, v48, (.int .i64 c), v50, v51, nb, a8, n8, c8, by rw [ha]; kernel_rfl, hC, hB.imp_left .inr, fun h => e0 (h.resolve_left (by decide)), fun h => e1 (h.resolve_left (by decide)), fun h => e2 (h.resolve_left (by decide)), fun h => e3 (h.resolve_left (by decide)), fun h => e4 (h.resolve_left (by decide)), fun h => e5 (h.resolve_left (by decide)), fun _ => rfl, fun h => e7 (h.resolve_left (by decide)), fun h => e8 (h.resolve_left (by decide)), fun h => hQ (h.resolve_left (by decide)), fun h h' => hLit (h.resolve_left (by decide)) (fun k => h' (.inr k)), fun h h' => hA (h.resolve_left (by decide)) (fun k => h' (.inr k))⟩
          | 7, ho =>
            cases Option.some.inj ho
            have ev : a.tmps[49]?.getD undef = .int .i64 c := by rw [ha, e6 (hd ⟨6, .data⟩ (by simp) rfl)]; kernel_rfl
            refine wp_value (w' := w'.alloc (.cells #[.int .i64 c] 2)) (v := .slice (some ⟨w'.heap.size, 0, none⟩) 1 1) (by simp [execOp, ev, go_sem]) ?_
            exact ⟨v43, v44, v45, v46, v47, v48, v49, (.slice (some ⟨w'.heap.size, 0, none⟩) 1 1), v51, w'.heap.size, a8, n8, c8, by rw [ha]; kernel_rfl, (Below.heap_alloc _ _ _ (Nat.lt_of_lt_of_le hbl (hB.resolve_left (fun h => hn (hcl 8 _ rfl h ⟨7, .data⟩ (by simp) rfl))).size)).trans hC, hB.imp .inr (fun h => below_size h h.size box_below), fun h => e0 (h.resolve_left (by decide)), fun h => e1 (h.resolve_left (by decide)), fun h => e2 (h.resolve_left (by decide)), fun h => e3 (h.resolve_left (by decide)), fun h => e4 (h.resolve_left (by decide)), fun h => e5 (h.resolve_left (by decide)), fun h => e6 (h.resolve_left (by decide)), fun _ => rfl, fun h => absurd (h.resolve_left (by decide)) (fun h => hn (hcl 8 _ rfl h ⟨7, .data⟩ (by simp) rfl)), fun h => absurd (h.resolve_left (by decide)) (fun h => (fun h => hn (hcl 8 _ rfl h ⟨7, .data⟩ (by simp) rfl)) (hcl 9 _ rfl h ⟨8, .data⟩ (by simp) rfl)), fun _ _ => by simp, fun h _ => absurd (h.resolve_left (by decide)) (fun h => hn (hcl 8 _ rfl h ⟨7, .data⟩ (by simp) rfl))⟩
          | 8, ho =>
            cases Option.some.inj ho
            have ev : a.tmps[48]?.getD undef = .slice va 0 vc := by rw [ha, e5 (hd ⟨5, .data⟩ (by simp) rfl)]; kernel_rfl
            have ev' : a.tmps[50]?.getD undef = .slice (some ⟨nb, 0, none⟩) 1 1 := by rw [ha, e7 (hd ⟨7, .data⟩ (by simp) rfl)]; kernel_rfl
            have hb := hB.resolve_left hn
            have hL := hLit (hd ⟨7, .data⟩ (by simp) rfl) hn
            obtain ⟨a8', n8', c8', w6, hr6, O6, g6, at6⟩ := append_at w' 23 0 _ _ (OV.below hb) c hc64 nb hL hlen (Nat.zero_le _)
            refine Lib.wp_append_run w' (.tmp 48) (.tmp 50) 23 23 rfl _ _ (by simpa [Act.eval] using ev) (by simpa [Act.eval] using ev') _ w6 hr6 ?_
            exact ⟨v43, v44, v45, v46, v47, v48, v49, v50, (.slice a8' n8' c8'), nb, a8', n8', c8', by rw [ha]; kernel_rfl, (g6.block bp (Nat.lt_of_lt_of_le hbl hb.size) (fun e => own_ne (OV.below hb).1 (hC.trans hbt) htt e.symm)).trans hC, .inl (.inl rfl), fun h => e0 (h.resolve_left (by decide)), fun h => e1 (h.resolve_left (by decide)), fun h => e2 (h.resolve_left (by decide)), fun h => e3 (h.resolve_left (by decide)), fun h => e4 (h.resolve_left (by decide)), fun h => e5 (h.resolve_left (by decide)), fun h => e6 (h.resolve_left (by decide)), fun h => e7 (h.resolve_left (by decide)), fun _ => rfl, fun h => absurd (h.resolve_left (by decide)) (fun h => hn (hcl 9 _ rfl h ⟨8, .data⟩ (by simp) rfl)), fun _ h' => absurd (.inl rfl) h', fun _ _ => ⟨w', hb, g6, O6, at6⟩⟩
          | 9, ho =>
            cases Option.some.inj ho
            have ev : a.tmps[46]?.getD undef = .map (some mb) := by rw [ha, e3 (hd ⟨3, .data⟩ (by simp) rfl)]; kernel_rfl
            have ev' : a.tmps[47]?.getD undef = .int .i64 x := by rw [ha, e4 (hd ⟨4, .data⟩ (by simp) rfl)]; kernel_rfl
            have ev'' : a.tmps[51]?.getD undef = .slice a8 n8 c8 := by rw [ha, e8 (hd ⟨8, .data⟩ (by simp) rfl)]; kernel_rfl
            obtain ⟨wp, hbp, gp, Op, atp⟩ := hA (hd ⟨8, .data⟩ (by simp) rfl) hn
            obtain ⟨w7, hr7, M7, g7⟩ := (hM.map.below' hbp gp hrowM).update (P := Try.prog) Try.underlying61 Try.underlying2 x (.slice a8 n8 c8)
            refine wp_skip (w' := w7) (by simp [execOp, ev, ev', ev'', go_sem, hr7]) ?_
            exact ⟨v43, v44, v45, v46, v47, v48, v49, v50, v51, nb, a8, n8, c8, by rw [ha]; kernel_rfl, (g7.block bp (lt_of_block (hC.trans hbt)) (fun e => hbm (Option.some.inj e))).trans hC, .inl (.inr (hd ⟨8, .data⟩ (by simp) rfl)), fun h => e0 (h.resolve_left (by decide)), fun h => e1 (h.resolve_left (by decide)), fun h => e2 (h.resolve_left (by decide)), fun h => e3 (h.resolve_left (by decide)), fun h => e4 (h.resolve_left (by decide)), fun h => e5 (h.resolve_left (by decide)), fun h => e6 (h.resolve_left (by decide)), fun h => e7 (h.resolve_left (by decide)), fun h => e8 (h.resolve_left (by decide)), fun _ => ⟨wp, w', hbp, gp, Op, atp, M7, g7⟩, fun _ h' => absurd (Or.inr (hd ⟨8, .data⟩ (by simp) rfl)) h', fun _ h' => absurd (.inl rfl) h'⟩
          | i + 10, ho => simp at ho
        case done =>
          rintro D a w' ⟨v43, v44, v45, v46, v47, v48, v49, v50, v51, nb, a8, n8, c8, ha, hC, hB, e0, e1, e2, e3, e4, e5, e6, e7, e8, hQ, hLit, hA⟩ hall
          obtain rfl := e0 (hall 0 (by decide))
          obtain rfl := e1 (hall 1 (by decide))
          obtain rfl := e2 (hall 2 (by decide))
          obtain rfl := e3 (hall 3 (by decide))
          obtain rfl := e4 (hall 4 (by decide))
          obtain rfl := e5 (hall 5 (by decide))
          obtain rfl := e6 (hall 6 (by decide))
          obtain rfl := e7 (hall 7 (by decide))
          obtain rfl := e8 (hall 8 (by decide))
          obtain ⟨wp, w6, hbp, gp, Op, atp, M7, g7⟩ := hQ (hall 9 (by decide))
          clear hLit hA hQ hB hall e0 e1 e2 e3 e4 e5 e6 e7 e8
          rw [ha]
          clear ha
          simp only [Act.put, List.setIfInBounds_toArray, List.set_cons_zero, List.set_cons_succ]
          have hmid := M.step hx.out hbp gp Op atp M7 g7 hC hM hvF.out hll.out
          clear hbp gp Op atp M7 g7
          go_wp2
          go_roundw
          case rel => exact ⟨k + 1, by omega, by go_num, hmid⟩
          case measure => simp [intOf]; omega
      · obtain ⟨m, hm⟩ : ∃ m, Hid (vn = m + 1) := ⟨vn - 1, by unfold Hid; omega⟩
        obtain ⟨vb, voff, y, hva, _, cy, hy, hy64⟩ := OV.isI.at_ m (by rw [hm.out]; omega)
        subst hva
        have hm9 : m + 1 ≤ 1000000000 := by rw [← hm.out, hvn.out]; exact hlen
        have hw1 : IntKind.i64.wrap ((vn : Int) - 1) = (m : Int) := by rw [IntKind.wrap_i64, hm.out]; omega
        have hnm : (vn : Int) - 1 = (m : Int) := by rw [hm.out]; omega
        have hmI : (m : Int) < (vn : Int) := by rw [hm.out]; omega
        have hv0 : ¬ (vn : Int) = 0 := by omega
        have hla : Hid (l.getLast? = some y) := by
          unfold Hid
          rw [List.getLast?_eq_getElem?, ← hvn.out, hm.out, Nat.add_sub_cancel]
          exact hy.out
        by_cases hyc : y = c
        · have hll : Hid (putF c (ks.take (k + 1)) f = putF c (ks.take k) f) := by
            unfold Hid
            rw [take_at hx.out, putF_snoc]
            funext o
            by_cases h : o = x
            · subst h
              simp only [if_true]
              rw [hl.out]
              unfold addL
              rw [hla.out, hyc]
              simp
            · simp [h]
          subst hyc
          clear OV hM hy hla
          go_wp2
          go_roundw
          case rel => exact ⟨k + 1, by omega, by go_num, by rw [hll.out]; exact M⟩
          case measure => simp [intOf]; omega
        · have hll : Hid (putF c (ks.take k) f x = l ∧ addL c l = l ++ [c]) := ⟨hl.out, by
            unfold addL
            rw [hla.out, if_neg (by intro e; cases e; exact hyc rfl)]⟩
          clear hy hla
          have hyc' : (y != c) = true := by simpa using hyc
          go_upto_region 7 with fail
          refine wp_region_inv' (fun A D a w' => ∃ v43 v44 v45 v46 v47 v48 v49 v50 v51 nb a8 n8 c8, a = (((((((((A.put (some 43) v43).put (some 44) v44).put (some 45) v45).put (some 46) v46).put (some 47) v47).put (some 48) v48).put (some 49) v49).put (some 50) v50).put (some 51) v51) ∧ w'.heap[bp]? = wr.heap[bp]? ∧ (D 8 ∨ Below wr.heap.size wr w') ∧ (D 0 → v43 = .pointer (some ⟨bp, 0, none⟩)) ∧ (D 1 → v44 = .pointer (some ⟨bp, 0, none⟩)) ∧ (D 2 → v45 = .pointer (some ⟨bp, 0, none⟩)) ∧ (D 3 → v46 = .map (some mb)) ∧ (D 4 → v47 = .int .i64 x) ∧ (D 5 → v48 = .slice (some ⟨vb, voff, none⟩) vn vc) ∧ (D 6 → v49 = .int .i64 c) ∧ (D 7 → v50 = .slice (some ⟨nb, 0, none⟩) 1 1) ∧ (D 8 → v51 = .slice a8 n8 c8) ∧ (D 9 → ∃ wp w6 : World, Below wr.heap.size wr wp ∧ wp.grownBy w6 (Value.slice (some ⟨vb, voff, none⟩) vn vc).ownBlock ∧ OwnI w6 0 (.slice a8 n8 c8) (l ++ [c]) ∧ (∀ g, (Value.slice a8 n8 c8).ownBlock = some g → (Value.slice (some ⟨vb, voff, none⟩) vn vc).ownBlock = some g ∨ wp.heap.size ≤ g) ∧ IsMap w' mb (fun i => if i = x then some (.slice a8 n8 c8) else F i) ∧ w6.grownBy w' (some mb)) ∧ (D 7 → ¬ D 8 → w'.cell? ⟨nb, 0, none⟩ = some (.int .i64 c)) ∧ (D 8 → ¬ D 9 → ∃ wp, Below wr.heap.size wr wp ∧ wp.grownBy w' (Value.slice (some ⟨vb, voff, none⟩) vn vc).ownBlock ∧ OwnI w' 0 (.slice a8 n8 c8) (l ++ [c]) ∧ (∀ g, (Value.slice a8 n8 c8).ownBlock = some g → (Value.slice (some ⟨vb, voff, none⟩) vn vc).ownBlock = some g ∨ wp.heap.size ≤ g))) (by kernel_rfl) (by kernel_rfl) ?mono ?start ?step ?done
          case mono =>
            rintro D D' a w' hD ⟨v43, v44, v45, v46, v47, v48, v49, v50, v51, nb, a8, n8, c8, ha, hC, hB, e0, e1, e2, e3, e4, e5, e6, e7, e8, hQ, hLit, hA⟩
            exact ⟨v43, v44, v45, v46, v47, v48, v49, v50, v51, nb, a8, n8, c8, ha, hC, hB.imp_left (hD 8).1, fun h => e0 ((hD 0).2 h), fun h => e1 ((hD 1).2 h), fun h => e2 ((hD 2).2 h), fun h => e3 ((hD 3).2 h), fun h => e4 ((hD 4).2 h), fun h => e5 ((hD 5).2 h), fun h => e6 ((hD 6).2 h), fun h => e7 ((hD 7).2 h), fun h => e8 ((hD 8).2 h), fun h => hQ ((hD 9).2 h), fun h h' => hLit ((hD 7).2 h) (fun k => h' ((hD 8).1 k)), fun h h' => hA ((hD 8).2 h) (fun k => h' ((hD 9).1 k))⟩
          case start => exact ⟨u43, u44, u45, u46, u47, u48, u49, u50, u51, 0, none, 0, 0, by kernel_rfl, rfl, .inr ((Below.refl _ _).drew), fun h => h.elim, fun h => h.elim, fun h => h.elim, fun h => h.elim, fun h => h.elim, fun h => h.elim, fun h => h.elim, fun h => h.elim, fun h => h.elim, fun h => h.elim, fun h _ => h.elim, fun h _ => h.elim⟩
          case step =>
            intro i o ho D a w' hI hn hcl hd
            obtain ⟨v43, v44, v45, v46, v47, v48, v49, v50, v51, nb, a8, n8, c8, ha, hC, hB, e0, e1, e2, e3, e4, e5, e6, e7, e8, hQ, hLit, hA⟩ := hI
            match i, ho with
            | 0, ho =>
              cases Option.some.inj ho
              have ev : a.tmps[0]?.getD undef = .pointer (some ⟨bp, 0, none⟩) := by rw [ha]; kernel_rfl
              refine wp_value (w' := w') (v := .pointer (some ⟨bp, 0, none⟩)) (by simp [execOp, ev, go_sem]) ?_
              exact ⟨(.pointer (some ⟨bp, 0, none⟩)), v44, v45, v46, v47, v48, v49, v50, v51, nb, a8, n8, c8, by rw [ha]; kernel_rfl, hC, hB.imp_left .inr, fun _ => rfl, fun h => e1 (h.resolve_left (by decide)), fun h => e2 (h.resolve_left (by decide)), fun h => e3 (h.resolve_left (by decide)), fun h => e4 (h.resolve_left (by decide)), fun h => e5 (h.resolve_left (by decide)), fun h => e6 (h.resolve_left (by decide)), fun h => e7 (h.resolve_left (by decide)), fun h => e8 (h.resolve_left (by decide)), fun h => hQ (h.resolve_left (by decide)), fun h h' => hLit (h.resolve_left (by decide)) (fun k => h' (.inr k)), fun h h' => hA (h.resolve_left (by decide)) (fun k => h' (.inr k))⟩
            | 1, ho =>
              cases Option.some.inj ho
              have ev : a.tmps[43]?.getD undef = .pointer (some ⟨bp, 0, none⟩) := by rw [ha, e0 (hd ⟨0, .data⟩ (by simp) rfl)]; kernel_rfl
              refine wp_value (w' := w') (v := .pointer (some ⟨bp, 0, none⟩)) (by simp [execOp, ev, go_sem]) ?_
              exact ⟨v43, (.pointer (some ⟨bp, 0, none⟩)), v45, v46, v47, v48, v49, v50, v51, nb, a8, n8, c8, by rw [ha]; kernel_rfl, hC, hB.imp_left .inr, fun h => e0 (h.resolve_left (by decide)), fun _ => rfl, fun h => e2 (h.resolve_left (by decide)), fun h => e3 (h.resolve_left (by decide)), fun h => e4 (h.resolve_left (by decide)), fun h => e5 (h.resolve_left (by decide)), fun h => e6 (h.resolve_left (by decide)), fun h => e7 (h.resolve_left (by decide)), fun h => e8 (h.resolve_left (by decide)), fun h => hQ (h.resolve_left (by decide)), fun h h' => hLit (h.resolve_left (by decide)) (fun k => h' (.inr k)), fun h h' => hA (h.resolve_left (by decide)) (fun k => h' (.inr k))⟩
            | 2, ho =>
              cases Option.some.inj ho
              have ev : a.tmps[44]?.getD undef = .pointer (some ⟨bp, 0, none⟩) := by rw [ha, e1 (hd ⟨1, .data⟩ (by simp) rfl)]; kernel_rfl
              refine wp_value (w' := w') (v := .pointer (some ⟨bp, 0, none⟩)) (by simp [execOp, ev, go_sem]) ?_
              exact ⟨v43, v44, (.pointer (some ⟨bp, 0, none⟩)), v46, v47, v48, v49, v50, v51, nb, a8, n8, c8, by rw [ha]; kernel_rfl, hC, hB.imp_left .inr, fun h => e0 (h.resolve_left (by decide)), fun h => e1 (h.resolve_left (by decide)), fun _ => rfl, fun h => e3 (h.resolve_left (by decide)), fun h => e4 (h.resolve_left (by decide)), fun h => e5 (h.resolve_left (by decide)), fun h => e6 (h.resolve_left (by decide)), fun h => e7 (h.resolve_left (by decide)), fun h => e8 (h.resolve_left (by decide)), fun h => hQ (h.resolve_left (by decide)), fun h h' => hLit (h.resolve_left (by decide)) (fun k => h' (.inr k)), fun h h' => hA (h.resolve_left (by decide)) (fun k => h' (.inr k))⟩
            | 3, ho =>
              cases Option.some.inj ho
              have ev : a.tmps[45]?.getD undef = .pointer (some ⟨bp, 0, none⟩) := by rw [ha, e2 (hd ⟨2, .data⟩ (by simp) rfl)]; kernel_rfl
              have hcc := (cell_eq hC).trans hcell
              refine wp_value (w' := w') (v := .map (some mb)) (by simp [execOp, ev, go_sem, hcc]) ?_
              exact ⟨v43, v44, v45, (.map (some mb)), v47, v48, v49, v50, v51, nb, a8, n8, c8, by rw [ha]; kernel_rfl, hC, hB.imp_left .inr, fun h => e0 (h.resolve_left (by decide)), fun h => e1 (h.resolve_left (by decide)), fun h => e2 (h.resolve_left (by decide)), fun _ => rfl, fun h => e4 (h.resolve_left (by decide)), fun h => e5 (h.resolve_left (by decide)), fun h => e6 (h.resolve_left (by decide)), fun h => e7 (h.resolve_left (by decide)), fun h => e8 (h.resolve_left (by decide)), fun h => hQ (h.resolve_left (by decide)), fun h h' => hLit (h.resolve_left (by decide)) (fun k => h' (.inr k)), fun h h' => hA (h.resolve_left (by decide)) (fun k => h' (.inr k))⟩
            | 4, ho =>
              cases Option.some.inj ho
              have ev : a.tmps[7]?.getD undef = .int .i64 x := by rw [ha]; kernel_rfl
              refine wp_value (w' := w') (v := .int .i64 x) (by simp [execOp, ev, go_sem]) ?_
              exact ⟨v43, v44, v45, v46, (.int .i64 x), v48, v49, v50, v51, nb, a8, n8, c8, by rw [ha]; kernel_rfl, hC, hB.imp_left .inr, fun h => e0 (h.resolve_left (by decide)), fun h => e1 (h.resolve_left (by decide)), fun h => e2 (h.resolve_left (by decide)), fun h => e3 (h.resolve_left (by decide)), fun _ => rfl, fun h => e5 (h.resolve_left (by decide)), fun h => e6 (h.resolve_left (by decide)), fun h => e7 (h.resolve_left (by decide)), fun h => e8 (h.resolve_left (by decide)), fun h => hQ (h.resolve_left (by decide)), fun h h' => hLit (h.resolve_left (by decide)) (fun k => h' (.inr k)), fun h h' => hA (h.resolve_left (by decide)) (fun k => h' (.inr k))⟩
            | 5, ho =>
              cases Option.some.inj ho
              have ev : a.tmps[8]?.getD undef = .slice (some ⟨vb, voff, none⟩) vn vc := by rw [ha]; kernel_rfl
              refine wp_value (w' := w') (v := .slice (some ⟨vb, voff, none⟩) vn vc) (by simp [execOp, ev, go_sem]) ?_
              exact ⟨v43, v44, v45, v46, v47, (.slice (some ⟨vb, voff, none⟩) vn vc), v49, v50, v51, nb, a8, n8, c8, by rw [ha]; kernel_rfl, hC, hB.imp_left .inr, fun h => e0 (h.resolve_left (by decide)), fun h => e1 (h.resolve_left (by decide)), fun h => e2 (h.resolve_left (by decide)), fun h => e3 (h.resolve_left (by decide)), fun h => e4 (h.resolve_left (by decide)), fun _ => rfl, fun h => e6 (h.resolve_left (by decide)), fun h => e7 (h.resolve_left (by decide)), fun h => e8 (h.resolve_left (by decide)), fun h => hQ (h.resolve_left (by decide)), fun h h' => hLit (h.resolve_left (by decide)) (fun k => h' (.inr k)), fun h h' => hA (h.resolve_left (by decide)) (fun k => h' (.inr k))⟩
            | 6, ho =>
              cases Option.some.inj ho
              have ev : a.tmps[1]?.getD undef = .int .i64 c := by rw [ha]; kernel_rfl
              refine wp_value (w' := w') (v := .int .i64 c) (by simp [execOp, ev, go_sem]) ?_
              exact ⟨v43, v44, v45, v46, v47, v48, (.int .i64 c), v50, v51, nb, a8, n8, c8, by rw [ha]; kernel_rfl, hC, hB.imp_left .inr, fun h => e0 (h.resolve_left (by decide)), fun h => e1 (h.resolve_left (by decide)), fun h => e2 (h.resolve_left (by decide)), fun h => e3 (h.resolve_left (by decide)), fun h => e4 (h.resolve_left (by decide)), fun h => e5 (h.resolve_left (by decide)), fun _ => rfl, fun h => e7 (h.resolve_left (by decide)), fun h => e8 (h.resolve_left (by decide)), fun h => hQ (h.resolve_left (by decide)), fun h h' => hLit (h.resolve_left (by decide)) (fun k => h' (.inr k)), fun h h' => hA (h.resolve_left (by decide)) (fun k => h' (.inr k))⟩
            | 7, ho =>
              cases Option.some.inj ho
              have ev : a.tmps[49]?.getD undef = .int .i64 c := by rw [ha, e6 (hd ⟨6, .data⟩ (by simp) rfl)]; kernel_rfl
              refine wp_value (w' := w'.alloc (.cells #[.int .i64 c] 2)) (v := .slice (some ⟨w'.heap.size, 0, none⟩) 1 1) (by simp [execOp, ev, go_sem]) ?_
              exact ⟨v43, v44, v45, v46, v47, v48, v49, (.slice (some ⟨w'.heap.size, 0, none⟩) 1 1), v51, w'.heap.size, a8, n8, c8, by rw [ha]; kernel_rfl, (Below.heap_alloc _ _ _ (Nat.lt_of_lt_of_le hbl (hB.resolve_left (fun h => hn (hcl 8 _ rfl h ⟨7, .data⟩ (by simp) rfl))).size)).trans hC, hB.imp .inr (fun h => below_size h h.size box_below), fun h => e0 (h.resolve_left (by decide)), fun h => e1 (h.resolve_left (by decide)), fun h => e2 (h.resolve_left (by decide)), fun h => e3 (h.resolve_left (by decide)), fun h => e4 (h.resolve_left (by decide)), fun h => e5 (h.resolve_left (by decide)), fun h => e6 (h.resolve_left (by decide)), fun _ => rfl, fun h => absurd (h.resolve_left (by decide)) (fun h => hn (hcl 8 _ rfl h ⟨7, .data⟩ (by simp) rfl)), fun h => absurd (h.resolve_left (by decide)) (fun h => (fun h => hn (hcl 8 _ rfl h ⟨7, .data⟩ (by simp) rfl)) (hcl 9 _ rfl h ⟨8, .data⟩ (by simp) rfl)), fun _ _ => by simp, fun h _ => absurd (h.resolve_left (by decide)) (fun h => hn (hcl 8 _ rfl h ⟨7, .data⟩ (by simp) rfl))⟩
            | 8, ho =>
              cases Option.some.inj ho
              have ev : a.tmps[48]?.getD undef = .slice (some ⟨vb, voff, none⟩) vn vc := by rw [ha, e5 (hd ⟨5, .data⟩ (by simp) rfl)]; kernel_rfl
              have ev' : a.tmps[50]?.getD undef = .slice (some ⟨nb, 0, none⟩) 1 1 := by rw [ha, e7 (hd ⟨7, .data⟩ (by simp) rfl)]; kernel_rfl
              have hb := hB.resolve_left hn
              have hL := hLit (hd ⟨7, .data⟩ (by simp) rfl) hn
              obtain ⟨a8', n8', c8', w6, hr6, O6, g6, at6⟩ := append_at w' 23 0 _ _ (OV.below hb) c hc64 nb hL hlen (Nat.zero_le _)
              refine Lib.wp_append_run w' (.tmp 48) (.tmp 50) 23 23 rfl _ _ (by simpa [Act.eval] using ev) (by simpa [Act.eval] using ev') _ w6 hr6 ?_
              exact ⟨v43, v44, v45, v46, v47, v48, v49, v50, (.slice a8' n8' c8'), nb, a8', n8', c8', by rw [ha]; kernel_rfl, (g6.block bp (Nat.lt_of_lt_of_le hbl hb.size) (fun e => own_ne (OV.below hb).1 (hC.trans hbt) htt e.symm)).trans hC, .inl (.inl rfl), fun h => e0 (h.resolve_left (by decide)), fun h => e1 (h.resolve_left (by decide)), fun h => e2 (h.resolve_left (by decide)), fun h => e3 (h.resolve_left (by decide)), fun h => e4 (h.resolve_left (by decide)), fun h => e5 (h.resolve_left (by decide)), fun h => e6 (h.resolve_left (by decide)), fun h => e7 (h.resolve_left (by decide)), fun _ => rfl, fun h => absurd (h.resolve_left (by decide)) (fun h => hn (hcl 9 _ rfl h ⟨8, .data⟩ (by simp) rfl)), fun _ h' => absurd (.inl rfl) h', fun _ _ => ⟨w', hb, g6, O6, at6⟩⟩
            | 9, ho =>
              cases Option.some.inj ho
              have ev : a.tmps[46]?.getD undef = .map (some mb) := by rw [ha, e3 (hd ⟨3, .data⟩ (by simp) rfl)]; kernel_rfl
              have ev' : a.tmps[47]?.getD undef = .int .i64 x := by rw [ha, e4 (hd ⟨4, .data⟩ (by simp) rfl)]; kernel_rfl
              have ev'' : a.tmps[51]?.getD undef = .slice a8 n8 c8 := by rw [ha, e8 (hd ⟨8, .data⟩ (by simp) rfl)]; kernel_rfl
              obtain ⟨wp, hbp, gp, Op, atp⟩ := hA (hd ⟨8, .data⟩ (by simp) rfl) hn
              obtain ⟨w7, hr7, M7, g7⟩ := (hM.map.below' hbp gp hrowM).update (P := Try.prog) Try.underlying61 Try.underlying2 x (.slice a8 n8 c8)
              refine wp_skip (w' := w7) (by simp [execOp, ev, ev', ev'', go_sem, hr7]) ?_
              exact ⟨v43, v44, v45, v46, v47, v48, v49, v50, v51, nb, a8, n8, c8, by rw [ha]; kernel_rfl, (g7.block bp (lt_of_block (hC.trans hbt)) (fun e => hbm (Option.some.inj e))).trans hC, .inl (.inr (hd ⟨8, .data⟩ (by simp) rfl)), fun h => e0 (h.resolve_left (by decide)), fun h => e1 (h.resolve_left (by decide)), fun h => e2 (h.resolve_left (by decide)), fun h => e3 (h.resolve_left (by decide)), fun h => e4 (h.resolve_left (by decide)), fun h => e5 (h.resolve_left (by decide)), fun h => e6 (h.resolve_left (by decide)), fun h => e7 (h.resolve_left (by decide)), fun h => e8 (h.resolve_left (by decide)), fun _ => ⟨wp, w', hbp, gp, Op, atp, M7, g7⟩, fun _ h' => absurd (Or.inr (hd ⟨8, .data⟩ (by simp) rfl)) h', fun _ h' => absurd (.inl rfl) h'⟩
            | i + 10, ho => simp at ho
          case done =>
            rintro D a w' ⟨v43, v44, v45, v46, v47, v48, v49, v50, v51, nb, a8, n8, c8, ha, hC, hB, e0, e1, e2, e3, e4, e5, e6, e7, e8, hQ, hLit, hA⟩ hall
            obtain rfl := e0 (hall 0 (by decide))
            obtain rfl := e1 (hall 1 (by decide))
            obtain rfl := e2 (hall 2 (by decide))
            obtain rfl := e3 (hall 3 (by decide))
            obtain rfl := e4 (hall 4 (by decide))
            obtain rfl := e5 (hall 5 (by decide))
            obtain rfl := e6 (hall 6 (by decide))
            obtain rfl := e7 (hall 7 (by decide))
            obtain rfl := e8 (hall 8 (by decide))
            obtain ⟨wp, w6, hbp, gp, Op, atp, M7, g7⟩ := hQ (hall 9 (by decide))
            clear hLit hA hQ hB hall e0 e1 e2 e3 e4 e5 e6 e7 e8
            rw [ha]
            clear ha
            simp only [Act.put, List.setIfInBounds_toArray, List.set_cons_zero, List.set_cons_succ]
            have hmid := M.step hx.out hbp gp Op atp M7 g7 hC hM hvF.out hll.out
            clear hbp gp Op atp M7 g7
            go_wp2
            go_roundw
            case rel => exact ⟨k + 1, by omega, by go_num, hmid⟩
            case measure => simp [intOf]; omega
    · have hge : ¬ (k : Int) < (kn : Int) := by omega
      have hall : Hid (ks.take k = ks) := List.take_of_length_le (by rw [hk.size]; omega)
      have M1 := M
      rw [hall.out] at M1
      clear M
      go_wp2
      go_end0
      exact ⟨rfl, M1.pl, M1.fp, M1.kc⟩
end Go.Proofs.Ytigmpmichhghdaa
