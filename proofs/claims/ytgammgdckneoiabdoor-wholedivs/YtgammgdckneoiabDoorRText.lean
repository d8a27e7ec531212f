/- The document's Text, and whole.Text of any number. -/
import Derived.Test.YtgammgdckneoiabDoorTenth
import Derived.Test.YtgammgdckneoiabDoorAppKeep
namespace Go.Proofs.YtgammgdckneoiabDoor
open Go.RowKit

/-- The text of any number: none where it can not be. -/
def txtR (n : Bool) (xs : List Int) : List Int := if rightB n xs then txt n (val8 xs) else []

set_option maxRecDepth 100000 in
set_option maxHeartbeats 2000000 in
theorem wtext_any {a : Option Addr} {len cap : Nat} {xs : List Int} {w : World} (neg : Bool) (h : IsB w a len cap xs) :
    Calls Tryd.prog 32 #[.agg #[.bool neg, .slice a len cap]] w fun e w' => e = .returned (.string (strOfNums (txtR neg xs))) ∧ Below w.heap.size w w' := by
  have hsz := h.size
  cases hr : rightB neg xs with
  | true =>
    by_cases h0 : 0 < len
    · have e : txtR neg xs = (if neg then [45] else []) ++ dec (val8 xs) := by
        unfold txtR txt
        rw [hr, if_pos rfl]
        have hl : xs ≠ [] := fun e => by rw [e] at hsz; simp at hsz; omega
        have hv : val8 xs ≠ 0 := by
          cases xs with
          | nil => exact absurd rfl hl
          | cons b r =>
            unfold rightB at hr
            rw [if_neg (by simp)] at hr
            simp only [Bool.and_eq_true] at hr
            exact (mag_cons b r h.byte (by simpa using hr.2)).2
        rw [if_neg hv]
      rw [e]
      exact text_any neg h hr h0
    · obtain rfl : len = 0 := by omega
      obtain rfl : xs = [] := List.eq_nil_of_length_eq_zero hsz
      have hng : neg = false := by simpa [rightB] using hr
      subst hng
      have e : Hid (txtR false [] = [48]) := rfl
      have hb := box_below w (.cells #[.bool false, .slice a 0 cap] 25)
      have z := heap_alloc_new w (.cells #[.bool false, .slice a 0 cap] 25)
      have hI := h.below hb
      go_enter Tryd.func32, Tryd.ntmps32
      go_wp2_with fail
      generalize w.alloc (.cells #[.bool false, .slice a 0 cap] 25) = w1 at *
      refine (right_any false hI).mono ?_
      rintro e1 w2 ⟨rfl, hb2⟩
      rw [hr]
      have hB := below_size hb (Nat.le_refl _) hb2
      replace z := (hb2.block _ (lt_of_block z)).trans z
      obtain ⟨z0, z1, _, _⟩ := intVar z
      go_wp2
      go_ret
      exact ⟨by rw [e.out]; rfl, hB⟩
  | false =>
    have e : Hid (txtR neg xs = []) := by show _ = _; unfold txtR; rw [hr]; rfl
    have hb := box_below w (.cells #[.bool neg, .slice a len cap] 25)
    have hI := h.below hb
    go_enter Tryd.func32, Tryd.ntmps32
    go_wp2_with fail
    generalize w.alloc (.cells #[.bool neg, .slice a len cap] 25) = w1 at *
    refine (right_any neg hI).mono ?_
    rintro e1 w2 ⟨rfl, hb2⟩
    rw [hr]
    have hB := below_size hb (Nat.le_refl _) hb2
    go_wp2
    go_ret
    exact ⟨by rw [e.out]; rfl, hB⟩

theorem right_pos {n : Bool} {xs : List Int} (hr : rightB n xs = true) (hb : ∀ x ∈ xs, 0 ≤ x ∧ x < 256) (h0 : 0 < xs.length) : xs = mag (val8 xs) ∧ val8 xs ≠ 0 ∧ val8 xs < 256 ^ 128 := by
  cases xs with
  | nil => simp at h0
  | cons b r =>
    unfold rightB at hr
    rw [if_neg (by simp)] at hr
    simp only [Bool.and_eq_true, decide_eq_true_eq] at hr
    obtain ⟨m1, m2⟩ := mag_cons b r hb (by simpa using hr.2)
    exact ⟨m1.symm, m2, Nat.lt_of_lt_of_le (val8_lt _ hb) (Nat.pow_le_pow_right (by decide) hr.1)⟩

theorem run_field1 (b : Bool) (v : Value) (w : World) : (Instr.field 24 (.agg #[.bool b, v]) 1).run Tryd.prog w = .ok v w := by
  simp [Instr.field, go_sem]
  rfl

set_option maxRecDepth 100000 in
set_option maxHeartbeats 4000000 in
theorem rtext_any {a : Option Addr} {len cap : Nat} {xs : List Int} {w : World} (neg : Bool) (h : IsB w a len cap xs) :
    Calls Tryd.prog 35 #[.agg #[.bool neg, .slice a len cap]] w fun e w' => e = .returned (.string (strOfNums (txtR neg xs))) ∧ Below w.heap.size w w' := by
  have hsz := h.size
  have hb := box_below w (.cells #[.bool neg, .slice a len cap] 24)
  have z := heap_alloc_new w (.cells #[.bool neg, .slice a len cap] 24)
  have hs1 : (w.alloc (.cells #[.bool neg, .slice a len cap] 24)).heap.size = w.heap.size + 1 := by simp
  have hI := h.below hb
  have hbyte := h.byte
  go_enter Tryd.func35, Tryd.ntmps35
  go_wp2_with fail
  generalize w.alloc (.cells #[.bool neg, .slice a len cap] 24) = w1 at *
  refine (rright_any neg hI).mono ?_
  rintro e1 w2 ⟨rfl, hb2⟩
  have hB := below_size hb (Nat.le_refl _) hb2
  replace z := (hb2.block _ (lt_of_block z)).trans z
  replace hI := hI.below hb2
  obtain ⟨z0, z1, _, _⟩ := intVarT z
  cases hr : rightB neg xs with
  | false =>
    have e : Hid (txtR neg xs = []) := by show _ = _; unfold txtR; rw [hr]; rfl
    go_wp2
    go_ret
    exact ⟨by rw [e.out]; rfl, hB⟩
  | true =>
    by_cases h0 : 0 < len
    · have h0' : ((len : Int) == 0) = false := by simp; omega
      obtain ⟨hx, hv0, hv1⟩ := right_pos hr hbyte (by omega)
      have e : Hid (txtR neg xs = (if neg then [45] else []) ++ dec (val8 xs)) := by show _ = _; unfold txtR txt; rw [hr, if_pos rfl, if_neg hv0]
      obtain ⟨V, HV⟩ : ∃ V, Hid (val8 xs = V) := ⟨_, rfl⟩
      rw [HV.out] at hx hv0 hv1 e
      obtain ⟨D, HD⟩ : ∃ D, Hid (dec V = D) := ⟨_, rfl⟩
      rw [HD.out] at e
      subst hx
      have h128 : len ≤ 128 := by rw [← hsz]; exact (lead_right hr).2
      clear hr hb hb2 h hbyte HV
      have hs2 : w.heap.size + 1 ≤ w2.heap.size := lt_of_block z
      go_wp2
      go_loopw [4, 3] (fun av dv wr => ∃ (j : Nat) (ap : Option Addr) (an ac : Nat) (zs : List Int), av = .slice ap an ac ∧ IsB wr ap an ac (mag (V / 10 ^ j)) ∧ an ≤ 128 ∧ Hid (zs = (decN j V).reverse) ∧ OwnB wr w2.heap.size dv zs ∧ (j = 0 ∨ V / 10 ^ (j - 1) ≠ 0) ∧ Below w2.heap.size w2 wr) (fun _ dv _ => 400 - lenS dv)
      case atStart => exact ⟨0, a, len, cap, [], rfl, by rw [Nat.pow_zero, Nat.div_one]; exact hI, h128, rfl, ownB_of (n := 0) (World.ownsRow_nil _ _ _ _) (by simp), .inl rfl, Below.refl _ _⟩
      case round =>
        obtain ⟨j, ap, an, ac, zs, rfl, hA, han, hzs, hO, hj, hW⟩ := hrel
        have hzl : zs.length = j := by rw [hzs.out, List.length_reverse, decN_len]
        have hAs := hA.size
        rw [mag_len] at hAs
        have t0 := (hW.block _ (lt_of_block z)).trans z
        obtain ⟨dp, dc, rfl, hDI⟩ := hO.2
        have hown0 := hO.1
        rw [hzl] at hDI hown0 ⊢
        have hzb := hDI.byte
        clear hO
        by_cases hn0 : 0 < an
        · have hn0' : (0 : Int) < (an : Int) := by omega
          have hX : V / 10 ^ j ≠ 0 := by
            intro e0
            rw [e0] at hAs
            simp [blen] at hAs
            omega
          have hj309 := ten_end V j hv1 hX
          obtain ⟨X, HX⟩ : ∃ X, Hid (V / 10 ^ j = X) := ⟨_, rfl⟩
          rw [HX.out] at hA hAs
          have HX1 : Hid (V / 10 ^ (j + 1) = X / 10) := by show _ = _; rw [← HX.out, Nat.div_div_eq_div_mul, Nat.pow_succ]
          have hX0 : Hid (V / 10 ^ (j + 1 - 1) ≠ 0) := by show _ ≠ _; rw [Nat.add_sub_cancel]; exact hX
          have hXb : Hid (blen (X / 10) ≤ 128) := (blen_le _ _).2 (Nat.lt_of_le_of_lt (Nat.le_trans (Nat.div_le_self _ _) (by rw [← HX.out]; exact Nat.div_le_self _ _)) hv1)
          go_wp2_with fail
          refine (tenth_any hA (by omega)).mono ?_
          rintro e1 w3 ⟨qv, qs, rfl, qO, qV, qL, hb3⟩
          rw [val8_mag] at qV ⊢
          obtain ⟨r, Hr⟩ : ∃ r, Hid (X % 10 = r) := ⟨_, rfl⟩
          have hr9 : r < 10 := by rw [← Hr.out]; exact Nat.mod_lt _ (by decide)
          rw [Hr.out]
          obtain ⟨qp, qc, rfl, qI⟩ := qO.2
          rw [qL] at qI ⊢
          have hown := own_below hown0 hb3
          have kp := isB_lit w3 #[.int .u8 (48 + (r : Int))] [48 + (r : Int)] 1 rfl (by decide) rfl (by simp; omega) (0, 0)
          have hown2 := hown.alloc (.cells #[.int .u8 (48 + (r : Int))] 5)
          have hW3 := below_size hW (Nat.le_refl _) hb3
          have hs3 := hW3.size
          have hqd : ∀ b off, qp = some ⟨b, off, none⟩ → wr.heap.size ≤ b := by
            intro b off he
            have ho := qO.1
            rw [he] at ho
            rcases ho.2 with ⟨h', _⟩ | ⟨g', cap', cur, h', hg', _⟩
            · simp at h'
            · simp at h'; omega
          have hdd : ∀ g' n' c', Value.slice dp j dc = .slice (some ⟨g', 0, none⟩) n' c' → g' < wr.heap.size := by
            intro g' n' c' he
            have ho := hown0
            rw [he] at ho
            exact (ho.lt g' rfl).2
          clear hX hAs hA hown0 qO hown hW hb3 hDI t0
          go_wp2_with (at_builtin; refine app_keep _ rfl _ _ rfl w2.heap.size _ j zs rfl hown2 (some ⟨w3.heap.size, 0, none⟩) 1 1 [48 + (r : Int)] rfl kp (by omega) (by omega) (by simp; omega) ?_)
          intro v' w4 hown3 hb4 hk4
          have q3 := qI.below (box_below w3 (.cells #[.int .u8 (48 + (r : Int))] 5))
          have q4 := q3.keep (w' := w4) (fun b off he hl => hk4 b (by simpa using hl) (by intro g' hv'; have := hqd b off he; have := hdd g' j dc (by rw [hv']); omega))
          have hown4 : w4.ownsRow w2.heap.size 5 1 v' (j + 1) ((zs ++ [48 + (r : Int)]).map (Value.int .u8)) := by simpa using hown3
          have hO4 := ownB_of hown4 (append_bytes zs [48 + (r : Int)] hzb (fun z hz => by rw [List.mem_singleton.1 hz]; omega))
          have hW4 := (hW3.alloc hW3.size (.cells #[.int .u8 (48 + (r : Int))] 5)).trans hb4
          have hzs2 : Hid (zs ++ [48 + (r : Int)] = (decN (j + 1) V).reverse) := by
            show _ = _
            rw [decN_rev, hzs.out, HX.out, Hr.out]
            simp
          obtain ⟨dp4, dc4, rfl, _⟩ := hO4.2
          have hl4 : (zs ++ [48 + (r : Int)]).length = j + 1 := by rw [List.length_append, hzl]; rfl
          rw [hl4]
          clear hown3 hown4 hown2 kp hb4 hk4 q3 qI hqd hdd hzb hzs
          go_wp2_with fail
          refine (made_any false q4 (by omega)).mono ?_
          rintro e1 w5 ⟨v5, rfl, o5, hb5⟩
          rw [qV] at o5
          obtain ⟨p5, c5, rfl, i5⟩ := o5.2
          have hO5 := hO4.below hb5
          have hW5 := below_size hW4 (Nat.le_refl _) hb5
          have hm5 : (mag (X / 10)).length ≤ 128 := by rw [mag_len]; exact hXb.out
          clear o5 hb5 hO4 hW4 q4
          generalize hqb : (false && decide (val8 qs ≠ 0)) = qb
          clear hqb
          have hfd := fun w => run_field1 qb (.slice p5 (mag (X / 10)).length c5) w
          go_wp2
          go_roundw
          case rel => exact ⟨j + 1, p5, _, c5, zs ++ [48 + (r : Int)], rfl, by rw [HX1.out]; exact i5, hm5, hzs2, by rw [← hl4] ; exact hO5, .inr hX0.out, hW5⟩
          case measure => simp [lenS]; omega
        · have hX : V / 10 ^ j = 0 := by
            have : blen (V / 10 ^ j) = 0 := by omega
            rcases Nat.eq_zero_or_pos (V / 10 ^ j) with h' | h'
            · exact h'
            · have := ((blen_spec (V / 10 ^ j)).2 (by omega)).2
              omega
          have hj1 : j ≠ 0 := fun e0 => hv0 (by rw [e0, Nat.pow_zero, Nat.div_one] at hX; exact hX)
          obtain ⟨i, rfl⟩ : ∃ i, j = i + 1 := ⟨j - 1, by omega⟩
          have hi0 := hj.resolve_left (by omega)
          rw [Nat.add_sub_cancel] at hi0
          have hi309 := ten_end V i hv1 hi0
          have hdec := dec_of i V hi0 hX (by omega)
          rw [hdec, HD.out] at hzs
          have hzr : Hid (zs.reverse = D) := by show _ = _; rw [hzs.out, List.reverse_reverse]
          clear HD
          obtain rfl : an = 0 := by omega
          obtain ⟨y0, y1, _, _⟩ := intVarT t0
          have hBW := below_size hB (Nat.le_refl _) hW
          have hsW := hBW.size
          have hzl' : zs.length ≤ 400 := by omega
          clear hA hAs hX hj hi0 hdec hv0 hv1 t0
          cases neg with
          | false =>
            go_wp2_with fail
            refine (turned_any hDI (by omega)).mono ?_
            rintro e1 w3 ⟨v3, rfl, hO3, hb3⟩
            have hB3 := below_size hBW (Nat.le_refl _) hb3
            rw [hzr.out] at hO3
            obtain ⟨p3, c3, rfl, i3⟩ := hO3.2
            have hs := i3.str
            clear hO3 i3 hzr hzs hDI hown0 hzb hb3 hBW
            go_wp2
            go_ret
            exact ⟨ret_str (by rw [e.out]; rfl), hB3⟩
          | true =>
            have kp := isB_lit wr #[.int .u8 45] [45] 1 rfl (by decide) rfl (by decide) (0, 0)
            have hown2 := hown0.alloc (.cells #[.int .u8 45] 5)
            go_wp2_with (at_builtin; refine app_bytes _ rfl _ _ rfl w2.heap.size _ (i + 1) zs rfl hown2 (some ⟨wr.heap.size, 0, none⟩) 1 1 [45] rfl kp (by omega) (by omega) (by have := hW.size; simp; omega) ?_)
            intro v' w4 hown3 hb4
            have hown4 : w4.ownsRow w2.heap.size 5 1 v' (i + 1 + 1) ((zs ++ [45]).map (Value.int .u8)) := by simpa using hown3
            have hO4 := ownB_of hown4 (append_bytes zs [45] hzb (by decide))
            have hB4 := below_size hB (Nat.le_refl _) ((hW.alloc hW.size (.cells #[.int .u8 45] 5)).trans hb4)
            obtain ⟨p4, c4, rfl, i4⟩ := hO4.2
            have hl4 : (zs ++ [(45 : Int)]).length = i + 1 + 1 := by rw [List.length_append, hzl]; rfl
            rw [hl4] at i4 ⊢
            clear hown3 hown4 hown2 kp hb4 hO4 hDI hown0
            go_wp2_with fail
            refine (turned_any i4 (by omega)).mono ?_
            rintro e1 w3 ⟨v3, rfl, hO3, hb3⟩
            have hB3 := below_size hB4 (Nat.le_refl _) hb3
            have hzr2 : (zs ++ [45]).reverse = 45 :: D := by rw [List.reverse_append, hzr.out]; rfl
            rw [hzr2] at hO3
            obtain ⟨E, HE⟩ : ∃ E, Hid (45 :: D = E) := ⟨_, rfl⟩
            rw [HE.out] at hO3
            obtain ⟨p3, c3, rfl, i3⟩ := hO3.2
            have hs := i3.str
            clear hO3 i3 hzr hzr2 hzs hzb hb3 hBW
            go_wp2
            go_ret
            exact ⟨ret_str (by rw [e.out, ← HE.out]; rfl), hB3⟩
    · obtain rfl : len = 0 := by omega
      obtain rfl : xs = [] := List.eq_nil_of_length_eq_zero hsz
      have hng : neg = false := by simpa [rightB] using hr
      subst hng
      have e : Hid (txtR false [] = [48]) := rfl
      go_wp2
      go_ret
      exact ⟨by rw [e.out]; rfl, hB⟩
end Go.Proofs.YtgammgdckneoiabDoor
