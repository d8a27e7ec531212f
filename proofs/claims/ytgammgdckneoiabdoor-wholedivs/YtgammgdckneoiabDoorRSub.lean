/- The document's Sub. -/
import Derived.Test.YtgammgdckneoiabDoorRAdd
namespace Go.Proofs.YtgammgdckneoiabDoor
open Go.RowKit

/-- The sign that y is added with: turned, but for nought. -/
def turnS (n2 : Bool) (ys : List Int) : Bool := !n2 && decide (0 < ys.length)
theorem right_turn {n2 : Bool} {ys : List Int} (h : rightB n2 ys = true) : rightB (turnS n2 ys) ys = true := by
  unfold rightB at h ⊢
  unfold turnS
  split at h
  · rename_i h0
    rw [if_pos h0]
    simp [h0]
  · rename_i h0
    rw [if_neg h0]
    exact h
/-- Nought has no sign: what Sub adds is the same either way. -/
theorem sub_same (n1 n2 : Bool) (xs ys : List Int) (h2 : rightB n2 ys = true) :
    fitB (sumNeg n1 (turnS n2 ys) (val8 xs) (val8 ys)) (sumMag n1 (turnS n2 ys) (val8 xs) (val8 ys)) = fitB (sumNeg n1 (!n2) (val8 xs) (val8 ys)) (sumMag n1 (!n2) (val8 xs) (val8 ys)) ∧ sumMag n1 (turnS n2 ys) (val8 xs) (val8 ys) = sumMag n1 (!n2) (val8 xs) (val8 ys) := by
  by_cases h0 : 0 < ys.length
  · have : turnS n2 ys = !n2 := by unfold turnS; rw [decide_eq_true h0, Bool.and_true]
    rw [this]
    exact ⟨rfl, rfl⟩
  · have hy : ys = [] := List.eq_nil_of_length_eq_zero (by omega)
    subst hy
    have hn2 : n2 = false := by unfold rightB at h2; simpa using h2
    subst hn2
    have hv : val8 [] = 0 := rfl
    rw [hv]
    have hlt : ¬ val8 xs < 0 := by omega
    have ht : turnS false [] = false := rfl
    rw [ht]
    unfold sumNeg sumMag
    cases n1 <;> simp [hlt]
    all_goals (unfold fitB; by_cases hz : val8 xs = 0 <;> simp [hz])
theorem rsub_eq (n1 n2 : Bool) (xs ys : List Int) (h2 : rightB n2 ys = true) :
    addB n1 xs (turnS n2 ys) (turnS n2 ys) ys = addB n1 xs n2 (!n2) ys ∧ addE n1 xs (turnS n2 ys) (turnS n2 ys) ys = addE n1 xs n2 (!n2) ys ∧ addM n1 xs (turnS n2 ys) (turnS n2 ys) ys = addM n1 xs n2 (!n2) ys := by
  obtain ⟨s1, s2⟩ := sub_same n1 n2 xs ys h2
  unfold addB addE addM
  rw [right_turn h2, h2, s1, s2]
  exact ⟨rfl, rfl, rfl⟩
set_option maxRecDepth 100000 in
set_option maxHeartbeats 4000000 in
theorem rsub_any {a1 a2 : Option Addr} {l1 l2 c1 c2 : Nat} {xs ys : List Int} {w : World} (n1 n2 : Bool) (h1 : IsB w a1 l1 c1 xs) (h2 : IsB w a2 l2 c2 ys) :
    Calls Tryd.prog 24 #[.agg #[.bool n1, .slice a1 l1 c1], .agg #[.bool n2, .slice a2 l2 c2]] w fun e w' => ∃ v, e = .returned (.tuple #[.agg #[.bool (addB n1 xs n2 (!n2) ys), v], .int .i64 (addE n1 xs n2 (!n2) ys)]) ∧ OwnB w' w.heap.size v (addM n1 xs n2 (!n2) ys) ∧ Below w.heap.size w w' := by
  go_enter Tryd.func24, Tryd.ntmps24
  go_wp2_with fail
  obtain ⟨z0, z1, z2, hb, hs3⟩ := alloc3 w (.cells #[.bool n1, .slice a1 l1 c1] 24) (.cells #[.bool n2, .slice a2 l2 c2] 24) (.cells #[.bool false, .slice none 0 0] 24)
  have k1 := h1.below hb
  have k2 := h2.below hb
  generalize (((w.alloc (.cells #[.bool n1, .slice a1 l1 c1] 24)).alloc (.cells #[.bool n2, .slice a2 l2 c2] 24)).alloc (.cells #[.bool false, .slice none 0 0] 24)) = w1 at *
  refine (rright_any n1 k1).mono ?_
  rintro e w2 ⟨rfl, hb2⟩
  have u0 := (hb2.block _ (lt_of_block z0)).trans z0
  have u1 := (hb2.block _ (lt_of_block z1)).trans z1
  have u2 := (hb2.block _ (lt_of_block z2)).trans z2
  have hB2 := below_size hb (Nat.le_refl _) hb2
  have hsz2 := hb2.size
  rw [hs3] at hsz2
  replace k2 := k2.below hb2
  clear z0 z1 z2 hb hb2 hs3 k1
  obtain ⟨x0, x1, _, _⟩ := intVarT u0
  obtain ⟨y0, y1, _, _⟩ := intVarT u1
  obtain ⟨q0, q1, qf0, qf1⟩ := intVarT u2
  cases r1 : rightB n1 xs with
  | false =>
    have e1 : Hid (addB n1 xs n2 (!n2) ys = false) := by show _ = _; simp [addB, r1]
    have e2 : Hid (addE n1 xs n2 (!n2) ys = 1) := by show _ = _; simp [addE, r1]
    have e3 : Hid (addM n1 xs n2 (!n2) ys = []) := by show _ = _; simp [addM, r1]
    go_wp2
    exact bodyPost_ret (v := .tuple #[.agg #[.bool false, .slice none 0 0], .int .i64 1]) (by simp [results, Tryd.results24, go_sem, q0, q1]) rfl ⟨.slice none 0 0, by rw [e1.out, e2.out], by rw [e3.out]; exact ownB_of (n := 0) (World.ownsRow_nil _ _ _ _) (by simp), below_put (b := w.heap.size + 2) hB2 (by omega)⟩
  | true =>
    go_wp2_with fail
    refine (rright_any n2 k2).mono ?_
    rintro e w3 ⟨rfl, hb3⟩
    replace u0 := (hb3.block _ (lt_of_block u0)).trans u0
    replace u1 := (hb3.block _ (lt_of_block u1)).trans u1
    replace u2 := (hb3.block _ (lt_of_block u2)).trans u2
    have hB3 := below_size hB2 (Nat.le_refl _) hb3
    have hsz3 := Nat.le_trans hsz2 hb3.size
    clear x0 x1 y0 y1 q0 q1 qf0 qf1 hb3 hB2 hsz2 k2
    obtain ⟨x0, x1, xf0, xf1⟩ := intVarT u0
    obtain ⟨y0, y1, yf0, yf1⟩ := intVarT u1
    obtain ⟨q0, q1, qf0, qf1⟩ := intVarT u2
    cases r2 : rightB n2 ys with
    | false =>
      have e1 : Hid (addB n1 xs n2 (!n2) ys = false) := by show _ = _; simp [addB, r2]
      have e2 : Hid (addE n1 xs n2 (!n2) ys = 1) := by show _ = _; simp [addE, r2]
      have e3 : Hid (addM n1 xs n2 (!n2) ys = []) := by show _ = _; simp [addM, r2]
      go_wp2
      exact bodyPost_ret (v := .tuple #[.agg #[.bool false, .slice none 0 0], .int .i64 1]) (by simp [results, Tryd.results24, go_sem, q0, q1]) rfl ⟨.slice none 0 0, by rw [e1.out, e2.out], by rw [e3.out]; exact ownB_of (n := 0) (World.ownsRow_nil _ _ _ _) (by simp), below_put (b := w.heap.size + 2) hB3 (by omega)⟩
    | true =>
      obtain ⟨f1, f2, f3⟩ := rsub_eq n1 n2 xs ys r2
      have H1 : Hid (addB n1 xs (turnS n2 ys) (turnS n2 ys) ys = addB n1 xs n2 (!n2) ys) := f1
      have H2 : Hid (addE n1 xs (turnS n2 ys) (turnS n2 ys) ys = addE n1 xs n2 (!n2) ys) := f2
      have H3 : Hid (addM n1 xs (turnS n2 ys) (turnS n2 ys) ys = addM n1 xs n2 (!n2) ys) := f3
      have hys := h2.size
      have hr2 := h2.room
      have hm2 := h2.most
      unfold maxLen at hm2
      clear f1 f2 f3
      have main : ∀ tb, turnS n2 ys = tb → Calls Tryd.prog 22 #[.agg #[.bool n1, .slice a1 l1 c1], .agg #[.bool tb, .slice a2 l2 c2]] w3 fun e w' => ∃ v, e = .returned (.tuple #[.agg #[.bool (addB n1 xs n2 (!n2) ys), v], .int .i64 (addE n1 xs n2 (!n2) ys)]) ∧ OwnB w' w3.heap.size v (addM n1 xs n2 (!n2) ys) ∧ Below w3.heap.size w3 w' := by
        rintro tb rfl
        refine (radd_any n1 (turnS n2 ys) (h1.below hB3) (h2.below hB3)).mono ?_
        rintro e w' ⟨v, rfl, hO, hb⟩
        exact ⟨v, by rw [H1.out, H2.out], by rw [← H3.out]; exact hO, hb⟩
      obtain ⟨bb, Hb⟩ : ∃ bb, Hid (addB n1 xs n2 (!n2) ys = bb) := ⟨_, rfl⟩
      obtain ⟨ee, He⟩ : ∃ ee, Hid (addE n1 xs n2 (!n2) ys = ee) := ⟨_, rfl⟩
      obtain ⟨mm, Hm⟩ : ∃ mm, Hid (addM n1 xs n2 (!n2) ys = mm) := ⟨_, rfl⟩
      rw [Hb.out, He.out, Hm.out] at main
      clear H1 H2 H3
      cases hn : n2
      · by_cases h0 : 0 < l2
        · have h0' : (0 : Int) < (l2 : Int) := by omega
          have hc := main true (by rw [hn]; unfold turnS; rw [hys, decide_eq_true h0]; rfl)
          rw [hn] at y0
          clear main
          go_wp2_with fail
          refine hc.mono ?_
          rintro e w5 ⟨v5, rfl, o5, hb5⟩
          have t2' := (hb5.block _ (lt_of_block u2)).trans u2
          have hB5 := below_size hB3 (Nat.le_refl _) hb5
          obtain ⟨p0, p1, pf0, pf1⟩ := intVarT t2'
          obtain ⟨av, cv, rfl, _⟩ := o5.2
          clear hc
          go_wp2
          exact bodyPost_ret (v := .tuple #[.agg #[.bool bb, .slice av mm.length cv], .int .i64 ee]) (by simp [results, Tryd.results24, go_sem, p0, p1]) rfl ⟨_, by rw [Hb.out, He.out], by rw [Hm.out]; exact OwnB.put (base := w.heap.size + 3) (b := w.heap.size + 2) (b0 := w.heap.size) (o5.mono (by omega)) (by omega) (by omega), below_put (b := w.heap.size + 2) hB5 (by omega)⟩
        · have h0' : ¬ (0 : Int) < (l2 : Int) := by omega
          have hc := main false (by rw [hn]; unfold turnS; rw [hys, decide_eq_false h0]; rfl)
          rw [hn] at y0
          clear main
          go_wp2_with fail
          refine hc.mono ?_
          rintro e w5 ⟨v5, rfl, o5, hb5⟩
          have t2' := (hb5.block _ (lt_of_block u2)).trans u2
          have hB5 := below_size hB3 (Nat.le_refl _) hb5
          obtain ⟨p0, p1, pf0, pf1⟩ := intVarT t2'
          obtain ⟨av, cv, rfl, _⟩ := o5.2
          clear hc
          go_wp2
          exact bodyPost_ret (v := .tuple #[.agg #[.bool bb, .slice av mm.length cv], .int .i64 ee]) (by simp [results, Tryd.results24, go_sem, p0, p1]) rfl ⟨_, by rw [Hb.out, He.out], by rw [Hm.out]; exact OwnB.put (base := w.heap.size + 3) (b := w.heap.size + 2) (b0 := w.heap.size) (o5.mono (by omega)) (by omega) (by omega), below_put (b := w.heap.size + 2) hB5 (by omega)⟩
      · have hc := main false (by rw [hn]; rfl)
        rw [hn] at y0
        clear main
        go_wp2_with fail
        refine hc.mono ?_
        rintro e w5 ⟨v5, rfl, o5, hb5⟩
        have t2' := (hb5.block _ (lt_of_block u2)).trans u2
        have hB5 := below_size hB3 (Nat.le_refl _) hb5
        obtain ⟨p0, p1, pf0, pf1⟩ := intVarT t2'
        obtain ⟨av, cv, rfl, _⟩ := o5.2
        clear hc
        go_wp2
        exact bodyPost_ret (v := .tuple #[.agg #[.bool bb, .slice av mm.length cv], .int .i64 ee]) (by simp [results, Tryd.results24, go_sem, p0, p1]) rfl ⟨_, by rw [Hb.out, He.out], by rw [Hm.out]; exact OwnB.put (base := w.heap.size + 3) (b := w.heap.size + 2) (b0 := w.heap.size) (o5.mono (by omega)) (by omega) (by omega), below_put (b := w.heap.size + 2) hB5 (by omega)⟩
end Go.Proofs.YtgammgdckneoiabDoor
