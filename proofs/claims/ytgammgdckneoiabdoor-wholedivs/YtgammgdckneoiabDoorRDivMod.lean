/- The document's Div and Mod. -/
import Derived.Test.YtgammgdckneoiabDoorRBoth
import Derived.Test.YtgammgdckneoiabDoorRBothFar
namespace Go.Proofs.YtgammgdckneoiabDoor
open Go.RowKit

theorem both_good {a1 a2 : Option Addr} {l1 l2 c1 c2 : Nat} {xs ys : List Int} {w : World} (n1 n2 : Bool) (h1 : IsB w a1 l1 c1 xs) (h2 : IsB w a2 l2 c2 ys) (r1 : rightB n1 xs = true) (r2 : rightB n2 ys = true) (h0 : 0 < l2) :
    Calls Tryd.prog 51 #[.agg #[.bool n1, .slice a1 l1 c1], .agg #[.bool n2, .slice a2 l2 c2]] w fun e w' => ∃ v1 v2, e = .returned (.tuple #[.agg #[.bool ((n1 != n2) && decide (quoN (n1 != n2) (val8 xs) (val8 ys) ≠ 0)), v1], .agg #[.bool (n2 && decide (remN (n1 != n2) (val8 xs) (val8 ys) ≠ 0)), v2], .int .i64 0]) ∧
      OwnB w' w.heap.size v1 (mag (quoN (n1 != n2) (val8 xs) (val8 ys))) ∧ OwnB w' w.heap.size v2 (mag (remN (n1 != n2) (val8 xs) (val8 ys))) ∧ Below w.heap.size w w' := by
  cases hn : (n1 != n2) with
  | false => have h := both_same n1 n2 h1 h2 r1 r2 h0 hn; rw [hn] at h; exact h
  | true =>
    by_cases hr : val8 xs % val8 ys = 0
    · have h := both_even n1 n2 h1 h2 r1 r2 h0 hn hr; rw [hn] at h; exact h
    · have h := both_far n1 n2 h1 h2 r1 r2 h0 hn hr; rw [hn] at h; exact h

theorem both_any {a1 a2 : Option Addr} {l1 l2 c1 c2 : Nat} {xs ys : List Int} {w : World} (n1 n2 : Bool) (h1 : IsB w a1 l1 c1 xs) (h2 : IsB w a2 l2 c2 ys) :
    Calls Tryd.prog 51 #[.agg #[.bool n1, .slice a1 l1 c1], .agg #[.bool n2, .slice a2 l2 c2]] w fun e w' => ∃ v1 v2, e = .returned (.tuple #[.agg #[.bool (divB n1 xs n2 ys), v1], .agg #[.bool (modB n1 xs n2 ys), v2], .int .i64 (dvE n1 xs n2 ys)]) ∧
      OwnB w' w.heap.size v1 (divM n1 xs n2 ys) ∧ OwnB w' w.heap.size v2 (modM n1 xs n2 ys) ∧ Below w.heap.size w w' := by
  cases hk : dvOk n1 xs n2 ys with
  | false =>
    refine (both_bad n1 n2 h1 h2 hk).mono ?_
    rintro e w' ⟨rfl, hB⟩
    simp only [divB, divM, modB, modM, hk]
    exact ⟨_, _, rfl, ownB_of (n := 0) (World.ownsRow_nil _ _ _ _) (by simp), ownB_of (n := 0) (World.ownsRow_nil _ _ _ _) (by simp), hB⟩
  | true =>
    have h := hk
    simp only [dvOk, Bool.and_eq_true, decide_eq_true_eq] at h
    obtain ⟨⟨r1, r2⟩, h0⟩ := h
    have e1 : dvE n1 xs n2 ys = 0 := by simp [dvE, r1, r2, h0]
    refine (both_good n1 n2 h1 h2 r1 r2 (by rw [← h2.size]; omega)).mono ?_
    rintro e w' ⟨v1, v2, rfl, o1, o2, hB⟩
    simp only [divB, divM, modB, modM, hk, e1]
    exact ⟨v1, v2, rfl, o1, o2, hB⟩


set_option maxRecDepth 100000 in
set_option maxHeartbeats 4000000 in
theorem rdiv_any {a1 a2 : Option Addr} {l1 l2 c1 c2 : Nat} {xs ys : List Int} {w : World} (n1 n2 : Bool) (h1 : IsB w a1 l1 c1 xs) (h2 : IsB w a2 l2 c2 ys) :
    Calls Tryd.prog 29 #[.agg #[.bool n1, .slice a1 l1 c1], .agg #[.bool n2, .slice a2 l2 c2]] w fun e w' => ∃ v1, e = .returned (.tuple #[.agg #[.bool (divB n1 xs n2 ys), v1], .int .i64 (dvE n1 xs n2 ys)]) ∧
      OwnB w' w.heap.size v1 (divM n1 xs n2 ys) ∧ Below w.heap.size w w' := by
  go_enter Tryd.func29, Tryd.ntmps29
  go_wp2_with fail
  obtain ⟨v0, v1, v2, hb, hs3⟩ := alloc3 w (.cells #[.bool n1, .slice a1 l1 c1] 24) (.cells #[.bool n2, .slice a2 l2 c2] 24) (.cells #[.bool false, .slice none 0 0] 24)
  generalize (((w.alloc (.cells #[.bool n1, .slice a1 l1 c1] 24)).alloc (.cells #[.bool n2, .slice a2 l2 c2] 24)).alloc (.cells #[.bool false, .slice none 0 0] 24)) = w1 at *
  refine (both_any n1 n2 (h1.below hb) (h2.below hb)).mono ?_
  rintro e w2 ⟨pv, rv, rfl, oQ, oR, hb2⟩
  rw [hs3] at oQ oR
  have u2 := (hb2.block _ (lt_of_block v2)).trans v2
  have hB2 := below_size hb (Nat.le_refl _) hb2
  have hsz := hb2.size
  rw [hs3] at hsz
  clear v0 v1 v2 hb hb2
  obtain ⟨MQ, HQ⟩ : ∃ MQ, Hid (divM n1 xs n2 ys = MQ) := ⟨_, rfl⟩
  obtain ⟨MR, HR⟩ : ∃ MR, Hid (modM n1 xs n2 ys = MR) := ⟨_, rfl⟩
  obtain ⟨bq, HbQ⟩ : ∃ bq, Hid (divB n1 xs n2 ys = bq) := ⟨_, rfl⟩
  obtain ⟨br, HbR⟩ : ∃ br, Hid (modB n1 xs n2 ys = br) := ⟨_, rfl⟩
  obtain ⟨ee, HE⟩ : ∃ ee, Hid (dvE n1 xs n2 ys = ee) := ⟨_, rfl⟩
  rw [HQ.out] at oQ
  rw [HR.out] at oR
  rw [HbQ.out, HbR.out, HE.out]
  obtain ⟨av, cv, rfl, _⟩ := oQ.2
  obtain ⟨bv, dv, rfl, _⟩ := oR.2
  have hvar' : ∀ o o', ((w2.alloc o).alloc o').heap[w.heap.size + 2]? = some (Obj.cells #[Value.bool false, Value.slice none 0 0] 24) := fun o o' => (Below.heap_alloc _ _ _ (by simp; omega)).trans ((Below.heap_alloc w2 o _ (lt_of_block u2)).trans u2)
  have hc0 := fun o o' => (intVarT (hvar' o o')).1
  have hc1 := fun o o' => (intVarT (hvar' o o')).2.1
  have hf0 := fun o o' => (intVarT (hvar' o o')).2.2.1
  have hf1 := fun o o' => (intVarT (hvar' o o')).2.2.2
  have hBo : ∀ o o', Below w.heap.size w ((w2.alloc o).alloc o') := fun o o' => (hB2.alloc hB2.size _).alloc (by simp; omega) _
  clear hvar' u2
  go_wp2
  exact bodyPost_ret (v := .tuple #[.agg #[.bool bq, .slice av MQ.length cv], .int .i64 ee]) (by simp [results, Tryd.results29, go_sem, hc0, hc1]) rfl ⟨_, by rw [HbQ.out, HE.out], by rw [HQ.out]; exact OwnB.put (base := w.heap.size + 3) (b := w.heap.size + 2) (b0 := w.heap.size) ((oQ.alloc _).alloc _) (by omega) (by omega), below_put (b := w.heap.size + 2) (hBo _ _) (by omega)⟩

set_option maxRecDepth 100000 in
set_option maxHeartbeats 4000000 in
theorem rmod_any {a1 a2 : Option Addr} {l1 l2 c1 c2 : Nat} {xs ys : List Int} {w : World} (n1 n2 : Bool) (h1 : IsB w a1 l1 c1 xs) (h2 : IsB w a2 l2 c2 ys) :
    Calls Tryd.prog 31 #[.agg #[.bool n1, .slice a1 l1 c1], .agg #[.bool n2, .slice a2 l2 c2]] w fun e w' => ∃ v1, e = .returned (.tuple #[.agg #[.bool (modB n1 xs n2 ys), v1], .int .i64 (dvE n1 xs n2 ys)]) ∧
      OwnB w' w.heap.size v1 (modM n1 xs n2 ys) ∧ Below w.heap.size w w' := by
  go_enter Tryd.func31, Tryd.ntmps31
  go_wp2_with fail
  obtain ⟨v0, v1, v2, hb, hs3⟩ := alloc3 w (.cells #[.bool n1, .slice a1 l1 c1] 24) (.cells #[.bool n2, .slice a2 l2 c2] 24) (.cells #[.bool false, .slice none 0 0] 24)
  generalize (((w.alloc (.cells #[.bool n1, .slice a1 l1 c1] 24)).alloc (.cells #[.bool n2, .slice a2 l2 c2] 24)).alloc (.cells #[.bool false, .slice none 0 0] 24)) = w1 at *
  refine (both_any n1 n2 (h1.below hb) (h2.below hb)).mono ?_
  rintro e w2 ⟨pv, rv, rfl, oQ, oR, hb2⟩
  rw [hs3] at oQ oR
  have u2 := (hb2.block _ (lt_of_block v2)).trans v2
  have hB2 := below_size hb (Nat.le_refl _) hb2
  have hsz := hb2.size
  rw [hs3] at hsz
  clear v0 v1 v2 hb hb2
  obtain ⟨MQ, HQ⟩ : ∃ MQ, Hid (divM n1 xs n2 ys = MQ) := ⟨_, rfl⟩
  obtain ⟨MR, HR⟩ : ∃ MR, Hid (modM n1 xs n2 ys = MR) := ⟨_, rfl⟩
  obtain ⟨bq, HbQ⟩ : ∃ bq, Hid (divB n1 xs n2 ys = bq) := ⟨_, rfl⟩
  obtain ⟨br, HbR⟩ : ∃ br, Hid (modB n1 xs n2 ys = br) := ⟨_, rfl⟩
  obtain ⟨ee, HE⟩ : ∃ ee, Hid (dvE n1 xs n2 ys = ee) := ⟨_, rfl⟩
  rw [HQ.out] at oQ
  rw [HR.out] at oR
  rw [HbQ.out, HbR.out, HE.out]
  obtain ⟨av, cv, rfl, _⟩ := oQ.2
  obtain ⟨bv, dv, rfl, _⟩ := oR.2
  have hvar' : ∀ o o', ((w2.alloc o).alloc o').heap[w.heap.size + 2]? = some (Obj.cells #[Value.bool false, Value.slice none 0 0] 24) := fun o o' => (Below.heap_alloc _ _ _ (by simp; omega)).trans ((Below.heap_alloc w2 o _ (lt_of_block u2)).trans u2)
  have hc0 := fun o o' => (intVarT (hvar' o o')).1
  have hc1 := fun o o' => (intVarT (hvar' o o')).2.1
  have hf0 := fun o o' => (intVarT (hvar' o o')).2.2.1
  have hf1 := fun o o' => (intVarT (hvar' o o')).2.2.2
  have hBo : ∀ o o', Below w.heap.size w ((w2.alloc o).alloc o') := fun o o' => (hB2.alloc hB2.size _).alloc (by simp; omega) _
  clear hvar' u2
  go_wp2
  exact bodyPost_ret (v := .tuple #[.agg #[.bool br, .slice bv MR.length dv], .int .i64 ee]) (by simp [results, Tryd.results31, go_sem, hc0, hc1]) rfl ⟨_, by rw [HbR.out, HE.out], by rw [HR.out]; exact OwnB.put (base := w.heap.size + 3) (b := w.heap.size + 2) (b0 := w.heap.size) ((oR.alloc _).alloc _) (by omega) (by omega), below_put (b := w.heap.size + 2) (hBo _ _) (by omega)⟩
end Go.Proofs.YtgammgdckneoiabDoor
