/- divide, for every two numbers. -/
import Derived.Test.YtgammgdckneoiacDoorDivSame
import Derived.Test.YtgammgdckneoiacDoorDivEven
import Derived.Test.YtgammgdckneoiacDoorKnown
import Derived.Test.YtgammgdckneoiacDoorQuoMany
namespace Go.Proofs.YtgammgdckneoiacDoor
open Go.RowKit

theorem div_bound {xs ys : List Int} (h1 : ∀ x ∈ xs, 0 ≤ x ∧ x < 256) (h2 : ∀ x ∈ ys, 0 ≤ x ∧ x < 256) (m1 : xs.length ≤ 128) (m2 : ys.length ≤ 128) : val8 xs < 4294967296 ^ 32 ∧ val8 ys < 4294967296 ^ 32 := by
  have a := Nat.lt_of_lt_of_le (val8_lt xs h1) (Nat.pow_le_pow_right (by decide) m1)
  have b := Nat.lt_of_lt_of_le (val8_lt ys h2) (Nat.pow_le_pow_right (by decide) m2)
  have e : (256 : Nat) ^ 128 = 4294967296 ^ 32 := by decide
  rw [e] at a b
  exact ⟨a, b⟩
theorem quo_ok {x y : Nat} (hx : x < 4294967296 ^ 32) (hy : y < 4294967296 ^ 32) (hy0 : y ≠ 0) : QuoOk x y := by
  intro w
  by_cases h : y < 4294967296
  · exact quo_one x y w hx h hy0
  · exact quo_many x y w hx hy (by omega)

/-- Whether two numbers can be divided. -/
def dvOk (n1 : Bool) (xs : List Int) (n2 : Bool) (ys : List Int) : Bool := rightB n1 xs && rightB n2 ys && decide (ys.length ≠ 0)
def dvE (n1 : Bool) (xs : List Int) (n2 : Bool) (ys : List Int) : Int := if rightB n1 xs && rightB n2 ys then (if ys.length = 0 then 23 else 0) else 1
def divB (n1 : Bool) (xs : List Int) (n2 : Bool) (ys : List Int) : Bool := if dvOk n1 xs n2 ys then (n1 != n2) && decide (quoN (n1 != n2) (val8 xs) (val8 ys) ≠ 0) else false
def divM (n1 : Bool) (xs : List Int) (n2 : Bool) (ys : List Int) : List Int := if dvOk n1 xs n2 ys then mag (quoN (n1 != n2) (val8 xs) (val8 ys)) else []
def modB (n1 : Bool) (xs : List Int) (n2 : Bool) (ys : List Int) : Bool := if dvOk n1 xs n2 ys then n2 && decide (remN (n1 != n2) (val8 xs) (val8 ys) ≠ 0) else false
def modM (n1 : Bool) (xs : List Int) (n2 : Bool) (ys : List Int) : List Int := if dvOk n1 xs n2 ys then mag (remN (n1 != n2) (val8 xs) (val8 ys)) else []

theorem divide_good {a1 a2 : Option Addr} {l1 l2 c1 c2 : Nat} {xs ys : List Int} {w : World} (n1 n2 : Bool) (h1 : IsB w a1 l1 c1 xs) (h2 : IsB w a2 l2 c2 ys) (r1 : rightB n1 xs = true) (r2 : rightB n2 ys = true) (h0 : 0 < l2) :
    Calls Tryd.prog 27 #[.agg #[.bool n1, .slice a1 l1 c1], .agg #[.bool n2, .slice a2 l2 c2]] w fun e w' => ∃ v1 v2, e = .returned (.tuple #[.agg #[.bool ((n1 != n2) && decide (quoN (n1 != n2) (val8 xs) (val8 ys) ≠ 0)), v1], .agg #[.bool (n2 && decide (remN (n1 != n2) (val8 xs) (val8 ys) ≠ 0)), v2], .int .i64 0]) ∧
      OwnB w' w.heap.size v1 (mag (quoN (n1 != n2) (val8 xs) (val8 ys))) ∧ OwnB w' w.heap.size v2 (mag (remN (n1 != n2) (val8 xs) (val8 ys))) ∧ Below w.heap.size w w' := by
  obtain ⟨hXb, hYb⟩ := div_bound h1.byte h2.byte (lead_right r1).2 (lead_right r2).2
  have hY0 : val8 ys ≠ 0 := by
    have := lead_le h2.byte (lead_right r2).1 (by rw [h2.size]; exact h0)
    have hp : 0 < 256 ^ (ys.length - 1) := Nat.pow_pos (by decide)
    omega
  have hq := quo_ok hXb hYb hY0
  cases hn : (n1 != n2) with
  | false => have h := divide_same n1 n2 h1 h2 r1 r2 h0 hq hn; rw [hn] at h; exact h
  | true =>
    by_cases hr : val8 xs % val8 ys = 0
    · have h := divide_even n1 n2 h1 h2 r1 r2 h0 hq hn hr; rw [hn] at h; exact h
    · have h := divide_far n1 n2 h1 h2 r1 r2 h0 hq hn hr; rw [hn] at h; exact h

set_option maxRecDepth 100000 in
set_option maxHeartbeats 4000000 in
theorem divide_bad {a1 a2 : Option Addr} {l1 l2 c1 c2 : Nat} {xs ys : List Int} {w : World} (n1 n2 : Bool) (h1 : IsB w a1 l1 c1 xs) (h2 : IsB w a2 l2 c2 ys) (hbad : dvOk n1 xs n2 ys = false) :
    Calls Tryd.prog 27 #[.agg #[.bool n1, .slice a1 l1 c1], .agg #[.bool n2, .slice a2 l2 c2]] w fun e w' => e = .returned (.tuple #[.agg #[.bool false, .slice none 0 0], .agg #[.bool false, .slice none 0 0], .int .i64 (dvE n1 xs n2 ys)]) ∧ Below w.heap.size w w' := by
  go_enter Tryd.func27, Tryd.ntmps27
  go_wp2_with fail
  obtain ⟨v0, v1, v2, v3, hb⟩ := alloc4 w (.cells #[.bool n1, .slice a1 l1 c1] 27) (.cells #[.bool n2, .slice a2 l2 c2] 27) (.cells #[.bool false, .slice none 0 0] 27) (.cells #[.bool false, .slice none 0 0] 27)
  have hs4 : ((((w.alloc (.cells #[.bool n1, .slice a1 l1 c1] 27)).alloc (.cells #[.bool n2, .slice a2 l2 c2] 27)).alloc (.cells #[.bool false, .slice none 0 0] 27)).alloc (.cells #[.bool false, .slice none 0 0] 27)).heap.size = w.heap.size + 4 := by simp
  generalize ((((w.alloc (.cells #[.bool n1, .slice a1 l1 c1] 27)).alloc (.cells #[.bool n2, .slice a2 l2 c2] 27)).alloc (.cells #[.bool false, .slice none 0 0] 27)).alloc (.cells #[.bool false, .slice none 0 0] 27)) = w1 at *
  have k1 := h1.below hb
  have k2 := h2.below hb
  refine (right_any n1 k1).mono ?_
  rintro e w2 ⟨rfl, hb2⟩
  have u0 := (hb2.block _ (lt_of_block v0)).trans v0
  have u1 := (hb2.block _ (lt_of_block v1)).trans v1
  have u2 := (hb2.block _ (lt_of_block v2)).trans v2
  have u3 := (hb2.block _ (lt_of_block v3)).trans v3
  have hB2 := below_size hb (Nat.le_refl _) hb2
  have j1 := k1.below hb2
  have j2 := k2.below hb2
  have hsz2 := hb2.size
  rw [hs4] at hsz2
  clear v0 v1 v2 v3 hb hb2 k1 k2 hs4
  obtain ⟨x0, x1, _, _⟩ := intVar u0
  obtain ⟨y0, y1, _, _⟩ := intVar u1
  obtain ⟨p0, p1, pf0, pf1⟩ := intVar u2
  obtain ⟨q0, q1, qf0, qf1⟩ := intVar u3
  cases r1 : rightB n1 xs with
  | false =>
    have e1 : Hid (dvE n1 xs n2 ys = 1) := by show _ = _; simp [dvE, r1]
    go_wp2
    exact bodyPost_ret (v := .tuple #[.agg #[.bool false, .slice none 0 0], .agg #[.bool false, .slice none 0 0], .int .i64 1]) (by simp [results, Tryd.results27, go_sem, p0, p1, q0, q1]) rfl ⟨by rw [e1.out], below_put (b := w.heap.size + 3) (below_put (b := w.heap.size + 2) hB2 (by omega)) (by omega)⟩
  | true =>
    go_wp2_with fail
    refine (right_any n2 j2).mono ?_
    rintro e w3 ⟨rfl, hb3⟩
    have t0 := (hb3.block _ (lt_of_block u0)).trans u0
    have t1 := (hb3.block _ (lt_of_block u1)).trans u1
    have t2 := (hb3.block _ (lt_of_block u2)).trans u2
    have t3 := (hb3.block _ (lt_of_block u3)).trans u3
    have hB3 := below_size hB2 (Nat.le_refl _) hb3
    have hsz3 := Nat.le_trans hsz2 hb3.size
    clear u0 u1 u2 u3 hB2 hb3 j1 j2 x0 x1 y0 y1 p0 p1 pf0 pf1 q0 q1 qf0 qf1
    obtain ⟨x0, x1, _, _⟩ := intVar t0
    obtain ⟨y0, y1, _, _⟩ := intVar t1
    obtain ⟨p0, p1, pf0, pf1⟩ := intVar t2
    obtain ⟨q0, q1, qf0, qf1⟩ := intVar t3
    cases r2 : rightB n2 ys with
    | false =>
      have e1 : Hid (dvE n1 xs n2 ys = 1) := by show _ = _; simp [dvE, r2]
      go_wp2
      exact bodyPost_ret (v := .tuple #[.agg #[.bool false, .slice none 0 0], .agg #[.bool false, .slice none 0 0], .int .i64 1]) (by simp [results, Tryd.results27, go_sem, p0, p1, q0, q1]) rfl ⟨by rw [e1.out], below_put (b := w.heap.size + 3) (below_put (b := w.heap.size + 2) hB3 (by omega)) (by omega)⟩
    | true =>
      have hl : ys.length = 0 := by simpa [dvOk, r1, r2] using hbad
      have e1 : Hid (dvE n1 xs n2 ys = 23) := by show _ = _; simp [dvE, r1, r2, hl]
      obtain rfl : l2 = 0 := by rw [← h2.size, hl]
      go_wp2
      exact bodyPost_ret (v := .tuple #[.agg #[.bool false, .slice none 0 0], .agg #[.bool false, .slice none 0 0], .int .i64 23]) (by simp [results, Tryd.results27, go_sem, p0, p1, q0, q1]) rfl ⟨by rw [e1.out], below_put (b := w.heap.size + 3) (below_put (b := w.heap.size + 2) hB3 (by omega)) (by omega)⟩

theorem divide_any {a1 a2 : Option Addr} {l1 l2 c1 c2 : Nat} {xs ys : List Int} {w : World} (n1 n2 : Bool) (h1 : IsB w a1 l1 c1 xs) (h2 : IsB w a2 l2 c2 ys) :
    Calls Tryd.prog 27 #[.agg #[.bool n1, .slice a1 l1 c1], .agg #[.bool n2, .slice a2 l2 c2]] w fun e w' => ∃ v1 v2, e = .returned (.tuple #[.agg #[.bool (divB n1 xs n2 ys), v1], .agg #[.bool (modB n1 xs n2 ys), v2], .int .i64 (dvE n1 xs n2 ys)]) ∧
      OwnB w' w.heap.size v1 (divM n1 xs n2 ys) ∧ OwnB w' w.heap.size v2 (modM n1 xs n2 ys) ∧ Below w.heap.size w w' := by
  cases hk : dvOk n1 xs n2 ys with
  | false =>
    refine (divide_bad n1 n2 h1 h2 hk).mono ?_
    rintro e w' ⟨rfl, hB⟩
    simp only [divB, divM, modB, modM, hk]
    exact ⟨_, _, rfl, ownB_of (n := 0) (World.ownsRow_nil _ _ _ _) (by simp), ownB_of (n := 0) (World.ownsRow_nil _ _ _ _) (by simp), hB⟩
  | true =>
    have h := hk
    simp only [dvOk, Bool.and_eq_true, decide_eq_true_eq] at h
    obtain ⟨⟨r1, r2⟩, h0⟩ := h
    have e1 : dvE n1 xs n2 ys = 0 := by simp [dvE, r1, r2, h0]
    refine (divide_good n1 n2 h1 h2 r1 r2 (by rw [← h2.size]; omega)).mono ?_
    rintro e w' ⟨v1, v2, rfl, o1, o2, hB⟩
    simp only [divB, divM, modB, modM, hk, e1]
    exact ⟨v1, v2, rfl, o1, o2, hB⟩


set_option maxRecDepth 100000 in
set_option maxHeartbeats 4000000 in
theorem div_any {a1 a2 : Option Addr} {l1 l2 c1 c2 : Nat} {xs ys : List Int} {w : World} (n1 n2 : Bool) (h1 : IsB w a1 l1 c1 xs) (h2 : IsB w a2 l2 c2 ys) :
    Calls Tryd.prog 13 #[.agg #[.bool n1, .slice a1 l1 c1], .agg #[.bool n2, .slice a2 l2 c2]] w fun e w' => ∃ v1, e = .returned (.tuple #[.agg #[.bool (divB n1 xs n2 ys), v1], .int .i64 (dvE n1 xs n2 ys)]) ∧
      OwnB w' w.heap.size v1 (divM n1 xs n2 ys) ∧ Below w.heap.size w w' := by
  go_enter Tryd.func13, Tryd.ntmps13
  go_wp2_with fail
  obtain ⟨v0, v1, v2, hb, hs3⟩ := alloc3 w (.cells #[.bool n1, .slice a1 l1 c1] 27) (.cells #[.bool n2, .slice a2 l2 c2] 27) (.cells #[.bool false, .slice none 0 0] 27)
  generalize (((w.alloc (.cells #[.bool n1, .slice a1 l1 c1] 27)).alloc (.cells #[.bool n2, .slice a2 l2 c2] 27)).alloc (.cells #[.bool false, .slice none 0 0] 27)) = w1 at *
  refine (divide_any n1 n2 (h1.below hb) (h2.below hb)).mono ?_
  rintro e w2 ⟨pv, rv, rfl, oQ, oR, hb2⟩
  rw [hs3] at oQ oR
  have u2 := (hb2.block _ (lt_of_block v2)).trans v2
  have hB2 := below_size hb (Nat.le_refl _) hb2
  have hsz := hb2.size
  rw [hs3] at hsz
  clear v0 v1 v2 hb hb2
  obtain ⟨MQ, HQ⟩ : ∃ MQ, Hid (divM n1 xs n2 ys = MQ) := ⟨_, rfl⟩
  obtain ⟨MR, HR⟩ : ∃ MR, Hid (modM n1 xs n2 ys = MR) := ⟨_, rfl⟩
  obtain ⟨bq, HbQ⟩ : ∃ bq, Hid (divB n1 xs n2 ys = bq) := ⟨_, rfl⟩
  obtain ⟨br, HbR⟩ : ∃ br, Hid (modB n1 xs n2 ys = br) := ⟨_, rfl⟩
  obtain ⟨ee, HE⟩ : ∃ ee, Hid (dvE n1 xs n2 ys = ee) := ⟨_, rfl⟩
  rw [HQ.out] at oQ
  rw [HR.out] at oR
  rw [HbQ.out, HbR.out, HE.out]
  obtain ⟨av, cv, rfl, _⟩ := oQ.2
  obtain ⟨bv, dv, rfl, _⟩ := oR.2
  have hvar' : ∀ o o', ((w2.alloc o).alloc o').heap[w.heap.size + 2]? = some (Obj.cells #[Value.bool false, Value.slice none 0 0] 27) := fun o o' => (Below.heap_alloc _ _ _ (by simp; omega)).trans ((Below.heap_alloc w2 o _ (lt_of_block u2)).trans u2)
  have hc0 := fun o o' => (intVar (hvar' o o')).1
  have hc1 := fun o o' => (intVar (hvar' o o')).2.1
  have hf0 := fun o o' => (intVar (hvar' o o')).2.2.1
  have hf1 := fun o o' => (intVar (hvar' o o')).2.2.2
  have hBo : ∀ o o', Below w.heap.size w ((w2.alloc o).alloc o') := fun o o' => (hB2.alloc hB2.size _).alloc (by simp; omega) _
  clear hvar' u2
  go_wp2
  exact bodyPost_ret (v := .tuple #[.agg #[.bool bq, .slice av MQ.length cv], .int .i64 ee]) (by simp [results, Tryd.results13, go_sem, hc0, hc1]) rfl ⟨_, by rw [HbQ.out, HE.out], by rw [HQ.out]; exact OwnB.put (base := w.heap.size + 3) (b := w.heap.size + 2) (b0 := w.heap.size) ((oQ.alloc _).alloc _) (by omega) (by omega), below_put (b := w.heap.size + 2) (hBo _ _) (by omega)⟩

set_option maxRecDepth 100000 in
set_option maxHeartbeats 4000000 in
theorem mod_any {a1 a2 : Option Addr} {l1 l2 c1 c2 : Nat} {xs ys : List Int} {w : World} (n1 n2 : Bool) (h1 : IsB w a1 l1 c1 xs) (h2 : IsB w a2 l2 c2 ys) :
    Calls Tryd.prog 14 #[.agg #[.bool n1, .slice a1 l1 c1], .agg #[.bool n2, .slice a2 l2 c2]] w fun e w' => ∃ v1, e = .returned (.tuple #[.agg #[.bool (modB n1 xs n2 ys), v1], .int .i64 (dvE n1 xs n2 ys)]) ∧
      OwnB w' w.heap.size v1 (modM n1 xs n2 ys) ∧ Below w.heap.size w w' := by
  go_enter Tryd.func14, Tryd.ntmps14
  go_wp2_with fail
  obtain ⟨v0, v1, v2, hb, hs3⟩ := alloc3 w (.cells #[.bool n1, .slice a1 l1 c1] 27) (.cells #[.bool n2, .slice a2 l2 c2] 27) (.cells #[.bool false, .slice none 0 0] 27)
  generalize (((w.alloc (.cells #[.bool n1, .slice a1 l1 c1] 27)).alloc (.cells #[.bool n2, .slice a2 l2 c2] 27)).alloc (.cells #[.bool false, .slice none 0 0] 27)) = w1 at *
  refine (divide_any n1 n2 (h1.below hb) (h2.below hb)).mono ?_
  rintro e w2 ⟨pv, rv, rfl, oQ, oR, hb2⟩
  rw [hs3] at oQ oR
  have u2 := (hb2.block _ (lt_of_block v2)).trans v2
  have hB2 := below_size hb (Nat.le_refl _) hb2
  have hsz := hb2.size
  rw [hs3] at hsz
  clear v0 v1 v2 hb hb2
  obtain ⟨MQ, HQ⟩ : ∃ MQ, Hid (divM n1 xs n2 ys = MQ) := ⟨_, rfl⟩
  obtain ⟨MR, HR⟩ : ∃ MR, Hid (modM n1 xs n2 ys = MR) := ⟨_, rfl⟩
  obtain ⟨bq, HbQ⟩ : ∃ bq, Hid (divB n1 xs n2 ys = bq) := ⟨_, rfl⟩
  obtain ⟨br, HbR⟩ : ∃ br, Hid (modB n1 xs n2 ys = br) := ⟨_, rfl⟩
  obtain ⟨ee, HE⟩ : ∃ ee, Hid (dvE n1 xs n2 ys = ee) := ⟨_, rfl⟩
  rw [HQ.out] at oQ
  rw [HR.out] at oR
  rw [HbQ.out, HbR.out, HE.out]
  obtain ⟨av, cv, rfl, _⟩ := oQ.2
  obtain ⟨bv, dv, rfl, _⟩ := oR.2
  have hvar' : ∀ o o', ((w2.alloc o).alloc o').heap[w.heap.size + 2]? = some (Obj.cells #[Value.bool false, Value.slice none 0 0] 27) := fun o o' => (Below.heap_alloc _ _ _ (by simp; omega)).trans ((Below.heap_alloc w2 o _ (lt_of_block u2)).trans u2)
  have hc0 := fun o o' => (intVar (hvar' o o')).1
  have hc1 := fun o o' => (intVar (hvar' o o')).2.1
  have hf0 := fun o o' => (intVar (hvar' o o')).2.2.1
  have hf1 := fun o o' => (intVar (hvar' o o')).2.2.2
  have hBo : ∀ o o', Below w.heap.size w ((w2.alloc o).alloc o') := fun o o' => (hB2.alloc hB2.size _).alloc (by simp; omega) _
  clear hvar' u2
  go_wp2
  exact bodyPost_ret (v := .tuple #[.agg #[.bool br, .slice bv MR.length dv], .int .i64 ee]) (by simp [results, Tryd.results14, go_sem, hc0, hc1]) rfl ⟨_, by rw [HbR.out, HE.out], by rw [HR.out]; exact OwnB.put (base := w.heap.size + 3) (b := w.heap.size + 2) (b0 := w.heap.size) ((oR.alloc _).alloc _) (by omega) (by omega), below_put (b := w.heap.size + 2) (hBo _ _) (by omega)⟩
end Go.Proofs.YtgammgdckneoiacDoor
