/- Numbers as the whole numbers that they stand for: what Add, Sub, Mul and Cmp make of them. -/
import Derived.Test.YtgammgdckneoiacDoorMul
namespace Go.Proofs.YtgammgdckneoiacDoor
open Go.RowKit

/-- The whole number that a sign and bytes stand for. -/
def Z (n : Bool) (xs : List Int) : Int := if n then -(val8 xs : Int) else (val8 xs : Int)
/-- A whole number's sign and bytes. -/
def cB (z : Int) : Bool := decide (z < 0)
def cM (z : Int) : List Int := mag z.natAbs
/-- It has room in k bytes. -/
def Fit (k : Nat) (z : Int) : Prop := z.natAbs < 256 ^ k

theorem Z_can (z : Int) : Z (cB z) (cM z) = z := by
  unfold Z cB cM
  rw [val8_mag]
  by_cases h : z < 0
  · rw [decide_eq_true h, if_pos rfl]; omega
  · rw [decide_eq_false h, if_neg (by decide)]; omega
theorem cM_byte (z : Int) : ∀ x ∈ cM z, 0 ≤ x ∧ x < 256 := mag_lt _
theorem Fit.mono {k m : Nat} {z : Int} (h : Fit k z) (hk : k ≤ m) : Fit m z := Nat.lt_of_lt_of_le h (Nat.pow_le_pow_right (by decide) hk)
theorem Fit.len {k : Nat} {z : Int} (h : Fit k z) : (cM z).length ≤ k := by unfold cM; rw [mag_len]; exact (blen_le _ _).2 h
theorem Fit.blen {k : Nat} {z : Int} (h : Fit k z) : blen z.natAbs ≤ k := (blen_le _ _).2 h
theorem Fit.add {k : Nat} {x y : Int} (h1 : Fit k x) (h2 : Fit k y) : Fit (k + 1) (x + y) := by
  unfold Fit at *
  rw [Nat.pow_succ]; omega
theorem Fit.sub {k : Nat} {x y : Int} (h1 : Fit k x) (h2 : Fit k y) : Fit (k + 1) (x - y) := by
  unfold Fit at *
  rw [Nat.pow_succ]; omega
theorem Fit.mul {k m : Nat} {x y : Int} (h1 : Fit k x) (h2 : Fit m y) : Fit (k + m) (x * y) := by
  unfold Fit at *
  rw [Int.natAbs_mul, Nat.pow_add]
  exact Nat.mul_lt_mul_of_lt_of_lt h1 h2
theorem mag_first (n : Nat) (h : n ≠ 0) : ∃ b r, mag n = b :: r ∧ b ≠ 0 := by
  have hs := (blen_spec n).2 h
  obtain ⟨k, hk⟩ : ∃ k, blen n = k + 1 := ⟨blen n - 1, by omega⟩
  refine ⟨((n / 256 ^ k % 256 : Nat) : Int), bytesN k n, by unfold mag; rw [hk, bytesN_front], ?_⟩
  have h1 := (blen_spec n).1
  rw [hk, Nat.pow_succ] at h1
  rw [hk, Nat.add_sub_cancel] at hs
  have hp : 0 < 256 ^ k := Nat.pow_pos (by decide)
  have h2 : n / 256 ^ k < 256 := Nat.div_lt_of_lt_mul (by omega)
  have h3 : 1 ≤ n / 256 ^ k := (Nat.le_div_iff_mul_le hp).2 (by omega)
  omega
theorem right_can {z : Int} (h : Fit 128 z) : rightB (cB z) (cM z) = true := by
  have hl := h.len
  by_cases h0 : z.natAbs = 0
  · obtain rfl : z = 0 := by omega
    decide
  · obtain ⟨b, r, e, hb⟩ := mag_first _ h0
    have e' : cM z = b :: r := e
    unfold rightB
    rw [e'] at hl ⊢
    rw [if_neg (by simp), decide_eq_true hl]
    simpa using hb
theorem can_right {n : Bool} {xs : List Int} (h : rightB n xs = true) (hb : ∀ x ∈ xs, 0 ≤ x ∧ x < 256) : n = cB (Z n xs) ∧ xs = cM (Z n xs) := by
  unfold rightB at h
  cases xs with
  | nil =>
    simp at h
    subst h
    decide
  | cons b r =>
    rw [if_neg (by simp)] at h
    simp at h
    obtain ⟨m1, m2⟩ := mag_cons b r hb h.2
    unfold cB cM Z
    cases n
    · rw [if_neg (by decide)]
      refine ⟨?_, ?_⟩
      · symm; apply decide_eq_false; omega
      · rw [Int.natAbs_natCast, m1]
    · rw [if_pos rfl]
      refine ⟨?_, ?_⟩
      · symm; apply decide_eq_true; omega
      · rw [Int.natAbs_neg, Int.natAbs_natCast, m1]
theorem fit_right {n : Bool} {xs : List Int} {k : Nat} (hb : ∀ x ∈ xs, 0 ≤ x ∧ x < 256) (hl : xs.length ≤ k) : Fit k (Z n xs) := by
  have h := Nat.lt_of_lt_of_le (val8_lt xs hb) (Nat.pow_le_pow_right (by decide) hl)
  unfold Fit Z
  cases n
  · rw [if_neg (by decide)]; omega
  · rw [if_pos rfl]; omega

theorem sum_can (x y : Int) : sumMag (cB x) (cB y) x.natAbs y.natAbs = (x + y).natAbs ∧ (x + y ≠ 0 → sumNeg (cB x) (cB y) x.natAbs y.natAbs = cB (x + y)) := by
  unfold sumMag sumNeg cB
  by_cases hx : x < 0 <;> by_cases hy : y < 0
  · rw [decide_eq_true hx, decide_eq_true hy, if_pos rfl, if_pos rfl]
    refine ⟨by omega, fun _ => ?_⟩
    symm; apply decide_eq_true; omega
  · rw [decide_eq_true hx, decide_eq_false hy]
    simp only [Bool.true_eq_false, if_false]
    split
    · refine ⟨by omega, fun _ => ?_⟩
      symm; apply decide_eq_false; omega
    · refine ⟨by omega, fun _ => ?_⟩
      symm; apply decide_eq_true; omega
  · rw [decide_eq_false hx, decide_eq_true hy]
    simp only [Bool.false_eq_true, if_false]
    split
    · refine ⟨by omega, fun _ => ?_⟩
      symm; apply decide_eq_true; omega
    · refine ⟨by omega, fun _ => ?_⟩
      symm; apply decide_eq_false; omega
  · rw [decide_eq_false hx, decide_eq_false hy, if_pos rfl, if_pos rfl]
    refine ⟨by omega, fun _ => ?_⟩
    symm; apply decide_eq_false; omega
theorem fit_can {neg : Bool} {V : Nat} {z : Int} (hV : V = z.natAbs) (hn : z ≠ 0 → neg = cB z) (h : Fit 128 z) : fitB neg V = cB z ∧ fitE V = 0 ∧ fitM V = cM z := by
  have hb := h.blen
  subst hV
  refine ⟨?_, by unfold fitE; rw [if_pos hb], by unfold fitM; rw [if_pos hb]; rfl⟩
  unfold fitB
  rw [decide_eq_true hb, Bool.and_true]
  by_cases h0 : z = 0
  · subst h0; simp [cB]
  · rw [hn h0, decide_eq_true (show z.natAbs ≠ 0 by omega), Bool.and_true]
theorem val8_cM (z : Int) : val8 (cM z) = z.natAbs := val8_mag _
theorem add_can {x y : Int} (h1 : Fit 128 x) (h2 : Fit 128 y) (h : Fit 128 (x + y)) : addB (cB x) (cM x) (cB y) (cB y) (cM y) = cB (x + y) ∧ addE (cB x) (cM x) (cB y) (cB y) (cM y) = 0 ∧ addM (cB x) (cM x) (cB y) (cB y) (cM y) = cM (x + y) := by
  unfold addB addE addM
  rw [right_can h1, right_can h2, val8_cM, val8_cM]
  obtain ⟨e1, e2⟩ := sum_can x y
  exact fit_can e1 e2 h
theorem sub_can {x y : Int} (h1 : Fit 128 x) (h2 : Fit 128 y) (h : Fit 128 (x - y)) : addB (cB x) (cM x) (cB y) (!cB y) (cM y) = cB (x - y) ∧ addE (cB x) (cM x) (cB y) (!cB y) (cM y) = 0 ∧ addM (cB x) (cM x) (cB y) (!cB y) (cM y) = cM (x - y) := by
  unfold addB addE addM
  rw [right_can h1, right_can h2, val8_cM, val8_cM]
  by_cases hy : y = 0
  · subst hy
    have e : sumMag (cB x) (!cB 0) x.natAbs (0 : Int).natAbs = (x - 0).natAbs := by
      unfold sumMag; simp
    refine fit_can e (fun hx => ?_) h
    unfold sumNeg
    simp [cB]
  · have e0 : (!cB y) = cB (-y) := by
      unfold cB
      by_cases h' : y < 0
      · rw [decide_eq_true h', decide_eq_false (by omega)]; rfl
      · rw [decide_eq_false h', decide_eq_true (by omega)]; rfl
    obtain ⟨e1, e2⟩ := sum_can x (-y)
    rw [Int.natAbs_neg] at e1 e2
    rw [e0, Int.sub_eq_add_neg]
    exact fit_can e1 e2 (by rw [← Int.sub_eq_add_neg]; exact h)
theorem mul_can {x y : Int} (h1 : Fit 128 x) (h2 : Fit 128 y) (h : Fit 128 (x * y)) : mulB (cB x) (cM x) (cB y) (cM y) = cB (x * y) ∧ mulE (cB x) (cM x) (cB y) (cM y) = 0 ∧ mulM (cB x) (cM x) (cB y) (cM y) = cM (x * y) := by
  unfold mulB mulE mulM
  rw [right_can h1, right_can h2, val8_cM, val8_cM]
  refine fit_can (Int.natAbs_mul x y).symm (fun hne => ?_) h
  unfold cB
  have hx : x ≠ 0 := fun e => hne (by rw [e, Int.zero_mul])
  have hy : y ≠ 0 := fun e => hne (by rw [e, Int.mul_zero])
  by_cases hx' : x < 0 <;> by_cases hy' : y < 0
  · rw [decide_eq_true hx', decide_eq_true hy', decide_eq_false (by have := Int.mul_pos_of_neg_of_neg hx' hy'; omega)]; rfl
  · rw [decide_eq_true hx', decide_eq_false hy', decide_eq_true (Int.mul_neg_of_neg_of_pos hx' (by omega))]; rfl
  · rw [decide_eq_false hx', decide_eq_true hy', decide_eq_true (Int.mul_neg_of_pos_of_neg (by omega) hy')]; rfl
  · rw [decide_eq_false hx', decide_eq_false hy', decide_eq_false (by have := Int.mul_pos (show 0 < x by omega) (show 0 < y by omega); omega)]; rfl
/-- Which is the lesser one. -/
def sgnZ (x y : Int) : Int := if x < y then -1 else if x = y then 0 else 1
theorem cmp_can {x y : Int} (h1 : Fit 128 x) (h2 : Fit 128 y) : cmpI (cB x) (cM x) (cB y) (cM y) = sgnZ x y := by
  unfold cmpI
  rw [right_can h1, right_can h2, val8_cM, val8_cM]
  unfold cB sgnZ sgn
  by_cases hx : x < 0 <;> by_cases hy : y < 0
  · rw [decide_eq_true hx, decide_eq_true hy]
    simp only [Bool.and_self, if_true, bne_self_eq_false, Bool.false_eq_true, if_false]
    by_cases a : x < y
    · rw [if_pos a, if_pos (by omega)]
    · rw [if_neg a, if_neg (by omega)]
      by_cases b : x = y
      · rw [if_pos b, if_pos (by omega)]
      · rw [if_neg b, if_neg (by omega)]
  · rw [decide_eq_true hx, decide_eq_false hy, if_pos (show x < y by omega)]; rfl
  · rw [decide_eq_false hx, decide_eq_true hy, if_neg (show ¬ x < y by omega), if_neg (show ¬ x = y by omega)]; rfl
  · rw [decide_eq_false hx, decide_eq_false hy]
    simp only [Bool.and_self, if_true, bne_self_eq_false, Bool.false_eq_true, if_false]
    by_cases a : x < y
    · rw [if_pos a, if_pos (by omega)]
    · rw [if_neg a, if_neg (by omega)]
      by_cases b : x = y
      · rw [if_pos b, if_pos (by omega)]
      · rw [if_neg b, if_neg (by omega)]
end Go.Proofs.YtgammgdckneoiacDoor
