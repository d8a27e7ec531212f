/- Products, word by word and byte by byte: plain arithmetic, no program. -/
import Derived.Test.YtlhmeipbcioncaaDoorMix
namespace Go.Proofs.YtlhmeipbcioncaaDoor

/-- What is carried out of the first words of a product that is added onto T at the place P, where y's words below Q are taken. -/
def mulC (T X y P Q : Nat) : Nat := (T % (P * Q) + X * (y % Q) * P) / (P * Q)

theorem mulC_one (T X y P : Nat) (hP : 0 < P) : mulC T X y P 1 = 0 := by
  unfold mulC
  rw [Nat.mod_one, Nat.mul_zero, Nat.zero_mul, Nat.add_zero, Nat.mul_one]
  exact Nat.div_eq_of_lt (Nat.mod_lt _ hP)
theorem mulC_all (T X y P Q : Nat) (hT : T < P * Q) (hy : y < Q) : mulC T X y P Q = (T + X * y * P) / (P * Q) := by
  unfold mulC
  rw [Nat.mod_eq_of_lt hT, Nat.mod_eq_of_lt hy]
theorem mulC_lt (T X y P Q : Nat) (hP : 0 < P) (hQ : 0 < Q) (hX : X < 4294967296) : mulC T X y P Q < 4294967296 := by
  unfold mulC
  refine Nat.div_lt_of_lt_mul ?_
  have h1 : T % (P * Q) < P * Q := Nat.mod_lt _ (Nat.mul_pos hP hQ)
  have h2 : y % Q ≤ Q - 1 := by have := Nat.mod_lt y hQ; omega
  have h3 : X * (y % Q) * P ≤ 4294967295 * (Q - 1) * P := Nat.mul_le_mul_right _ (Nat.mul_le_mul (by omega) h2)
  obtain ⟨q, rfl⟩ : ∃ q, Q = q + 1 := ⟨Q - 1, by omega⟩
  rw [Nat.add_sub_cancel] at h3
  have e1 : 4294967295 * q * P = 4294967295 * (P * q) := by rw [Nat.mul_assoc, Nat.mul_comm q P]
  rw [e1] at h3
  rw [Nat.mul_add, Nat.mul_one] at h1 ⊢
  omega
/-- One word more. -/
theorem mulC_sum (T X y P Q : Nat) (hP : 0 < P) (hQ : 0 < Q) : (T % (P * Q * 4294967296) + X * (y % (Q * 4294967296)) * P) / (P * Q) = mulC T X y P Q + (X * (y / Q % 4294967296) + T / (P * Q) % 4294967296) := by
  unfold mulC
  rw [Nat.mod_mul (x := T) (a := P * Q), Nat.mod_mul (x := y) (a := Q)]
  have e : X * (y % Q + Q * (y / Q % 4294967296)) * P = X * (y % Q) * P + P * Q * (X * (y / Q % 4294967296)) := by
    rw [Nat.mul_add, Nat.add_mul]
    congr 1
    simp only [Nat.mul_comm, Nat.mul_left_comm, Nat.mul_assoc]
  rw [e, show T % (P * Q) + P * Q * (T / (P * Q) % 4294967296) + (X * (y % Q) * P + P * Q * (X * (y / Q % 4294967296))) = T % (P * Q) + X * (y % Q) * P + P * Q * (X * (y / Q % 4294967296) + T / (P * Q) % 4294967296) by rw [Nat.mul_add]; omega]
  rw [Nat.add_mul_div_left _ _ (Nat.mul_pos hP hQ)]
theorem mulC_next (T X y P Q : Nat) (hP : 0 < P) (hQ : 0 < Q) : mulC T X y P (Q * 4294967296) = (mulC T X y P Q + (X * (y / Q % 4294967296) + T / (P * Q) % 4294967296)) / 4294967296 := by
  rw [← mulC_sum T X y P Q hP hQ]
  conv => lhs; unfold mulC
  rw [← Nat.mul_assoc, Nat.div_div_eq_div_mul]
theorem mulC_word (T X y P Q : Nat) (hP : 0 < P) (hQ : 0 < Q) : (T + X * y * P) / (P * Q) % 4294967296 = (mulC T X y P Q + (X * (y / Q % 4294967296) + T / (P * Q) % 4294967296)) % 4294967296 := by
  rw [← mulC_sum T X y P Q hP hQ]
  have hPQ := Nat.mul_pos hP hQ
  have e1 : T = T % (P * Q * 4294967296) + P * Q * 4294967296 * (T / (P * Q * 4294967296)) := (Nat.mod_add_div _ _).symm
  have e2 : y = y % (Q * 4294967296) + Q * 4294967296 * (y / (Q * 4294967296)) := (Nat.mod_add_div _ _).symm
  have e : T + X * y * P = T % (P * Q * 4294967296) + X * (y % (Q * 4294967296)) * P + P * Q * (4294967296 * (T / (P * Q * 4294967296) + X * (y / (Q * 4294967296)))) := by
    conv => lhs; rw [e1, e2]
    rw [Nat.mul_add X, Nat.add_mul, Nat.mul_add 4294967296, Nat.mul_add (P * Q)]
    have f1 : P * Q * 4294967296 * (T / (P * Q * 4294967296)) = P * Q * (4294967296 * (T / (P * Q * 4294967296))) := by rw [Nat.mul_assoc (P * Q)]
    have f2 : X * (Q * 4294967296 * (y / (Q * 4294967296))) * P = P * Q * (4294967296 * (X * (y / (Q * 4294967296)))) := by simp only [Nat.mul_comm, Nat.mul_left_comm, Nat.mul_assoc]
    rw [f1, f2]
    omega
  rw [e, Nat.add_mul_div_left _ _ hPQ, Nat.add_mul_mod_self_left]
theorem mul_top (x y k : Nat) : x % 4294967296 ^ (k + 1) * y = x % 4294967296 ^ k * y + x / 4294967296 ^ k % 4294967296 * y * 4294967296 ^ k := by
  rw [Nat.pow_succ, Nat.mod_mul, Nat.add_mul]
  congr 1
  simp only [Nat.mul_comm, Nat.mul_left_comm]
theorem mul64 (c x y p : Nat) (hc : c < 4294967296) (hx : x < 4294967296) (hy : y < 4294967296) (hp : p < 4294967296) : c + (x * y + p) < 18446744073709551616 ∧ x * y + p < 18446744073709551616 ∧ x * y < 18446744073709551616 := by
  have : x * y ≤ 4294967295 * 4294967295 := Nat.mul_le_mul (by omega) (by omega)
  omega
/-- Words beyond both numbers are nought. -/
theorem mix_end (n a b k : Nat) (ha : a < 4294967296 ^ k) (hb : b < 4294967296 ^ k) : mix n a b k = words n a := by
  refine list_ext (n := n) (mix_len _ _ _ _) (words_len _ _) fun i hi => ?_
  rw [mix_get _ _ _ _ _ hi, words_get _ _ _ hi]
  congr 2
  by_cases h : i < k
  · rw [if_pos h]
  · rw [if_neg h]
    have hp : 4294967296 ^ k ≤ 4294967296 ^ i := Nat.pow_le_pow_right (by decide) (by omega)
    rw [Nat.div_eq_of_lt (by omega), Nat.div_eq_of_lt (by omega)]
end Go.Proofs.YtlhmeipbcioncaaDoor
