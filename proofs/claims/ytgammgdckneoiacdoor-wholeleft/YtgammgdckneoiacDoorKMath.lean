/- Division by hand, digit by digit: plain arithmetic, no program. -/
import Derived.Test.YtgammgdckneoiacDoorMix
namespace Go.Proofs.YtgammgdckneoiacDoor

/-- The guess by three digits and two, from above: what stays true from round to round. -/
theorem guess_first (B H y0 y1 x2 : Nat) (h0 : 0 < y0) (hx2 : x2 < B) : (H * B + x2) / (y0 * B + y1) ≤ H / y0 := by
  rw [Nat.le_div_iff_mul_le h0]
  have h1 := Nat.div_mul_le_self (H * B + x2) (y0 * B + y1)
  generalize (H * B + x2) / (y0 * B + y1) = q at *
  rw [Nat.mul_add, ← Nat.mul_assoc] at h1
  have : q * y0 * B < (H + 1) * B := by rw [Nat.add_mul, Nat.one_mul]; omega
  exact Nat.le_of_lt_succ (Nat.lt_of_mul_lt_mul_right this)
/-- One less, where it was too many. -/
theorem guess_step (B H y0 y1 x2 o r : Nat) (hy : 0 < y0 * B + y1) (he : o * y0 + r = H) (hgo : B ≤ o ∨ r * B + x2 < o * y1) (hB : 0 < B) (hm : min ((H * B + x2) / (y0 * B + y1)) (B - 1) ≤ o) :
    1 ≤ o ∧ min ((H * B + x2) / (y0 * B + y1)) (B - 1) ≤ o - 1 := by
  rcases hgo with h | h
  · generalize (H * B + x2) / (y0 * B + y1) = Q at *
    exact ⟨by omega, by omega⟩
  · have hlt : (H * B + x2) / (y0 * B + y1) < o := by
      rw [Nat.div_lt_iff_lt_mul hy, Nat.mul_add, ← Nat.mul_assoc, ← he, Nat.add_mul]
      omega
    generalize (H * B + x2) / (y0 * B + y1) = Q at *
    exact ⟨by omega, by omega⟩
theorem guess_last (B H y0 y1 x2 o r : Nat) (hy : 0 < y0 * B + y1) (he : o * y0 + r = H) (hle : o * y1 ≤ r * B + x2) : o ≤ (H * B + x2) / (y0 * B + y1) := by
  rw [Nat.le_div_iff_mul_le hy, Nat.mul_add, ← Nat.mul_assoc, ← he, Nat.add_mul]
  omega
/-- The guess is right, or one too many. -/
theorem guess_near (U V X3 y2 P lo ly q : Nat) (hU : U = X3 * P + lo) (hV : V = y2 * P + ly) (hlo : lo < P) (hly : ly < P) (hq : q = U / V) (hV0 : 0 < V) (hUV : U < V * 4294967296) (hy2 : 4294967296 ≤ y2) :
    q ≤ min (X3 / y2) 4294967295 ∧ X3 / y2 ≤ q + 1 ∧ q ≤ 4294967295 := by
  have hy0 : 0 < y2 := by omega
  have hq1 : q * V ≤ U := by rw [hq]; exact Nat.div_mul_le_self _ _
  have hq2 : U < (q + 1) * V := by rw [hq, Nat.mul_comm]; exact Nat.lt_mul_div_succ U hV0
  have hqB : q ≤ 4294967295 := by
    have : q < 4294967296 := by rw [hq]; exact Nat.div_lt_of_lt_mul hUV
    omega
  have hP : 0 < P := by omega
  have a : q ≤ X3 / y2 := by
    rw [Nat.le_div_iff_mul_le hy0]
    rw [hU, hV, Nat.mul_add, ← Nat.mul_assoc] at hq1
    have : q * y2 * P < (X3 + 1) * P := by rw [Nat.add_mul, Nat.one_mul]; omega
    exact Nat.le_of_lt_succ (Nat.lt_of_mul_lt_mul_right this)
  refine ⟨by omega, ?_, hqB⟩
  have b : X3 < (q + 1) * (y2 + 1) := by
    rw [hU, hV] at hq2
    have h1 : (q + 1) * (y2 * P + ly) < (q + 1) * ((y2 + 1) * P) := Nat.mul_lt_mul_of_pos_left (by rw [Nat.add_mul, Nat.one_mul]; omega) (by omega)
    rw [← Nat.mul_assoc] at h1
    have : X3 * P < (q + 1) * (y2 + 1) * P := by omega
    exact Nat.lt_of_mul_lt_mul_right this
  have c : X3 < (q + 1 + 1) * y2 := by
    rw [Nat.mul_add, Nat.mul_one] at b
    rw [Nat.add_mul (q + 1) 1, Nat.one_mul]
    omega
  exact Nat.le_of_lt_succ ((Nat.div_lt_iff_lt_mul hy0).2 c)

/-- Behind the digits from the place P on are taken. -/
theorem rest_digit (L T P : Nat) (hT : 0 < T) (hP : 0 < P) : L % (T * (P * 4294967296)) / P / T = L / T / P % 4294967296 ∧ L % (T * P) = L % (T * (P * 4294967296)) - (L / T / P % 4294967296) * T * P := by
  have e1 : L % (T * (P * 4294967296)) = L % (T * P) + T * P * (L / (T * P) % 4294967296) := by rw [← Nat.mul_assoc, Nat.mod_mul]
  have e2 : L / T / P = L / (T * P) := by rw [Nat.div_div_eq_div_mul]
  have hTP : 0 < T * P := Nat.mul_pos hT hP
  refine ⟨?_, ?_⟩
  · rw [Nat.div_div_eq_div_mul, Nat.mul_comm P T, e1, Nat.add_mul_div_left _ _ hTP, Nat.div_eq_of_lt (Nat.mod_lt _ hTP), Nat.zero_add, e2]
  · rw [e1, e2]
    have : L / (T * P) % 4294967296 * T * P = T * P * (L / (T * P) % 4294967296) := by rw [Nat.mul_assoc, Nat.mul_comm]
    rw [this]; omega
end Go.Proofs.YtgammgdckneoiacDoor
