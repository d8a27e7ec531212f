/- Products of bytes with one byte: plain arithmetic, no program. -/
import Derived.Test.YtgammgdckneoiabDoorMath
namespace Go.Proofs.YtgammgdckneoiabDoor

theorem times_step (X K c V k x : Nat) (h : V + c * 256 ^ k = X % 256 ^ k * K) (hx : X / 256 ^ k % 256 = x) :
    ((c + x * K) % 256 * 256 ^ k + V) + (c + x * K) / 256 * 256 ^ (k + 1) = X % 256 ^ (k + 1) * K := by
  rw [show X % 256 ^ (k + 1) = X % 256 ^ k + 256 ^ k * (X / 256 ^ k % 256) by rw [Nat.pow_succ, Nat.mod_mul], hx, Nat.pow_succ, Nat.add_mul (X % 256 ^ k)]
  have e := Nat.mod_add_div (c + x * K) 256
  generalize (c + x * K) % 256 = m at *
  generalize (c + x * K) / 256 = q at *
  generalize 256 ^ k = P at *
  have e' : (m + 256 * q) * P = (c + x * K) * P := by rw [e]
  rw [Nat.add_mul, Nat.add_mul] at e'
  have e1 : q * (P * 256) = 256 * q * P := by rw [Nat.mul_comm 256 q, Nat.mul_assoc, Nat.mul_comm 256 P]
  have e2 : P * x * K = x * K * P := by rw [Nat.mul_comm P x, Nat.mul_assoc, Nat.mul_comm P K, ← Nat.mul_assoc]
  rw [e1, e2]
  omega
theorem times_carry (X K c V k : Nat) (h : V + c * 256 ^ k = X % 256 ^ k * K) (hK : K < 256) : c < 256 := by
  have hP : 0 < 256 ^ k := Nat.pow_pos (by decide)
  have h1 := Nat.mod_lt X hP
  have h2 : X % 256 ^ k * K ≤ 256 ^ k * 255 := Nat.mul_le_mul (by omega) (by omega)
  rcases Nat.lt_or_ge c 256 with h' | h'
  · exact h'
  · have : 256 * 256 ^ k ≤ c * 256 ^ k := Nat.mul_le_mul_right _ h'
    omega
theorem times_end (X K c V k l : Nat) (h : V + c * 256 ^ k = X % 256 ^ k * K) (hK : K < 256) (hX : X < 256 ^ l) (hk : l < k) : c = 0 := by
  rcases Nat.eq_zero_or_pos c with h' | h'
  · exact h'
  · exfalso
    have h1 : 256 ^ (l + 1) ≤ 256 ^ k := Nat.pow_le_pow_right (by decide) hk
    have h2 : 1 * 256 ^ k ≤ c * 256 ^ k := Nat.mul_le_mul_right _ h'
    have h3 : X % 256 ^ k ≤ X := Nat.mod_le _ _
    have h4 : X % 256 ^ k * K ≤ (256 ^ l - 1) * 255 := Nat.mul_le_mul (by omega) (by omega)
    rw [Nat.pow_succ] at h1
    omega
theorem val8_noughts (xs : List Int) : ∀ n : Nat, val8 (xs ++ List.replicate n 0) = val8 xs * 256 ^ n
  | 0 => by simp
  | n + 1 => by
    rw [List.replicate_succ', ← List.append_assoc, val8_snoc, val8_noughts xs n, Nat.pow_succ, Nat.mul_assoc]
    simp
/-- The document's product, one byte of y more. -/
theorem rmul_step (X Y i : Nat) : X * (Y % 256 ^ i) + X * (Y / 256 ^ i % 256) * 256 ^ i = X * (Y % 256 ^ (i + 1)) := by
  rw [Nat.pow_succ, Nat.mod_mul, Nat.mul_add, Nat.mul_comm (256 ^ i), Nat.mul_assoc]
end Go.Proofs.YtgammgdckneoiabDoor
