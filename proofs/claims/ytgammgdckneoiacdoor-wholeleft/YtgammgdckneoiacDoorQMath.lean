/- Division by two digits and more: plain arithmetic, and what quotientDigit makes of an array. -/
import Derived.Test.YtgammgdckneoiacDoorQDigit
import Derived.Test.YtgammgdckneoiacDoorShift
import Derived.Test.YtgammgdckneoiacDoorDivide
namespace Go.Proofs.YtgammgdckneoiacDoor
open Go.RowKit

theorem words_split3 (p k h V : Nat) : words (p + (k + h)) V = words p V ++ (words k (V / 4294967296 ^ p) ++ words h (V / 4294967296 ^ p / 4294967296 ^ k)) := by
  rw [words_app, words_app]
/-- How y is shifted. -/
theorem norm_top (y n1 t l : Nat) (ht : y / 4294967296 ^ n1 = t) (h1 : t < 2 ^ l) (h2 : 2 ^ (l - 1) ≤ t) (hl : 1 ≤ l) (hl2 : l ≤ 32) : y * 2 ^ (32 - l) < 4294967296 ^ (n1 + 1) ∧ 2147483648 ≤ y * 2 ^ (32 - l) / 4294967296 ^ n1 := by
  have hP : 0 < 4294967296 ^ n1 := Nat.pow_pos (by decide)
  have e32 : (2 : Nat) ^ l * 2 ^ (32 - l) = 4294967296 := by rw [← Nat.pow_add, show l + (32 - l) = 32 by omega]
  have e31 : (2 : Nat) ^ (l - 1) * 2 ^ (32 - l) = 2147483648 := by rw [← Nat.pow_add, show l - 1 + (32 - l) = 31 by omega]
  have hs : 0 < 2 ^ (32 - l) := Nat.pow_pos (by decide)
  refine ⟨?_, ?_⟩
  · have hy : y < 2 ^ l * 4294967296 ^ n1 := (Nat.div_lt_iff_lt_mul hP).1 (by rw [ht]; exact h1)
    have := Nat.mul_lt_mul_of_pos_right hy hs
    rw [Nat.pow_succ]
    have e : 2 ^ l * 4294967296 ^ n1 * 2 ^ (32 - l) = 4294967296 ^ n1 * 4294967296 := by rw [Nat.mul_right_comm, e32, Nat.mul_comm]
    rw [e] at this
    exact this
  · rw [Nat.le_div_iff_mul_le hP]
    have h3 : t * 4294967296 ^ n1 ≤ y := by rw [← ht]; exact Nat.div_mul_le_self _ _
    have h4 : 2 ^ (l - 1) * 4294967296 ^ n1 * 2 ^ (32 - l) ≤ y * 2 ^ (32 - l) := Nat.mul_le_mul_right _ (Nat.le_trans (Nat.mul_le_mul_right _ h2) h3)
    rw [Nat.mul_right_comm, e31] at h4
    exact h4
theorem room_top (x y m n1 s M : Nat) (hx : x < 4294967296 ^ m) (hy : 4294967296 ^ n1 ≤ y) (hM : m ≤ n1 + M) : x * 2 ^ s < y * 2 ^ s * 4294967296 ^ M := by
  have h1 : 4294967296 ^ m ≤ 4294967296 ^ n1 * 4294967296 ^ M := by rw [← Nat.pow_add]; exact Nat.pow_le_pow_right (by decide) hM
  have h2 : x < y * 4294967296 ^ M := Nat.lt_of_lt_of_le hx (Nat.le_trans h1 (Nat.mul_le_mul_right _ hy))
  have := Nat.mul_lt_mul_of_pos_right h2 (show 0 < 2 ^ s from Nat.pow_pos (by decide))
  rwa [Nat.mul_right_comm] at this
/-- One digit, in an array of 33 words. -/
theorem qdigit_at (b bt n2 p L T : Nat) (w : World) (hx : Arr w b 77 (words 33 (L % (T * (4294967296 ^ p * 4294967296))))) (hy : Arr w bt 77 (words 33 T)) (hne : b ≠ bt) (hp : p + (n2 + 3) ≤ 33) (hT : T < 4294967296 ^ (n2 + 2)) (hTn : 2147483648 ≤ T / 4294967296 ^ (n2 + 1)) :
    Calls Tryd.prog 49 #[.slice (some ⟨b, p, none⟩) (n2 + 2 + 1) (33 - p), .slice (some ⟨bt, 0, none⟩) (n2 + 2) 33] w fun e w' => e = .returned (.int .u32 ((L / T / 4294967296 ^ p % 4294967296 : Nat) : Int)) ∧ Arr w' b 77 (words 33 (L % (T * 4294967296 ^ p))) ∧ Mostly b w w' := by
  have hT0 : 0 < T := by
    rcases Nat.eq_zero_or_pos T with h | h
    · rw [h] at hTn; simp at hTn
    · exact h
  have hP : 0 < 4294967296 ^ p := Nat.pow_pos (by decide)
  obtain ⟨r1, r2⟩ := rest_digit L T (4294967296 ^ p) hT0 hP
  have hLv : L % (T * (4294967296 ^ p * 4294967296)) < T * (4294967296 ^ p * 4294967296) := Nat.mod_lt _ (Nat.mul_pos hT0 (Nat.mul_pos hP (by decide)))
  obtain ⟨V, hV⟩ : ∃ V, L % (T * (4294967296 ^ p * 4294967296)) = V := ⟨_, rfl⟩
  rw [hV] at hx r1 r2 hLv
  obtain ⟨h, hh⟩ : ∃ h, 33 = p + (n2 + 2 + 1 + h) := ⟨33 - p - (n2 + 3), by omega⟩
  obtain ⟨g, hg⟩ : ∃ g, 33 = n2 + 2 + g := ⟨33 - (n2 + 2), by omega⟩
  have hU : V / 4294967296 ^ p < T * 4294967296 := Nat.div_lt_of_lt_mul (by rw [Nat.mul_left_comm]; exact hLv)
  have hx' := hx
  have hy' := hy
  rw [show words 33 V = words (p + (n2 + 2 + 1 + h)) V by rw [← hh], words_split3] at hx'
  rw [show words 33 T = words (n2 + 2 + g) T by rw [← hg], words_app] at hy'
  have c := qdigit_any b 77 bt 77 33 n2 (33 - p) (V / 4294967296 ^ p) T (words p V) (words h (V / 4294967296 ^ p / 4294967296 ^ (n2 + 2 + 1))) (words g (T / 4294967296 ^ (n2 + 2))) w hx' hy' hne (by omega) (by omega) hT hTn hU
  rw [words_len, r1] at c
  refine c.mono ?_
  rintro e w' ⟨rfl, A, M⟩
  refine ⟨rfl, ?_, M⟩
  have hUT : V / 4294967296 ^ p % T < T := Nat.mod_lt _ hT0
  have hR : L % (T * 4294967296 ^ p) = V % 4294967296 ^ p + 4294967296 ^ p * (V / 4294967296 ^ p % T) := by
    rw [r2, ← r1]
    have d1 := Nat.mod_add_div V (4294967296 ^ p)
    have d2 := Nat.mod_add_div (V / 4294967296 ^ p) T
    generalize V / 4294967296 ^ p = U at *
    have e1 : 4294967296 ^ p * U = 4294967296 ^ p * (U % T) + U / T * T * 4294967296 ^ p := by
      conv => lhs; rw [← d2]
      rw [Nat.mul_add]
      congr 1
      rw [Nat.mul_comm T, Nat.mul_comm (4294967296 ^ p)]
    omega
  have hml := Nat.mod_lt V hP
  have w1 : words p (L % (T * 4294967296 ^ p)) = words p V := by
    rw [← words_mod p (L % (T * 4294967296 ^ p)), hR, Nat.add_mul_mod_self_left, Nat.mod_mod, words_mod]
  have w2 : L % (T * 4294967296 ^ p) / 4294967296 ^ p = V / 4294967296 ^ p % T := by
    rw [hR, Nat.add_mul_div_left _ _ hP, Nat.div_eq_of_lt hml, Nat.zero_add]
  have hB3 : T * 4294967296 ≤ 4294967296 ^ (n2 + 2 + 1) := by rw [Nat.pow_succ _ (n2 + 2)]; exact Nat.mul_le_mul_right _ (Nat.le_of_lt hT)
  have w3 : V / 4294967296 ^ p / 4294967296 ^ (n2 + 2 + 1) = 0 := Nat.div_eq_of_lt (Nat.lt_of_lt_of_le hU hB3)
  have w4 : V / 4294967296 ^ p % T / 4294967296 ^ (n2 + 2 + 1) = 0 := Nat.div_eq_of_lt (Nat.lt_of_lt_of_le hUT (Nat.le_trans (Nat.le_mul_of_pos_right _ (by decide)) hB3))
  rw [show words 33 (L % (T * 4294967296 ^ p)) = words (p + (n2 + 2 + 1 + h)) (L % (T * 4294967296 ^ p)) by rw [← hh], words_split3, w1, w2, w4]
  rw [w3] at A
  exact A
end Go.Proofs.YtgammgdckneoiacDoor
