/- Plain arithmetic of reading a number's bytes: no program. -/
import Derived.Test.YtjfaflmmanjjbaaMath
namespace Go.Proofs.Ytjfaflmmanjjbaa

/-- A number read from place i on, acc read so far: the number, how many bytes, the error. -/
def rd : Nat → Nat → List Int → Nat × Nat × Nat
  | _, _, [] => (0, 0, 10)
  | i, acc, x :: r =>
    if i = 9 ∧ 1 < x then (0, 0, 11)
    else if x < 128 then (if x = 0 ∧ 0 < i then (0, 0, 11) else (acc + x.toNat * 128 ^ i, i + 1, 0))
    else rd (i + 1) (acc + x.toNat % 128 * 128 ^ i) r

theorem rd_bad9 (acc : Nat) (x : Int) (r : List Int) (h : 1 < x) : rd 9 acc (x :: r) = (0, 0, 11) := by
  unfold rd; rw [if_pos ⟨rfl, h⟩]
theorem rd_zero (i acc : Nat) (r : List Int) (h : 0 < i) : rd i acc (0 :: r) = (0, 0, 11) := by
  unfold rd; rw [if_neg (by omega), if_pos (by decide), if_pos ⟨rfl, h⟩]
theorem rd_last (i acc : Nat) (x : Int) (r : List Int) (h1 : ¬ (i = 9 ∧ 1 < x)) (h2 : x < 128) (h3 : ¬ (x = 0 ∧ 0 < i)) : rd i acc (x :: r) = (acc + x.toNat * 128 ^ i, i + 1, 0) := by
  unfold rd; rw [if_neg h1, if_pos h2, if_neg h3]
theorem rd_more (i acc : Nat) (x : Int) (r : List Int) (h1 : i ≠ 9) (h2 : ¬ x < 128) : rd i acc (x :: r) = rd (i + 1) (acc + x.toNat % 128 * 128 ^ i) r := by
  rw [rd, if_neg (by omega), if_neg h2]

theorem rd_uv (ys : List Int) : ∀ (f n i acc : Nat), n * 128 ^ i < 18446744073709551616 → i + f = 9 → (i = 0 ∨ n ≠ 0) →
    rd i acc (uv f n ++ ys) = (acc + n * 128 ^ i, i + (uv f n).length, 0)
  | f, n, i, acc, hn, hf, h0 => by
    have h9 : i = 9 → n < 2 := by
      intro h; subst h
      have : (128 : Nat) ^ 9 = 9223372036854775808 := by decide
      rw [this] at hn; omega
    by_cases hs : n < 128
    · have e : uv f n = [(n : Int)] := by
        cases f with
        | zero => rfl
        | succ f => unfold uv; rw [if_pos hs]
      rw [e, List.singleton_append, rd_last i acc n ys (by omega) (by omega) (by omega)]
      simp
    · cases f with
      | zero => have := h9 (by omega); omega
      | succ f =>
        have e : uv (f + 1) n = ((n % 128 + 128 : Nat) : Int) :: uv f (n / 128) := by
          rw [uv, if_neg hs]
        have hp : n / 128 * 128 ^ (i + 1) + n % 128 * 128 ^ i = n * 128 ^ i := by
          rw [Nat.pow_succ, Nat.mul_comm (128 ^ i) 128, ← Nat.mul_assoc, ← Nat.add_mul]
          congr 1; omega
        rw [e, List.cons_append, rd_more i acc _ _ (by omega) (by omega), rd_uv ys f (n / 128) (i + 1) _ (by omega) (by omega) (by omega)]
        simp only [List.length_cons, Int.toNat_natCast]
        rw [show (n % 128 + 128) % 128 = n % 128 by omega]
        refine Prod.ext ?_ (Prod.ext ?_ rfl) <;> simp only <;> omega
theorem rd_uvar (n : Nat) (h : n < 18446744073709551616) (ys : List Int) : rd 0 0 (uvar n ++ ys) = (n, usz n, 0) := by
  have := rd_uv ys 9 n 0 0 (by simpa using h) (by decide) (.inl rfl)
  rw [show uv 9 n = uvar n from rfl, uvar_length n h] at this
  simpa using this
end Go.Proofs.Ytjfaflmmanjjbaa
