/- Plain arithmetic of a number's bytes, seven bits each: no program. -/
import Derived.Lib.BitFns
namespace Go.Proofs.Ytjfaflmmanjjbaa

/-- A number's bytes, seven bits each, the lowest first; fuel f. -/
def uv : Nat → Nat → List Int
  | 0, n => [(n : Int)]
  | f + 1, n => if n < 128 then [(n : Int)] else ((n % 128 + 128 : Nat) : Int) :: uv f (n / 128)
/-- The bytes of a number below 2^64. -/
def uvar (n : Nat) : List Int := uv 9 n

def usz (n : Nat) : Nat := (Lib.bitLen (n ||| 1) + 6) / 7

theorem bitLenAux_le : ∀ (f a : Nat), Lib.bitLenAux f a ≤ f
  | 0, _ => Nat.le_refl _
  | f + 1, a => by
    unfold Lib.bitLenAux
    have := bitLenAux_le f (a / 2)
    split <;> omega
theorem bitLen_le64 (a : Nat) : Lib.bitLen a ≤ 64 := bitLenAux_le 64 a
theorem bitLen_mono_aux : ∀ (f a b : Nat), a ≤ b → Lib.bitLenAux f a ≤ Lib.bitLenAux f b
  | 0, _, _, _ => Nat.le_refl _
  | f + 1, a, b, h => by
    unfold Lib.bitLenAux
    have := bitLen_mono_aux f (a / 2) (b / 2) (by omega)
    split <;> split <;> omega
theorem bitLen_mono {a b : Nat} (h : a ≤ b) : Lib.bitLen a ≤ Lib.bitLen b := bitLen_mono_aux 64 a b h
theorem bitLen_pos {a : Nat} (h : a ≠ 0) : 1 ≤ Lib.bitLen a := by
  unfold Lib.bitLen Lib.bitLenAux; rw [if_neg h]; omega
theorem bitLenAux_spec : ∀ (f x : Nat), x < 2 ^ f → x < 2 ^ Lib.bitLenAux f x ∧ (x ≠ 0 → 2 ^ (Lib.bitLenAux f x - 1) ≤ x)
  | 0, x, h => by simp [Lib.bitLenAux] at *; omega
  | f + 1, x, h => by
    have ih := bitLenAux_spec f (x / 2) (by rw [Nat.pow_succ] at h; omega)
    unfold Lib.bitLenAux
    by_cases h0 : x = 0
    · simp [h0]
    · rw [if_neg h0]
      refine ⟨?_, fun _ => ?_⟩
      · rw [Nat.add_comm, Nat.pow_succ]; omega
      · rw [Nat.add_comm, Nat.add_sub_cancel]
        by_cases h1 : x / 2 = 0
        · have : Lib.bitLenAux f (x / 2) = 0 := by rw [h1]; cases f <;> simp [Lib.bitLenAux]
          rw [this]; simp; omega
        · have i2 := ih.2 h1
          have hp : 1 ≤ Lib.bitLenAux f (x / 2) := by
            cases f with
            | zero => simp at h; omega
            | succ f => unfold Lib.bitLenAux; rw [if_neg h1]; omega
          obtain ⟨m, hm⟩ : ∃ m, Lib.bitLenAux f (x / 2) = m + 1 := ⟨Lib.bitLenAux f (x / 2) - 1, by omega⟩
          rw [hm] at i2 ⊢
          rw [Nat.add_sub_cancel] at i2
          rw [Nat.pow_succ]; omega
theorem bitLen_spec (x : Nat) (h : x < 2 ^ 64) : x < 2 ^ Lib.bitLen x ∧ (x ≠ 0 → 2 ^ (Lib.bitLen x - 1) ≤ x) := bitLenAux_spec 64 x h

theorem or_one (n : Nat) : (n ||| 1) = 2 * (n / 2) + 1 := by
  have h1 : (n ||| 1) / 2 = n / 2 := by rw [Nat.or_div_two]; simp
  have h2 : (n ||| 1) % 2 = 1 := by rw [Nat.or_mod_two_eq_one]; right; rfl
  omega
theorem or_one_pos (n : Nat) : 1 ≤ n ||| 1 := by have := or_one n; omega
theorem usz_bd (n : Nat) : 1 ≤ usz n ∧ usz n ≤ 10 := by
  have a := bitLen_le64 (n ||| 1)
  have b := bitLen_pos (a := n ||| 1) (by have := or_one_pos n; omega)
  unfold usz; omega
theorem usz_mono {n m : Nat} (h : n ≤ m) : usz n ≤ usz m := by
  have := bitLen_mono (a := n ||| 1) (b := m ||| 1) (by rw [or_one, or_one]; omega)
  unfold usz; omega

theorem pow128 (s : Nat) : 128 ^ s = 2 ^ (7 * s) := by rw [Nat.pow_mul]
theorem usz_spec (n : Nat) (h : n < 18446744073709551616) : n < 128 ^ usz n ∧ (usz n = 1 ∨ 128 ^ (usz n - 1) ≤ n) := by
  have ho := or_one n
  have hp := or_one_pos n
  have hlt : (n ||| 1) < 2 ^ 64 := Nat.or_lt_two_pow h (by decide)
  obtain ⟨s1, s2⟩ := bitLen_spec (n ||| 1) hlt
  have s2 := s2 (by omega)
  have hL := bitLen_pos (a := n ||| 1) (by omega)
  have hu : usz n = (Lib.bitLen (n ||| 1) + 6) / 7 := rfl
  generalize hLL : Lib.bitLen (n ||| 1) = L at *
  generalize hss : usz n = s at *
  constructor
  · have : 2 ^ L ≤ 128 ^ s := by rw [pow128]; exact Nat.pow_le_pow_right (by decide) (by omega)
    omega
  · by_cases hs : s = 1
    · exact .inl hs
    · right
      obtain ⟨t, rfl⟩ : ∃ t, s = t + 2 := ⟨s - 2, by omega⟩
      have : 128 ^ (t + 1) ≤ 2 ^ (L - 1) := by rw [pow128]; exact Nat.pow_le_pow_right (by decide) (by omega)
      rw [show t + 2 - 1 = t + 1 by omega]
      rw [Nat.pow_succ] at this ⊢
      omega

theorem uv_eq : ∀ (s f n : Nat), s ≤ f → n < 128 ^ (s + 1) → (s = 0 ∨ 128 ^ s ≤ n) →
    uv f n = (List.range s).map (fun j => ((n / 128 ^ j % 128 + 128 : Nat) : Int)) ++ [((n / 128 ^ s % 128 : Nat) : Int)]
  | 0, f, n, _, h, _ => by
    have h' : n < 128 := by simpa using h
    cases f with
    | zero => simp [uv]; omega
    | succ f => simp [uv, h']; omega
  | s + 1, f, n, hf, h, hb => by
    have hb' : 128 ^ (s + 1) ≤ n := by rcases hb with hb | hb <;> omega
    have hpos : 0 < 128 ^ s := Nat.pow_pos (by decide)
    have h128 : 128 ≤ n := by rw [Nat.pow_succ] at hb'; omega
    obtain ⟨g, rfl⟩ : ∃ g, f = g + 1 := ⟨f - 1, by omega⟩
    have ih := uv_eq s g (n / 128) (by omega) (by rw [Nat.pow_succ] at h; exact Nat.div_lt_of_lt_mul (by rw [Nat.mul_comm]; exact h)) (.inr (by rw [Nat.le_div_iff_mul_le (by decide)]; rw [Nat.pow_succ] at hb'; exact hb'))
    have hd : ∀ j, n / 128 / 128 ^ j = n / 128 ^ (j + 1) := fun j => by rw [Nat.div_div_eq_div_mul, Nat.pow_succ, Nat.mul_comm]
    unfold uv
    rw [if_neg (by omega), ih, List.range_succ_eq_map]
    simp only [List.map_cons, List.map_map, List.cons_append, hd]
    simp [Function.comp_def]

theorem uvar_eq (n : Nat) (h : n < 18446744073709551616) :
    uvar n = (List.range (usz n - 1)).map (fun j => ((n / 128 ^ j % 128 + 128 : Nat) : Int)) ++ [((n / 128 ^ (usz n - 1) % 128 : Nat) : Int)] := by
  obtain ⟨a, b⟩ := usz_spec n h
  obtain ⟨c, d⟩ := usz_bd n
  refine uv_eq (usz n - 1) 9 n (by omega) (by rw [Nat.sub_add_cancel c]; exact a) ?_
  rcases b with b | b
  · left; omega
  · exact .inr b
theorem uvar_length (n : Nat) (h : n < 18446744073709551616) : (uvar n).length = usz n := by
  have := usz_bd n
  rw [uvar_eq n h]; simp; omega
theorem uv_byte : ∀ (f n : Nat), n < 128 ^ (f + 1) → ∀ x ∈ uv f n, 0 ≤ x ∧ x < 256
  | 0, n, h, x, hx => by
    have h' : n < 128 := by simpa using h
    simp [uv] at hx; omega
  | f + 1, n, h, x, hx => by
    unfold uv at hx
    split at hx
    · simp at hx; omega
    · rcases List.mem_cons.1 hx with rfl | hx
      · omega
      · exact uv_byte f (n / 128) (by rw [Nat.pow_succ] at h; exact Nat.div_lt_of_lt_mul (by rw [Nat.mul_comm]; exact h)) x hx
theorem uvar_byte (n : Nat) (h : n < 18446744073709551616) : ∀ x ∈ uvar n, 0 ≤ x ∧ x < 256 :=
  uv_byte 9 n (Nat.lt_of_lt_of_le h (by decide))
end Go.Proofs.Ytjfaflmmanjjbaa
