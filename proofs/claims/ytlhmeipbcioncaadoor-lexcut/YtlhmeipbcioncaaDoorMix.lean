/- Words of 32 bits that are written one behind the other: plain arithmetic, no program. -/
import Derived.Test.YtlhmeipbcioncaaDoorMath
namespace Go.Proofs.YtlhmeipbcioncaaDoor

/-- The first k words of a, the others of b. -/
def mix (n a b k : Nat) : List Int := (words n a).take k ++ (words n b).drop k

theorem mix_len (n a b k : Nat) : (mix n a b k).length = n := by unfold mix; simp [words_len]; omega
theorem words_none (n a i : Nat) (h : n ≤ i) : (words n a)[i]? = none := List.getElem?_eq_none (by rw [words_len]; exact h)
theorem mix_get (n a b k i : Nat) (h : i < n) : (mix n a b k)[i]? = some (((if i < k then a else b) / 4294967296 ^ i % 4294967296 : Nat) : Int) := by
  unfold mix
  by_cases hk : i < k
  · rw [List.getElem?_append_left (by simp [words_len]; omega), List.getElem?_take, if_pos hk, if_pos hk, words_get n a i h]
  · rw [if_neg hk, List.getElem?_append_right (by simp [words_len]; omega), List.getElem?_drop, List.length_take, words_len]
    rw [show k + (i - min k n) = i by omega, words_get n b i h]
theorem mix_zero (n a b : Nat) : mix n a b 0 = words n b := by simp [mix]
theorem mix_full (n a b : Nat) : mix n a b n = words n a := by
  unfold mix
  rw [List.take_of_length_le (by rw [words_len]; exact Nat.le_refl _), List.drop_of_length_le (by rw [words_len]; exact Nat.le_refl _), List.append_nil]
theorem list_ext {n : Nat} {a b : List Int} (ha : a.length = n) (hb : b.length = n) (h : ∀ i, i < n → a[i]? = b[i]?) : a = b := by
  apply List.ext_getElem?
  intro i
  by_cases hi : i < n
  · exact h i hi
  · rw [List.getElem?_eq_none (by omega), List.getElem?_eq_none (by omega)]
theorem mix_up (n a b k : Nat) (h : k < n) : (mix n a b k).set k ((a / 4294967296 ^ k % 4294967296 : Nat) : Int) = mix n a b (k + 1) := by
  refine list_ext (n := n) (by rw [List.length_set, mix_len]) (mix_len _ _ _ _) fun i hi => ?_
  rw [List.getElem?_set, mix_get _ _ _ _ _ hi, mix_get _ _ _ _ _ hi, mix_len]
  by_cases h1 : k = i
  · subst h1; simp [h]
  · rw [if_neg h1]
    by_cases h2 : i < k
    · rw [if_pos h2, if_pos (by omega)]
    · rw [if_neg h2, if_neg (by omega)]
theorem mix_down (n a b k : Nat) (h : k < n) : (mix n a b (k + 1)).set k ((b / 4294967296 ^ k % 4294967296 : Nat) : Int) = mix n a b k := by
  refine list_ext (n := n) (by rw [List.length_set, mix_len]) (mix_len _ _ _ _) fun i hi => ?_
  rw [List.getElem?_set, mix_get _ _ _ _ _ hi, mix_get _ _ _ _ _ hi, mix_len]
  by_cases h1 : k = i
  · subst h1; simp [h]
  · rw [if_neg h1]
    by_cases h2 : i < k
    · rw [if_pos h2, if_pos (by omega)]
    · rw [if_neg h2, if_neg (by omega)]
theorem mix_lt (n a b k : Nat) : ∀ x ∈ mix n a b k, 0 ≤ x ∧ x < 4294967296 := by
  intro x hx
  unfold mix at hx
  rcases List.mem_append.1 hx with hx | hx
  · exact words_lt _ _ x (List.mem_of_mem_take hx)
  · exact words_lt _ _ x (List.mem_of_mem_drop hx)
theorem words_mod (n a : Nat) : words n (a % 4294967296 ^ n) = words n a := by
  refine list_ext (n := n) (words_len _ _) (words_len _ _) fun i hi => ?_
  rw [words_get _ _ _ hi, words_get _ _ _ hi]
  congr 2
  obtain ⟨m, rfl⟩ : ∃ m, n = i + 1 + m := ⟨n - (i + 1), by omega⟩
  rw [Nat.pow_add, Nat.pow_succ, Nat.mul_assoc, Nat.mod_mul_right_div_self, Nat.mod_mul_right_mod]
theorem words_take (n a k : Nat) (h : k ≤ n) : (words n a).take k = words k a := by
  refine list_ext (n := k) (by simp [words_len]; omega) (words_len _ _) fun i hi => ?_
  rw [List.getElem?_take, if_pos hi, words_get _ _ _ (by omega), words_get _ _ _ hi]
theorem words_app (n m a : Nat) : words (n + m) a = words n a ++ words m (a / 4294967296 ^ n) := by
  refine list_ext (n := n + m) (words_len _ _) (by simp [words_len]) fun i hi => ?_
  rw [words_get _ _ _ hi]
  by_cases h : i < n
  · rw [List.getElem?_append_left (by rw [words_len]; exact h), words_get _ _ _ h]
  · rw [List.getElem?_append_right (by rw [words_len]; omega), words_len, words_get _ _ _ (by omega), Nat.div_div_eq_div_mul, ← Nat.pow_add, show n + (i - n) = i by omega]
theorem words_zero : ∀ (n : Nat), words n 0 = List.replicate n 0
  | 0 => rfl
  | n + 1 => by unfold words; simp [words_zero n, List.replicate_succ]
/-- One word more. -/
theorem words_put (n V c q : Nat) (hq : q < n) (h : V / 4294967296 ^ q % 4294967296 + c < 4294967296) :
    (words n V).set q ((V / 4294967296 ^ q % 4294967296 + c : Nat) : Int) = words n (V + c * 4294967296 ^ q) := by
  refine list_ext (n := n) (by rw [List.length_set, words_len]) (words_len _ _) fun i hi => ?_
  rw [List.getElem?_set, words_get _ _ _ hi, words_get _ _ _ hi, words_len]
  have hp : 0 < 4294967296 ^ q := Nat.pow_pos (by decide)
  by_cases h1 : q = i
  · subst h1
    rw [if_pos rfl, if_pos hq, Nat.add_mul_div_right _ _ hp]
    congr 2
    omega
  · rw [if_neg h1]
    congr 2
    by_cases h2 : i < q
    · obtain ⟨m, rfl⟩ : ∃ m, q = i + 1 + m := ⟨q - (i + 1), by omega⟩
      have e : c * 4294967296 ^ (i + 1 + m) = (c * 4294967296 ^ m * 4294967296) * 4294967296 ^ i := by
        rw [Nat.pow_add, Nat.pow_succ]; simp only [Nat.mul_comm, Nat.mul_left_comm, Nat.mul_assoc]
      rw [e, Nat.add_mul_div_right _ _ (Nat.pow_pos (by decide)), Nat.add_mul_mod_self_right]
    · obtain ⟨m, rfl⟩ : ∃ m, i = q + 1 + m := ⟨i - (q + 1), by omega⟩
      have e : ∀ X : Nat, X / 4294967296 ^ (q + 1 + m) = X / 4294967296 ^ q / 4294967296 / 4294967296 ^ m := by
        intro X
        rw [Nat.div_div_eq_div_mul, Nat.div_div_eq_div_mul, Nat.pow_add, Nat.pow_succ, Nat.mul_assoc]
      rw [e, e, Nat.add_mul_div_right _ _ hp]
      congr 2
      omega

/-- What is carried out of the words below P. -/
theorem add_carry (P x y : Nat) (hP : 0 < P) : (x % (P * 4294967296) + y % (P * 4294967296)) / (P * 4294967296) = ((x % P + y % P) / P + (x / P % 4294967296 + y / P % 4294967296)) / 4294967296 := by
  rw [Nat.mod_mul, Nat.mod_mul, ← Nat.div_div_eq_div_mul]
  congr 1
  rw [show x % P + P * (x / P % 4294967296) + (y % P + P * (y / P % 4294967296)) = x % P + y % P + P * (x / P % 4294967296 + y / P % 4294967296) by rw [Nat.mul_add]; omega]
  rw [Nat.add_mul_div_left _ _ hP]
theorem add_word (P x y : Nat) (hP : 0 < P) : (x + y) / P % 4294967296 = ((x % P + y % P) / P + (x / P % 4294967296 + y / P % 4294967296)) % 4294967296 := by
  have e : (x + y) / P = (x % P + y % P) / P + (x / P + y / P) := by
    conv => lhs; rw [← Nat.mod_add_div x P, ← Nat.mod_add_div y P]
    rw [show x % P + P * (x / P) + (y % P + P * (y / P)) = x % P + y % P + P * (x / P + y / P) by rw [Nat.mul_add]; omega]
    rw [Nat.add_mul_div_left _ _ hP]
  rw [e]; omega
theorem carry_le (P x y : Nat) (hP : 0 < P) : (x % P + y % P) / P ≤ 1 := by
  have h1 := Nat.mod_lt x hP
  have h2 := Nat.mod_lt y hP
  have : (x % P + y % P) / P < 2 := Nat.div_lt_of_lt_mul (by omega)
  omega

/-- Times t, and p more. -/
theorem mul_carry (P x t p : Nat) (hP : 0 < P) : (x % (P * 4294967296) * t + p) / (P * 4294967296) = ((x % P * t + p) / P + x / P % 4294967296 * t) / 4294967296 := by
  rw [Nat.mod_mul, ← Nat.div_div_eq_div_mul]
  congr 1
  rw [show (x % P + P * (x / P % 4294967296)) * t + p = x % P * t + p + P * (x / P % 4294967296 * t) by rw [Nat.add_mul, Nat.mul_assoc]; omega]
  rw [Nat.add_mul_div_left _ _ hP]
theorem mul_word (P x t p : Nat) (hP : 0 < P) : (x * t + p) / P % 4294967296 = ((x % P * t + p) / P + x / P % 4294967296 * t) % 4294967296 := by
  have e : (x * t + p) / P = (x % P * t + p) / P + x / P * t := by
    conv => lhs; rw [← Nat.mod_add_div x P]
    rw [show (x % P + P * (x / P)) * t + p = x % P * t + p + P * (x / P * t) by rw [Nat.add_mul, Nat.mul_assoc]; omega]
    rw [Nat.add_mul_div_left _ _ hP]
  rw [e, Nat.add_mod, Nat.mul_mod (x / P), Nat.add_mod _ (x / P % 4294967296 * t), Nat.mul_mod (x / P % 4294967296) t, Nat.mod_mod]

/-- What is lent to the words below P. -/
def lend (P x y : Nat) : Nat := if x % P < y % P then 1 else 0
theorem sub_word (P x y : Nat) (hP : 0 < P) (h : y ≤ x) : (((x - y) / P % 4294967296 : Nat) : Int) = (((x / P % 4294967296 : Nat) : Int) - ((y / P % 4294967296 : Nat) : Int) - ((lend P x y : Nat) : Int)) % 4294967296 := by
  have h1 := Nat.mod_lt x hP
  have h2 := Nat.mod_lt y hP
  have e1 := Nat.mod_add_div x P
  have e2 := Nat.mod_add_div y P
  have hle : y / P ≤ x / P := Nat.div_le_div_right h
  have e : (x - y) / P = x / P - y / P - lend P x y := by
    unfold lend
    by_cases hl : x % P < y % P
    · rw [if_pos hl]
      have hlt : y / P < x / P := by
        rcases Nat.lt_or_ge (y / P) (x / P) with h' | h'
        · exact h'
        · have : x / P = y / P := by omega
          rw [this] at e1; omega
      obtain ⟨d, hd⟩ : ∃ d, x / P = y / P + d + 1 := ⟨x / P - y / P - 1, by omega⟩
      have : x - y = (P + x % P - y % P) + P * d := by
        rw [hd, Nat.mul_add, Nat.mul_add] at e1; omega
      rw [this, Nat.add_mul_div_left _ _ hP, Nat.div_eq_of_lt (by omega)]
      omega
    · rw [if_neg hl]
      obtain ⟨d, hd⟩ : ∃ d, x / P = y / P + d := ⟨x / P - y / P, by omega⟩
      have : x - y = (x % P - y % P) + P * d := by
        rw [hd, Nat.mul_add] at e1; omega
      rw [this, Nat.add_mul_div_left _ _ hP, Nat.div_eq_of_lt (by omega)]
      omega
  have hl1 : lend P x y + y / P ≤ x / P := by
    unfold lend
    split
    · rcases Nat.lt_or_ge (y / P) (x / P) with h' | h'
      · omega
      · have : x / P = y / P := by omega
        rw [this] at e1; omega
    · omega
  rw [e]; omega
theorem lend_step (P x y : Nat) (hP : 0 < P) : lend (P * 4294967296) x y = if (x / P % 4294967296) < (y / P % 4294967296) + lend P x y then 1 else 0 := by
  unfold lend
  rw [Nat.mod_mul, Nat.mod_mul]
  have h1 := Nat.mod_lt x hP
  have h2 := Nat.mod_lt y hP
  generalize x / P % 4294967296 = X
  generalize y / P % 4294967296 = Y
  generalize x % P = a at *
  generalize y % P = b at *
  rcases Nat.lt_trichotomy X Y with h | h | h
  · have : P * (X + 1) ≤ P * Y := Nat.mul_le_mul_left _ h
    rw [Nat.mul_add] at this
    rw [if_pos (by omega), if_pos (by omega)]
  · subst h
    by_cases hl : a < b
    · rw [if_pos (by omega), if_pos hl, if_pos (by omega)]
    · rw [if_neg (by omega), if_neg hl, if_neg (by omega)]
  · have : P * (Y + 1) ≤ P * X := Nat.mul_le_mul_left _ h
    rw [Nat.mul_add] at this
    rw [if_neg (by omega), if_neg (by split <;> omega)]
theorem lend_le (P x y : Nat) : lend P x y ≤ 1 := by unfold lend; split <;> omega

/-- One word of a quotient by one word. -/
theorem div_word (P V d : Nat) (hd : 0 < d) : V / d / P % 4294967296 = (V / (P * 4294967296) % d * 4294967296 + V / P % 4294967296) / d ∧ V / P % d = (V / (P * 4294967296) % d * 4294967296 + V / P % 4294967296) % d := by
  have e0 : V / (P * 4294967296) = V / P / 4294967296 := by rw [Nat.div_div_eq_div_mul]
  have e1 : V / d / P = V / P / d := by rw [Nat.div_div_eq_div_mul, Nat.div_div_eq_div_mul, Nat.mul_comm]
  rw [e0, e1]
  generalize V / P = X
  have hx := Nat.mod_add_div X 4294967296
  have hh := Nat.mod_add_div (X / 4294967296) d
  have hr := Nat.mod_lt (X / 4294967296) hd
  generalize X / 4294967296 % d = r at *
  generalize X / 4294967296 / d = q at *
  have hX : X = (r * 4294967296 + X % 4294967296) + d * (q * 4294967296) := by
    rw [← hh] at hx
    rw [Nat.mul_add] at hx
    have : 4294967296 * (d * q) = d * (q * 4294967296) := by rw [Nat.mul_comm, Nat.mul_assoc]
    omega
  have hlt : (r * 4294967296 + X % 4294967296) / d < 4294967296 := by
    refine Nat.div_lt_of_lt_mul ?_
    have h1 : (r + 1) * 4294967296 ≤ d * 4294967296 := Nat.mul_le_mul_right _ hr
    omega
  obtain ⟨Y, hY⟩ : ∃ Y, r * 4294967296 + X % 4294967296 = Y := ⟨_, rfl⟩
  rw [hY] at hX hlt ⊢
  refine ⟨?_, ?_⟩
  · rw [hX, Nat.add_mul_div_left _ _ hd, Nat.add_mul_mod_self_right, Nat.mod_eq_of_lt hlt]
  · rw [hX, Nat.add_mul_mod_self_left]
end Go.Proofs.YtlhmeipbcioncaaDoor
