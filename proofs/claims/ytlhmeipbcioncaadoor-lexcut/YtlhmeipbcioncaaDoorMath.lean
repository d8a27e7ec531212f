/- Plain arithmetic of numbers as words of 32 bits, the lowest first, and as bytes, the highest first: no program. -/
import Derived.Lib.BitFns
namespace Go.Proofs.YtlhmeipbcioncaaDoor

/-- The number whose words these are, the lowest first. -/
def val32 : List Int → Nat
  | [] => 0
  | w :: r => w.toNat + 4294967296 * val32 r
/-- The first k words of a number. -/
def words : Nat → Nat → List Int
  | 0, _ => []
  | k + 1, n => ((n % 4294967296 : Nat) : Int) :: words k (n / 4294967296)
/-- The number whose bytes these are, the highest first. -/
def val8 (bs : List Int) : Nat := bs.foldl (fun a b => a * 256 + b.toNat) 0
/-- The last k bytes of a number, the highest first. -/
def bytesN : Nat → Nat → List Int
  | 0, _ => []
  | k + 1, n => bytesN k (n / 256) ++ [((n % 256 : Nat) : Int)]
/-- How many bytes a number has. -/
def blen (n : Nat) : Nat := if n = 0 then 0 else n.log2 / 8 + 1
/-- A number's bytes, the highest first, without noughts ahead. -/
def mag (n : Nat) : List Int := bytesN (blen n) n

theorem words_len : ∀ (k n : Nat), (words k n).length = k
  | 0, _ => rfl
  | k + 1, n => by unfold words; rw [List.length_cons, words_len k]
theorem words_lt : ∀ (k n : Nat), ∀ x ∈ words k n, 0 ≤ x ∧ x < 4294967296
  | 0, _, x, h => by simp [words] at h
  | k + 1, n, x, h => by
    unfold words at h
    rcases List.mem_cons.1 h with rfl | h
    · omega
    · exact words_lt k _ x h
theorem words_get : ∀ (k n i : Nat), i < k → (words k n)[i]? = some ((n / 4294967296 ^ i % 4294967296 : Nat) : Int)
  | 0, _, i, h => by omega
  | k + 1, n, 0, _ => by unfold words; simp
  | k + 1, n, i + 1, h => by
    unfold words
    rw [List.getElem?_cons_succ, words_get k (n / 4294967296) i (by omega), Nat.div_div_eq_div_mul, Nat.pow_succ, Nat.mul_comm]
theorem val32_words : ∀ (k n : Nat), n < 4294967296 ^ k → val32 (words k n) = n
  | 0, n, h => by simp at h; simp [words, val32, h]
  | k + 1, n, h => by
    unfold words val32
    rw [val32_words k _ (by rw [Nat.pow_succ] at h; exact Nat.div_lt_of_lt_mul (by rw [Nat.mul_comm]; exact h))]
    omega
theorem words_val32 : ∀ (ws : List Int), (∀ x ∈ ws, 0 ≤ x ∧ x < 4294967296) → words ws.length (val32 ws) = ws
  | [], _ => rfl
  | w :: r, h => by
    have h0 := h w (by simp)
    have ih := words_val32 r (fun x hx => h x (by simp [hx]))
    rw [List.length_cons]
    unfold words val32
    have e1 : (w.toNat + 4294967296 * val32 r) % 4294967296 = w.toNat := by omega
    have e2 : (w.toNat + 4294967296 * val32 r) / 4294967296 = val32 r := by omega
    rw [e1, e2, ih]
    congr 1
    omega
theorem val32_lt : ∀ (ws : List Int), (∀ x ∈ ws, 0 ≤ x ∧ x < 4294967296) → val32 ws < 4294967296 ^ ws.length
  | [], _ => by simp [val32]
  | w :: r, h => by
    have h0 := h w (by simp)
    have ih := val32_lt r (fun x hx => h x (by simp [hx]))
    unfold val32
    rw [List.length_cons, Nat.pow_succ]
    omega
theorem val32_cons (w : Int) (r : List Int) : val32 (w :: r) = w.toNat + 4294967296 * val32 r := rfl
theorem val32_append : ∀ (a b : List Int), val32 (a ++ b) = val32 a + 4294967296 ^ a.length * val32 b
  | [], b => by simp [val32]
  | w :: r, b => by
    rw [List.cons_append, val32_cons, val32_cons, val32_append r b, List.length_cons, Nat.pow_succ, Nat.mul_add, ← Nat.mul_assoc, Nat.mul_comm 4294967296 (4294967296 ^ r.length)]
    omega

theorem bytesN_len : ∀ (k n : Nat), (bytesN k n).length = k
  | 0, _ => rfl
  | k + 1, n => by unfold bytesN; simp [bytesN_len k]
theorem bytesN_lt : ∀ (k n : Nat), ∀ x ∈ bytesN k n, 0 ≤ x ∧ x < 256
  | 0, _, x, h => by simp [bytesN] at h
  | k + 1, n, x, h => by
    unfold bytesN at h
    rcases List.mem_append.1 h with h | h
    · exact bytesN_lt k _ x h
    · simp at h; omega
theorem val8_snoc (bs : List Int) (b : Int) : val8 (bs ++ [b]) = val8 bs * 256 + b.toNat := by unfold val8; rw [List.foldl_append]; rfl
theorem val8_bytesN : ∀ (k n : Nat), n < 256 ^ k → val8 (bytesN k n) = n
  | 0, n, h => by simp at h; simp [bytesN, val8, h]
  | k + 1, n, h => by
    unfold bytesN
    rw [val8_snoc, val8_bytesN k _ (by rw [Nat.pow_succ] at h; exact Nat.div_lt_of_lt_mul (by rw [Nat.mul_comm]; exact h))]
    omega
theorem blen_spec (n : Nat) : n < 256 ^ blen n ∧ (n ≠ 0 → 256 ^ (blen n - 1) ≤ n ∧ 1 ≤ blen n) := by
  unfold blen
  by_cases h : n = 0
  · simp [h]
  · rw [if_neg h]
    have h1 := Nat.lt_log2_self (n := n)
    have h2 := Nat.log2_self_le h
    have e : ∀ k, 256 ^ k = 2 ^ (8 * k) := fun k => by rw [Nat.pow_mul]
    refine ⟨?_, fun _ => ⟨?_, by omega⟩⟩
    · rw [e]
      exact Nat.lt_of_lt_of_le h1 (Nat.pow_le_pow_right (by decide) (by omega))
    · rw [e, Nat.add_sub_cancel]
      exact Nat.le_trans (Nat.pow_le_pow_right (by decide) (by omega)) h2
theorem blen_unique (n k : Nat) (h1 : n < 256 ^ (k + 1)) (h2 : 256 ^ k ≤ n) : blen n = k + 1 := by
  obtain ⟨a, b⟩ := blen_spec n
  have hpos : 0 < 256 ^ k := Nat.pow_pos (by decide)
  obtain ⟨c, d⟩ := b (by omega)
  have e1 : blen n ≤ k + 1 := by
    by_cases h : blen n ≤ k + 1
    · exact h
    · have : 256 ^ (k + 1) ≤ 256 ^ (blen n - 1) := Nat.pow_le_pow_right (by decide) (by omega)
      omega
  have e2 : k + 1 ≤ blen n := by
    by_cases h : k + 1 ≤ blen n
    · exact h
    · have : 256 ^ (blen n) ≤ 256 ^ k := Nat.pow_le_pow_right (by decide) (by omega)
      omega
  omega
theorem blen_le (n k : Nat) : blen n ≤ k ↔ n < 256 ^ k := by
  obtain ⟨a, b⟩ := blen_spec n
  constructor
  · intro h
    exact Nat.lt_of_lt_of_le a (Nat.pow_le_pow_right (by decide) h)
  · intro h
    by_cases h0 : n = 0
    · simp [blen, h0]
    · obtain ⟨c, d⟩ := b h0
      by_cases h' : blen n ≤ k
      · exact h'
      · have : 256 ^ k ≤ 256 ^ (blen n - 1) := Nat.pow_le_pow_right (by decide) (by omega)
        omega
theorem mag_len (n : Nat) : (mag n).length = blen n := bytesN_len _ _
theorem mag_lt (n : Nat) : ∀ x ∈ mag n, 0 ≤ x ∧ x < 256 := bytesN_lt _ _
theorem val8_mag (n : Nat) : val8 (mag n) = n := val8_bytesN _ _ (blen_spec n).1
theorem mag_zero : mag 0 = [] := rfl
theorem val8_acc : ∀ (bs : List Int) (a : Nat), bs.foldl (fun a b => a * 256 + b.toNat) a = a * 256 ^ bs.length + val8 bs
  | [], a => by simp [val8]
  | b :: r, a => by
    rw [List.foldl_cons, val8_acc r]
    unfold val8
    rw [List.foldl_cons, val8_acc r (0 * 256 + b.toNat), List.length_cons, Nat.pow_succ, Nat.add_mul, Nat.add_mul, Nat.mul_assoc a, Nat.mul_comm 256]
    simp [Nat.add_assoc]
    rfl
theorem val8_cons (b : Int) (r : List Int) : val8 (b :: r) = b.toNat * 256 ^ r.length + val8 r := by
  unfold val8; rw [List.foldl_cons, val8_acc r]
  simp
  rfl
theorem val8_lt : ∀ (bs : List Int), (∀ x ∈ bs, 0 ≤ x ∧ x < 256) → val8 bs < 256 ^ bs.length
  | [], _ => by simp [val8]
  | b :: r, h => by
    have h0 := h b (by simp)
    have ih := val8_lt r (fun x hx => h x (by simp [hx]))
    rw [val8_cons, List.length_cons, Nat.pow_succ]
    have : b.toNat * 256 ^ r.length ≤ 255 * 256 ^ r.length := Nat.mul_le_mul_right _ (by omega)
    omega
end Go.Proofs.YtlhmeipbcioncaaDoor
