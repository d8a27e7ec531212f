/- decimalDigits: a number's decimal digits, noughts ahead. -/
import Derived.Test.YtlhmeipbcioncaaDoorLoad
import Derived.Deep.WholeRow
namespace Go.Proofs.YtlhmeipbcioncaaDoor
open Go.RowKit

/-- The last k decimal digits of a number, the highest first, as signs. -/
def decN : Nat → Nat → List Int
  | 0, _ => []
  | k + 1, n => decN k (n / 10) ++ [((48 + n % 10 : Nat) : Int)]
theorem decN_len : ∀ (k n : Nat), (decN k n).length = k
  | 0, _ => rfl
  | k + 1, n => by unfold decN; simp [decN_len k]
theorem decN_front : ∀ (k n : Nat), decN (k + 1) n = ((48 + n / 10 ^ k % 10 : Nat) : Int) :: decN k n
  | 0, n => by simp [decN]
  | k + 1, n => by
    rw [decN, decN_front k (n / 10), List.cons_append, Nat.div_div_eq_div_mul, Nat.mul_comm, ← Nat.pow_succ]
    rfl
theorem decN_byte : ∀ (k n : Nat), ∀ x ∈ decN k n, 0 ≤ x ∧ x < 256
  | 0, _, x, h => by simp [decN] at h
  | k + 1, n, x, h => by
    unfold decN at h
    rcases List.mem_append.1 h with h | h
    · exact decN_byte k _ x h
    · simp at h; omega
/-- The signs behind k rounds. -/
def decTo (V k : Nat) : List Int := List.replicate (315 - k) 0 ++ decN k V
theorem decTo_len (V k : Nat) (h : k ≤ 315) : (decTo V k).length = 315 := by simp [decTo, decN_len]; omega
theorem decTo_step (V k : Nat) (h : k < 315) : (decTo V k).set (315 - 1 - k) ((48 + V / 10 ^ k % 10 : Nat) : Int) = decTo V (k + 1) := by
  unfold decTo
  obtain ⟨m, hm⟩ : ∃ m, 315 - k = m + 1 := ⟨315 - k - 1, by omega⟩
  rw [hm, show 315 - (k + 1) = m by omega, show 315 - 1 - k = m by omega, List.replicate_succ', List.append_assoc, List.set_append_right _ _ (by simp), decN_front]
  simp
/-- A list of bytes as cells. -/
def cellsB (xs : List Int) : Array Value := (xs.map (Value.int .u8)).toArray
/-- An array of bytes that lies in a variable. -/
def ArrB (w : World) (b t : Nat) (xs : List Int) : Prop := w.heap[b]? = some (.cells (cellsB xs) t (0, 0))
theorem ArrB.lt {w : World} {b t : Nat} {xs : List Int} (h : ArrB w b t xs) : b < w.heap.size := lt_of_block h
theorem ArrB.cell {w : World} {b t : Nat} {xs : List Int} (h : ArrB w b t xs) (i : Nat) (hi : i < xs.length) : w.cell? ⟨b, i, none⟩ = some (.int .u8 (xs.getD i 0)) := by
  rw [cell_of_row w b i _ _ _ h]
  simp [cellsB, hi]
theorem ArrB.frozen {w : World} {b t : Nat} {xs : List Int} (h : ArrB w b t xs) (i : Nat) : w.frozen? ⟨b, i, none⟩ = false := frozen_of_row w b i _ _ h
theorem ArrB.set {w : World} {b t : Nat} {xs : List Int} (h : ArrB w b t xs) (i : Nat) (x : Int) : ArrB (w.setCell ⟨b, i, none⟩ (.int .u8 x)) b t (xs.set i x) := by
  unfold ArrB
  rw [heap_setCell_same w b i _ _ _ h]
  simp [cellsB, List.map_set]
theorem ArrB.other {w : World} {b t : Nat} {xs : List Int} (h : ArrB w b t xs) {b' i : Nat} {v : Value} (hn : b ≠ b') : ArrB (w.setCell ⟨b', i, none⟩ v) b t xs := by
  unfold ArrB
  rw [heap_setCell_other _ _ _ _ hn]
  exact h
theorem ArrB.otherW {w : World} {b t b' : Nat} {xs : List Int} (h : ArrB w b t xs) (C : Array Value) (hn : b ≠ b') : ArrB (w.setRow b' C) b t xs := (setRow_other w b' b C hn).trans h
theorem ArrB.setW {w : World} {b t : Nat} {xs : List Int} (h : ArrB w b t xs) (ys : List Int) : ArrB (w.setRow b (cellsB ys)) b t ys := setRow_heap w b _ _ t _ h
theorem cellsB_size (xs : List Int) : (cellsB xs).size = xs.length := by simp [cellsB]
theorem cellsB_one (xs : List Int) : (cellsB xs).all (·.oneCell') = true := by simp [cellsB, Value.oneCell']

/-- 315 noughts. -/
def noughts : List Int := List.replicate 315 0
theorem decTo_zero (V : Nat) : decTo V 0 = noughts := by
  show List.replicate 315 0 ++ [] = _
  rw [List.append_nil]; rfl
theorem decTo_full (V : Nat) : decTo V 315 = decN 315 V := by simp [decTo]
theorem decTo_byte (V k : Nat) : ∀ x ∈ decTo V k, 0 ≤ x ∧ x < 256 := by
  intro x hx
  unfold decTo at hx
  rcases List.mem_append.1 hx with hx | hx
  · have := List.eq_of_mem_replicate hx; omega
  · exact decN_byte _ _ x hx

theorem wlen_spec (V : Nat) : V < 4294967296 ^ wlen V := by
  unfold wlen
  by_cases h : V = 0
  · simp [h]
  · rw [if_neg h]
    have h1 := Nat.lt_log2_self (n := V)
    rw [show (4294967296 : Nat) = 2 ^ 32 from rfl, ← Nat.pow_mul]
    exact Nat.lt_of_lt_of_le h1 (Nat.pow_le_pow_right (by decide) (by omega))
theorem wlen_le (V n : Nat) (h : V < 4294967296 ^ n) : wlen V ≤ n := by
  unfold wlen
  by_cases h0 : V = 0
  · simp [h0]
  · rw [if_neg h0]
    rw [show (4294967296 : Nat) = 2 ^ 32 from rfl, ← Nat.pow_mul] at h
    have := (Nat.log2_lt h0).2 h
    omega
theorem words_split (n m V : Nat) (h : V < 4294967296 ^ n) : words (n + m) V = words n V ++ words m 0 := by
  rw [words_app, Nat.div_eq_of_lt h]
/-- used, on some of the words that hold all of it. -/
theorem used_part (b tt n V : Nat) (w : World) (h : Arr w b tt (words 32 V)) (hn : n ≤ 32) (hV : V < 4294967296 ^ n) :
    Calls Tryd.prog 87 #[.slice (some ⟨b, 0, none⟩) n 32] w fun e w' => e = .returned (.int .i64 (wlen V : Int)) ∧ w = w' := by
  have hI := h.isWt (words_len 32 V) hn (by decide) (words_lt 32 V)
  rw [words_take 32 V n hn] at hI
  have := used_any hI
  rwa [val32_words n V hV] at this

theorem digit_at (V j i : Nat) (h : i < 9) : V / 1000000000 ^ j % 1000000000 / 10 ^ i % 10 = V / 10 ^ (9 * j + i) % 10 := by
  have e1 : (1000000000 : Nat) ^ j = 10 ^ (9 * j) := by rw [Nat.pow_mul]
  rw [e1, Nat.pow_add, ← Nat.div_div_eq_div_mul]
  generalize V / 10 ^ (9 * j) = X
  obtain ⟨m, hm⟩ : ∃ m, 9 = i + 1 + m := ⟨8 - i, by omega⟩
  have e2 : (1000000000 : Nat) = 10 ^ i * (10 * 10 ^ m) := by
    rw [← Nat.mul_assoc, ← Nat.pow_succ, ← Nat.pow_add, ← hm]
  rw [e2, Nat.mod_mul_right_div_self, Nat.mod_mul_right_mod]

end Go.Proofs.YtlhmeipbcioncaaDoor
