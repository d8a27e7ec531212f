/- wire.Sum and the document's own Sum: the same number, for all bytes. -/
import Derived.Test.YtjfaflmmanjjbaaFold
import Derived.Test.YtjfaflmmanjjbaaMath
namespace Go.Proofs.Ytjfaflmmanjjbaa
open Go.RowKit
set_option maxRecDepth 100000

/-- One bit falls out of the register. -/
def cstep (r : Nat) : Nat := if r % 2 = 1 then (r / 2) ^^^ 3988292384 else r / 2
def cstepN : Nat → Nat → Nat
  | 0, r => r
  | m + 1, r => cstep (cstepN m r)
def cbyte (r x : Nat) : Nat := cstepN 8 (r ^^^ x)
/-- The register behind bytes. -/
def creg (xs : List Int) : Nat := xs.foldl (fun r x => cbyte r x.toNat) 4294967295
/-- The sum of bytes. -/
def crc (xs : List Int) : Nat := 4294967295 - creg xs

theorem cstep_lt (r : Nat) (h : r < 4294967296) : cstep r < 4294967296 := by
  unfold cstep
  split
  · exact Nat.xor_lt_two_pow (n := 32) (by omega) (by decide)
  · omega
theorem cstepN_lt (m r : Nat) (h : r < 4294967296) : cstepN m r < 4294967296 := by
  induction m with
  | zero => exact h
  | succ m ih => exact cstep_lt _ ih
theorem cbyte_lt (r x : Nat) (h : r < 4294967296) (hx : x < 256) : cbyte r x < 4294967296 :=
  cstepN_lt 8 _ (Nat.xor_lt_two_pow (n := 32) h (by omega))
theorem cfold_lt : ∀ (xs : List Int) (r : Nat), (∀ x ∈ xs, 0 ≤ x ∧ x < 256) → r < 4294967296 → xs.foldl (fun r x => cbyte r x.toNat) r < 4294967296
  | [], _, _, h => h
  | x :: xs, r, hb, h => by
    rw [List.foldl_cons]
    have := hb x (by simp)
    exact cfold_lt xs _ (fun y hy => hb y (by simp [hy])) (cbyte_lt _ _ h (by omega))
theorem creg_lt (xs : List Int) (h : ∀ x ∈ xs, 0 ≤ x ∧ x < 256) : creg xs < 4294967296 := cfold_lt xs _ h (by decide)
theorem creg_snoc (xs : List Int) (x : Int) : creg (xs ++ [x]) = cbyte (creg xs) x.toNat := by
  unfold creg; rw [List.foldl_append]; rfl

/-- What is known of a slice of bytes that is only read. -/
structure IsB (w : World) (a : Option Addr) (len cap : Nat) (xs : List Int) : Prop where
  size : xs.length = len
  room : len ≤ cap
  most : cap ≤ maxLen
  nil0 : a = none → cap = 0
  byte : ∀ x ∈ xs, 0 ≤ x ∧ x < 256
  cells : 0 < len → ∃ b off, a = some ⟨b, off, none⟩ ∧ ∀ i, i < len → w.cell? ⟨b, off + i, none⟩ = some (.int .u8 (xs.getD i 0))

theorem byteAt (xs : List Int) (hb : ∀ x ∈ xs, 0 ≤ x ∧ x < 256) (k : Nat) (hk : k < xs.length) : ∃ c : Nat, c < 256 ∧ xs.getD k 0 = (c : Int) ∧ Hid (xs.take (k + 1) = xs.take k ++ [(c : Int)]) := by
  have h := hb xs[k] (List.getElem_mem hk)
  refine ⟨xs[k].toNat, by omega, ?_, ?_⟩
  · simp [List.getD, hk]; omega
  · show xs.take (k + 1) = _
    rw [List.take_succ_eq_append_getElem hk]
    congr 2
    omega

theorem xor32 (a b : Nat) (ha : a < 4294967296) (hb : b < 4294967296) : bits .xor .u32 (a : Int) (b : Int) = ((a ^^^ b : Nat) : Int) := u32_xor_nat a b ha hb
theorem and32_1 (a : Nat) (ha : a < 4294967296) : bits .and .u32 (a : Int) 1 = ((a % 2 : Nat) : Int) := by
  have h := bits_mask .u32 32 (by decide) wraps_u32 1 (by decide) (a : Int) (by omega) (by omega)
  simpa using h
theorem ones32 (a : Nat) (ha : a < 4294967296) : bits .xor .u32 IntKind.u32.max (a : Int) = ((4294967295 - a : Nat) : Int) := by
  have e2 : IntKind.u32.max = ((2 ^ 32 - 1 : Nat) : Int) := by decide
  rw [e2, u32_xor_nat _ _ (by decide) ha]
  congr 1
  apply Nat.eq_of_testBit_eq
  intro i
  rw [Nat.testBit_xor, Nat.testBit_two_pow_sub_one, show 4294967295 - a = 2 ^ 32 - (a + 1) by omega, Nat.testBit_two_pow_sub_succ (by omega)]
  by_cases hi : i < 32
  · simp [hi]
  · have : a.testBit i = false := Nat.testBit_lt_two_pow (Nat.lt_of_lt_of_le (show a < 2 ^ 32 by omega) (Nat.pow_le_pow_right (by decide) (by omega)))
    simp [hi, this]
theorem cstep_odd (S : Nat) (h : S % 2 = 1) : cstep S = (S / 2) ^^^ 3988292384 := by unfold cstep; rw [if_pos h]
theorem cstep_even (S : Nat) (h : ¬ S % 2 = 1) : cstep S = S / 2 := by unfold cstep; rw [if_neg h]

end Go.Proofs.Ytjfaflmmanjjbaa
