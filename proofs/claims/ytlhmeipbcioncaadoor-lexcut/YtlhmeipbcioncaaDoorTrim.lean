/- strings.TrimLeft by one sign, and whole.Text. -/
import Derived.Test.YtlhmeipbcioncaaDoorDec
namespace Go.Proofs.YtlhmeipbcioncaaDoor
open Go.RowKit

/-- How long a string is. -/
def sizeS : Value → Nat
  | .string b => b.size
  | _ => 0

theorem str_head (c : Int) (r : List Int) (h0 : 0 ≤ c) (h1 : c < 256) (hp : 0 < (strOfNums (c :: r)).size) : (((strOfNums (c :: r))[0]'hp).toNat : Int) = c := by
  show ((UInt8.ofNat c.toNat).toNat : Int) = c
  simp; omega
theorem str_tail (c : Int) (r : List Int) : (strOfNums (c :: r)).extract 1 (r.length + 1) = strOfNums r := by
  apply ByteArray.ext
  simp [strOfNums, ByteArray.data_extract]
  exact List.take_of_length_le (by simp)

theorem ret_str {a b : ByteArray} (h : a = b) : Ending.returned (.string a) = .returned (.string b) := by rw [h]
theorem str_neg (xs : List Int) : strOfNums ([45] ++ xs) = (⟨#[45]⟩ : ByteArray) ++ strOfNums xs := by
  unfold strOfNums
  rw [List.map_append]
  rfl

/-- A number's decimal digits. -/
def dec (V : Nat) : List Int := (decN 315 V).dropWhile (· == 48)

theorem drop_le (p : Int → Bool) (l : List Int) : (l.dropWhile p).length ≤ l.length := (List.dropWhile_suffix p).length_le
theorem dec_le (V : Nat) : (dec V).length ≤ 315 := by
  have h := drop_le (· == 48) (decN 315 V)
  rwa [decN_len] at h
theorem isB_arr {w : World} {b t : Nat} {xs : List Int} (h : ArrB w b t xs) (hx : ∀ x ∈ xs, 0 ≤ x ∧ x < 256) (hm : xs.length ≤ 1000) : IsB w (some ⟨b, 0, none⟩) xs.length xs.length xs :=
  ⟨rfl, Nat.le_refl _, by unfold maxLen; omega, by simp, hx, fun _ => ⟨b, 0, rfl, fun i hi => by rw [Nat.zero_add]; exact h.cell i hi⟩⟩

end Go.Proofs.YtlhmeipbcioncaaDoor
