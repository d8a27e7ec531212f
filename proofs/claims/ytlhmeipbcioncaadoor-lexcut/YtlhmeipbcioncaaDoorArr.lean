/- Arrays of words in a variable's memory. -/
import Derived.Test.YtlhmeipbcioncaaDoorPack
import Derived.Test.YtlhmeipbcioncaaDoorMix
import Derived.Laws.Tables
import Derived.Laws.CopyOwn
import Derived.Laws.CopyRow
namespace Go.Proofs.YtlhmeipbcioncaaDoor
open Go.RowKit

/-- A list of words as cells. -/
def cellsW (xs : List Int) : Array Value := (xs.map (Value.int .u32)).toArray
/-- An array of words that lies in a variable. -/
def Arr (w : World) (b t : Nat) (xs : List Int) : Prop := w.heap[b]? = some (.cells (cellsW xs) t (0, 0))

theorem Arr.lt {w : World} {b t : Nat} {xs : List Int} (h : Arr w b t xs) : b < w.heap.size := lt_of_block h
theorem Arr.cell {w : World} {b t : Nat} {xs : List Int} (h : Arr w b t xs) (i : Nat) (hi : i < xs.length) : w.cell? ⟨b, i, none⟩ = some (.int .u32 (xs.getD i 0)) := by
  rw [cell_of_row w b i _ _ _ h]
  simp [cellsW, hi]
theorem Arr.frozen {w : World} {b t : Nat} {xs : List Int} (h : Arr w b t xs) (i : Nat) : w.frozen? ⟨b, i, none⟩ = false := frozen_of_row w b i _ _ h
theorem Arr.set {w : World} {b t : Nat} {xs : List Int} (h : Arr w b t xs) (i : Nat) (x : Int) : Arr (w.setCell ⟨b, i, none⟩ (.int .u32 x)) b t (xs.set i x) := by
  unfold Arr
  rw [heap_setCell_same w b i _ _ _ h]
  simp [cellsW, List.map_set]
theorem Arr.other {w : World} {b t : Nat} {xs : List Int} (h : Arr w b t xs) {b' i : Nat} {v : Value} (hn : b ≠ b') : Arr (w.setCell ⟨b', i, none⟩ v) b t xs := by
  unfold Arr
  rw [heap_setCell_other _ _ _ _ hn]
  exact h
theorem Arr.below {w w' : World} {b t B : Nat} {xs : List Int} (h : Arr w b t xs) (hb : Below B w w') (hB : b < B) : Arr w' b t xs := (hb.block b hB).trans h
theorem Arr.alloc {w : World} {b t : Nat} {xs : List Int} (h : Arr w b t xs) (o : Obj) : Arr (w.alloc o) b t xs := (Below.heap_alloc w o b h.lt).trans h
theorem Arr.isW {w : World} {b t n : Nat} {xs : List Int} (h : Arr w b t xs) (hn : xs.length = n) (hm : n ≤ 1000) (hx : ∀ x ∈ xs, 0 ≤ x ∧ x < 4294967296) : IsW w (some ⟨b, 0, none⟩) n n xs :=
  ⟨hn, Nat.le_refl _, by unfold maxLen; omega, hx, fun _ => ⟨b, 0, rfl, fun i hi => by rw [Nat.zero_add]; exact h.cell i (by omega)⟩⟩
theorem Arr.isWt {w : World} {b t n k : Nat} {xs : List Int} (h : Arr w b t xs) (hn : xs.length = n) (hk : k ≤ n) (hm : n ≤ 1000) (hx : ∀ x ∈ xs, 0 ≤ x ∧ x < 4294967296) : IsW w (some ⟨b, 0, none⟩) k n (xs.take k) :=
  ⟨by simp; omega, hk, by unfold maxLen; omega, fun x hm => hx x (List.mem_of_mem_take hm), fun _ => ⟨b, 0, rfl, fun i hi => by
    rw [Nat.zero_add, h.cell i (by omega)]
    simp [hi]⟩⟩
/-- A number as an array of n words. -/
def W (n V : Nat) : Value := .agg (cellsW (words n V))

theorem Arr.setW {w : World} {b t : Nat} {xs : List Int} (h : Arr w b t xs) (ys : List Int) : Arr (w.setRow b (cellsW ys)) b t ys := setRow_heap w b _ _ t _ h
theorem Arr.setW_self {w : World} {b t : Nat} {xs : List Int} (h : Arr w b t xs) : w.setRow b (cellsW xs) = w := setRow_self w b _ t _ h
theorem Arr.otherW {w : World} {b t b' : Nat} {xs : List Int} (h : Arr w b t xs) (C : Array Value) (hn : b ≠ b') : Arr (w.setRow b' C) b t xs := (setRow_other w b' b C hn).trans h
theorem Arr.setW_cell {w : World} {b t : Nat} {xs : List Int} (h : Arr w b t xs) (ys : List Int) (i : Nat) (v : Int) : (w.setRow b (cellsW ys)).setCell ⟨b, i, none⟩ (.int .u32 v) = w.setRow b (cellsW (ys.set i v)) := by
  rw [setCell_eq_setRow _ b i _ t (0, 0) _ (h.setW ys), setRow_setRow]
  simp [cellsW, List.map_set]
theorem cellsW_size (xs : List Int) : (cellsW xs).size = xs.length := by simp [cellsW]
theorem cellsW_one (xs : List Int) : (cellsW xs).all (·.oneCell') = true := by
  simp [cellsW, Value.oneCell']
theorem app_getD (a r : List Int) (i : Nat) (h : i < a.length) : (a ++ r).getD i 0 = a.getD i 0 := by
  simp [List.getD, List.getElem?_append_left h]
theorem mix_getD (n a b k i : Nat) (h : i < n) : (mix n a b k).getD i 0 = (((if i < k then a else b) / 4294967296 ^ i % 4294967296 : Nat) : Int) := by
  rw [List.getD_eq_getElem?_getD, mix_get _ _ _ _ _ h]; rfl
theorem app_set (a r : List Int) (i : Nat) (v : Int) (h : i < a.length) : (a ++ r).set i v = a.set i v ++ r := by
  rw [List.set_append_left _ _ h]
end Go.Proofs.YtlhmeipbcioncaaDoor
