/- product: two numbers' words, with as many words as both together. -/
import Derived.Test.YtlhmeipbcioncaaDoorDec
import Derived.Test.YtlhmeipbcioncaaDoorMulMath
namespace Go.Proofs.YtlhmeipbcioncaaDoor
open Go.RowKit

theorem Tryd.info64 : (Tryd.prog.info? 87).map (fun i => (i.zero, i.size)) = some (some (.agg (cellsW (words 64 0))), 64) := by kernel_rfl
theorem size64 (V : Nat) : (Tryd.prog.info? 87).map (·.size) = some (cellsW (words 64 V)).size := by
  rw [cellsW_size, words_len]; exact (zero_of_info Tryd.info64).2

theorem mix_cell (n a b k i : Nat) (h : i < n) (hk : k ≤ i) : (mix n a b k).getD i 0 = ((b / 4294967296 ^ i % 4294967296 : Nat) : Int) := by
  rw [mix_getD _ _ _ _ _ h, if_neg (by omega)]
theorem words_getD (n a i : Nat) (h : i < n) : (words n a).getD i 0 = ((a / 4294967296 ^ i % 4294967296 : Nat) : Int) := by
  rw [List.getD_eq_getElem?_getD, words_get _ _ _ h]; rfl

end Go.Proofs.YtlhmeipbcioncaaDoor
