/- load: a number's bytes as words. -/
import Derived.Test.YtlhmeipbcioncaaDoorDiff
import Derived.Test.YtlhmeipbcioncaaDoorMag
import Derived.StillTailTactics
namespace Go.Proofs.YtlhmeipbcioncaaDoor
open Go.RowKit

theorem val8_last (xs : List Int) (k c : Nat) (hk : k < xs.length) (hc : xs.getD (xs.length - 1 - k) 0 = (c : Int)) : val8 (xs.drop (xs.length - (k + 1))) = c * 256 ^ k + val8 (xs.drop (xs.length - k)) := by
  have e : xs.length - (k + 1) = xs.length - 1 - k := by omega
  rw [e, List.drop_eq_getElem_cons (show xs.length - 1 - k < xs.length by omega), val8_cons, show xs.length - 1 - k + 1 = xs.length - k by omega]
  have hg : xs[xs.length - 1 - k]'(by omega) = (c : Int) := by
    rw [← hc]; simp [List.getD, show xs.length - 1 - k < xs.length by omega]
  rw [hg, List.length_drop, show xs.length - (xs.length - k) = k by omega]
  simp

theorem low_or (D c r : Nat) (hr : r < 4) (hD : D < 256 ^ r) (hc : c < 256) : bits .or .u32 (D : Int) ((c : Int) * 2 ^ (8 * r) % 4294967296) = ((D + c * 256 ^ r : Nat) : Int) := by
  match r, hr with
  | 0, _ =>
    rw [bits_join_low .u32 32 (by decide) wraps_u32 0 _ _ (by omega) (by omega) (by omega) (by omega) (by omega) (by omega)]
    omega
  | 1, _ =>
    rw [bits_join_low .u32 32 (by decide) wraps_u32 8 _ _ (by omega) (by omega) (by omega) (by omega) (by omega) (by omega)]
    omega
  | 2, _ =>
    rw [bits_join_low .u32 32 (by decide) wraps_u32 16 _ _ (by omega) (by omega) (by omega) (by omega) (by omega) (by omega)]
    omega
  | 3, _ =>
    rw [bits_join_low .u32 32 (by decide) wraps_u32 24 _ _ (by omega) (by omega) (by omega) (by omega) (by omega) (by omega)]
    omega
theorem low_room (D c r : Nat) (hr : r < 4) (hD : D < 256 ^ r) (hc : c < 256) : D + c * 256 ^ r < 4294967296 := by
  match r, hr with
  | 0, _ => omega
  | 1, _ => omega
  | 2, _ => omega
  | 3, _ => omega
theorem pow_part (k : Nat) : 256 ^ k = 256 ^ (k % 4) * 4294967296 ^ (k / 4) := by
  rw [show (4294967296 : Nat) = 256 ^ 4 from rfl, ← Nat.pow_mul, ← Nat.pow_add]
  congr 1; omega

end Go.Proofs.YtlhmeipbcioncaaDoor
