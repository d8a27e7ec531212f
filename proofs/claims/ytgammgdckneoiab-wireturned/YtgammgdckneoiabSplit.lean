/- wire.head.split and the document's four: four bytes, the highest first, there and back. -/
import Derived.Test.YtgammgdckneoiabFrame
import Derived.Lib.EndianBits
namespace Go.Proofs.Ytgammgdckneoiab
open Go.RowKit

/-- A number of four bytes, the highest first. -/
def be (a b c d : Nat) : Nat := a * 16777216 + b * 65536 + c * 256 + d

theorem or8 (a : Int) (c : Nat) (h0 : 0 ≤ a) (ha : a < 16777216) (hc : c < 256) : bits .or .u32 (a * 256 % 4294967296) (c : Int) = a * 256 + c := by
  rw [bits_join .u32 32 (by decide) wraps_u32 8 _ _ (by omega) (by omega) (by omega) (by omega) (by omega) (by omega)]
  omega
theorem be_bits (c0 c1 c2 c3 : Nat) (h0 : c0 < 256) (h1 : c1 < 256) (h2 : c2 < 256) (h3 : c3 < 256) :
    bits .or .u32 (bits .or .u32 (bits .or .u32 (bits .or .u32 0 (c0 : Int) * 256 % 4294967296) (c1 : Int) * 256 % 4294967296) (c2 : Int) * 256 % 4294967296) (c3 : Int) = (be c0 c1 c2 c3 : Int) := by
  have e0 : bits .or .u32 0 (c0 : Int) = (c0 : Int) := by
    have := or8 0 c0 (by decide) (by decide) h0
    simpa using this
  rw [e0, or8 _ c1 (by omega) (by omega) h1, or8 _ c2 (by omega) (by omega) h2, or8 _ c3 (by omega) (by omega) h3]
  unfold be
  omega
theorem ret_two {k k' : IntKind} {a b c d : Int} (h : a = b) (h' : c = d) : Ending.returned (.tuple #[.int k a, .int k' c]) = .returned (.tuple #[.int k b, .int k' d]) := by rw [h, h']

set_option maxHeartbeats 2000000 in
theorem split_any (c0 c1 c2 c3 c4 c5 c6 c7 : Nat) (w : World) (h0 : c0 < 256) (h1 : c1 < 256) (h2 : c2 < 256) (h3 : c3 < 256) (h4 : c4 < 256) (h5 : c5 < 256) (h6 : c6 < 256) (h7 : c7 < 256) :
    Calls Try.prog 13 #[.agg #[.int .u8 (c0 : Int), .int .u8 (c1 : Int), .int .u8 (c2 : Int), .int .u8 (c3 : Int), .int .u8 (c4 : Int), .int .u8 (c5 : Int), .int .u8 (c6 : Int), .int .u8 (c7 : Int)]] w fun e w' =>
      e = .returned (.tuple #[.int .u32 (be c0 c1 c2 c3 : Int), .int .u32 (be c4 c5 c6 c7 : Int)]) ∧ Below w.heap.size w w' := by
  go_enter Try.func13, Try.ntmps13
  go_wp2
  refine wp_loop_rounds 5 ?_
  rw [rounds_succ]
  go_wp2
  rw [rounds_succ]
  go_wp2
  rw [rounds_succ]
  go_wp2
  rw [rounds_succ]
  go_wp2
  rw [rounds_succ]
  go_wp2
  go_ret2
  exact ⟨ret_two (be_bits c0 c1 c2 c3 h0 h1 h2 h3) (be_bits c4 c5 c6 c7 h4 h5 h6 h7), (Below.refl _ _).alloc (Nat.le_refl _) _⟩
end Go.Proofs.Ytgammgdckneoiab
