/- wire.makeHead: a number and a sum as eight bytes, the highest first. -/
import Derived.Test.YtgammgdckneoiabIsB
namespace Go.Proofs.Ytgammgdckneoiab
open Go.RowKit

set_option maxHeartbeats 2000000 in
theorem makeHead_any (n m : Int) (w : World) (h0 : 0 ≤ n) (h1 : n < 4294967296) (g0 : 0 ≤ m) (g1 : m < 4294967296) :
    Calls Try.prog 8 #[.int .u32 n, .int .u32 m] w fun e w' => e = .returned (.agg #[.int .u8 (n / 16777216), .int .u8 (n / 65536 % 256), .int .u8 (n / 256 % 256), .int .u8 (n % 256), .int .u8 (m / 16777216), .int .u8 (m / 65536 % 256), .int .u8 (m / 256 % 256), .int .u8 (m % 256)]) ∧ ∃ c1 c2 : Array Value, w' = (w.alloc (.cells c1 33)).alloc (.cells c2 33) := by
  go_enter Try.func8, Try.ntmps8
  go_wp2
  refine wp_loop_rounds 5 ?_
  rw [rounds_succ]
  go_wp2
  rw [rounds_succ]
  go_wp2
  rw [rounds_succ]
  go_wp2
  rw [rounds_succ]
  go_wp2
  rw [rounds_succ]
  go_wp2
  refine bodyPost_ret (v := .agg #[.int .u8 (n / 16777216), .int .u8 (n / 65536 % 256), .int .u8 (n / 256 % 256), .int .u8 (n % 256), .int .u8 (m / 16777216), .int .u8 (m / 65536 % 256), .int .u8 (m / 256 % 256), .int .u8 (m % 256)]) ?_ rfl ?_
  · simp [results, Try.results8, go_sem]
  · exact ⟨rfl, _, _, rfl⟩
end Go.Proofs.Ytgammgdckneoiab
