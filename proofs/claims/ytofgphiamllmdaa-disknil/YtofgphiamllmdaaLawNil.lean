/- The walk of DiskNil: a device that is not there. -/
import Derived.Test.YtofgphiamllmdaaKnown
import Derived.Test.YtofgphiamllmdaaNil
namespace Go.Proofs.Ytofgphiamllmdaa
open Go.RowKit

set_option maxRecDepth 100000 in
set_option maxHeartbeats 8000000 in
theorem nil_law (at' n : Int) (v : Value) (w : World) : Calls Try.prog 6 #[.int .i64 at', .int .i64 n, v] w fun e w' => e = .returned (.bool true) ∧ Below w.heap.size w w' := by
  go_enter Try.func6, Try.ntmps6
  go_wp2_with fail
  refine (read_nil at' n w).mono ?_
  rintro e w1 ⟨rfl, rfl⟩
  go_wp2_with fail
  refine (crash_nil v w).mono ?_
  rintro e w1 ⟨rfl, rfl⟩
  go_wp2_with fail
  refine (fail_nil n w).mono ?_
  rintro e w1 ⟨rfl, rfl⟩
  go_wp2_with fail
  refine (full_one w 1).mono ?_
  rintro e w1 ⟨b, rfl, _, hb1⟩
  go_wp2_with fail
  refine (write_nil at' _ w1).mono ?_
  rintro e w2 ⟨rfl, hb2⟩
  have hB2 := below_size hb1 (Nat.le_refl _) hb2
  clear hb1 hb2
  go_wp2_with fail
  refine (flush_nil w2).mono ?_
  rintro e w3 ⟨rfl, rfl⟩
  go_wp2_with fail
  refine (pending_nil w2).mono ?_
  rintro e w3 ⟨rfl, rfl⟩
  go_wp2_with fail
  refine (size_nil w2).mono ?_
  rintro e w3 ⟨rfl, rfl⟩
  go_wp2_with fail
  refine (copy_nil w2).mono ?_
  rintro e w3 ⟨rfl, rfl⟩
  go_wp2_with fail
  refine (known_true w2).mono ?_
  rintro e w4 ⟨rfl, hb4⟩
  have hB4 := below_size hB2 (Nat.le_refl _) hb4
  go_wp2
  go_ret
  exact ⟨rfl, hB4⟩
end Go.Proofs.Ytofgphiamllmdaa
