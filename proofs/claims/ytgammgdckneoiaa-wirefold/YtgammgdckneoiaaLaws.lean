/- The walks of lapidarylaw01.WireFold and WireShort: for every input the call answers true, and writes nothing that was there. -/
import Derived.Test.YtgammgdckneoiaaKnown
namespace Go.Proofs.Ytgammgdckneoiaa
open Go.RowKit

theorem fold_to (n z : Int) (w : World) (h0 : -9223372036854775808 ≤ n) (h1 : n ≤ 9223372036854775807) (hz : Hid (zz n = z)) :
    Calls Try.prog 16 #[.int .i64 n] w fun e w' => e = .returned (.int .u64 z) ∧ w = w' := by
  refine (fold_any n w h0 h1).mono ?_
  rintro e w' ⟨rfl, rfl⟩
  exact ⟨ret_int hz.out, rfl⟩
theorem rfold_to (n z : Int) (w : World) (h0 : -9223372036854775808 ≤ n) (h1 : n ≤ 9223372036854775807) (hz : Hid (zz n = z)) :
    Calls Try.prog 17 #[.int .i64 n] w fun e w' => e = .returned (.int .u64 z) ∧ w = w' := by
  refine (rfold_any n w h0 h1).mono ?_
  rintro e w' ⟨rfl, rfl⟩
  exact ⟨ret_int hz.out, rfl⟩
theorem unfold_to (n z : Int) (w : World) (h0 : 0 ≤ n) (h1 : n ≤ 18446744073709551615) (hz : Hid (unzz n = z)) :
    Calls Try.prog 18 #[.int .u64 n] w fun e w' => e = .returned (.int .i64 z) ∧ w = w' := by
  refine (unfold_any n w h0 h1).mono ?_
  rintro e w' ⟨rfl, rfl⟩
  exact ⟨ret_int hz.out, rfl⟩
theorem runfold_to (n z : Int) (w : World) (h0 : 0 ≤ n) (h1 : n ≤ 18446744073709551615) (hz : Hid (unzz n = z)) :
    Calls Try.prog 19 #[.int .u64 n] w fun e w' => e = .returned (.int .i64 z) ∧ w = w' := by
  refine (runfold_any n w h0 h1).mono ?_
  rintro e w' ⟨rfl, rfl⟩
  exact ⟨ret_int hz.out, rfl⟩

set_option maxHeartbeats 1000000 in
theorem wireFold_walk (n m : Int) (w : World) (h0 : -9223372036854775808 ≤ n) (h1 : n ≤ 9223372036854775807) (g0 : 0 ≤ m) (g1 : m ≤ 18446744073709551615) :
    Calls Try.prog 4 #[.int .i64 n, .int .u64 m] w fun e w' => e = .returned (.bool true) ∧ Below w.heap.size w w' := by
  obtain ⟨z, hz⟩ : ∃ z, Hid (zz n = z) := ⟨_, rfl⟩
  obtain ⟨u, hu⟩ : ∃ u, Hid (unzz m = u) := ⟨_, rfl⟩
  have e1 : Hid (unzz z = n) := by show _ = _; rw [← hz.out]; exact unzz_zz n
  have e2 : Hid (zz u = m) := by show _ = _; rw [← hu.out]; exact zz_unzz m g0
  have r1 : 0 ≤ z ∧ z ≤ 18446744073709551615 := by rw [← hz.out]; exact zz_range n h0 h1
  have r2 : -9223372036854775808 ≤ u ∧ u ≤ 9223372036854775807 := by rw [← hu.out]; exact unzz_range m g0 g1
  go_enter Try.func4, Try.ntmps4
  go_wp2_with fail
  refine (fold_to n z _ h0 h1 hz).mono ?_
  rintro e w' ⟨rfl, rfl⟩
  go_wp2_with fail
  refine (rfold_to n z _ h0 h1 hz).mono ?_
  rintro e w' ⟨rfl, rfl⟩
  go_wp2_with fail
  refine (unfold_to m u _ g0 g1 hu).mono ?_
  rintro e w' ⟨rfl, rfl⟩
  go_wp2_with fail
  refine (runfold_to m u _ g0 g1 hu).mono ?_
  rintro e w' ⟨rfl, rfl⟩
  go_wp2_with fail
  refine (fold_to n z _ h0 h1 hz).mono ?_
  rintro e w' ⟨rfl, rfl⟩
  go_wp2_with fail
  refine (unfold_to z n _ r1.1 r1.2 e1).mono ?_
  rintro e w' ⟨rfl, rfl⟩
  go_wp2_with fail
  refine (unfold_to m u _ g0 g1 hu).mono ?_
  rintro e w' ⟨rfl, rfl⟩
  go_wp2_with fail
  refine (fold_to u m _ r2.1 r2.2 e2).mono ?_
  rintro e w' ⟨rfl, rfl⟩
  go_wp2_with fail
  refine (known_any _).mono ?_
  rintro e w' ⟨rfl, hb⟩
  go_wp2
  go_ret
  exact ⟨rfl, hb⟩
end Go.Proofs.Ytgammgdckneoiaa
