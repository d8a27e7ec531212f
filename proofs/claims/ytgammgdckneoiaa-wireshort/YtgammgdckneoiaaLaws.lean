/- The walks of lapidarylaw01.WireFold and WireShort: for every input the call answers true, and writes nothing that was there. -/
import Derived.Test.YtgammgdckneoiaaKnown
namespace Go.Proofs.Ytgammgdckneoiaa
open Go.RowKit

theorem fold_to (n z : Int) (w : World) (h0 : -9223372036854775808 ≤ n) (h1 : n ≤ 9223372036854775807) (hz : Hid (zz n = z)) :
    Calls Try.prog 16 #[.int .i64 n] w fun e w' => e = .returned (.int .u64 z) ∧ w = w' := by
  refine (fold_any n w h0 h1).mono ?_
  rintro e w' ⟨rfl, rfl⟩
  exact ⟨ret_int hz.out, rfl⟩
theorem rfold_to (n z : Int) (w : World) (h0 : -9223372036854775808 ≤ n) (h1 : n ≤ 9223372036854775807) (hz : Hid (zz n = z)) :
    Calls Try.prog 17 #[.int .i64 n] w fun e w' => e = .returned (.int .u64 z) ∧ w = w' := by
  refine (rfold_any n w h0 h1).mono ?_
  rintro e w' ⟨rfl, rfl⟩
  exact ⟨ret_int hz.out, rfl⟩
theorem unfold_to (n z : Int) (w : World) (h0 : 0 ≤ n) (h1 : n ≤ 18446744073709551615) (hz : Hid (unzz n = z)) :
    Calls Try.prog 18 #[.int .u64 n] w fun e w' => e = .returned (.int .i64 z) ∧ w = w' := by
  refine (unfold_any n w h0 h1).mono ?_
  rintro e w' ⟨rfl, rfl⟩
  exact ⟨ret_int hz.out, rfl⟩
theorem runfold_to (n z : Int) (w : World) (h0 : 0 ≤ n) (h1 : n ≤ 18446744073709551615) (hz : Hid (unzz n = z)) :
    Calls Try.prog 19 #[.int .u64 n] w fun e w' => e = .returned (.int .i64 z) ∧ w = w' := by
  refine (runfold_any n w h0 h1).mono ?_
  rintro e w' ⟨rfl, rfl⟩
  exact ⟨ret_int hz.out, rfl⟩

set_option maxHeartbeats 1000000 in
theorem wireFold_walk (n m : Int) (w : World) (h0 : -9223372036854775808 ≤ n) (h1 : n ≤ 9223372036854775807) (g0 : 0 ≤ m) (g1 : m ≤ 18446744073709551615) :
    Calls Try.prog 4 #[.int .i64 n, .int .u64 m] w fun e w' => e = .returned (.bool true) ∧ Below w.heap.size w w' := by
  obtain ⟨z, hz⟩ : ∃ z, Hid (zz n = z) := ⟨_, rfl⟩
  obtain ⟨u, hu⟩ : ∃ u, Hid (unzz m = u) := ⟨_, rfl⟩
  have e1 : Hid (unzz z = n) := by show _ = _; rw [← hz.out]; exact unzz_zz n
  have e2 : Hid (zz u = m) := by show _ = _; rw [← hu.out]; exact zz_unzz m g0
  have r1 : 0 ≤ z ∧ z ≤ 18446744073709551615 := by rw [← hz.out]; exact zz_range n h0 h1
  have r2 : -9223372036854775808 ≤ u ∧ u ≤ 9223372036854775807 := by rw [← hu.out]; exact unzz_range m g0 g1
  go_enter Try.func4, Try.ntmps4
  go_wp2_with fail
  refine (fold_to n z _ h0 h1 hz).mono ?_
  rintro e w' ⟨rfl, rfl⟩
  go_wp2_with fail
  refine (rfold_to n z _ h0 h1 hz).mono ?_
  rintro e w' ⟨rfl, rfl⟩
  go_wp2_with fail
  refine (unfold_to m u _ g0 g1 hu).mono ?_
  rintro e w' ⟨rfl, rfl⟩
  go_wp2_with fail
  refine (runfold_to m u _ g0 g1 hu).mono ?_
  rintro e w' ⟨rfl, rfl⟩
  go_wp2_with fail
  refine (fold_to n z _ h0 h1 hz).mono ?_
  rintro e w' ⟨rfl, rfl⟩
  go_wp2_with fail
  refine (unfold_to z n _ r1.1 r1.2 e1).mono ?_
  rintro e w' ⟨rfl, rfl⟩
  go_wp2_with fail
  refine (unfold_to m u _ g0 g1 hu).mono ?_
  rintro e w' ⟨rfl, rfl⟩
  go_wp2_with fail
  refine (fold_to u m _ r2.1 r2.2 e2).mono ?_
  rintro e w' ⟨rfl, rfl⟩
  go_wp2_with fail
  refine (known_any _).mono ?_
  rintro e w' ⟨rfl, hb⟩
  go_wp2
  go_ret
  exact ⟨rfl, hb⟩

/-- wire.Uint, where its length alone is asked. -/
theorem uint_len (n s : Nat) (w : World) (h1 : n < 18446744073709551616) (hs : Hid (usz n = s)) :
    Calls Try.prog 10 #[.int .u64 (n : Int)] w fun e w' => e = .returned (.slice (some ⟨w.heap.size, 0, none⟩) s s) ∧ Below w.heap.size w w' := by
  refine (uint_any n w h1).mono ?_
  rintro e w' ⟨rfl, _, hb⟩
  exact ⟨by rw [hs.out], hb⟩

set_option maxHeartbeats 1000000 in
theorem wireShort_walk (n m : Nat) (w : World) (h1 : n < 18446744073709551616) (g1 : m < 18446744073709551616) :
    Calls Try.prog 8 #[.int .u64 (n : Int), .int .u64 (m : Int)] w fun e w' => e = .returned (.bool true) ∧ Below w.heap.size w w' := by
  obtain ⟨s, hs⟩ : ∃ s, Hid (usz n = s) := ⟨_, rfl⟩
  obtain ⟨t, ht⟩ : ∃ t, Hid (usz m = t) := ⟨_, rfl⟩
  have r1 : 1 ≤ s ∧ s ≤ 10 := by rw [← hs.out]; exact usz_bd n
  have r2 : 1 ≤ t ∧ t ≤ 10 := by rw [← ht.out]; exact usz_bd m
  have hmono : n ≤ m → s ≤ t := fun h => by rw [← hs.out, ← ht.out]; exact usz_mono h
  by_cases hnm : n ≤ m
  · have hst := hmono hnm
    clear hmono
    go_enter Try.func8, Try.ntmps8
    go_wp2_with fail
    refine (uint_len n s _ h1 hs).mono ?_
    rintro e w1 ⟨rfl, hb1⟩
    go_wp2_with fail
    refine (uint_len m t _ g1 ht).mono ?_
    rintro e w2 ⟨rfl, hb2⟩
    have hb := hb1.trans (hb2.mono hb1.size)
    clear hb1 hb2
    go_wp2_with fail
    refine (known_any _).mono ?_
    rintro e w3 ⟨rfl, hb3⟩
    go_wp2
    go_ret
    exact ⟨rfl, hb.trans (hb3.mono hb.size)⟩
  · have hnm' : m < n := by omega
    clear hmono
    go_enter Try.func8, Try.ntmps8
    go_wp2_with fail
    refine (uint_len n s _ h1 hs).mono ?_
    rintro e w1 ⟨rfl, hb1⟩
    go_wp2_with fail
    refine (uint_len m t _ g1 ht).mono ?_
    rintro e w2 ⟨rfl, hb2⟩
    have hb := hb1.trans (hb2.mono hb1.size)
    clear hb1 hb2
    go_wp2_with fail
    refine (known_any _).mono ?_
    rintro e w3 ⟨rfl, hb3⟩
    go_wp2
    go_ret
    exact ⟨rfl, hb.trans (hb3.mono hb.size)⟩
end Go.Proofs.Ytgammgdckneoiaa
