/- LexReads: the law's walk. -/
import Derived.Test.YtlhmeipbcioncaaDoorLwP
import Derived.Test.YtlhmeipbcioncaaDoorRxR
import Derived.Test.YtlhmeipbcioncaaDoorTak
import Derived.Test.YtlhmeipbcioncaaDoorSam
namespace Go.Proofs.YtlhmeipbcioncaaDoor
open Go.RowKit
set_option maxRecDepth 100000
/-- A reader's outcome, one for both. -/
theorem rdp_one (ss : List Int) : ∃ (ts : List Tk) (p er : Int), ts.length ≤ 5000 ∧ ∀ e w, RdP ss e w → ∃ a cap, e = .returned (.tuple #[.slice a ts.length cap, .int .i64 p, .int .i64 er]) ∧ IsT w a ts.length cap ts := by
  by_cases hl : 4096 < ss.length
  · refine ⟨[], 0, 3, by simp, fun e w h => ?_⟩
    unfold RdP at h
    rw [if_pos hl] at h
    exact ⟨none, 0, h, isT_nil _⟩
  · cases ho : lexR rdB0 0 ss with
    | error p =>
      refine ⟨[], p, 20, by simp, fun e w h => ?_⟩
      unfold RdP at h
      rw [if_neg hl, ho] at h
      exact ⟨none, 0, h, isT_nil _⟩
    | ok ts =>
      have hP := placed rdB0 ss ss.length 0 ts (by omega) (Nat.zero_le _) (by rw [List.drop_zero]; exact ho)
      have := hP.len
      refine ⟨ts, 0, 0, by omega, fun e w h => ?_⟩
      unfold RdP at h
      rw [if_neg hl, ho] at h
      exact h
set_option maxHeartbeats 8000000 in
theorem reads_law (ss : List Int) (w : World) (hb : ∀ x ∈ ss, 0 ≤ x ∧ x < 256) (hm : ss.length ≤ 9223372036854775807) : Calls Tryd.prog 3 #[.string (strOfNums ss)] w fun e w' => e = .returned (.bool true) ∧ Below w.heap.size w w' := by
  obtain ⟨ts, p, er, hl, hone⟩ := rdp_one ss
  obtain ⟨n, hn⟩ : ∃ n, Hid (ts.length = n) := ⟨_, rfl⟩
  rw [hn.out] at hone hl
  have mixed : Tryd.prog.follows .mixedOrders = true := by kernel_rfl
  go_enter Tryd.func3, Tryd.ntmps3
  go_wp2_with fail
  refine (read_lex ss w hb hm).mono ?_
  rintro e w1 ⟨hR, hB⟩
  obtain ⟨a, cap, rfl, hT⟩ := hone _ _ hR
  clear hR
  go_wp2_with fail
  refine (rread_lex ss w1 hb).mono ?_
  rintro e w2 ⟨hR, hB2⟩
  obtain ⟨b, cap2, rfl, hT2⟩ := hone _ _ hR
  clear hR hone
  replace hT := hT.below hB2
  replace hB := below_size hB (Nat.le_refl _) hB2
  clear hB2
  go_wp2_with fail
  refine (taken_any hT (by omega)).mono ?_
  rintro e w3 ⟨a', cap', rfl, hT', hB3⟩
  replace hT2 := hT2.below hB3
  replace hB := below_size hB (Nat.le_refl _) hB3
  clear hB3 hT
  rw [hn.out] at hT' ⊢
  go_wp2_with fail
  refine (same_toks hT' hT2 (by omega)).mono ?_
  rintro e w4 ⟨rfl, hB4⟩
  replace hB := below_size hB (Nat.le_refl _) hB4
  clear hB4
  go_wp2_with fail
  refine (known_true _).mono ?_
  rintro e w5 ⟨rfl, hB5⟩
  go_wp2
  go_ret
  exact ⟨rfl, below_size hB (Nat.le_refl _) hB5⟩
end Go.Proofs.YtlhmeipbcioncaaDoor
