/- Same of two lists of words. -/
import Derived.Test.YtlhmeipbcioncaaDoorRow
import Derived.StillTailTactics
namespace Go.Proofs.YtlhmeipbcioncaaDoor
open Go.RowKit
set_option maxRecDepth 100000
set_option maxHeartbeats 4000000 in
theorem same_toks {w : World} {a b : Option Addr} {len cap cap' : Nat} {ts : List Tk} (h : IsT w a len cap ts) (h' : IsT w b len cap' ts) (hl : len ≤ 1000000) : Calls Tryd.prog 11 #[.slice a len cap, .slice b len cap'] w fun e w' => e = .returned (.bool true) ∧ Below w.heap.size w w' := by
  have hne : ((len : Int) != (len : Int)) = false := by simp
  have mixed : Tryd.prog.follows .mixedOrders = true := by kernel_rfl
  go_enter Tryd.func11, Tryd.ntmps11
  go_wp2
  go_loopw [5] (fun y wr => ∃ q : Nat, y = .int .i64 q ∧ q ≤ len ∧ Below w.heap.size w wr) (fun y _ => len - (intOf y).toNat)
  case atStart => exact ⟨0, rfl, Nat.zero_le _, Below.refl _ _⟩
  case round =>
    obtain ⟨q, rfl, hi, hB⟩ := hrel
    by_cases hlt : q < len
    · have hltI : (q : Int) < (len : Int) := by omega
      have hw1 : IntKind.i64.wrap ((q : Int) + 1) = (q : Int) + 1 := by rw [IntKind.wrap_i64]; omega
      obtain ⟨g, off, rfl, hc⟩ := (h.below hB).cells (by omega)
      obtain ⟨c0, c1, c2⟩ := hc q hlt
      obtain ⟨g', off', rfl, hc'⟩ := (h'.below hB).cells (by omega)
      obtain ⟨d0, d1, d2⟩ := hc' q hlt
      clear hc hc' h h'
      generalize ts.getD q tk0 = t at *
      go_wp2
      go_region_o
      all_goals go_wp2
      all_goals go_roundw
      all_goals first | exact ⟨q + 1, by go_num, by omega, hB.drew⟩ | (simp [intOf]; omega)
    · have hltI : ¬ (q : Int) < (len : Int) := by omega
      go_wp2
      go_ret
      exact ⟨rfl, hB⟩
end Go.Proofs.YtlhmeipbcioncaaDoor
