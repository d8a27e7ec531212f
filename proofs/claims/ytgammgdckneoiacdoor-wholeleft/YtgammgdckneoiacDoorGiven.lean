/- given: a number as the program has it, its bytes in new memory with room behind. -/
import Derived.Test.YtgammgdckneoiacDoorMade
import Derived.Test.YtgammgdckneoiacDoorRight
import Derived.Deep.RegionWith
namespace Go.Proofs.YtgammgdckneoiacDoor
open Go.RowKit

theorem IsB.set {w : World} {g len cap : Nat} {xs : List Int} (h : IsB w (some ⟨g, 0, none⟩) len cap xs) {b i : Nat} (hb : b ≠ g) (x : Value) : IsB (w.setCell ⟨b, i, none⟩ x) (some ⟨g, 0, none⟩) len cap xs := by
  refine ⟨h.size, h.room, h.most, h.nil0, h.byte, fun h0 => ?_⟩
  obtain ⟨b', off', ha, hc⟩ := h.cells h0
  simp only [Option.some.injEq, Addr.mk.injEq, and_true] at ha
  obtain ⟨rfl, rfl⟩ := ha
  refine ⟨_, _, rfl, fun j hj => ?_⟩
  rw [← hc j hj]
  exact World.cell?_setCell_other _ _ _ _ (by intro e; exact hb (congrArg Addr.block e))

set_option maxRecDepth 100000 in
set_option maxHeartbeats 1000000 in
theorem given_any {a : Option Addr} {len cap : Nat} {xs : List Int} {w : World} (neg : Bool) (h : IsB w a len cap xs) (hl : len ≤ 140737488351232) :
    Calls Tryd.prog 8 #[.agg #[.bool neg, .slice a len cap]] w fun e w' => ∃ g, e = .returned (.agg #[.bool neg, .slice (some ⟨g, 0, none⟩) len (len + 8)]) ∧
      IsB w' (some ⟨g, 0, none⟩) (len + 8) (len + 8) (xs ++ pad) ∧ w.heap.size ≤ g ∧ Below w.heap.size w w' := by
  have hb : Below w.heap.size w ((w.alloc (.cells #[.bool neg, .slice a len cap] 24)).alloc (.cells #[.bool false, .slice none 0 0] 27)).drew := ((box_below w _).alloc (by simp) _).drew
  have hI := h.below hb
  go_enter Tryd.func8, Tryd.ntmps8
  go_wp2_with fail
  go_region_with (go_at_call 21; refine (lent_any hI hl).mono ?_; rintro e w2 ⟨rfl, hB2, hb2⟩; obtain ⟨hv1, hv2, hbw⟩ := var2d hb2; obtain ⟨x0, x1, f0, f1⟩ := intVarT hv2; obtain ⟨y0, y1, g0, g1⟩ := intVarT hv1)
  all_goals
    go_wp2
    have hs2 : ((w.alloc (.cells #[.bool neg, .slice a len cap] 24)).alloc (.cells #[.bool false, .slice none 0 0] 27)).drew.heap.size = w.heap.size + 1 + 1 := by
      show ((w.alloc _).alloc _).heap.size = _
      simp
    rw [hs2] at hB2
    exact bodyPost_ret (v := .agg #[.bool neg, .slice (some ⟨w.heap.size + 1 + 1, 0, none⟩) len (len + 8)]) (by simp [results, Tryd.results8, go_sem, x0, x1]) rfl ⟨_, rfl, (hB2.set (by omega) _).set (by omega) _, by omega, below_put hbw (by omega)⟩
end Go.Proofs.YtgammgdckneoiacDoor
