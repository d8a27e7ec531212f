/- What must come of fixed calls: known. -/
import Derived.Test.YteomolihandfnaaVtw
namespace Go.Proofs.Yteomolihandfnaa
open Go.RowKit
set_option maxRecDepth 100000
set_option maxHeartbeats 8000000 in
theorem known_true (w : World) : Calls Try.prog 14 #[] w fun e w' => e = .returned (.bool true) ∧ Below w.heap.size w w' := by
  have E1 := old1 (new1 w (chh 5 false 1 (.slice none 0 0) (.slice none 0 0))) (recB 1 (.slice (some ⟨w.heap.size, 0, none⟩) 1 1) 45)
  have E2 := new2 w (chh 5 false 1 (.slice none 0 0) (.slice none 0 0)) (recB 1 (.slice (some ⟨w.heap.size, 0, none⟩) 1 1) 45)
  have B1 : Below w.heap.size w ((w.alloc (chh 5 false 1 (.slice none 0 0) (.slice none 0 0))).alloc (recB 1 (.slice (some ⟨w.heap.size, 0, none⟩) 1 1) 45)) := below_size box_below box_below.size box_below
  have hR := lit_recs E1 E2 (by decide) (by decide) (by decide)
  unfold chh recB at B1 hR
  clear E1 E2
  go_enter Try.func14, Try.ntmps14
  go_wp2_with fail
  generalize (w.alloc (.cells #[.int .i64 5, .bool false, .int .i64 1, .slice none 0 0, .slice none 0 0] 72)).alloc (.cells #[.int .i64 1, .slice (some ⟨w.heap.size, 0, none⟩) 1 1] 45) = w1 at *
  refine (both_any hR).mono ?_
  rintro e w2 ⟨tb, ub, u, rfl, hb, _, _⟩
  have hd : Hd w1 tb kT w2 := hb.hd
  clear hb hR
  go_wp2_with fail
  refine (hd_view hd).mono ?_
  rintro e w3 ⟨vb, rfl, hv⟩
  clear hd
  go_wp2_with fail
  refine (hv_second hv).mono ?_
  rintro e w4 ⟨vc, rfl, hw⟩
  replace hw : Hw w1 w2 (fun _ => False) tb kT vb (vw0 1) vc (vw0 1) w4 := hw
  clear hv
  go_wp2_with fail
  refine (hw_put hw 5 (isO_nil w1 (c := 2) (by decide))).mono ?_
  rintro e w5 ⟨rfl, hw5⟩
  rw [kE1]
  replace hw5 : Hw w1 w2 (fun _ => False) tb kT vb kV vc (vw0 1) w5 := hw5
  clear hw
  go_wp2_with fail
  refine (hw_make hw5 (isO_nil w1 (c := 3) (by decide))).mono ?_
  rintro e w6 ⟨rfl, hw6⟩
  rw [kE2.1, kE2.2]
  clear hw5
  go_wp2_with fail
  refine (hw_get hw6 5).mono ?_
  rintro e w7 ⟨sa, sn, sc, ba, bn, bc, rfl, _, _, hw7⟩
  rw [kE3.1, kE3.2]
  clear hw6
  have E8 : (w7.alloc (.cells #[.int .i64 2, .slice sa sn sc, .slice ba bn bc] 27)).heap[w7.heap.size]? = some (.cells #[.int .i64 2, .slice sa sn sc, .slice ba bn bc] 27 (0, 0)) := new1 _ _
  have hw8 := (hw7.guard (.cells #[.int .i64 2, .slice sa sn sc, .slice ba bn bc] 27)).swap
  clear hw7
  go_wp2_with fail
  generalize w7.alloc (.cells #[.int .i64 2, .slice sa sn sc, .slice ba bn bc] 27) = w8 at *
  generalize w7.heap.size = b8 at *
  refine (hw_get hw8 5).mono ?_
  rintro e w9 ⟨ta, tn, tc, da, dn, dc, rfl, _, _, hw9⟩
  rw [kE4.1, kE4.2]
  have F8 := (hw9.keptY b8 (.inr rfl)).trans E8
  have B10 : Below w9.heap.size w9 (w9.alloc (.cells #[.int .i64 1, .slice ta tn tc, .slice da dn dc] 27)) := box_below
  have G8 := (B10.block b8 (lt_of_block F8)).trans F8
  have E10 : (w9.alloc (.cells #[.int .i64 1, .slice ta tn tc, .slice da dn dc] 27)).heap[w9.heap.size]? = some (.cells #[.int .i64 1, .slice ta tn tc, .slice da dn dc] 27 (0, 0)) := new1 _ _
  have hw10 := (hw9.below B10).swap
  have fin := below_size B1 B1.size hw10.belowW
  obtain ⟨x0, x1, x2, xf⟩ := obj_cells (c := 2) (v1 := .slice sa sn sc) (v2 := .slice ba bn bc) G8
  obtain ⟨y0, y1, y2, yf⟩ := obj_cells (c := 1) (v1 := .slice ta tn tc) (v2 := .slice da dn dc) E10
  have cb := hw_base hw10
  rw [kE5] at cb
  clear hw8 hw9 E8 F8 G8 E10 B10 hw10
  go_wp2_with (first
    | (go_at_call 30; refine cb.mono ?_; rintro e w' ⟨rfl, rfl⟩))
  go_ret
  exact ⟨rfl, fin⟩
end Go.Proofs.Yteomolihandfnaa
