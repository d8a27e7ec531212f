/- slices.Grow of nil and slices.Concat of two slices of bytes, as this program bears them. -/
import Derived.Test.YtjfaflmmanjjbaaIsB
import Derived.Lib.AppendZeros
namespace Go.Proofs.Ytjfaflmmanjjbaa
open Go.RowKit
set_option maxRecDepth 100000

theorem grow_zero (w : World) :
    Calls Try.prog 77 #[.slice none 0 0, .int .i64 0] w fun e w' => e = .returned (.slice none 0 0) ∧ w = w' := by
  go_enter Try.func77, Try.ntmps77
  go_wp2
  go_ret
  exact ⟨rfl, rfl⟩

set_option maxHeartbeats 1000000 in
theorem grow_some (n : Nat) (w : World) (h0 : 0 < n) (hn : n ≤ 140737488355328) :
    Calls Try.prog 77 #[.slice none 0 0, .int .i64 (n : Int)] w fun e w' => ∃ cap, e = .returned (.slice (some ⟨w.heap.size, 0, none⟩) 0 cap) ∧ n ≤ cap ∧ w'.ownsRow w.heap.size 5 1 (.slice (some ⟨w.heap.size, 0, none⟩) 0 cap) 0 [] ∧ Below w.heap.size w w' := by
  obtain ⟨i0, hi, hz0, hz1, hz2⟩ := info_parts Try.info5
  have hr := Lib.run_append_nil_zeros (P := Try.prog) w 25 3 25 5 i0 (.int .u8 0) .i64 .i64 Try.underlying25 Try.underlying3 hi hz0 n h0 (by omega) (by omega) (by rw [hz2]; omega)
  have hcap := grownCap_ge w n 0 5
  have hcm := grownCap_le_maxLen w n 0 5 (by unfold maxLen; omega)
  go_enter Try.func77, Try.ntmps77
  go_wp2_with (at_builtin; refine Lib.wpList_append_run _ rfl _ _ 25 3 rfl _ _ rfl rfl _ _ hr ?_)
  go_ret
  refine ⟨grownCap w n 0 5, rfl, hcap, ?_, ?_⟩
  · exact (World.ownsRow_made w _ _ (Nat.le_refl _) hcm (by simp [size_zeroCells]; omega)).drew
  · exact ((Below.refl _ _).alloc (Nat.le_refl _) _).drew

set_option maxHeartbeats 2000000 in
theorem concat2 (b : Nat) (a1 a2 : Option Addr) (l1 c1 l2 c2 : Nat) (xs ys : List Int) (w : World) (h1 : IsB w a1 l1 c1 xs) (h2 : IsB w a2 l2 c2 ys)
    (hc0 : w.cell? ⟨b, 0, none⟩ = some (.slice a1 l1 c1)) (hc1 : w.cell? ⟨b, 1, none⟩ = some (.slice a2 l2 c2)) (hpos : 0 < l1 + l2) (hsz : l1 + l2 ≤ 140737488355328) :
    Calls Try.prog 70 #[.slice (some ⟨b, 0, none⟩) 2 2] w fun e w' => ∃ cap, e = .returned (.slice (some ⟨w.heap.size, 0, none⟩) (l1 + l2) cap) ∧
      w'.ownsRow w.heap.size 5 1 (.slice (some ⟨w.heap.size, 0, none⟩) (l1 + l2) cap) (l1 + l2) ((xs ++ ys).map (Value.int .u8)) ∧ Below w.heap.size w w' := by
  obtain ⟨i0, hi, hz0, hz1, hz2⟩ := info_parts Try.info5
  have hbl : b < w.heap.size := block_lt_of_cell hc0
  go_enter Try.func70, Try.ntmps70
  go_wp2
  refine wp_loop_rounds 3 ?_
  rw [rounds_succ]
  go_wp2
  rw [rounds_succ]
  go_wp2
  rw [rounds_succ]
  go_wp2_with fail
  rw [show ((l1 : Int) + (l2 : Int)) = ((l1 + l2 : Nat) : Int) by omega]
  refine (grow_some (l1 + l2) w hpos hsz).mono ?_
  rintro e w1 ⟨cap, rfl, hcap, hown, hbel⟩
  have hc0' := (hbel.cell (p := ⟨b, 0, none⟩) hbl).trans hc0
  have hc1' := (hbel.cell (p := ⟨b, 1, none⟩) hbl).trans hc1
  have k1 := h1.below hbel
  go_wp2
  refine wp_loop_rounds 3 ?_
  rw [rounds_succ]
  go_wp2_with (at_builtin; refine wpList_append_fits_any _ rfl _ _ 25 rfl w.heap.size 5 i0 1 Try.underlying25 hi hz1 w.heap.size 0 cap [] rfl hown a1 l1 c1 (xs.map (Value.int .u8)) rfl k1.lenMap k1.nil' k1.cellsAt k1.one (by omega) ?_)
  intro w2 hown2 hgrow2
  have hbel2 := hbel.grown hgrow2 hbel.size (by simp)
  have hc1'' := (hbel2.cell (p := ⟨b, 1, none⟩) hbl).trans hc1
  have k2 := h2.below hbel2
  clear hown hgrow2 hc0' hc1' k1 hbel
  go_wp2
  rw [rounds_succ]
  go_wp2_with (at_builtin; refine wpList_append_fits_any _ rfl _ _ 25 rfl w.heap.size 5 i0 1 Try.underlying25 hi hz1 w.heap.size l1 cap (xs.map (Value.int .u8)) rfl hown2 a2 l2 c2 (ys.map (Value.int .u8)) rfl k2.lenMap k2.nil' k2.cellsAt k2.one (by omega) ?_)
  intro w3 hown3 hgrow3
  have hbel3 := hbel2.grown hgrow3 hbel2.size (by simp)
  rw [← List.map_append] at hown3
  clear hown2 hgrow3 hbel2 k2
  go_wp2
  rw [rounds_succ]
  go_wp2
  go_ret
  exact ⟨cap, rfl, hown3, hbel3⟩
end Go.Proofs.Ytjfaflmmanjjbaa
