/- Calls of a view that is not there. -/
import Derived.Test.YteomolihandfnaaGreatVkv
import Derived.Test.YteomolihandfnaaGreatRng
import Derived.OwnWalkIn
import Derived.TacticsInMore
import Derived.LoopNIn
import Derived.LoopIn
import Derived.Shelf.Abstract
import Derived.Shelf.RegionOpen
namespace Go.Proofs.YteomolihandfnaaGreat
open Go.RowKit
set_option maxRecDepth 100000
theorem new_nil (w : World) : Calls Tryz.prog 5 #[.pointer none] w fun e w' => e = .returned (.pointer none) ∧ w = w' := by
  go_enter Tryz.func5, Tryz.ntmps5
  go_wp2
  go_ret
  exact ⟨rfl, rfl⟩
theorem base_nil (w : World) : Calls Tryz.prog 24 #[.pointer none] w fun e w' => e = .returned (.int .i64 0) ∧ w = w' := by
  go_enter Tryz.func24, Tryz.ntmps24
  go_wp2
  go_ret
  exact ⟨rfl, rfl⟩
theorem reads_nil (w : World) : Calls Tryz.prog 26 #[.pointer none] w fun e w' => e = .returned (.slice none 0 0) ∧ w = w' := by
  go_enter Tryz.func26, Tryz.ntmps26
  go_wp2
  go_ret
  exact ⟨rfl, rfl⟩
theorem copy_nil (w : World) : Calls Tryz.prog 20 #[.pointer none] w fun e w' => e = .returned (.pointer none) ∧ w = w' := by
  go_enter Tryz.func20, Tryz.ntmps20
  go_wp2
  go_ret
  exact ⟨rfl, rfl⟩
theorem read_nil (k : Int) (w : World) : Calls Tryz.prog 13 #[.pointer none, .int .i64 k] w fun e w' => e = .returned (.tuple #[]) ∧ w = w' := by
  go_enter Tryz.func13, Tryz.ntmps13
  go_wp2
  refine bodyPost_ret (results_none rfl _ _ _) rfl ?_
  exact ⟨rfl, rfl⟩
theorem peek_nil (k : Int) (w : World) : Calls Tryz.prog 11 #[.pointer none, .int .i64 k] w fun e w' => e = .returned (.tuple #[.agg #[.int .i64 0, .slice none 0 0, .slice none 0 0], .int .i64 2]) ∧ Below w.heap.size w w' := by
  have E4 := new1 w (objB 0 (.slice none 0 0) (.slice none 0 0))
  have B4 : Below w.heap.size w (w.alloc (objB 0 (.slice none 0 0) (.slice none 0 0))) := box_below
  unfold objB at E4 B4
  go_enter Tryz.func11, Tryz.ntmps11
  go_upto_region 1 with fail
  generalize w.alloc (.cells #[.int .i64 0, .slice none 0 0, .slice none 0 0] 35) = w1 at *
  obtain ⟨b4, hb4⟩ : ∃ q, q = w.heap.size := ⟨_, rfl⟩
  rw [← hb4] at E4 ⊢
  have l4 : w.heap.size ≤ b4 := Nat.le_of_eq hb4.symm
  clear hb4
  replace E4 : w1.heap[b4]? = some (objB 0 (.slice none 0 0) (.slice none 0 0)) := E4
  obtain ⟨z0, z1, z2, zf⟩ := obj_cells E4
  have H4 := stO_blk E4 0 (.slice none 0 0) (.slice none 0 0)
  have BD := stO_below B4 l4 0 (.slice none 0 0) (.slice none 0 0)
  go_wp2
  clear z0 z1 z2 zf
  obtain ⟨z0, z1, z2, zf⟩ := obj_cells H4
  exact bodyPost_ret (v := .tuple #[.agg #[.int .i64 0, .slice none 0 0, .slice none 0 0], .int .i64 2]) (results_twoP Tryz.results11 rfl (load49 z0 z1 z2) rfl) rfl ⟨rfl, BD⟩
theorem get_nil (k : Int) (w : World) : Calls Tryz.prog 7 #[.pointer none, .int .i64 k] w fun e w' => e = .returned (.tuple #[.agg #[.int .i64 0, .slice none 0 0, .slice none 0 0], .int .i64 2]) ∧ Below w.heap.size w w' := by
  have E4 := new1 w (objB 0 (.slice none 0 0) (.slice none 0 0))
  have B4 : Below w.heap.size w (w.alloc (objB 0 (.slice none 0 0) (.slice none 0 0))) := box_below
  unfold objB at E4 B4
  go_enter Tryz.func7, Tryz.ntmps7
  go_wp2_with fail
  generalize w.alloc (.cells #[.int .i64 0, .slice none 0 0, .slice none 0 0] 35) = w1 at *
  obtain ⟨b4, hb4⟩ : ∃ q, q = w.heap.size := ⟨_, rfl⟩
  rw [← hb4] at E4 ⊢
  have l4 : w.heap.size ≤ b4 := Nat.le_of_eq hb4.symm
  clear hb4
  replace E4 : w1.heap[b4]? = some (objB 0 (.slice none 0 0) (.slice none 0 0)) := E4
  refine (read_nil k w1).mono ?_
  rintro e w2 ⟨rfl, rfl⟩
  go_wp2_with fail
  refine (peek_nil k w1).mono ?_
  rintro e w3 ⟨rfl, B3⟩
  have G4 := (B3.block b4 (lt_of_block E4)).trans E4
  have BB := below_size B4 B4.size B3
  obtain ⟨z0, z1, z2, zf⟩ := obj_cells G4
  have H4 := stO_blk G4 0 (.slice none 0 0) (.slice none 0 0)
  have BD := stO_below BB l4 0 (.slice none 0 0) (.slice none 0 0)
  go_wp2
  clear z0 z1 z2 zf
  obtain ⟨z0, z1, z2, zf⟩ := obj_cells H4
  exact bodyPost_ret (v := .tuple #[.agg #[.int .i64 0, .slice none 0 0, .slice none 0 0], .int .i64 2]) (results_twoP Tryz.results7 rfl (load49 z0 z1 z2) rfl) rfl ⟨rfl, BD⟩
theorem make_nil (x : Value) (w : World) (hx : ∃ c sa sn sc ba bn bc, x = .agg #[.int .i64 c, .slice sa sn sc, .slice ba bn bc]) : Calls Tryz.prog 18 #[.pointer none, x] w fun e w' => e = .returned (.tuple #[.int .i64 0, .int .i64 2]) ∧ Below w.heap.size w w' := by
  obtain ⟨c, sa, sn, sc, ba, bn, bc, rfl⟩ := hx
  have B4 : Below w.heap.size w (w.alloc (.cells #[.int .i64 c, .slice sa sn sc, .slice ba bn bc] 35)) := box_below
  go_enter Tryz.func18, Tryz.ntmps18
  go_wp2
  go_ret2
  exact ⟨rfl, B4⟩
theorem put_nil (k : Int) (x : Value) (w : World) (hx : ∃ c sa sn sc ba bn bc, x = .agg #[.int .i64 c, .slice sa sn sc, .slice ba bn bc]) : Calls Tryz.prog 16 #[.pointer none, .int .i64 k, x] w fun e w' => e = .returned (.int .i64 2) ∧ Below w.heap.size w w' := by
  obtain ⟨c, sa, sn, sc, ba, bn, bc, rfl⟩ := hx
  have B4 : Below w.heap.size w (w.alloc (.cells #[.int .i64 c, .slice sa sn sc, .slice ba bn bc] 35)) := box_below
  go_enter Tryz.func16, Tryz.ntmps16
  go_wp2_with fail
  generalize w.alloc (.cells #[.int .i64 c, .slice sa sn sc, .slice ba bn bc] 35) = w1 at *
  refine (peek_nil k w1).mono ?_
  rintro e w3 ⟨rfl, B3⟩
  have BB := below_size B4 B4.size B3
  have BC : Below w.heap.size w (w3.alloc (.cells #[.int .i64 0, .slice none 0 0, .slice none 0 0] 35)) := below_size BB BB.size box_below
  go_wp2
  go_ret
  exact ⟨rfl, BC⟩
theorem did_any (n : Nat) (v : Option Addr) (x y : Int) (w : World) : CallsIn Fence.wide n Tryz.prog 56 #[.pointer v, .int .i64 x, .int .i64 y] w fun e w' => e = .returned (.func (.func 74) #[] #[.pointer (some ⟨w.heap.size, 0, none⟩), .pointer (some ⟨w.heap.size + 1, 0, none⟩), .pointer (some ⟨w.heap.size + 1 + 1, 0, none⟩)]) ∧ w' = ((w.alloc (.cells #[.pointer v] 28)).alloc (.cells #[.int .i64 x] 2)).alloc (.cells #[.int .i64 y] 2) := by
  refine callsIn_of_wp Tryz.func56 rfl trivial ?_ rfl
  simp only [Tryz.ntmps56, List.size_toArray, List.length_cons, List.length_nil, Nat.reduceAdd, Nat.reduceSub, Array.replicate_succ, Array.replicate_zero, List.push_toArray, List.append_toArray, List.nil_append, List.cons_append]
  gi_wp2
  go_ret
  exact ⟨rfl, rfl⟩
/-- Nothing comes of a view that is not there. -/
theorem did_nil {n : Nat} {b1 b2 b3 : Nat} : SeqV (α := Unit) Fence.wide n Tryz.prog 74 #[.pointer (some ⟨b1, 0, none⟩), .pointer (some ⟨b2, 0, none⟩), .pointer (some ⟨b3, 0, none⟩)] (fun _ => #[.int .i64 0, .agg #[.int .i64 0, .slice none 0 0, .slice none 0 0]]) (fun _ W => W.cell? ⟨b1, 0, none⟩ = some (.pointer none)) (fun _ _ => False) (fun xs => xs = []) (fun _ => False) := by
  intro l J Jx W _ _ hV _ hJ
  have hc := hV [] W hJ
  refine callsIn_of_wp Tryz.func74 rfl trivial ?_ rfl
  simp only [Tryz.ntmps74, List.size_toArray, List.length_cons, List.length_nil, Nat.reduceAdd, Nat.reduceSub, Array.replicate_succ, Array.replicate_zero, List.push_toArray, List.append_toArray, List.nil_append, List.cons_append]
  gi_wp2
  refine bodyPost_ret (results_none rfl _ _ _) rfl ?_
  exact ⟨⟨_, rfl⟩, hJ⟩
set_option maxHeartbeats 2000000 in
theorem oops_nil (x y : Int) (w : World) : Calls Tryz.prog 55 #[.pointer none, .int .i64 x, .int .i64 y] w fun e w' => e = .returned (.slice none 0 0) ∧ Below w.heap.size w w' := by
  refine (callsIn_wide (n := 12)).1 ?_
  have hf2 : Fence.wide.fn 56 := trivial
  refine callsIn_of_wp_marks Tryz.func55 rfl trivial ?_ rfl
  simp only [Tryz.ntmps55, List.size_toArray, List.length_cons, List.length_nil, Nat.reduceAdd, Nat.reduceSub, Array.replicate_succ, Array.replicate_zero, List.push_toArray, List.append_toArray, List.nil_append, List.cons_append]
  gi_wp2_with (first
    | (gi_at_call 56; refine (did_any _ none x y _).mono ?_; rintro e w' ⟨rfl, rfl⟩))
  have E7 : ((((w.alloc (.cells #[.slice none 0 0] 66)).alloc (.cells #[.pointer none] 28)).alloc (.cells #[.int .i64 x] 2)).alloc (.cells #[.int .i64 y] 2)).heap[w.heap.size]? = some (.cells #[.slice none 0 0] 66 (0, 0)) := old1 (old1 (old1 (new1 _ _) _) _) _
  have E8 : ((((w.alloc (.cells #[.slice none 0 0] 66)).alloc (.cells #[.pointer none] 28)).alloc (.cells #[.int .i64 x] 2)).alloc (.cells #[.int .i64 y] 2)).heap[w.heap.size + 1]? = some (.cells #[.pointer none] 28 (0, 0)) := old1 (old1 (new2 _ _ _) _) _
  have BL : Below w.heap.size w ((((w.alloc (.cells #[.slice none 0 0] 66)).alloc (.cells #[.pointer none] 28)).alloc (.cells #[.int .i64 x] 2)).alloc (.cells #[.int .i64 y] 2)) := below_size (below_size (below_size box_below box_below.size box_below) (by simp; omega) box_below) (by simp; omega) box_below
  obtain ⟨Wl, hWl⟩ : ∃ Wl, ((((w.alloc (.cells #[.slice none 0 0] 66)).alloc (.cells #[.pointer none] 28)).alloc (.cells #[.int .i64 x] 2)).alloc (.cells #[.int .i64 y] 2)) = Wl := ⟨_, rfl⟩
  rw [hWl] at E7 E8 BL ⊢
  clear hWl
  have n1 : w.heap.size ≤ w.heap.size + 1 := by omega
  generalize w.heap.size + 1 + 1 + 1 = b3 at *
  generalize w.heap.size + 1 + 1 = b2 at *
  generalize w.heap.size + 1 = b1 at *
  obtain ⟨b7, hb7⟩ : ∃ q, q = w.heap.size := ⟨_, rfl⟩
  rw [← hb7] at E7 ⊢
  have n7 : w.heap.size ≤ b7 := Nat.le_of_eq hb7.symm
  clear hb7
  have l7 := lt_of_block E7
  have l1 := lt_of_block E8
  have lw := BL.size
  refine rangeV (F := Fence.wide) (n := 12) rfl (by decide) (gf := 74) (lb := #[.pointer (some ⟨b1, 0, none⟩), .pointer (some ⟨b2, 0, none⟩), .pointer (some ⟨b3, 0, none⟩)]) rfl trivial (enters_of Tryz.func74 (by kernel_rfl) rfl) (did_nil (n := 11)) (by intro x; rfl)
    (fun _ W => W.heap[b7]? = some (.cells #[.slice none 0 0] 66 (0, 0)) ∧ W.heap[b1]? = some (.cells #[.pointer none] 28 (0, 0)) ∧ Below w.heap.size w W) (fun _ _ _ => False) ?hI (fun _ _ _ _ _ hs _ _ => hs) ?hV ⟨E7, E8, BL⟩ (fun _ _ _ => False) (fun _ _ _ _ _ _ hs _ _ => hs) ?assign ?body ?done ?stop
  case hI =>
    rintro pre A B row ⟨q1, q2, q3⟩ hg hr
    have low : ∀ q, q < Wl.heap.size → q < A.heap.size → B.heap[q]? = A.heap[q]? := fun q hq hA => hg.block q hA (fun e => by have := (hr q e.symm).1; omega)
    exact ⟨(low b7 l7 (lt_of_block q1)).trans q1, (low b1 l1 (lt_of_block q2)).trans q2, ⟨hg.os.trans q3.os, hg.tape.trans q3.tape, hg.output.trans q3.output, Nat.le_trans q3.size hg.size, fun q hq => (low q (by omega) (by have := q3.size; omega)).trans (q3.block q hq)⟩⟩
  case hV =>
    rintro pre W ⟨q1, q2, q3⟩
    show W.cell? ⟨b1, 0, none⟩ = some (.pointer none)
    rw [cell_of_row W b1 _ _ _ _ q2]; rfl
  case assign =>
    rintro l pre x W K hi hok hK
    exact hok.elim
  case body =>
    rintro l pre x a' W hi hok _
    exact hok.elim
  case stop =>
    rintro D c' pre W _ _ hx
    exact hx.elim
  case done =>
    rintro D xs W hD hxs ⟨q1, q2, q3⟩ hK
    have hc7 : W.cell? ⟨b7, 0, none⟩ = some (.slice none 0 0) := by rw [cell_of_row W b7 _ _ _ _ q1]; rfl
    gi_wp2
    refine ⟨by simp, .inl ⟨_, _, rfl, run_takeDeferred hK, ?_⟩⟩
    refine ⟨_, results_tmp rfl _ _ _, rfl, ?_⟩
    exact ⟨q3.os, q3.tape, q3.output, Nat.le_trans q3.size (grownBy_putObj' W D _).size, fun q hq => (World.putObj_heap_other (by omega)).trans (q3.block q hq)⟩
set_option maxHeartbeats 2000000 in
theorem changed_nil (w : World) : Calls Tryz.prog 33 #[.pointer none] w fun e w' => e = .returned (.slice none 0 0) ∧ Below w.heap.size w w' := by
  refine (callsIn_wide (n := 12)).1 ?_
  have hf2 : Fence.wide.fn 56 := trivial
  refine callsIn_of_wp_marks Tryz.func33 rfl trivial ?_ rfl
  simp only [Tryz.ntmps33, List.size_toArray, List.length_cons, List.length_nil, Nat.reduceAdd, Nat.reduceSub, Array.replicate_succ, Array.replicate_zero, List.push_toArray, List.append_toArray, List.nil_append, List.cons_append]
  gi_wp2_with (first
    | (gi_at_call 56; refine (did_any _ none 1 4096 _).mono ?_; rintro e w' ⟨rfl, rfl⟩))
  have E7 : ((((w.alloc (.cells #[.slice none 0 0] 56)).alloc (.cells #[.pointer none] 28)).alloc (.cells #[.int .i64 1] 2)).alloc (.cells #[.int .i64 4096] 2)).heap[w.heap.size]? = some (.cells #[.slice none 0 0] 56 (0, 0)) := old1 (old1 (old1 (new1 _ _) _) _) _
  have E8 : ((((w.alloc (.cells #[.slice none 0 0] 56)).alloc (.cells #[.pointer none] 28)).alloc (.cells #[.int .i64 1] 2)).alloc (.cells #[.int .i64 4096] 2)).heap[w.heap.size + 1]? = some (.cells #[.pointer none] 28 (0, 0)) := old1 (old1 (new2 _ _ _) _) _
  have BL : Below w.heap.size w ((((w.alloc (.cells #[.slice none 0 0] 56)).alloc (.cells #[.pointer none] 28)).alloc (.cells #[.int .i64 1] 2)).alloc (.cells #[.int .i64 4096] 2)) := below_size (below_size (below_size box_below box_below.size box_below) (by simp; omega) box_below) (by simp; omega) box_below
  obtain ⟨Wl, hWl⟩ : ∃ Wl, ((((w.alloc (.cells #[.slice none 0 0] 56)).alloc (.cells #[.pointer none] 28)).alloc (.cells #[.int .i64 1] 2)).alloc (.cells #[.int .i64 4096] 2)) = Wl := ⟨_, rfl⟩
  rw [hWl] at E7 E8 BL ⊢
  clear hWl
  have n1 : w.heap.size ≤ w.heap.size + 1 := by omega
  generalize w.heap.size + 1 + 1 + 1 = b3 at *
  generalize w.heap.size + 1 + 1 = b2 at *
  generalize w.heap.size + 1 = b1 at *
  obtain ⟨b7, hb7⟩ : ∃ q, q = w.heap.size := ⟨_, rfl⟩
  rw [← hb7] at E7 ⊢
  have n7 : w.heap.size ≤ b7 := Nat.le_of_eq hb7.symm
  clear hb7
  have l7 := lt_of_block E7
  have l1 := lt_of_block E8
  have lw := BL.size
  refine rangeV (F := Fence.wide) (n := 12) rfl (by decide) (gf := 74) (lb := #[.pointer (some ⟨b1, 0, none⟩), .pointer (some ⟨b2, 0, none⟩), .pointer (some ⟨b3, 0, none⟩)]) rfl trivial (enters_of Tryz.func74 (by kernel_rfl) rfl) (did_nil (n := 11)) (by intro x; rfl)
    (fun _ W => W.heap[b7]? = some (.cells #[.slice none 0 0] 56 (0, 0)) ∧ W.heap[b1]? = some (.cells #[.pointer none] 28 (0, 0)) ∧ Below w.heap.size w W) (fun _ _ _ => False) ?hI (fun _ _ _ _ _ hs _ _ => hs) ?hV ⟨E7, E8, BL⟩ (fun _ _ _ => False) (fun _ _ _ _ _ _ hs _ _ => hs) ?assign ?body ?done ?stop
  case hI =>
    rintro pre A B row ⟨q1, q2, q3⟩ hg hr
    have low : ∀ q, q < Wl.heap.size → q < A.heap.size → B.heap[q]? = A.heap[q]? := fun q hq hA => hg.block q hA (fun e => by have := (hr q e.symm).1; omega)
    exact ⟨(low b7 l7 (lt_of_block q1)).trans q1, (low b1 l1 (lt_of_block q2)).trans q2, ⟨hg.os.trans q3.os, hg.tape.trans q3.tape, hg.output.trans q3.output, Nat.le_trans q3.size hg.size, fun q hq => (low q (by omega) (by have := q3.size; omega)).trans (q3.block q hq)⟩⟩
  case hV =>
    rintro pre W ⟨q1, q2, q3⟩
    show W.cell? ⟨b1, 0, none⟩ = some (.pointer none)
    rw [cell_of_row W b1 _ _ _ _ q2]; rfl
  case assign =>
    rintro l pre x W K hi hok hK
    exact hok.elim
  case body =>
    rintro l pre x a' W hi hok _
    exact hok.elim
  case stop =>
    rintro D c' pre W _ _ hx
    exact hx.elim
  case done =>
    rintro D xs W hD hxs ⟨q1, q2, q3⟩ hK
    have hc7 : W.cell? ⟨b7, 0, none⟩ = some (.slice none 0 0) := by rw [cell_of_row W b7 _ _ _ _ q1]; rfl
    gi_wp2
    refine ⟨by simp, .inl ⟨_, _, rfl, run_takeDeferred hK, ?_⟩⟩
    refine ⟨_, results_tmp rfl _ _ _, rfl, ?_⟩
    exact ⟨q3.os, q3.tape, q3.output, Nat.le_trans q3.size (grownBy_putObj' W D _).size, fun q hq => (World.putObj_heap_other (by omega)).trans (q3.block q hq)⟩
theorem writes_nil (w : World) : Calls Tryz.prog 28 #[.pointer none] w fun e w' => e = .returned (.slice none 0 0) ∧ Below w.heap.size w w' := by
  go_enter Tryz.func28, Tryz.ntmps28
  go_wp2_with fail
  refine (oops_nil 1 4096 w).mono ?_
  rintro e w' ⟨rfl, B⟩
  go_wp2
  go_ret
  exact ⟨rfl, B⟩
theorem news_nil (w : World) : Calls Tryz.prog 30 #[.pointer none] w fun e w' => e = .returned (.slice none 0 0) ∧ Below w.heap.size w w' := by
  go_enter Tryz.func30, Tryz.ntmps30
  go_wp2_with fail
  refine (oops_nil 4097 8192 w).mono ?_
  rintro e w' ⟨rfl, B⟩
  go_wp2
  go_ret
  exact ⟨rfl, B⟩
end Go.Proofs.YteomolihandfnaaGreat
