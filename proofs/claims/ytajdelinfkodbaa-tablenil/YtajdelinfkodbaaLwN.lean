/- A table that is not there. -/
import Derived.Test.YtajdelinfkodbaaKno
namespace Go.Proofs.Ytajdelinfkodbaa
open Go.RowKit
set_option maxRecDepth 100000
theorem Try.results26 : Try.f26.results = #[.cell 2 38] := by kernel_rfl
theorem at_nil (c k : Int) (w : World) : Calls Try.prog 19 #[.pointer none, .int .i64 c, .int .i64 k] w fun e w' => e = .returned (.tuple #[.agg #[.int .i64 0, .slice none 0 0, .slice none 0 0], .int .i64 2]) ∧ Below w.heap.size w w' := by
  have E6 := new1 w (objB 0 (.slice none 0 0) (.slice none 0 0))
  have B6 : Below w.heap.size w (w.alloc (objB 0 (.slice none 0 0) (.slice none 0 0))) := box_below
  obtain ⟨z0, z1, z2, zf⟩ := obj_cells E6
  unfold objB at *
  go_enter Try.func19, Try.ntmps19
  go_wp2
  exact bodyPost_ret (v := .tuple #[.agg #[.int .i64 0, .slice none 0 0, .slice none 0 0], .int .i64 2]) (results_twoP Try.results19 rfl (load49 z0 z1 z2) rfl) rfl ⟨rfl, B6⟩
theorem all_nil (w : World) : Calls Try.prog 26 #[.pointer none] w fun e w' => e = .returned (.agg #[.int .i64 0, .slice none 0 0]) ∧ Below w.heap.size w w' := by
  have E6 := new1 w (recB 0 (.slice none 0 0) 38)
  have B6 : Below w.heap.size w (w.alloc (recB 0 (.slice none 0 0) 38)) := box_below
  obtain ⟨z0, z1⟩ := rec_cells E6
  have zf := rec_frozen E6
  unfold recB at *
  go_enter Try.func26, Try.ntmps26
  go_wp2
  exact bodyPost_ret (v := .agg #[.int .i64 0, .slice none 0 0]) (results_cell Try.results26 rfl (load38 E6)) rfl ⟨rfl, B6⟩
theorem field38 (c : Int) (v : Value) (w : World) : (Instr.field 38 (.agg #[.int .i64 c, v]) 0).run Try.prog w = .ok (.int .i64 c) w := by
  have ha : (isAgg 2).run Try.prog w = .ok false w := by simp [isAgg, run_underlying Try.underlying2]
  simp [Instr.field, run_underlying Try.underlying38, part, asAgg, ha, go_sem]
theorem apply_nil (w : World) : Calls Try.prog 11 #[.pointer none, .agg #[.int .i64 0, .slice none 0 0]] w fun e w' => e = .returned (.int .i64 2) ∧ Below w.heap.size w w' := by
  go_enter Try.func11, Try.ntmps11
  go_wp2
  go_ret
  exact ⟨rfl, box_below⟩
theorem forget_nil (c : Int) (w : World) : Calls Try.prog 16 #[.pointer none, .int .i64 c] w fun e w' => e = .returned (.int .i64 2) ∧ Below w.heap.size w w' := by
  go_enter Try.func16, Try.ntmps16
  go_wp2
  go_ret
  exact ⟨rfl, below_size box_below box_below.size box_below⟩
theorem last_nil (w : World) : Calls Try.prog 22 #[.pointer none] w fun e w' => e = .returned (.int .i64 0) ∧ w = w' := by
  go_enter Try.func22, Try.ntmps22
  go_wp2
  go_ret
  exact ⟨rfl, rfl⟩
theorem first_nil (w : World) : Calls Try.prog 23 #[.pointer none] w fun e w' => e = .returned (.int .i64 0) ∧ w = w' := by
  go_enter Try.func23, Try.ntmps23
  go_wp2
  go_ret
  exact ⟨rfl, rfl⟩
theorem changed_nil (k : Int) (w : World) : Calls Try.prog 24 #[.pointer none, .int .i64 k] w fun e w' => e = .returned (.int .i64 0) ∧ w = w' := by
  go_enter Try.func24, Try.ntmps24
  go_wp2
  go_ret
  exact ⟨rfl, rfl⟩
theorem oops_nil (c : Int) (w : World) : Calls Try.prog 28 #[.pointer none, .int .i64 c] w fun e w' => e = .returned (.slice none 0 0) ∧ w = w' := by
  go_enter Try.func28, Try.ntmps28
  go_wp2
  go_ret
  exact ⟨rfl, rfl⟩
theorem free_nil (k : Int) (w : World) : Calls Try.prog 30 #[.pointer none, .int .i64 k] w fun e w' => e = .returned (.slice none 0 0) ∧ w = w' := by
  go_enter Try.func30, Try.ntmps30
  go_wp2
  go_ret
  exact ⟨rfl, rfl⟩
theorem copy_nil (w : World) : Calls Try.prog 18 #[.pointer none] w fun e w' => e = .returned (.pointer none) ∧ w = w' := by
  go_enter Try.func18, Try.ntmps18
  go_wp2
  go_ret
  exact ⟨rfl, rfl⟩
set_option maxHeartbeats 8000000 in
theorem tableNil_true (c k : Int) (w : World) : Calls Try.prog 6 #[.int .i64 c, .int .i64 k] w fun e w' => e = .returned (.bool true) ∧ Below w.heap.size w w' := by
  go_enter Try.func6, Try.ntmps6
  go_wp2_with fail
  refine (at_nil c k w).mono ?_
  rintro e w1 ⟨rfl, B1⟩
  have E6 := new1 w1 (objB 0 (.slice none 0 0) (.slice none 0 0))
  have B2 : Below w.heap.size w (w1.alloc (objB 0 (.slice none 0 0) (.slice none 0 0))) := below_size B1 B1.size box_below
  unfold objB at E6 B2
  go_upto_region 3 with fail
  generalize w1.alloc (.cells #[.int .i64 0, .slice none 0 0, .slice none 0 0] 49) = w2 at *
  replace E6 : w2.heap[w1.heap.size]? = some (objB 0 (.slice none 0 0) (.slice none 0 0)) := E6
  obtain ⟨z0, z1, z2, zf⟩ := obj_cells E6
  have f38 := fun w => field38 0 (.slice none 0 0) w
  clear B1
  go_wp2_with (first
    | (go_at_call 21; refine (rsame_eq (isO_none w2) (isO_none w2)).mono ?_; rintro e w3 ⟨rfl, B3⟩)
    | (go_at_call 11; refine (apply_nil w3).mono ?_; rintro e w4 ⟨rfl, B4⟩)
    | (go_at_call 16; refine (forget_nil c w4).mono ?_; rintro e w5 ⟨rfl, B5⟩)
    | (go_at_call 22; refine (last_nil w5).mono ?_; rintro e w' ⟨rfl, rfl⟩)
    | (go_at_call 23; refine (first_nil w5).mono ?_; rintro e w' ⟨rfl, rfl⟩)
    | (go_at_call 28; refine (oops_nil c w5).mono ?_; rintro e w' ⟨rfl, rfl⟩)
    | (go_at_call 24; refine (changed_nil k w5).mono ?_; rintro e w' ⟨rfl, rfl⟩)
    | (go_at_call 30; refine (free_nil 1 w5).mono ?_; rintro e w' ⟨rfl, rfl⟩)
    | (go_at_call 18; refine (copy_nil w5).mono ?_; rintro e w' ⟨rfl, rfl⟩)
    | (go_at_call 26; refine (all_nil w5).mono ?_; rintro e w6 ⟨rfl, B6⟩)
    | (go_at_call 33; refine (known_true w6).mono ?_; rintro e w7 ⟨rfl, B7⟩))
  go_ret
  have C3 := below_size B2 B2.size B3
  have C4 := below_size C3 C3.size B4
  have C5 := below_size C4 C4.size B5
  have C6 := below_size C5 C5.size B6
  exact ⟨rfl, below_size C6 C6.size B7⟩
end Go.Proofs.Ytajdelinfkodbaa
