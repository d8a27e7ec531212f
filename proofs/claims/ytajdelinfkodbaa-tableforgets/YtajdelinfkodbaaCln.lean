/- maps.Clone of a table's pasts, and a past with no room behind. -/
import Derived.Test.YtajdelinfkodbaaFom
import Derived.Shelf.SlMaps.Clone
namespace Go.Proofs.Ytajdelinfkodbaa
open Go.RowKit
set_option maxRecDepth 100000
set_option maxHeartbeats 1000000 in
theorem clone_map (b : Nat) (es : Array MapEntry) (clock : Nat) (w : World) (hb : w.heap[b]? = some (.map es clock)) :
    Calls Try.prog 44 #[.map (some b)] w fun e w' => e = .returned (.map (some w.heap.size)) ∧ w' = w.alloc (.map es clock) := by
  have hq := fun w => run_eql_map_nil_sl (P := Try.prog) w 70 _ _ (some b) Try.underlying70
  go_enter Try.func44, Try.ntmps44
  go_wp2
  rw [run_callFunc_extern (show Try.prog.funcs[60]? = _ from rfl) (by kernel_rfl) (by kernel_rfl) (by kernel_rfl) (e := Extern.MapsClone.clone) (by kernel_rfl), run_maps_clone_sl w 70 hb]
  simp only [Result.andThen]
  rw [Oper.upon_value]
  go_wp2
  rw [run_typeAssert_map_sl _ 70 20 _ _ _ Try.underlying70]
  simp only [Result.andThen]
  rw [Oper.upon_value]
  go_wp2
  go_ret
  exact ⟨rfl, rfl⟩
theorem clone_isMap {w : World} {b : Nat} {f : Int → Option Value} (h : IsMap w b f) : Calls Try.prog 44 #[.map (some b)] w fun e w' => e = .returned (.map (some w.heap.size)) ∧ IsMap w' w.heap.size f ∧ Below w.heap.size w w' := by
  obtain ⟨L, clock, hb, h1, h2, h3, h4⟩ := h
  refine (clone_map b _ clock w hb).mono ?_
  rintro e w' ⟨rfl, rfl⟩
  exact ⟨rfl, ⟨L, clock, new1 _ _, h1, h2, h3, h4⟩, box_below⟩
theorem clone_nilMap (w : World) : Calls Try.prog 44 #[.map none] w fun e w' => e = .returned (.map none) ∧ w = w' := by
  have hq := fun w => run_eql_map_nil_sl (P := Try.prog) w 70 _ _ none Try.underlying70
  go_enter Try.func44, Try.ntmps44
  go_wp2
  go_ret
  exact ⟨rfl, rfl⟩
set_option maxHeartbeats 1000000 in
theorem clip_any (va : Option Addr) (vn vc : Nat) (w : World) (hn : vn ≤ vc) : Calls Try.prog 61 #[.slice va vn vc] w fun e w' => e = .returned (.slice va vn vn) ∧ w = w' := by
  have h1 : (0 : Int) ≤ (vn : Int) := by omega
  have h2 : (vn : Int) ≤ (vc : Int) := by omega
  go_enter Try.func61, Try.ntmps61
  go_wp2
  go_ret
  exact ⟨rfl, rfl⟩
theorem Try.results45 : Try.f45.results = #[.cell 2 78] := by kernel_rfl
set_option maxHeartbeats 1000000 in
theorem cut_any (c : Int) (va : Option Addr) (vn vc : Nat) (w : World) (hn : vn ≤ vc) : Calls Try.prog 45 #[.agg #[.int .i64 c, .slice va vn vc]] w fun e w' => e = .returned (.agg #[.int .i64 c, .slice va vn vn]) ∧ Below w.heap.size w w' := by
  go_enter Try.func45, Try.ntmps45
  go_wp2_with fail
  refine (clip_any va vn vc _ hn).mono ?_
  rintro e w' ⟨rfl, rfl⟩
  go_wp2
  exact bodyPost_ret (v := .agg #[.int .i64 c, .slice va vn vn]) (results_cell Try.results45 rfl (load78 (new2 _ _ _))) rfl ⟨rfl, below_size box_below box_below.size box_below⟩
end Go.Proofs.Ytajdelinfkodbaa
