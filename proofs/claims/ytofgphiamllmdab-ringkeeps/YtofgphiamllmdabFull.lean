/- The statements' full; disk.New; Pending, Size, Fail; calls on no device. -/
import Derived.Test.YtofgphiamllmdabDev
import Derived.Deep.OwnRows
namespace Go.Proofs.Ytofgphiamllmdab
open Go.RowKit
set_option maxRecDepth 100000

theorem box_below (w : World) (o : Obj) : Below w.heap.size w (w.alloc o) := (Below.refl _ _).alloc (Nat.le_refl _) o
theorem Try.info5 : (Try.prog.info? 5).map (fun i => (i.zero, i.size, i.bytes)) = some (some (.int .u8 0), 1, 1) := by kernel_rfl
theorem made_zero (n : Nat) : madeCells #[Value.int .u8 0] n = cellsB (List.replicate n 0) := by
  unfold madeCells cellsB
  apply Array.ext
  · simp
  · intro i h1 h2
    simp [Nat.mod_one]
theorem cells_get (xs : List Int) (j : Nat) : (cellsB xs)[j]? = (xs[j]?).map (Value.int .u8) := by simp [cellsB]
theorem cells_set (xs : List Int) (j : Nat) (c : Int) : (cellsB xs).setIfInBounds j (.int .u8 c) = cellsB (xs.set j c) := by simp [cellsB, List.map_set]
theorem rep_get (c : Int) (j n : Nat) (h : j < n) : (List.replicate j c ++ List.replicate (n - j) 0)[j]? = some 0 := by
  rw [List.getElem?_append_right (by simp), List.length_replicate, Nat.sub_self, List.getElem?_replicate, if_pos (by omega)]
theorem rep_set (c : Int) (j n : Nat) (h : j < n) : (List.replicate j c ++ List.replicate (n - j) 0).set j c = List.replicate (j + 1) c ++ List.replicate (n - (j + 1)) 0 := by
  rw [List.set_append_right _ _ (by simp), List.length_replicate, Nat.sub_self, show n - j = (n - (j + 1)) + 1 by omega, List.replicate_succ, List.set_cons_zero, List.replicate_succ']
  simp
theorem grown_set {w wr : World} (hg : w.grownBy wr none) (b j : Nat) (v : Value) (hb : w.heap.size ≤ b) : w.grownBy (wr.setCell ⟨b, j, none⟩ v) none :=
  ⟨hg.os, hg.tape, hg.output, by simpa using hg.size, fun i hi _ => (heap_setCell_other _ _ _ _ (by show i ≠ b; omega)).trans (hg.block i hi (by simp))⟩
set_option maxHeartbeats 1000000 in
theorem new_any (w : World) (k : Int) (h0 : 1 ≤ k) (h1 : k ≤ 4096) :
    Calls Try.prog 43 #[.int .i64 k] w fun e w' => e = .returned (.tuple #[.pointer (some ⟨w.heap.size + 2, 0, none⟩), .int .i64 0]) ∧ Dev w' w.heap.size (w.heap.size + 2) w.heap.size (w.heap.size + 1) (.slice none 0 0) k (fun _ => z128) (fun _ => z128) [] 0 false ∧ Below w.heap.size w w' := by
  have hmm := @run_makeMap Try.prog
  go_enter Try.func43, Try.ntmps43
  go_wp2
  have e0 : w.heap.size + 1 + 1 = w.heap.size + 2 := rfl
  have m0 := (HasSec.made w).same (w' := ((w.alloc (.map #[] 0)).alloc (.map #[] 0)).alloc (.cells #[.int .i64 k, .map (some w.heap.size), .map (some (w.heap.size + 1)), .slice none 0 0, .int .i64 0, .bool false] 104)) ((Below.heap_alloc _ _ _ (by simp <;> omega)).trans (Below.heap_alloc _ _ _ (by simp)))
  have m1 := (HasSec.made (w.alloc (.map #[] 0))).same (w' := ((w.alloc (.map #[] 0)).alloc (.map #[] 0)).alloc (.cells #[.int .i64 k, .map (some w.heap.size), .map (some (w.heap.size + 1)), .slice none 0 0, .int .i64 0, .bool false] 104)) (Below.heap_alloc _ _ _ (by simp))
  rw [World.size_alloc] at m1
  have m2 := heap_alloc_new ((w.alloc (.map #[] 0)).alloc (.map #[] 0)) (.cells #[.int .i64 k, .map (some w.heap.size), .map (some (w.heap.size + 1)), .slice none 0 0, .int .i64 0, .bool false] 104)
  rw [World.size_alloc, World.size_alloc] at m2
  refine bodyPost_ret (v := .tuple #[.pointer (some ⟨w.heap.size + 2, 0, none⟩), .int .i64 0]) (by simp [results, Try.results43, go_sem]) rfl ⟨rfl, ⟨m2, m0, m1, World.ownsRow_nil _ _ _ _, by simp, by omega, by omega, by omega, by omega⟩, ((box_below w _).alloc (by simp) _).alloc (by simp <;> omega) _⟩

section
variable {w : World} {n₀ p bs bn : Nat} {pv : Value} {size : Int} {G0 G1 : Int → List Int} {L : List (Int × List Int)} {left : Int} {dead : Bool}
set_option maxHeartbeats 1000000 in
theorem pending_any (h : Dev w n₀ p bs bn pv size G0 G1 L left dead) : Calls Try.prog 33 #[.pointer (some ⟨p, 0, none⟩)] w fun e w' => e = .returned (.int .i64 (L.length : Int)) ∧ w = w' := by
  obtain ⟨d0, d1, d2, d3, d4, d5, df⟩ := dev_cells h.obj
  have hs : ∃ a c, pv = .slice a L.length c := by
    rcases h.pend.2 with ⟨rfl, hn⟩ | ⟨g, cap, cur, rfl, _⟩
    · exact ⟨none, 0, by rw [hn]⟩
    · exact ⟨_, _, rfl⟩
  obtain ⟨a, c, rfl⟩ := hs
  go_enter Try.func33, Try.ntmps33
  go_wp2
  go_ret
  exact ⟨rfl, rfl⟩
set_option maxHeartbeats 1000000 in
theorem size_any (h : Dev w n₀ p bs bn pv size G0 G1 L left dead) : Calls Try.prog 71 #[.pointer (some ⟨p, 0, none⟩)] w fun e w' => e = .returned (.int .i64 size) ∧ w = w' := by
  obtain ⟨d0, d1, d2, d3, d4, d5, df⟩ := dev_cells h.obj
  go_enter Try.func71, Try.ntmps71
  go_wp2
  go_ret
  exact ⟨rfl, rfl⟩
end
set_option maxHeartbeats 1000000 in
theorem from_any {w : World} {n₀ p bs bn : Nat} {pv : Value} {size : Int} {G0 G1 : Int → List Int} {L : List (Int × List Int)} {left : Int} {dead : Bool} (h : Dev w n₀ p bs bn pv size G0 G1 L left dead) (hs : 0 ≤ size) (hs1 : size ≤ 4096) (at' : Int) (h0 : 0 ≤ at') (h1 : at' ≤ 9223372036854775807) :
    Calls Try.prog 66 #[.pointer (some ⟨p, 0, none⟩), .int .i64 at'] w fun e w' => e = .returned (.int .i64 (max 0 (size - at'))) ∧ w = w' := by
  obtain ⟨d0, d1, d2, d3, d4, d5, df⟩ := dev_cells h.obj
  have hw : IntKind.i64.wrap (size - at') = size - at' := by rw [IntKind.wrap_i64]; omega
  go_enter Try.func66, Try.ntmps66
  go_wp2
  · go_ret
    exact ⟨by rw [show max 0 (size - at') = size - at' by omega, ← hw]; rfl, rfl⟩
  · go_ret
    exact ⟨by rw [show max 0 (size - at') = 0 by omega]; rfl, rfl⟩

end Go.Proofs.Ytofgphiamllmdab
