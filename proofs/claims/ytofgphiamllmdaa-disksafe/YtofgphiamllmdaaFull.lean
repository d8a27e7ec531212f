/- The statements' full; disk.New; Pending, Size, Fail; calls on no device. -/
import Derived.Test.YtofgphiamllmdaaDev
import Derived.Deep.OwnRows
namespace Go.Proofs.Ytofgphiamllmdaa
open Go.RowKit

theorem box_below (w : World) (o : Obj) : Below w.heap.size w (w.alloc o) := (Below.refl _ _).alloc (Nat.le_refl _) o
theorem Try.info5 : (Try.prog.info? 5).map (fun i => (i.zero, i.size, i.bytes)) = some (some (.int .u8 0), 1, 1) := by kernel_rfl
theorem made_zero (n : Nat) : madeCells #[Value.int .u8 0] n = cellsB (List.replicate n 0) := by
  unfold madeCells cellsB
  apply Array.ext
  · simp
  · intro i h1 h2
    simp [Nat.mod_one]
theorem cells_get (xs : List Int) (j : Nat) : (cellsB xs)[j]? = (xs[j]?).map (Value.int .u8) := by simp [cellsB]
theorem cells_set (xs : List Int) (j : Nat) (c : Int) : (cellsB xs).setIfInBounds j (.int .u8 c) = cellsB (xs.set j c) := by simp [cellsB, List.map_set]
theorem rep_get (c : Int) (j n : Nat) (h : j < n) : (List.replicate j c ++ List.replicate (n - j) 0)[j]? = some 0 := by
  rw [List.getElem?_append_right (by simp), List.length_replicate, Nat.sub_self, List.getElem?_replicate, if_pos (by omega)]
theorem rep_set (c : Int) (j n : Nat) (h : j < n) : (List.replicate j c ++ List.replicate (n - j) 0).set j c = List.replicate (j + 1) c ++ List.replicate (n - (j + 1)) 0 := by
  rw [List.set_append_right _ _ (by simp), List.length_replicate, Nat.sub_self, show n - j = (n - (j + 1)) + 1 by omega, List.replicate_succ, List.set_cons_zero, List.replicate_succ']
  simp
theorem grown_set {w wr : World} (hg : w.grownBy wr none) (b j : Nat) (v : Value) (hb : w.heap.size ≤ b) : w.grownBy (wr.setCell ⟨b, j, none⟩ v) none :=
  ⟨hg.os, hg.tape, hg.output, by simpa using hg.size, fun i hi _ => (heap_setCell_other _ _ _ _ (by show i ≠ b; omega)).trans (hg.block i hi (by simp))⟩
set_option maxRecDepth 100000 in
set_option maxHeartbeats 1000000 in
theorem full_any (w : World) (k : Nat) (c : Int) (hk : k ≤ 1000000) :
    Calls Try.prog 10 #[.int .i64 (k : Int), .int .u8 c] w fun e w' => e = .returned (.slice (some ⟨w.heap.size, 0, none⟩) (k * 128) (k * 128)) ∧ w'.heap[w.heap.size]? = some (.cells (cellsB (List.replicate (k * 128) c)) 5 (0, 0)) ∧ w.grownBy w' none := by
  obtain ⟨i0, hi, hz0, hz1, hz2⟩ := info_parts Try.info5
  have hw : IntKind.i64.wrap ((k : Int) * 128) = ((k * 128 : Nat) : Int) := by rw [IntKind.wrap_i64]; omega
  go_enter Try.func10, Try.ntmps10
  go_wp2_with (at_make; refine wpList_make_row _ rfl _ _ 31 rfl 5 i0 (.int .u8 0) Try.underlying31 hi hz0 hz1 rfl .i64 .i64 (k * 128) (by simp [Act.eval]) (by simp [Act.eval]) (by rw [hz2]; omega) (by omega) ?_)
  rw [made_zero]
  generalize hn : k * 128 = n at *
  have hm : n ≤ 128000000 := by omega
  go_loopw [6] (fun i wr => ∃ j : Nat, j ≤ n ∧ i = .int .i64 (j : Int) ∧ w.grownBy wr none ∧ wr.heap[w.heap.size]? = some (.cells (cellsB (List.replicate j c ++ List.replicate (n - j) 0)) 5 (0, 0))) (fun i _ => n - (intOf i).toNat)
  case atStart => exact ⟨0, by omega, rfl, World.grownBy_alloc w _ none, by simpa using heap_alloc_new w _⟩
  case round =>
    obtain ⟨j, hj, rfl, hg, hb⟩ := hrel
    by_cases hjn : j = n
    · subst hjn
      have hlt : ¬ (j : Int) < (j : Int) := by omega
      go_wp2
      go_ret
      exact ⟨rfl, by simpa using hb, hg⟩
    · have hlt : (j : Int) < (n : Int) := by omega
      have hc : wr.cell? ⟨w.heap.size, j, none⟩ = some (.int .u8 0) := by
        rw [cell_of_row wr _ j _ _ _ hb]
        rw [cells_get, rep_get c j n (by omega)]
        rfl
      have hf : wr.frozen? ⟨w.heap.size, j, none⟩ = false := frozen_of_row wr _ j _ _ hb
      have hw1 : IntKind.i64.wrap ((j : Int) + 1) = (j : Int) + 1 := by rw [IntKind.wrap_i64]; omega
      go_wp2
      go_roundw
      case rel =>
        refine ⟨j + 1, by omega, rfl, ?_, ?_⟩
        · exact grown_set hg _ _ _ (Nat.le_refl _)
        · rw [heap_setCell_same wr _ j _ _ _ hb, cells_set, rep_set c j n (by omega)]
      case measure => simp [intOf]; omega

set_option maxHeartbeats 1000000 in
theorem new_any (w : World) (k : Int) (h0 : 1 ≤ k) (h1 : k ≤ 4096) :
    Calls Try.prog 8 #[.int .i64 k] w fun e w' => e = .returned (.tuple #[.pointer (some ⟨w.heap.size + 2, 0, none⟩), .int .i64 0]) ∧ Dev w' w.heap.size (w.heap.size + 2) w.heap.size (w.heap.size + 1) (.slice none 0 0) k (fun _ => z128) (fun _ => z128) [] 0 false ∧ Below w.heap.size w w' := by
  have hmm := @run_makeMap Try.prog
  go_enter Try.func8, Try.ntmps8
  go_wp2
  have e0 : w.heap.size + 1 + 1 = w.heap.size + 2 := rfl
  have m0 := (HasSec.made w).same (w' := ((w.alloc (.map #[] 0)).alloc (.map #[] 0)).alloc (.cells #[.int .i64 k, .map (some w.heap.size), .map (some (w.heap.size + 1)), .slice none 0 0, .int .i64 0, .bool false] 50)) ((Below.heap_alloc _ _ _ (by simp <;> omega)).trans (Below.heap_alloc _ _ _ (by simp)))
  have m1 := (HasSec.made (w.alloc (.map #[] 0))).same (w' := ((w.alloc (.map #[] 0)).alloc (.map #[] 0)).alloc (.cells #[.int .i64 k, .map (some w.heap.size), .map (some (w.heap.size + 1)), .slice none 0 0, .int .i64 0, .bool false] 50)) (Below.heap_alloc _ _ _ (by simp))
  rw [World.size_alloc] at m1
  have m2 := heap_alloc_new ((w.alloc (.map #[] 0)).alloc (.map #[] 0)) (.cells #[.int .i64 k, .map (some w.heap.size), .map (some (w.heap.size + 1)), .slice none 0 0, .int .i64 0, .bool false] 50)
  rw [World.size_alloc, World.size_alloc] at m2
  refine bodyPost_ret (v := .tuple #[.pointer (some ⟨w.heap.size + 2, 0, none⟩), .int .i64 0]) (by simp [results, Try.results8, go_sem]) rfl ⟨rfl, ⟨m2, m0, m1, World.ownsRow_nil _ _ _ _, by simp, by omega, by omega, by omega, by omega⟩, ((box_below w _).alloc (by simp) _).alloc (by simp <;> omega) _⟩

section
variable {w : World} {n₀ p bs bn : Nat} {pv : Value} {size : Int} {G0 G1 : Int → List Int} {L : List (Int × List Int)} {left : Int} {dead : Bool}
set_option maxHeartbeats 1000000 in
theorem pending_any (h : Dev w n₀ p bs bn pv size G0 G1 L left dead) : Calls Try.prog 15 #[.pointer (some ⟨p, 0, none⟩)] w fun e w' => e = .returned (.int .i64 (L.length : Int)) ∧ w = w' := by
  obtain ⟨d0, d1, d2, d3, d4, d5, df⟩ := dev_cells h.obj
  have hs : ∃ a c, pv = .slice a L.length c := by
    rcases h.pend.2 with ⟨rfl, hn⟩ | ⟨g, cap, cur, rfl, _⟩
    · exact ⟨none, 0, by rw [hn]⟩
    · exact ⟨_, _, rfl⟩
  obtain ⟨a, c, rfl⟩ := hs
  go_enter Try.func15, Try.ntmps15
  go_wp2
  go_ret
  exact ⟨rfl, rfl⟩
set_option maxHeartbeats 1000000 in
theorem size_any (h : Dev w n₀ p bs bn pv size G0 G1 L left dead) : Calls Try.prog 19 #[.pointer (some ⟨p, 0, none⟩)] w fun e w' => e = .returned (.int .i64 size) ∧ w = w' := by
  obtain ⟨d0, d1, d2, d3, d4, d5, df⟩ := dev_cells h.obj
  go_enter Try.func19, Try.ntmps19
  go_wp2
  go_ret
  exact ⟨rfl, rfl⟩
end
set_option maxHeartbeats 1000000 in
theorem from_any {w : World} {n₀ p bs bn : Nat} {pv : Value} {size : Int} {G0 G1 : Int → List Int} {L : List (Int × List Int)} {left : Int} {dead : Bool} (h : Dev w n₀ p bs bn pv size G0 G1 L left dead) (hs : 0 ≤ size) (hs1 : size ≤ 4096) (at' : Int) (h0 : 0 ≤ at') (h1 : at' ≤ 9223372036854775807) :
    Calls Try.prog 20 #[.pointer (some ⟨p, 0, none⟩), .int .i64 at'] w fun e w' => e = .returned (.int .i64 (max 0 (size - at'))) ∧ w = w' := by
  obtain ⟨d0, d1, d2, d3, d4, d5, df⟩ := dev_cells h.obj
  have hw : IntKind.i64.wrap (size - at') = size - at' := by rw [IntKind.wrap_i64]; omega
  go_enter Try.func20, Try.ntmps20
  go_wp2
  · go_ret
    exact ⟨by rw [show max 0 (size - at') = size - at' by omega, ← hw]; rfl, rfl⟩
  · go_ret
    exact ⟨by rw [show max 0 (size - at') = 0 by omega]; rfl, rfl⟩

end Go.Proofs.Ytofgphiamllmdaa
