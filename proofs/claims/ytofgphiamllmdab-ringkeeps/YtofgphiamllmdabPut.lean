/- filled.put. -/
import Derived.Test.YtofgphiamllmdabSec
namespace Go.Proofs.Ytofgphiamllmdab
open Go.RowKit
set_option maxRecDepth 100000

theorem grown_none {w w1 w2 : World} {r : Option Nat} (h : w.grownBy w1 none) (k : w1.grownBy w2 r) : w.grownBy w2 r :=
  ⟨k.os.trans h.os, k.tape.trans h.tape, k.output.trans h.output, Nat.le_trans h.size k.size, fun i hi hr => (k.block i (Nat.lt_of_lt_of_le hi h.size) hr).trans (h.block i hi (by simp))⟩

set_option maxRecDepth 100000 in
set_option maxHeartbeats 1000000 in
theorem put_any {w : World} {b : Nat} {g : Int → List Int} (k : Int) {xs : List Int} (hx : IsSec xs) (h : HasSec w b g) :
    Calls Try.prog 64 #[.map (some b), .int .i64 k, .agg (cellsB xs)] w fun e w' => e = .returned (.tuple #[]) ∧ HasSec w' b (fun i => if i = k then xs else g i) ∧ w.grownBy w' (some b) := by
  have hz := zero57
  go_enter Try.func64, Try.ntmps64
  have A := heap_alloc_new w (.cells (cellsB xs) 105)
  have hA : w.grownBy (w.alloc (.cells (cellsB xs) 105)) none := World.grownBy_alloc w _ none
  have hS := h.same (Below.heap_alloc w (.cells (cellsB xs) 105) b h.lt)
  have hE : ∀ w, (Op.equalIn 10000 105 (.agg (cellsB xs)) (.agg (cellsB z128))).run Try.prog w = .ok (decide (xs = z128)) w := equal_sec 10000 rfl hx isSec_z
  unfold secV at hz
  by_cases hd : xs = z128
  · rw [decide_eq_true hd] at hE
    obtain ⟨w', e, h4, h5⟩ := hS.delete k (ts := #[101, 3]) rfl 0
    have h4' : HasSec w' b (fun i => if i = k then xs else g i) := by rw [hd]; exact h4
    clear hd h4
    go_wp2_with (first | refine wpList_load_row rfl 105 (.tmp 5) rfl w.heap.size rfl 105 _ _ _ A Try.underlying105 rfl (size57 hx) ?_)
    refine bodyPost_ret (results_none rfl _ _ _) rfl ?_
    exact ⟨rfl, h4', grown_none hA h5⟩
  · rw [decide_eq_false hd] at hE
    obtain ⟨w', e, h4, h5⟩ := hS.update k hx
    clear hd
    unfold secV at e
    go_wp2_with (first | refine wpList_load_row rfl 105 (.tmp 5) rfl w.heap.size rfl 105 _ _ _ A Try.underlying105 rfl (size57 hx) ?_)
    go_end0
    exact ⟨rfl, h4, grown_none hA h5⟩
end Go.Proofs.Ytofgphiamllmdab
