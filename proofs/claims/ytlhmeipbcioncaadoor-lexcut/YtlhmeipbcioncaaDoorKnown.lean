/- Div, Mod, and known: what must come of fixed calls. -/
import Derived.Test.YtlhmeipbcioncaaDoorDivide
namespace Go.Proofs.YtlhmeipbcioncaaDoor
open Go.RowKit

theorem alloc3 (w : World) (o0 o1 o2 : Obj) :
    (((w.alloc o0).alloc o1).alloc o2).heap[w.heap.size]? = some o0 ∧ (((w.alloc o0).alloc o1).alloc o2).heap[w.heap.size + 1]? = some o1 ∧ (((w.alloc o0).alloc o1).alloc o2).heap[w.heap.size + 2]? = some o2 ∧ Below w.heap.size w (((w.alloc o0).alloc o1).alloc o2) ∧ (((w.alloc o0).alloc o1).alloc o2).heap.size = w.heap.size + 3 := by
  have s2 : ((w.alloc o0).alloc o1).heap.size = w.heap.size + 2 := by simp
  have e2 := heap_alloc_new ((w.alloc o0).alloc o1) o2
  rw [s2] at e2
  exact ⟨(Below.heap_alloc _ _ _ (by simp; omega)).trans (heap_alloc2_old w _ _), (Below.heap_alloc _ _ _ (by simp)).trans (heap_alloc2_new w _ _), e2, (box2 w _ _).alloc (by simp; omega) _, by simp⟩

theorem mag7' : mag (-7 : Int).natAbs = [7] := by decide
theorem mag7 : mag (7 : Int).natAbs = [7] := by decide
theorem mag2 : mag (2 : Int).natAbs = [2] := by decide
theorem mag2' : mag (-2 : Int).natAbs = [2] := by decide
theorem quoN72 : quoN true (val8 [7]) (val8 [2]) = 4 := by decide
theorem remN72 : remN true (val8 [7]) (val8 [2]) = 1 := by decide
theorem mag4 : mag 4 = [4] := by decide
theorem mag1 : mag 1 = [1] := by decide
theorem mag256 : mag (256 : Int).natAbs = [1, 0] := by decide
theorem dec4 : strOfNums ([45] ++ dec 4) = ⟨#[45, 52]⟩ := by decide +kernel
theorem dec1 : strOfNums ([45] ++ dec 1) = ⟨#[45, 49]⟩ := by decide +kernel
theorem dec256 : strOfNums (dec 256) = ⟨#[50, 53, 54]⟩ := by decide +kernel
end Go.Proofs.YtlhmeipbcioncaaDoor
