/- Mul, of the program. -/
import Derived.Test.YtlhmeipbcioncaaDoorAddSub
import Derived.Test.YtlhmeipbcioncaaDoorProd
namespace Go.Proofs.YtlhmeipbcioncaaDoor
open Go.RowKit

theorem run_all64 (a : Addr) (w : World) : (Instr.sliceAt 87 (.pointer (some a)) none none none).run Tryd.prog w = .ok (.slice (some a) 64 64) w := by
  have hl : Tryd.prog.arrayLen 87 = 64 := by kernel_rfl
  have he : Tryd.prog.elem 87 = 86 := by kernel_rfl
  have ht : Tryd.prog.underlying 87 = some (.array (Tryd.prog.arrayLen 87) (Tryd.prog.elem 87)) := by rw [hl, he]; exact Tryd.underlying87
  have hs : (Tryd.prog.info? 86).map (·.size) = some 1 := by kernel_rfl
  have hz : (sizeOf 86).run Tryd.prog w = .ok 1 w := by
    cases hq : Tryd.prog.info? 86 with
    | none => simp [hq] at hs
    | some i => simp [hq] at hs; simp [sizeOf, typeInfo, hq, hs]
  rw [run_sliceAt_array_all w 87 a ht, he, hz, hl]
  simp [slicedAt, Result.andThen, Addr.add]
theorem run_alloc64 (a : Act) (w : World) {o : Oper} (ho : o.op = .alloc 87) : (execOp a.eval o).run Tryd.prog w = .ok (.value (.pointer (some ⟨w.heap.size, 0, none⟩))) (w.alloc (.cells (cellsW (words 64 0)) 87)) := by
  have hz := (zero_of_info Tryd.info64).1
  simp [execOp, ho, hz, go_sem]
theorem mul_bound {xs ys : List Int} (h1 : ∀ x ∈ xs, 0 ≤ x ∧ x < 256) (h2 : ∀ x ∈ ys, 0 ≤ x ∧ x < 256) (m1 : xs.length ≤ 128) (m2 : ys.length ≤ 128) : val8 xs < 4294967296 ^ 32 ∧ val8 ys < 4294967296 ^ 32 ∧ val8 xs * val8 ys < 4294967296 ^ 64 := by
  have a := Nat.lt_of_lt_of_le (val8_lt xs h1) (Nat.pow_le_pow_right (by decide) m1)
  have b := Nat.lt_of_lt_of_le (val8_lt ys h2) (Nat.pow_le_pow_right (by decide) m2)
  have e : (256 : Nat) ^ 128 = 4294967296 ^ 32 := by decide
  rw [e] at a b
  refine ⟨a, b, ?_⟩
  rw [show (4294967296 : Nat) ^ 64 = 4294967296 ^ 32 * 4294967296 ^ 32 by rw [← Nat.pow_add]]
  exact Nat.mul_lt_mul_of_lt_of_lt a b

/-- What Mul makes of two numbers. -/
def mulB (n1 : Bool) (xs : List Int) (n2 : Bool) (ys : List Int) : Bool := if rightB n1 xs && rightB n2 ys then fitB (n1 != n2) (val8 xs * val8 ys) else false
def mulE (n1 : Bool) (xs : List Int) (n2 : Bool) (ys : List Int) : Int := if rightB n1 xs && rightB n2 ys then fitE (val8 xs * val8 ys) else 1
def mulM (n1 : Bool) (xs : List Int) (n2 : Bool) (ys : List Int) : List Int := if rightB n1 xs && rightB n2 ys then fitM (val8 xs * val8 ys) else []

end Go.Proofs.YtlhmeipbcioncaaDoor
