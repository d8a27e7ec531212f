/- Sums of any two complex numbers. -/
import Derived.Test.YtkpngpongbpfgaaTms
namespace Go.Proofs.Ytkpngpongbpfgaa
open Go.RowKit
set_option maxRecDepth 100000
theorem run_carithF (op : BinOp) (ho : op = .add ∨ op = .sub ∨ op = .mul ∨ op = .quo) (x y : Nat) (w : World) : (Op.Complex.arith op .f64 x y).run Try.prog w = .ok (flV op x y w) (flW op x y w) := by
  have h := run_fl op ho 25 x y w
  have e : (binOp op 25 (.float .f64 x) (.float .f64 y)).run Try.prog w = (Op.floatArith op .f64 x y).run Try.prog w := by
    rcases ho with rfl | rfl | rfl | rfl <;> simp [binOp]
  rw [e] at h
  simp [Op.Complex.arith, h]
theorem run_csum (op : BinOp) (ho : op = .add ∨ op = .sub) (t : TypeId) (a b c d : Nat) (w : World) : (binOp op t (.complex .f64 a b) (.complex .f64 c d)).run Try.prog w = .ok (.complex .f64 (flV op a c w) (flV op b d (flW op a c w))) (flW op b d (flW op a c w)) := by
  rcases ho with rfl | rfl
  · have h := run_carithF .add (by simp)
    simp [binOp, Op.complexOp, h]
  · have h := run_carithF .sub (by simp)
    simp [binOp, Op.complexOp, h]
structure SumR (op : BinOp) (a b c d r i : Nat) : Prop where
  re : FR op a c r
  im : FR op b d i
theorem sumR_turn {a b c d r i r' i' : Nat} (h : SumR .add a b c d r i) (h' : SumR .add c d a b r' i') : Alike r r' ∧ Alike i i' :=
  ⟨fr_alike h.re (fr_comm (.inl rfl) h'.re) (.inl rfl) (.inl rfl), fr_alike h.im (fr_comm (.inl rfl) h'.im) (.inl rfl) (.inl rfl)⟩
end Go.Proofs.Ytkpngpongbpfgaa
