/- append of bytes onto nil within a region that draws its order. -/
import Derived.Test.YtlhmeipbcioncaaDoorMag
import Derived.Test.YtlhmeipbcioncaaDoorOf
import Derived.Deep.RegionLawGrows
namespace Go.Proofs.YtlhmeipbcioncaaDoor
open Go.RowKit

/-- append of bytes onto nil, as one step of a region that draws its order. -/
theorem step_app_nil {ops : Array Oper} {o : Oper} {a : Act} {w : World} {K : Act → World → Prop} {Q : Exit → Act → World → Prop} {E : Prop}
    (hg : o.guard = none) (s x : Operand) (hop : o.op = Op.call { callee := Callee.builtin Builtin.append, args := #[s, x], argTypes := #[36, 36] })
    (hs : a.eval s = .slice none 0 0) (ab : Option Addr) (len cap : Nat) (ys : List Int) (hx : a.eval x = .slice ab len cap) (hB : IsB w ab len cap ys) (hl : len ≤ 140737488355328)
    (hK : ∀ av cv w', OwnB w' w.heap.size (.slice av len cv) ys → Below w.heap.size w w' → K (a.put o.dst (.slice av len cv)) w') :
    if Region.wanted o (yielded ops a.tmps) = true then Oper.wp Tryd.prog o a w K Q else E := by
  obtain ⟨i0, hi, hz0, hz1, hz2⟩ := info_parts Tryd.info5
  have hw : Region.wanted o (yielded ops a.tmps) = true := by simp [Region.wanted, hg]
  rw [if_pos hw]
  cases ab with
  | none =>
    obtain ⟨rfl, rfl⟩ := hB.nil' rfl
    obtain rfl : ys = [] := List.eq_nil_of_length_eq_zero hB.size
    have := hK none 0 w (ownB_of (n := 0) (World.ownsRow_nil _ _ _ _) (by simp)) (Below.refl _ _)
    unfold Oper.wp
    simp [execOp, hop, resolve, invoke, builtin, hs, hx, Result.andThen, Builtin.append_]
    exact this
  | some ad =>
    obtain ⟨v', w', hrun, r1, r2, _⟩ := run_append_own (P := Tryd.prog) w w.heap.size 36 o.type 5 i0 (.int .u8 0) 1 1 Tryd.underlying36 hi hz0 hz1 hz2 rfl (by decide) (.slice none 0 0) 0 [] (World.ownsRow_nil w _ 5 1) ad len cap (ys.map (Value.int .u8)) hB.lenMap (hB.cellsAt ad rfl) hB.one (by unfold maxLen; omega) (by omega) (Nat.le_refl _)
    rw [List.nil_append] at r1
    have hO := ownB_of r1 hB.byte
    have hbel : Below w.heap.size w w' := (Below.refl _ _).grown r2 (Nat.le_refl _) (by simp [Value.ownBlock])
    obtain ⟨av, cv, rfl, _⟩ := hO.2
    rw [hB.size] at hO hrun
    unfold Oper.wp
    simp [execOp, hop, resolve, invoke, builtin, hs, hx, hrun, Result.andThen]
    exact hK av cv w' hO hbel

end Go.Proofs.YtlhmeipbcioncaaDoor
