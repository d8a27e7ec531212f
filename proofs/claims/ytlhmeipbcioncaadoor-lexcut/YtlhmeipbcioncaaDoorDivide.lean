/- divide, Div and Mod, given what quotientRest makes of the two numbers. -/
import Derived.Test.YtlhmeipbcioncaaDoorQuo
import Derived.Test.YtlhmeipbcioncaaDoorEqW
import Derived.Deep.RegionWith
namespace Go.Proofs.YtlhmeipbcioncaaDoor
open Go.RowKit

/-- How often, away from nought, and what is left. -/
def quoN (neg : Bool) (X Y : Nat) : Nat := if neg = true ∧ X % Y ≠ 0 then X / Y + 1 else X / Y
def remN (neg : Bool) (X Y : Nat) : Nat := if neg = true ∧ X % Y ≠ 0 then Y - X % Y else X % Y

theorem wpList_want {P : Program} {ops : Array Oper} {rest : List Oper} {o : Oper} {a : Act} {w : World} {Q : Exit → Act → World → Prop} (hw : Region.wanted o (yielded ops a.tmps) = true) (h : o.wp P a w (wpList P ops Q rest) Q) : wpList P ops Q (o :: rest) a w := by
  unfold wpList
  rw [if_pos hw]
  exact .inl h
theorem run_neq_bool (a : Act) (w : World) {o : Oper} {x y : Operand} {p q : Bool} (hx : a.eval x = .bool p) (hy : a.eval y = .bool q) (ho : o.op = .binOp .neq 4 x y 4) : (execOp a.eval o).run Tryd.prog w = .ok (.value (.bool (p != q))) w := by
  simp only [execOp, ho, hx, hy]
  simp [go_sem]
  cases p <;> cases q <;> rfl
theorem size25 {u v : Value} : (Tryd.prog.info? 63).map (·.size) = some (#[u, v] : Array Value).size := by
  have : (Tryd.prog.info? 63).map (·.size) = some 2 := by kernel_rfl
  exact this
theorem ownB_setRow {w : World} {base b : Nat} {v : Value} {xs : List Int} {C : Array Value} (h : OwnB w base v xs) (hb : b < base) : OwnB (w.setRow b C) base v xs := by
  have hbyte : ∀ x ∈ xs, 0 ≤ x ∧ x < 256 := by obtain ⟨_, _, _, _, hB⟩ := h; exact hB.byte
  obtain ⟨h1, h2⟩ := h.1
  refine ownB_of (n := xs.length) ⟨h1, ?_⟩ hbyte
  rcases h2 with h2 | ⟨g, cap, cur, hv, hg, hh, h3⟩
  · exact .inl h2
  · exact .inr ⟨g, cap, cur, hv, hg, (setRow_other w b g C (by omega)).trans hh, h3⟩
theorem OwnB.drew1 {w : World} {base : Nat} {v : Value} {xs : List Int} (h : OwnB w base v xs) : OwnB { w with drawn := w.drawn + 1 } base v xs := h.below (Below.refl _ _).drew
theorem eval_of {a : Act} {k : Nat} {v : Value} (h : a.tmps[k]?.getD undef = v) : a.eval (.tmp k) = v := by simpa [Act.eval] using h
theorem wp_value {P : Program} {o : Oper} {a : Act} {w w' : World} {K : Act → World → Prop} {Q : Exit → Act → World → Prop} {v : Value} (h : (execOp a.eval o).run P w = .ok (.value v) w') (hk : K (a.put o.dst v) w') : o.wp P a w K Q := by
  unfold Oper.wp; rw [h]; exact hk
theorem wp_enter {P : Program} {o : Oper} {a : Act} {w : World} {K : Act → World → Prop} {Q : Exit → Act → World → Prop} {f : FuncId} {args : Array Value} (h : (execOp a.eval o).run P w = .ok (.enter f args) w)
    (hc : Calls P f args w fun e w' => ∃ v, e = .returned v ∧ K (a.put o.dst v) w') : o.wp P a w K Q := by
  unfold Oper.wp; rw [h]
  refine hc.mono ?_
  rintro e w' ⟨v, rfl, hk⟩
  exact hk
end Go.Proofs.YtlhmeipbcioncaaDoor
