/- Regions with many operations: what is known of the slots. -/
import Derived.Test.YtgammgdckneoiacDoorAnyG
import Derived.Test.YtgammgdckneoiacDoorDivide
namespace Go.Proofs.YtgammgdckneoiacDoor
open Go.RowKit

theorem known_at {D : Nat → Prop} {A a : Act} {l : List Value} {val : Nat → Value} {s n m : Nat} (ha : a = putAll A s l) (hsz : A.tmps.size = m) (hlen : l.length = n) (hl : ∀ j, j < n → D j → l[j]? = some (val j)) (d : Nat) (hd : d < n) (hD : D d) (hm : s + n ≤ m := by decide) : a.tmps[s + d]? = some (val d) := by
  rw [ha, putAll_in A s d l (by omega) (by omega)]
  exact hl d hd hD
theorem eval_some {a : Act} {k : Nat} {v : Value} (h : a.tmps[k]? = some v) : a.eval (.tmp k) = v := by simp [Act.eval, h]
theorem wanted_of {ops : Array Oper} {o oj : Oper} {j k : Nat} {b : Bool} {tmps : Array Value} (hg : o.guard = some (j, b)) (ho : ops[j]? = some oj) (hd : oj.dst = some k) (hv : tmps[k]? = some (.bool b)) : Region.wanted o (yielded ops tmps) = true := by
  unfold Region.wanted yielded
  rw [hg]
  simp [ho, hd, hv]

theorem cons_of {l : List Value} {n : Nat} (h : l.length = n + 1) : ∃ a t, l = a :: t ∧ t.length = n := by
  cases l with
  | nil => simp at h
  | cons a t => exact ⟨a, t, rfl, by simpa using h⟩
theorem run_neq_i (a : Act) (w : World) {o : Oper} {x y : Operand} {p : Int} (hx : a.eval x = .int .i64 p) (hy : a.eval y = .int .i64 p) (ho : o.op = .binOp .neq 3 x y 3) : (execOp a.eval o).run Tryd.prog w = .ok (.value (.bool false)) w := by
  simp only [execOp, ho, hx, hy]
  simp [go_sem]
theorem run_neq_b (a : Act) (w : World) {o : Oper} {x y : Operand} {p : Bool} (hx : a.eval x = .bool p) (hy : a.eval y = .bool p) (ho : o.op = .binOp .neq 4 x y 4) : (execOp a.eval o).run Tryd.prog w = .ok (.value (.bool false)) w := by
  rw [run_neq_bool a w hx hy ho]; simp
end Go.Proofs.YtgammgdckneoiacDoor
