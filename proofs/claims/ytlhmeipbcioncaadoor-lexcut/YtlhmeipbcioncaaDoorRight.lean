/- Right, of the program and of the document; taken. -/
import Derived.Test.YtlhmeipbcioncaaDoorIsB
namespace Go.Proofs.YtlhmeipbcioncaaDoor
open Go.RowKit

/-- Can it be a number? -/
def rightB (neg : Bool) (xs : List Int) : Bool := if xs.length = 0 then !neg else decide (xs.length ≤ 128) && !(xs.getD 0 0 == 0)

theorem box_below (w : World) (o : Obj) : Below w.heap.size w (w.alloc o) := (Below.refl _ _).alloc (Nat.le_refl _) o

theorem ret_bool {a b : Bool} (h : a = b) : Ending.returned (.bool a) = .returned (.bool b) := by rw [h]

end Go.Proofs.YtlhmeipbcioncaaDoor
