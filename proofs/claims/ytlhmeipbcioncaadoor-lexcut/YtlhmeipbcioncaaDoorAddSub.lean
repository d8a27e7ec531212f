/- Add and Sub, of the program. -/
import Derived.Test.YtlhmeipbcioncaaDoorAdd
namespace Go.Proofs.YtlhmeipbcioncaaDoor
open Go.RowKit

/-- What Add and Sub make of two numbers (n2: y's sign, m2: the one that is added with). -/
def addB (n1 : Bool) (xs : List Int) (n2 m2 : Bool) (ys : List Int) : Bool := if rightB n1 xs && rightB n2 ys then fitB (sumNeg n1 m2 (val8 xs) (val8 ys)) (sumMag n1 m2 (val8 xs) (val8 ys)) else false
def addE (n1 : Bool) (xs : List Int) (n2 m2 : Bool) (ys : List Int) : Int := if rightB n1 xs && rightB n2 ys then fitE (sumMag n1 m2 (val8 xs) (val8 ys)) else 1
def addM (n1 : Bool) (xs : List Int) (n2 m2 : Bool) (ys : List Int) : List Int := if rightB n1 xs && rightB n2 ys then fitM (sumMag n1 m2 (val8 xs) (val8 ys)) else []

end Go.Proofs.YtlhmeipbcioncaaDoor
