/-
  No cell of these rows narrows 'for every input' (looked for: loops, veiled, ifaces, maps, wideKeys, modest, calm, conditions, laid).
  DERIVED. THE GIVEN ROWS OF THIS SEAT. 5 by the template 'for every input the law returns true; each argument reads behind the call as it read before'; 0 by the template 'total and deterministic' (their statements: YtkpngpongbpfgaaTotals.lean).
  GIVEN WITH THE SEED: the statements are not yours to turn. If you find one false, say at which input.
  Laid BY PROGRAM, IN A SANDBOX (cutbox-rows.mjs): the forced cells as the released guide's own fill.sh prints them over the translation 376d9842852d4473… (all of the seat's roots in one cut). By AI agents, Wed Nov 11 2026. No macro, syntax, notation, axiom, sorry.
-/
import Derived.Test.YtkpngpongbpfgaaChecked
import GoSem.Claim
import GoSem.ClaimJoined
import GoSem.ClaimMapViews
import Derived.JoinedTies
import Derived.KernelRfl
namespace Go.Proofs.Ytkpngpongbpfgaa
/- THE CELL 'sum', in the pinned program and in every row, IS THE sha256 OF THE DUMP (.gsa) THAT YtkpngpongbpfgaaProg.lean LOADS. Nothing in Lean hashes anything: it is a label: what it is worth is what the hold of that sum in a sandbox is worth. -/
noncomputable def Try.pinned : Pinned := { name := "ytkpngpongbpfgaa", sum := "376d9842852d44738b8d5252fe2ce604a4eb1e7be9cefcfe9e8cb256775cc1c6", checked := Try.checked }
namespace Rows
def none {H : Type} : Left H := { results := [], args := [] }

/-- 'lapidarylaw06.NumberDoes': WHATEVER THE INPUT: true; the input reads as it did. -/
def numberDoesSpec : ChangeSpec := { name := "numberDoes", fn := fun _ => fun
  | [d1, d2, d3] => { results := [.lit (.bool true)], args := [d1, d2, d3] }
  | _ => none }
def numberDoesRow : OpenClaim := { program := "ytkpngpongbpfgaa", sum := "376d9842852d44738b8d5252fe2ce604a4eb1e7be9cefcfe9e8cb256775cc1c6", func := "lapidary/lapidarylaw06.NumberDoes", spec := "numberDoes", inPlace := ["math.Float64bits"], apart := false }
def NumberDoesSaid : Prop := numberDoesRow.holds Try.pinned (OpenSpec.ofChange numberDoesSpec)

/-- ITS FALSE NEIGHBOUR: 'it returns false'. Refute it at one input. -/
def numberDoesWrong : ChangeSpec := { name := "numberDoes", fn := fun _ => fun
  | [d1, d2, d3] => { results := [.lit (.bool false)], args := [d1, d2, d3] }
  | _ => none }
def NumberDoesWrongFalsely : Prop := numberDoesRow.holds Try.pinned (OpenSpec.ofChange numberDoesWrong)

/-- 'lapidarylaw06.NumberBytes': WHATEVER THE INPUT: true; the input reads as it did. -/
def numberBytesSpec : ChangeSpec := { name := "numberBytes", fn := fun _ => fun
  | [d1, d2] => { results := [.lit (.bool true)], args := [d1, d2] }
  | _ => none }
def numberBytesRow : OpenClaim := { program := "ytkpngpongbpfgaa", sum := "376d9842852d44738b8d5252fe2ce604a4eb1e7be9cefcfe9e8cb256775cc1c6", func := "lapidary/lapidarylaw06.NumberBytes", spec := "numberBytes", inPlace := ["math.Float64bits", "math.Float64frombits"], apart := false }
def NumberBytesSaid : Prop := numberBytesRow.holds Try.pinned (OpenSpec.ofChange numberBytesSpec)

/-- ITS FALSE NEIGHBOUR: 'it returns false'. Refute it at one input. -/
def numberBytesWrong : ChangeSpec := { name := "numberBytes", fn := fun _ => fun
  | [d1, d2] => { results := [.lit (.bool false)], args := [d1, d2] }
  | _ => none }
def NumberBytesWrongFalsely : Prop := numberBytesRow.holds Try.pinned (OpenSpec.ofChange numberBytesWrong)

/-- 'lapidarylaw06.NumberTurned': WHATEVER THE INPUT: true; the input reads as it did. -/
def numberTurnedSpec : ChangeSpec := { name := "numberTurned", fn := fun _ => fun
  | [d1, d2] => { results := [.lit (.bool true)], args := [d1, d2] }
  | _ => none }
def numberTurnedRow : OpenClaim := { program := "ytkpngpongbpfgaa", sum := "376d9842852d44738b8d5252fe2ce604a4eb1e7be9cefcfe9e8cb256775cc1c6", func := "lapidary/lapidarylaw06.NumberTurned", spec := "numberTurned", inPlace := ["math.Float64bits"], apart := false }
def NumberTurnedSaid : Prop := numberTurnedRow.holds Try.pinned (OpenSpec.ofChange numberTurnedSpec)

/-- ITS FALSE NEIGHBOUR: 'it returns false'. Refute it at one input. -/
def numberTurnedWrong : ChangeSpec := { name := "numberTurned", fn := fun _ => fun
  | [d1, d2] => { results := [.lit (.bool false)], args := [d1, d2] }
  | _ => none }
def NumberTurnedWrongFalsely : Prop := numberTurnedRow.holds Try.pinned (OpenSpec.ofChange numberTurnedWrong)

/-- 'lapidarylaw06.NumberOwn': WHATEVER THE INPUT: true; the input reads as it did. -/
def numberOwnSpec : ChangeSpec := { name := "numberOwn", fn := fun _ => fun
  | [d1, d2] => { results := [.lit (.bool true)], args := [d1, d2] }
  | _ => none }
def numberOwnRow : OpenClaim := { program := "ytkpngpongbpfgaa", sum := "376d9842852d44738b8d5252fe2ce604a4eb1e7be9cefcfe9e8cb256775cc1c6", func := "lapidary/lapidarylaw06.NumberOwn", spec := "numberOwn", inPlace := ["math.Float64bits"], apart := false }
def NumberOwnSaid : Prop := numberOwnRow.holds Try.pinned (OpenSpec.ofChange numberOwnSpec)

/-- ITS FALSE NEIGHBOUR: 'it returns false'. Refute it at one input. -/
def numberOwnWrong : ChangeSpec := { name := "numberOwn", fn := fun _ => fun
  | [d1, d2] => { results := [.lit (.bool false)], args := [d1, d2] }
  | _ => none }
def NumberOwnWrongFalsely : Prop := numberOwnRow.holds Try.pinned (OpenSpec.ofChange numberOwnWrong)

/-- 'lapidarylaw06.NumberBack': WHATEVER THE INPUT: true; the input reads as it did. -/
def numberBackSpec : ChangeSpec := { name := "numberBack", fn := fun _ => fun
  | [d1, d2, d3, d4] => { results := [.lit (.bool true)], args := [d1, d2, d3, d4] }
  | _ => none }
def numberBackRow : OpenClaim := { program := "ytkpngpongbpfgaa", sum := "376d9842852d44738b8d5252fe2ce604a4eb1e7be9cefcfe9e8cb256775cc1c6", func := "lapidary/lapidarylaw06.NumberBack", spec := "numberBack", inPlace := ["math.Float64bits"], apart := false }
def NumberBackSaid : Prop := numberBackRow.holds Try.pinned (OpenSpec.ofChange numberBackSpec)

/-- ITS FALSE NEIGHBOUR: 'it returns false'. Refute it at one input. -/
def numberBackWrong : ChangeSpec := { name := "numberBack", fn := fun _ => fun
  | [d1, d2, d3, d4] => { results := [.lit (.bool false)], args := [d1, d2, d3, d4] }
  | _ => none }
def NumberBackWrongFalsely : Prop := numberBackRow.holds Try.pinned (OpenSpec.ofChange numberBackWrong)

/- THE SECOND FORM. 'bulk': how many values and letters a reading holds, each counted each time it is reached (what is shared counts as often as it is met; a slice's spare places count too). A statement '..UptoSaid' is the law's where the arguments, and the package variables that the reading takes, are together of bulk at most 1048576: NARROWER than '..Said'. Prove '..Said' where nothing that the law and all that it calls make is longer than what came in: it says more and counts as full. Else prove '..UptoSaid'. A law counts once. -/
mutual
def uptoBulk {H : Type} : DataW H → Nat
  | .lit (.string bytes) => bytes.length + 1
  | .lit _ => 1
  | .nil => 1
  | .ptr d => uptoBulk d + 1
  | .slice elems spare => uptoBulkAll elems + uptoBulkAll spare + 1
  | .agg parts => uptoBulkAll parts + 1
  | .iface _ d => uptoBulk d + 1
  | .map entries => uptoBulkEntries entries + 1
  | .held _ => 1
def uptoBulkAll {H : Type} : List (DataW H) → Nat
  | [] => 0
  | d :: r => uptoBulk d + uptoBulkAll r
def uptoBulkEntries {H : Type} : List (Lit × DataW H) → Nat
  | [] => 0
  | x :: r => uptoBulkEntry x + uptoBulkEntries r
def uptoBulkEntry {H : Type} : Lit × DataW H → Nat
  | (.string bytes, d) => bytes.length + uptoBulk d + 1
  | (_, d) => uptoBulk d + 1
 end
def uptoSmall : (H : Type) → List (DataW H) → Bool := fun _ ds => decide (uptoBulkAll ds ≤ 1048576)
def OpenSpec.upto (s : _root_.Go.ChangeSpec) : _root_.Go.OpenSpec := { _root_.Go.OpenSpec.ofChange s with cond := some uptoSmall }

/-- 'lapidarylaw06.NumberDoes', WHERE WHAT IT READS IS OF BULK AT MOST 1048576: true; the input reads as it did. -/
def numberDoesUptoRow : OpenClaim := { program := "ytkpngpongbpfgaa", sum := "376d9842852d44738b8d5252fe2ce604a4eb1e7be9cefcfe9e8cb256775cc1c6", func := "lapidary/lapidarylaw06.NumberDoes", spec := "numberDoes", inPlace := ["math.Float64bits"], apart := false, narrowed := true }
def NumberDoesUptoSaid : Prop := numberDoesUptoRow.holds Try.pinned (OpenSpec.upto numberDoesSpec)

/-- 'lapidarylaw06.NumberBytes', WHERE WHAT IT READS IS OF BULK AT MOST 1048576: true; the input reads as it did. -/
def numberBytesUptoRow : OpenClaim := { program := "ytkpngpongbpfgaa", sum := "376d9842852d44738b8d5252fe2ce604a4eb1e7be9cefcfe9e8cb256775cc1c6", func := "lapidary/lapidarylaw06.NumberBytes", spec := "numberBytes", inPlace := ["math.Float64bits", "math.Float64frombits"], apart := false, narrowed := true }
def NumberBytesUptoSaid : Prop := numberBytesUptoRow.holds Try.pinned (OpenSpec.upto numberBytesSpec)

/-- 'lapidarylaw06.NumberTurned', WHERE WHAT IT READS IS OF BULK AT MOST 1048576: true; the input reads as it did. -/
def numberTurnedUptoRow : OpenClaim := { program := "ytkpngpongbpfgaa", sum := "376d9842852d44738b8d5252fe2ce604a4eb1e7be9cefcfe9e8cb256775cc1c6", func := "lapidary/lapidarylaw06.NumberTurned", spec := "numberTurned", inPlace := ["math.Float64bits"], apart := false, narrowed := true }
def NumberTurnedUptoSaid : Prop := numberTurnedUptoRow.holds Try.pinned (OpenSpec.upto numberTurnedSpec)

/-- 'lapidarylaw06.NumberOwn', WHERE WHAT IT READS IS OF BULK AT MOST 1048576: true; the input reads as it did. -/
def numberOwnUptoRow : OpenClaim := { program := "ytkpngpongbpfgaa", sum := "376d9842852d44738b8d5252fe2ce604a4eb1e7be9cefcfe9e8cb256775cc1c6", func := "lapidary/lapidarylaw06.NumberOwn", spec := "numberOwn", inPlace := ["math.Float64bits"], apart := false, narrowed := true }
def NumberOwnUptoSaid : Prop := numberOwnUptoRow.holds Try.pinned (OpenSpec.upto numberOwnSpec)

/-- 'lapidarylaw06.NumberBack', WHERE WHAT IT READS IS OF BULK AT MOST 1048576: true; the input reads as it did. -/
def numberBackUptoRow : OpenClaim := { program := "ytkpngpongbpfgaa", sum := "376d9842852d44738b8d5252fe2ce604a4eb1e7be9cefcfe9e8cb256775cc1c6", func := "lapidary/lapidarylaw06.NumberBack", spec := "numberBack", inPlace := ["math.Float64bits"], apart := false, narrowed := true }
def NumberBackUptoSaid : Prop := numberBackUptoRow.holds Try.pinned (OpenSpec.upto numberBackSpec)

end Rows
end Go.Proofs.Ytkpngpongbpfgaa
