/- Records that are the same. -/
import Derived.Test.YteomolihandfnaaRecV
namespace Go.Proofs.Yteomolihandfnaa
open Go.RowKit 
set_option maxRecDepth 100000
def recB (c : Int) (v : Value) (t : Nat) : Obj := .cells #[.int .i64 c, v] t (0, 0)
theorem rec_cells {w : World} {b t : Nat} {c : Int} {v : Value} (h : w.heap[b]? = some (recB c v t)) : w.cell? ⟨b, 0, none⟩ = some (.int .i64 c) ∧ w.cell? ⟨b, 1, none⟩ = some v := by
  refine ⟨?_, ?_⟩ <;> (rw [cell_of_row _ b _ _ _ _ h]; rfl)
set_option maxRecDepth 100000
def chh (o : Int) (g : Bool) (c : Int) (v1 v2 : Value) : Obj := .cells #[.int .i64 o, .bool g, .int .i64 c, v1, v2] 72 (0, 0)
theorem chh_cells {w : World} {b : Nat} {o c : Int} {g : Bool} {v1 v2 : Value} (h : w.heap[b]? = some (chh o g c v1 v2)) : w.cell? ⟨b, 0, none⟩ = some (.int .i64 o) ∧ w.cell? ⟨b, 1, none⟩ = some (.bool g) ∧ w.cell? ⟨b, 2, none⟩ = some (.int .i64 c) ∧ w.cell? ⟨b, 3, none⟩ = some v1 ∧ w.cell? ⟨b, 4, none⟩ = some v2 := by
  refine ⟨?_, ?_, ?_, ?_, ?_⟩ <;> (rw [cell_of_row _ b _ _ _ _ h]; rfl)
set_option maxRecDepth 100000
theorem rsame_eq {w : World} {c : Int} {sa ba ta ea : Option Addr} {sn sc bn bc tn tc en ec : Nat} {vs : List (Int × Int)} {bs : List Int} (h1 : IsO w c sa sn sc ba bn bc vs bs) (h2 : IsO w c ta tn tc ea en ec vs bs) :
    Calls Try.prog 25 #[.agg #[.int .i64 c, .slice sa sn sc, .slice ba bn bc], .agg #[.int .i64 c, .slice ta tn tc, .slice ea en ec]] w fun e w' => e = .returned (.bool true) ∧ Below w.heap.size w w' := by
  have h := rsame_any h1 h2
  rw [show alike c c vs vs bs bs = true by simp [alike]] at h
  exact h
end Go.Proofs.Yteomolihandfnaa
