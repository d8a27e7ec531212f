/- An argument that is a slice of ints, opened. -/
import Derived.Test.YtehccbomjfmcjaaLawSeqs
import Derived.Deep.Grids
import Derived.ChangeArms
namespace Go.Proofs.Ytehccbomjfmcjaa
open Go.RowKit Go.Deep
theorem Try.cells3 : Try.prog.cellsOf 3 = 1 := by kernel_rfl
theorem lt_of_cell {w : World} {b o : Nat} {v : Value} (h : w.cell? ⟨b, o, none⟩ = some v) : b < w.heap.size := by
  rcases Nat.lt_or_ge b w.heap.size with hb | hb
  · exact hb
  · simp [World.cell?, Array.getElem?_eq_none hb] at h
/-- A slice of ints that came in. -/
theorem open_intsA {H : Type} {enc : TypeId × Value → H} {W : World} {a : Option Addr} {len cap fuel : Nat} {d : DataW H} {p : List MemPlace}
    (hf : DataW.trod enc Try.prog W 0 (fun _ => true) true fuel 73 (Value.slice a len cap).cells.toList = some (d, p)) : ∃ zs, Ints W a len zs := by
  rcases Go.ChangeShapes.open_ints Try.underlying73 Try.underlying3 Try.cells3 hf with ⟨hcs, _⟩ | ⟨x, len', cap', zs, hcs, _, hl, hm, hz, hx, hcell, _⟩
  · simp [Value.cells] at hcs
    obtain ⟨rfl, rfl, rfl⟩ := hcs
    exact ⟨[], rfl, fun h => absurd h (by decide)⟩
  · simp [Value.cells] at hcs
    obtain ⟨rfl, rfl, rfl⟩ := hcs
    simp only [if_true] at hz
    refine ⟨zs.take len, by rw [List.length_take]; omega, fun h0 => ?_⟩
    obtain ⟨b, off, spot⟩ := x
    have hsp : spot = none := by simpa [Addr.add] using World.cell?_spot (hcell 0 (by omega))
    subst hsp
    refine ⟨b, off, rfl, ?_, fun i hi => ?_⟩
    · have := hcell 0 (by omega)
      rw [Addr.add_lit] at this
      exact lt_of_cell this
    · have := hcell i (by omega)
      rw [Addr.add_lit] at this
      rw [this]
      rw [List.getD_eq_getElem?_getD, List.getD_eq_getElem?_getD, List.getElem?_take_of_lt hi]
end Go.Proofs.Ytehccbomjfmcjaa
