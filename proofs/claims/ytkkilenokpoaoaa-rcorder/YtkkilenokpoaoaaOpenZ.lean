/- Arguments that are slices of numbers, opened. -/
import Derived.Test.YtkkilenokpoaoaaMade
import Derived.ProofKit
import Derived.OpenShut
import Derived.SizedLaws
import Derived.ChangeArms
namespace Go.Proofs.Ytkkilenokpoaoaa
open Go.ChangeShapes Go.WideShapes Go.ChangeAt Go.RowKit
set_option maxRecDepth 100000
theorem okI {n : Int} (h : (Lit.int .i64 n).wf = true) : -9223372036854775808 ≤ n ∧ n ≤ 9223372036854775807 := by
  simp [Lit.wf, IntKind.min, IntKind.max, IntKind.signed, IntKind.bits] at h
  omega
theorem Try.cells2 : Try.prog.cellsOf 2 = 1 := by kernel_rfl
theorem Try.cells3 : Try.prog.cellsOf 3 = 1 := by kernel_rfl
theorem isI_row {W : World} {x : Addr} {len cap : Nat} {zs : List Int} (hl : len ≤ cap) (hm : cap ≤ maxLen) (hz : zs.length = cap)
    (hcell : ∀ i, i < zs.length → W.cell? (x.add i) = some (.int .i64 (zs.getD i 0))) (hw : ∀ n ∈ zs, (Lit.int .i64 n).wf = true) : IsI W (some x) len (zs.take len) := by
  refine ⟨by rw [List.length_take]; omega, Nat.le_trans hl hm, fun z hzm => okI (hw z (List.mem_of_mem_take hzm)), fun h0 => ?_⟩
  obtain ⟨b, off, spot⟩ := x
  have hsp : spot = none := by simpa [Addr.add] using World.cell?_spot (hcell 0 (by omega))
  subst hsp
  refine ⟨b, off, rfl, fun i hi => ?_⟩
  have := hcell i (by omega)
  rw [Addr.add_lit] at this
  rw [this, List.getD_eq_getElem?_getD, List.getD_eq_getElem?_getD, List.getElem?_take_of_lt hi]
theorem isI_nil (w : World) : IsI w none 0 [] := ⟨rfl, by decide, by simp, fun h => absurd h (by decide)⟩
/-- A slice of numbers that came in: []int64. -/
theorem open_i64s {H : Type} {enc : TypeId × Value → H} {W : World} {a : Option Addr} {len cap fuel : Nat} {d : DataW H} {p : List MemPlace}
    (hf : DataW.trod enc Try.prog W 0 (fun _ => true) true fuel 53 (Value.slice a len cap).cells.toList = some (d, p)) : ∃ zs, IsI W a len zs := by
  rcases open_ints Try.underlying53 Try.underlying2 Try.cells2 hf with ⟨hcs, _⟩ | ⟨x, len', cap', zs, hcs, _, hl, hm, hz, hx, hcell, hw⟩
  · simp [Value.cells] at hcs
    obtain ⟨rfl, rfl, rfl⟩ := hcs
    exact ⟨[], isI_nil W⟩
  · simp [Value.cells] at hcs
    obtain ⟨rfl, rfl, rfl⟩ := hcs
    simp only [if_true] at hz
    exact ⟨_, isI_row hl hm hz hcell hw⟩
/-- A slice of numbers that came in: []int. -/
theorem open_intsJ {H : Type} {enc : TypeId × Value → H} {W : World} {a : Option Addr} {len cap fuel : Nat} {d : DataW H} {p : List MemPlace}
    (hf : DataW.trod enc Try.prog W 0 (fun _ => true) true fuel 58 (Value.slice a len cap).cells.toList = some (d, p)) : ∃ zs, IsI W a len zs := by
  rcases open_ints Try.underlying58 Try.underlying3 Try.cells3 hf with ⟨hcs, _⟩ | ⟨x, len', cap', zs, hcs, _, hl, hm, hz, hx, hcell, hw⟩
  · simp [Value.cells] at hcs
    obtain ⟨rfl, rfl, rfl⟩ := hcs
    exact ⟨[], isI_nil W⟩
  · simp [Value.cells] at hcs
    obtain ⟨rfl, rfl, rfl⟩ := hcs
    simp only [if_true] at hz
    exact ⟨_, isI_row hl hm hz hcell hw⟩
end Go.Proofs.Ytkkilenokpoaoaa
