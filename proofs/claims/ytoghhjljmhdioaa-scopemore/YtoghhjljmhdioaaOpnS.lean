/- An argument that is a slice of texts, opened. -/
import Derived.Test.YtoghhjljmhdioaaIdx
import Derived.Deep.Strs
import Derived.ProofKit
import Derived.OpenShut
import Derived.SizedLaws
namespace Go.Proofs.Ytoghhjljmhdioaa
open Go.ChangeShapes Go.WideShapes Go.ChangeAt Go.RowKit
set_option maxRecDepth 100000
theorem Try.cells9 : Try.prog.cellsOf 9 = 1 := by kernel_rfl
theorem Try.bytes9 : Try.prog.bytesOf 9 = 16 := by kernel_rfl
def numsOf (s : ByteArray) : List Int := s.data.toList.map fun b => (b.toNat : Int)
theorem numsOf_str (s : ByteArray) : strOfNums (numsOf s) = s := by unfold numsOf; rw [Lib.Lz.strOfNums_map]
theorem numsOf_byte (s : ByteArray) : ∀ x ∈ numsOf s, 0 ≤ x ∧ x < 256 := by
  intro x hx
  obtain ⟨b, _, rfl⟩ := List.mem_map.1 hx
  have := b.toNat_lt
  omega
/-- A slice of texts that came in. -/
theorem open_sl {H : Type} {enc : TypeId × Value → H} {W : World} {a : Option Addr} {len cap fuel : Nat} {d : DataW H} {p : List MemPlace}
    (hf : DataW.trod enc Try.prog W 0 (fun _ => true) true fuel 22 (Value.slice a len cap).cells.toList = some (d, p)) :
    ∃ sl : List (List Int), len = sl.length ∧ BytL sl ∧ SlF (fun _ => True) W a len cap (sl.map strV) ∧ ((d = .nil ∧ cap = 0) ∨ ∃ elems spare, d = .slice elems spare ∧ elems.length + spare.length = cap) := by
  rcases Go.Deep.open_strs Try.underlying22 Try.underlying9 Try.cells9 hf with ⟨hcs, hx⟩ | ⟨x, len', cap', m, Sx, hcs, _, hl, hm, hmm, hx, hcell⟩
  · simp [Value.cells] at hcs
    obtain ⟨rfl, rfl, rfl⟩ := hcs
    simp only [Prod.mk.injEq] at hx
    exact ⟨[], rfl, fun x hx => absurd hx List.not_mem_nil, SlF.nil _ _, .inl ⟨hx.1, rfl⟩⟩
  · simp [Value.cells] at hcs
    obtain ⟨rfl, rfl, rfl⟩ := hcs
    simp only [if_true] at hmm
    subst hmm
    simp only [Prod.mk.injEq] at hx
    refine ⟨(List.range len).map fun i => numsOf (Sx i), by simp, fun y hy => ?_, ⟨hl, hm, by simp, fun h0 => ?_⟩, .inr ⟨_, _, hx.1, by simp; omega⟩⟩
    · obtain ⟨i, _, rfl⟩ := List.mem_map.1 hy
      exact numsOf_byte _
    · have h0 : 0 < len := by simpa using h0
      obtain ⟨b, off, spot⟩ := x
      have hsp : spot = none := by simpa [Addr.add] using World.cell?_spot (hcell 0 (by omega)).1
      subst hsp
      refine ⟨b, off, rfl, trivial, fun j u hj => ?_⟩
      rw [List.getElem?_map, List.getElem?_map] at hj
      rcases Nat.lt_or_ge j len with hjl | hjl
      · rw [List.getElem?_range hjl] at hj
        simp only [Option.map_some, Option.some.injEq] at hj
        subst hj
        have := (hcell j (by omega)).1
        rw [addrAdd] at this
        rw [this]
        unfold strV
        rw [numsOf_str]
      · rw [List.getElem?_eq_none (by simpa using hjl)] at hj
        cases hj
end Go.Proofs.Ytoghhjljmhdioaa
