/- Arguments that are slices of ops, opened. -/
import Derived.Test.YtkkilenokpoaoaaOpenZ
import Derived.Lib.SmallJoins
import Derived.Deep.Slices
namespace Go.Proofs.Ytkkilenokpoaoaa
open Go.ChangeShapes Go.WideShapes Go.ChangeAt Go.RowKit Go.Deep
set_option maxRecDepth 100000
theorem Try.fields69 : ∃ f0 f1 f2, Try.prog.underlying 69 = some (.struct #[f0, f1, f2]) ∧ (f0.type = 2 ∧ f0.offset = 0) ∧ (f1.type = 4 ∧ f1.offset = 1) ∧ (f2.type = 60 ∧ f2.offset = 2) := ⟨_, _, _, Try.underlying69, ⟨rfl, rfl⟩, ⟨rfl, rfl⟩, ⟨rfl, rfl⟩⟩
theorem Try.fields60 : ∃ f0 f1, Try.prog.underlying 60 = some (.struct #[f0, f1]) ∧ f0.type = 3 ∧ f0.offset = 0 ∧ f1.type = 2 ∧ f1.offset = 1 := ⟨_, _, Try.underlying60, rfl, rfl, rfl, rfl⟩
theorem Try.cells69 : Try.prog.cellsOf 69 = 4 := by kernel_rfl
theorem Try.cells60 : Try.prog.cellsOf 60 = 2 := by kernel_rfl
theorem Try.cells4 : Try.prog.cellsOf 4 = 1 := by kernel_rfl
instance : Inhabited Pp := ⟨⟨0, false, 0, 0⟩⟩
theorem get_of {cs : List Value} {o : Nat} {v : Value} (h : (cs.drop o).take 1 = [v]) : cs[o]? = some v := by
  have := congrArg (fun l => l[0]?) h
  simpa [List.getElem?_take, List.getElem?_drop] using this
theorem open_opT {H : Type} {enc : TypeId × Value → H} {W : World} {fuel : Nat} {cs : List Value} {x : DataW H × List MemPlace} (h : DataW.trod enc Try.prog W 0 (fun _ => true) true fuel 69 cs = some x) :
    ∃ p : Pp, p.ok ∧ cs[0]? = some (.int .i64 p.oop) ∧ cs[1]? = some (.bool p.add) ∧ cs[2]? = some (.int .i64 p.k) ∧ cs[3]? = some (.int .i64 p.n) := by
  obtain ⟨f0, f1, f2, hu, ⟨t0, o0⟩, ⟨t1, o1⟩, ⟨t2, o2⟩⟩ := Try.fields69
  obtain ⟨xs, k, _, _, _, hxl, hfl⟩ := DataW.trod_struct hu h
  have g0 := hfl 0 f0 rfl
  have g1 := hfl 1 f1 rfl
  have g2 := hfl 2 f2 rfl
  have hxs : xs.length = 3 := hxl
  rw [t0, o0, Try.cells2, List.getElem?_eq_getElem (by omega)] at g0
  rw [t1, o1, Try.cells4, List.getElem?_eq_getElem (by omega)] at g1
  rw [t2, o2, Try.cells60, List.getElem?_eq_getElem (by omega)] at g2
  obtain ⟨n0, e0, _, w0⟩ := DataW.trod_int Try.underlying2 g0
  obtain ⟨b1, e1, _⟩ := DataW.trod_bool Try.underlying4 g1
  obtain ⟨u0, u1, hu2, s0, q0, s1, q1⟩ := Try.fields60
  obtain ⟨ys, k2, _, _, _, hyl, hfl2⟩ := DataW.trod_struct hu2 g2
  have r0 := hfl2 0 u0 rfl
  have r1 := hfl2 1 u1 rfl
  have hys : ys.length = 2 := hyl
  rw [s0, q0, Try.cells3, List.getElem?_eq_getElem (by omega)] at r0
  rw [s1, q1, Try.cells2, List.getElem?_eq_getElem (by omega)] at r1
  obtain ⟨m0, a0, _, v0⟩ := DataW.trod_int Try.underlying3 r0
  obtain ⟨m1, a1, _, v1⟩ := DataW.trod_int Try.underlying2 r1
  have b0 := get_of a0
  have b1' := get_of a1
  rw [List.getElem?_take, List.getElem?_drop] at b0 b1'
  refine ⟨⟨n0, b1, m0, m1⟩, ⟨okI w0, okI v0, okI v1⟩, get_of e0, get_of e1, ?_, ?_⟩
  · simpa using b0
  · simpa using b1'
/-- A slice of ops that came in. -/
theorem open_opsP {H : Type} {enc : TypeId × Value → H} {W : World} {a : Option Addr} {len cap fuel : Nat} {d : DataW H} {p : List MemPlace}
    (hf : DataW.trod enc Try.prog W 0 (fun _ => true) true fuel 23 (Value.slice a len cap).cells.toList = some (d, p)) : ∃ ps, IsP W a len cap ps := by
  rcases open_slice Try.underlying23 (cs := [Value.slice a len cap]) (by simpa [Value.cells] using hf) with ⟨hcs, _⟩ | ⟨ad, len', cap', m, n, D, Pl, hcs, _, hl, hm, hmm, _, hel⟩
  · simp at hcs
    obtain ⟨rfl, rfl, rfl⟩ := hcs
    exact ⟨[], isP_nil W⟩
  · simp at hcs
    obtain ⟨rfl, rfl, rfl⟩ := hcs
    simp only [if_true] at hmm
    subst hmm
    have key : ∀ i, i < len → ∃ y : Pp, (W.cell? (ad.add (i * 4)) = some (.int .i64 y.oop) ∧ W.cell? (ad.add (i * 4 + 1)) = some (.bool y.add) ∧ W.cell? (ad.add (i * 4 + 2)) = some (.int .i64 y.k) ∧ W.cell? (ad.add (i * 4 + 3)) = some (.int .i64 y.n)) ∧ y.ok := by
      intro i hi
      obtain ⟨cs', h1, h2⟩ := hel i (by omega)
      rw [Try.cells69] at h1
      obtain ⟨_, hcl, hcell⟩ := World.cells?_some h1
      obtain ⟨y, hy, c0, c1, c2, c3⟩ := open_opT h2
      have q0 := hcell 0 (by omega)
      have q1 := hcell 1 (by omega)
      have q2 := hcell 2 (by omega)
      have q3 := hcell 3 (by omega)
      rw [add_add] at q0 q1 q2 q3
      rw [c0] at q0
      rw [c1] at q1
      rw [c2] at q2
      rw [c3] at q3
      exact ⟨y, ⟨q0, q1, q2, q3⟩, hy⟩
    obtain ⟨f, hf'⟩ := choose_lt key
    refine ⟨(List.range len).map f, ⟨by simp, hl, hm, by simp, fun z hz => ?_, fun h0 => ?_⟩⟩
    · obtain ⟨i, hi, rfl⟩ := List.mem_map.1 hz
      exact (hf' i (List.mem_range.1 hi)).2
    · obtain ⟨b, off, spot⟩ := ad
      have hsp : spot = none := by simpa [Addr.add] using World.cell?_spot (hf' 0 h0).1.1
      subst hsp
      refine ⟨b, off, rfl, fun i x hx => ?_⟩
      have hi : i < len := by
        have := (List.getElem?_eq_some_iff.1 hx).1
        simpa using this
      have ex : f i = x := by
        rw [List.getElem?_map, List.getElem?_range hi] at hx
        exact Option.some.inj hx
      subst ex
      obtain ⟨⟨q0, q1, q2, q3⟩, _⟩ := hf' i hi
      rw [Addr.add_lit] at q0 q1 q2 q3
      exact ⟨q0, by rw [Nat.add_assoc]; exact q1, by rw [Nat.add_assoc]; exact q2, by rw [Nat.add_assoc]; exact q3⟩
end Go.Proofs.Ytkkilenokpoaoaa
