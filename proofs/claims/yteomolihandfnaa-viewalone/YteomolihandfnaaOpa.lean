/- A slice of calls that came in. -/
import Derived.Test.YteomolihandfnaaVkv
namespace Go.Proofs.Yteomolihandfnaa
open Go.ChangeShapes Go.WideShapes Go.ChangeAt Go.RowKit Go.Deep
set_option maxRecDepth 100000
theorem Try.cells47 : Try.prog.cellsOf 47 = 7 := by kernel_rfl
theorem Try.fields47 : ∃ f0 f1 f2 f3, Try.prog.underlying 47 = some (.struct #[f0, f1, f2, f3]) ∧ (f0.type = 3 ∧ f0.offset = 0) ∧ (f1.type = 2 ∧ f1.offset = 1) ∧ (f2.type = 27 ∧ f2.offset = 2) ∧ (f3.type = 45 ∧ f3.offset = 5) := ⟨_, _, _, _, Try.underlying47, ⟨rfl, rfl⟩, ⟨rfl, rfl⟩, ⟨rfl, rfl⟩, ⟨rfl, rfl⟩⟩
structure Ac where
  kind : Int
  oop : Int
  o : Ob
  sa : Option Addr
  sn : Nat
  sc : Nat
  ba : Option Addr
  bn : Nat
  bc : Nat
  com : Int
  ra : Option Addr
  rn : Nat
  rc : Nat
instance : Inhabited Ac := ⟨⟨0, 0, ⟨0, [], []⟩, none, 0, 0, none, 0, 0, 0, none, 0, 0⟩⟩
structure Ac.In (m : Ac) (W : World) : Prop where
  obj : IsO W m.o.cls m.sa m.sn m.sc m.ba m.bn m.bc m.o.vs m.o.bs
  sn : m.sn ≤ 8796093021952
  bn : m.bn ≤ 140737488351232
def Ac.cells (m : Ac) : List Value := [.int .i64 m.kind, .int .i64 m.oop, .int .i64 m.o.cls, .slice m.sa m.sn m.sc, .slice m.ba m.bn m.bc, .int .i64 m.com, .slice m.ra m.rn m.rc]
structure IsAs (W : World) (a : Option Addr) (len cap : Nat) (ms : List Ac) : Prop where
  size : ms.length = len
  room : len ≤ cap
  most : cap ≤ maxLen
  cells : 0 < len → ∃ b off, a = some ⟨b, off, none⟩ ∧ ∀ i m, ms[i]? = some m → ∀ j v, m.cells[j]? = some v → W.cell? ⟨b, off + i * 7 + j, none⟩ = some v
  ins : ∀ m ∈ ms, m.In W
theorem open_actT {H : Type} {enc : TypeId × Value → H} {W : World} {fuel : Nat} {cs : List Value} {x : DataW H × List MemPlace}
    (hf : DataW.trod enc Try.prog W 0 (fun _ => true) true fuel 47 cs = some x) (hs : ∀ n ∈ x.1.weights Try.prog 47, n ≤ reachBytes) : ∃ m : Ac, cs = m.cells ∧ m.In W := by
  obtain ⟨f0, f1, f2, f3, hu, ⟨t0, o0⟩, ⟨t1, o1⟩, ⟨t2, o2⟩, ⟨t3, o3⟩⟩ := Try.fields47
  obtain ⟨ys, k, _, rfl, hcl, hyl, hfl⟩ := DataW.trod_struct hu hf
  have hy4 : ys.length = 4 := hyl
  rw [Try.cells47] at hcl
  obtain ⟨y0, y1, y2, y3, rfl⟩ : ∃ y0 y1 y2 y3, ys = [y0, y1, y2, y3] := by
    match ys, hy4 with
    | [y0, y1, y2, y3], _ => exact ⟨_, _, _, _, rfl⟩
  obtain ⟨c0, c1, c2, c3, c4, c5, c6, rfl⟩ : ∃ c0 c1 c2 c3 c4 c5 c6, cs = [c0, c1, c2, c3, c4, c5, c6] := by
    match cs, hcl with
    | [c0, c1, c2, c3, c4, c5, c6], _ => exact ⟨_, _, _, _, _, _, _, rfl⟩
  have g0 : DataW.trod enc Try.prog W 0 (fun _ => true) true k 3 [c0] = some y0 := by have h := hfl 0 f0 rfl; rw [t0, o0, Try.cells3] at h; exact h
  have g1 : DataW.trod enc Try.prog W 0 (fun _ => true) true k 2 [c1] = some y1 := by have h := hfl 1 f1 rfl; rw [t1, o1, Try.cells2] at h; exact h
  have g2 : DataW.trod enc Try.prog W 0 (fun _ => true) true k 27 [c2, c3, c4] = some y2 := by have h := hfl 2 f2 rfl; rw [t2, o2, Try.cells27] at h; exact h
  have g3 : DataW.trod enc Try.prog W 0 (fun _ => true) true k 45 [c5, c6] = some y3 := by have h := hfl 3 f3 rfl; rw [t3, o3, Try.cells45] at h; exact h
  have e : (DataW.agg [y0.1, y1.1, y2.1, y3.1]).weights Try.prog 47 = DataW.weightsEach Try.prog [f0.type, f1.type, f2.type, f3.type] [y0.1, y1.1, y2.1, y3.1] := by
    simp only [DataW.weights, hu]
    rfl
  have hs' : ∀ n ∈ (DataW.agg [y0.1, y1.1, y2.1, y3.1]).weights Try.prog 47, n ≤ reachBytes := hs
  rw [e] at hs'
  have h2 : ∀ n ∈ y2.1.weights Try.prog 27, n ≤ reachBytes := fun n hn => hs' n (DataW.weights_mem_each (j := 2) rfl rfl n (by rw [t2]; exact hn))
  have h3 : ∀ n ∈ y3.1.weights Try.prog 45, n ≤ reachBytes := fun n hn => hs' n (DataW.weights_mem_each (j := 3) rfl rfl n (by rw [t3]; exact hn))
  obtain ⟨n0, e0, _, w0⟩ := DataW.trod_int Try.underlying3 g0
  obtain ⟨n1, e1, _, w1⟩ := DataW.trod_int Try.underlying2 g1
  obtain ⟨c, sa, sn, sc, ba, bn, bc, vs, bs, e2, hO, hsn, hbn⟩ := open_objT g2 h2
  obtain ⟨m3, e3, _⟩ := open_recT g3 h3
  obtain rfl := (List.cons.inj e0).1
  obtain rfl := (List.cons.inj e1).1
  simp only [List.cons.injEq, and_true] at e2 e3
  obtain ⟨rfl, rfl, rfl⟩ := e2
  obtain ⟨rfl, rfl⟩ := e3
  exact ⟨⟨n0, n1, ⟨c, vs, bs⟩, sa, sn, sc, ba, bn, bc, m3.com, m3.a, m3.n, m3.cap⟩, rfl, ⟨hO, hsn, hbn⟩⟩
theorem open_acts {H : Type} {enc : TypeId × Value → H} {W : World} {a : Option Addr} {len cap fuel : Nat} {x : DataW H × List MemPlace}
    (hf : DataW.trod enc Try.prog W 0 (fun _ => true) true fuel 33 [Value.slice a len cap] = some x) (hs : ∀ n ∈ x.1.weights Try.prog 33, n ≤ reachBytes) : ∃ ms, IsAs W a len cap ms := by
  rcases open_slice Try.underlying33 hf with ⟨hcs, _⟩ | ⟨ad, len', cap', m, n, D, Pl, hcs, _, hl, hm, hmm, rfl, hel⟩
  · simp at hcs
    obtain ⟨rfl, rfl, rfl⟩ := hcs
    exact ⟨[], ⟨rfl, Nat.le_refl _, by decide, fun h => absurd h (by decide), by simp⟩⟩
  · simp at hcs
    obtain ⟨rfl, rfl, rfl⟩ := hcs
    simp only [if_true] at hmm
    subst hmm
    have hw : ∀ i, i < len → ∀ z ∈ (D i).weights Try.prog 47, z ≤ reachBytes := fun i hi z hz => hs z (by
      simp only [DataW.weights, Try.underlying33, List.mem_cons, List.mem_append]
      exact Or.inr (Or.inl (weightsAll_mem (List.mem_map.2 ⟨i, List.mem_range.2 hi, rfl⟩) z hz)))
    have key : ∀ i, i < len → ∃ y : Ac, (∀ j v, y.cells[j]? = some v → W.cell? (ad.add (i * 7 + j)) = some v) ∧ y.In W := by
      intro i hi
      obtain ⟨cs', h1, h2⟩ := hel i (by omega)
      rw [Try.cells47] at h1
      obtain ⟨_, hcl, hcell⟩ := World.cells?_some h1
      obtain ⟨y, rfl, hin⟩ := open_actT h2 (hw i hi)
      refine ⟨y, fun j v hj => ?_, hin⟩
      have h7 : j < 7 := by have := (List.getElem?_eq_some_iff.1 hj).1; simpa [Ac.cells] using this
      have q := hcell j (by omega)
      rw [add_add] at q
      rw [q]
      exact hj
    obtain ⟨f, hf'⟩ := choose_lt key
    refine ⟨(List.range len).map f, ⟨by simp, hl, hm, fun h0 => ?_, fun z hz => ?_⟩⟩
    · obtain ⟨b, off, spot⟩ := ad
      have hc : W.cell? ((⟨b, off, spot⟩ : Addr).add (0 * 7 + 0)) = some (.int .i64 (f 0).kind) := (hf' 0 h0).1 0 _ rfl
      have hsp : spot = none := by simpa [Addr.add] using World.cell?_spot hc
      subst hsp
      refine ⟨b, off, rfl, fun i x hx j v hj => ?_⟩
      have hi : i < len := by
        have := (List.getElem?_eq_some_iff.1 hx).1
        simpa using this
      have ex : f i = x := by
        rw [List.getElem?_map, List.getElem?_range hi] at hx
        exact Option.some.inj hx
      subst ex
      have q := (hf' i hi).1 j v hj
      rw [Addr.add_lit] at q
      rw [Nat.add_assoc]
      exact q
    · obtain ⟨i, hi, rfl⟩ := List.mem_map.1 hz
      exact (hf' i (List.mem_range.1 hi)).2
/-- A call of the list. -/
theorem IsAs.at_ {W : World} {a : Option Addr} {len cap : Nat} {ms : List Ac} (h : IsAs W a len cap ms) (k : Nat) (hk : k < len) : ∃ (b off : Nat) (m : Ac), a = some ⟨b, off, none⟩ ∧ m.In W ∧ ∀ w, Below W.heap.size W w → b < w.heap.size ∧ ∀ j v, m.cells[j]? = some v → w.cell? ⟨b, off + k * 7 + j, none⟩ = some v := by
  obtain ⟨b, off, e, hc⟩ := h.cells (by omega)
  have hm : ms[k]? = some (ms[k]'(by rw [h.size]; exact hk)) := List.getElem?_eq_getElem _
  have hi := h.ins _ (List.mem_of_getElem? hm)
  refine ⟨b, off, _, e, hi, fun w hb => ⟨?_, fun j v hj => ?_⟩⟩
  · exact Nat.lt_of_lt_of_le (lt_of_cell (hc k _ hm 0 _ rfl)) hb.size
  · have := hc k _ hm j v hj
    exact (hb.cell (lt_of_cell this)).trans this
end Go.Proofs.Yteomolihandfnaa
