/- An object that came in, opened. -/
import Derived.Test.YtkkilenokpoaoaaOpenP
import Derived.ProofKit
import Derived.OpenShut
import Derived.SizedLaws
import Derived.Lib.SmallJoins
import Derived.Deep.Slices
namespace Go.Proofs.Ytkkilenokpoaoaa
open Go.RowKit Go.ChangeShapes Go.WideShapes Go.ChangeAt Go.Deep
set_option maxRecDepth 100000
set_option maxRecDepth 100000
/-- A change: the object's number, whether it is gone, its class, slots and bytes. -/
structure Ch where
  oop : Int
  gone : Bool
  cls : Int
  vs : List (Int × Int)
  bs : List Int
/-- A change and where its slots and bytes lie. -/
structure Cs where
  x : Ch
  sa : Option Addr
  sn : Nat
  sc : Nat
  ba : Option Addr
  bn : Nat
  bc : Nat
def Cs.cells (s : Cs) : List Value := [.int .i64 s.x.oop, .bool s.x.gone, .int .i64 s.x.cls, .slice s.sa s.sn s.sc, .slice s.ba s.bn s.bc]
set_option maxRecDepth 100000
theorem isB_nilO (w : World) : IsB w none 0 0 [] := ⟨rfl, Nat.le_refl _, by decide, fun _ => rfl, by simp, fun h => absurd h (by decide)⟩
theorem isV_nilO (w : World) : IsV w none 0 0 [] := ⟨rfl, Nat.le_refl _, by decide, fun _ => rfl, by simp, fun h => absurd h (by decide)⟩
theorem isB_of_row {w : World} {x : Addr} {len cap : Nat} {zs : List Int} (hl : len ≤ cap) (hm : cap ≤ maxLen) (hz : zs.length = cap)
    (hcell : ∀ i, i < zs.length → w.cell? (x.add i) = some (.int .u8 (zs.getD i 0))) (hwz : ∀ n ∈ zs, (Lit.int .u8 n).wf = true) : IsB w (some x) len cap (zs.take len) := by
  refine ⟨by simp; omega, hl, hm, by simp, fun y hy => ?_, fun h0 => ?_⟩
  · have := bounds_u8 (hwz y (List.mem_of_mem_take hy))
    omega
  · obtain ⟨b, off, spot⟩ := x
    have hc := hcell 0 (by omega)
    have hspot : spot = none := by simpa [Addr.add] using World.cell?_spot hc
    subst hspot
    refine ⟨b, off, rfl, fun i hi => ?_⟩
    have := hcell i (by omega)
    rw [show (⟨b, off, none⟩ : Addr).add i = ⟨b, off + i, none⟩ by simp [Addr.add]] at this
    rw [this]
    simp [hi]
theorem Try.bytes5 : Try.prog.bytesOf 5 = 1 := by kernel_rfl
theorem Try.bytes60 : Try.prog.bytesOf 60 = 16 := by kernel_rfl
theorem Try.cells38 : Try.prog.cellsOf 38 = 3 := by kernel_rfl
/-- A slice of bytes that came in: what it holds, and that it is within the reach. -/
theorem open_bytes {H : Type} {enc : TypeId × Value → H} {W : World} {a : Option Addr} {len cap fuel : Nat} {d : DataW H} {p : List MemPlace}
    (hf : DataW.trod enc Try.prog W 0 (fun _ => true) true fuel 36 [Value.slice a len cap] = some (d, p))
    (hs : ∀ elems spare, d = .slice elems spare → (elems.length + spare.length) * Try.prog.bytesOf 5 ≤ reachBytes) :
    ∃ xs, IsB W a len cap xs ∧ cap ≤ 140737488351232 := by
  rcases open_ints Try.underlying36 Try.underlying5 (by kernel_rfl) hf with ⟨hcs, _⟩ | ⟨x, l, c, zs, hcs, _, hl, hm, hz, hx, hcell, hwz⟩
  · simp at hcs
    obtain ⟨rfl, rfl, rfl⟩ := hcs
    exact ⟨[], isB_nilO W, by decide⟩
  · simp at hcs
    obtain ⟨rfl, rfl, rfl⟩ := hcs
    have hz' : zs.length = cap := by simpa using hz
    refine ⟨_, isB_of_row hl hm hz' hcell hwz, ?_⟩
    have := hs _ _ (Prod.mk.inj hx).1
    rw [Try.bytes5] at this
    simp only [lits, List.length_map, List.length_take, List.length_drop, reachBytes] at this
    omega
/-- A slice of values that came in. -/
theorem open_vals {H : Type} {enc : TypeId × Value → H} {W : World} {a : Option Addr} {len cap fuel : Nat} {d : DataW H} {p : List MemPlace}
    (hf : DataW.trod enc Try.prog W 0 (fun _ => true) true fuel 35 [Value.slice a len cap] = some (d, p))
    (hs : ∀ elems spare, d = .slice elems spare → (elems.length + spare.length) * Try.prog.bytesOf 60 ≤ reachBytes) :
    ∃ vs, IsV W a len cap vs ∧ cap ≤ 8796093021952 := by
  rcases open_slice Try.underlying35 hf with ⟨hcs, _⟩ | ⟨x, len', cap', m, n, D, Pl, hcs, _, hl, hm, hmm, hx, hel⟩
  · simp at hcs
    obtain ⟨rfl, rfl, rfl⟩ := hcs
    exact ⟨[], isV_nilO W, by decide⟩
  · simp at hcs
    obtain ⟨rfl, rfl, rfl⟩ := hcs
    simp only [if_true] at hmm
    subst hmm
    obtain ⟨f0, f1, hu, t0, o0, t1, o1⟩ := Try.fields60
    have key : ∀ i, i < m → ∃ v : Int × Int, (W.cell? (x.add (i * 2)) = some (.int .i64 v.1) ∧ W.cell? (x.add (i * 2 + 1)) = some (.int .i64 v.2)) ∧ (Lit.int .i64 v.1).wf = true ∧ (Lit.int .i64 v.2).wf = true := by
      intro i hi
      obtain ⟨cs', h1, h2⟩ := hel i hi
      rw [Try.cells60] at h1
      obtain ⟨_, hlen, hcell⟩ := World.cells?_some h1
      obtain ⟨xs, k, _, _, _, hxl, hfl⟩ := DataW.trod_struct hu h2
      have g0 := hfl 0 f0 rfl
      have g1 := hfl 1 f1 rfl
      rw [t0, o0, Try.cells3] at g0
      rw [t1, o1, Try.cells2] at g1
      have hxs : xs.length = 2 := hxl
      rw [List.getElem?_eq_getElem (by omega)] at g0 g1
      obtain ⟨n0, e0, _, w0⟩ := DataW.trod_int Try.underlying3 g0
      obtain ⟨n1, e1, _, w1⟩ := DataW.trod_int Try.underlying2 g1
      have get : ∀ (o : Nat) (v : Value), (cs'.drop o).take 1 = [v] → cs'[o]? = some v := by
        intro o v h
        have := congrArg (fun l => l[0]?) h
        simpa [List.getElem?_take, List.getElem?_drop] using this
      have c0 := hcell 0 (by omega)
      have c1 := hcell 1 (by omega)
      rw [add_add] at c0 c1
      rw [get 0 _ e0] at c0
      rw [get 1 _ e1] at c1
      exact ⟨(n0, n1), ⟨c0, c1⟩, w0, w1⟩
    obtain ⟨f, hf'⟩ := choose_lt key
    have hcap : m * 16 ≤ 140737488351232 := by
      have := hs _ _ (Prod.mk.inj hx).1
      rw [Try.bytes60] at this
      simp only [List.length_map, List.length_range, reachBytes] at this
      omega
    refine ⟨(List.range len).map f, ⟨by simp, hl, hm, by simp, fun v hv => ?_, fun h0 => ?_⟩, by omega⟩
    · obtain ⟨i, hi, rfl⟩ := List.mem_map.1 hv
      have := List.mem_range.1 hi
      exact ⟨okI (hf' i (by omega)).2.1, okI (hf' i (by omega)).2.2⟩
    · obtain ⟨b, off, spot⟩ := x
      have hc := (hf' 0 (by omega)).1.1
      have hsp : spot = none := by simpa [Addr.add] using World.cell?_spot hc
      subst hsp
      refine ⟨b, off, rfl, fun i hi => ?_⟩
      have h1 := (hf' i (by omega)).1
      rw [Addr.add_lit, Addr.add_lit] at h1
      have e : ((List.range len).map f).getD i (0, 0) = f i := by simp [List.getD, hi]
      rw [e]
      exact ⟨h1.1, by rw [Nat.add_assoc]; exact h1.2⟩
/-- An object that came in. -/
theorem open_obj {H : Type} {enc : TypeId × Value → H} {W : World} {r : Reach} {b0 : Nat} {v : Value} {d : DataW H} {p : List MemPlace} {ts : List TypeId} {ds : List (DataW H)} {j : Nat}
    (hv : Value.okWide Try.prog W r b0 38 v) (h : DataW.Trod enc Try.prog W 0 (fun _ => true) true 38 v d p)
    (hsz : (DataW.weightsEach Try.prog ts ds).all (· ≤ reachBytes) = true) (ht : ts[j]? = some 38) (hd : ds[j]? = some d) :
    ∃ c sa sn sc ba bn bc vs bs, v = .agg #[.int .i64 c, .slice sa sn sc, .slice ba bn bc] ∧ IsO W c sa sn sc ba bn bc vs bs ∧ sn ≤ 8796093021952 ∧ bn ≤ 140737488351232 := by
  obtain ⟨v0, v1, v2, y0, y1, y2, m, rfl, rfl, rfl, h0, h1, h2⟩ := Joins.open_agg3 Try.underlying38 (by kernel_rfl) Try.cells38 hv h
  obtain ⟨n, hn, hy0, wn⟩ := DataW.trod_int Try.underlying2 h0
  obtain ⟨sa, sn, sc, hs1⟩ := Joins.slice_form Try.underlying35 h1
  obtain ⟨ba, bn, bc, hs2⟩ := Joins.slice_form Try.underlying36 h2
  obtain rfl := (List.cons.inj hn).1
  obtain rfl := (List.cons.inj hs1).1
  obtain rfl := (List.cons.inj hs2).1
  obtain ⟨vs, hV, hcv⟩ := open_vals (d := y1.1) (p := y1.2) h1 (fun elems spare he => by
    have hw := List.all_eq_true.1 hsz _ (DataW.weights_mem_each ht hd ((elems.length + spare.length) * Try.prog.bytesOf 60) (by
      simp [DataW.weights, Try.underlying38, DataW.weightsEach, he, Try.underlying35]))
    simpa using hw)
  obtain ⟨bs, hB, hcb⟩ := open_bytes (d := y2.1) (p := y2.2) h2 (fun elems spare he => by
    have hw := List.all_eq_true.1 hsz _ (DataW.weights_mem_each ht hd ((elems.length + spare.length) * Try.prog.bytesOf 5) (by
      simp [DataW.weights, Try.underlying38, DataW.weightsEach, he, Try.underlying36]))
    simpa using hw)
  exact ⟨n, sa, sn, sc, ba, bn, bc, vs, bs, rfl, ⟨okI wn, hV, hB⟩, by have := hV.room; omega, by have := hB.room; omega⟩
end Go.Proofs.Ytkkilenokpoaoaa
