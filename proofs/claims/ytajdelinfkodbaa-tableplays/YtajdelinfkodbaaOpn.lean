/- Records that come in. -/
import Derived.Test.YtajdelinfkodbaaKno
import Derived.WalkKit
import Derived.ProofKit
import Derived.OpenShut
import Derived.ShutString
import Derived.SizedLaws
import Derived.ChangeOld
import Derived.Below
import Derived.Lib.SmallJoins
import Derived.Deep.Slices
namespace Go.Proofs.Ytajdelinfkodbaa
open Go.ChangeShapes Go.WideShapes Go.ChangeAt Go.RowKit Go.Deep
set_option maxRecDepth 100000
set_option maxRecDepth 100000

theorem okI {n : Int} (h : (Lit.int .i64 n).wf = true) : -9223372036854775808 ≤ n ∧ n ≤ 9223372036854775807 := by
  simp [Lit.wf, IntKind.min, IntKind.max, IntKind.signed, IntKind.bits] at h
  omega
theorem isB_nilO (w : World) : IsB w none 0 0 [] := ⟨rfl, Nat.le_refl _, by decide, fun _ => rfl, by simp, fun h => absurd h (by decide)⟩
theorem isV_nilO (w : World) : IsV w none 0 0 [] := ⟨rfl, Nat.le_refl _, by decide, fun _ => rfl, by simp, fun h => absurd h (by decide)⟩
theorem isB_of_row {w : World} {x : Addr} {len cap : Nat} {zs : List Int} (hl : len ≤ cap) (hm : cap ≤ maxLen) (hz : zs.length = cap)
    (hcell : ∀ i, i < zs.length → w.cell? (x.add i) = some (.int .u8 (zs.getD i 0))) (hwz : ∀ n ∈ zs, (Lit.int .u8 n).wf = true) : IsB w (some x) len cap (zs.take len) := by
  refine ⟨by simp; omega, hl, hm, by simp, fun y hy => ?_, fun h0 => ?_⟩
  · have := bounds_u8 (hwz y (List.mem_of_mem_take hy))
    omega
  · obtain ⟨b, off, spot⟩ := x
    have hc := hcell 0 (by omega)
    have hspot : spot = none := by simpa [Addr.add] using World.cell?_spot hc
    subst hspot
    refine ⟨b, off, rfl, fun i hi => ?_⟩
    have := hcell i (by omega)
    rw [show (⟨b, off, none⟩ : Addr).add i = ⟨b, off + i, none⟩ by simp [Addr.add]] at this
    rw [this]
    simp [hi]
theorem Try.bytes5 : Try.prog.bytesOf 5 = 1 := by kernel_rfl
theorem Try.bytes84 : Try.prog.bytesOf 84 = 16 := by kernel_rfl
theorem Try.cells84 : Try.prog.cellsOf 84 = 2 := by kernel_rfl
theorem Try.cells49 : Try.prog.cellsOf 49 = 3 := by kernel_rfl
theorem Try.cells2 : Try.prog.cellsOf 2 = 1 := by kernel_rfl
theorem Try.cells3 : Try.prog.cellsOf 3 = 1 := by kernel_rfl
/-- A slice of bytes that came in: what it holds, and that it is within the reach. -/
theorem open_bytes {H : Type} {enc : TypeId × Value → H} {W : World} {a : Option Addr} {len cap fuel : Nat} {d : DataW H} {p : List MemPlace}
    (hf : DataW.trod enc Try.prog W 0 (fun _ => true) true fuel 47 [Value.slice a len cap] = some (d, p))
    (hs : ∀ elems spare, d = .slice elems spare → (elems.length + spare.length) * Try.prog.bytesOf 5 ≤ reachBytes) :
    ∃ xs, IsB W a len cap xs ∧ cap ≤ 140737488351232 := by
  rcases open_ints Try.underlying47 Try.underlying5 (by kernel_rfl) hf with ⟨hcs, _⟩ | ⟨x, l, c, zs, hcs, _, hl, hm, hz, hx, hcell, hwz⟩
  · simp at hcs
    obtain ⟨rfl, rfl, rfl⟩ := hcs
    exact ⟨[], isB_nilO W, by decide⟩
  · simp at hcs
    obtain ⟨rfl, rfl, rfl⟩ := hcs
    have hz' : zs.length = cap := by simpa using hz
    refine ⟨_, isB_of_row hl hm hz' hcell hwz, ?_⟩
    have := hs _ _ (Prod.mk.inj hx).1
    rw [Try.bytes5] at this
    simp only [lits, List.length_map, List.length_take, List.length_drop, reachBytes] at this
    omega
theorem Try.fields84 : ∃ f0 f1, Try.prog.underlying 84 = some (.struct #[f0, f1]) ∧ f0.type = 3 ∧ f0.offset = 0 ∧ f1.type = 2 ∧ f1.offset = 1 := ⟨_, _, Try.underlying84, rfl, rfl, rfl, rfl⟩
/-- A slice of values that came in. -/
theorem open_vals {H : Type} {enc : TypeId × Value → H} {W : World} {a : Option Addr} {len cap fuel : Nat} {d : DataW H} {p : List MemPlace}
    (hf : DataW.trod enc Try.prog W 0 (fun _ => true) true fuel 46 [Value.slice a len cap] = some (d, p))
    (hs : ∀ elems spare, d = .slice elems spare → (elems.length + spare.length) * Try.prog.bytesOf 84 ≤ reachBytes) :
    ∃ vs, IsV W a len cap vs ∧ cap ≤ 8796093021952 := by
  rcases open_slice Try.underlying46 hf with ⟨hcs, _⟩ | ⟨x, len', cap', m, n, D, Pl, hcs, _, hl, hm, hmm, hx, hel⟩
  · simp at hcs
    obtain ⟨rfl, rfl, rfl⟩ := hcs
    exact ⟨[], isV_nilO W, by decide⟩
  · simp at hcs
    obtain ⟨rfl, rfl, rfl⟩ := hcs
    simp only [if_true] at hmm
    subst hmm
    obtain ⟨f0, f1, hu, t0, o0, t1, o1⟩ := Try.fields84
    have key : ∀ i, i < m → ∃ v : Int × Int, (W.cell? (x.add (i * 2)) = some (.int .i64 v.1) ∧ W.cell? (x.add (i * 2 + 1)) = some (.int .i64 v.2)) ∧ (Lit.int .i64 v.1).wf = true ∧ (Lit.int .i64 v.2).wf = true := by
      intro i hi
      obtain ⟨cs', h1, h2⟩ := hel i hi
      rw [Try.cells84] at h1
      obtain ⟨_, hlen, hcell⟩ := World.cells?_some h1
      obtain ⟨xs, k, _, _, _, hxl, hfl⟩ := DataW.trod_struct hu h2
      have g0 := hfl 0 f0 rfl
      have g1 := hfl 1 f1 rfl
      rw [t0, o0, Try.cells3] at g0
      rw [t1, o1, Try.cells2] at g1
      have hxs : xs.length = 2 := hxl
      rw [List.getElem?_eq_getElem (by omega)] at g0 g1
      obtain ⟨n0, e0, _, w0⟩ := DataW.trod_int Try.underlying3 g0
      obtain ⟨n1, e1, _, w1⟩ := DataW.trod_int Try.underlying2 g1
      have get : ∀ (o : Nat) (v : Value), (cs'.drop o).take 1 = [v] → cs'[o]? = some v := by
        intro o v h
        have := congrArg (fun l => l[0]?) h
        simpa [List.getElem?_take, List.getElem?_drop] using this
      have c0 := hcell 0 (by omega)
      have c1 := hcell 1 (by omega)
      rw [add_add] at c0 c1
      rw [get 0 _ e0] at c0
      rw [get 1 _ e1] at c1
      exact ⟨(n0, n1), ⟨c0, c1⟩, w0, w1⟩
    obtain ⟨f, hf'⟩ := choose_lt key
    have hcap : m * 16 ≤ 140737488351232 := by
      have := hs _ _ (Prod.mk.inj hx).1
      rw [Try.bytes84] at this
      simp only [List.length_map, List.length_range, reachBytes] at this
      omega
    refine ⟨(List.range len).map f, ⟨by simp, hl, hm, by simp, fun v hv => ?_, fun h0 => ?_⟩, by omega⟩
    · obtain ⟨i, hi, rfl⟩ := List.mem_map.1 hv
      have := List.mem_range.1 hi
      exact ⟨okI (hf' i (by omega)).2.1, okI (hf' i (by omega)).2.2⟩
    · obtain ⟨b, off, spot⟩ := x
      have hc := (hf' 0 (by omega)).1.1
      have hsp : spot = none := by simpa [Addr.add] using World.cell?_spot hc
      subst hsp
      refine ⟨b, off, rfl, fun i hi => ?_⟩
      have h1 := (hf' i (by omega)).1
      rw [Addr.add_lit, Addr.add_lit] at h1
      have e : ((List.range len).map f).getD i (0, 0) = f i := by simp [List.getD, hi]
      rw [e]
      exact ⟨h1.1, by rw [Nat.add_assoc]; exact h1.2⟩
set_option maxRecDepth 100000
theorem Try.bytes73 : Try.prog.bytesOf 73 = 72 := by kernel_rfl
theorem Try.cells73 : Try.prog.cellsOf 73 = 5 := by kernel_rfl
theorem Try.cells4 : Try.prog.cellsOf 4 = 1 := by kernel_rfl
theorem Try.cells46 : Try.prog.cellsOf 46 = 1 := by kernel_rfl
theorem Try.cells47 : Try.prog.cellsOf 47 = 1 := by kernel_rfl
theorem Try.fields49 : ∃ f0 f1 f2, Try.prog.underlying 49 = some (.struct #[f0, f1, f2]) ∧ (f0.type = 2 ∧ f0.offset = 0) ∧ (f1.type = 46 ∧ f1.offset = 1) ∧ (f2.type = 47 ∧ f2.offset = 2) := ⟨_, _, _, Try.underlying49, ⟨rfl, rfl⟩, ⟨rfl, rfl⟩, ⟨rfl, rfl⟩⟩
theorem Try.fields73 : ∃ f0 f1 f2, Try.prog.underlying 73 = some (.struct #[f0, f1, f2]) ∧ (f0.type = 2 ∧ f0.offset = 0) ∧ (f1.type = 4 ∧ f1.offset = 1) ∧ (f2.type = 49 ∧ f2.offset = 2) := ⟨_, _, _, Try.underlying73, ⟨rfl, rfl⟩, ⟨rfl, rfl⟩, ⟨rfl, rfl⟩⟩
theorem weights_part {H : Type} {t : TypeId} {f0 f1 f2 : Field} {y0 y1 y2 : DataW H} (hu : Try.prog.underlying t = some (.struct #[f0, f1, f2])) (hs : ∀ n ∈ (DataW.agg [y0, y1, y2]).weights Try.prog t, n ≤ reachBytes) :
    (∀ n ∈ y1.weights Try.prog f1.type, n ≤ reachBytes) ∧ (∀ n ∈ y2.weights Try.prog f2.type, n ≤ reachBytes) := by
  have e : (DataW.agg [y0, y1, y2]).weights Try.prog t = DataW.weightsEach Try.prog [f0.type, f1.type, f2.type] [y0, y1, y2] := by
    simp only [DataW.weights, hu]
    rfl
  rw [e] at hs
  exact ⟨fun n hn => hs n (DataW.weights_mem_each (j := 1) rfl rfl n hn), fun n hn => hs n (DataW.weights_mem_each (j := 2) rfl rfl n hn)⟩
theorem slice_of_trod {H : Type} {enc : TypeId × Value → H} {W : World} {fuel t e : Nat} {cs : List Value} {x : DataW H × List MemPlace} (hu : Try.prog.underlying t = some (.slice e)) (h : DataW.trod enc Try.prog W 0 (fun _ => true) true fuel t cs = some x) : ∃ a n c, cs = [.slice a n c] := by
  rcases open_slice hu h with ⟨h0, _⟩ | ⟨a, len, cap, _, _, _, _, h0, _⟩
  · exact ⟨_, _, _, h0⟩
  · exact ⟨_, _, _, h0⟩
/-- An object within a row. -/
theorem open_objT {H : Type} {enc : TypeId × Value → H} {W : World} {fuel : Nat} {cs : List Value} {x : DataW H × List MemPlace}
    (hf : DataW.trod enc Try.prog W 0 (fun _ => true) true fuel 49 cs = some x) (hs : ∀ n ∈ x.1.weights Try.prog 49, n ≤ reachBytes) :
    ∃ c sa sn sc ba bn bc vs bs, cs = [.int .i64 c, .slice sa sn sc, .slice ba bn bc] ∧ IsO W c sa sn sc ba bn bc vs bs ∧ sn ≤ 8796093021952 ∧ bn ≤ 140737488351232 := by
  obtain ⟨f0, f1, f2, hu, ⟨t0, o0⟩, ⟨t1, o1⟩, ⟨t2, o2⟩⟩ := Try.fields49
  obtain ⟨ys, k, _, rfl, hcl, hyl, hfl⟩ := DataW.trod_struct hu hf
  have hy3 : ys.length = 3 := hyl
  rw [Try.cells49] at hcl
  obtain ⟨y0, y1, y2, rfl⟩ : ∃ y0 y1 y2, ys = [y0, y1, y2] := by
    match ys, hy3 with
    | [y0, y1, y2], _ => exact ⟨_, _, _, rfl⟩
  obtain ⟨c0, c1, c2, rfl⟩ : ∃ c0 c1 c2, cs = [c0, c1, c2] := by
    match cs, hcl with
    | [c0, c1, c2], _ => exact ⟨_, _, _, rfl⟩
  have g0 : DataW.trod enc Try.prog W 0 (fun _ => true) true k 2 [c0] = some y0 := by have h := hfl 0 f0 rfl; rw [t0, o0, Try.cells2] at h; exact h
  have g1 : DataW.trod enc Try.prog W 0 (fun _ => true) true k 46 [c1] = some y1 := by have h := hfl 1 f1 rfl; rw [t1, o1, Try.cells46] at h; exact h
  have g2 : DataW.trod enc Try.prog W 0 (fun _ => true) true k 47 [c2] = some y2 := by have h := hfl 2 f2 rfl; rw [t2, o2, Try.cells47] at h; exact h
  obtain ⟨h1, h2⟩ := weights_part (y0 := y0.1) (y1 := y1.1) (y2 := y2.1) hu hs
  rw [t1] at h1
  rw [t2] at h2
  obtain ⟨n0, e0, _, w0⟩ := DataW.trod_int Try.underlying2 g0
  obtain ⟨sa, sn, sc, e1⟩ := slice_of_trod Try.underlying46 g1
  obtain ⟨ba, bn, bc, e2⟩ := slice_of_trod Try.underlying47 g2
  obtain rfl := (List.cons.inj e0).1
  obtain rfl := (List.cons.inj e1).1
  obtain rfl := (List.cons.inj e2).1
  obtain ⟨vs, hV, hcv⟩ := open_vals (d := y1.1) (p := y1.2) g1 (fun elems spare he => h1 _ (by simp [he, DataW.weights, Try.underlying46]))
  obtain ⟨bs, hB, hcb⟩ := open_bytes (d := y2.1) (p := y2.2) g2 (fun elems spare he => h2 _ (by simp [he, DataW.weights, Try.underlying47]))
  exact ⟨n0, sa, sn, sc, ba, bn, bc, vs, bs, rfl, ⟨okI w0, hV, hB⟩, by have := hV.room; omega, by have := hB.room; omega⟩
/-- A change within a row. -/
theorem open_chT {H : Type} {enc : TypeId × Value → H} {W : World} {fuel : Nat} {cs : List Value} {x : DataW H × List MemPlace}
    (hf : DataW.trod enc Try.prog W 0 (fun _ => true) true fuel 73 cs = some x) (hs : ∀ n ∈ x.1.weights Try.prog 73, n ≤ reachBytes) :
    ∃ (y : Ch) (sa : Option Addr) (sn sc : Nat) (ba : Option Addr) (bn bc : Nat), cs = [.int .i64 y.oop, .bool y.gone, .int .i64 y.cls, .slice sa sn sc, .slice ba bn bc] ∧ IsO W y.cls sa sn sc ba bn bc y.vs y.bs ∧ sn ≤ 8796093021952 ∧ bn ≤ 140737488351232 ∧ (-9223372036854775808 ≤ y.oop ∧ y.oop ≤ 9223372036854775807) := by
  obtain ⟨f0, f1, f2, hu, ⟨t0, o0⟩, ⟨t1, o1⟩, ⟨t2, o2⟩⟩ := Try.fields73
  obtain ⟨ys, k, _, rfl, hcl, hyl, hfl⟩ := DataW.trod_struct hu hf
  have hy3 : ys.length = 3 := hyl
  rw [Try.cells73] at hcl
  obtain ⟨y0, y1, y2, rfl⟩ : ∃ y0 y1 y2, ys = [y0, y1, y2] := by
    match ys, hy3 with
    | [y0, y1, y2], _ => exact ⟨_, _, _, rfl⟩
  obtain ⟨c0, c1, c2, c3, c4, rfl⟩ : ∃ c0 c1 c2 c3 c4, cs = [c0, c1, c2, c3, c4] := by
    match cs, hcl with
    | [c0, c1, c2, c3, c4], _ => exact ⟨_, _, _, _, _, rfl⟩
  have g0 : DataW.trod enc Try.prog W 0 (fun _ => true) true k 2 [c0] = some y0 := by have h := hfl 0 f0 rfl; rw [t0, o0, Try.cells2] at h; exact h
  have g1 : DataW.trod enc Try.prog W 0 (fun _ => true) true k 4 [c1] = some y1 := by have h := hfl 1 f1 rfl; rw [t1, o1, Try.cells4] at h; exact h
  have g2 : DataW.trod enc Try.prog W 0 (fun _ => true) true k 49 [c2, c3, c4] = some y2 := by have h := hfl 2 f2 rfl; rw [t2, o2, Try.cells49] at h; exact h
  obtain ⟨_, h2⟩ := weights_part (y0 := y0.1) (y1 := y1.1) (y2 := y2.1) hu hs
  rw [t2] at h2
  obtain ⟨n0, e0, _, w0⟩ := DataW.trod_int Try.underlying2 g0
  obtain ⟨b1, e1, _⟩ := DataW.trod_bool Try.underlying4 g1
  obtain ⟨c, sa, sn, sc, ba, bn, bc, vs, bs, e2, hO, hsn, hbn⟩ := open_objT g2 h2
  obtain rfl := (List.cons.inj e0).1
  obtain rfl := (List.cons.inj e1).1
  simp only [List.cons.injEq, and_true] at e2
  obtain ⟨rfl, rfl, rfl⟩ := e2
  exact ⟨⟨n0, b1, c, vs, bs⟩, sa, sn, sc, ba, bn, bc, rfl, hO, hsn, hbn, okI w0⟩
instance : Inhabited Ch := ⟨⟨0, false, 0, [], []⟩⟩
theorem weightsAll_mem {H : Type} {e : TypeId} : ∀ {l : List (DataW H)} {d : DataW H}, d ∈ l → ∀ n ∈ d.weights Try.prog e, n ∈ DataW.weightsAll Try.prog e l
  | a :: r, d, hd, n, hn => by
    simp only [DataW.weightsAll, List.mem_append]
    rcases List.mem_cons.1 hd with rfl | hd
    · exact Or.inl hn
    · exact Or.inr (weightsAll_mem hd n hn)
/-- A slice of changes that came in. -/
theorem open_chs {H : Type} {enc : TypeId × Value → H} {W : World} {a : Option Addr} {len cap fuel : Nat} {x : DataW H × List MemPlace}
    (hf : DataW.trod enc Try.prog W 0 (fun _ => true) true fuel 27 [Value.slice a len cap] = some x) (hs : ∀ n ∈ x.1.weights Try.prog 27, n ≤ reachBytes) :
    ∃ xs, IsC W a len cap xs ∧ len ≤ 1954687338264 ∧ ∀ x ∈ xs, x.vs.length ≤ 8796093022208 ∧ x.bs.length ≤ 140737488355328 := by
  rcases open_slice Try.underlying27 hf with ⟨hcs, _⟩ | ⟨ad, len', cap', m, n, D, Pl, hcs, _, hl, hm, hmm, rfl, hel⟩
  · simp at hcs
    obtain ⟨rfl, rfl, rfl⟩ := hcs
    exact ⟨[], ⟨rfl, Nat.le_refl _, by decide, fun _ => rfl, by simp, fun h => absurd h (by decide)⟩, by decide, by simp⟩
  · simp at hcs
    obtain ⟨rfl, rfl, rfl⟩ := hcs
    simp only [if_true] at hmm
    subst hmm
    have hw : ∀ i, i < len → ∀ z ∈ (D i).weights Try.prog 73, z ≤ reachBytes := fun i hi z hz => hs z (by
      simp only [DataW.weights, Try.underlying27, List.mem_cons, List.mem_append]
      exact Or.inr (Or.inl (weightsAll_mem (List.mem_map.2 ⟨i, List.mem_range.2 hi, rfl⟩) z hz)))
    have hlen : m * 72 ≤ 140737488351232 := by
      have := hs _ (by simp only [DataW.weights, Try.underlying27, List.mem_cons]; exact Or.inl rfl)
      rw [Try.bytes73] at this
      simp only [List.length_map, List.length_range, reachBytes] at this
      omega
    have key : ∀ i, i < len → ∃ y : Ch, (∃ (sa : Option Addr) (sn sc : Nat) (ba : Option Addr) (bn bc : Nat), (W.cell? (ad.add (i * 5)) = some (.int .i64 y.oop) ∧ W.cell? (ad.add (i * 5 + 1)) = some (.bool y.gone) ∧ W.cell? (ad.add (i * 5 + 2)) = some (.int .i64 y.cls) ∧ W.cell? (ad.add (i * 5 + 3)) = some (.slice sa sn sc) ∧ W.cell? (ad.add (i * 5 + 4)) = some (.slice ba bn bc)) ∧ IsO W y.cls sa sn sc ba bn bc y.vs y.bs ∧ sn ≤ 8796093021952 ∧ bn ≤ 140737488351232) ∧ (-9223372036854775808 ≤ y.oop ∧ y.oop ≤ 9223372036854775807) := by
      intro i hi
      obtain ⟨cs', h1, h2⟩ := hel i (by omega)
      rw [Try.cells73] at h1
      obtain ⟨_, hcl, hcell⟩ := World.cells?_some h1
      obtain ⟨y, sa, sn, sc, ba, bn, bc, rfl, hO, hsn, hbn, hoo⟩ := open_chT h2 (hw i hi)
      have q0 := hcell 0 (by omega)
      have q1 := hcell 1 (by omega)
      have q2 := hcell 2 (by omega)
      have q3 := hcell 3 (by omega)
      have q4 := hcell 4 (by omega)
      rw [add_add] at q0 q1 q2 q3 q4
      exact ⟨y, ⟨sa, sn, sc, ba, bn, bc, ⟨q0, q1, q2, q3, q4⟩, hO, hsn, hbn⟩, hoo⟩
    obtain ⟨f, hf'⟩ := choose_lt key
    refine ⟨(List.range len).map f, ⟨by simp, hl, hm, by simp, fun z hz => ?_, fun h0 => ?_⟩, by omega, fun z hz => ?_⟩
    · obtain ⟨i, hi, rfl⟩ := List.mem_map.1 hz
      exact (hf' i (List.mem_range.1 hi)).2
    · obtain ⟨b, off, spot⟩ := ad
      have hc : W.cell? ((⟨b, off, spot⟩ : Addr).add (0 * 5)) = some (.int .i64 (f 0).oop) := by obtain ⟨⟨_, _, _, _, _, _, h, _⟩, _⟩ := hf' 0 h0; exact h.1
      have hsp : spot = none := by simpa [Addr.add] using World.cell?_spot hc
      subst hsp
      refine ⟨b, off, rfl, fun i x hx => ?_⟩
      have hi : i < len := by
        have := (List.getElem?_eq_some_iff.1 hx).1
        simpa using this
      have ex : f i = x := by
        rw [List.getElem?_map, List.getElem?_range hi] at hx
        exact Option.some.inj hx
      subst ex
      obtain ⟨⟨sa, sn, sc, ba, bn, bc, ⟨q0, q1, q2, q3, q4⟩, hO, _, _⟩, _⟩ := hf' i hi
      rw [Addr.add_lit] at q0 q1 q2 q3 q4
      exact ⟨sa, sn, sc, ba, bn, bc, q0, by rw [Nat.add_assoc]; exact q1, by rw [Nat.add_assoc]; exact q2, by rw [Nat.add_assoc]; exact q3, by rw [Nat.add_assoc]; exact q4, hO⟩
    · obtain ⟨i, hi, rfl⟩ := List.mem_map.1 hz
      obtain ⟨⟨sa, sn, sc, ba, bn, bc, _, hO, hsn, hbn⟩, _⟩ := hf' i (List.mem_range.1 hi)
      have h1 := hO.v.size
      have h2 := hO.b.size
      omega
/-- A record as it lies there. -/
structure Rm where
  com : Int
  a : Option Addr
  n : Nat
  cap : Nat
  xs : List Ch
structure Rm.In (m : Rm) (W : World) : Prop where
  com : -9223372036854775808 ≤ m.com ∧ m.com ≤ 9223372036854775807
  chs : IsC W m.a m.n m.cap m.xs
  few : m.n ≤ 1954687338264
  part : ∀ x ∈ m.xs, x.vs.length ≤ 8796093022208 ∧ x.bs.length ≤ 140737488355328
/-- A slice of records. -/
structure IsRs (W : World) (a : Option Addr) (len cap : Nat) (ms : List Rm) : Prop where
  size : ms.length = len
  room : len ≤ cap
  most : cap ≤ maxLen
  cells : 0 < len → ∃ b off, a = some ⟨b, off, none⟩ ∧ ∀ i m, ms[i]? = some m → W.cell? ⟨b, off + i * 2, none⟩ = some (.int .i64 m.com) ∧ W.cell? ⟨b, off + i * 2 + 1, none⟩ = some (.slice m.a m.n m.cap)
  ins : ∀ m ∈ ms, m.In W
instance : Inhabited Rm := ⟨⟨0, none, 0, 0, []⟩⟩
theorem Try.cells29 : Try.prog.cellsOf 29 = 2 := by kernel_rfl
theorem Try.cells27 : Try.prog.cellsOf 27 = 1 := by kernel_rfl
theorem Try.fields29 : ∃ f0 f1, Try.prog.underlying 29 = some (.struct #[f0, f1]) ∧ (f0.type = 2 ∧ f0.offset = 0) ∧ (f1.type = 27 ∧ f1.offset = 1) := ⟨_, _, Try.underlying29, ⟨rfl, rfl⟩, ⟨rfl, rfl⟩⟩
/-- A record within a row. -/
theorem open_recT {H : Type} {enc : TypeId × Value → H} {W : World} {fuel : Nat} {cs : List Value} {x : DataW H × List MemPlace}
    (hf : DataW.trod enc Try.prog W 0 (fun _ => true) true fuel 29 cs = some x) (hs : ∀ n ∈ x.1.weights Try.prog 29, n ≤ reachBytes) : ∃ m : Rm, cs = [.int .i64 m.com, .slice m.a m.n m.cap] ∧ m.In W := by
  obtain ⟨f0, f1, hu, ⟨t0, o0⟩, ⟨t1, o1⟩⟩ := Try.fields29
  obtain ⟨ys, k, _, rfl, hcl, hyl, hfl⟩ := DataW.trod_struct hu hf
  have hy2 : ys.length = 2 := hyl
  rw [Try.cells29] at hcl
  obtain ⟨y0, y1, rfl⟩ : ∃ y0 y1, ys = [y0, y1] := by
    match ys, hy2 with
    | [y0, y1], _ => exact ⟨_, _, rfl⟩
  obtain ⟨c0, c1, rfl⟩ : ∃ c0 c1, cs = [c0, c1] := by
    match cs, hcl with
    | [c0, c1], _ => exact ⟨_, _, rfl⟩
  have g0 : DataW.trod enc Try.prog W 0 (fun _ => true) true k 2 [c0] = some y0 := by have h := hfl 0 f0 rfl; rw [t0, o0, Try.cells2] at h; exact h
  have g1 : DataW.trod enc Try.prog W 0 (fun _ => true) true k 27 [c1] = some y1 := by have h := hfl 1 f1 rfl; rw [t1, o1, Try.cells27] at h; exact h
  have hw : ∀ n ∈ y1.1.weights Try.prog 27, n ≤ reachBytes := by
    have e : (DataW.agg [y0.1, y1.1]).weights Try.prog 29 = DataW.weightsEach Try.prog [f0.type, f1.type] [y0.1, y1.1] := by
      simp only [DataW.weights, hu]
      rfl
    rw [show (List.map Prod.fst [y0, y1]) = [y0.1, y1.1] from rfl, e] at hs
    exact fun n hn => hs n (DataW.weights_mem_each (j := 1) rfl (by rfl) n (by rw [t1]; exact hn))
  obtain ⟨n0, e0, _, w0⟩ := DataW.trod_int Try.underlying2 g0
  obtain ⟨sa, sn, sc, e1⟩ := slice_of_trod Try.underlying27 g1
  obtain rfl := (List.cons.inj e0).1
  obtain rfl := (List.cons.inj e1).1
  obtain ⟨xs, hC, hl, hp⟩ := open_chs g1 hw
  exact ⟨⟨n0, sa, sn, sc, xs⟩, rfl, ⟨okI w0, hC, hl, hp⟩⟩
end Go.Proofs.Ytajdelinfkodbaa
