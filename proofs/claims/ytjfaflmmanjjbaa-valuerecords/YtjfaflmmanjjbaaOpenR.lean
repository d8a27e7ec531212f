/- From a reading of a record that came in to what the walks ask of it. -/
import Derived.Test.YtjfaflmmanjjbaaOpenO
import Derived.Test.YtjfaflmmanjjbaaRec
namespace Go.Proofs.Ytjfaflmmanjjbaa
open Go.ChangeShapes Go.WideShapes Go.ChangeAt Go.RowKit Go.Deep
set_option maxRecDepth 100000
theorem Try.bytes76 : Try.prog.bytesOf 76 = 72 := by kernel_rfl
theorem Try.cells76 : Try.prog.cellsOf 76 = 5 := by kernel_rfl
theorem Try.cells4 : Try.prog.cellsOf 4 = 1 := by kernel_rfl
theorem Try.cells24 : Try.prog.cellsOf 24 = 1 := by kernel_rfl
theorem Try.cells25 : Try.prog.cellsOf 25 = 1 := by kernel_rfl
theorem Try.cells49 : Try.prog.cellsOf 49 = 2 := by kernel_rfl
theorem Try.fields27 : ∃ f0 f1 f2, Try.prog.underlying 27 = some (.struct #[f0, f1, f2]) ∧ (f0.type = 2 ∧ f0.offset = 0) ∧ (f1.type = 24 ∧ f1.offset = 1) ∧ (f2.type = 25 ∧ f2.offset = 2) := ⟨_, _, _, Try.underlying27, ⟨rfl, rfl⟩, ⟨rfl, rfl⟩, ⟨rfl, rfl⟩⟩
theorem Try.fields76 : ∃ f0 f1 f2, Try.prog.underlying 76 = some (.struct #[f0, f1, f2]) ∧ (f0.type = 2 ∧ f0.offset = 0) ∧ (f1.type = 4 ∧ f1.offset = 1) ∧ (f2.type = 27 ∧ f2.offset = 2) := ⟨_, _, _, Try.underlying76, ⟨rfl, rfl⟩, ⟨rfl, rfl⟩, ⟨rfl, rfl⟩⟩
theorem weights_part {H : Type} {t : TypeId} {f0 f1 f2 : Field} {y0 y1 y2 : DataW H} (hu : Try.prog.underlying t = some (.struct #[f0, f1, f2])) (hs : ∀ n ∈ (DataW.agg [y0, y1, y2]).weights Try.prog t, n ≤ reachBytes) :
    (∀ n ∈ y1.weights Try.prog f1.type, n ≤ reachBytes) ∧ (∀ n ∈ y2.weights Try.prog f2.type, n ≤ reachBytes) := by
  have e : (DataW.agg [y0, y1, y2]).weights Try.prog t = DataW.weightsEach Try.prog [f0.type, f1.type, f2.type] [y0, y1, y2] := by
    simp only [DataW.weights, hu]
    rfl
  rw [e] at hs
  exact ⟨fun n hn => hs n (DataW.weights_mem_each (j := 1) rfl rfl n hn), fun n hn => hs n (DataW.weights_mem_each (j := 2) rfl rfl n hn)⟩
theorem slice_of_trod {H : Type} {enc : TypeId × Value → H} {W : World} {fuel t e : Nat} {cs : List Value} {x : DataW H × List MemPlace} (hu : Try.prog.underlying t = some (.slice e)) (h : DataW.trod enc Try.prog W 0 (fun _ => true) true fuel t cs = some x) : ∃ a n c, cs = [.slice a n c] := by
  rcases open_slice hu h with ⟨h0, _⟩ | ⟨a, len, cap, _, _, _, _, h0, _⟩
  · exact ⟨_, _, _, h0⟩
  · exact ⟨_, _, _, h0⟩
/-- An object within a row. -/
theorem open_objT {H : Type} {enc : TypeId × Value → H} {W : World} {fuel : Nat} {cs : List Value} {x : DataW H × List MemPlace}
    (hf : DataW.trod enc Try.prog W 0 (fun _ => true) true fuel 27 cs = some x) (hs : ∀ n ∈ x.1.weights Try.prog 27, n ≤ reachBytes) :
    ∃ c sa sn sc ba bn bc vs bs, cs = [.int .i64 c, .slice sa sn sc, .slice ba bn bc] ∧ IsO W c sa sn sc ba bn bc vs bs ∧ sn ≤ 8796093021952 ∧ bn ≤ 140737488351232 := by
  obtain ⟨f0, f1, f2, hu, ⟨t0, o0⟩, ⟨t1, o1⟩, ⟨t2, o2⟩⟩ := Try.fields27
  obtain ⟨ys, k, _, rfl, hcl, hyl, hfl⟩ := DataW.trod_struct hu hf
  have hy3 : ys.length = 3 := hyl
  rw [Try.cells27] at hcl
  obtain ⟨y0, y1, y2, rfl⟩ : ∃ y0 y1 y2, ys = [y0, y1, y2] := by
    match ys, hy3 with
    | [y0, y1, y2], _ => exact ⟨_, _, _, rfl⟩
  obtain ⟨c0, c1, c2, rfl⟩ : ∃ c0 c1 c2, cs = [c0, c1, c2] := by
    match cs, hcl with
    | [c0, c1, c2], _ => exact ⟨_, _, _, rfl⟩
  have g0 : DataW.trod enc Try.prog W 0 (fun _ => true) true k 2 [c0] = some y0 := by have h := hfl 0 f0 rfl; rw [t0, o0, Try.cells2] at h; exact h
  have g1 : DataW.trod enc Try.prog W 0 (fun _ => true) true k 24 [c1] = some y1 := by have h := hfl 1 f1 rfl; rw [t1, o1, Try.cells24] at h; exact h
  have g2 : DataW.trod enc Try.prog W 0 (fun _ => true) true k 25 [c2] = some y2 := by have h := hfl 2 f2 rfl; rw [t2, o2, Try.cells25] at h; exact h
  obtain ⟨h1, h2⟩ := weights_part (y0 := y0.1) (y1 := y1.1) (y2 := y2.1) hu hs
  rw [t1] at h1
  rw [t2] at h2
  obtain ⟨n0, e0, _, w0⟩ := DataW.trod_int Try.underlying2 g0
  obtain ⟨sa, sn, sc, e1⟩ := slice_of_trod Try.underlying24 g1
  obtain ⟨ba, bn, bc, e2⟩ := slice_of_trod Try.underlying25 g2
  obtain rfl := (List.cons.inj e0).1
  obtain rfl := (List.cons.inj e1).1
  obtain rfl := (List.cons.inj e2).1
  obtain ⟨vs, hV, hcv⟩ := open_vals (d := y1.1) (p := y1.2) g1 (fun elems spare he => h1 _ (by simp [he, DataW.weights, Try.underlying24]))
  obtain ⟨bs, hB, hcb⟩ := open_bytes (d := y2.1) (p := y2.2) g2 (fun elems spare he => h2 _ (by simp [he, DataW.weights, Try.underlying25]))
  exact ⟨n0, sa, sn, sc, ba, bn, bc, vs, bs, rfl, ⟨okI w0, hV, hB⟩, by have := hV.room; omega, by have := hB.room; omega⟩
/-- A change within a row. -/
theorem open_chT {H : Type} {enc : TypeId × Value → H} {W : World} {fuel : Nat} {cs : List Value} {x : DataW H × List MemPlace}
    (hf : DataW.trod enc Try.prog W 0 (fun _ => true) true fuel 76 cs = some x) (hs : ∀ n ∈ x.1.weights Try.prog 76, n ≤ reachBytes) :
    ∃ (y : Ch) (sa : Option Addr) (sn sc : Nat) (ba : Option Addr) (bn bc : Nat), cs = [.int .i64 y.oop, .bool y.gone, .int .i64 y.cls, .slice sa sn sc, .slice ba bn bc] ∧ IsO W y.cls sa sn sc ba bn bc y.vs y.bs ∧ sn ≤ 8796093021952 ∧ bn ≤ 140737488351232 ∧ (-9223372036854775808 ≤ y.oop ∧ y.oop ≤ 9223372036854775807) := by
  obtain ⟨f0, f1, f2, hu, ⟨t0, o0⟩, ⟨t1, o1⟩, ⟨t2, o2⟩⟩ := Try.fields76
  obtain ⟨ys, k, _, rfl, hcl, hyl, hfl⟩ := DataW.trod_struct hu hf
  have hy3 : ys.length = 3 := hyl
  rw [Try.cells76] at hcl
  obtain ⟨y0, y1, y2, rfl⟩ : ∃ y0 y1 y2, ys = [y0, y1, y2] := by
    match ys, hy3 with
    | [y0, y1, y2], _ => exact ⟨_, _, _, rfl⟩
  obtain ⟨c0, c1, c2, c3, c4, rfl⟩ : ∃ c0 c1 c2 c3 c4, cs = [c0, c1, c2, c3, c4] := by
    match cs, hcl with
    | [c0, c1, c2, c3, c4], _ => exact ⟨_, _, _, _, _, rfl⟩
  have g0 : DataW.trod enc Try.prog W 0 (fun _ => true) true k 2 [c0] = some y0 := by have h := hfl 0 f0 rfl; rw [t0, o0, Try.cells2] at h; exact h
  have g1 : DataW.trod enc Try.prog W 0 (fun _ => true) true k 4 [c1] = some y1 := by have h := hfl 1 f1 rfl; rw [t1, o1, Try.cells4] at h; exact h
  have g2 : DataW.trod enc Try.prog W 0 (fun _ => true) true k 27 [c2, c3, c4] = some y2 := by have h := hfl 2 f2 rfl; rw [t2, o2, Try.cells27] at h; exact h
  obtain ⟨_, h2⟩ := weights_part (y0 := y0.1) (y1 := y1.1) (y2 := y2.1) hu hs
  rw [t2] at h2
  obtain ⟨n0, e0, _, w0⟩ := DataW.trod_int Try.underlying2 g0
  obtain ⟨b1, e1, _⟩ := DataW.trod_bool Try.underlying4 g1
  obtain ⟨c, sa, sn, sc, ba, bn, bc, vs, bs, e2, hO, hsn, hbn⟩ := open_objT g2 h2
  obtain rfl := (List.cons.inj e0).1
  obtain rfl := (List.cons.inj e1).1
  simp only [List.cons.injEq, and_true] at e2
  obtain ⟨rfl, rfl, rfl⟩ := e2
  exact ⟨⟨n0, b1, c, vs, bs⟩, sa, sn, sc, ba, bn, bc, rfl, hO, hsn, hbn, okI w0⟩
instance : Inhabited Ch := ⟨⟨0, false, 0, [], []⟩⟩
theorem weightsAll_mem {H : Type} {e : TypeId} : ∀ {l : List (DataW H)} {d : DataW H}, d ∈ l → ∀ n ∈ d.weights Try.prog e, n ∈ DataW.weightsAll Try.prog e l
  | a :: r, d, hd, n, hn => by
    simp only [DataW.weightsAll, List.mem_append]
    rcases List.mem_cons.1 hd with rfl | hd
    · exact Or.inl hn
    · exact Or.inr (weightsAll_mem hd n hn)
/-- A slice of changes that came in. -/
theorem open_chs {H : Type} {enc : TypeId × Value → H} {W : World} {a : Option Addr} {len cap fuel : Nat} {x : DataW H × List MemPlace}
    (hf : DataW.trod enc Try.prog W 0 (fun _ => true) true fuel 47 [Value.slice a len cap] = some x) (hs : ∀ n ∈ x.1.weights Try.prog 47, n ≤ reachBytes) :
    ∃ xs, IsC W a len cap xs ∧ len ≤ 1954687338264 ∧ ∀ x ∈ xs, x.vs.length ≤ 8796093022208 ∧ x.bs.length ≤ 140737488355328 := by
  rcases open_slice Try.underlying47 hf with ⟨hcs, _⟩ | ⟨ad, len', cap', m, n, D, Pl, hcs, _, hl, hm, hmm, rfl, hel⟩
  · simp at hcs
    obtain ⟨rfl, rfl, rfl⟩ := hcs
    exact ⟨[], ⟨rfl, Nat.le_refl _, by decide, fun _ => rfl, by simp, fun h => absurd h (by decide)⟩, by decide, by simp⟩
  · simp at hcs
    obtain ⟨rfl, rfl, rfl⟩ := hcs
    simp only [if_true] at hmm
    subst hmm
    have hw : ∀ i, i < len → ∀ z ∈ (D i).weights Try.prog 76, z ≤ reachBytes := fun i hi z hz => hs z (by
      simp only [DataW.weights, Try.underlying47, List.mem_cons, List.mem_append]
      exact Or.inr (Or.inl (weightsAll_mem (List.mem_map.2 ⟨i, List.mem_range.2 hi, rfl⟩) z hz)))
    have hlen : m * 72 ≤ 140737488351232 := by
      have := hs _ (by simp only [DataW.weights, Try.underlying47, List.mem_cons]; exact Or.inl rfl)
      rw [Try.bytes76] at this
      simp only [List.length_map, List.length_range, reachBytes] at this
      omega
    have key : ∀ i, i < len → ∃ y : Ch, (∃ (sa : Option Addr) (sn sc : Nat) (ba : Option Addr) (bn bc : Nat), (W.cell? (ad.add (i * 5)) = some (.int .i64 y.oop) ∧ W.cell? (ad.add (i * 5 + 1)) = some (.bool y.gone) ∧ W.cell? (ad.add (i * 5 + 2)) = some (.int .i64 y.cls) ∧ W.cell? (ad.add (i * 5 + 3)) = some (.slice sa sn sc) ∧ W.cell? (ad.add (i * 5 + 4)) = some (.slice ba bn bc)) ∧ IsO W y.cls sa sn sc ba bn bc y.vs y.bs ∧ sn ≤ 8796093021952 ∧ bn ≤ 140737488351232) ∧ (-9223372036854775808 ≤ y.oop ∧ y.oop ≤ 9223372036854775807) := by
      intro i hi
      obtain ⟨cs', h1, h2⟩ := hel i (by omega)
      rw [Try.cells76] at h1
      obtain ⟨_, hcl, hcell⟩ := World.cells?_some h1
      obtain ⟨y, sa, sn, sc, ba, bn, bc, rfl, hO, hsn, hbn, hoo⟩ := open_chT h2 (hw i hi)
      have q0 := hcell 0 (by omega)
      have q1 := hcell 1 (by omega)
      have q2 := hcell 2 (by omega)
      have q3 := hcell 3 (by omega)
      have q4 := hcell 4 (by omega)
      rw [add_add] at q0 q1 q2 q3 q4
      exact ⟨y, ⟨sa, sn, sc, ba, bn, bc, ⟨q0, q1, q2, q3, q4⟩, hO, hsn, hbn⟩, hoo⟩
    obtain ⟨f, hf'⟩ := choose_lt key
    refine ⟨(List.range len).map f, ⟨by simp, hl, hm, by simp, fun z hz => ?_, fun h0 => ?_⟩, by omega, fun z hz => ?_⟩
    · obtain ⟨i, hi, rfl⟩ := List.mem_map.1 hz
      exact (hf' i (List.mem_range.1 hi)).2
    · obtain ⟨b, off, spot⟩ := ad
      have hc : W.cell? ((⟨b, off, spot⟩ : Addr).add (0 * 5)) = some (.int .i64 (f 0).oop) := by obtain ⟨⟨_, _, _, _, _, _, h, _⟩, _⟩ := hf' 0 h0; exact h.1
      have hsp : spot = none := by simpa [Addr.add] using World.cell?_spot hc
      subst hsp
      refine ⟨b, off, rfl, fun i x hx => ?_⟩
      have hi : i < len := by
        have := (List.getElem?_eq_some_iff.1 hx).1
        simpa using this
      have ex : f i = x := by
        rw [List.getElem?_map, List.getElem?_range hi] at hx
        exact Option.some.inj hx
      subst ex
      obtain ⟨⟨sa, sn, sc, ba, bn, bc, ⟨q0, q1, q2, q3, q4⟩, hO, _, _⟩, _⟩ := hf' i hi
      rw [Addr.add_lit] at q0 q1 q2 q3 q4
      exact ⟨sa, sn, sc, ba, bn, bc, q0, by rw [Nat.add_assoc]; exact q1, by rw [Nat.add_assoc]; exact q2, by rw [Nat.add_assoc]; exact q3, by rw [Nat.add_assoc]; exact q4, hO⟩
    · obtain ⟨i, hi, rfl⟩ := List.mem_map.1 hz
      obtain ⟨⟨sa, sn, sc, ba, bn, bc, _, hO, hsn, hbn⟩, _⟩ := hf' i (List.mem_range.1 hi)
      have h1 := hO.v.size
      have h2 := hO.b.size
      omega
/-- A record that came in. -/
theorem open_rec {H : Type} {enc : TypeId × Value → H} {W : World} {r : Reach} {b0 : Nat} {v : Value} {d : DataW H} {p : List MemPlace} {ts : List TypeId} {ds : List (DataW H)} {j : Nat}
    (hv : Value.okWide Try.prog W r b0 49 v) (h : DataW.Trod enc Try.prog W 0 (fun _ => true) true 49 v d p)
    (hsz : (DataW.weightsEach Try.prog ts ds).all (· ≤ reachBytes) = true) (ht : ts[j]? = some 49) (hd : ds[j]? = some d) :
    ∃ c a n cap xs, v = .agg #[.int .i64 c, .slice a n cap] ∧ IsC W a n cap xs ∧ n ≤ 1954687338264 ∧ ∀ x ∈ xs, x.vs.length ≤ 8796093022208 ∧ x.bs.length ≤ 140737488355328 := by
  obtain ⟨v0, v1, y0, y1, m, rfl, rfl, rfl, h0, h1⟩ := Joins.open_agg2 Try.underlying49 (by kernel_rfl) Try.cells49 hv h
  obtain ⟨n, hn, hy0, wn⟩ := DataW.trod_int Try.underlying2 h0
  obtain ⟨sa, sn, sc, hs1⟩ := Joins.slice_form Try.underlying47 h1
  obtain rfl := (List.cons.inj hn).1
  obtain rfl := (List.cons.inj hs1).1
  obtain ⟨xs, hC, hl, hp⟩ := open_chs (x := y1) h1 (fun z hz => by
    have hw := List.all_eq_true.1 hsz _ (DataW.weights_mem_each ht hd z (by
      simp only [DataW.weights, Try.underlying49]
      exact DataW.weights_mem_each (j := 1) rfl rfl z hz))
    simpa using hw)
  exact ⟨n, sa, sn, sc, xs, rfl, hC, hl, hp⟩
end Go.Proofs.Ytjfaflmmanjjbaa
