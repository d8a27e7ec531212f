/- Arguments that are numbers and transactions, opened; how long they are. -/
import Derived.Test.YtigmpmichhghdaaGvn
import Derived.Test.YtigmpmichhghdaaSrt
import Derived.ProofKit
import Derived.OpenShut
import Derived.SizedLaws
import Derived.ChangeArms
import Derived.Lib.SmallJoins
import Derived.Deep.Slices
namespace Go.Proofs.Ytigmpmichhghdaa
open Go.RowKit Go.ChangeShapes Go.WideShapes Go.ChangeAt Go.Deep
set_option maxRecDepth 100000
theorem Try.cells2 : Try.prog.cellsOf 2 = 1 := by kernel_rfl
theorem Try.cells23 : Try.prog.cellsOf 23 = 1 := by kernel_rfl
theorem Try.cells25 : Try.prog.cellsOf 25 = 4 := by kernel_rfl
theorem Try.fields25 : ∃ f0 f1 f2 f3, Try.prog.underlying 25 = some (.struct #[f0, f1, f2, f3]) ∧ (f0.type = 2 ∧ f0.offset = 0) ∧ (f1.type = 2 ∧ f1.offset = 1) ∧ (f2.type = 23 ∧ f2.offset = 2) ∧ (f3.type = 23 ∧ f3.offset = 3) := ⟨_, _, _, _, Try.underlying25, ⟨rfl, rfl⟩, ⟨rfl, rfl⟩, ⟨rfl, rfl⟩, ⟨rfl, rfl⟩⟩
theorem bulk_pos {H : Type} (d : DataW H) : 1 ≤ Rows.uptoBulk d := by
  cases d with
  | lit l => cases l <;> simp [Rows.uptoBulk]
  | nil => simp [Rows.uptoBulk]
  | ptr d => simp [Rows.uptoBulk]
  | slice elems spare => simp [Rows.uptoBulk]
  | agg parts => simp [Rows.uptoBulk]
  | iface t d => simp [Rows.uptoBulk]
  | map entries => simp [Rows.uptoBulk]
  | held h => simp [Rows.uptoBulk]
theorem bulk_mem {H : Type} : ∀ {l : List (DataW H)} {d : DataW H}, d ∈ l → Rows.uptoBulk d ≤ Rows.uptoBulkAll l
  | a :: r, d, h => by
    simp only [Rows.uptoBulkAll]
    rcases List.mem_cons.1 h with rfl | h
    · omega
    · have := bulk_mem h
      omega
theorem bulk_len {H : Type} : ∀ l : List (DataW H), l.length ≤ Rows.uptoBulkAll l
  | [] => by simp [Rows.uptoBulkAll]
  | a :: r => by
    have h1 := bulk_pos a
    have h2 := bulk_len r
    simp only [Rows.uptoBulkAll, List.length_cons]
    omega
theorem isI_row {W : World} {x : Addr} {len cap : Nat} {zs : List Int} (hl : len ≤ cap) (hm : cap ≤ maxLen) (hz : zs.length = cap)
    (hcell : ∀ i, i < zs.length → W.cell? (x.add i) = some (.int .i64 (zs.getD i 0))) (hw : ∀ n ∈ zs, (Lit.int .i64 n).wf = true) : IsI W (some x) len cap (zs.take len) := by
  refine ⟨by rw [List.length_take]; omega, hl, hm, by simp, fun z hzm => okI (hw z (List.mem_of_mem_take hzm)), fun h0 => ?_⟩
  obtain ⟨b, off, spot⟩ := x
  have hsp : spot = none := by simpa [Addr.add] using World.cell?_spot (hcell 0 (by omega))
  subst hsp
  refine ⟨b, off, rfl, fun i hi => ?_⟩
  have := hcell i (by omega)
  rw [Addr.add_lit] at this
  rw [this, List.getD_eq_getElem?_getD, List.getD_eq_getElem?_getD, List.getElem?_take_of_lt hi]
/-- A slice of numbers that came in. -/
theorem open_i64T {H : Type} {enc : TypeId × Value → H} {W : World} {a : Option Addr} {len cap fuel : Nat} {x : DataW H × List MemPlace}
    (hf : DataW.trod enc Try.prog W 0 (fun _ => true) true fuel 23 [Value.slice a len cap] = some x) : ∃ zs, IsI W a len cap zs ∧ len ≤ Rows.uptoBulk x.1 := by
  rcases open_ints Try.underlying23 Try.underlying2 Try.cells2 hf with ⟨hcs, _⟩ | ⟨y, len', cap', zs, hcs, _, hl, hm, hz, hx, hcell, hw⟩
  · simp at hcs
    obtain ⟨rfl, rfl, rfl⟩ := hcs
    exact ⟨[], isI_nil W, Nat.zero_le _⟩
  · simp at hcs
    obtain ⟨rfl, rfl, rfl⟩ := hcs
    simp only [if_true] at hz
    refine ⟨_, isI_row hl hm hz hcell hw, ?_⟩
    rw [hx]
    have h1 := bulk_len (H := H) (lits .i64 (zs.take len))
    simp only [lits, List.length_map, List.length_take] at h1
    simp only [Rows.uptoBulk, lits]
    omega
/-- A transaction within a row. -/
theorem open_txT {H : Type} {enc : TypeId × Value → H} {W : World} {fuel : Nat} {cs : List Value} {x : DataW H × List MemPlace}
    (hf : DataW.trod enc Try.prog W 0 (fun _ => true) true fuel 25 cs = some x) : ∃ m : Tm, cs = m.cells ∧ m.In W ∧ m.rn ≤ Rows.uptoBulk x.1 ∧ m.wn ≤ Rows.uptoBulk x.1 := by
  obtain ⟨f0, f1, f2, f3, hu, ⟨t0, o0⟩, ⟨t1, o1⟩, ⟨t2, o2⟩, ⟨t3, o3⟩⟩ := Try.fields25
  obtain ⟨ys, k, _, rfl, hcl, hyl, hfl⟩ := DataW.trod_struct hu hf
  have hy4 : ys.length = 4 := hyl
  rw [Try.cells25] at hcl
  obtain ⟨y0, y1, y2, y3, rfl⟩ : ∃ y0 y1 y2 y3, ys = [y0, y1, y2, y3] := by
    match ys, hy4 with
    | [y0, y1, y2, y3], _ => exact ⟨_, _, _, _, rfl⟩
  obtain ⟨c0, c1, c2, c3, rfl⟩ : ∃ c0 c1 c2 c3, cs = [c0, c1, c2, c3] := by
    match cs, hcl with
    | [c0, c1, c2, c3], _ => exact ⟨_, _, _, _, rfl⟩
  have g0 : DataW.trod enc Try.prog W 0 (fun _ => true) true k 2 [c0] = some y0 := by have h := hfl 0 f0 rfl; rw [t0, o0, Try.cells2] at h; exact h
  have g1 : DataW.trod enc Try.prog W 0 (fun _ => true) true k 2 [c1] = some y1 := by have h := hfl 1 f1 rfl; rw [t1, o1, Try.cells2] at h; exact h
  have g2 : DataW.trod enc Try.prog W 0 (fun _ => true) true k 23 [c2] = some y2 := by have h := hfl 2 f2 rfl; rw [t2, o2, Try.cells23] at h; exact h
  have g3 : DataW.trod enc Try.prog W 0 (fun _ => true) true k 23 [c3] = some y3 := by have h := hfl 3 f3 rfl; rw [t3, o3, Try.cells23] at h; exact h
  obtain ⟨n0, e0, _, w0⟩ := DataW.trod_int Try.underlying2 g0
  obtain ⟨n1, e1, _, w1⟩ := DataW.trod_int Try.underlying2 g1
  obtain ⟨ra, rn, rc, e2⟩ := Joins.slice_form Try.underlying23 g2
  obtain ⟨wa, wn, wc, e3⟩ := Joins.slice_form Try.underlying23 g3
  obtain rfl := (List.cons.inj e0).1
  obtain rfl := (List.cons.inj e1).1
  obtain rfl := (List.cons.inj e2).1
  obtain rfl := (List.cons.inj e3).1
  obtain ⟨rs, hR, hrl⟩ := open_i64T g2
  obtain ⟨ws, hW, hwl⟩ := open_i64T g3
  refine ⟨⟨n0, n1, ra, rn, rc, wa, wn, wc, rs, ws⟩, rfl, ⟨okI w0, okI w1, hR.st, hW.st⟩, ?_, ?_⟩
  · simp only [List.map_cons, Rows.uptoBulk, Rows.uptoBulkAll]
    omega
  · simp only [List.map_cons, Rows.uptoBulk, Rows.uptoBulkAll]
    omega
/-- A slice of transactions that came in. -/
theorem open_txs {H : Type} {enc : TypeId × Value → H} {W : World} {a : Option Addr} {len cap fuel : Nat} {x : DataW H × List MemPlace}
    (hf : DataW.trod enc Try.prog W 0 (fun _ => true) true fuel 22 [Value.slice a len cap] = some x) (hs : Rows.uptoBulk x.1 ≤ 1048576) : ∃ ms, IsTs W a len cap ms ∧ len ≤ Rows.uptoBulk x.1 ∧ Short ms := by
  rcases open_slice Try.underlying22 hf with ⟨hcs, _⟩ | ⟨ad, len', cap', m, n, D, Pl, hcs, _, hl, hm, hmm, rfl, hel⟩
  · simp at hcs
    obtain ⟨rfl, rfl, rfl⟩ := hcs
    exact ⟨[], ⟨rfl, Nat.le_refl _, by decide, fun _ => rfl, fun h => absurd h (by decide), by simp⟩, Nat.zero_le _, fun m hm => by cases hm⟩
  · simp at hcs
    obtain ⟨rfl, rfl, rfl⟩ := hcs
    simp only [if_true] at hmm
    subst hmm
    have key : ∀ i, i < len → ∃ y : Tm, (W.cell? (ad.add (i * 4)) = some (.int .i64 y.base) ∧ W.cell? (ad.add (i * 4 + 1)) = some (.int .i64 y.com) ∧ W.cell? (ad.add (i * 4 + 2)) = some (.slice y.ra y.rn y.rc) ∧ W.cell? (ad.add (i * 4 + 3)) = some (.slice y.wa y.wn y.wc)) ∧ y.In W ∧ y.rn ≤ 1048576 ∧ y.wn ≤ 1048576 := by
      intro i hi
      obtain ⟨cs', h1, h2⟩ := hel i (by omega)
      rw [Try.cells25] at h1
      obtain ⟨_, hcl, hcell⟩ := World.cells?_some h1
      obtain ⟨y, rfl, hin, hr, hw⟩ := open_txT h2
      have hD : Rows.uptoBulk (D i) ≤ 1048576 := by
        have h3 := bulk_mem (List.mem_map.2 ⟨i, List.mem_range.2 hi, rfl⟩ : D i ∈ (List.range len).map D)
        simp only [Rows.uptoBulk] at hs
        omega
      dsimp only at hr hw
      have q0 := hcell 0 (by omega)
      have q1 := hcell 1 (by omega)
      have q2 := hcell 2 (by omega)
      have q3 := hcell 3 (by omega)
      rw [add_add] at q0 q1 q2 q3
      exact ⟨y, ⟨q0, q1, q2, q3⟩, hin, by omega, by omega⟩
    obtain ⟨f, hf'⟩ := choose_lt key
    have hlen : len ≤ Rows.uptoBulk (DataW.slice ((List.range len).map D) ((List.range (m - len)).map fun i => D (len + i))) := by
      have h1 := bulk_len ((List.range len).map D)
      simp only [List.length_map, List.length_range] at h1
      simp only [Rows.uptoBulk]
      omega
    refine ⟨(List.range len).map f, ⟨by simp, hl, hm, by simp, fun h0 => ?_, fun z hz => ?_⟩, hlen, fun z hz => ?_⟩
    · obtain ⟨b, off, spot⟩ := ad
      have hc : W.cell? ((⟨b, off, spot⟩ : Addr).add (0 * 4)) = some (.int .i64 (f 0).base) := (hf' 0 h0).1.1
      have hsp : spot = none := by simpa [Addr.add] using World.cell?_spot hc
      subst hsp
      refine ⟨b, off, rfl, fun i x hx => ?_⟩
      have hi : i < len := by
        have := (List.getElem?_eq_some_iff.1 hx).1
        simpa using this
      have ex : f i = x := by
        rw [List.getElem?_map, List.getElem?_range hi] at hx
        exact Option.some.inj hx
      subst ex
      obtain ⟨⟨q0, q1, q2, q3⟩, _⟩ := hf' i hi
      rw [Addr.add_lit] at q0 q1 q2 q3
      exact ⟨q0, by rw [Nat.add_assoc]; exact q1, by rw [Nat.add_assoc]; exact q2, by rw [Nat.add_assoc]; exact q3⟩
    · obtain ⟨i, hi, rfl⟩ := List.mem_map.1 hz
      exact (hf' i (List.mem_range.1 hi)).2.1
    · obtain ⟨i, hi, rfl⟩ := List.mem_map.1 hz
      exact (hf' i (List.mem_range.1 hi)).2.2
/-- A transaction that came in. -/
theorem open_tx {H : Type} {enc : TypeId × Value → H} {W : World} {r : Reach} {b0 : Nat} {v : Value} {d : DataW H} {p : List MemPlace}
    (hv : Value.okWide Try.prog W r b0 25 v) (h : DataW.Trod enc Try.prog W 0 (fun _ => true) true 25 v d p) :
    ∃ m : Tm, v = .agg #[.int .i64 m.base, .int .i64 m.com, .slice m.ra m.rn m.rc, .slice m.wa m.wn m.wc] ∧ m.In W ∧ m.rn ≤ Rows.uptoBulk d ∧ m.wn ≤ Rows.uptoBulk d := by
  obtain ⟨cs, rfl, _⟩ := okWide_struct Try.underlying25 hv
  obtain ⟨fuel, hf⟩ := h
  obtain ⟨m, hc, hin, hr, hw⟩ := open_txT hf
  refine ⟨m, ?_, hin, hr, hw⟩
  congr 1
  apply Array.ext'
  simpa [Value.cells, Tm.cells] using hc
end Go.Proofs.Ytigmpmichhghdaa
