/- From a reading of a number that came in to what the walks ask of it. -/
import Derived.Test.YtkpngpongbpfgaaIsB
import Derived.ProofKit
import Derived.OpenShut
import Derived.SizedLaws
import Derived.Lib.SmallJoins
import Derived.Deep.Slices
import Derived.Laws.Cover2
namespace Go.Proofs.Ytkpngpongbpfgaa
open Go.ChangeShapes Go.WideShapes Go.ChangeAt Go.RowKit Go.Deep
set_option maxRecDepth 100000
theorem isB_nilO (w : World) : IsB w none 0 0 [] := ⟨rfl, Nat.le_refl _, by decide, fun _ => rfl, by simp, fun h => absurd h (by decide)⟩
theorem isB_of_row {w : World} {x : Addr} {len cap : Nat} {zs : List Int} (hl : len ≤ cap) (hm : cap ≤ maxLen) (hz : zs.length = cap)
    (hcell : ∀ i, i < zs.length → w.cell? (x.add i) = some (.int .u8 (zs.getD i 0))) (hwz : ∀ n ∈ zs, (Lit.int .u8 n).wf = true) : IsB w (some x) len cap (zs.take len) := by
  refine ⟨by simp; omega, hl, hm, by simp, fun y hy => ?_, fun h0 => ?_⟩
  · have := bounds_u8 (hwz y (List.mem_of_mem_take hy))
    omega
  · obtain ⟨b, off, spot⟩ := x
    have hc := hcell 0 (by omega)
    have hspot : spot = none := by simpa [Addr.add] using World.cell?_spot hc
    subst hspot
    refine ⟨b, off, rfl, fun i hi => ?_⟩
    have := hcell i (by omega)
    rw [show (⟨b, off, none⟩ : Addr).add i = ⟨b, off + i, none⟩ by simp [Addr.add]] at this
    rw [this]
    simp [hi]
theorem Try.bytes5 : Try.prog.bytesOf 5 = 1 := by kernel_rfl
theorem Try.cells27 : Try.prog.cellsOf 27 = 5 := by kernel_rfl
theorem Try.cells24 : Try.prog.cellsOf 24 = 2 := by kernel_rfl
theorem Try.cells4 : Try.prog.cellsOf 4 = 1 := by kernel_rfl
theorem Try.cells22 : Try.prog.cellsOf 22 = 1 := by kernel_rfl
theorem Try.cells25 : Try.prog.cellsOf 25 = 1 := by kernel_rfl
/-- A slice of bytes that came in: what it holds, and that it is within the reach. -/
theorem open_bytes {H : Type} {enc : TypeId × Value → H} {W : World} {a : Option Addr} {len cap fuel : Nat} {d : DataW H} {p : List MemPlace}
    (hf : DataW.trod enc Try.prog W 0 (fun _ => true) true fuel 22 [Value.slice a len cap] = some (d, p))
    (hs : ∀ elems spare, d = .slice elems spare → (elems.length + spare.length) * Try.prog.bytesOf 5 ≤ reachBytes) :
    ∃ xs, IsB W a len cap xs ∧ cap ≤ 140737488351232 := by
  rcases open_ints Try.underlying22 Try.underlying5 (by kernel_rfl) hf with ⟨hcs, _⟩ | ⟨x, l, c, zs, hcs, _, hl, hm, hz, hx, hcell, hwz⟩
  · simp at hcs
    obtain ⟨rfl, rfl, rfl⟩ := hcs
    exact ⟨[], isB_nilO W, by decide⟩
  · simp at hcs
    obtain ⟨rfl, rfl, rfl⟩ := hcs
    have hz' : zs.length = cap := by simpa using hz
    refine ⟨_, isB_of_row hl hm hz' hcell hwz, ?_⟩
    have := hs _ _ (Prod.mk.inj hx).1
    rw [Try.bytes5] at this
    simp only [lits, List.length_map, List.length_take, List.length_drop, reachBytes] at this
    omega
theorem Try.fields27 : ∃ f0 f1 f2 f3, Try.prog.underlying 27 = some (.struct #[f0, f1, f2, f3]) ∧ (f0.type = 4 ∧ f0.offset = 0) ∧ (f1.type = 24 ∧ f1.offset = 1) ∧ (f2.type = 25 ∧ f2.offset = 3) ∧ (f3.type = 25 ∧ f3.offset = 4) := ⟨_, _, _, _, Try.underlying27, ⟨rfl, rfl⟩, ⟨rfl, rfl⟩, ⟨rfl, rfl⟩, ⟨rfl, rfl⟩⟩
theorem Try.fields24 : ∃ f0 f1, Try.prog.underlying 24 = some (.struct #[f0, f1]) ∧ (f0.type = 4 ∧ f0.offset = 0) ∧ (f1.type = 22 ∧ f1.offset = 1) := ⟨_, _, Try.underlying24, ⟨rfl, rfl⟩, ⟨rfl, rfl⟩⟩
theorem slice_of_trod {H : Type} {enc : TypeId × Value → H} {W : World} {fuel t e : Nat} {cs : List Value} {x : DataW H × List MemPlace} (hu : Try.prog.underlying t = some (.slice e)) (h : DataW.trod enc Try.prog W 0 (fun _ => true) true fuel t cs = some x) : ∃ a n c, cs = [.slice a n c] := by
  rcases open_slice hu h with ⟨h0, _⟩ | ⟨a, len, cap, _, _, _, _, h0, _⟩
  · exact ⟨_, _, _, h0⟩
  · exact ⟨_, _, _, h0⟩
theorem float_of_trod {H : Type} {enc : TypeId × Value → H} {W : World} {fuel t : Nat} {cs : List Value} {x : DataW H × List MemPlace} (hu : Try.prog.underlying t = some (.float .f64)) (h : DataW.trod enc Try.prog W 0 (fun _ => true) true fuel t cs = some x) : ∃ b, cs = [.float .f64 b] ∧ (Lit.float .f64 b).wf = true := by
  cases fuel with
  | zero => simp [DataW.trod] at h
  | succ n =>
    unfold DataW.trod at h
    rw [hu] at h
    split at h <;> simp_all
/-- A number that came in. -/
theorem open_num {H : Type} {enc : TypeId × Value → H} {W : World} {r : Reach} {b0 : Nat} {v : Value} {d : DataW H} {p : List MemPlace} {ts : List TypeId} {ds : List (DataW H)} {j : Nat}
    (hv : Value.okWide Try.prog W r b0 27 v) (h : DataW.Trod enc Try.prog W 0 (fun _ => true) true 27 v d p)
    (hsz : (DataW.weightsEach Try.prog ts ds).all (· ≤ reachBytes) = true) (ht : ts[j]? = some 27) (hd : ds[j]? = some d) :
    ∃ pp ng a n cap xs x y, v = .agg #[.bool pp, .bool ng, .slice a n cap, .float .f64 x, .float .f64 y] ∧ IsB W a n cap xs ∧ cap ≤ 140737488351232 ∧ x < 18446744073709551616 ∧ y < 18446744073709551616 := by
  obtain ⟨f0, f1, f2, f3, hu, ⟨t0, o0⟩, ⟨t1, o1⟩, ⟨t2, o2⟩, ⟨t3, o3⟩⟩ := Try.fields27
  obtain ⟨cs, rfl, hcs⟩ := okWide_struct hu hv
  rw [Try.cells27] at hcs
  obtain ⟨l⟩ := cs
  obtain ⟨c0, c1, c2, c3, c4, rfl⟩ : ∃ c0 c1 c2 c3 c4, l = [c0, c1, c2, c3, c4] := by
    match l, hcs with
    | [c0, c1, c2, c3, c4], _ => exact ⟨_, _, _, _, _, rfl⟩
  obtain ⟨fuel, hf⟩ := h
  have hf' : DataW.trod enc Try.prog W 0 (fun _ => true) true fuel 27 [c0, c1, c2, c3, c4] = some (d, p) := by simpa [Value.cells] using hf
  obtain ⟨ys, k, _, hx, hcl, hyl, hfl⟩ := DataW.trod_struct hu hf'
  have hy4 : ys.length = 4 := hyl
  obtain ⟨y0, y1, y2, y3, rfl⟩ : ∃ y0 y1 y2 y3, ys = [y0, y1, y2, y3] := by
    match ys, hy4 with
    | [y0, y1, y2, y3], _ => exact ⟨_, _, _, _, rfl⟩
  have g0 : DataW.trod enc Try.prog W 0 (fun _ => true) true k 4 [c0] = some y0 := by have h := hfl 0 f0 rfl; rw [t0, o0, Try.cells4] at h; exact h
  have g1 : DataW.trod enc Try.prog W 0 (fun _ => true) true k 24 [c1, c2] = some y1 := by have h := hfl 1 f1 rfl; rw [t1, o1, Try.cells24] at h; exact h
  have g2 : DataW.trod enc Try.prog W 0 (fun _ => true) true k 25 [c3] = some y2 := by have h := hfl 2 f2 rfl; rw [t2, o2, Try.cells25] at h; exact h
  have g3 : DataW.trod enc Try.prog W 0 (fun _ => true) true k 25 [c4] = some y3 := by have h := hfl 3 f3 rfl; rw [t3, o3, Try.cells25] at h; exact h
  obtain ⟨q0, q1, hu2, ⟨s0, m0⟩, ⟨s1, m1⟩⟩ := Try.fields24
  obtain ⟨us, k2, _, hx2, _, hul, hfl2⟩ := DataW.trod_struct hu2 g1
  have hu2l : us.length = 2 := hul
  obtain ⟨u0, u1, rfl⟩ : ∃ u0 u1, us = [u0, u1] := by
    match us, hu2l with
    | [u0, u1], _ => exact ⟨_, _, rfl⟩
  have e0 : DataW.trod enc Try.prog W 0 (fun _ => true) true k2 4 [c1] = some u0 := by have h := hfl2 0 q0 rfl; rw [s0, m0, Try.cells4] at h; exact h
  have e1 : DataW.trod enc Try.prog W 0 (fun _ => true) true k2 22 [c2] = some u1 := by have h := hfl2 1 q1 rfl; rw [s1, m1, Try.cells22] at h; exact h
  obtain ⟨pp, w0, _⟩ := DataW.trod_bool Try.underlying4 g0
  obtain ⟨ng, w1, _⟩ := DataW.trod_bool Try.underlying4 e0
  obtain ⟨sa, sn, sc, w2⟩ := slice_of_trod Try.underlying22 e1
  obtain ⟨x, w3, wx⟩ := float_of_trod Try.underlying25 g2
  obtain ⟨y, w4, wy⟩ := float_of_trod Try.underlying25 g3
  obtain rfl := (List.cons.inj w0).1
  obtain rfl := (List.cons.inj w1).1
  obtain rfl := (List.cons.inj w2).1
  obtain rfl := (List.cons.inj w3).1
  obtain rfl := (List.cons.inj w4).1
  obtain rfl : d = .agg [y0.1, y1.1, y2.1, y3.1] := (Prod.mk.inj hx).1
  have hy1 : y1.1 = .agg [u0.1, u1.1] := by rw [hx2]; rfl
  obtain ⟨xs, hB, hc⟩ := open_bytes (d := u1.1) (p := u1.2) e1 (fun elems spare he => by
    have hw := List.all_eq_true.1 hsz _ (DataW.weights_mem_each ht hd ((elems.length + spare.length) * Try.prog.bytesOf 5) (by
      have a1 : (elems.length + spare.length) * Try.prog.bytesOf 5 ∈ u1.1.weights Try.prog 22 := by simp [he, DataW.weights, Try.underlying22]
      have a2 : (elems.length + spare.length) * Try.prog.bytesOf 5 ∈ y1.1.weights Try.prog 24 := by
        rw [hy1]
        have e : (DataW.agg [u0.1, u1.1]).weights Try.prog 24 = DataW.weightsEach Try.prog [q0.type, q1.type] [u0.1, u1.1] := by simp only [DataW.weights, hu2]; rfl
        rw [e]
        exact DataW.weights_mem_each (j := 1) rfl rfl _ (by rw [s1]; exact a1)
      have e : (DataW.agg [y0.1, y1.1, y2.1, y3.1]).weights Try.prog 27 = DataW.weightsEach Try.prog [f0.type, f1.type, f2.type, f3.type] [y0.1, y1.1, y2.1, y3.1] := by simp only [DataW.weights, hu]; rfl
      rw [e]
      exact DataW.weights_mem_each (j := 1) rfl rfl _ (by rw [t1]; exact a2)))
    simpa using hw)
  refine ⟨pp, ng, sa, sn, sc, xs, x, y, rfl, hB, hc, ?_, ?_⟩
  · simpa [Lit.wf] using wx
  · simpa [Lit.wf] using wy
end Go.Proofs.Ytkpngpongbpfgaa
