/- From a reading of a number that came in (a struct of a bool and a slice of bytes) to what the walks ask of it. -/
import Derived.Test.YtgammgdckneoiacDoorIsB
import Derived.ProofKit
import Derived.OpenShut
import Derived.SizedLaws
import Derived.Lib.SmallJoins
namespace Go.Proofs.YtgammgdckneoiacDoor
open Go.ChangeShapes Go.WideShapes Go.ChangeAt Go.RowKit

theorem isB_nil (w : World) : IsB w none 0 0 [] := ⟨rfl, Nat.le_refl _, by decide, fun _ => rfl, by simp, fun h => absurd h (by decide)⟩

theorem isB_of_row {w : World} {x : Addr} {len cap : Nat} {zs : List Int} (hl : len ≤ cap) (hm : cap ≤ maxLen) (hz : zs.length = cap)
    (hcell : ∀ i, i < zs.length → w.cell? (x.add i) = some (.int .u8 (zs.getD i 0))) (hwz : ∀ n ∈ zs, (Lit.int .u8 n).wf = true) : IsB w (some x) len cap (zs.take len) := by
  refine ⟨by simp; omega, hl, hm, by simp, fun y hy => ?_, fun h0 => ?_⟩
  · have := bounds_u8 (hwz y (List.mem_of_mem_take hy))
    omega
  · obtain ⟨b, off, spot⟩ := x
    have hc := hcell 0 (by omega)
    have hspot : spot = none := by simpa [Addr.add] using World.cell?_spot hc
    subst hspot
    refine ⟨b, off, rfl, fun i hi => ?_⟩
    have := hcell i (by omega)
    rw [show (⟨b, off, none⟩ : Addr).add i = ⟨b, off + i, none⟩ by simp [Addr.add]] at this
    rw [this]
    simp [hi]

theorem Tryd.bytes5 : Tryd.prog.bytesOf 5 = 1 := by kernel_rfl
theorem Tryd.cells24 : Tryd.prog.cellsOf 24 = 2 := by kernel_rfl

/-- A slice of bytes that came in: what it holds, and that it is within the reach. -/
theorem open_bytes {H : Type} {enc : TypeId × Value → H} {W : World} {a : Option Addr} {len cap fuel : Nat} {d : DataW H} {p : List MemPlace}
    (hf : DataW.trod enc Tryd.prog W 0 (fun _ => true) true fuel 22 [Value.slice a len cap] = some (d, p))
    (hs : ∀ elems spare, d = .slice elems spare → (elems.length + spare.length) * Tryd.prog.bytesOf 5 ≤ reachBytes) :
    ∃ xs, IsB W a len cap xs ∧ cap ≤ 140737488351232 := by
  rcases open_ints Tryd.underlying22 Tryd.underlying5 (by kernel_rfl) hf with ⟨hcs, _⟩ | ⟨x, l, c, zs, hcs, _, hl, hm, hz, hx, hcell, hwz⟩
  · simp at hcs
    obtain ⟨rfl, rfl, rfl⟩ := hcs
    exact ⟨[], isB_nil W, by decide⟩
  · simp at hcs
    obtain ⟨rfl, rfl, rfl⟩ := hcs
    have hz' : zs.length = cap := by simpa using hz
    refine ⟨_, isB_of_row hl hm hz' hcell hwz, ?_⟩
    have := hs _ _ (Prod.mk.inj hx).1
    rw [Tryd.bytes5] at this
    simp only [lits, List.length_map, List.length_take, List.length_drop, reachBytes] at this
    omega

set_option maxRecDepth 100000 in
/-- A number that came in. -/
theorem open_num {H : Type} {enc : TypeId × Value → H} {W : World} {r : Reach} {b0 : Nat} {v : Value} {d : DataW H} {p : List MemPlace} {ts : List TypeId} {ds : List (DataW H)} {j : Nat}
    (hv : Value.okWide Tryd.prog W r b0 24 v) (h : DataW.Trod enc Tryd.prog W 0 (fun _ => true) true 24 v d p)
    (hsz : (DataW.weightsEach Tryd.prog ts ds).all (· ≤ reachBytes) = true) (ht : ts[j]? = some 24) (hd : ds[j]? = some d) :
    ∃ n a len cap xs, v = .agg #[.bool n, .slice a len cap] ∧ IsB W a len cap xs ∧ cap ≤ 140737488351232 := by
  obtain ⟨v0, v1, y0, y1, m, rfl, rfl, rfl, h0, h1⟩ := Joins.open_agg2 Tryd.underlying24 (by kernel_rfl) Tryd.cells24 hv h
  obtain ⟨n, hn, hy0⟩ := DataW.trod_bool Tryd.underlying4 h0
  obtain ⟨a, len, cap, hs⟩ := Joins.slice_form Tryd.underlying22 h1
  obtain rfl := (List.cons.inj hn).1
  obtain rfl := (List.cons.inj hs).1
  obtain ⟨xs, hB, hc⟩ := open_bytes h1 (fun elems spare he => by
    have hw := List.all_eq_true.1 hsz _ (DataW.weights_mem_each ht hd ((elems.length + spare.length) * Tryd.prog.bytesOf 5) (by
      simp [DataW.weights, Tryd.underlying24, DataW.weightsEach, he, Tryd.underlying22]))
    simpa using hw)
  exact ⟨n, a, len, cap, xs, rfl, hB, hc⟩
end Go.Proofs.YtgammgdckneoiacDoor
