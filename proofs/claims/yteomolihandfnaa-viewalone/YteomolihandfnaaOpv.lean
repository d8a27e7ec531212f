/- Parameters opened: an object, a value. -/
import Derived.Test.YteomolihandfnaaVkn
import Derived.ProofKit
import Derived.OpenShut
import Derived.SizedLaws
import Derived.Lib.SmallJoins
import Derived.Deep.Slices
namespace Go.Proofs.Yteomolihandfnaa
open Go.ChangeShapes Go.WideShapes Go.ChangeAt Go.RowKit
set_option maxRecDepth 100000
/-- An object that came in. -/
theorem open_obj {H : Type} {enc : TypeId × Value → H} {W : World} {r : Reach} {b0 : Nat} {v : Value} {d : DataW H} {p : List MemPlace} {ts : List TypeId} {ds : List (DataW H)} {j : Nat}
    (hv : Value.okWide Try.prog W r b0 27 v) (h : DataW.Trod enc Try.prog W 0 (fun _ => true) true 27 v d p)
    (hsz : (DataW.weightsEach Try.prog ts ds).all (· ≤ reachBytes) = true) (ht : ts[j]? = some 27) (hd : ds[j]? = some d) :
    ∃ c sa sn sc ba bn bc vs bs, v = .agg #[.int .i64 c, .slice sa sn sc, .slice ba bn bc] ∧ IsO W c sa sn sc ba bn bc vs bs ∧ sn ≤ 8796093021952 ∧ bn ≤ 140737488351232 := by
  obtain ⟨v0, v1, v2, y0, y1, y2, m, rfl, rfl, rfl, h0, h1, h2⟩ := Joins.open_agg3 Try.underlying27 (by kernel_rfl) Try.cells27 hv h
  obtain ⟨n, hn, hy0, wn⟩ := DataW.trod_int Try.underlying2 h0
  obtain ⟨sa, sn, sc, hs1⟩ := Joins.slice_form Try.underlying24 h1
  obtain ⟨ba, bn, bc, hs2⟩ := Joins.slice_form Try.underlying25 h2
  obtain rfl := (List.cons.inj hn).1
  obtain rfl := (List.cons.inj hs1).1
  obtain rfl := (List.cons.inj hs2).1
  obtain ⟨vs, hV, hcv⟩ := open_vals (d := y1.1) (p := y1.2) h1 (fun elems spare he => by
    have hw := List.all_eq_true.1 hsz _ (DataW.weights_mem_each ht hd ((elems.length + spare.length) * Try.prog.bytesOf 23) (by
      simp [DataW.weights, Try.underlying27, DataW.weightsEach, he, Try.underlying24]))
    simpa using hw)
  obtain ⟨bs, hB, hcb⟩ := open_bytes (d := y2.1) (p := y2.2) h2 (fun elems spare he => by
    have hw := List.all_eq_true.1 hsz _ (DataW.weights_mem_each ht hd ((elems.length + spare.length) * Try.prog.bytesOf 5) (by
      simp [DataW.weights, Try.underlying27, DataW.weightsEach, he, Try.underlying25]))
    simpa using hw)
  exact ⟨n, sa, sn, sc, ba, bn, bc, vs, bs, rfl, ⟨okI wn, hV, hB⟩, by have := hV.room; omega, by have := hB.room; omega⟩
set_option maxRecDepth 100000
theorem open_val {H : Type} {enc : TypeId × Value → H} {W : World} {r : Reach} {b0 : Nat} {v : Value} {d : DataW H} {p : List MemPlace}
    (hv : Value.okWide Try.prog W r b0 23 v) (h : DataW.Trod enc Try.prog W 0 (fun _ => true) true 23 v d p) :
    ∃ x y, v = .agg #[.int .i64 x, .int .i64 y] ∧ (-9223372036854775808 ≤ x ∧ x ≤ 9223372036854775807) ∧ (-9223372036854775808 ≤ y ∧ y ≤ 9223372036854775807) := by
  obtain ⟨v0, v1, y0, y1, m, rfl, rfl, rfl, h0, h1⟩ := Joins.open_agg2 Try.underlying23 (by kernel_rfl) Try.cells23 hv h
  obtain ⟨n, hn, _, wn⟩ := DataW.trod_int Try.underlying3 h0
  obtain ⟨k, hk, _, wk⟩ := DataW.trod_int Try.underlying2 h1
  obtain rfl := (List.cons.inj hn).1
  obtain rfl := (List.cons.inj hk).1
  exact ⟨n, k, rfl, okI wn, okI wk⟩
end Go.Proofs.Yteomolihandfnaa
