/- A value that came in. -/
import Derived.Test.YtjfaflmmanjjbaaOpenO
namespace Go.Proofs.Ytjfaflmmanjjbaa
open Go.ChangeShapes Go.WideShapes Go.ChangeAt Go.RowKit Go.Deep
set_option maxRecDepth 100000
theorem open_val {H : Type} {enc : TypeId × Value → H} {W : World} {r : Reach} {b0 : Nat} {v : Value} {d : DataW H} {p : List MemPlace}
    (hv : Value.okWide Try.prog W r b0 23 v) (h : DataW.Trod enc Try.prog W 0 (fun _ => true) true 23 v d p) :
    ∃ x y, v = .agg #[.int .i64 x, .int .i64 y] ∧ (-9223372036854775808 ≤ x ∧ x ≤ 9223372036854775807) ∧ (-9223372036854775808 ≤ y ∧ y ≤ 9223372036854775807) := by
  obtain ⟨v0, v1, y0, y1, m, rfl, rfl, rfl, h0, h1⟩ := Joins.open_agg2 Try.underlying23 (by kernel_rfl) Try.cells23 hv h
  obtain ⟨n, hn, _, wn⟩ := DataW.trod_int Try.underlying3 h0
  obtain ⟨k, hk, _, wk⟩ := DataW.trod_int Try.underlying2 h1
  obtain rfl := (List.cons.inj hn).1
  obtain rfl := (List.cons.inj hk).1
  exact ⟨n, k, rfl, okI wn, okI wk⟩
end Go.Proofs.Ytjfaflmmanjjbaa
