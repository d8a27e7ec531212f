/- The statements' own sums, products and likenesses, each with a name for what comes of it. -/
import Derived.Test.YtgammgdckneoiacDoorBag
namespace Go.Proofs.YtgammgdckneoiacDoor
open Go.RowKit

theorem lsum_to {a1 a2 : Option Addr} {l1 l2 c1 c2 : Nat} {x y z : Int} {w : World} (hz : Hid (x + y = z)) (h1 : IsB w a1 l1 c1 (cM x)) (h2 : IsB w a2 l2 c2 (cM y)) (f1 : Fit 128 x) (f2 : Fit 128 y) (f : Fit 128 z) :
    Calls Tryd.prog 9 #[.agg #[.bool (cB x), .slice a1 l1 c1], .agg #[.bool (cB y), .slice a2 l2 c2]] w fun e w' => ∃ a l c, e = .returned (.tuple #[.agg #[.bool (cB z), .slice a l c], .bool true]) ∧ IsB w' a l c (cM z) ∧ Below w.heap.size w w' := by
  have e := hz.out
  subst e
  refine (lsum_any h1 h2 f1 f2 f).mono ?_
  rintro e w' ⟨a, c, rfl, hI, hb⟩
  exact ⟨a, _, c, rfl, hI, hb⟩
theorem lprod_to {a1 a2 : Option Addr} {l1 l2 c1 c2 : Nat} {x y z : Int} {w : World} (hz : Hid (x * y = z)) (h1 : IsB w a1 l1 c1 (cM x)) (h2 : IsB w a2 l2 c2 (cM y)) (f1 : Fit 128 x) (f2 : Fit 128 y) (f : Fit 128 z) :
    Calls Tryd.prog 10 #[.agg #[.bool (cB x), .slice a1 l1 c1], .agg #[.bool (cB y), .slice a2 l2 c2]] w fun e w' => ∃ a l c, e = .returned (.tuple #[.agg #[.bool (cB z), .slice a l c], .bool true]) ∧ IsB w' a l c (cM z) ∧ Below w.heap.size w w' := by
  have e := hz.out
  subst e
  refine (lprod_any h1 h2 f1 f2 f).mono ?_
  rintro e w' ⟨a, c, rfl, hI, hb⟩
  exact ⟨a, _, c, rfl, hI, hb⟩
theorem lsub_to {a1 a2 : Option Addr} {l1 l2 c1 c2 : Nat} {x y z : Int} {w : World} (hz : Hid (x - y = z)) (h1 : IsB w a1 l1 c1 (cM x)) (h2 : IsB w a2 l2 c2 (cM y)) (f1 : Fit 128 x) (f2 : Fit 128 y) (f : Fit 128 z) :
    Calls Tryd.prog 11 #[.agg #[.bool (cB x), .slice a1 l1 c1], .agg #[.bool (cB y), .slice a2 l2 c2]] w fun e w' => ∃ a l c, e = .returned (.tuple #[.agg #[.bool (cB z), .slice a l c], .int .i64 0]) ∧ IsB w' a l c (cM z) ∧ Below w.heap.size w w' := by
  have e := hz.out
  subst e
  obtain ⟨e1, e2, e3⟩ := sub_can f1 f2 f
  have c := sub_any (cB x) (cB y) h1 h2
  rw [e1, e2, e3] at c
  refine c.mono ?_
  rintro e w' ⟨v, rfl, hO, hb⟩
  obtain ⟨a, k, rfl, hI⟩ := hO.2
  exact ⟨a, _, k, rfl, hI, hb⟩
theorem lsame_true {a1 a2 : Option Addr} {l1 l2 c1 c2 : Nat} {x y : Int} {w : World} (hxy : x = y) (h1 : IsB w a1 l1 c1 (cM x)) (h2 : IsB w a2 l2 c2 (cM y)) :
    Calls Tryd.prog 12 #[.agg #[.bool (cB x), .slice a1 l1 c1], .agg #[.bool (cB y), .slice a2 l2 c2]] w fun e w' => e = .returned (.bool true) ∧ Below w.heap.size w w' := by
  have := lsame_any h1 h2
  rwa [decide_eq_true hxy] at this
theorem lcmp_to {a1 a2 : Option Addr} {l1 l2 c1 c2 : Nat} {x y n : Int} {w : World} (hn : Hid (sgnZ x y = n)) (h1 : IsB w a1 l1 c1 (cM x)) (h2 : IsB w a2 l2 c2 (cM y)) (f1 : Fit 128 x) (f2 : Fit 128 y) :
    Calls Tryd.prog 17 #[.agg #[.bool (cB x), .slice a1 l1 c1], .agg #[.bool (cB y), .slice a2 l2 c2]] w fun e w' => e = .returned (.int .i64 n) ∧ Below w.heap.size w w' := by
  have e := hn.out
  subst e
  have c := cmp_any (cB x) (cB y) h1 h2
  rwa [cmp_can f1 f2] at c
theorem small_true {a : Option Addr} {l c : Nat} {x : Int} {w : World} (f : Fit 128 x) (h : IsB w a l c (cM x)) (hl : l ≤ 40) :
    Calls Tryd.prog 6 #[.agg #[.bool (cB x), .slice a l c]] w fun e w' => e = .returned (.bool true) ∧ Below w.heap.size w w' := by
  have := small_any (cB x) h
  rwa [right_can f, decide_eq_true hl] at this
theorem small_to {a : Option Addr} {l c : Nat} {xs : List Int} {b : Bool} {w : World} (neg : Bool) (h : IsB w a l c xs) (hb : (rightB neg xs && decide (l ≤ 40)) = b) :
    Calls Tryd.prog 6 #[.agg #[.bool neg, .slice a l c]] w fun e w' => e = .returned (.bool b) ∧ Below w.heap.size w w' := by
  have := small_any neg h
  rwa [hb] at this
theorem lgiven_any {a : Option Addr} {len cap : Nat} {xs : List Int} {w : World} (neg : Bool) (h : IsB w a len cap xs) (hl : len ≤ 140737488351232) :
    Calls Tryd.prog 8 #[.agg #[.bool neg, .slice a len cap]] w fun e w' => ∃ a' c', e = .returned (.agg #[.bool neg, .slice a' len c']) ∧ IsB w' a' len c' xs ∧ Below w.heap.size w w' := by
  refine (given_any neg h hl).mono ?_
  rintro e w' ⟨g, rfl, hI, _, hb⟩
  exact ⟨_, _, rfl, hI.front (ys := pad) h.size, hb⟩
end Go.Proofs.YtgammgdckneoiacDoor
