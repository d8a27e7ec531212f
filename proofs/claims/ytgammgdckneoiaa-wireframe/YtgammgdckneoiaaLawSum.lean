/- The walk of lapidarylaw01.WireSum. -/
import Derived.Test.YtgammgdckneoiaaLent
import Derived.Test.YtgammgdckneoiaaOpen
namespace Go.Proofs.Ytgammgdckneoiaa
open Go.RowKit

theorem below_size {B : Nat} {w w1 w2 : World} (h1 : Below B w w1) (hB : B ≤ w.heap.size) (h2 : Below w1.heap.size w1 w2) : Below B w w2 :=
  h1.trans (h2.mono (Nat.le_trans hB h1.size))

set_option maxHeartbeats 1000000 in
theorem wireSum_walk {a : Option Addr} {len cap : Nat} {xs : List Int} {w : World} (h : IsB w a len cap xs) (hl : cap ≤ 140737488351232) :
    Calls Try.prog 7 #[.slice a len cap] w fun e w' => e = .returned (.bool true) ∧ Below w.heap.size w w' := by
  have hl' : len ≤ 140737488351232 := Nat.le_trans h.room hl
  go_enter Try.func7, Try.ntmps7
  go_wp2_with fail
  refine (lent_any h hl').mono ?_
  rintro e w1 ⟨rfl, hB, hb1⟩
  have hf := hB.front (ys := pad) h.size
  have h1 := h.below hb1
  go_wp2_with fail
  refine (sum_any hf).mono ?_
  rintro e w2 ⟨rfl, rfl⟩
  go_wp2_with fail
  refine (rsum_any h1).mono ?_
  rintro e w2 ⟨rfl, rfl⟩
  go_wp2_with fail
  refine (kept_true hB h1 hl').mono ?_
  rintro e w2 ⟨rfl, k, rfl⟩
  have hb2 := below_drewN hb1 k
  clear hB hf h1 hb1
  go_wp2_with fail
  refine (known_any _).mono ?_
  rintro e w3 ⟨rfl, hb3⟩
  go_wp2
  go_ret
  exact ⟨rfl, below_size hb2 (Nat.le_refl _) hb3⟩
end Go.Proofs.Ytgammgdckneoiaa
