/- Two lists of numbers that are alike. -/
import Derived.Test.YtajdelinfkodbaaOop
namespace Go.Proofs.Ytajdelinfkodbaa
open Go.RowKit
set_option maxRecDepth 100000
theorem own_i64 {w : World} {base n c : Nat} {a : Option Addr} {xs : List Int} (h : w.ownsRow base 2 1 (.slice a n c) n (xs.map (Value.int .i64))) (hn : n = xs.length) (k : Nat) (hk : k < n) : ∃ g x, a = some ⟨g, 0, none⟩ ∧ g < w.heap.size ∧ w.cell? ⟨g, k, none⟩ = some (.int .i64 x) ∧ Hid (xs[k]? = some x) := by
  rcases h.2 with ⟨_, h0⟩ | ⟨g0, cap, cur, e, hbg, hgh, hnc, hcm, hcs, htake⟩
  · omega
  · cases e
    have hx : (xs.map (Value.int .i64))[k]? = some (.int .i64 (xs[k]'(by omega))) := by simp [List.getElem?_eq_getElem (show k < xs.length by omega)]
    have hc := World.ownsRow.cells h (g := g0) rfl k _ hx
    rw [Addr.add_lit, Nat.zero_add] at hc
    exact ⟨g0, _, rfl, lt_of_cell hc, hc, List.getElem?_eq_getElem (by omega)⟩
set_option maxHeartbeats 4000000 in
theorem lsame_yes {w : World} {base1 base2 n c1 c2 : Nat} {a1 a2 : Option Addr} {xs : List Int} (h1 : w.ownsRow base1 2 1 (.slice a1 n c1) n (xs.map (Value.int .i64))) (h2 : w.ownsRow base2 2 1 (.slice a2 n c2) n (xs.map (Value.int .i64))) (hn : n = xs.length) (h4 : n ≤ 4096) :
    Calls Try.prog 27 #[.slice a1 n c1, .slice a2 n c2] w fun e w' => e = .returned (.bool true) ∧ Below w.heap.size w w' := by
  replace hn : Hid (n = xs.length) := hn
  go_enter Try.func27, Try.ntmps27
  go_wp2
  go_loopw [5] (fun iv wr => ∃ (k q : Nat), k ≤ n ∧ iv = .int .i64 (k : Int) ∧ wr = w.drewN q) (fun iv _ => n - (intOf iv).toNat)
  case atStart => exact ⟨0, 0, by omega, rfl, rfl⟩
  case round =>
    obtain ⟨k, q, hk, rfl, rfl⟩ := hrel
    by_cases hlt : k < n
    · obtain ⟨g1, x1, rfl, hb1, d1, e1⟩ := own_i64 h1 hn.out k hlt
      obtain ⟨g2, x2, rfl, hb2, d2, e2⟩ := own_i64 h2 hn.out k hlt
      obtain rfl : x1 = x2 := Option.some.inj (e1.out.symm.trans e2.out)
      have hki : (k : Int) < (n : Int) := by omega
      go_wp2_with fail
      go_quiet (fail)
      go_wp2
      go_roundw
      case rel => exact ⟨k + 1, _, by omega, by go_num, rfl⟩
      case measure => simp [intOf]; omega
    · go_wp2
      go_ret
      exact ⟨rfl, below_drewN (Below.refl _ _) _⟩
end Go.Proofs.Ytajdelinfkodbaa
