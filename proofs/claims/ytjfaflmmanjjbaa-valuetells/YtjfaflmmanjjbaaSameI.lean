/- Are two slices of whole numbers alike? -/
import Derived.Test.YtjfaflmmanjjbaaRefs
import Derived.Test.YtjfaflmmanjjbaaAlike
namespace Go.Proofs.Ytjfaflmmanjjbaa
open Go.RowKit
set_option maxRecDepth 100000
theorem OwnI.size {w : World} {base n c : Nat} {a : Option Addr} {xs : List Int} (h : OwnI w base (.slice a n c) xs) : n = xs.length := by
  obtain ⟨a', c', e⟩ := h.shape
  cases e
  rfl
theorem OwnI.at_ {w : World} {base n c : Nat} {a : Option Addr} {xs : List Int} (h : OwnI w base (.slice a n c) xs) (k : Nat) (hk : k < n) : ∃ b x, a = some ⟨b, 0, none⟩ ∧ w.cell? ⟨b, k, none⟩ = some (.int .i64 x) ∧ Hid (xs[k]? = some x) := by
  have hn := h.size
  rcases h.2 with ⟨e, h0⟩ | ⟨g, cap, cur, e, _⟩
  · omega
  · cases e
    have hx : xs[k]? = some (xs.getD k 0) := by simp [show k < xs.length by omega]
    have h3 := World.ownsRow.cells h (g := g) rfl k (.int .i64 (xs.getD k 0)) (by rw [List.getElem?_map, hx]; rfl)
    rw [addr_add, Nat.zero_add] at h3
    exact ⟨g, _, rfl, h3, hx⟩
theorem OwnI.drewN {w : World} {base : Nat} {v : Value} {xs : List Int} (h : OwnI w base v xs) (k : Nat) : OwnI (w.drewN k) base v xs := h
set_option maxHeartbeats 2000000 in
theorem sameI_true {w : World} {p r n c m d : Nat} {a b : Option Addr} {xs : List Int} (h1 : OwnI w p (.slice a n c) xs) (h2 : OwnI w r (.slice b m d) xs) (hl : n ≤ 9223372036854775806) :
    Calls Try.prog 18 #[.slice a n c, .slice b m d] w fun e w' => e = .returned (.bool true) ∧ ∃ q, w' = w.drewN q := by
  obtain rfl : m = n := by rw [h1.size, h2.size]
  go_enter Try.func18, Try.ntmps18
  go_wp2
  go_loopw [5] (fun iv wr => ∃ (k q : Nat), k ≤ m ∧ iv = .int .i64 (k : Int) ∧ wr = w.drewN q) (fun iv _ => m - (intOf iv).toNat)
  case atStart => exact ⟨0, 0, by omega, rfl, rfl⟩
  case round =>
    obtain ⟨k, q, hk, rfl, rfl⟩ := hrel
    by_cases hlt : k < m
    · obtain ⟨b1, x1, rfl, c1, e1⟩ := h1.at_ k hlt
      obtain ⟨b2, x2, rfl, c2, e2⟩ := h2.at_ k hlt
      obtain rfl : x1 = x2 := by have h3 := e1.out; rw [e2.out] at h3; exact (Option.some.inj h3).symm
      have hki : (k : Int) < (m : Int) := by omega
      go_wp2_with fail
      go_quiet (fail)
      go_wp2
      go_roundw
      case rel => exact ⟨k + 1, _, by omega, by go_num, rfl⟩
      case measure => simp [intOf]; omega
    · have hki : ¬ (k : Int) < (m : Int) := by omega
      go_wp2
      go_ret
      exact ⟨rfl, q, rfl⟩
end Go.Proofs.Ytjfaflmmanjjbaa
