/- Values in memory; whether one can be kept. -/
import Derived.Test.YtjfaflmmanjjbaaRows
import Derived.WalkKit
import Derived.WalkSpells
import Derived.WalkLawsBesides
import Derived.Below
namespace Go.Proofs.Ytjfaflmmanjjbaa
open Go.RowKit
set_option maxRecDepth 100000

theorem okI {n : Int} (h : (Lit.int .i64 n).wf = true) : -9223372036854775808 ≤ n ∧ n ≤ 9223372036854775807 := by
  simp [Lit.wf, IntKind.min, IntKind.max, IntKind.signed, IntKind.bits] at h
  omega
/-- Can a value be kept? -/
def okV (k n : Int) : Bool := if k = 0 ∨ k = 1 ∨ k = 2 then decide (n = 0) else if k = 3 then decide (-1152921504606846976 ≤ n ∧ n < 1152921504606846976) else if k = 4 then decide (1 ≤ n ∧ n ≤ 4096) else false
theorem box_below {w : World} {o : Obj} : Below w.heap.size w (w.alloc o) := (Below.refl _ _).alloc (Nat.le_refl _) _
def okC (n : Int) : Bool := decide (1 ≤ n ∧ n ≤ 4096)
theorem rightOop_any (n : Int) (w : World) : Calls Try.prog 40 #[.int .i64 n] w fun e w' => e = .returned (.bool (okC n)) ∧ w = w' := by
  go_enter Try.func40, Try.ntmps40
  by_cases h1 : 1 ≤ n
  · by_cases h2 : n ≤ 4096
    · go_wp2
      go_ret
      exact ⟨by simp [okC, h1, h2], rfl⟩
    · go_wp2
      go_ret
      exact ⟨by simp [okC, h1]; omega, rfl⟩
  · go_wp2
    go_ret
    exact ⟨by simp [okC]; omega, rfl⟩

theorem okV0 {k n : Int} (h : k = 0 ∨ k = 1 ∨ k = 2) : okV k n = (n == 0) := by unfold okV; rw [if_pos h]; exact Bool.eq_iff_iff.2 (by simp)
theorem okV3 {n : Int} : okV 3 n = decide (-1152921504606846976 ≤ n ∧ n < 1152921504606846976) := by simp [okV]
theorem okV4 {n : Int} : okV 4 n = okC n := by simp [okV, okC]
theorem okVx {k n : Int} (h : ¬ (k = 0 ∨ k = 1 ∨ k = 2)) (h3 : ¬ k = 3) (h4 : ¬ k = 4) : okV k n = false := by unfold okV; rw [if_neg h, if_neg h3, if_neg h4]
set_option maxHeartbeats 1000000 in
theorem right_any (k n : Int) (w : World) : Calls Try.prog 12 #[.agg #[.int .i64 k, .int .i64 n]] w fun e w' => e = .returned (.bool (okV k n)) ∧ Below w.heap.size w w' := by
  by_cases h0 : k = 0 ∨ k = 1 ∨ k = 2
  · rw [okV0 h0]
    rcases h0 with rfl | rfl | rfl
    all_goals
      go_enter Try.func12, Try.ntmps12
      go_wp2
      go_ret
      exact ⟨rfl, box_below⟩
  by_cases h3 : k = 3
  · subst h3
    rw [okV3]
    clear h0
    go_enter Try.func12, Try.ntmps12
    by_cases h1 : -1152921504606846976 ≤ n
    · by_cases h2 : n < 1152921504606846976
      · go_wp2
        go_ret
        exact ⟨by simp [h1, h2], box_below⟩
      · go_wp2
        go_ret
        exact ⟨by simp; omega, box_below⟩
    · go_wp2
      go_ret
      exact ⟨by simp; omega, box_below⟩
  by_cases h4 : k = 4
  · subst h4
    rw [okV4]
    clear h0 h3
    go_enter Try.func12, Try.ntmps12
    go_wp2_with (go_at_call 40; refine (rightOop_any _ _).mono ?_; rintro e w' ⟨rfl, rfl⟩)
    go_ret
    exact ⟨rfl, box_below⟩
  rw [okVx h0 h3 h4]
  have b0 : (k == 0) = false := by simp; omega
  have b1 : (k == 1) = false := by simp; omega
  have b2 : (k == 2) = false := by simp; omega
  have b3 : (k == 3) = false := by simp; omega
  have b4 : (k == 4) = false := by simp; omega
  clear h0 h3 h4
  go_enter Try.func12, Try.ntmps12
  go_wp2
  go_ret
  exact ⟨rfl, box_below⟩
set_option maxHeartbeats 1000000 in
theorem rright_any (k n : Int) (w : World) : Calls Try.prog 13 #[.agg #[.int .i64 k, .int .i64 n]] w fun e w' => e = .returned (.bool (okV k n)) ∧ Below w.heap.size w w' := by
  by_cases h0 : k = 0 ∨ k = 1 ∨ k = 2
  · rw [okV0 h0]
    rcases h0 with rfl | rfl | rfl
    all_goals
      go_enter Try.func13, Try.ntmps13
      go_wp2
      go_ret
      exact ⟨rfl, box_below⟩
  by_cases h3 : k = 3
  · subst h3
    rw [okV3]
    clear h0
    go_enter Try.func13, Try.ntmps13
    by_cases h1 : -1152921504606846976 ≤ n
    · by_cases h2 : n ≤ 1152921504606846975
      · go_wp2
        go_ret
        exact ⟨by simp [h1]; omega, box_below⟩
      · go_wp2
        go_ret
        exact ⟨by simp; omega, box_below⟩
    · go_wp2
      go_ret
      exact ⟨by simp; omega, box_below⟩
  by_cases h4 : k = 4
  · subst h4
    rw [okV4]
    clear h0 h3
    go_enter Try.func13, Try.ntmps13
    by_cases h1 : 1 ≤ n
    · by_cases h2 : n ≤ 4096
      · go_wp2
        go_ret
        exact ⟨by simp [okC, h1, h2], box_below⟩
      · go_wp2
        go_ret
        exact ⟨by simp [okC, h1]; omega, box_below⟩
    · go_wp2
      go_ret
      exact ⟨by simp [okC]; omega, box_below⟩
  rw [okVx h0 h3 h4]
  have b0 : (k == 0) = false := by simp; omega
  have b1 : (k == 1) = false := by simp; omega
  have b2 : (k == 2) = false := by simp; omega
  have b3 : (k == 3) = false := by simp; omega
  have b4 : (k == 4) = false := by simp; omega
  clear h0 h3 h4
  go_enter Try.func13, Try.ntmps13
  go_wp2
  go_ret
  exact ⟨rfl, box_below⟩
end Go.Proofs.Ytjfaflmmanjjbaa
