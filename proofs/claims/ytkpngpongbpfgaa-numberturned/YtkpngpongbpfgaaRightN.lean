/- Right, of the program and of the document. -/
import Derived.Test.YtkpngpongbpfgaaCpx
import Derived.Test.YtkpngpongbpfgaaSmall
namespace Go.Proofs.Ytkpngpongbpfgaa
open Go.RowKit
set_option maxRecDepth 100000
/-- Can the number be? -/
def rightN (p neg : Bool) (xs : List Int) (x y : Nat) : Bool := if p = true then !neg && decide (xs.length = 0) else rightB neg xs && decide (x = 0) && decide (y = 0)
theorem nan_zero : nanB 0 = false := by decide +kernel
theorem bits_zero (x : Nat) : bitsB x 0 = decide (x = 0) := by
  unfold bitsB
  rw [nan_zero]
  by_cases h : x = 0
  · subst h
    rw [nan_zero]
    simp
  · cases nanB x <;> simp [h]
set_option maxHeartbeats 1000000 in
theorem rightN_any {w : World} (p neg : Bool) (x y : Nat) {ja : Option Addr} {jn jc : Nat} {xs : List Int} (h : IsB w ja jn jc xs) : Calls Try.prog 21 #[.agg #[.bool p, .bool neg, .slice ja jn jc, .complex .f64 x y]] w fun e w' => e = .returned (.bool (rightN p neg xs x y)) ∧ Below w.heap.size w w' := by
  have hsz := h.size
  have E1 := newF w (numP p neg (.slice ja jn jc) x y)
  have B1 : Below w.heap.size w (w.alloc (numP p neg (.slice ja jn jc) x y)) := box_belowF
  have I1 := h.below B1
  unfold numP at E1 B1 I1
  unfold rightN
  cases p with
  | true =>
    cases neg with
    | true =>
      go_enter Try.func21, Try.ntmps21
      go_wp2
      go_ret
      exact ⟨rfl, B1⟩
    | false =>
      have e0 : Hid (((jn : Int) == 0) = decide (jn = 0)) := by
        show _ = _
        by_cases h : jn = 0 <;> simp [h]
      go_enter Try.func21, Try.ntmps21
      go_wp2
      go_ret
      exact ⟨by rw [← e0.out]; rfl, B1⟩
  | false =>
    go_enter Try.func21, Try.ntmps21
    go_wp2_with fail
    generalize w.alloc (.cells #[.bool false, .bool neg, .slice ja jn jc, .complex .f64 x y] 31) = w1 at *
    replace E1 : w1.heap[w.heap.size]? = some (numP false neg (.slice ja jn jc) x y) := E1
    refine (right_any neg I1).mono ?_
    rintro e w2 ⟨rfl, B2⟩
    have E2 := (B2.block _ (lt_of_blockF E1)).trans E1
    have B3 := below_sizeF B1 (Nat.le_refl _) B2
    clear E1 B1 B2 I1
    obtain ⟨x0, x1, x2, x3, xf⟩ := numP_cells E2
    cases h1 : rightB neg xs with
    | false =>
      go_wp2
      go_ret
      exact ⟨by simp, B3⟩
    | true =>
      go_wp2_with fail
      refine (plus_any x _).mono ?_
      rintro e w3 ⟨rfl, rfl⟩
      by_cases hx : x = 0
      · rw [decide_eq_true hx]
        go_wp2_with fail
        refine (plus_any y _).mono ?_
        rintro e w4 ⟨rfl, rfl⟩
        go_wp2
        go_ret
        exact ⟨by simp, B3⟩
      · rw [decide_eq_false hx]
        go_wp2
        go_ret
        exact ⟨by simp, B3⟩
set_option maxHeartbeats 1000000 in
theorem rrightN_any {w : World} (p neg : Bool) (x y : Nat) {ja : Option Addr} {jn jc : Nat} {xs : List Int} (h : IsB w ja jn jc xs) : Calls Try.prog 28 #[.agg #[.bool p, .bool neg, .slice ja jn jc, .float .f64 x, .float .f64 y]] w fun e w' => e = .returned (.bool (rightN p neg xs x y)) ∧ Below w.heap.size w w' := by
  have hsz := h.size
  have E1 := newF w (numR p neg (.slice ja jn jc) x y)
  have B1 : Below w.heap.size w (w.alloc (numR p neg (.slice ja jn jc) x y)) := box_belowF
  have I1 := h.below B1
  unfold numR at E1 B1 I1
  unfold rightN
  cases p with
  | true =>
    cases neg with
    | true =>
      go_enter Try.func28, Try.ntmps28
      go_wp2
      go_ret
      exact ⟨rfl, B1⟩
    | false =>
      have e0 : Hid (((jn : Int) == 0) = decide (jn = 0)) := by
        show _ = _
        by_cases h : jn = 0 <;> simp [h]
      go_enter Try.func28, Try.ntmps28
      go_wp2
      go_ret
      exact ⟨by rw [← e0.out]; rfl, B1⟩
  | false =>
    go_enter Try.func28, Try.ntmps28
    go_wp2_with fail
    generalize w.alloc (.cells #[.bool false, .bool neg, .slice ja jn jc, .float .f64 x, .float .f64 y] 27) = w1 at *
    replace E1 : w1.heap[w.heap.size]? = some (numR false neg (.slice ja jn jc) x y) := E1
    refine (rright_any neg I1).mono ?_
    rintro e w2 ⟨rfl, B2⟩
    have E2 := (B2.block _ (lt_of_blockF E1)).trans E1
    have B3 := below_sizeF B1 (Nat.le_refl _) B2
    clear E1 B1 B2 I1
    obtain ⟨x0, x1, x2, x3, x4, xf⟩ := numR_cells E2
    cases h1 : rightB neg xs with
    | false =>
      go_wp2
      go_ret
      exact ⟨by simp, B3⟩
    | true =>
      go_wp2_with fail
      refine (alike_any false false neg false (.slice ja jn jc) (.slice none 0 0) x y 0 0 _).mono ?_
      rintro e w3 ⟨rfl, B4⟩
      rw [bits_zero, bits_zero]
      go_wp2
      go_ret
      exact ⟨by simp, below_sizeF B3 (Nat.le_refl _) B4⟩
end Go.Proofs.Ytkpngpongbpfgaa
