/- Equal, either way round; Same of alike ones. -/
import Derived.Test.YtkpngpongbpfgaaTrn
import Derived.Test.YtkpngpongbpfgaaDoE
import Derived.Test.YtkpngpongbpfgaaGivN
namespace Go.Proofs.Ytkpngpongbpfgaa
open Go.RowKit
set_option maxRecDepth 100000
theorem eqo_dat (d e : Ieee.Datum) : (d.order e == some .eq) = (e.order d == some .eq) := by
  have hc : ∀ a b : Int, (some (compare a b) == some Ordering.eq) = (some (compare b a) == some Ordering.eq) := fun a b => by
    rw [Bool.eq_iff_iff, beq_iff_eq, beq_iff_eq, Option.some.injEq, Option.some.injEq]
    simp only [Std.LawfulEqCmp.compare_eq_iff_eq]
    exact ⟨Eq.symm, Eq.symm⟩
  have hn : ∀ a b : Nat, (some (compare a b) == some Ordering.eq) = (some (compare b a) == some Ordering.eq) := fun a b => by
    rw [Bool.eq_iff_iff, beq_iff_eq, beq_iff_eq, Option.some.injEq, Option.some.injEq]
    simp only [Std.LawfulEqCmp.compare_eq_iff_eq]
    exact ⟨Eq.symm, Eq.symm⟩
  cases d with
  | nan s f => cases e <;> rfl
  | infinity s =>
    cases e with
    | nan t f => rfl
    | infinity t => exact hn _ _
    | number t m i => cases s <;> rfl
  | number s m i =>
    cases e with
    | nan t f => rfl
    | infinity t => cases t <;> rfl
    | number t n j =>
      simp only [Ieee.Datum.order]
      rw [Int.min_comm j i]
      exact hc _ _
theorem eqo_turn (a b : Nat) : (FloatKind.f64.format.order a b == some .eq) = (FloatKind.f64.format.order b a == some .eq) := eqo_dat _ _
theorem cmpz_turn (n1 : Bool) (xs : List Int) (n2 : Bool) (ys : List Int) : (cmpI n1 xs n2 ys == 0) = (cmpI n2 ys n1 xs == 0) := by
  unfold cmpI
  rw [Bool.and_comm (rightB n2 ys)]
  cases rightB n1 xs && rightB n2 ys with
  | false => rfl
  | true =>
    have hs : (sgn (val8 xs) (val8 ys) == 0) = (sgn (val8 ys) (val8 xs) == 0) := by
      rw [sgn_turn (val8 xs)]
      cases h : (sgn (val8 ys) (val8 xs) == 0) <;> simp at h ⊢ <;> omega
    cases n1 <;> cases n2
    · exact hs
    · rfl
    · rfl
    · exact hs.symm
theorem eqN_turn (p1 n1 : Bool) (xs : List Int) (x1 y1 : Nat) (p2 n2 : Bool) (ys : List Int) (x2 y2 : Nat) : eqN p1 n1 xs x1 y1 p2 n2 ys x2 y2 = eqN p2 n2 ys x2 y2 p1 n1 xs x1 y1 := by
  unfold eqN
  rw [cmpz_turn n2 ys n1 xs, eqo_turn (acX p2 n2 ys x2), eqo_turn (acY p2 y2)]
  by_cases h : p1 = false ∧ p2 = false
  · rw [if_pos h, if_pos (And.symm h)]
  · have h' : ¬ (p2 = false ∧ p1 = false) := fun k => h (And.symm k)
    rw [if_neg h, if_neg h']
    by_cases h1 : acE p1 n1 xs = 0 <;> by_cases h2 : acE p2 n2 ys = 0
    · rw [if_neg (fun k => k h1), if_neg (fun k => k h2), if_neg (fun k => k h2), if_neg (fun k => k h1)]
    · rw [if_neg (fun k => k h1), if_pos h2, if_pos h2]
    · rw [if_pos h1, if_neg (fun k => k h2), if_pos h1]
    · rw [if_pos h1, if_pos h2]
/-- equal. -/
def eqT (p1 n1 : Bool) (xs : List Int) (x1 y1 : Nat) (p2 n2 : Bool) (ys : List Int) (x2 y2 : Nat) : Bool := (rightN p1 n1 xs x1 y1 && rightN p2 n2 ys x2 y2) && eqN p1 n1 xs x1 y1 p2 n2 ys x2 y2
theorem eqT_turn (p1 n1 : Bool) (xs : List Int) (x1 y1 : Nat) (p2 n2 : Bool) (ys : List Int) (x2 y2 : Nat) : eqT p1 n1 xs x1 y1 p2 n2 ys x2 y2 = eqT p2 n2 ys x2 y2 p1 n1 xs x1 y1 := by
  unfold eqT
  rw [eqN_turn p2 n2, Bool.and_comm (rightN p2 n2 ys x2 y2)]
theorem equal_all {w : World} (p1 n1 p2 n2 : Bool) (x1 y1 x2 y2 : Nat) {ja ka : Option Addr} {jn jc kn kc : Nat} {xs ys : List Int} {q : Bool} (hq : Hid (eqT p1 n1 xs x1 y1 p2 n2 ys x2 y2 = q)) (h1 : IsB w ja jn jc xs) (h2 : IsB w ka kn kc ys) : Calls Try.prog 9 #[.int .i64 6, .agg #[.bool p1, .bool n1, .slice ja jn jc, .complex .f64 x1 y1], .agg #[.bool p2, .bool n2, .slice ka kn kc, .complex .f64 x2 y2]] w fun e w' => ∃ se, e = .returned (.tuple #[.agg #[.bool false, .bool false, .slice none 0 0, .complex .f64 0 0], .bool q, .int .i64 se]) ∧ Below w.heap.size w w' := by
  have hq' := hq.out
  unfold eqT at hq'
  cases hr : (rightN p1 n1 xs x1 y1 && rightN p2 n2 ys x2 y2) with
  | false =>
    rw [hr] at hq'
    obtain rfl : false = q := hq'
    refine (does_no 6 p1 n1 p2 n2 x1 y1 x2 y2 h1 h2 hr).mono ?_
    rintro e w' ⟨rfl, B⟩
    exact ⟨1, rfl, B⟩
  | true =>
    rw [hr, Bool.true_and] at hq'
    have r1 : rightN p1 n1 xs x1 y1 = true := by cases h : rightN p1 n1 xs x1 y1 <;> simp [h] at hr ⊢
    have r2 : rightN p2 n2 ys x2 y2 = true := by cases h : rightN p2 n2 ys x2 y2 <;> simp [h] at hr ⊢
    have hh := does_equal p1 n1 p2 n2 x1 y1 x2 y2 h1 h2 r1 r2
    rw [hq'] at hh
    refine hh.mono ?_
    rintro e w' ⟨rfl, B⟩
    exact ⟨0, rfl, B⟩
set_option maxHeartbeats 2000000 in
theorem sameN_alike {w : World} (p neg : Bool) (x y x' y' : Nat) (hx : Alike x x') (hy : Alike y y') {ja ka : Option Addr} {jn jc kn kc : Nat} {xs : List Int} (h1 : IsB w ja jn jc xs) (h2 : IsB w ka kn kc xs) : Calls Try.prog 11 #[.agg #[.bool p, .bool neg, .slice ja jn jc, .float .f64 x, .float .f64 y], .agg #[.bool p, .bool neg, .slice ka kn kc, .float .f64 x', .float .f64 y']] w fun e w' => e = .returned (.bool true) ∧ Below w.heap.size w w' := by
  have E1 := oldF (newF w (numR p neg (.slice ja jn jc) x y)) (numR p neg (.slice ka kn kc) x' y')
  have F1 := newF (w.alloc (numR p neg (.slice ja jn jc) x y)) (numR p neg (.slice ka kn kc) x' y')
  have B2 : Below w.heap.size w ((w.alloc (numR p neg (.slice ja jn jc) x y)).alloc (numR p neg (.slice ka kn kc) x' y')) := below_sizeF box_belowF (Nat.le_refl _) box_belowF
  rw [size1] at F1
  have I1 := h1.below B2
  have I2 := h2.below B2
  have hpp : (p == p) = true := by simp
  unfold numR at E1 F1 B2 I1 I2
  go_enter Try.func11, Try.ntmps11
  go_wp2_with fail
  generalize (w.alloc (.cells #[.bool p, .bool neg, .slice ja jn jc, .float .f64 x, .float .f64 y] 27)).alloc (.cells #[.bool p, .bool neg, .slice ka kn kc, .float .f64 x', .float .f64 y'] 27) = w2 at *
  generalize w.heap.size + 1 = b2 at *
  replace E1 : w2.heap[w.heap.size]? = some (numR p neg (.slice ja jn jc) x y) := E1
  replace F1 : w2.heap[b2]? = some (numR p neg (.slice ka kn kc) x' y') := F1
  refine (same_true neg I1 I2).mono ?_
  rintro e w3 ⟨rfl, B3⟩
  replace E1 := (B3.block _ (lt_of_blockF E1)).trans E1
  replace F1 := (B3.block _ (lt_of_blockF F1)).trans F1
  replace B2 := below_sizeF B2 (Nat.le_refl _) B3
  clear B3
  obtain ⟨x0, x1, x2, x3, x4, xf⟩ := numR_cells E1
  obtain ⟨z0, z1, z2, z3, z4, zf⟩ := numR_cells F1
  go_wp2_with fail
  refine (alike_any p p neg neg (.slice ja jn jc) (.slice ka kn kc) x y x' y' _).mono ?_
  rintro e w4 ⟨rfl, B4⟩
  rw [alike_bits hx, alike_bits hy]
  go_wp2
  go_ret
  exact ⟨rfl, below_sizeF B2 (Nat.le_refl _) B4⟩
end Go.Proofs.Ytkpngpongbpfgaa
