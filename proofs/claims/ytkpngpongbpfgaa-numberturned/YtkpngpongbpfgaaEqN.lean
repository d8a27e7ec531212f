/- Equal: two numbers. -/
import Derived.Test.YtkpngpongbpfgaaPairN
import Derived.Test.YtkpngpongbpfgaaCmp
import Derived.Deep.CutBlock
namespace Go.Proofs.Ytkpngpongbpfgaa
open Go.RowKit
set_option maxRecDepth 100000
/-- A number as a complex one. -/
def acX (p neg : Bool) (xs : List Int) (x : Nat) : Nat := if p = true then x else if smallB neg xs = true then floatOfInt .f64 (smallI neg xs) else 0
def acY (p : Bool) (y : Nat) : Nat := if p = true then y else 0
def acE (p neg : Bool) (xs : List Int) : Int := if p = true then 0 else if smallB neg xs = true then 0 else 24
set_option maxHeartbeats 1000000 in
theorem asAny {w : World} (p neg : Bool) (x y : Nat) {ja : Option Addr} {jn jc : Nat} {xs : List Int} (h : IsB w ja jn jc xs) : Calls Try.prog 53 #[.agg #[.bool p, .bool neg, .slice ja jn jc, .complex .f64 x y]] w fun e w' => e = .returned (.tuple #[.complex .f64 (acX p neg xs x) (acY p y), .int .i64 (acE p neg xs)]) ∧ Below w.heap.size w w' := by
  have B1 : Below w.heap.size w (w.alloc (numP p neg (.slice ja jn jc) x y)) := box_belowF
  have I1 := h.below B1
  have hcv := fun (w : World) (n : Int) => run_convert_int_float (P := Try.prog) w 2 25 .i64 .f64 n (by kernel_rfl) Try.underlying25
  unfold numP at B1 I1
  unfold acX acY acE
  cases p with
  | true =>
    go_enter Try.func53, Try.ntmps53
    go_wp2
    go_ret2
    exact ⟨rfl, B1⟩
  | false =>
    go_enter Try.func53, Try.ntmps53
    go_wp2_with fail
    refine (small_any neg I1).mono ?_
    rintro e w2 ⟨rfl, B2⟩
    have B3 := below_sizeF B1 (Nat.le_refl _) B2
    cases hs : smallB neg xs with
    | true =>
      go_wp2
      go_ret2
      exact ⟨rfl, B3⟩
    | false =>
      go_wp2
      go_ret2
      exact ⟨rfl, B3⟩
/-- Are two equal? -/
def eqN (p1 n1 : Bool) (xs : List Int) (x1 y1 : Nat) (p2 n2 : Bool) (ys : List Int) (x2 y2 : Nat) : Bool :=
  if p1 = false ∧ p2 = false then cmpI n1 xs n2 ys == 0 else if acE p1 n1 xs ≠ 0 then false else if acE p2 n2 ys ≠ 0 then false else (FloatKind.f64.format.order (acX p1 n1 xs x1) (acX p2 n2 ys x2) == some .eq) && (FloatKind.f64.format.order (acY p1 y1) (acY p2 y2) == some .eq)
set_option maxHeartbeats 4000000 in
theorem equal_any {w : World} (p1 n1 p2 n2 : Bool) (x1 y1 x2 y2 : Nat) {ja ka : Option Addr} {jn jc kn kc : Nat} {xs ys : List Int} (h1 : IsB w ja jn jc xs) (h2 : IsB w ka kn kc ys) : Calls Try.prog 26 #[.agg #[.bool p1, .bool n1, .slice ja jn jc, .complex .f64 x1 y1], .agg #[.bool p2, .bool n2, .slice ka kn kc, .complex .f64 x2 y2]] w fun e w' => e = .returned (.bool (eqN p1 n1 xs x1 y1 p2 n2 ys x2 y2)) ∧ Below w.heap.size w w' := by
  have E1 := oldF (newF w (numP p1 n1 (.slice ja jn jc) x1 y1)) (numP p2 n2 (.slice ka kn kc) x2 y2)
  have F1 := newF (w.alloc (numP p1 n1 (.slice ja jn jc) x1 y1)) (numP p2 n2 (.slice ka kn kc) x2 y2)
  have B2 : Below w.heap.size w ((w.alloc (numP p1 n1 (.slice ja jn jc) x1 y1)).alloc (numP p2 n2 (.slice ka kn kc) x2 y2)) := below_sizeF box_belowF (Nat.le_refl _) box_belowF
  rw [size1] at F1
  have I1 := h1.below B2
  have I2 := h2.below B2
  unfold numP at E1 F1 B2 I1 I2
  go_enter Try.func26, Try.ntmps26
  go_upto_region 1 with fail
  generalize (w.alloc (.cells #[.bool p1, .bool n1, .slice ja jn jc, .complex .f64 x1 y1] 31)).alloc (.cells #[.bool p2, .bool n2, .slice ka kn kc, .complex .f64 x2 y2] 31) = w2 at *
  generalize w.heap.size + 1 = b2 at *
  replace E1 : w2.heap[w.heap.size]? = some (numP p1 n1 (.slice ja jn jc) x1 y1) := E1
  replace F1 : w2.heap[b2]? = some (numP p2 n2 (.slice ka kn kc) x2 y2) := F1
  obtain ⟨x0, x1', x2', x3, xf⟩ := numP_cells E1
  obtain ⟨z0, z1, z2, z3, zf⟩ := numP_cells F1
  by_cases hw : p1 = false ∧ p2 = false
  · obtain ⟨rfl, rfl⟩ := hw
    have e0 : eqN false n1 xs x1 y1 false n2 ys x2 y2 = (cmpI n1 xs n2 ys == 0) := by unfold eqN; rw [if_pos ⟨rfl, rfl⟩]
    go_wp2_with fail
    refine (cmp_any n1 n2 I1 I2).mono ?_
    rintro e w3 ⟨rfl, B3⟩
    go_wp2
    go_ret
    exact ⟨by rw [e0]; rfl, below_sizeF B2 (Nat.le_refl _) B3⟩
  · have e0 : eqN p1 n1 xs x1 y1 p2 n2 ys x2 y2 = if acE p1 n1 xs ≠ 0 then false else if acE p2 n2 ys ≠ 0 then false else (FloatKind.f64.format.order (acX p1 n1 xs x1) (acX p2 n2 ys x2) == some .eq) && (FloatKind.f64.format.order (acY p1 y1) (acY p2 y2) == some .eq) := by unfold eqN; rw [if_neg hw]
    obtain ⟨ev1, hv1⟩ : ∃ q, Hid (acE p1 n1 xs = q) := ⟨_, rfl⟩
    obtain ⟨ev2, hv2⟩ : ∃ q, Hid (acE p2 n2 ys = q) := ⟨_, rfl⟩
    obtain ⟨X1, hX1⟩ : ∃ q, Hid (acX p1 n1 xs x1 = q) := ⟨_, rfl⟩
    obtain ⟨X2, hX2⟩ : ∃ q, Hid (acX p2 n2 ys x2 = q) := ⟨_, rfl⟩
    obtain ⟨Y1, hY1⟩ : ∃ q, Hid (acY p1 y1 = q) := ⟨_, rfl⟩
    obtain ⟨Y2, hY2⟩ : ∃ q, Hid (acY p2 y2 = q) := ⟨_, rfl⟩
    rw [hv1.out, hv2.out, hX1.out, hX2.out, hY1.out, hY2.out] at e0
    have A1 : ∀ w' : World, IsB w' ja jn jc xs → Calls Try.prog 53 #[.agg #[.bool p1, .bool n1, .slice ja jn jc, .complex .f64 x1 y1]] w' fun e w'' => e = .returned (.tuple #[.complex .f64 X1 Y1, .int .i64 ev1]) ∧ Below w'.heap.size w' w'' := fun w' h => by have := asAny p1 n1 x1 y1 h; rw [hX1.out, hY1.out, hv1.out] at this; exact this
    have A2 : ∀ w' : World, IsB w' ka kn kc ys → Calls Try.prog 53 #[.agg #[.bool p2, .bool n2, .slice ka kn kc, .complex .f64 x2 y2]] w' fun e w'' => e = .returned (.tuple #[.complex .f64 X2 Y2, .int .i64 ev2]) ∧ Below w'.heap.size w' w'' := fun w' h => by have := asAny p2 n2 x2 y2 h; rw [hX2.out, hY2.out, hv2.out] at this; exact this
    have g1 := fun (w : World) => run_eql_complex (P := Try.prog) w 29 .f64 X1 Y1 X2 Y2
    clear hv1 hv2 hX1 hX2 hY1 hY2
    have H0 : Hid (eqN p1 n1 xs x1 y1 p2 n2 ys x2 y2 = if ev1 ≠ 0 then false else if ev2 ≠ 0 then false else (FloatKind.f64.format.order X1 X2 == some .eq) && (FloatKind.f64.format.order Y1 Y2 == some .eq)) := e0
    clear e0
    cases p1 with
    | true =>
      go_wp2_with fail
      refine (A1 _ I1).mono ?_
      rintro e w3 ⟨rfl, B3⟩
      replace F1 := (B3.block _ (lt_of_blockF F1)).trans F1
      replace I2 := I2.below B3
      replace B2 := below_sizeF B2 (Nat.le_refl _) B3
      clear B3 x0 x1' x2' x3 xf z0 z1 z2 z3 zf E1 A1
      obtain ⟨z0, z1, z2, z3, zf⟩ := numP_cells F1
      by_cases h0 : ev1 = 0
      · subst h0
        go_wp2_with fail
        refine (A2 _ I2).mono ?_
        rintro e w4 ⟨rfl, B3⟩
        replace B2 := below_sizeF B2 (Nat.le_refl _) B3
        clear B3 z0 z1 z2 z3 zf A2
        by_cases h0 : ev2 = 0
        · subst h0
          go_wp2
          go_ret
          exact ⟨by rw [H0.out]; rfl, B2⟩
        · have hb0 : (ev2 == 0) = false := by simp; omega
          go_wp2
          go_ret
          exact ⟨by rw [H0.out, if_neg (by simp), if_pos h0]; rfl, B2⟩
      · have hb0 : (ev1 == 0) = false := by simp; omega
        go_wp2
        go_ret
        exact ⟨by rw [H0.out, if_pos h0]; rfl, B2⟩
    | false =>
      cases p2 with
      | false => exact absurd ⟨rfl, rfl⟩ hw
      | true =>
        go_wp2_with fail
        refine (A1 _ I1).mono ?_
        rintro e w3 ⟨rfl, B3⟩
        replace F1 := (B3.block _ (lt_of_blockF F1)).trans F1
        replace I2 := I2.below B3
        replace B2 := below_sizeF B2 (Nat.le_refl _) B3
        clear B3 x0 x1' x2' x3 xf z0 z1 z2 z3 zf E1 A1
        obtain ⟨z0, z1, z2, z3, zf⟩ := numP_cells F1
        by_cases h0 : ev1 = 0
        · subst h0
          go_wp2_with fail
          refine (A2 _ I2).mono ?_
          rintro e w4 ⟨rfl, B3⟩
          replace B2 := below_sizeF B2 (Nat.le_refl _) B3
          clear B3 z0 z1 z2 z3 zf A2
          by_cases h0 : ev2 = 0
          · subst h0
            go_wp2
            go_ret
            exact ⟨by rw [H0.out]; rfl, B2⟩
          · have hb0 : (ev2 == 0) = false := by simp; omega
            go_wp2
            go_ret
            exact ⟨by rw [H0.out, if_neg (by simp), if_pos h0]; rfl, B2⟩
        · have hb0 : (ev1 == 0) = false := by simp; omega
          go_wp2
          go_ret
          exact ⟨by rw [H0.out, if_pos h0]; rfl, B2⟩
end Go.Proofs.Ytkpngpongbpfgaa
