/- Equal, either way round; Same of alike ones. -/
import Derived.Test.YtkpngpongbpfgaaTrn
import Derived.Test.YtkpngpongbpfgaaDoE
import Derived.Test.YtkpngpongbpfgaaGivN
import Derived.Test.YtkpngpongbpfgaaKnN
import Derived.Test.YtkpngpongbpfgaaReg
namespace Go.Proofs.Ytkpngpongbpfgaa
open Go.RowKit
set_option maxRecDepth 100000
theorem eqo_dat (d e : Ieee.Datum) : (d.order e == some .eq) = (e.order d == some .eq) := by
  have hc : ∀ a b : Int, (some (compare a b) == some Ordering.eq) = (some (compare b a) == some Ordering.eq) := fun a b => by
    rw [Bool.eq_iff_iff, beq_iff_eq, beq_iff_eq, Option.some.injEq, Option.some.injEq]
    simp only [Std.LawfulEqCmp.compare_eq_iff_eq]
    exact ⟨Eq.symm, Eq.symm⟩
  have hn : ∀ a b : Nat, (some (compare a b) == some Ordering.eq) = (some (compare b a) == some Ordering.eq) := fun a b => by
    rw [Bool.eq_iff_iff, beq_iff_eq, beq_iff_eq, Option.some.injEq, Option.some.injEq]
    simp only [Std.LawfulEqCmp.compare_eq_iff_eq]
    exact ⟨Eq.symm, Eq.symm⟩
  cases d with
  | nan s f => cases e <;> rfl
  | infinity s =>
    cases e with
    | nan t f => rfl
    | infinity t => exact hn _ _
    | number t m i => cases s <;> rfl
  | number s m i =>
    cases e with
    | nan t f => rfl
    | infinity t => cases t <;> rfl
    | number t n j =>
      simp only [Ieee.Datum.order]
      rw [Int.min_comm j i]
      exact hc _ _
theorem eqo_turn (a b : Nat) : (FloatKind.f64.format.order a b == some .eq) = (FloatKind.f64.format.order b a == some .eq) := eqo_dat _ _
theorem cmpz_turn (n1 : Bool) (xs : List Int) (n2 : Bool) (ys : List Int) : (cmpI n1 xs n2 ys == 0) = (cmpI n2 ys n1 xs == 0) := by
  unfold cmpI
  rw [Bool.and_comm (rightB n2 ys)]
  cases rightB n1 xs && rightB n2 ys with
  | false => rfl
  | true =>
    have hs : (sgn (val8 xs) (val8 ys) == 0) = (sgn (val8 ys) (val8 xs) == 0) := by
      rw [sgn_turn (val8 xs)]
      cases h : (sgn (val8 ys) (val8 xs) == 0) <;> simp at h ⊢ <;> omega
    cases n1 <;> cases n2
    · exact hs
    · rfl
    · rfl
    · exact hs.symm
theorem eqN_turn (p1 n1 : Bool) (xs : List Int) (x1 y1 : Nat) (p2 n2 : Bool) (ys : List Int) (x2 y2 : Nat) : eqN p1 n1 xs x1 y1 p2 n2 ys x2 y2 = eqN p2 n2 ys x2 y2 p1 n1 xs x1 y1 := by
  unfold eqN
  rw [cmpz_turn n2 ys n1 xs, eqo_turn (acX p2 n2 ys x2), eqo_turn (acY p2 y2)]
  by_cases h : p1 = false ∧ p2 = false
  · rw [if_pos h, if_pos (And.symm h)]
  · have h' : ¬ (p2 = false ∧ p1 = false) := fun k => h (And.symm k)
    rw [if_neg h, if_neg h']
    by_cases h1 : acE p1 n1 xs = 0 <;> by_cases h2 : acE p2 n2 ys = 0
    · rw [if_neg (fun k => k h1), if_neg (fun k => k h2), if_neg (fun k => k h2), if_neg (fun k => k h1)]
    · rw [if_neg (fun k => k h1), if_pos h2, if_pos h2]
    · rw [if_pos h1, if_neg (fun k => k h2), if_pos h1]
    · rw [if_pos h1, if_pos h2]
/-- equal. -/
def eqT (p1 n1 : Bool) (xs : List Int) (x1 y1 : Nat) (p2 n2 : Bool) (ys : List Int) (x2 y2 : Nat) : Bool := (rightN p1 n1 xs x1 y1 && rightN p2 n2 ys x2 y2) && eqN p1 n1 xs x1 y1 p2 n2 ys x2 y2
theorem eqT_turn (p1 n1 : Bool) (xs : List Int) (x1 y1 : Nat) (p2 n2 : Bool) (ys : List Int) (x2 y2 : Nat) : eqT p1 n1 xs x1 y1 p2 n2 ys x2 y2 = eqT p2 n2 ys x2 y2 p1 n1 xs x1 y1 := by
  unfold eqT
  rw [eqN_turn p2 n2, Bool.and_comm (rightN p2 n2 ys x2 y2)]
theorem equal_all {w : World} (p1 n1 p2 n2 : Bool) (x1 y1 x2 y2 : Nat) {ja ka : Option Addr} {jn jc kn kc : Nat} {xs ys : List Int} {q : Bool} (hq : Hid (eqT p1 n1 xs x1 y1 p2 n2 ys x2 y2 = q)) (h1 : IsB w ja jn jc xs) (h2 : IsB w ka kn kc ys) : Calls Try.prog 9 #[.int .i64 6, .agg #[.bool p1, .bool n1, .slice ja jn jc, .complex .f64 x1 y1], .agg #[.bool p2, .bool n2, .slice ka kn kc, .complex .f64 x2 y2]] w fun e w' => ∃ se, e = .returned (.tuple #[.agg #[.bool false, .bool false, .slice none 0 0, .complex .f64 0 0], .bool q, .int .i64 se]) ∧ Below w.heap.size w w' := by
  have hq' := hq.out
  unfold eqT at hq'
  cases hr : (rightN p1 n1 xs x1 y1 && rightN p2 n2 ys x2 y2) with
  | false =>
    rw [hr] at hq'
    obtain rfl : false = q := hq'
    refine (does_no 6 p1 n1 p2 n2 x1 y1 x2 y2 h1 h2 hr).mono ?_
    rintro e w' ⟨rfl, B⟩
    exact ⟨1, rfl, B⟩
  | true =>
    rw [hr, Bool.true_and] at hq'
    have r1 : rightN p1 n1 xs x1 y1 = true := by cases h : rightN p1 n1 xs x1 y1 <;> simp [h] at hr ⊢
    have r2 : rightN p2 n2 ys x2 y2 = true := by cases h : rightN p2 n2 ys x2 y2 <;> simp [h] at hr ⊢
    have hh := does_equal p1 n1 p2 n2 x1 y1 x2 y2 h1 h2 r1 r2
    rw [hq'] at hh
    refine hh.mono ?_
    rintro e w' ⟨rfl, B⟩
    exact ⟨0, rfl, B⟩
set_option maxHeartbeats 2000000 in
theorem sameN_alike {w : World} (p neg : Bool) (x y x' y' : Nat) (hx : Alike x x') (hy : Alike y y') {ja ka : Option Addr} {jn jc kn kc : Nat} {xs : List Int} (h1 : IsB w ja jn jc xs) (h2 : IsB w ka kn kc xs) : Calls Try.prog 11 #[.agg #[.bool p, .bool neg, .slice ja jn jc, .float .f64 x, .float .f64 y], .agg #[.bool p, .bool neg, .slice ka kn kc, .float .f64 x', .float .f64 y']] w fun e w' => e = .returned (.bool true) ∧ Below w.heap.size w w' := by
  have E1 := oldF (newF w (numR p neg (.slice ja jn jc) x y)) (numR p neg (.slice ka kn kc) x' y')
  have F1 := newF (w.alloc (numR p neg (.slice ja jn jc) x y)) (numR p neg (.slice ka kn kc) x' y')
  have B2 : Below w.heap.size w ((w.alloc (numR p neg (.slice ja jn jc) x y)).alloc (numR p neg (.slice ka kn kc) x' y')) := below_sizeF box_belowF (Nat.le_refl _) box_belowF
  rw [size1] at F1
  have I1 := h1.below B2
  have I2 := h2.below B2
  have hpp : (p == p) = true := by simp
  unfold numR at E1 F1 B2 I1 I2
  go_enter Try.func11, Try.ntmps11
  go_wp2_with fail
  generalize (w.alloc (.cells #[.bool p, .bool neg, .slice ja jn jc, .float .f64 x, .float .f64 y] 27)).alloc (.cells #[.bool p, .bool neg, .slice ka kn kc, .float .f64 x', .float .f64 y'] 27) = w2 at *
  generalize w.heap.size + 1 = b2 at *
  replace E1 : w2.heap[w.heap.size]? = some (numR p neg (.slice ja jn jc) x y) := E1
  replace F1 : w2.heap[b2]? = some (numR p neg (.slice ka kn kc) x' y') := F1
  refine (same_true neg I1 I2).mono ?_
  rintro e w3 ⟨rfl, B3⟩
  replace E1 := (B3.block _ (lt_of_blockF E1)).trans E1
  replace F1 := (B3.block _ (lt_of_blockF F1)).trans F1
  replace B2 := below_sizeF B2 (Nat.le_refl _) B3
  clear B3
  obtain ⟨x0, x1, x2, x3, x4, xf⟩ := numR_cells E1
  obtain ⟨z0, z1, z2, z3, z4, zf⟩ := numR_cells F1
  go_wp2_with fail
  refine (alike_any p p neg neg (.slice ja jn jc) (.slice ka kn kc) x y x' y' _).mono ?_
  rintro e w4 ⟨rfl, B4⟩
  rw [alike_bits hx, alike_bits hy]
  go_wp2
  go_ret
  exact ⟨rfl, below_sizeF B2 (Nat.le_refl _) B4⟩
end Go.Proofs.Ytkpngpongbpfgaa
namespace Go.Proofs.Ytkpngpongbpfgaa
open Go.RowKit
set_option maxRecDepth 100000
/-- What the operations yield. -/
def turnV (q1 g1 q2 g2 qe : Bool) (a1x a1y a2x a2y : Option Addr) (n1x c1x r1x i1x n1y c1y r1y i1y n2x c2x r2x i2x n2y c2y r2y i2y : Nat) (s1 s2 : Int) (j : Nat) : Value :=
  ([.agg #[.bool q1, .bool g1, .slice a1x n1x c1x, .complex .f64 r1x i1x],
    .agg #[.bool q1, .bool g1, .slice a1x n1x c1x, .float .f64 r1x, .float .f64 i1x],
    .agg #[.bool q1, .bool g1, .slice a1y n1y c1y, .complex .f64 r1y i1y],
    .agg #[.bool q1, .bool g1, .slice a1y n1y c1y, .float .f64 r1y, .float .f64 i1y],
    .bool true,
    .bool true,
    .int .i64 s1,
    .int .i64 s1,
    .bool true,
    .bool true,
    .bool true,
    .agg #[.bool q2, .bool g2, .slice a2x n2x c2x, .complex .f64 r2x i2x],
    .agg #[.bool q2, .bool g2, .slice a2x n2x c2x, .float .f64 r2x, .float .f64 i2x],
    .agg #[.bool q2, .bool g2, .slice a2y n2y c2y, .complex .f64 r2y i2y],
    .agg #[.bool q2, .bool g2, .slice a2y n2y c2y, .float .f64 r2y, .float .f64 i2y],
    .bool true,
    .bool true,
    .bool true,
    .int .i64 s2,
    .int .i64 s2,
    .bool true,
    .bool true,
    .bool true,
    .bool qe,
    .bool qe,
    .bool true,
    .bool true,
    .bool true,
    .bool true,
    .bool true] : List Value).getD j undef
theorem turnV_list {l : List Value} (hh : l.length = 30) : ∃ v0 v1 v2 v3 v4 v5 v6 v7 v8 v9 v10 v11 v12 v13 v14 v15 v16 v17 v18 v19 v20 v21 v22 v23 v24 v25 v26 v27 v28 v29, l = [v0, v1, v2, v3, v4, v5, v6, v7, v8, v9, v10, v11, v12, v13, v14, v15, v16, v17, v18, v19, v20, v21, v22, v23, v24, v25, v26, v27, v28, v29] := by
  obtain ⟨v0, t0, rfl, h0⟩ := cons_of hh
  obtain ⟨v1, t1, rfl, h1⟩ := cons_of h0
  obtain ⟨v2, t2, rfl, h2⟩ := cons_of h1
  obtain ⟨v3, t3, rfl, h3⟩ := cons_of h2
  obtain ⟨v4, t4, rfl, h4⟩ := cons_of h3
  obtain ⟨v5, t5, rfl, h5⟩ := cons_of h4
  obtain ⟨v6, t6, rfl, h6⟩ := cons_of h5
  obtain ⟨v7, t7, rfl, h7⟩ := cons_of h6
  obtain ⟨v8, t8, rfl, h8⟩ := cons_of h7
  obtain ⟨v9, t9, rfl, h9⟩ := cons_of h8
  obtain ⟨v10, t10, rfl, h10⟩ := cons_of h9
  obtain ⟨v11, t11, rfl, h11⟩ := cons_of h10
  obtain ⟨v12, t12, rfl, h12⟩ := cons_of h11
  obtain ⟨v13, t13, rfl, h13⟩ := cons_of h12
  obtain ⟨v14, t14, rfl, h14⟩ := cons_of h13
  obtain ⟨v15, t15, rfl, h15⟩ := cons_of h14
  obtain ⟨v16, t16, rfl, h16⟩ := cons_of h15
  obtain ⟨v17, t17, rfl, h17⟩ := cons_of h16
  obtain ⟨v18, t18, rfl, h18⟩ := cons_of h17
  obtain ⟨v19, t19, rfl, h19⟩ := cons_of h18
  obtain ⟨v20, t20, rfl, h20⟩ := cons_of h19
  obtain ⟨v21, t21, rfl, h21⟩ := cons_of h20
  obtain ⟨v22, t22, rfl, h22⟩ := cons_of h21
  obtain ⟨v23, t23, rfl, h23⟩ := cons_of h22
  obtain ⟨v24, t24, rfl, h24⟩ := cons_of h23
  obtain ⟨v25, t25, rfl, h25⟩ := cons_of h24
  obtain ⟨v26, t26, rfl, h26⟩ := cons_of h25
  obtain ⟨v27, t27, rfl, h27⟩ := cons_of h26
  obtain ⟨v28, t28, rfl, h28⟩ := cons_of h27
  obtain ⟨v29, t29, rfl, h29⟩ := cons_of h28
  obtain rfl := List.eq_nil_of_length_eq_zero h29
  exact ⟨_, _, _, _, _, _, _, _, _, _, _, _, _, _, _, _, _, _, _, _, _, _, _, _, _, _, _, _, _, _, rfl⟩
set_option maxHeartbeats 8000000 in
theorem turned_law {w : World} (p1 n1 p2 n2 : Bool) (x1 y1 x2 y2 : Nat) {ja ka : Option Addr} {jn jc kn kc : Nat} {xs ys : List Int} (h1 : IsB w ja jn jc xs) (h2 : IsB w ka kn kc ys) (hjl : jn ≤ 140737488351232) (hkl : kn ≤ 140737488351232) :
    Calls Try.prog 5 #[.agg #[.bool p1, .bool n1, .slice ja jn jc, .float .f64 x1, .float .f64 y1], .agg #[.bool p2, .bool n2, .slice ka kn kc, .float .f64 x2, .float .f64 y2]] w fun e w' => e = .returned (.bool true) ∧ Below w.heap.size w w' := by
  have hxs := h1.size
  have hys := h2.size
  obtain ⟨qe, hqe⟩ : ∃ q, Hid (eqT p1 n1 xs x1 y1 p2 n2 ys x2 y2 = q) := ⟨_, rfl⟩
  have hqf : Hid (eqT p2 n2 ys x2 y2 p1 n1 xs x1 y1 = qe) := by
    have := hqe.out
    rw [eqT_turn] at this
    exact this
  have E2 := oldF (newF w (numR p1 n1 (.slice ja jn jc) x1 y1)) (numR p2 n2 (.slice ka kn kc) x2 y2)
  have E3 := newF (w.alloc (numR p1 n1 (.slice ja jn jc) x1 y1)) (numR p2 n2 (.slice ka kn kc) x2 y2)
  have B : Below w.heap.size w ((w.alloc (numR p1 n1 (.slice ja jn jc) x1 y1)).alloc (numR p2 n2 (.slice ka kn kc) x2 y2)) := below_sizeF box_belowF (Nat.le_refl _) box_belowF
  rw [size1] at E3
  have IJ := h1.below B
  have IK := h2.below B
  unfold numR at E2 E3 B IJ IK
  have hsc := stC_run
  go_enter Try.func5, Try.ntmps5
  go_wp2_with fail
  generalize (w.alloc (.cells #[.bool p1, .bool n1, .slice ja jn jc, .float .f64 x1, .float .f64 y1] 27)).alloc (.cells #[.bool p2, .bool n2, .slice ka kn kc, .float .f64 x2, .float .f64 y2] 27) = w0 at *
  generalize w.heap.size + 1 = b3 at *
  obtain ⟨b2, hb2⟩ : ∃ b, b = w.heap.size := ⟨_, rfl⟩
  rw [← hb2] at E2 ⊢
  clear hb2
  replace E2 : w0.heap[b2]? = some (numR p1 n1 (.slice ja jn jc) x1 y1) := E2
  replace E3 : w0.heap[b3]? = some (numR p2 n2 (.slice ka kn kc) x2 y2) := E3
  refine (given_N p1 n1 x1 y1 IJ hjl).mono ?_
  rintro e w1 ⟨ga, rfl, IG, H1⟩
  replace E2 := (H1.block _ (lt_of_blockF E2)).trans E2
  replace E3 := (H1.block _ (lt_of_blockF E3)).trans E3
  replace IJ := IJ.below H1
  replace IK := IK.below H1
  replace B := below_sizeF B (Nat.le_refl _) H1
  clear H1
  have IA : IsB w1 (some ⟨ga, 0, none⟩) jn (jn + 8) xs := IG.front (ys := pad) hxs
  clear IG IJ
  replace E2 := oldF E2 (numP p1 n1 (.slice (some ⟨ga, 0, none⟩) jn (jn + 8)) x1 y1)
  replace E3 := oldF E3 (numP p1 n1 (.slice (some ⟨ga, 0, none⟩) jn (jn + 8)) x1 y1)
  replace IK := IK.below (box_belowF (o := numP p1 n1 (.slice (some ⟨ga, 0, none⟩) jn (jn + 8)) x1 y1))
  replace IA := IA.below (box_belowF (o := numP p1 n1 (.slice (some ⟨ga, 0, none⟩) jn (jn + 8)) x1 y1))
  have EA := newF w1 (numP p1 n1 (.slice (some ⟨ga, 0, none⟩) jn (jn + 8)) x1 y1)
  replace B := below_sizeF B (Nat.le_refl _) (box_belowF (w := w1) (o := numP p1 n1 (.slice (some ⟨ga, 0, none⟩) jn (jn + 8)) x1 y1))
  unfold numP at E2 E3 EA IK IA B
  obtain ⟨x00, x01, x02, x03, x04, x05⟩ := numR_cells (p := p2) (m := n2) (v := .slice ka kn kc) (x := x2) (y := y2) E3
  go_wp2_with fail
  generalize w1.alloc (.cells #[.bool p1, .bool n1, .slice (some ⟨ga, 0, none⟩) jn (jn + 8), .complex .f64 x1 y1] 31) = u1 at *
  generalize w1.heap.size = bA at *
  replace E2 : _ = some (numR p1 n1 (.slice ja jn jc) x1 y1) := E2
  replace E3 : _ = some (numR p2 n2 (.slice ka kn kc) x2 y2) := E3
  replace EA : _ = some (numP p1 n1 (.slice (some ⟨ga, 0, none⟩) jn (jn + 8)) x1 y1) := EA
  clear x00 x01 x02 x03 x04 x05
  refine (given_N p2 n2 x2 y2 IK hkl).mono ?_
  rintro e w2 ⟨gb, rfl, IG, H2⟩
  replace E2 := (H2.block _ (lt_of_blockF E2)).trans E2
  replace E3 := (H2.block _ (lt_of_blockF E3)).trans E3
  replace EA := (H2.block _ (lt_of_blockF EA)).trans EA
  replace IK := IK.below H2
  replace IA := IA.below H2
  replace B := below_sizeF B (Nat.le_refl _) H2
  clear H2
  have IB : IsB w2 (some ⟨gb, 0, none⟩) kn (kn + 8) ys := IG.front (ys := pad) hys
  clear IG IK E2 E3
  replace EA := oldF EA (numP p2 n2 (.slice (some ⟨gb, 0, none⟩) kn (kn + 8)) x2 y2)
  replace IA := IA.below (box_belowF (o := numP p2 n2 (.slice (some ⟨gb, 0, none⟩) kn (kn + 8)) x2 y2))
  replace IB := IB.below (box_belowF (o := numP p2 n2 (.slice (some ⟨gb, 0, none⟩) kn (kn + 8)) x2 y2))
  have EB := newF w2 (numP p2 n2 (.slice (some ⟨gb, 0, none⟩) kn (kn + 8)) x2 y2)
  replace B := below_sizeF B (Nat.le_refl _) (box_belowF (w := w2) (o := numP p2 n2 (.slice (some ⟨gb, 0, none⟩) kn (kn + 8)) x2 y2))
  unfold numP at EA EB IA IB B
  obtain ⟨x00, x01, x02, x03, x04⟩ := numP_cells (p := p1) (m := n1) (v := .slice (some ⟨ga, 0, none⟩) jn (jn + 8)) (x := x1) (y := y1) EA
  obtain ⟨x10, x11, x12, x13, x14⟩ := numP_cells (p := p2) (m := n2) (v := .slice (some ⟨gb, 0, none⟩) kn (kn + 8)) (x := x2) (y := y2) EB
  go_wp2_with fail
  generalize w2.alloc (.cells #[.bool p2, .bool n2, .slice (some ⟨gb, 0, none⟩) kn (kn + 8), .complex .f64 x2 y2] 31) = u2 at *
  generalize w2.heap.size = bB at *
  replace EA : _ = some (numP p1 n1 (.slice (some ⟨ga, 0, none⟩) jn (jn + 8)) x1 y1) := EA
  replace EB : _ = some (numP p2 n2 (.slice (some ⟨gb, 0, none⟩) kn (kn + 8)) x2 y2) := EB
  clear x00 x01 x02 x03 x04 x10 x11 x12 x13 x14
  refine (plus_all p1 n1 p2 n2 x1 y1 x2 y2 IA IB).mono ?_
  rintro e w3 ⟨q1, g1, a1x, n1x, c1x, r1x, i1x, s1, ms1, rfl, I1x, R1x, H3⟩
  replace EA := (H3.block _ (lt_of_blockF EA)).trans EA
  replace EB := (H3.block _ (lt_of_blockF EB)).trans EB
  replace IA := IA.below H3
  replace IB := IB.below H3
  replace B := below_sizeF B (Nat.le_refl _) H3
  clear H3
  replace EA := oldF EA (numP q1 g1 (.slice a1x n1x c1x) r1x i1x)
  replace EB := oldF EB (numP q1 g1 (.slice a1x n1x c1x) r1x i1x)
  replace IA := IA.below (box_belowF (o := numP q1 g1 (.slice a1x n1x c1x) r1x i1x))
  replace IB := IB.below (box_belowF (o := numP q1 g1 (.slice a1x n1x c1x) r1x i1x))
  replace I1x := I1x.below (box_belowF (o := numP q1 g1 (.slice a1x n1x c1x) r1x i1x))
  have E1x := newF w3 (numP q1 g1 (.slice a1x n1x c1x) r1x i1x)
  replace B := below_sizeF B (Nat.le_refl _) (box_belowF (w := w3) (o := numP q1 g1 (.slice a1x n1x c1x) r1x i1x))
  unfold numP at EA EB E1x IA IB I1x B
  obtain ⟨x00, x01, x02, x03, x04⟩ := numP_cells (p := p1) (m := n1) (v := .slice (some ⟨ga, 0, none⟩) jn (jn + 8)) (x := x1) (y := y1) EA
  obtain ⟨x10, x11, x12, x13, x14⟩ := numP_cells (p := p2) (m := n2) (v := .slice (some ⟨gb, 0, none⟩) kn (kn + 8)) (x := x2) (y := y2) EB
  go_wp2_with fail
  generalize w3.alloc (.cells #[.bool q1, .bool g1, .slice a1x n1x c1x, .complex .f64 r1x i1x] 31) = u3 at *
  generalize w3.heap.size = b1x at *
  replace EA : _ = some (numP p1 n1 (.slice (some ⟨ga, 0, none⟩) jn (jn + 8)) x1 y1) := EA
  replace EB : _ = some (numP p2 n2 (.slice (some ⟨gb, 0, none⟩) kn (kn + 8)) x2 y2) := EB
  replace E1x : _ = some (numP q1 g1 (.slice a1x n1x c1x) r1x i1x) := E1x
  clear x00 x01 x02 x03 x04 x10 x11 x12 x13 x14
  refine (plus_all p2 n2 p1 n1 x2 y2 x1 y1 IB IA).mono ?_
  rintro e w4 ⟨q1', g1', a1y, n1y, c1y, r1y, i1y, s1', ms1', rfl, I1y, R1y, H4⟩
  replace EA := (H4.block _ (lt_of_blockF EA)).trans EA
  replace EB := (H4.block _ (lt_of_blockF EB)).trans EB
  replace E1x := (H4.block _ (lt_of_blockF E1x)).trans E1x
  replace IA := IA.below H4
  replace IB := IB.below H4
  replace I1x := I1x.below H4
  replace B := below_sizeF B (Nat.le_refl _) H4
  clear H4
  obtain ⟨rfl, rfl, rfl, rfl, hr1, hi1⟩ := plus_turn R1x R1y
  clear R1x R1y
  replace EA := oldF EA (numP q1 g1 (.slice a1y n1y c1y) r1y i1y)
  replace EB := oldF EB (numP q1 g1 (.slice a1y n1y c1y) r1y i1y)
  replace E1x := oldF E1x (numP q1 g1 (.slice a1y n1y c1y) r1y i1y)
  replace IA := IA.below (box_belowF (o := numP q1 g1 (.slice a1y n1y c1y) r1y i1y))
  replace IB := IB.below (box_belowF (o := numP q1 g1 (.slice a1y n1y c1y) r1y i1y))
  replace I1x := I1x.below (box_belowF (o := numP q1 g1 (.slice a1y n1y c1y) r1y i1y))
  replace I1y := I1y.below (box_belowF (o := numP q1 g1 (.slice a1y n1y c1y) r1y i1y))
  have E1y := newF w4 (numP q1 g1 (.slice a1y n1y c1y) r1y i1y)
  replace B := below_sizeF B (Nat.le_refl _) (box_belowF (w := w4) (o := numP q1 g1 (.slice a1y n1y c1y) r1y i1y))
  unfold numP at EA EB E1x E1y IA IB I1x I1y B
  obtain ⟨x00, x01, x02, x03, x04⟩ := numP_cells (p := p1) (m := n1) (v := .slice (some ⟨ga, 0, none⟩) jn (jn + 8)) (x := x1) (y := y1) EA
  obtain ⟨x10, x11, x12, x13, x14⟩ := numP_cells (p := p2) (m := n2) (v := .slice (some ⟨gb, 0, none⟩) kn (kn + 8)) (x := x2) (y := y2) EB
  go_wp2_with fail
  generalize w4.alloc (.cells #[.bool q1, .bool g1, .slice a1y n1y c1y, .complex .f64 r1y i1y] 31) = u4 at *
  generalize w4.heap.size = b1y at *
  replace EA : _ = some (numP p1 n1 (.slice (some ⟨ga, 0, none⟩) jn (jn + 8)) x1 y1) := EA
  replace EB : _ = some (numP p2 n2 (.slice (some ⟨gb, 0, none⟩) kn (kn + 8)) x2 y2) := EB
  replace E1x : _ = some (numP q1 g1 (.slice a1x n1x c1x) r1x i1x) := E1x
  replace E1y : _ = some (numP q1 g1 (.slice a1y n1y c1y) r1y i1y) := E1y
  clear x00 x01 x02 x03 x04 x10 x11 x12 x13 x14
  refine (timesN_all p1 n1 p2 n2 x1 y1 x2 y2 IA IB).mono ?_
  rintro e w5 ⟨q2, g2, a2x, n2x, c2x, r2x, i2x, s2, ms2, rfl, I2x, R2x, H5⟩
  replace EA := (H5.block _ (lt_of_blockF EA)).trans EA
  replace EB := (H5.block _ (lt_of_blockF EB)).trans EB
  replace E1x := (H5.block _ (lt_of_blockF E1x)).trans E1x
  replace E1y := (H5.block _ (lt_of_blockF E1y)).trans E1y
  replace IA := IA.below H5
  replace IB := IB.below H5
  replace I1x := I1x.below H5
  replace I1y := I1y.below H5
  replace B := below_sizeF B (Nat.le_refl _) H5
  clear H5
  replace EA := oldF EA (numP q2 g2 (.slice a2x n2x c2x) r2x i2x)
  replace EB := oldF EB (numP q2 g2 (.slice a2x n2x c2x) r2x i2x)
  replace E1x := oldF E1x (numP q2 g2 (.slice a2x n2x c2x) r2x i2x)
  replace E1y := oldF E1y (numP q2 g2 (.slice a2x n2x c2x) r2x i2x)
  replace IA := IA.below (box_belowF (o := numP q2 g2 (.slice a2x n2x c2x) r2x i2x))
  replace IB := IB.below (box_belowF (o := numP q2 g2 (.slice a2x n2x c2x) r2x i2x))
  replace I1x := I1x.below (box_belowF (o := numP q2 g2 (.slice a2x n2x c2x) r2x i2x))
  replace I1y := I1y.below (box_belowF (o := numP q2 g2 (.slice a2x n2x c2x) r2x i2x))
  replace I2x := I2x.below (box_belowF (o := numP q2 g2 (.slice a2x n2x c2x) r2x i2x))
  have E2x := newF w5 (numP q2 g2 (.slice a2x n2x c2x) r2x i2x)
  replace B := below_sizeF B (Nat.le_refl _) (box_belowF (w := w5) (o := numP q2 g2 (.slice a2x n2x c2x) r2x i2x))
  unfold numP at EA EB E1x E1y E2x IA IB I1x I1y I2x B
  obtain ⟨x00, x01, x02, x03, x04⟩ := numP_cells (p := p1) (m := n1) (v := .slice (some ⟨ga, 0, none⟩) jn (jn + 8)) (x := x1) (y := y1) EA
  obtain ⟨x10, x11, x12, x13, x14⟩ := numP_cells (p := p2) (m := n2) (v := .slice (some ⟨gb, 0, none⟩) kn (kn + 8)) (x := x2) (y := y2) EB
  go_wp2_with fail
  generalize w5.alloc (.cells #[.bool q2, .bool g2, .slice a2x n2x c2x, .complex .f64 r2x i2x] 31) = u5 at *
  generalize w5.heap.size = b2x at *
  replace EA : _ = some (numP p1 n1 (.slice (some ⟨ga, 0, none⟩) jn (jn + 8)) x1 y1) := EA
  replace EB : _ = some (numP p2 n2 (.slice (some ⟨gb, 0, none⟩) kn (kn + 8)) x2 y2) := EB
  replace E1x : _ = some (numP q1 g1 (.slice a1x n1x c1x) r1x i1x) := E1x
  replace E1y : _ = some (numP q1 g1 (.slice a1y n1y c1y) r1y i1y) := E1y
  replace E2x : _ = some (numP q2 g2 (.slice a2x n2x c2x) r2x i2x) := E2x
  clear x00 x01 x02 x03 x04 x10 x11 x12 x13 x14
  refine (timesN_all p2 n2 p1 n1 x2 y2 x1 y1 IB IA).mono ?_
  rintro e w6 ⟨q2', g2', a2y, n2y, c2y, r2y, i2y, s2', ms2', rfl, I2y, R2y, H6⟩
  replace EA := (H6.block _ (lt_of_blockF EA)).trans EA
  replace EB := (H6.block _ (lt_of_blockF EB)).trans EB
  replace E1x := (H6.block _ (lt_of_blockF E1x)).trans E1x
  replace E1y := (H6.block _ (lt_of_blockF E1y)).trans E1y
  replace E2x := (H6.block _ (lt_of_blockF E2x)).trans E2x
  replace IA := IA.below H6
  replace IB := IB.below H6
  replace I1x := I1x.below H6
  replace I1y := I1y.below H6
  replace I2x := I2x.below H6
  replace B := below_sizeF B (Nat.le_refl _) H6
  clear H6
  obtain ⟨rfl, rfl, rfl, rfl, hr2, hi2⟩ := timesN_turn R2x R2y
  clear R2x R2y
  replace EA := oldF EA (numP q2 g2 (.slice a2y n2y c2y) r2y i2y)
  replace EB := oldF EB (numP q2 g2 (.slice a2y n2y c2y) r2y i2y)
  replace E1x := oldF E1x (numP q2 g2 (.slice a2y n2y c2y) r2y i2y)
  replace E1y := oldF E1y (numP q2 g2 (.slice a2y n2y c2y) r2y i2y)
  replace E2x := oldF E2x (numP q2 g2 (.slice a2y n2y c2y) r2y i2y)
  replace IA := IA.below (box_belowF (o := numP q2 g2 (.slice a2y n2y c2y) r2y i2y))
  replace IB := IB.below (box_belowF (o := numP q2 g2 (.slice a2y n2y c2y) r2y i2y))
  replace I1x := I1x.below (box_belowF (o := numP q2 g2 (.slice a2y n2y c2y) r2y i2y))
  replace I1y := I1y.below (box_belowF (o := numP q2 g2 (.slice a2y n2y c2y) r2y i2y))
  replace I2x := I2x.below (box_belowF (o := numP q2 g2 (.slice a2y n2y c2y) r2y i2y))
  replace I2y := I2y.below (box_belowF (o := numP q2 g2 (.slice a2y n2y c2y) r2y i2y))
  have E2y := newF w6 (numP q2 g2 (.slice a2y n2y c2y) r2y i2y)
  replace B := below_sizeF B (Nat.le_refl _) (box_belowF (w := w6) (o := numP q2 g2 (.slice a2y n2y c2y) r2y i2y))
  unfold numP at EA EB E1x E1y E2x E2y IA IB I1x I1y I2x I2y B
  obtain ⟨x00, x01, x02, x03, x04⟩ := numP_cells (p := p1) (m := n1) (v := .slice (some ⟨ga, 0, none⟩) jn (jn + 8)) (x := x1) (y := y1) EA
  obtain ⟨x10, x11, x12, x13, x14⟩ := numP_cells (p := p2) (m := n2) (v := .slice (some ⟨gb, 0, none⟩) kn (kn + 8)) (x := x2) (y := y2) EB
  go_wp2_with fail
  generalize w6.alloc (.cells #[.bool q2, .bool g2, .slice a2y n2y c2y, .complex .f64 r2y i2y] 31) = u6 at *
  generalize w6.heap.size = b2y at *
  replace EA : _ = some (numP p1 n1 (.slice (some ⟨ga, 0, none⟩) jn (jn + 8)) x1 y1) := EA
  replace EB : _ = some (numP p2 n2 (.slice (some ⟨gb, 0, none⟩) kn (kn + 8)) x2 y2) := EB
  replace E1x : _ = some (numP q1 g1 (.slice a1x n1x c1x) r1x i1x) := E1x
  replace E1y : _ = some (numP q1 g1 (.slice a1y n1y c1y) r1y i1y) := E1y
  replace E2x : _ = some (numP q2 g2 (.slice a2x n2x c2x) r2x i2x) := E2x
  replace E2y : _ = some (numP q2 g2 (.slice a2y n2y c2y) r2y i2y) := E2y
  clear x00 x01 x02 x03 x04 x10 x11 x12 x13 x14
  refine (equal_all p1 n1 p2 n2 x1 y1 x2 y2 hqe IA IB).mono ?_
  rintro e w7 ⟨e1, rfl, H7⟩
  replace EA := (H7.block _ (lt_of_blockF EA)).trans EA
  replace EB := (H7.block _ (lt_of_blockF EB)).trans EB
  replace E1x := (H7.block _ (lt_of_blockF E1x)).trans E1x
  replace E1y := (H7.block _ (lt_of_blockF E1y)).trans E1y
  replace E2x := (H7.block _ (lt_of_blockF E2x)).trans E2x
  replace E2y := (H7.block _ (lt_of_blockF E2y)).trans E2y
  replace IA := IA.below H7
  replace IB := IB.below H7
  replace I1x := I1x.below H7
  replace I1y := I1y.below H7
  replace I2x := I2x.below H7
  replace I2y := I2y.below H7
  replace B := below_sizeF B (Nat.le_refl _) H7
  clear H7
  replace EA := oldF EA (numP false false (.slice none 0 0) 0 0)
  replace EB := oldF EB (numP false false (.slice none 0 0) 0 0)
  replace E1x := oldF E1x (numP false false (.slice none 0 0) 0 0)
  replace E1y := oldF E1y (numP false false (.slice none 0 0) 0 0)
  replace E2x := oldF E2x (numP false false (.slice none 0 0) 0 0)
  replace E2y := oldF E2y (numP false false (.slice none 0 0) 0 0)
  replace IA := IA.below (box_belowF (o := numP false false (.slice none 0 0) 0 0))
  replace IB := IB.below (box_belowF (o := numP false false (.slice none 0 0) 0 0))
  replace I1x := I1x.below (box_belowF (o := numP false false (.slice none 0 0) 0 0))
  replace I1y := I1y.below (box_belowF (o := numP false false (.slice none 0 0) 0 0))
  replace I2x := I2x.below (box_belowF (o := numP false false (.slice none 0 0) 0 0))
  replace I2y := I2y.below (box_belowF (o := numP false false (.slice none 0 0) 0 0))
  have EZ := newF w7 (numP false false (.slice none 0 0) 0 0)
  replace B := below_sizeF B (Nat.le_refl _) (box_belowF (w := w7) (o := numP false false (.slice none 0 0) 0 0))
  unfold numP at EA EB E1x E1y E2x E2y EZ IA IB I1x I1y I2x I2y B
  obtain ⟨x00, x01, x02, x03, x04⟩ := numP_cells (p := p1) (m := n1) (v := .slice (some ⟨ga, 0, none⟩) jn (jn + 8)) (x := x1) (y := y1) EA
  obtain ⟨x10, x11, x12, x13, x14⟩ := numP_cells (p := p2) (m := n2) (v := .slice (some ⟨gb, 0, none⟩) kn (kn + 8)) (x := x2) (y := y2) EB
  go_wp2_with fail
  generalize w7.alloc (.cells #[.bool false, .bool false, .slice none 0 0, .complex .f64 0 0] 31) = u7 at *
  generalize w7.heap.size = bZ at *
  replace EA : _ = some (numP p1 n1 (.slice (some ⟨ga, 0, none⟩) jn (jn + 8)) x1 y1) := EA
  replace EB : _ = some (numP p2 n2 (.slice (some ⟨gb, 0, none⟩) kn (kn + 8)) x2 y2) := EB
  replace E1x : _ = some (numP q1 g1 (.slice a1x n1x c1x) r1x i1x) := E1x
  replace E1y : _ = some (numP q1 g1 (.slice a1y n1y c1y) r1y i1y) := E1y
  replace E2x : _ = some (numP q2 g2 (.slice a2x n2x c2x) r2x i2x) := E2x
  replace E2y : _ = some (numP q2 g2 (.slice a2y n2y c2y) r2y i2y) := E2y
  replace EZ : _ = some (numP false false (.slice none 0 0) 0 0) := EZ
  clear x00 x01 x02 x03 x04 x10 x11 x12 x13 x14
  clear EZ
  refine (equal_all p2 n2 p1 n1 x2 y2 x1 y1 hqf IB IA).mono ?_
  rintro e w8 ⟨e2, rfl, H8⟩
  replace EA := (H8.block _ (lt_of_blockF EA)).trans EA
  replace EB := (H8.block _ (lt_of_blockF EB)).trans EB
  replace E1x := (H8.block _ (lt_of_blockF E1x)).trans E1x
  replace E1y := (H8.block _ (lt_of_blockF E1y)).trans E1y
  replace E2x := (H8.block _ (lt_of_blockF E2x)).trans E2x
  replace E2y := (H8.block _ (lt_of_blockF E2y)).trans E2y
  replace IA := IA.below H8
  replace IB := IB.below H8
  replace I1x := I1x.below H8
  replace I1y := I1y.below H8
  replace I2x := I2x.below H8
  replace I2y := I2y.below H8
  replace B := below_sizeF B (Nat.le_refl _) H8
  clear H8
  replace EA := oldF EA (numP false false (.slice none 0 0) 0 0)
  replace EB := oldF EB (numP false false (.slice none 0 0) 0 0)
  replace E1x := oldF E1x (numP false false (.slice none 0 0) 0 0)
  replace E1y := oldF E1y (numP false false (.slice none 0 0) 0 0)
  replace E2x := oldF E2x (numP false false (.slice none 0 0) 0 0)
  replace E2y := oldF E2y (numP false false (.slice none 0 0) 0 0)
  replace IA := IA.below (box_belowF (o := numP false false (.slice none 0 0) 0 0))
  replace IB := IB.below (box_belowF (o := numP false false (.slice none 0 0) 0 0))
  replace I1x := I1x.below (box_belowF (o := numP false false (.slice none 0 0) 0 0))
  replace I1y := I1y.below (box_belowF (o := numP false false (.slice none 0 0) 0 0))
  replace I2x := I2x.below (box_belowF (o := numP false false (.slice none 0 0) 0 0))
  replace I2y := I2y.below (box_belowF (o := numP false false (.slice none 0 0) 0 0))
  have EY := newF w8 (numP false false (.slice none 0 0) 0 0)
  replace B := below_sizeF B (Nat.le_refl _) (box_belowF (w := w8) (o := numP false false (.slice none 0 0) 0 0))
  unfold numP at EA EB E1x E1y E2x E2y EY IA IB I1x I1y I2x I2y B
  go_upto_region 9 with fail
  generalize w8.alloc (.cells #[.bool false, .bool false, .slice none 0 0, .complex .f64 0 0] 31) = u8 at *
  generalize w8.heap.size = bY at *
  replace EA : _ = some (numP p1 n1 (.slice (some ⟨ga, 0, none⟩) jn (jn + 8)) x1 y1) := EA
  replace EB : _ = some (numP p2 n2 (.slice (some ⟨gb, 0, none⟩) kn (kn + 8)) x2 y2) := EB
  replace E1x : _ = some (numP q1 g1 (.slice a1x n1x c1x) r1x i1x) := E1x
  replace E1y : _ = some (numP q1 g1 (.slice a1y n1y c1y) r1y i1y) := E1y
  replace E2x : _ = some (numP q2 g2 (.slice a2x n2x c2x) r2x i2x) := E2x
  replace E2y : _ = some (numP q2 g2 (.slice a2y n2y c2y) r2y i2y) := E2y
  replace EY : _ = some (numP false false (.slice none 0 0) 0 0) := EY
  clear EY EA EB IA IB hqe hqf hsc
  generalize u8 = wb at *
  refine abstract_act fun A hA => ?_
  have hsz : A.tmps.size = 101 := by rw [hA]; rfl
  have st : A.tmps[4]? = some (.bool false) := by rw [hA]; rfl
  have s7 : A.tmps[7]? = some (.pointer (some ⟨b1x, 0, none⟩)) := by rw [hA]; rfl
  have s10 : A.tmps[10]? = some (.pointer (some ⟨b1y, 0, none⟩)) := by rw [hA]; rfl
  have s13 : A.tmps[13]? = some (.pointer (some ⟨b2x, 0, none⟩)) := by rw [hA]; rfl
  have s16 : A.tmps[16]? = some (.pointer (some ⟨b2y, 0, none⟩)) := by rw [hA]; rfl
  have s9 : A.tmps[9]? = some (.int .i64 s1) := by rw [hA]; rfl
  have s12 : A.tmps[12]? = some (.int .i64 s1) := by rw [hA]; rfl
  have s15 : A.tmps[15]? = some (.int .i64 s2) := by rw [hA]; rfl
  have s18 : A.tmps[18]? = some (.int .i64 s2) := by rw [hA]; rfl
  have s20 : A.tmps[20]? = some (.bool qe) := by rw [hA]; rfl
  have s23 : A.tmps[23]? = some (.bool qe) := by rw [hA]; rfl
  refine wp_region_inv2' (fun A D a w' => ∃ (l : List Value) (vt : Value), a = (putAll A 71 l).put (some 4) vt ∧ l.length = 30 ∧ Below wb.heap.size wb w' ∧ (∀ j, j < 30 → D j → l[j]? = some (turnV q1 g1 q2 g2 qe a1x a1y a2x a2y n1x c1x r1x i1x n1y c1y r1y i1y n2x c2x r2x i2x n2y c2y r2y i2y s1 s2 j)) ∧ (D 30 → vt = .bool true)) (by kernel_rfl) (by kernel_rfl) ?mono ?start ?step ?done
  case mono =>
    rintro D D' a w' hD ⟨l, vt, ha, hlen, hB, hl, hvt⟩
    exact ⟨l, vt, ha, hlen, hB, fun j hj h => hl j hj ((hD j).2 h), fun h => hvt ((hD 30).2 h)⟩
  case start => exact ⟨_, _, putT_start A 71 30 4 _ (by omega) (by decide) st, (putAll_start A 71 30 (by omega)).2, (Below.refl _ _).drew, fun _ _ h => h.elim, fun h => h.elim⟩
  case step =>
    clear hA
    intro i o ho D a w' hI hn hcl hd
    obtain ⟨l, vt, ha, hlen, hB, hl, hvt⟩ := hI
    match i, ho with
    | 0, ho =>
      cases Option.some.inj ho
      refine ⟨rfl, ?_⟩
      have ev : a.tmps[7]? = some (.pointer (some ⟨b1x, 0, none⟩)) := by rw [ha, putT_other _ _ _ _ (by decide), putAll_low A 71 7 l (by omega) (by decide)]; exact s7
      obtain ⟨z0, z1, z2, z3, _⟩ := numP_cells ((hB.block _ (lt_of_blockF E1x)).trans E1x)
      refine wp_value (w' := w') (v := .agg #[.bool q1, .bool g1, .slice a1x n1x c1x, .complex .f64 r1x i1x]) (by simp [execOp, ev, go_sem, z0, z1, z2, z3]) ?_
      exact ⟨_, vt, by rw [ha]; exact putT_put A 71 0 4 l _ _ (by omega) (by omega) (by decide), by rw [List.length_set]; exact hlen, hB, set_known hlen (by decide) hl, fun h => hvt (h.resolve_left (by decide))⟩
    | 1, ho =>
      cases Option.some.inj ho
      refine ⟨rfl, ?_⟩
      have ev : a.tmps[71]? = some (.agg #[.bool q1, .bool g1, .slice a1x n1x c1x, .complex .f64 r1x i1x]) := known_atT ha hsz hlen hl 0 (by decide) (hd ⟨0, .data⟩ (by simp) rfl)
      refine wp_enter (f := 12) (args := #[.agg #[.bool q1, .bool g1, .slice a1x n1x c1x, .complex .f64 r1x i1x]]) (by simp [execOp, ev, go_sem]) ?_
      refine (taken_N q1 g1 (.slice a1x n1x c1x) r1x i1x ⟨_, _, _, rfl⟩).mono ?_
      rintro e w6 ⟨rfl, HB⟩
      refine ⟨_, rfl, ?_⟩
      exact ⟨_, vt, by rw [ha]; exact putT_put A 71 1 4 l _ _ (by omega) (by omega) (by decide), by rw [List.length_set]; exact hlen, below_size hB (Nat.le_refl _) HB, set_known hlen (by decide) hl, fun h => hvt (h.resolve_left (by decide))⟩
    | 2, ho =>
      cases Option.some.inj ho
      refine ⟨rfl, ?_⟩
      have ev : a.tmps[10]? = some (.pointer (some ⟨b1y, 0, none⟩)) := by rw [ha, putT_other _ _ _ _ (by decide), putAll_low A 71 10 l (by omega) (by decide)]; exact s10
      obtain ⟨z0, z1, z2, z3, _⟩ := numP_cells ((hB.block _ (lt_of_blockF E1y)).trans E1y)
      refine wp_value (w' := w') (v := .agg #[.bool q1, .bool g1, .slice a1y n1y c1y, .complex .f64 r1y i1y]) (by simp [execOp, ev, go_sem, z0, z1, z2, z3]) ?_
      exact ⟨_, vt, by rw [ha]; exact putT_put A 71 2 4 l _ _ (by omega) (by omega) (by decide), by rw [List.length_set]; exact hlen, hB, set_known hlen (by decide) hl, fun h => hvt (h.resolve_left (by decide))⟩
    | 3, ho =>
      cases Option.some.inj ho
      refine ⟨rfl, ?_⟩
      have ev : a.tmps[73]? = some (.agg #[.bool q1, .bool g1, .slice a1y n1y c1y, .complex .f64 r1y i1y]) := known_atT ha hsz hlen hl 2 (by decide) (hd ⟨2, .data⟩ (by simp) rfl)
      refine wp_enter (f := 12) (args := #[.agg #[.bool q1, .bool g1, .slice a1y n1y c1y, .complex .f64 r1y i1y]]) (by simp [execOp, ev, go_sem]) ?_
      refine (taken_N q1 g1 (.slice a1y n1y c1y) r1y i1y ⟨_, _, _, rfl⟩).mono ?_
      rintro e w6 ⟨rfl, HB⟩
      refine ⟨_, rfl, ?_⟩
      exact ⟨_, vt, by rw [ha]; exact putT_put A 71 3 4 l _ _ (by omega) (by omega) (by decide), by rw [List.length_set]; exact hlen, below_size hB (Nat.le_refl _) HB, set_known hlen (by decide) hl, fun h => hvt (h.resolve_left (by decide))⟩
    | 4, ho =>
      cases Option.some.inj ho
      refine ⟨rfl, ?_⟩
      have ev : a.tmps[72]? = some (.agg #[.bool q1, .bool g1, .slice a1x n1x c1x, .float .f64 r1x, .float .f64 i1x]) := known_atT ha hsz hlen hl 1 (by decide) (hd ⟨1, .data⟩ (by simp) rfl)
      have ev' : a.tmps[74]? = some (.agg #[.bool q1, .bool g1, .slice a1y n1y c1y, .float .f64 r1y, .float .f64 i1y]) := known_atT ha hsz hlen hl 3 (by decide) (hd ⟨3, .data⟩ (by simp) rfl)
      refine wp_enter (f := 11) (args := #[.agg #[.bool q1, .bool g1, .slice a1x n1x c1x, .float .f64 r1x, .float .f64 i1x], .agg #[.bool q1, .bool g1, .slice a1y n1y c1y, .float .f64 r1y, .float .f64 i1y]]) (by simp [execOp, ev, ev', go_sem]) ?_
      refine (sameN_alike q1 g1 r1x i1x r1y i1y hr1 hi1 (I1x.below hB) (I1y.below hB)).mono ?_
      rintro e w6 ⟨rfl, HB⟩
      refine ⟨_, rfl, ?_⟩
      exact ⟨_, vt, by rw [ha]; exact putT_put A 71 4 4 l _ _ (by omega) (by omega) (by decide), by rw [List.length_set]; exact hlen, below_size hB (Nat.le_refl _) HB, set_known hlen (by decide) hl, fun h => hvt (h.resolve_left (by decide))⟩
    | 5, ho =>
      cases Option.some.inj ho
      refine ⟨rfl, ?_⟩
      have ev : a.tmps[75]? = some (.bool true) := known_atT ha hsz hlen hl 4 (by decide) (hd ⟨4, .data⟩ (by simp) rfl)
      refine wp_value (w' := w') (v := .bool true) (by simp [execOp, ev, go_sem]) ?_
      exact ⟨_, vt, by rw [ha]; exact putT_put A 71 5 4 l _ _ (by omega) (by omega) (by decide), by rw [List.length_set]; exact hlen, hB, set_known hlen (by decide) hl, fun h => hvt (h.resolve_left (by decide))⟩
    | 6, ho =>
      cases Option.some.inj ho
      refine ⟨wanted_of (k := 76) rfl rfl rfl (known_atT ha hsz hlen hl 5 (by decide) (hd ⟨5, .guard⟩ (by simp) rfl)), ?_⟩
      have ev : a.tmps[9]? = some (.int .i64 s1) := by rw [ha, putT_other _ _ _ _ (by decide), putAll_low A 71 9 l (by omega) (by decide)]; exact s9
      refine wp_value (w' := w') (v := .int .i64 s1) (by simp [execOp, ev, go_sem]) ?_
      exact ⟨_, vt, by rw [ha]; exact putT_put A 71 6 4 l _ _ (by omega) (by omega) (by decide), by rw [List.length_set]; exact hlen, hB, set_known hlen (by decide) hl, fun h => hvt (h.resolve_left (by decide))⟩
    | 7, ho =>
      cases Option.some.inj ho
      refine ⟨wanted_of (k := 76) rfl rfl rfl (known_atT ha hsz hlen hl 5 (by decide) (hd ⟨5, .guard⟩ (by simp) rfl)), ?_⟩
      have ev : a.tmps[12]? = some (.int .i64 s1) := by rw [ha, putT_other _ _ _ _ (by decide), putAll_low A 71 12 l (by omega) (by decide)]; exact s12
      refine wp_value (w' := w') (v := .int .i64 s1) (by simp [execOp, ev, go_sem]) ?_
      exact ⟨_, vt, by rw [ha]; exact putT_put A 71 7 4 l _ _ (by omega) (by omega) (by decide), by rw [List.length_set]; exact hlen, hB, set_known hlen (by decide) hl, fun h => hvt (h.resolve_left (by decide))⟩
    | 8, ho =>
      cases Option.some.inj ho
      refine ⟨wanted_of (k := 76) rfl rfl rfl (known_atT ha hsz hlen hl 5 (by decide) (hd ⟨5, .guard⟩ (by simp) rfl)), ?_⟩
      have ev : a.tmps[77]? = some (.int .i64 s1) := known_atT ha hsz hlen hl 6 (by decide) (hd ⟨6, .data⟩ (by simp) rfl)
      have ev' : a.tmps[78]? = some (.int .i64 s1) := known_atT ha hsz hlen hl 7 (by decide) (hd ⟨7, .data⟩ (by simp) rfl)
      refine wp_value (w' := w') (v := .bool true) (by simp [execOp, ev, ev', go_sem]) ?_
      exact ⟨_, vt, by rw [ha]; exact putT_put A 71 8 4 l _ _ (by omega) (by omega) (by decide), by rw [List.length_set]; exact hlen, hB, set_known hlen (by decide) hl, fun h => hvt (h.resolve_left (by decide))⟩
    | 9, ho =>
      cases Option.some.inj ho
      refine ⟨rfl, ?_⟩
      have ev : a.tmps[76]? = some (.bool true) := known_atT ha hsz hlen hl 5 (by decide) (hd ⟨5, .data⟩ (by simp) rfl)
      have ev' : a.tmps[79]? = some (.bool true) := known_atT ha hsz hlen hl 8 (by decide) (hd ⟨8, .data⟩ (by simp) rfl)
      refine wp_value (w' := w') (v := .bool true) (by simp [execOp, ev, ev', go_sem]) ?_
      exact ⟨_, vt, by rw [ha]; exact putT_put A 71 9 4 l _ _ (by omega) (by omega) (by decide), by rw [List.length_set]; exact hlen, hB, set_known hlen (by decide) hl, fun h => hvt (h.resolve_left (by decide))⟩
    | 10, ho =>
      cases Option.some.inj ho
      refine ⟨rfl, ?_⟩
      have ev : a.tmps[80]? = some (.bool true) := known_atT ha hsz hlen hl 9 (by decide) (hd ⟨9, .data⟩ (by simp) rfl)
      refine wp_value (w' := w') (v := .bool true) (by simp [execOp, ev, go_sem]) ?_
      exact ⟨_, vt, by rw [ha]; exact putT_put A 71 10 4 l _ _ (by omega) (by omega) (by decide), by rw [List.length_set]; exact hlen, hB, set_known hlen (by decide) hl, fun h => hvt (h.resolve_left (by decide))⟩
    | 11, ho =>
      cases Option.some.inj ho
      refine ⟨wanted_of (k := 81) rfl rfl rfl (known_atT ha hsz hlen hl 10 (by decide) (hd ⟨10, .guard⟩ (by simp) rfl)), ?_⟩
      have ev : a.tmps[13]? = some (.pointer (some ⟨b2x, 0, none⟩)) := by rw [ha, putT_other _ _ _ _ (by decide), putAll_low A 71 13 l (by omega) (by decide)]; exact s13
      obtain ⟨z0, z1, z2, z3, _⟩ := numP_cells ((hB.block _ (lt_of_blockF E2x)).trans E2x)
      refine wp_value (w' := w') (v := .agg #[.bool q2, .bool g2, .slice a2x n2x c2x, .complex .f64 r2x i2x]) (by simp [execOp, ev, go_sem, z0, z1, z2, z3]) ?_
      exact ⟨_, vt, by rw [ha]; exact putT_put A 71 11 4 l _ _ (by omega) (by omega) (by decide), by rw [List.length_set]; exact hlen, hB, set_known hlen (by decide) hl, fun h => hvt (h.resolve_left (by decide))⟩
    | 12, ho =>
      cases Option.some.inj ho
      refine ⟨wanted_of (k := 81) rfl rfl rfl (known_atT ha hsz hlen hl 10 (by decide) (hd ⟨10, .guard⟩ (by simp) rfl)), ?_⟩
      have ev : a.tmps[82]? = some (.agg #[.bool q2, .bool g2, .slice a2x n2x c2x, .complex .f64 r2x i2x]) := known_atT ha hsz hlen hl 11 (by decide) (hd ⟨11, .data⟩ (by simp) rfl)
      refine wp_enter (f := 12) (args := #[.agg #[.bool q2, .bool g2, .slice a2x n2x c2x, .complex .f64 r2x i2x]]) (by simp [execOp, ev, go_sem]) ?_
      refine (taken_N q2 g2 (.slice a2x n2x c2x) r2x i2x ⟨_, _, _, rfl⟩).mono ?_
      rintro e w6 ⟨rfl, HB⟩
      refine ⟨_, rfl, ?_⟩
      exact ⟨_, vt, by rw [ha]; exact putT_put A 71 12 4 l _ _ (by omega) (by omega) (by decide), by rw [List.length_set]; exact hlen, below_size hB (Nat.le_refl _) HB, set_known hlen (by decide) hl, fun h => hvt (h.resolve_left (by decide))⟩
    | 13, ho =>
      cases Option.some.inj ho
      refine ⟨wanted_of (k := 81) rfl rfl rfl (known_atT ha hsz hlen hl 10 (by decide) (hd ⟨10, .guard⟩ (by simp) rfl)), ?_⟩
      have ev : a.tmps[16]? = some (.pointer (some ⟨b2y, 0, none⟩)) := by rw [ha, putT_other _ _ _ _ (by decide), putAll_low A 71 16 l (by omega) (by decide)]; exact s16
      obtain ⟨z0, z1, z2, z3, _⟩ := numP_cells ((hB.block _ (lt_of_blockF E2y)).trans E2y)
      refine wp_value (w' := w') (v := .agg #[.bool q2, .bool g2, .slice a2y n2y c2y, .complex .f64 r2y i2y]) (by simp [execOp, ev, go_sem, z0, z1, z2, z3]) ?_
      exact ⟨_, vt, by rw [ha]; exact putT_put A 71 13 4 l _ _ (by omega) (by omega) (by decide), by rw [List.length_set]; exact hlen, hB, set_known hlen (by decide) hl, fun h => hvt (h.resolve_left (by decide))⟩
    | 14, ho =>
      cases Option.some.inj ho
      refine ⟨wanted_of (k := 81) rfl rfl rfl (known_atT ha hsz hlen hl 10 (by decide) (hd ⟨10, .guard⟩ (by simp) rfl)), ?_⟩
      have ev : a.tmps[84]? = some (.agg #[.bool q2, .bool g2, .slice a2y n2y c2y, .complex .f64 r2y i2y]) := known_atT ha hsz hlen hl 13 (by decide) (hd ⟨13, .data⟩ (by simp) rfl)
      refine wp_enter (f := 12) (args := #[.agg #[.bool q2, .bool g2, .slice a2y n2y c2y, .complex .f64 r2y i2y]]) (by simp [execOp, ev, go_sem]) ?_
      refine (taken_N q2 g2 (.slice a2y n2y c2y) r2y i2y ⟨_, _, _, rfl⟩).mono ?_
      rintro e w6 ⟨rfl, HB⟩
      refine ⟨_, rfl, ?_⟩
      exact ⟨_, vt, by rw [ha]; exact putT_put A 71 14 4 l _ _ (by omega) (by omega) (by decide), by rw [List.length_set]; exact hlen, below_size hB (Nat.le_refl _) HB, set_known hlen (by decide) hl, fun h => hvt (h.resolve_left (by decide))⟩
    | 15, ho =>
      cases Option.some.inj ho
      refine ⟨wanted_of (k := 81) rfl rfl rfl (known_atT ha hsz hlen hl 10 (by decide) (hd ⟨10, .guard⟩ (by simp) rfl)), ?_⟩
      have ev : a.tmps[83]? = some (.agg #[.bool q2, .bool g2, .slice a2x n2x c2x, .float .f64 r2x, .float .f64 i2x]) := known_atT ha hsz hlen hl 12 (by decide) (hd ⟨12, .data⟩ (by simp) rfl)
      have ev' : a.tmps[85]? = some (.agg #[.bool q2, .bool g2, .slice a2y n2y c2y, .float .f64 r2y, .float .f64 i2y]) := known_atT ha hsz hlen hl 14 (by decide) (hd ⟨14, .data⟩ (by simp) rfl)
      refine wp_enter (f := 11) (args := #[.agg #[.bool q2, .bool g2, .slice a2x n2x c2x, .float .f64 r2x, .float .f64 i2x], .agg #[.bool q2, .bool g2, .slice a2y n2y c2y, .float .f64 r2y, .float .f64 i2y]]) (by simp [execOp, ev, ev', go_sem]) ?_
      refine (sameN_alike q2 g2 r2x i2x r2y i2y hr2 hi2 (I2x.below hB) (I2y.below hB)).mono ?_
      rintro e w6 ⟨rfl, HB⟩
      refine ⟨_, rfl, ?_⟩
      exact ⟨_, vt, by rw [ha]; exact putT_put A 71 15 4 l _ _ (by omega) (by omega) (by decide), by rw [List.length_set]; exact hlen, below_size hB (Nat.le_refl _) HB, set_known hlen (by decide) hl, fun h => hvt (h.resolve_left (by decide))⟩
    | 16, ho =>
      cases Option.some.inj ho
      refine ⟨rfl, ?_⟩
      have ev : a.tmps[81]? = some (.bool true) := known_atT ha hsz hlen hl 10 (by decide) (hd ⟨10, .data⟩ (by simp) rfl)
      have ev' : a.tmps[86]? = some (.bool true) := known_atT ha hsz hlen hl 15 (by decide) (hd ⟨15, .data⟩ (by simp) rfl)
      refine wp_value (w' := w') (v := .bool true) (by simp [execOp, ev, ev', go_sem]) ?_
      exact ⟨_, vt, by rw [ha]; exact putT_put A 71 16 4 l _ _ (by omega) (by omega) (by decide), by rw [List.length_set]; exact hlen, hB, set_known hlen (by decide) hl, fun h => hvt (h.resolve_left (by decide))⟩
    | 17, ho =>
      cases Option.some.inj ho
      refine ⟨rfl, ?_⟩
      have ev : a.tmps[87]? = some (.bool true) := known_atT ha hsz hlen hl 16 (by decide) (hd ⟨16, .data⟩ (by simp) rfl)
      refine wp_value (w' := w') (v := .bool true) (by simp [execOp, ev, go_sem]) ?_
      exact ⟨_, vt, by rw [ha]; exact putT_put A 71 17 4 l _ _ (by omega) (by omega) (by decide), by rw [List.length_set]; exact hlen, hB, set_known hlen (by decide) hl, fun h => hvt (h.resolve_left (by decide))⟩
    | 18, ho =>
      cases Option.some.inj ho
      refine ⟨wanted_of (k := 88) rfl rfl rfl (known_atT ha hsz hlen hl 17 (by decide) (hd ⟨17, .guard⟩ (by simp) rfl)), ?_⟩
      have ev : a.tmps[15]? = some (.int .i64 s2) := by rw [ha, putT_other _ _ _ _ (by decide), putAll_low A 71 15 l (by omega) (by decide)]; exact s15
      refine wp_value (w' := w') (v := .int .i64 s2) (by simp [execOp, ev, go_sem]) ?_
      exact ⟨_, vt, by rw [ha]; exact putT_put A 71 18 4 l _ _ (by omega) (by omega) (by decide), by rw [List.length_set]; exact hlen, hB, set_known hlen (by decide) hl, fun h => hvt (h.resolve_left (by decide))⟩
    | 19, ho =>
      cases Option.some.inj ho
      refine ⟨wanted_of (k := 88) rfl rfl rfl (known_atT ha hsz hlen hl 17 (by decide) (hd ⟨17, .guard⟩ (by simp) rfl)), ?_⟩
      have ev : a.tmps[18]? = some (.int .i64 s2) := by rw [ha, putT_other _ _ _ _ (by decide), putAll_low A 71 18 l (by omega) (by decide)]; exact s18
      refine wp_value (w' := w') (v := .int .i64 s2) (by simp [execOp, ev, go_sem]) ?_
      exact ⟨_, vt, by rw [ha]; exact putT_put A 71 19 4 l _ _ (by omega) (by omega) (by decide), by rw [List.length_set]; exact hlen, hB, set_known hlen (by decide) hl, fun h => hvt (h.resolve_left (by decide))⟩
    | 20, ho =>
      cases Option.some.inj ho
      refine ⟨wanted_of (k := 88) rfl rfl rfl (known_atT ha hsz hlen hl 17 (by decide) (hd ⟨17, .guard⟩ (by simp) rfl)), ?_⟩
      have ev : a.tmps[89]? = some (.int .i64 s2) := known_atT ha hsz hlen hl 18 (by decide) (hd ⟨18, .data⟩ (by simp) rfl)
      have ev' : a.tmps[90]? = some (.int .i64 s2) := known_atT ha hsz hlen hl 19 (by decide) (hd ⟨19, .data⟩ (by simp) rfl)
      refine wp_value (w' := w') (v := .bool true) (by simp [execOp, ev, ev', go_sem]) ?_
      exact ⟨_, vt, by rw [ha]; exact putT_put A 71 20 4 l _ _ (by omega) (by omega) (by decide), by rw [List.length_set]; exact hlen, hB, set_known hlen (by decide) hl, fun h => hvt (h.resolve_left (by decide))⟩
    | 21, ho =>
      cases Option.some.inj ho
      refine ⟨rfl, ?_⟩
      have ev : a.tmps[88]? = some (.bool true) := known_atT ha hsz hlen hl 17 (by decide) (hd ⟨17, .data⟩ (by simp) rfl)
      have ev' : a.tmps[91]? = some (.bool true) := known_atT ha hsz hlen hl 20 (by decide) (hd ⟨20, .data⟩ (by simp) rfl)
      refine wp_value (w' := w') (v := .bool true) (by simp [execOp, ev, ev', go_sem]) ?_
      exact ⟨_, vt, by rw [ha]; exact putT_put A 71 21 4 l _ _ (by omega) (by omega) (by decide), by rw [List.length_set]; exact hlen, hB, set_known hlen (by decide) hl, fun h => hvt (h.resolve_left (by decide))⟩
    | 22, ho =>
      cases Option.some.inj ho
      refine ⟨rfl, ?_⟩
      have ev : a.tmps[92]? = some (.bool true) := known_atT ha hsz hlen hl 21 (by decide) (hd ⟨21, .data⟩ (by simp) rfl)
      refine wp_value (w' := w') (v := .bool true) (by simp [execOp, ev, go_sem]) ?_
      exact ⟨_, vt, by rw [ha]; exact putT_put A 71 22 4 l _ _ (by omega) (by omega) (by decide), by rw [List.length_set]; exact hlen, hB, set_known hlen (by decide) hl, fun h => hvt (h.resolve_left (by decide))⟩
    | 23, ho =>
      cases Option.some.inj ho
      refine ⟨wanted_of (k := 93) rfl rfl rfl (known_atT ha hsz hlen hl 22 (by decide) (hd ⟨22, .guard⟩ (by simp) rfl)), ?_⟩
      have ev : a.tmps[20]? = some (.bool qe) := by rw [ha, putT_other _ _ _ _ (by decide), putAll_low A 71 20 l (by omega) (by decide)]; exact s20
      refine wp_value (w' := w') (v := .bool qe) (by simp [execOp, ev, go_sem]) ?_
      exact ⟨_, vt, by rw [ha]; exact putT_put A 71 23 4 l _ _ (by omega) (by omega) (by decide), by rw [List.length_set]; exact hlen, hB, set_known hlen (by decide) hl, fun h => hvt (h.resolve_left (by decide))⟩
    | 24, ho =>
      cases Option.some.inj ho
      refine ⟨wanted_of (k := 93) rfl rfl rfl (known_atT ha hsz hlen hl 22 (by decide) (hd ⟨22, .guard⟩ (by simp) rfl)), ?_⟩
      have ev : a.tmps[23]? = some (.bool qe) := by rw [ha, putT_other _ _ _ _ (by decide), putAll_low A 71 23 l (by omega) (by decide)]; exact s23
      refine wp_value (w' := w') (v := .bool qe) (by simp [execOp, ev, go_sem]) ?_
      exact ⟨_, vt, by rw [ha]; exact putT_put A 71 24 4 l _ _ (by omega) (by omega) (by decide), by rw [List.length_set]; exact hlen, hB, set_known hlen (by decide) hl, fun h => hvt (h.resolve_left (by decide))⟩
    | 25, ho =>
      cases Option.some.inj ho
      refine ⟨wanted_of (k := 93) rfl rfl rfl (known_atT ha hsz hlen hl 22 (by decide) (hd ⟨22, .guard⟩ (by simp) rfl)), ?_⟩
      have ev : a.tmps[94]? = some (.bool qe) := known_atT ha hsz hlen hl 23 (by decide) (hd ⟨23, .data⟩ (by simp) rfl)
      have ev' : a.tmps[95]? = some (.bool qe) := known_atT ha hsz hlen hl 24 (by decide) (hd ⟨24, .data⟩ (by simp) rfl)
      refine wp_value (w' := w') (v := .bool true) (by simp [execOp, ev, ev', go_sem]) ?_
      exact ⟨_, vt, by rw [ha]; exact putT_put A 71 25 4 l _ _ (by omega) (by omega) (by decide), by rw [List.length_set]; exact hlen, hB, set_known hlen (by decide) hl, fun h => hvt (h.resolve_left (by decide))⟩
    | 26, ho =>
      cases Option.some.inj ho
      refine ⟨rfl, ?_⟩
      have ev : a.tmps[93]? = some (.bool true) := known_atT ha hsz hlen hl 22 (by decide) (hd ⟨22, .data⟩ (by simp) rfl)
      have ev' : a.tmps[96]? = some (.bool true) := known_atT ha hsz hlen hl 25 (by decide) (hd ⟨25, .data⟩ (by simp) rfl)
      refine wp_value (w' := w') (v := .bool true) (by simp [execOp, ev, ev', go_sem]) ?_
      exact ⟨_, vt, by rw [ha]; exact putT_put A 71 26 4 l _ _ (by omega) (by omega) (by decide), by rw [List.length_set]; exact hlen, hB, set_known hlen (by decide) hl, fun h => hvt (h.resolve_left (by decide))⟩
    | 27, ho =>
      cases Option.some.inj ho
      refine ⟨rfl, ?_⟩
      have ev : a.tmps[97]? = some (.bool true) := known_atT ha hsz hlen hl 26 (by decide) (hd ⟨26, .data⟩ (by simp) rfl)
      refine wp_value (w' := w') (v := .bool true) (by simp [execOp, ev, go_sem]) ?_
      exact ⟨_, vt, by rw [ha]; exact putT_put A 71 27 4 l _ _ (by omega) (by omega) (by decide), by rw [List.length_set]; exact hlen, hB, set_known hlen (by decide) hl, fun h => hvt (h.resolve_left (by decide))⟩
    | 28, ho =>
      cases Option.some.inj ho
      refine ⟨wanted_of (k := 98) rfl rfl rfl (known_atT ha hsz hlen hl 27 (by decide) (hd ⟨27, .guard⟩ (by simp) rfl)), ?_⟩
      refine wp_enter (f := 15) (args := #[]) (by simp [execOp, go_sem]) ?_
      refine (known_true w').mono ?_
      rintro e w6 ⟨rfl, HB⟩
      refine ⟨_, rfl, ?_⟩
      exact ⟨_, vt, by rw [ha]; exact putT_put A 71 28 4 l _ _ (by omega) (by omega) (by decide), by rw [List.length_set]; exact hlen, below_size hB (Nat.le_refl _) HB, set_known hlen (by decide) hl, fun h => hvt (h.resolve_left (by decide))⟩
    | 29, ho =>
      cases Option.some.inj ho
      refine ⟨rfl, ?_⟩
      have ev : a.tmps[98]? = some (.bool true) := known_atT ha hsz hlen hl 27 (by decide) (hd ⟨27, .data⟩ (by simp) rfl)
      have ev' : a.tmps[99]? = some (.bool true) := known_atT ha hsz hlen hl 28 (by decide) (hd ⟨28, .data⟩ (by simp) rfl)
      refine wp_value (w' := w') (v := .bool true) (by simp [execOp, ev, ev', go_sem]) ?_
      exact ⟨_, vt, by rw [ha]; exact putT_put A 71 29 4 l _ _ (by omega) (by omega) (by decide), by rw [List.length_set]; exact hlen, hB, set_known hlen (by decide) hl, fun h => hvt (h.resolve_left (by decide))⟩
    | 30, ho =>
      cases Option.some.inj ho
      refine ⟨rfl, ?_⟩
      have ev : a.tmps[100]? = some (.bool true) := known_atT ha hsz hlen hl 29 (by decide) (hd ⟨29, .data⟩ (by simp) rfl)
      refine wp_value (w' := w') (v := .bool true) (by simp [execOp, ev, go_sem]) ?_
      exact ⟨l, (.bool true), by rw [ha]; exact putT_again _ _ _ _, hlen, hB, fun j hj h => hl j hj (h.resolve_left (by omega)), fun _ => rfl⟩
    | i + 31, ho => simp at ho
  case done =>
    rintro D a w' ⟨l, vt, ha, hlen, hB, hl, hvt⟩ hall
    obtain rfl := hvt (hall 30 (by decide))
    obtain ⟨v0, v1, v2, v3, v4, v5, v6, v7, v8, v9, v10, v11, v12, v13, v14, v15, v16, v17, v18, v19, v20, v21, v22, v23, v24, v25, v26, v27, v28, v29, rfl⟩ := turnV_list hlen
    subst hA
    have hfr : a = _ := ha
    rw [hfr]
    clear hfr ha
    simp only [putAll, List.take_succ_cons, List.take_zero, List.drop_succ_cons, List.drop_zero, List.cons_append, List.nil_append, List.length_cons, List.length_nil]
    go_wp2
    go_ret
    exact ⟨rfl, below_sizeF B (Nat.le_refl _) hB⟩
end Go.Proofs.Ytkpngpongbpfgaa
