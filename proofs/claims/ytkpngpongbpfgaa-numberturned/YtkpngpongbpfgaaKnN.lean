/- The fixed calls come out as known. -/
import Derived.Test.YtkpngpongbpfgaaDoN
namespace Go.Proofs.Ytkpngpongbpfgaa
open Go.RowKit
set_option maxRecDepth 100000
theorem magR : ∀ n : Nat, n < 5 → rightB false (mag n) = true ∧ smallB false (mag n) = true ∧ smallI false (mag n) = (n : Int) := by decide +kernel
theorem fl0 : floatOfInt .f64 0 = 0 := by decide +kernel
theorem fl1 : floatOfInt .f64 1 = 4607182418800017408 := by decide +kernel
theorem fl2 : floatOfInt .f64 2 = 4611686018427387904 := by decide +kernel
theorem fl3 : floatOfInt .f64 3 = 4613937818241073152 := by decide +kernel
theorem fl4 : floatOfInt .f64 4 = 4616189618054758400 := by decide +kernel
theorem p12 {w : World} {ja ka : Option Addr} {jn jc kn kc : Nat} (h1 : IsB w ja jn jc (mag 1)) (h2 : IsB w ka kn kc (mag 2)) : Calls Try.prog 22 #[.agg #[.bool false, .slice ja jn jc], .agg #[.bool false, .slice ka kn kc]] w fun e w' => e = .returned (.tuple #[.agg #[.bool true, .bool false, .slice none 0 0, .complex .f64 4607182418800017408 4611686018427387904], .int .i64 0]) ∧ Below w.heap.size w w' := by
  have hh := pair_ok false false h1 h2 (magR 1 (by decide)).1 (magR 2 (by decide)).1 (magR 1 (by decide)).2.1 (magR 2 (by decide)).2.1
  rw [(magR 1 (by decide)).2.2, (magR 2 (by decide)).2.2] at hh
  have e1 : floatOfInt .f64 ((1 : Nat) : Int) = 4607182418800017408 := fl1
  have e2 : floatOfInt .f64 ((2 : Nat) : Int) = 4611686018427387904 := fl2
  rw [e1, e2] at hh
  exact hh
theorem sp12 {w : World} (n : Int) (k : Nat) (hn : n = (k : Int)) (hk : k < 5) : Calls Try.prog 23 #[.int .i64 n] w fun e w' => ∃ a l c, e = .returned (.agg #[.bool false, .slice a l c]) ∧ IsB w' a l c (mag k) ∧ Below w.heap.size w w' := by
  subst hn
  have hh := small_of (k : Int) w (by omega) (by omega)
  rw [decide_eq_false (by omega), Int.natAbs_natCast] at hh
  exact hh
theorem p34 {w : World} {ja ka : Option Addr} {jn jc kn kc : Nat} (h1 : IsB w ja jn jc (mag 3)) (h2 : IsB w ka kn kc (mag 4)) : Calls Try.prog 22 #[.agg #[.bool false, .slice ja jn jc], .agg #[.bool false, .slice ka kn kc]] w fun e w' => e = .returned (.tuple #[.agg #[.bool true, .bool false, .slice none 0 0, .complex .f64 4613937818241073152 4616189618054758400], .int .i64 0]) ∧ Below w.heap.size w w' := by
  have hh := pair_ok false false h1 h2 (magR 3 (by decide)).1 (magR 4 (by decide)).1 (magR 3 (by decide)).2.1 (magR 4 (by decide)).2.1
  rw [(magR 3 (by decide)).2.2, (magR 4 (by decide)).2.2] at hh
  have e1 : floatOfInt .f64 ((3 : Nat) : Int) = 4613937818241073152 := fl3
  have e2 : floatOfInt .f64 ((4 : Nat) : Int) = 4616189618054758400 := fl4
  rw [e1, e2] at hh
  exact hh
theorem sp34 {w : World} (n : Int) (k : Nat) (hn : n = (k : Int)) (hk : k < 5) : Calls Try.prog 23 #[.int .i64 n] w fun e w' => ∃ a l c, e = .returned (.agg #[.bool false, .slice a l c]) ∧ IsB w' a l c (mag k) ∧ Below w.heap.size w w' := by
  subst hn
  have hh := small_of (k : Int) w (by omega) (by omega)
  rw [decide_eq_false (by omega), Int.natAbs_natCast] at hh
  exact hh
theorem p10 {w : World} {ja ka : Option Addr} {jn jc kn kc : Nat} (h1 : IsB w ja jn jc (mag 1)) (h2 : IsB w ka kn kc (mag 0)) : Calls Try.prog 22 #[.agg #[.bool false, .slice ja jn jc], .agg #[.bool false, .slice ka kn kc]] w fun e w' => e = .returned (.tuple #[.agg #[.bool true, .bool false, .slice none 0 0, .complex .f64 4607182418800017408 0], .int .i64 0]) ∧ Below w.heap.size w w' := by
  have hh := pair_ok false false h1 h2 (magR 1 (by decide)).1 (magR 0 (by decide)).1 (magR 1 (by decide)).2.1 (magR 0 (by decide)).2.1
  rw [(magR 1 (by decide)).2.2, (magR 0 (by decide)).2.2] at hh
  have e1 : floatOfInt .f64 ((1 : Nat) : Int) = 4607182418800017408 := fl1
  have e2 : floatOfInt .f64 ((0 : Nat) : Int) = 0 := fl0
  rw [e1, e2] at hh
  exact hh
theorem sp10 {w : World} (n : Int) (k : Nat) (hn : n = (k : Int)) (hk : k < 5) : Calls Try.prog 23 #[.int .i64 n] w fun e w' => ∃ a l c, e = .returned (.agg #[.bool false, .slice a l c]) ∧ IsB w' a l c (mag k) ∧ Below w.heap.size w w' := by
  subst hn
  have hh := small_of (k : Int) w (by omega) (by omega)
  rw [decide_eq_false (by omega), Int.natAbs_natCast] at hh
  exact hh
theorem p01 {w : World} {ja ka : Option Addr} {jn jc kn kc : Nat} (h1 : IsB w ja jn jc (mag 0)) (h2 : IsB w ka kn kc (mag 1)) : Calls Try.prog 22 #[.agg #[.bool false, .slice ja jn jc], .agg #[.bool false, .slice ka kn kc]] w fun e w' => e = .returned (.tuple #[.agg #[.bool true, .bool false, .slice none 0 0, .complex .f64 0 4607182418800017408], .int .i64 0]) ∧ Below w.heap.size w w' := by
  have hh := pair_ok false false h1 h2 (magR 0 (by decide)).1 (magR 1 (by decide)).1 (magR 0 (by decide)).2.1 (magR 1 (by decide)).2.1
  rw [(magR 0 (by decide)).2.2, (magR 1 (by decide)).2.2] at hh
  have e1 : floatOfInt .f64 ((0 : Nat) : Int) = 0 := fl0
  have e2 : floatOfInt .f64 ((1 : Nat) : Int) = 4607182418800017408 := fl1
  rw [e1, e2] at hh
  exact hh
theorem sp01 {w : World} (n : Int) (k : Nat) (hn : n = (k : Int)) (hk : k < 5) : Calls Try.prog 23 #[.int .i64 n] w fun e w' => ∃ a l c, e = .returned (.agg #[.bool false, .slice a l c]) ∧ IsB w' a l c (mag k) ∧ Below w.heap.size w w' := by
  subst hn
  have hh := small_of (k : Int) w (by omega) (by omega)
  rw [decide_eq_false (by omega), Int.natAbs_natCast] at hh
  exact hh
theorem tt : TimesTo 4607182418800017408 4611686018427387904 4613937818241073152 4616189618054758400 13840687554816376832 4621819117588971520 := ⟨4613937818241073152, 4620693217682128896, 4616189618054758400, 4618441417868443648, by decide +kernel⟩
theorem oo : OverTo 4607182418800017408 0 0 4607182418800017408 0 13830554455654793216 := ⟨0, 4607182418800017408, 4607182418800017408, 0, 0, 0, 0, 4607182418800017408, 13830554455654793216, by decide +kernel⟩
theorem zz : ((FloatKind.f64.format.order 0 0 == some .eq) && (FloatKind.f64.format.order 4607182418800017408 0 == some .eq)) = false := by decide +kernel
set_option maxHeartbeats 8000000 in
theorem known_true (w : World) : Calls Try.prog 15 #[] w fun e w' => e = .returned (.bool true) ∧ Below w.heap.size w w' := by
  have q1 : ((FloatKind.f64.format.order 13840687554816376832 13840687554816376832 == some .eq) && (FloatKind.f64.format.order 4621819117588971520 4621819117588971520 == some .eq)) = true := by decide +kernel
  have q2 : ((FloatKind.f64.format.order 0 0 == some .eq) && (FloatKind.f64.format.order 13830554455654793216 13830554455654793216 == some .eq)) = true := by decide +kernel
  have g1 := fun (w : World) => (run_eql_complex (P := Try.prog) w 29 .f64 13840687554816376832 4621819117588971520 13840687554816376832 4621819117588971520).trans (by rw [q1])
  have g2 := fun (w : World) => (run_eql_complex (P := Try.prog) w 29 .f64 0 13830554455654793216 0 13830554455654793216).trans (by rw [q2])
  clear q1 q2
  have hsc := stC_run
  have B0 := Below.refl w.heap.size w
  go_enter Try.func15, Try.ntmps15
  go_wp2_with fail
  refine (sp12 1 1 rfl (by decide)).mono ?_
  rintro e w1 ⟨a1, l1, c1, rfl, I1, H1⟩
  have B1 := below_sizeF B0 (Nat.le_refl _) H1
  clear H1 B0
  go_wp2_with fail
  refine (sp12 2 2 rfl (by decide)).mono ?_
  rintro e w2 ⟨a2, l2, c2, rfl, I2, H2⟩
  replace I1 := I1.below H2
  have B2 := below_sizeF B1 (Nat.le_refl _) H2
  clear H2 B1
  go_wp2_with fail
  refine (p12 I1 I2).mono ?_
  rintro e w3 ⟨rfl, H3⟩
  clear I1 I2
  have B3 := below_sizeF B2 (Nat.le_refl _) H3
  clear H3 B2
  have Ep12 := newF w3 (numP true false (.slice none 0 0) 4607182418800017408 4611686018427387904)
  have A3 := below_sizeF B3 (Nat.le_refl _) (box_belowF (w := w3) (o := numP true false (.slice none 0 0) 4607182418800017408 4611686018427387904))
  clear B3
  unfold numP at Ep12 A3
  go_wp2_with fail
  generalize w3.alloc (.cells #[.bool true, .bool false, .slice none 0 0, .complex .f64 4607182418800017408 4611686018427387904] 31) = v3 at *
  generalize w3.heap.size = bp12 at *
  replace Ep12 : _ = some (numP true false (.slice none 0 0) 4607182418800017408 4611686018427387904) := Ep12
  refine (sp34 3 3 rfl (by decide)).mono ?_
  rintro e w4 ⟨a4, l4, c4, rfl, I4, H4⟩
  replace Ep12 := (H4.block _ (lt_of_blockF Ep12)).trans Ep12
  have B4 := below_sizeF A3 (Nat.le_refl _) H4
  clear H4 A3
  go_wp2_with fail
  refine (sp34 4 4 rfl (by decide)).mono ?_
  rintro e w5 ⟨a5, l5, c5, rfl, I5, H5⟩
  replace Ep12 := (H5.block _ (lt_of_blockF Ep12)).trans Ep12
  replace I4 := I4.below H5
  have B5 := below_sizeF B4 (Nat.le_refl _) H5
  clear H5 B4
  go_wp2_with fail
  refine (p34 I4 I5).mono ?_
  rintro e w6 ⟨rfl, H6⟩
  clear I4 I5
  replace Ep12 := (H6.block _ (lt_of_blockF Ep12)).trans Ep12
  have B6 := below_sizeF B5 (Nat.le_refl _) H6
  clear H6 B5
  replace Ep12 := oldF Ep12 (numP true false (.slice none 0 0) 4613937818241073152 4616189618054758400)
  have Ep34 := newF w6 (numP true false (.slice none 0 0) 4613937818241073152 4616189618054758400)
  have A6 := below_sizeF B6 (Nat.le_refl _) (box_belowF (w := w6) (o := numP true false (.slice none 0 0) 4613937818241073152 4616189618054758400))
  clear B6
  unfold numP at Ep12 Ep34 A6
  obtain ⟨x0, x1, x2, x3, xf⟩ := numP_cells (p := true) (m := false) (v := .slice none 0 0) (x := 4607182418800017408) (y := 4611686018427387904) Ep12
  go_wp2_with fail
  generalize w6.alloc (.cells #[.bool true, .bool false, .slice none 0 0, .complex .f64 4613937818241073152 4616189618054758400] 31) = v6 at *
  generalize w6.heap.size = bp34 at *
  replace Ep12 : _ = some (numP true false (.slice none 0 0) 4607182418800017408 4611686018427387904) := Ep12
  replace Ep34 : _ = some (numP true false (.slice none 0 0) 4613937818241073152 4616189618054758400) := Ep34
  clear x0 x1 x2 x3 xf
  refine (does_times tt).mono ?_
  rintro e w7 ⟨rfl, H7⟩
  clear Ep12 Ep34
  have B7 := below_sizeF A6 (Nat.le_refl _) H7
  clear H7 A6
  have Et := newF w7 (numP true false (.slice none 0 0) 13840687554816376832 4621819117588971520)
  have A7 := below_sizeF B7 (Nat.le_refl _) (box_belowF (w := w7) (o := numP true false (.slice none 0 0) 13840687554816376832 4621819117588971520))
  clear B7
  unfold numP at Et A7
  go_wp2_with fail
  generalize w7.alloc (.cells #[.bool true, .bool false, .slice none 0 0, .complex .f64 13840687554816376832 4621819117588971520] 31) = v7 at *
  generalize w7.heap.size = bt at *
  replace Et : _ = some (numP true false (.slice none 0 0) 13840687554816376832 4621819117588971520) := Et
  refine (sp10 1 1 rfl (by decide)).mono ?_
  rintro e w8 ⟨a8, l8, c8, rfl, I8, H8⟩
  replace Et := (H8.block _ (lt_of_blockF Et)).trans Et
  have B8 := below_sizeF A7 (Nat.le_refl _) H8
  clear H8 A7
  go_wp2_with fail
  refine (sp10 0 0 rfl (by decide)).mono ?_
  rintro e w9 ⟨a9, l9, c9, rfl, I9, H9⟩
  replace Et := (H9.block _ (lt_of_blockF Et)).trans Et
  replace I8 := I8.below H9
  have B9 := below_sizeF B8 (Nat.le_refl _) H9
  clear H9 B8
  go_wp2_with fail
  refine (p10 I8 I9).mono ?_
  rintro e w10 ⟨rfl, H10⟩
  clear I8 I9
  replace Et := (H10.block _ (lt_of_blockF Et)).trans Et
  have B10 := below_sizeF B9 (Nat.le_refl _) H10
  clear H10 B9
  replace Et := oldF Et (numP true false (.slice none 0 0) 4607182418800017408 0)
  have Ep10 := newF w10 (numP true false (.slice none 0 0) 4607182418800017408 0)
  have A10 := below_sizeF B10 (Nat.le_refl _) (box_belowF (w := w10) (o := numP true false (.slice none 0 0) 4607182418800017408 0))
  clear B10
  unfold numP at Et Ep10 A10
  go_wp2_with fail
  generalize w10.alloc (.cells #[.bool true, .bool false, .slice none 0 0, .complex .f64 4607182418800017408 0] 31) = v10 at *
  generalize w10.heap.size = bp10 at *
  replace Et : _ = some (numP true false (.slice none 0 0) 13840687554816376832 4621819117588971520) := Et
  replace Ep10 : _ = some (numP true false (.slice none 0 0) 4607182418800017408 0) := Ep10
  refine (sp01 0 0 rfl (by decide)).mono ?_
  rintro e w11 ⟨a11, l11, c11, rfl, I11, H11⟩
  replace Et := (H11.block _ (lt_of_blockF Et)).trans Et
  replace Ep10 := (H11.block _ (lt_of_blockF Ep10)).trans Ep10
  have B11 := below_sizeF A10 (Nat.le_refl _) H11
  clear H11 A10
  go_wp2_with fail
  refine (sp01 1 1 rfl (by decide)).mono ?_
  rintro e w12 ⟨a12, l12, c12, rfl, I12, H12⟩
  replace Et := (H12.block _ (lt_of_blockF Et)).trans Et
  replace Ep10 := (H12.block _ (lt_of_blockF Ep10)).trans Ep10
  replace I11 := I11.below H12
  have B12 := below_sizeF B11 (Nat.le_refl _) H12
  clear H12 B11
  go_wp2_with fail
  refine (p01 I11 I12).mono ?_
  rintro e w13 ⟨rfl, H13⟩
  clear I11 I12
  replace Et := (H13.block _ (lt_of_blockF Et)).trans Et
  replace Ep10 := (H13.block _ (lt_of_blockF Ep10)).trans Ep10
  have B13 := below_sizeF B12 (Nat.le_refl _) H13
  clear H13 B12
  replace Et := oldF Et (numP true false (.slice none 0 0) 0 4607182418800017408)
  replace Ep10 := oldF Ep10 (numP true false (.slice none 0 0) 0 4607182418800017408)
  have Ep01 := newF w13 (numP true false (.slice none 0 0) 0 4607182418800017408)
  have A13 := below_sizeF B13 (Nat.le_refl _) (box_belowF (w := w13) (o := numP true false (.slice none 0 0) 0 4607182418800017408))
  clear B13
  unfold numP at Et Ep10 Ep01 A13
  obtain ⟨x0, x1, x2, x3, xf⟩ := numP_cells (p := true) (m := false) (v := .slice none 0 0) (x := 4607182418800017408) (y := 0) Ep10
  go_wp2_with fail
  generalize w13.alloc (.cells #[.bool true, .bool false, .slice none 0 0, .complex .f64 0 4607182418800017408] 31) = v13 at *
  generalize w13.heap.size = bp01 at *
  replace Et : _ = some (numP true false (.slice none 0 0) 13840687554816376832 4621819117588971520) := Et
  replace Ep10 : _ = some (numP true false (.slice none 0 0) 4607182418800017408 0) := Ep10
  replace Ep01 : _ = some (numP true false (.slice none 0 0) 0 4607182418800017408) := Ep01
  clear x0 x1 x2 x3 xf
  refine (does_over oo zz).mono ?_
  rintro e w14 ⟨rfl, H14⟩
  clear Ep10 Ep01
  replace Et := (H14.block _ (lt_of_blockF Et)).trans Et
  have B14 := below_sizeF A13 (Nat.le_refl _) H14
  clear H14 A13
  replace Et := oldF Et (numP true false (.slice none 0 0) 0 13830554455654793216)
  have Eo := newF w14 (numP true false (.slice none 0 0) 0 13830554455654793216)
  have A14 := below_sizeF B14 (Nat.le_refl _) (box_belowF (w := w14) (o := numP true false (.slice none 0 0) 0 13830554455654793216))
  clear B14
  unfold numP at Et Eo A14
  obtain ⟨x0, x1, x2, x3, xf⟩ := numP_cells (p := true) (m := false) (v := .slice none 0 0) (x := 13840687554816376832) (y := 4621819117588971520) Et
  go_wp2
  go_ret
  exact ⟨rfl, A14⟩
end Go.Proofs.Ytkpngpongbpfgaa
