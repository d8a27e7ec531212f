/- The law: back. -/
import Derived.Test.YtkpngpongbpfgaaBak
namespace Go.Proofs.Ytkpngpongbpfgaa
open Go.RowKit
set_option maxRecDepth 100000
/-- A small whole number that lies there. -/
structure Wh (w : World) (n : Int) (g : Bool) (a : Option Addr) (l c : Nat) : Prop where
  sgn : g = decide (n < 0)
  isb : IsB w a l c (mag n.natAbs)
theorem Wh.below {w w' : World} {n : Int} {g : Bool} {a : Option Addr} {l c : Nat} (h : Wh w n g a l c) (hb : Below w.heap.size w w') : Wh w' n g a l c := ⟨h.sgn, h.isb.below hb⟩
theorem small_wh (n : Int) (w : World) (h : n.natAbs < 9007199254740992) : Calls Try.prog 23 #[.int .i64 n] w fun e w' => ∃ g a l c, e = .returned (.agg #[.bool g, .slice a l c]) ∧ Wh w' n g a l c ∧ Below w.heap.size w w' := by
  refine (small_of n w (by omega) (by omega)).mono ?_
  rintro e w' ⟨a, l, c, rfl, I, B⟩
  exact ⟨_, a, l, c, rfl, ⟨rfl, I⟩, B⟩
theorem pair_wh {w : World} {m n : Int} {fm fn : Nat} {g1 g2 : Bool} {ja ka : Option Addr} {jn jc kn kc : Nat} (hm : m.natAbs < 9007199254740992) (hn : n.natAbs < 9007199254740992) (e1 : Hid (floatOfInt .f64 m = fm)) (e2 : Hid (floatOfInt .f64 n = fn)) (h1 : Wh w m g1 ja jn jc) (h2 : Wh w n g2 ka kn kc) : Calls Try.prog 22 #[.agg #[.bool g1, .slice ja jn jc], .agg #[.bool g2, .slice ka kn kc]] w fun e w' => e = .returned (.tuple #[.agg #[.bool true, .bool false, .slice none 0 0, .complex .f64 fm fn], .int .i64 0]) ∧ Below w.heap.size w w' := by
  obtain ⟨rfl, I1⟩ := h1
  obtain ⟨rfl, I2⟩ := h2
  obtain ⟨a1, a2, a3⟩ := whole_small m hm
  obtain ⟨b1, b2, b3⟩ := whole_small n hn
  have hh := pair_ok _ _ I1 I2 a1 b1 a2 b2
  rw [a3, b3, e1.out, e2.out] at hh
  exact hh
theorem timesW_wh {w : World} {a b c r i : Nat} (h : TimesTo a b c 0 r i) {n : Int} {g : Bool} {ka : Option Addr} {kn kc : Nat} (hn : n.natAbs < 9007199254740992) (e1 : Hid (floatOfInt .f64 n = c)) (h2 : Wh w n g ka kn kc) : Calls Try.prog 9 #[.int .i64 2, .agg #[.bool true, .bool false, .slice none 0 0, .complex .f64 a b], .agg #[.bool false, .bool g, .slice ka kn kc, .complex .f64 0 0]] w fun e w' => e = .returned (.tuple #[.agg #[.bool true, .bool false, .slice none 0 0, .complex .f64 r i], .bool false, .int .i64 0]) ∧ Below w.heap.size w w' := by
  obtain ⟨rfl, I2⟩ := h2
  obtain ⟨b1, b2, b3⟩ := whole_small n hn
  exact does_timesW h _ I2 b1 b2 (by rw [b3]; exact e1.out) rfl
theorem equal_wh {w : World} {a b c d : Nat} (h : Hid (eqN true false [] a b true false [] c d = true)) : Calls Try.prog 9 #[.int .i64 6, .agg #[.bool true, .bool false, .slice none 0 0, .complex .f64 a b], .agg #[.bool true, .bool false, .slice none 0 0, .complex .f64 c d]] w fun e w' => e = .returned (.tuple #[.agg #[.bool false, .bool false, .slice none 0 0, .complex .f64 0 0], .bool true, .int .i64 0]) ∧ Below w.heap.size w w' := by
  have nilB : IsB w none 0 0 [] := ⟨rfl, Nat.le_refl _, by decide, fun _ => rfl, by simp, fun h => absurd h (by decide)⟩
  have hh := does_equal true false true false a b c d nilB nilB rfl rfl
  rw [h.out] at hh
  exact hh
theorem rem_bnd (a : Int) : (a.tmod 1000).natAbs ≤ 999 := by
  rw [Int.natAbs_tmod]
  have := Nat.mod_lt a.natAbs (show 0 < (1000 : Int).natAbs by decide)
  have e : (1000 : Int).natAbs = 1000 := rfl
  omega
set_option maxHeartbeats 8000000 in
theorem back_law (a b c d : Int) (w : World) : Calls Try.prog 7 #[.int .i64 a, .int .i64 b, .int .i64 c, .int .i64 d] w fun e w' => e = .returned (.bool true) ∧ Below w.heap.size w w' := by
  have hA := rem_bnd a
  have hB := rem_bnd b
  have hC := rem_bnd c
  have hD := rem_bnd d
  have hsc := stC_run
  have B0 := Below.refl w.heap.size w
  go_enter Try.func7, Try.ntmps7
  go_wp2_with fail
  generalize a.tmod 1000 = A at *
  generalize b.tmod 1000 = B at *
  generalize c.tmod 1000 = C at *
  generalize d.tmod 1000 = D at *
  obtain ⟨pr, pi, qr, qi, wr, wi, T1, T2, T3, hq⟩ := back_rep A B C D hA hB hC hD
  replace hq : Hid (eqN true false [] qr qi true false [] wr wi = true) := hq
  have hm : (-D).natAbs ≤ 999 := by omega
  have b5 := mul_bnd hC hC
  have b6 := mul_bnd hD hD
  have hn : (C * C + D * D).natAbs ≤ 2000000 := by omega
  have m1 : IntKind.i64.wrap (-D) = -D := by rw [IntKind.wrap_i64]; omega
  have m2 : IntKind.i64.wrap (C * C) = C * C := by rw [IntKind.wrap_i64]; omega
  have m3 : IntKind.i64.wrap (D * D) = D * D := by rw [IntKind.wrap_i64]; omega
  have m4 : IntKind.i64.wrap (C * C + D * D) = C * C + D * D := by rw [IntKind.wrap_i64]; omega
  clear b5 b6
  obtain ⟨fa, ha⟩ : ∃ q, Hid (floatOfInt .f64 A = q) := ⟨_, rfl⟩
  obtain ⟨fb, hb⟩ : ∃ q, Hid (floatOfInt .f64 B = q) := ⟨_, rfl⟩
  obtain ⟨fc, hc⟩ : ∃ q, Hid (floatOfInt .f64 C = q) := ⟨_, rfl⟩
  obtain ⟨fd, hd⟩ : ∃ q, Hid (floatOfInt .f64 D = q) := ⟨_, rfl⟩
  obtain ⟨fm, hfm⟩ : ∃ q, Hid (floatOfInt .f64 (-D) = q) := ⟨_, rfl⟩
  obtain ⟨fn, hfn⟩ : ∃ q, Hid (floatOfInt .f64 (C * C + D * D) = q) := ⟨_, rfl⟩
  rw [ha.out, hb.out, hc.out, hd.out] at T1
  rw [hc.out, hfm.out] at T2
  rw [ha.out, hb.out, hfn.out] at T3
  refine (small_wh (A) _ (by omega)).mono ?_
  rintro e w1 ⟨g1, a1, l1, c1, rfl, I1, H1⟩
  have B1 := below_sizeF B0 (Nat.le_refl _) H1
  clear H1 B0
  go_wp2_with fail
  refine (small_wh (B) _ (by omega)).mono ?_
  rintro e w2 ⟨g2, a2, l2, c2, rfl, I2, H2⟩
  replace I1 := I1.below H2
  have B2 := below_sizeF B1 (Nat.le_refl _) H2
  clear H2 B1
  go_wp2_with fail
  refine (pair_wh (by omega) (by omega) ha hb I1 I2).mono ?_
  rintro e w3 ⟨rfl, H3⟩
  clear I1 I2
  have B3 := below_sizeF B2 (Nat.le_refl _) H3
  clear H3 B2
  have Ex := newF w3 (numP true false (.slice none 0 0) fa fb)
  have A3 := below_sizeF B3 (Nat.le_refl _) (box_belowF (w := w3) (o := numP true false (.slice none 0 0) fa fb))
  clear B3
  unfold numP at Ex A3
  go_wp2_with fail
  generalize w3.alloc (.cells #[.bool true, .bool false, .slice none 0 0, .complex .f64 fa fb] 31) = v3 at *
  generalize w3.heap.size = blx at *
  replace Ex : _ = some (numP true false (.slice none 0 0) fa fb) := Ex
  refine (small_wh (C) _ (by omega)).mono ?_
  rintro e w4 ⟨g4, a4, l4, c4, rfl, I4, H4⟩
  replace Ex := (H4.block _ (lt_of_blockF Ex)).trans Ex
  have B4 := below_sizeF A3 (Nat.le_refl _) H4
  clear H4 A3
  go_wp2_with fail
  refine (small_wh (D) _ (by omega)).mono ?_
  rintro e w5 ⟨g5, a5, l5, c5, rfl, I5, H5⟩
  replace Ex := (H5.block _ (lt_of_blockF Ex)).trans Ex
  replace I4 := I4.below H5
  have B5 := below_sizeF B4 (Nat.le_refl _) H5
  clear H5 B4
  go_wp2_with fail
  refine (pair_wh (by omega) (by omega) hc hd I4 I5).mono ?_
  rintro e w6 ⟨rfl, H6⟩
  clear I4 I5
  replace Ex := (H6.block _ (lt_of_blockF Ex)).trans Ex
  have B6 := below_sizeF B5 (Nat.le_refl _) H6
  clear H6 B5
  replace Ex := oldF Ex (numP true false (.slice none 0 0) fc fd)
  have Ey := newF w6 (numP true false (.slice none 0 0) fc fd)
  have A6 := below_sizeF B6 (Nat.le_refl _) (box_belowF (w := w6) (o := numP true false (.slice none 0 0) fc fd))
  clear B6
  unfold numP at Ex Ey A6
  go_wp2_with fail
  generalize w6.alloc (.cells #[.bool true, .bool false, .slice none 0 0, .complex .f64 fc fd] 31) = v6 at *
  generalize w6.heap.size = bly at *
  replace Ex : _ = some (numP true false (.slice none 0 0) fa fb) := Ex
  replace Ey : _ = some (numP true false (.slice none 0 0) fc fd) := Ey
  refine (small_wh (C) _ (by omega)).mono ?_
  rintro e w7 ⟨g7, a7, l7, c7, rfl, I7, H7⟩
  replace Ex := (H7.block _ (lt_of_blockF Ex)).trans Ex
  replace Ey := (H7.block _ (lt_of_blockF Ey)).trans Ey
  have B7 := below_sizeF A6 (Nat.le_refl _) H7
  clear H7 A6
  go_wp2_with fail
  refine (small_wh (-D) _ (by omega)).mono ?_
  rintro e w8 ⟨g8, a8, l8, c8, rfl, I8, H8⟩
  replace Ex := (H8.block _ (lt_of_blockF Ex)).trans Ex
  replace Ey := (H8.block _ (lt_of_blockF Ey)).trans Ey
  replace I7 := I7.below H8
  have B8 := below_sizeF B7 (Nat.le_refl _) H8
  clear H8 B7
  go_wp2_with fail
  refine (pair_wh (by omega) (by omega) hc hfm I7 I8).mono ?_
  rintro e w9 ⟨rfl, H9⟩
  clear I7 I8
  replace Ex := (H9.block _ (lt_of_blockF Ex)).trans Ex
  replace Ey := (H9.block _ (lt_of_blockF Ey)).trans Ey
  have B9 := below_sizeF B8 (Nat.le_refl _) H9
  clear H9 B8
  replace Ex := oldF Ex (numP true false (.slice none 0 0) fc fm)
  replace Ey := oldF Ey (numP true false (.slice none 0 0) fc fm)
  have Ez := newF w9 (numP true false (.slice none 0 0) fc fm)
  have A9 := below_sizeF B9 (Nat.le_refl _) (box_belowF (w := w9) (o := numP true false (.slice none 0 0) fc fm))
  clear B9
  unfold numP at Ex Ey Ez A9
  obtain ⟨x00, x01, x02, x03, x04⟩ := numP_cells (p := true) (m := false) (v := .slice none 0 0) (x := fa) (y := fb) Ex
  obtain ⟨x10, x11, x12, x13, x14⟩ := numP_cells (p := true) (m := false) (v := .slice none 0 0) (x := fc) (y := fd) Ey
  go_wp2_with fail
  generalize w9.alloc (.cells #[.bool true, .bool false, .slice none 0 0, .complex .f64 fc fm] 31) = v9 at *
  generalize w9.heap.size = blz at *
  replace Ex : _ = some (numP true false (.slice none 0 0) fa fb) := Ex
  replace Ey : _ = some (numP true false (.slice none 0 0) fc fd) := Ey
  replace Ez : _ = some (numP true false (.slice none 0 0) fc fm) := Ez
  clear x00 x01 x02 x03 x04 x10 x11 x12 x13 x14
  refine (does_times T1).mono ?_
  rintro e w10 ⟨rfl, H10⟩
  clear Ey
  replace Ex := (H10.block _ (lt_of_blockF Ex)).trans Ex
  replace Ez := (H10.block _ (lt_of_blockF Ez)).trans Ez
  have B10 := below_sizeF A9 (Nat.le_refl _) H10
  clear H10 A9
  replace Ex := oldF Ex (numP true false (.slice none 0 0) pr pi)
  replace Ez := oldF Ez (numP true false (.slice none 0 0) pr pi)
  have Ep := newF w10 (numP true false (.slice none 0 0) pr pi)
  have A10 := below_sizeF B10 (Nat.le_refl _) (box_belowF (w := w10) (o := numP true false (.slice none 0 0) pr pi))
  clear B10
  unfold numP at Ex Ez Ep A10
  obtain ⟨x00, x01, x02, x03, x04⟩ := numP_cells (p := true) (m := false) (v := .slice none 0 0) (x := fc) (y := fm) Ez
  go_wp2_with fail
  generalize w10.alloc (.cells #[.bool true, .bool false, .slice none 0 0, .complex .f64 pr pi] 31) = v10 at *
  generalize w10.heap.size = blp at *
  replace Ex : _ = some (numP true false (.slice none 0 0) fa fb) := Ex
  replace Ez : _ = some (numP true false (.slice none 0 0) fc fm) := Ez
  replace Ep : _ = some (numP true false (.slice none 0 0) pr pi) := Ep
  clear x00 x01 x02 x03 x04
  refine (does_times T2).mono ?_
  rintro e w11 ⟨rfl, H11⟩
  clear Ep Ez
  replace Ex := (H11.block _ (lt_of_blockF Ex)).trans Ex
  have B11 := below_sizeF A10 (Nat.le_refl _) H11
  clear H11 A10
  replace Ex := oldF Ex (numP true false (.slice none 0 0) qr qi)
  have Eq := newF w11 (numP true false (.slice none 0 0) qr qi)
  have A11 := below_sizeF B11 (Nat.le_refl _) (box_belowF (w := w11) (o := numP true false (.slice none 0 0) qr qi))
  clear B11
  unfold numP at Ex Eq A11
  go_wp2_with fail
  generalize w11.alloc (.cells #[.bool true, .bool false, .slice none 0 0, .complex .f64 qr qi] 31) = v11 at *
  generalize w11.heap.size = blq at *
  replace Ex : _ = some (numP true false (.slice none 0 0) fa fb) := Ex
  replace Eq : _ = some (numP true false (.slice none 0 0) qr qi) := Eq
  refine (small_wh (C * C + D * D) _ (by omega)).mono ?_
  rintro e w12 ⟨g12, a12, l12, c12, rfl, I12, H12⟩
  replace Ex := (H12.block _ (lt_of_blockF Ex)).trans Ex
  replace Eq := (H12.block _ (lt_of_blockF Eq)).trans Eq
  have B12 := below_sizeF A11 (Nat.le_refl _) H12
  clear H12 A11
  replace Ex := oldF Ex (intB g12 (.slice a12 l12 c12))
  replace Eq := oldF Eq (intB g12 (.slice a12 l12 c12))
  replace I12 := I12.below (box_belowF (o := intB g12 (.slice a12 l12 c12)))
  have En := newF w12 (intB g12 (.slice a12 l12 c12))
  have A12 := below_sizeF B12 (Nat.le_refl _) (box_belowF (w := w12) (o := intB g12 (.slice a12 l12 c12)))
  clear B12
  unfold intB at Ex Eq En I12 A12
  obtain ⟨x00, x01, x02, x03, x04⟩ := numP_cells (p := true) (m := false) (v := .slice none 0 0) (x := fa) (y := fb) Ex
  go_wp2_with fail
  generalize w12.alloc (.cells #[.bool g12, .slice a12 l12 c12] 28) = v12 at *
  generalize w12.heap.size = bln at *
  replace Ex : _ = some (numP true false (.slice none 0 0) fa fb) := Ex
  replace Eq : _ = some (numP true false (.slice none 0 0) qr qi) := Eq
  replace En : _ = some (intB g12 (.slice a12 l12 c12)) := En
  clear x00 x01 x02 x03 x04
  refine (timesW_wh T3 (by omega) hfn I12).mono ?_
  rintro e w13 ⟨rfl, H13⟩
  clear Ex En I12
  replace Eq := (H13.block _ (lt_of_blockF Eq)).trans Eq
  have B13 := below_sizeF A12 (Nat.le_refl _) H13
  clear H13 A12
  replace Eq := oldF Eq (numP true false (.slice none 0 0) wr wi)
  have Ew := newF w13 (numP true false (.slice none 0 0) wr wi)
  have A13 := below_sizeF B13 (Nat.le_refl _) (box_belowF (w := w13) (o := numP true false (.slice none 0 0) wr wi))
  clear B13
  unfold numP at Eq Ew A13
  obtain ⟨x00, x01, x02, x03, x04⟩ := numP_cells (p := true) (m := false) (v := .slice none 0 0) (x := qr) (y := qi) Eq
  go_wp2_with fail
  generalize w13.alloc (.cells #[.bool true, .bool false, .slice none 0 0, .complex .f64 wr wi] 31) = v13 at *
  generalize w13.heap.size = blw at *
  replace Eq : _ = some (numP true false (.slice none 0 0) qr qi) := Eq
  replace Ew : _ = some (numP true false (.slice none 0 0) wr wi) := Ew
  clear x00 x01 x02 x03 x04
  refine (equal_wh hq).mono ?_
  rintro e w14 ⟨rfl, H14⟩
  clear Eq Ew
  have B14 := below_sizeF A13 (Nat.le_refl _) H14
  clear H14 A13
  have Er := newF w14 (numP false false (.slice none 0 0) 0 0)
  have A14 := below_sizeF B14 (Nat.le_refl _) (box_belowF (w := w14) (o := numP false false (.slice none 0 0) 0 0))
  clear B14
  unfold numP at Er A14
  go_wp2_with fail
  generalize w14.alloc (.cells #[.bool false, .bool false, .slice none 0 0, .complex .f64 0 0] 31) = v14 at *
  generalize w14.heap.size = blr at *
  replace Er : _ = some (numP false false (.slice none 0 0) 0 0) := Er
  refine (known_true _).mono ?_
  rintro e w15 ⟨rfl, H15⟩
  clear Er
  have B15 := below_sizeF A14 (Nat.le_refl _) H15
  clear H15 A14
  go_wp2
  go_ret
  exact ⟨rfl, B15⟩
end Go.Proofs.Ytkpngpongbpfgaa
