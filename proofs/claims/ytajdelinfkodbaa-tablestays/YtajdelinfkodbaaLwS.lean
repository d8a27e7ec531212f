/- The law TableStays. -/
import Derived.Test.YtajdelinfkodbaaSty
namespace Go.Proofs.Ytajdelinfkodbaa
open Go.RowKit
set_option maxRecDepth 100000
theorem alike_yes (c : Int) (vs : List (Int × Int)) (bs : List Int) : alike c c vs vs bs bs = true := by simp [alike]
theorem hd_cls {W0 w : World} {b : Nat} {t : Tab} (h : Hd W0 b t w) (c k : Int) : -9223372036854775808 ≤ clsO (atO t c k) ∧ clsO (atO t c k) ≤ 9223372036854775807 := by
  obtain ⟨S, R, h1, _⟩ := h
  unfold atO
  split
  · cases hx : atC (t.m k).vs c with
    | none => simp [clsO]
    | some x =>
      obtain ⟨m1, _, m3⟩ := atC_mem hx
      have h2 := (h1.good.ver k x m1).2.2
      simp only [okCh, m3, okO, okC, Bool.false_eq_true, if_false, Bool.and_eq_true, decide_eq_true_eq] at h2
      show -9223372036854775808 ≤ x.cls ∧ x.cls ≤ 9223372036854775807
      omega
  · simp [clsO]
set_option maxHeartbeats 8000000 in
theorem tableStays_true {w : World} {la ma : Option Addr} {ln lc mn mc : Nat} {ls ms : List Rm} (hl : IsRs w la ln lc ls) (hm : IsRs w ma mn mc ms) (k oop : Int) :
    Calls Try.prog 4 #[.slice la ln lc, .int .i64 k, .slice ma mn mc, .int .i64 oop] w fun e w' => e = .returned (.bool true) ∧ Below w.heap.size w w' := by
  have t0 := Hd.new w
  go_enter Try.func4, Try.ntmps4
  go_wp2_with fail
  refine (new_tab w).mono ?_
  rintro e w1 ⟨rfl, rfl⟩
  obtain ⟨b, hb⟩ : ∃ q, Hid (q = w.heap.size) := ⟨_, rfl⟩
  rw [← hb.out]
  rw [← hb.out] at t0
  generalize w.alloc (tabB 0 0 none) = w1 at *
  go_wp2_with fail
  have s1 := hl.size
  have s2 := hl.room
  have s3 := hl.most
  unfold maxLen at s3
  go_loopw [10] (fun iv wr => ∃ (j : Nat) (t : Tab), iv = .int .i64 (j : Int) ∧ j ≤ ln ∧ Hd w b t wr) (fun iv _ => ln - (intOf iv).toNat)
  case atStart => exact ⟨0, tab0, rfl, by omega, t0⟩
  case round =>
    obtain ⟨j, t, rfl, hj, hd⟩ := hrel
    by_cases hlt : j < ln ∧ j < 20
    · obtain ⟨h1, h2⟩ := hlt
      obtain ⟨rb, ro, m, rfl, hrb, c0, c1, hC, hnn, hpart⟩ := hl.at_ j h1 hd.belowW
      have i1 : (j : Int) < (ln : Int) := by omega
      have i2 : (j : Int) < 20 := by omega
      go_wp2_with fail
      refine (given_any m.com hC hnn hpart).mono ?_
      rintro e w2 ⟨a2, n2, cap2, rfl, hO, B2⟩
      have hd2 := hd.below B2
      go_wp2_with fail
      refine (hd_apply hd2 m.com hO).mono ?_
      rintro e w3 ⟨rfl, hd3, kp3⟩
      go_wp2
      go_roundw
      case rel => exact ⟨j + 1, _, by go_num, by omega, hd3⟩
      case measure => simp [intOf]; omega
    · have i1 : ¬ ((j : Int) < (ln : Int) ∧ (j : Int) < 20) := by omega
      have f0 : t.first ≤ t.last := by
        obtain ⟨S, R, h1, _⟩ := hd
        exact h1.first0.2.1
      by_cases i2 : (j : Int) < (ln : Int)
      · have i3 : ¬ (j : Int) < 20 := by omega
        clear i1 hlt
        go_wp2_with fail
        refine (hd_last hd).mono ?_
        rintro e w2 ⟨rfl, rfl⟩
        by_cases hk : Int.tmod k 2 = 0
        · go_wp2_with fail
          refine (hd_first hd).mono ?_
          rintro e w2 ⟨rfl, rfl⟩
          go_wp2_with fail
          refine (hd_at hd (t.first) oop).mono ?_
          rintro e w3 ⟨vv, bv, rfl, oV, oB, B3⟩
          obtain ⟨sa, sn, sc, rfl⟩ := oV.shape'
          obtain ⟨ba, bn, bq, rfl⟩ := oB.shape'
          have hd3 := hd.below B3
          go_wp2_with fail
          obtain ⟨bx, hbx⟩ : ∃ q, Hid (q = w3.heap.size) := ⟨_, rfl⟩
          have E3 : (w3.alloc (.cells #[.int .i64 (clsO (atO t (t.first) oop)), .slice sa sn sc, .slice ba bn bq] 49)).heap[w3.heap.size]? = some (.cells #[.int .i64 (clsO (atO t (t.first) oop)), .slice sa sn sc, .slice ba bn bq] 49 (0, 0)) := new1 _ _
          have B3' : Below w3.heap.size w3 (w3.alloc (.cells #[.int .i64 (clsO (atO t (t.first) oop)), .slice sa sn sc, .slice ba bn bq] 49)) := box_below
          replace hd3 := hd3.below B3'
          replace oV := oV.below B3'
          replace oB := oB.below B3'
          rw [← hbx.out] at E3 ⊢
          clear B3' hbx
          generalize w3.alloc (.cells #[.int .i64 (clsO (atO t (t.first) oop)), .slice sa sn sc, .slice ba bn bq] 49) = w3x at *
          refine (hd_oops hd3 (t.first)).mono ?_
          rintro e w4 ⟨oa, on, oc, rfl, hon0, oO, B4⟩
          have hon : Hid (on = (oopsL t (t.first)).length) := hon0
          clear hon0
          have hd4 := hd3.below B4
          have oV4 := oV.below B4
          have oB4 := oB.below B4
          have E4 := (B4.block bx (lt_of_block E3)).trans E3
          clear oV oB hd3 hd B3 B4 E3
          go_wp2_with fail
          go_loopw [15] (fun iv wz => ∃ (z : Nat) (tz : Tab), iv = .int .i64 (z : Int) ∧ z ≤ mn ∧ Hd w b tz wz ∧ Aft t tz ∧ KpT w4 wz) (fun iv _ => mn - (intOf iv).toNat)
          case atStart => exact ⟨0, t, rfl, by omega, hd4, Aft.refl t, KpT.refl w4⟩
          case round =>
            obtain ⟨z, tz, rfl, hz, hdz, aft, kp⟩ := hrel
            by_cases hlt2 : z < mn ∧ z < 20
            · obtain ⟨h1, h2⟩ := hlt2
              obtain ⟨rb, ro, m, rfl, hrb, c0, c1, hC, hnn, hpart⟩ := hm.at_ z h1 hdz.belowW
              have i1 : (z : Int) < (mn : Int) := by omega
              have i4 : (z : Int) < 20 := by omega
              go_wp2_with fail
              refine (given_any m.com hC hnn hpart).mono ?_
              rintro e w5 ⟨a5, n5, cap5, rfl, hO, B5⟩
              have hd5 := hdz.below B5
              go_wp2_with fail
              refine (hd_apply hd5 m.com hO).mono ?_
              rintro e w6 ⟨rfl, hd6, kp6⟩
              go_wp2
              go_roundw
              case rel => exact ⟨z + 1, _, by go_num, by omega, hd6, aft.trans (aft_apply _ _ _), kp.trans ((KpT.below B5).trans kp6)⟩
              case measure => simp [intOf]; omega
            · have i1 : ¬ ((z : Int) < (mn : Int) ∧ (z : Int) < 20) := by omega
              obtain ⟨g1, g2, g3⟩ := aft.both (c := t.first) (Int.le_refl _) f0
              have g2' : Hid (atE tz (t.first) oop = atE t (t.first) oop) := g2 oop
              have g1' : Hid (atO tz (t.first) oop = atO t (t.first) oop) := g1 oop
              have g3' : Hid (oopsL tz (t.first) = oopsL t (t.first)) := g3
              clear g1 g2 g3
              have oVz := kp.ownV oV4
              have oBz := kp.ownB oB4
              have oOz := kp.own oO (by decide) (by decide)
              have Ez := (kp.keep bx _ _ E4 (by decide) (by decide)).trans E4
              by_cases i4 : (z : Int) < (mn : Int)
              · have i5 : ¬ (z : Int) < 20 := by omega
                clear i1 hlt2
                go_wp2_with fail
                refine (hd_at hdz (t.first) oop).mono ?_
                rintro e w7 ⟨vy, by_, rfl, oW, oC, B7⟩
                obtain ⟨ta, tn, tc, rfl⟩ := oW.shape'
                obtain ⟨ea, en, ec, rfl⟩ := oC.shape'
                have hd7 := hdz.below B7
                have oV7 := oVz.below B7
                have oB7 := oBz.below B7
                have oO7 := (KpT.below B7).own oOz (by decide) (by decide)
                have E7 := (B7.block bx (lt_of_block Ez)).trans Ez
                rw [g1'.out] at oW oC
                rw [g1'.out, g2'.out]
                have E8 := old1 E7 (.cells #[.int .i64 (clsO (atO t (t.first) oop)), .slice ta tn tc, .slice ea en ec] 49)
                obtain ⟨y0, y1, y2, _⟩ := obj_cells (c := clsO (atO t (t.first) oop)) (v1 := .slice sa sn sc) (v2 := .slice ba bn bq) E8
                have B8 : Below w7.heap.size w7 (w7.alloc (.cells #[.int .i64 (clsO (atO t (t.first) oop)), .slice ta tn tc, .slice ea en ec] 49)) := box_below
                have hd8 := hd7.below B8
                have oV8 := oV7.below B8
                have oB8 := oB7.below B8
                have oW8 := oW.below B8
                have oC8 := oC.below B8
                have oO8 := (KpT.below B8).own oO7 (by decide) (by decide)
                have hcl := hd_cls hd4 (t.first) oop
                clear oVz oBz oOz Ez oV7 oB7 oW oC oO7 E7 E8 hd7 hdz kp aft E4 B7
                go_wp2_with fail
                refine (rsame_any ⟨hcl, oV8.isV, oB8.isB⟩ ⟨hcl, oW8.isV, oC8.isB⟩).mono ?_
                rintro e w9 ⟨rfl, B9⟩
                have hd9 := hd8.below B9
                have oO9 := (KpT.below B9).own oO8 (by decide) (by decide)
                rw [alike_yes]
                go_wp2_with fail
                refine (hd_oops hd9 (t.first)).mono ?_
                rintro e w10 ⟨pa, pn, pc, rfl, hpn0, oP, B10⟩
                have hd10 := hd9.below B10
                have oO10 := (KpT.below B10).own oO9 (by decide) (by decide)
                rw [g3'.out] at hpn0 oP
                obtain rfl : pn = on := hpn0.trans hon.out.symm
                clear hpn0
                go_wp2_with fail
                refine (lsame_yes oO10 oP hon.out (by rw [hon.out]; exact oopsL_len _ _)).mono ?_
                rintro e w11 ⟨rfl, B11⟩
                go_wp2_with fail
                refine (known_true _).mono ?_
                rintro e w12 ⟨rfl, B12⟩
                have hd12 := (hd10.below B11).below B12
                go_wp2
                go_ret
                exact ⟨rfl, hd12.belowW⟩
              · clear i1 hlt2
                go_wp2_with fail
                refine (hd_at hdz (t.first) oop).mono ?_
                rintro e w7 ⟨vy, by_, rfl, oW, oC, B7⟩
                obtain ⟨ta, tn, tc, rfl⟩ := oW.shape'
                obtain ⟨ea, en, ec, rfl⟩ := oC.shape'
                have hd7 := hdz.below B7
                have oV7 := oVz.below B7
                have oB7 := oBz.below B7
                have oO7 := (KpT.below B7).own oOz (by decide) (by decide)
                have E7 := (B7.block bx (lt_of_block Ez)).trans Ez
                rw [g1'.out] at oW oC
                rw [g1'.out, g2'.out]
                have E8 := old1 E7 (.cells #[.int .i64 (clsO (atO t (t.first) oop)), .slice ta tn tc, .slice ea en ec] 49)
                obtain ⟨y0, y1, y2, _⟩ := obj_cells (c := clsO (atO t (t.first) oop)) (v1 := .slice sa sn sc) (v2 := .slice ba bn bq) E8
                have B8 : Below w7.heap.size w7 (w7.alloc (.cells #[.int .i64 (clsO (atO t (t.first) oop)), .slice ta tn tc, .slice ea en ec] 49)) := box_below
                have hd8 := hd7.below B8
                have oV8 := oV7.below B8
                have oB8 := oB7.below B8
                have oW8 := oW.below B8
                have oC8 := oC.below B8
                have oO8 := (KpT.below B8).own oO7 (by decide) (by decide)
                have hcl := hd_cls hd4 (t.first) oop
                clear oVz oBz oOz Ez oV7 oB7 oW oC oO7 E7 E8 hd7 hdz kp aft E4 B7
                go_wp2_with fail
                refine (rsame_any ⟨hcl, oV8.isV, oB8.isB⟩ ⟨hcl, oW8.isV, oC8.isB⟩).mono ?_
                rintro e w9 ⟨rfl, B9⟩
                have hd9 := hd8.below B9
                have oO9 := (KpT.below B9).own oO8 (by decide) (by decide)
                rw [alike_yes]
                go_wp2_with fail
                refine (hd_oops hd9 (t.first)).mono ?_
                rintro e w10 ⟨pa, pn, pc, rfl, hpn0, oP, B10⟩
                have hd10 := hd9.below B10
                have oO10 := (KpT.below B10).own oO9 (by decide) (by decide)
                rw [g3'.out] at hpn0 oP
                obtain rfl : pn = on := hpn0.trans hon.out.symm
                clear hpn0
                go_wp2_with fail
                refine (lsame_yes oO10 oP hon.out (by rw [hon.out]; exact oopsL_len _ _)).mono ?_
                rintro e w11 ⟨rfl, B11⟩
                go_wp2_with fail
                refine (known_true _).mono ?_
                rintro e w12 ⟨rfl, B12⟩
                have hd12 := (hd10.below B11).below B12
                go_wp2
                go_ret
                exact ⟨rfl, hd12.belowW⟩
        · go_wp2_with fail
          refine (hd_at hd (t.last) oop).mono ?_
          rintro e w3 ⟨vv, bv, rfl, oV, oB, B3⟩
          obtain ⟨sa, sn, sc, rfl⟩ := oV.shape'
          obtain ⟨ba, bn, bq, rfl⟩ := oB.shape'
          have hd3 := hd.below B3
          go_wp2_with fail
          obtain ⟨bx, hbx⟩ : ∃ q, Hid (q = w3.heap.size) := ⟨_, rfl⟩
          have E3 : (w3.alloc (.cells #[.int .i64 (clsO (atO t (t.last) oop)), .slice sa sn sc, .slice ba bn bq] 49)).heap[w3.heap.size]? = some (.cells #[.int .i64 (clsO (atO t (t.last) oop)), .slice sa sn sc, .slice ba bn bq] 49 (0, 0)) := new1 _ _
          have B3' : Below w3.heap.size w3 (w3.alloc (.cells #[.int .i64 (clsO (atO t (t.last) oop)), .slice sa sn sc, .slice ba bn bq] 49)) := box_below
          replace hd3 := hd3.below B3'
          replace oV := oV.below B3'
          replace oB := oB.below B3'
          rw [← hbx.out] at E3 ⊢
          clear B3' hbx
          generalize w3.alloc (.cells #[.int .i64 (clsO (atO t (t.last) oop)), .slice sa sn sc, .slice ba bn bq] 49) = w3x at *
          refine (hd_oops hd3 (t.last)).mono ?_
          rintro e w4 ⟨oa, on, oc, rfl, hon0, oO, B4⟩
          have hon : Hid (on = (oopsL t (t.last)).length) := hon0
          clear hon0
          have hd4 := hd3.below B4
          have oV4 := oV.below B4
          have oB4 := oB.below B4
          have E4 := (B4.block bx (lt_of_block E3)).trans E3
          clear oV oB hd3 hd B3 B4 E3
          go_wp2_with fail
          go_loopw [15] (fun iv wz => ∃ (z : Nat) (tz : Tab), iv = .int .i64 (z : Int) ∧ z ≤ mn ∧ Hd w b tz wz ∧ Aft t tz ∧ KpT w4 wz) (fun iv _ => mn - (intOf iv).toNat)
          case atStart => exact ⟨0, t, rfl, by omega, hd4, Aft.refl t, KpT.refl w4⟩
          case round =>
            obtain ⟨z, tz, rfl, hz, hdz, aft, kp⟩ := hrel
            by_cases hlt2 : z < mn ∧ z < 20
            · obtain ⟨h1, h2⟩ := hlt2
              obtain ⟨rb, ro, m, rfl, hrb, c0, c1, hC, hnn, hpart⟩ := hm.at_ z h1 hdz.belowW
              have i1 : (z : Int) < (mn : Int) := by omega
              have i4 : (z : Int) < 20 := by omega
              go_wp2_with fail
              refine (given_any m.com hC hnn hpart).mono ?_
              rintro e w5 ⟨a5, n5, cap5, rfl, hO, B5⟩
              have hd5 := hdz.below B5
              go_wp2_with fail
              refine (hd_apply hd5 m.com hO).mono ?_
              rintro e w6 ⟨rfl, hd6, kp6⟩
              go_wp2
              go_roundw
              case rel => exact ⟨z + 1, _, by go_num, by omega, hd6, aft.trans (aft_apply _ _ _), kp.trans ((KpT.below B5).trans kp6)⟩
              case measure => simp [intOf]; omega
            · have i1 : ¬ ((z : Int) < (mn : Int) ∧ (z : Int) < 20) := by omega
              obtain ⟨g1, g2, g3⟩ := aft.both (c := t.last) f0 (Int.le_refl _)
              have g2' : Hid (atE tz (t.last) oop = atE t (t.last) oop) := g2 oop
              have g1' : Hid (atO tz (t.last) oop = atO t (t.last) oop) := g1 oop
              have g3' : Hid (oopsL tz (t.last) = oopsL t (t.last)) := g3
              clear g1 g2 g3
              have oVz := kp.ownV oV4
              have oBz := kp.ownB oB4
              have oOz := kp.own oO (by decide) (by decide)
              have Ez := (kp.keep bx _ _ E4 (by decide) (by decide)).trans E4
              by_cases i4 : (z : Int) < (mn : Int)
              · have i5 : ¬ (z : Int) < 20 := by omega
                clear i1 hlt2
                go_wp2_with fail
                refine (hd_at hdz (t.last) oop).mono ?_
                rintro e w7 ⟨vy, by_, rfl, oW, oC, B7⟩
                obtain ⟨ta, tn, tc, rfl⟩ := oW.shape'
                obtain ⟨ea, en, ec, rfl⟩ := oC.shape'
                have hd7 := hdz.below B7
                have oV7 := oVz.below B7
                have oB7 := oBz.below B7
                have oO7 := (KpT.below B7).own oOz (by decide) (by decide)
                have E7 := (B7.block bx (lt_of_block Ez)).trans Ez
                rw [g1'.out] at oW oC
                rw [g1'.out, g2'.out]
                have E8 := old1 E7 (.cells #[.int .i64 (clsO (atO t (t.last) oop)), .slice ta tn tc, .slice ea en ec] 49)
                obtain ⟨y0, y1, y2, _⟩ := obj_cells (c := clsO (atO t (t.last) oop)) (v1 := .slice sa sn sc) (v2 := .slice ba bn bq) E8
                have B8 : Below w7.heap.size w7 (w7.alloc (.cells #[.int .i64 (clsO (atO t (t.last) oop)), .slice ta tn tc, .slice ea en ec] 49)) := box_below
                have hd8 := hd7.below B8
                have oV8 := oV7.below B8
                have oB8 := oB7.below B8
                have oW8 := oW.below B8
                have oC8 := oC.below B8
                have oO8 := (KpT.below B8).own oO7 (by decide) (by decide)
                have hcl := hd_cls hd4 (t.last) oop
                clear oVz oBz oOz Ez oV7 oB7 oW oC oO7 E7 E8 hd7 hdz kp aft E4 B7
                go_wp2_with fail
                refine (rsame_any ⟨hcl, oV8.isV, oB8.isB⟩ ⟨hcl, oW8.isV, oC8.isB⟩).mono ?_
                rintro e w9 ⟨rfl, B9⟩
                have hd9 := hd8.below B9
                have oO9 := (KpT.below B9).own oO8 (by decide) (by decide)
                rw [alike_yes]
                go_wp2_with fail
                refine (hd_oops hd9 (t.last)).mono ?_
                rintro e w10 ⟨pa, pn, pc, rfl, hpn0, oP, B10⟩
                have hd10 := hd9.below B10
                have oO10 := (KpT.below B10).own oO9 (by decide) (by decide)
                rw [g3'.out] at hpn0 oP
                obtain rfl : pn = on := hpn0.trans hon.out.symm
                clear hpn0
                go_wp2_with fail
                refine (lsame_yes oO10 oP hon.out (by rw [hon.out]; exact oopsL_len _ _)).mono ?_
                rintro e w11 ⟨rfl, B11⟩
                go_wp2_with fail
                refine (known_true _).mono ?_
                rintro e w12 ⟨rfl, B12⟩
                have hd12 := (hd10.below B11).below B12
                go_wp2
                go_ret
                exact ⟨rfl, hd12.belowW⟩
              · clear i1 hlt2
                go_wp2_with fail
                refine (hd_at hdz (t.last) oop).mono ?_
                rintro e w7 ⟨vy, by_, rfl, oW, oC, B7⟩
                obtain ⟨ta, tn, tc, rfl⟩ := oW.shape'
                obtain ⟨ea, en, ec, rfl⟩ := oC.shape'
                have hd7 := hdz.below B7
                have oV7 := oVz.below B7
                have oB7 := oBz.below B7
                have oO7 := (KpT.below B7).own oOz (by decide) (by decide)
                have E7 := (B7.block bx (lt_of_block Ez)).trans Ez
                rw [g1'.out] at oW oC
                rw [g1'.out, g2'.out]
                have E8 := old1 E7 (.cells #[.int .i64 (clsO (atO t (t.last) oop)), .slice ta tn tc, .slice ea en ec] 49)
                obtain ⟨y0, y1, y2, _⟩ := obj_cells (c := clsO (atO t (t.last) oop)) (v1 := .slice sa sn sc) (v2 := .slice ba bn bq) E8
                have B8 : Below w7.heap.size w7 (w7.alloc (.cells #[.int .i64 (clsO (atO t (t.last) oop)), .slice ta tn tc, .slice ea en ec] 49)) := box_below
                have hd8 := hd7.below B8
                have oV8 := oV7.below B8
                have oB8 := oB7.below B8
                have oW8 := oW.below B8
                have oC8 := oC.below B8
                have oO8 := (KpT.below B8).own oO7 (by decide) (by decide)
                have hcl := hd_cls hd4 (t.last) oop
                clear oVz oBz oOz Ez oV7 oB7 oW oC oO7 E7 E8 hd7 hdz kp aft E4 B7
                go_wp2_with fail
                refine (rsame_any ⟨hcl, oV8.isV, oB8.isB⟩ ⟨hcl, oW8.isV, oC8.isB⟩).mono ?_
                rintro e w9 ⟨rfl, B9⟩
                have hd9 := hd8.below B9
                have oO9 := (KpT.below B9).own oO8 (by decide) (by decide)
                rw [alike_yes]
                go_wp2_with fail
                refine (hd_oops hd9 (t.last)).mono ?_
                rintro e w10 ⟨pa, pn, pc, rfl, hpn0, oP, B10⟩
                have hd10 := hd9.below B10
                have oO10 := (KpT.below B10).own oO9 (by decide) (by decide)
                rw [g3'.out] at hpn0 oP
                obtain rfl : pn = on := hpn0.trans hon.out.symm
                clear hpn0
                go_wp2_with fail
                refine (lsame_yes oO10 oP hon.out (by rw [hon.out]; exact oopsL_len _ _)).mono ?_
                rintro e w11 ⟨rfl, B11⟩
                go_wp2_with fail
                refine (known_true _).mono ?_
                rintro e w12 ⟨rfl, B12⟩
                have hd12 := (hd10.below B11).below B12
                go_wp2
                go_ret
                exact ⟨rfl, hd12.belowW⟩
      · clear i1 hlt
        go_wp2_with fail
        refine (hd_last hd).mono ?_
        rintro e w2 ⟨rfl, rfl⟩
        by_cases hk : Int.tmod k 2 = 0
        · go_wp2_with fail
          refine (hd_first hd).mono ?_
          rintro e w2 ⟨rfl, rfl⟩
          go_wp2_with fail
          refine (hd_at hd (t.first) oop).mono ?_
          rintro e w3 ⟨vv, bv, rfl, oV, oB, B3⟩
          obtain ⟨sa, sn, sc, rfl⟩ := oV.shape'
          obtain ⟨ba, bn, bq, rfl⟩ := oB.shape'
          have hd3 := hd.below B3
          go_wp2_with fail
          obtain ⟨bx, hbx⟩ : ∃ q, Hid (q = w3.heap.size) := ⟨_, rfl⟩
          have E3 : (w3.alloc (.cells #[.int .i64 (clsO (atO t (t.first) oop)), .slice sa sn sc, .slice ba bn bq] 49)).heap[w3.heap.size]? = some (.cells #[.int .i64 (clsO (atO t (t.first) oop)), .slice sa sn sc, .slice ba bn bq] 49 (0, 0)) := new1 _ _
          have B3' : Below w3.heap.size w3 (w3.alloc (.cells #[.int .i64 (clsO (atO t (t.first) oop)), .slice sa sn sc, .slice ba bn bq] 49)) := box_below
          replace hd3 := hd3.below B3'
          replace oV := oV.below B3'
          replace oB := oB.below B3'
          rw [← hbx.out] at E3 ⊢
          clear B3' hbx
          generalize w3.alloc (.cells #[.int .i64 (clsO (atO t (t.first) oop)), .slice sa sn sc, .slice ba bn bq] 49) = w3x at *
          refine (hd_oops hd3 (t.first)).mono ?_
          rintro e w4 ⟨oa, on, oc, rfl, hon0, oO, B4⟩
          have hon : Hid (on = (oopsL t (t.first)).length) := hon0
          clear hon0
          have hd4 := hd3.below B4
          have oV4 := oV.below B4
          have oB4 := oB.below B4
          have E4 := (B4.block bx (lt_of_block E3)).trans E3
          clear oV oB hd3 hd B3 B4 E3
          go_wp2_with fail
          go_loopw [15] (fun iv wz => ∃ (z : Nat) (tz : Tab), iv = .int .i64 (z : Int) ∧ z ≤ mn ∧ Hd w b tz wz ∧ Aft t tz ∧ KpT w4 wz) (fun iv _ => mn - (intOf iv).toNat)
          case atStart => exact ⟨0, t, rfl, by omega, hd4, Aft.refl t, KpT.refl w4⟩
          case round =>
            obtain ⟨z, tz, rfl, hz, hdz, aft, kp⟩ := hrel
            by_cases hlt2 : z < mn ∧ z < 20
            · obtain ⟨h1, h2⟩ := hlt2
              obtain ⟨rb, ro, m, rfl, hrb, c0, c1, hC, hnn, hpart⟩ := hm.at_ z h1 hdz.belowW
              have i1 : (z : Int) < (mn : Int) := by omega
              have i4 : (z : Int) < 20 := by omega
              go_wp2_with fail
              refine (given_any m.com hC hnn hpart).mono ?_
              rintro e w5 ⟨a5, n5, cap5, rfl, hO, B5⟩
              have hd5 := hdz.below B5
              go_wp2_with fail
              refine (hd_apply hd5 m.com hO).mono ?_
              rintro e w6 ⟨rfl, hd6, kp6⟩
              go_wp2
              go_roundw
              case rel => exact ⟨z + 1, _, by go_num, by omega, hd6, aft.trans (aft_apply _ _ _), kp.trans ((KpT.below B5).trans kp6)⟩
              case measure => simp [intOf]; omega
            · have i1 : ¬ ((z : Int) < (mn : Int) ∧ (z : Int) < 20) := by omega
              obtain ⟨g1, g2, g3⟩ := aft.both (c := t.first) (Int.le_refl _) f0
              have g2' : Hid (atE tz (t.first) oop = atE t (t.first) oop) := g2 oop
              have g1' : Hid (atO tz (t.first) oop = atO t (t.first) oop) := g1 oop
              have g3' : Hid (oopsL tz (t.first) = oopsL t (t.first)) := g3
              clear g1 g2 g3
              have oVz := kp.ownV oV4
              have oBz := kp.ownB oB4
              have oOz := kp.own oO (by decide) (by decide)
              have Ez := (kp.keep bx _ _ E4 (by decide) (by decide)).trans E4
              by_cases i4 : (z : Int) < (mn : Int)
              · have i5 : ¬ (z : Int) < 20 := by omega
                clear i1 hlt2
                go_wp2_with fail
                refine (hd_at hdz (t.first) oop).mono ?_
                rintro e w7 ⟨vy, by_, rfl, oW, oC, B7⟩
                obtain ⟨ta, tn, tc, rfl⟩ := oW.shape'
                obtain ⟨ea, en, ec, rfl⟩ := oC.shape'
                have hd7 := hdz.below B7
                have oV7 := oVz.below B7
                have oB7 := oBz.below B7
                have oO7 := (KpT.below B7).own oOz (by decide) (by decide)
                have E7 := (B7.block bx (lt_of_block Ez)).trans Ez
                rw [g1'.out] at oW oC
                rw [g1'.out, g2'.out]
                have E8 := old1 E7 (.cells #[.int .i64 (clsO (atO t (t.first) oop)), .slice ta tn tc, .slice ea en ec] 49)
                obtain ⟨y0, y1, y2, _⟩ := obj_cells (c := clsO (atO t (t.first) oop)) (v1 := .slice sa sn sc) (v2 := .slice ba bn bq) E8
                have B8 : Below w7.heap.size w7 (w7.alloc (.cells #[.int .i64 (clsO (atO t (t.first) oop)), .slice ta tn tc, .slice ea en ec] 49)) := box_below
                have hd8 := hd7.below B8
                have oV8 := oV7.below B8
                have oB8 := oB7.below B8
                have oW8 := oW.below B8
                have oC8 := oC.below B8
                have oO8 := (KpT.below B8).own oO7 (by decide) (by decide)
                have hcl := hd_cls hd4 (t.first) oop
                clear oVz oBz oOz Ez oV7 oB7 oW oC oO7 E7 E8 hd7 hdz kp aft E4 B7
                go_wp2_with fail
                refine (rsame_any ⟨hcl, oV8.isV, oB8.isB⟩ ⟨hcl, oW8.isV, oC8.isB⟩).mono ?_
                rintro e w9 ⟨rfl, B9⟩
                have hd9 := hd8.below B9
                have oO9 := (KpT.below B9).own oO8 (by decide) (by decide)
                rw [alike_yes]
                go_wp2_with fail
                refine (hd_oops hd9 (t.first)).mono ?_
                rintro e w10 ⟨pa, pn, pc, rfl, hpn0, oP, B10⟩
                have hd10 := hd9.below B10
                have oO10 := (KpT.below B10).own oO9 (by decide) (by decide)
                rw [g3'.out] at hpn0 oP
                obtain rfl : pn = on := hpn0.trans hon.out.symm
                clear hpn0
                go_wp2_with fail
                refine (lsame_yes oO10 oP hon.out (by rw [hon.out]; exact oopsL_len _ _)).mono ?_
                rintro e w11 ⟨rfl, B11⟩
                go_wp2_with fail
                refine (known_true _).mono ?_
                rintro e w12 ⟨rfl, B12⟩
                have hd12 := (hd10.below B11).below B12
                go_wp2
                go_ret
                exact ⟨rfl, hd12.belowW⟩
              · clear i1 hlt2
                go_wp2_with fail
                refine (hd_at hdz (t.first) oop).mono ?_
                rintro e w7 ⟨vy, by_, rfl, oW, oC, B7⟩
                obtain ⟨ta, tn, tc, rfl⟩ := oW.shape'
                obtain ⟨ea, en, ec, rfl⟩ := oC.shape'
                have hd7 := hdz.below B7
                have oV7 := oVz.below B7
                have oB7 := oBz.below B7
                have oO7 := (KpT.below B7).own oOz (by decide) (by decide)
                have E7 := (B7.block bx (lt_of_block Ez)).trans Ez
                rw [g1'.out] at oW oC
                rw [g1'.out, g2'.out]
                have E8 := old1 E7 (.cells #[.int .i64 (clsO (atO t (t.first) oop)), .slice ta tn tc, .slice ea en ec] 49)
                obtain ⟨y0, y1, y2, _⟩ := obj_cells (c := clsO (atO t (t.first) oop)) (v1 := .slice sa sn sc) (v2 := .slice ba bn bq) E8
                have B8 : Below w7.heap.size w7 (w7.alloc (.cells #[.int .i64 (clsO (atO t (t.first) oop)), .slice ta tn tc, .slice ea en ec] 49)) := box_below
                have hd8 := hd7.below B8
                have oV8 := oV7.below B8
                have oB8 := oB7.below B8
                have oW8 := oW.below B8
                have oC8 := oC.below B8
                have oO8 := (KpT.below B8).own oO7 (by decide) (by decide)
                have hcl := hd_cls hd4 (t.first) oop
                clear oVz oBz oOz Ez oV7 oB7 oW oC oO7 E7 E8 hd7 hdz kp aft E4 B7
                go_wp2_with fail
                refine (rsame_any ⟨hcl, oV8.isV, oB8.isB⟩ ⟨hcl, oW8.isV, oC8.isB⟩).mono ?_
                rintro e w9 ⟨rfl, B9⟩
                have hd9 := hd8.below B9
                have oO9 := (KpT.below B9).own oO8 (by decide) (by decide)
                rw [alike_yes]
                go_wp2_with fail
                refine (hd_oops hd9 (t.first)).mono ?_
                rintro e w10 ⟨pa, pn, pc, rfl, hpn0, oP, B10⟩
                have hd10 := hd9.below B10
                have oO10 := (KpT.below B10).own oO9 (by decide) (by decide)
                rw [g3'.out] at hpn0 oP
                obtain rfl : pn = on := hpn0.trans hon.out.symm
                clear hpn0
                go_wp2_with fail
                refine (lsame_yes oO10 oP hon.out (by rw [hon.out]; exact oopsL_len _ _)).mono ?_
                rintro e w11 ⟨rfl, B11⟩
                go_wp2_with fail
                refine (known_true _).mono ?_
                rintro e w12 ⟨rfl, B12⟩
                have hd12 := (hd10.below B11).below B12
                go_wp2
                go_ret
                exact ⟨rfl, hd12.belowW⟩
        · go_wp2_with fail
          refine (hd_at hd (t.last) oop).mono ?_
          rintro e w3 ⟨vv, bv, rfl, oV, oB, B3⟩
          obtain ⟨sa, sn, sc, rfl⟩ := oV.shape'
          obtain ⟨ba, bn, bq, rfl⟩ := oB.shape'
          have hd3 := hd.below B3
          go_wp2_with fail
          obtain ⟨bx, hbx⟩ : ∃ q, Hid (q = w3.heap.size) := ⟨_, rfl⟩
          have E3 : (w3.alloc (.cells #[.int .i64 (clsO (atO t (t.last) oop)), .slice sa sn sc, .slice ba bn bq] 49)).heap[w3.heap.size]? = some (.cells #[.int .i64 (clsO (atO t (t.last) oop)), .slice sa sn sc, .slice ba bn bq] 49 (0, 0)) := new1 _ _
          have B3' : Below w3.heap.size w3 (w3.alloc (.cells #[.int .i64 (clsO (atO t (t.last) oop)), .slice sa sn sc, .slice ba bn bq] 49)) := box_below
          replace hd3 := hd3.below B3'
          replace oV := oV.below B3'
          replace oB := oB.below B3'
          rw [← hbx.out] at E3 ⊢
          clear B3' hbx
          generalize w3.alloc (.cells #[.int .i64 (clsO (atO t (t.last) oop)), .slice sa sn sc, .slice ba bn bq] 49) = w3x at *
          refine (hd_oops hd3 (t.last)).mono ?_
          rintro e w4 ⟨oa, on, oc, rfl, hon0, oO, B4⟩
          have hon : Hid (on = (oopsL t (t.last)).length) := hon0
          clear hon0
          have hd4 := hd3.below B4
          have oV4 := oV.below B4
          have oB4 := oB.below B4
          have E4 := (B4.block bx (lt_of_block E3)).trans E3
          clear oV oB hd3 hd B3 B4 E3
          go_wp2_with fail
          go_loopw [15] (fun iv wz => ∃ (z : Nat) (tz : Tab), iv = .int .i64 (z : Int) ∧ z ≤ mn ∧ Hd w b tz wz ∧ Aft t tz ∧ KpT w4 wz) (fun iv _ => mn - (intOf iv).toNat)
          case atStart => exact ⟨0, t, rfl, by omega, hd4, Aft.refl t, KpT.refl w4⟩
          case round =>
            obtain ⟨z, tz, rfl, hz, hdz, aft, kp⟩ := hrel
            by_cases hlt2 : z < mn ∧ z < 20
            · obtain ⟨h1, h2⟩ := hlt2
              obtain ⟨rb, ro, m, rfl, hrb, c0, c1, hC, hnn, hpart⟩ := hm.at_ z h1 hdz.belowW
              have i1 : (z : Int) < (mn : Int) := by omega
              have i4 : (z : Int) < 20 := by omega
              go_wp2_with fail
              refine (given_any m.com hC hnn hpart).mono ?_
              rintro e w5 ⟨a5, n5, cap5, rfl, hO, B5⟩
              have hd5 := hdz.below B5
              go_wp2_with fail
              refine (hd_apply hd5 m.com hO).mono ?_
              rintro e w6 ⟨rfl, hd6, kp6⟩
              go_wp2
              go_roundw
              case rel => exact ⟨z + 1, _, by go_num, by omega, hd6, aft.trans (aft_apply _ _ _), kp.trans ((KpT.below B5).trans kp6)⟩
              case measure => simp [intOf]; omega
            · have i1 : ¬ ((z : Int) < (mn : Int) ∧ (z : Int) < 20) := by omega
              obtain ⟨g1, g2, g3⟩ := aft.both (c := t.last) f0 (Int.le_refl _)
              have g2' : Hid (atE tz (t.last) oop = atE t (t.last) oop) := g2 oop
              have g1' : Hid (atO tz (t.last) oop = atO t (t.last) oop) := g1 oop
              have g3' : Hid (oopsL tz (t.last) = oopsL t (t.last)) := g3
              clear g1 g2 g3
              have oVz := kp.ownV oV4
              have oBz := kp.ownB oB4
              have oOz := kp.own oO (by decide) (by decide)
              have Ez := (kp.keep bx _ _ E4 (by decide) (by decide)).trans E4
              by_cases i4 : (z : Int) < (mn : Int)
              · have i5 : ¬ (z : Int) < 20 := by omega
                clear i1 hlt2
                go_wp2_with fail
                refine (hd_at hdz (t.last) oop).mono ?_
                rintro e w7 ⟨vy, by_, rfl, oW, oC, B7⟩
                obtain ⟨ta, tn, tc, rfl⟩ := oW.shape'
                obtain ⟨ea, en, ec, rfl⟩ := oC.shape'
                have hd7 := hdz.below B7
                have oV7 := oVz.below B7
                have oB7 := oBz.below B7
                have oO7 := (KpT.below B7).own oOz (by decide) (by decide)
                have E7 := (B7.block bx (lt_of_block Ez)).trans Ez
                rw [g1'.out] at oW oC
                rw [g1'.out, g2'.out]
                have E8 := old1 E7 (.cells #[.int .i64 (clsO (atO t (t.last) oop)), .slice ta tn tc, .slice ea en ec] 49)
                obtain ⟨y0, y1, y2, _⟩ := obj_cells (c := clsO (atO t (t.last) oop)) (v1 := .slice sa sn sc) (v2 := .slice ba bn bq) E8
                have B8 : Below w7.heap.size w7 (w7.alloc (.cells #[.int .i64 (clsO (atO t (t.last) oop)), .slice ta tn tc, .slice ea en ec] 49)) := box_below
                have hd8 := hd7.below B8
                have oV8 := oV7.below B8
                have oB8 := oB7.below B8
                have oW8 := oW.below B8
                have oC8 := oC.below B8
                have oO8 := (KpT.below B8).own oO7 (by decide) (by decide)
                have hcl := hd_cls hd4 (t.last) oop
                clear oVz oBz oOz Ez oV7 oB7 oW oC oO7 E7 E8 hd7 hdz kp aft E4 B7
                go_wp2_with fail
                refine (rsame_any ⟨hcl, oV8.isV, oB8.isB⟩ ⟨hcl, oW8.isV, oC8.isB⟩).mono ?_
                rintro e w9 ⟨rfl, B9⟩
                have hd9 := hd8.below B9
                have oO9 := (KpT.below B9).own oO8 (by decide) (by decide)
                rw [alike_yes]
                go_wp2_with fail
                refine (hd_oops hd9 (t.last)).mono ?_
                rintro e w10 ⟨pa, pn, pc, rfl, hpn0, oP, B10⟩
                have hd10 := hd9.below B10
                have oO10 := (KpT.below B10).own oO9 (by decide) (by decide)
                rw [g3'.out] at hpn0 oP
                obtain rfl : pn = on := hpn0.trans hon.out.symm
                clear hpn0
                go_wp2_with fail
                refine (lsame_yes oO10 oP hon.out (by rw [hon.out]; exact oopsL_len _ _)).mono ?_
                rintro e w11 ⟨rfl, B11⟩
                go_wp2_with fail
                refine (known_true _).mono ?_
                rintro e w12 ⟨rfl, B12⟩
                have hd12 := (hd10.below B11).below B12
                go_wp2
                go_ret
                exact ⟨rfl, hd12.belowW⟩
              · clear i1 hlt2
                go_wp2_with fail
                refine (hd_at hdz (t.last) oop).mono ?_
                rintro e w7 ⟨vy, by_, rfl, oW, oC, B7⟩
                obtain ⟨ta, tn, tc, rfl⟩ := oW.shape'
                obtain ⟨ea, en, ec, rfl⟩ := oC.shape'
                have hd7 := hdz.below B7
                have oV7 := oVz.below B7
                have oB7 := oBz.below B7
                have oO7 := (KpT.below B7).own oOz (by decide) (by decide)
                have E7 := (B7.block bx (lt_of_block Ez)).trans Ez
                rw [g1'.out] at oW oC
                rw [g1'.out, g2'.out]
                have E8 := old1 E7 (.cells #[.int .i64 (clsO (atO t (t.last) oop)), .slice ta tn tc, .slice ea en ec] 49)
                obtain ⟨y0, y1, y2, _⟩ := obj_cells (c := clsO (atO t (t.last) oop)) (v1 := .slice sa sn sc) (v2 := .slice ba bn bq) E8
                have B8 : Below w7.heap.size w7 (w7.alloc (.cells #[.int .i64 (clsO (atO t (t.last) oop)), .slice ta tn tc, .slice ea en ec] 49)) := box_below
                have hd8 := hd7.below B8
                have oV8 := oV7.below B8
                have oB8 := oB7.below B8
                have oW8 := oW.below B8
                have oC8 := oC.below B8
                have oO8 := (KpT.below B8).own oO7 (by decide) (by decide)
                have hcl := hd_cls hd4 (t.last) oop
                clear oVz oBz oOz Ez oV7 oB7 oW oC oO7 E7 E8 hd7 hdz kp aft E4 B7
                go_wp2_with fail
                refine (rsame_any ⟨hcl, oV8.isV, oB8.isB⟩ ⟨hcl, oW8.isV, oC8.isB⟩).mono ?_
                rintro e w9 ⟨rfl, B9⟩
                have hd9 := hd8.below B9
                have oO9 := (KpT.below B9).own oO8 (by decide) (by decide)
                rw [alike_yes]
                go_wp2_with fail
                refine (hd_oops hd9 (t.last)).mono ?_
                rintro e w10 ⟨pa, pn, pc, rfl, hpn0, oP, B10⟩
                have hd10 := hd9.below B10
                have oO10 := (KpT.below B10).own oO9 (by decide) (by decide)
                rw [g3'.out] at hpn0 oP
                obtain rfl : pn = on := hpn0.trans hon.out.symm
                clear hpn0
                go_wp2_with fail
                refine (lsame_yes oO10 oP hon.out (by rw [hon.out]; exact oopsL_len _ _)).mono ?_
                rintro e w11 ⟨rfl, B11⟩
                go_wp2_with fail
                refine (known_true _).mono ?_
                rintro e w12 ⟨rfl, B12⟩
                have hd12 := (hd10.below B11).below B12
                go_wp2
                go_ret
                exact ⟨rfl, hd12.belowW⟩
end Go.Proofs.Ytajdelinfkodbaa
