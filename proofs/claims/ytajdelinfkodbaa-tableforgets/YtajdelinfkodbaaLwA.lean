/- The law TableAll. -/
import Derived.Test.YtajdelinfkodbaaTwo
namespace Go.Proofs.Ytajdelinfkodbaa
open Go.RowKit
set_option maxRecDepth 100000
theorem alike_yes' (c : Int) (vs : List (Int × Int)) (bs : List Int) : alike c c vs vs bs bs = true := by simp [alike]
theorem hd_cls' {W0 w : World} {b : Nat} {t : Tab} (h : Hd W0 b t w) (c k : Int) : -9223372036854775808 ≤ clsO (atO t c k) ∧ clsO (atO t c k) ≤ 9223372036854775807 := by
  obtain ⟨S, R, h1, _⟩ := h
  unfold atO
  split
  · cases hx : atC (t.m k).vs c with
    | none => simp [clsO]
    | some x =>
      obtain ⟨m1, _, m3⟩ := atC_mem hx
      have h2 := (h1.good.ver k x m1).2.2
      simp only [okCh, m3, okO, okC, Bool.false_eq_true, if_false, Bool.and_eq_true, decide_eq_true_eq] at h2
      show -9223372036854775808 ≤ x.cls ∧ x.cls ≤ 9223372036854775807
      omega
  · simp [clsO]
theorem field38b (c : Int) (v : Value) (w : World) : (Instr.field 38 (.agg #[.int .i64 c, v]) 1).run Try.prog w = .ok v w := by
  have ha : (isAgg 36).run Try.prog w = .ok false w := by simp [isAgg, run_underlying Try.underlying36]
  simp [Instr.field, run_underlying Try.underlying38, part, asAgg, ha, go_sem]
set_option maxHeartbeats 8000000 in
theorem tableAll_true {w : World} {la : Option Addr} {ln lc : Nat} {ls : List Rm} (hl : IsRs w la ln lc ls) (oop : Int) :
    Calls Try.prog 5 #[.slice la ln lc, .int .i64 oop] w fun e w' => e = .returned (.bool true) ∧ Below w.heap.size w w' := by
  have t0 := Hd2.new w
  have hu : w.heap.size ≤ (w.alloc (tabB 0 0 none)).heap.size := by simp
  go_enter Try.func5, Try.ntmps5
  go_wp2_with fail
  refine (new_tab w).mono ?_
  rintro e w1 ⟨rfl, rfl⟩
  obtain ⟨b, hb⟩ : ∃ q, Hid (q = w.heap.size) := ⟨_, rfl⟩
  rw [← hb.out] at t0 ⊢
  generalize w.alloc (tabB 0 0 none) = w1 at *
  go_wp2_with fail
  refine (new_tab w1).mono ?_
  rintro e w2 ⟨rfl, rfl⟩
  obtain ⟨bu, hbu⟩ : ∃ q, Hid (q = w1.heap.size) := ⟨_, rfl⟩
  rw [← hbu.out] at t0 hu ⊢
  generalize w1.alloc (tabB 0 0 none) = w2 at *
  clear hbu hb
  have s1 := hl.size
  have s2 := hl.room
  have s3 := hl.most
  unfold maxLen at s3
  go_wp2_with fail
  go_loopw [7] (fun iv wr => ∃ (j : Nat) (t : Tab), iv = .int .i64 (j : Int) ∧ j ≤ ln ∧ Hd2 w b t bu wr) (fun iv _ => ln - (intOf iv).toNat)
  case atStart => exact ⟨0, tab0, rfl, by omega, t0⟩
  case round =>
    obtain ⟨j, t, rfl, hj, hd⟩ := hrel
    by_cases hlt : j < ln ∧ j < 20
    · obtain ⟨h1, h2⟩ := hlt
      obtain ⟨rb, ro, m, rfl, hrb, c0, c1, hC, hnn, hpart⟩ := hl.at_ j h1 hd.hd.belowW
      have i1 : (j : Int) < (ln : Int) := by omega
      have i2 : (j : Int) < 20 := by omega
      go_wp2_with fail
      refine (given_any m.com hC hnn hpart).mono ?_
      rintro e w3 ⟨a2, n2, cap2, rfl, hO, B2⟩
      have hd2 := hd.below B2
      go_wp2_with fail
      refine (hd2_apply hd2 m.com hO).mono ?_
      rintro e w4 ⟨rfl, hd3⟩
      go_wp2
      go_roundw
      case rel => exact ⟨j + 1, _, by go_num, by omega, hd3⟩
      case measure => simp [intOf]; omega
    · have i1 : ¬ ((j : Int) < (ln : Int) ∧ (j : Int) < 20) := by omega
      have fine := hd.hd.fine
      by_cases i2 : (j : Int) < (ln : Int)
      · have i3 : ¬ (j : Int) < 20 := by omega
        clear i1 hlt
        go_wp2_with fail
        refine (hd_last hd.hd).mono ?_
        rintro e w3 ⟨rfl, rfl⟩
        by_cases h0 : t.last = 0
        · have hall := fine.all0 h0
          go_wp2_with fail
          refine (hd_all hd.hd).mono ?_
          rw [hall]
          rintro e w4 ⟨a4, n4, c4, rfl, hO4, B4⟩
          have hn4 := hO4.isC.size
          obtain rfl : n4 = 0 := hn4.symm
          have hfd := field38b 0 (.slice a4 0 c4) w4
          go_wp2_with fail
          refine (known_true _).mono ?_
          rintro e w5 ⟨rfl, B5⟩
          have hdF := (hd.below B4).below B5
          go_wp2
          go_ret
          exact ⟨rfl, hdF.hd.belowW⟩
        · have hn0 : (t.last == 0) = false := by simpa using h0
          go_wp2_with fail
          refine (hd_all hd.hd).mono ?_
          rintro e w4 ⟨a4, n4, c4, rfl, hO4, B4⟩
          have hd4 := hd.below B4
          have hE := fine.okAll h0
          go_wp2_with fail
          refine (hd2_other hd4 hu t.last hO4).mono ?_
          rintro e w5 ⟨rfl, ht, hv⟩
          rw [hE]
          replace hv : Hd w bu (newT t) w5 := hv
          obtain ⟨nl, nf⟩ := newT_last fine h0
          obtain ⟨na, no, nl2⟩ := newT_all fine h0
          replace nl : Hid _ := nl
          replace nl2 : Hid _ := nl2
          replace no : Hid _ := no
          obtain ⟨na1, na2, na3, na4⟩ := na oop
          replace na1 : Hid _ := na1
          replace na2 : Hid _ := na2
          replace na3 : Hid _ := na3
          replace na4 : Hid _ := na4
          clear na nf hd hd4 hO4 B4 hE
          go_wp2_with fail
          refine (hd_last hv).mono ?_
          rintro e w6 ⟨rfl, rfl⟩
          rw [nl.out]
          go_wp2_with fail
          refine (hd_last ht).mono ?_
          rintro e w6 ⟨rfl, rfl⟩
          go_wp2_with fail
          refine (hd_last ht).mono ?_
          rintro e w6 ⟨rfl, rfl⟩
          go_wp2_with fail
          refine (hd_at ht t.last oop).mono ?_
          rintro e w7 ⟨vv, bv, rfl, oV, oB, B7⟩
          obtain ⟨sa, sn, sc, rfl⟩ := oV.shape'
          obtain ⟨ba, bn, bq, rfl⟩ := oB.shape'
          have ht7 := ht.below B7
          have hv7 := hv.below B7
          clear ht hv B7
          go_wp2_with fail
          obtain ⟨bx, hbx⟩ : ∃ q, Hid (q = w7.heap.size) := ⟨_, rfl⟩
          have E7 : (w7.alloc (.cells #[.int .i64 (clsO (atO t t.last oop)), .slice sa sn sc, .slice ba bn bq] 49)).heap[w7.heap.size]? = some (.cells #[.int .i64 (clsO (atO t t.last oop)), .slice sa sn sc, .slice ba bn bq] 49 (0, 0)) := new1 _ _
          have B8 : Below w7.heap.size w7 (w7.alloc (.cells #[.int .i64 (clsO (atO t t.last oop)), .slice sa sn sc, .slice ba bn bq] 49)) := box_below
          have ht8 := ht7.below B8
          have hv8 := hv7.below B8
          have oV8 := oV.below B8
          have oB8 := oB.below B8
          rw [← hbx.out] at E7 ⊢
          clear B8 hbx ht7 hv7 oV oB
          generalize w7.alloc (.cells #[.int .i64 (clsO (atO t t.last oop)), .slice sa sn sc, .slice ba bn bq] 49) = w8 at *
          refine (hd_last hv8).mono ?_
          rintro e w9 ⟨rfl, rfl⟩
          rw [nl.out]
          go_wp2_with fail
          refine (hd_at hv8 t.last oop).mono ?_
          rintro e w9 ⟨vy, by_, rfl, oW, oC, B9⟩
          obtain ⟨ta, tn, tc, rfl⟩ := oW.shape'
          obtain ⟨ea, en, ec, rfl⟩ := oC.shape'
          have ht9 := ht8.below B9
          have hv9 := hv8.below B9
          have oV9 := oV8.below B9
          have oB9 := oB8.below B9
          have E9 := (B9.block bx (lt_of_block E7)).trans E7
          rw [na2.out] at oW
          rw [na3.out] at oC
          rw [na1.out, na4.out]
          have E10 := old1 E9 (.cells #[.int .i64 (clsO (atO t t.last oop)), .slice ta tn tc, .slice ea en ec] 49)
          obtain ⟨y0, y1, y2, _⟩ := obj_cells (c := clsO (atO t t.last oop)) (v1 := .slice sa sn sc) (v2 := .slice ba bn bq) E10
          have B10 : Below w9.heap.size w9 (w9.alloc (.cells #[.int .i64 (clsO (atO t t.last oop)), .slice ta tn tc, .slice ea en ec] 49)) := box_below
          have ht10 := ht9.below B10
          have hv10 := hv9.below B10
          have oV10 := oV9.below B10
          have oB10 := oB9.below B10
          have oW10 := oW.below B10
          have oC10 := oC.below B10
          have hcl := hd_cls' ht10 t.last oop
          clear oV8 oB8 E7 E9 ht8 hv8 ht9 hv9 oV9 oB9 oW oC B9 E10 B10
          go_wp2_with fail
          refine (rsame_any ⟨hcl, oV10.isV, oB10.isB⟩ ⟨hcl, oW10.isV, oC10.isB⟩).mono ?_
          rintro e w11 ⟨rfl, B11⟩
          have ht11 := ht10.below B11
          have hv11 := hv10.below B11
          rw [alike_yes']
          clear oV10 oB10 oW10 oC10 ht10 hv10 B11 hcl
          go_wp2_with fail
          refine (hd_last ht11).mono ?_
          rintro e w12 ⟨rfl, rfl⟩
          go_wp2_with fail
          refine (hd_oops ht11 t.last).mono ?_
          rintro e w12 ⟨oa, on, oc, rfl, hon0, oO, B12⟩
          have hon : Hid (on = (oopsL t t.last).length) := hon0
          clear hon0
          have ht12 := ht11.below B12
          have hv12 := hv11.below B12
          clear ht11 hv11
          go_wp2_with fail
          refine (hd_last hv12).mono ?_
          rintro e w13 ⟨rfl, rfl⟩
          rw [nl.out]
          go_wp2_with fail
          refine (hd_oops hv12 t.last).mono ?_
          rintro e w13 ⟨pa, pn, pc, rfl, hpn0, oP, B13⟩
          have ht13 := ht12.below B13
          have hv13 := hv12.below B13
          have oO13 := (KpT.below B13).own oO (by decide) (by decide)
          rw [no.out] at hpn0 oP
          obtain rfl : pn = on := hpn0.trans hon.out.symm
          clear hpn0 ht12 hv12
          go_wp2_with fail
          refine (lsame_yes oO13 oP hon.out (by rw [hon.out]; exact oopsL_len _ _)).mono ?_
          rintro e w14 ⟨rfl, B14⟩
          have ht14 := ht13.below B14
          have hv14 := hv13.below B14
          clear ht13 hv13 oO13 oP oO B12 B13 B14 hon
          go_wp2_with fail
          refine (hd_all ht14).mono ?_
          rintro e w15 ⟨a15, n15, c15, rfl, hO15, B15⟩
          have hn15 : n15 ≤ 1954687338264 := by have := hO15.isC.size; have := allL_len t; omega
          have ht15 := ht14.below B15
          have hv15 := hv14.below B15
          go_wp2_with fail
          refine (taken_any t.last hO15 hn15).mono ?_
          rintro e w16 ⟨a16, n16, c16, rfl, hO16, B16⟩
          have ht16 := ht15.below B16
          have hv16 := hv15.below B16
          clear ht14 hv14 ht15 hv15 hO15 hn15 B15 B16
          go_wp2_with fail
          refine (hd_all hv16).mono ?_
          rw [nl.out, nl2.out]
          rintro e w17 ⟨a17, n17, c17, rfl, hO17, B17⟩
          have hn17 : n17 ≤ 1954687338264 := by have := hO17.isC.size; have := allL_len t; omega
          have ht17 := ht16.below B17
          have hO16' := hO16.below B17
          go_wp2_with fail
          refine (taken_any t.last hO17 hn17).mono ?_
          rintro e w18 ⟨a18, n18, c18, rfl, hO18, B18⟩
          have ht18 := ht17.below B18
          have hO16'' := hO16'.below B18
          clear ht16 ht17 hv16 hO16 hO16' hO17 hn17 B17 B18
          go_wp2_with fail
          refine (sameRecord_true t.last hO16''.isC hO18.isC).mono ?_
          rintro e w19 ⟨rfl, B19⟩
          have ht19 := ht18.below B19
          go_wp2_with fail
          refine (known_true _).mono ?_
          rintro e w20 ⟨rfl, B20⟩
          have ht20 := ht19.below B20
          go_wp2
          go_ret
          exact ⟨rfl, ht20.belowW⟩
      · clear i1 hlt
        go_wp2_with fail
        refine (hd_last hd.hd).mono ?_
        rintro e w3 ⟨rfl, rfl⟩
        by_cases h0 : t.last = 0
        · have hall := fine.all0 h0
          go_wp2_with fail
          refine (hd_all hd.hd).mono ?_
          rw [hall]
          rintro e w4 ⟨a4, n4, c4, rfl, hO4, B4⟩
          have hn4 := hO4.isC.size
          obtain rfl : n4 = 0 := hn4.symm
          have hfd := field38b 0 (.slice a4 0 c4) w4
          go_wp2_with fail
          refine (known_true _).mono ?_
          rintro e w5 ⟨rfl, B5⟩
          have hdF := (hd.below B4).below B5
          go_wp2
          go_ret
          exact ⟨rfl, hdF.hd.belowW⟩
        · have hn0 : (t.last == 0) = false := by simpa using h0
          go_wp2_with fail
          refine (hd_all hd.hd).mono ?_
          rintro e w4 ⟨a4, n4, c4, rfl, hO4, B4⟩
          have hd4 := hd.below B4
          have hE := fine.okAll h0
          go_wp2_with fail
          refine (hd2_other hd4 hu t.last hO4).mono ?_
          rintro e w5 ⟨rfl, ht, hv⟩
          rw [hE]
          replace hv : Hd w bu (newT t) w5 := hv
          obtain ⟨nl, nf⟩ := newT_last fine h0
          obtain ⟨na, no, nl2⟩ := newT_all fine h0
          replace nl : Hid _ := nl
          replace nl2 : Hid _ := nl2
          replace no : Hid _ := no
          obtain ⟨na1, na2, na3, na4⟩ := na oop
          replace na1 : Hid _ := na1
          replace na2 : Hid _ := na2
          replace na3 : Hid _ := na3
          replace na4 : Hid _ := na4
          clear na nf hd hd4 hO4 B4 hE
          go_wp2_with fail
          refine (hd_last hv).mono ?_
          rintro e w6 ⟨rfl, rfl⟩
          rw [nl.out]
          go_wp2_with fail
          refine (hd_last ht).mono ?_
          rintro e w6 ⟨rfl, rfl⟩
          go_wp2_with fail
          refine (hd_last ht).mono ?_
          rintro e w6 ⟨rfl, rfl⟩
          go_wp2_with fail
          refine (hd_at ht t.last oop).mono ?_
          rintro e w7 ⟨vv, bv, rfl, oV, oB, B7⟩
          obtain ⟨sa, sn, sc, rfl⟩ := oV.shape'
          obtain ⟨ba, bn, bq, rfl⟩ := oB.shape'
          have ht7 := ht.below B7
          have hv7 := hv.below B7
          clear ht hv B7
          go_wp2_with fail
          obtain ⟨bx, hbx⟩ : ∃ q, Hid (q = w7.heap.size) := ⟨_, rfl⟩
          have E7 : (w7.alloc (.cells #[.int .i64 (clsO (atO t t.last oop)), .slice sa sn sc, .slice ba bn bq] 49)).heap[w7.heap.size]? = some (.cells #[.int .i64 (clsO (atO t t.last oop)), .slice sa sn sc, .slice ba bn bq] 49 (0, 0)) := new1 _ _
          have B8 : Below w7.heap.size w7 (w7.alloc (.cells #[.int .i64 (clsO (atO t t.last oop)), .slice sa sn sc, .slice ba bn bq] 49)) := box_below
          have ht8 := ht7.below B8
          have hv8 := hv7.below B8
          have oV8 := oV.below B8
          have oB8 := oB.below B8
          rw [← hbx.out] at E7 ⊢
          clear B8 hbx ht7 hv7 oV oB
          generalize w7.alloc (.cells #[.int .i64 (clsO (atO t t.last oop)), .slice sa sn sc, .slice ba bn bq] 49) = w8 at *
          refine (hd_last hv8).mono ?_
          rintro e w9 ⟨rfl, rfl⟩
          rw [nl.out]
          go_wp2_with fail
          refine (hd_at hv8 t.last oop).mono ?_
          rintro e w9 ⟨vy, by_, rfl, oW, oC, B9⟩
          obtain ⟨ta, tn, tc, rfl⟩ := oW.shape'
          obtain ⟨ea, en, ec, rfl⟩ := oC.shape'
          have ht9 := ht8.below B9
          have hv9 := hv8.below B9
          have oV9 := oV8.below B9
          have oB9 := oB8.below B9
          have E9 := (B9.block bx (lt_of_block E7)).trans E7
          rw [na2.out] at oW
          rw [na3.out] at oC
          rw [na1.out, na4.out]
          have E10 := old1 E9 (.cells #[.int .i64 (clsO (atO t t.last oop)), .slice ta tn tc, .slice ea en ec] 49)
          obtain ⟨y0, y1, y2, _⟩ := obj_cells (c := clsO (atO t t.last oop)) (v1 := .slice sa sn sc) (v2 := .slice ba bn bq) E10
          have B10 : Below w9.heap.size w9 (w9.alloc (.cells #[.int .i64 (clsO (atO t t.last oop)), .slice ta tn tc, .slice ea en ec] 49)) := box_below
          have ht10 := ht9.below B10
          have hv10 := hv9.below B10
          have oV10 := oV9.below B10
          have oB10 := oB9.below B10
          have oW10 := oW.below B10
          have oC10 := oC.below B10
          have hcl := hd_cls' ht10 t.last oop
          clear oV8 oB8 E7 E9 ht8 hv8 ht9 hv9 oV9 oB9 oW oC B9 E10 B10
          go_wp2_with fail
          refine (rsame_any ⟨hcl, oV10.isV, oB10.isB⟩ ⟨hcl, oW10.isV, oC10.isB⟩).mono ?_
          rintro e w11 ⟨rfl, B11⟩
          have ht11 := ht10.below B11
          have hv11 := hv10.below B11
          rw [alike_yes']
          clear oV10 oB10 oW10 oC10 ht10 hv10 B11 hcl
          go_wp2_with fail
          refine (hd_last ht11).mono ?_
          rintro e w12 ⟨rfl, rfl⟩
          go_wp2_with fail
          refine (hd_oops ht11 t.last).mono ?_
          rintro e w12 ⟨oa, on, oc, rfl, hon0, oO, B12⟩
          have hon : Hid (on = (oopsL t t.last).length) := hon0
          clear hon0
          have ht12 := ht11.below B12
          have hv12 := hv11.below B12
          clear ht11 hv11
          go_wp2_with fail
          refine (hd_last hv12).mono ?_
          rintro e w13 ⟨rfl, rfl⟩
          rw [nl.out]
          go_wp2_with fail
          refine (hd_oops hv12 t.last).mono ?_
          rintro e w13 ⟨pa, pn, pc, rfl, hpn0, oP, B13⟩
          have ht13 := ht12.below B13
          have hv13 := hv12.below B13
          have oO13 := (KpT.below B13).own oO (by decide) (by decide)
          rw [no.out] at hpn0 oP
          obtain rfl : pn = on := hpn0.trans hon.out.symm
          clear hpn0 ht12 hv12
          go_wp2_with fail
          refine (lsame_yes oO13 oP hon.out (by rw [hon.out]; exact oopsL_len _ _)).mono ?_
          rintro e w14 ⟨rfl, B14⟩
          have ht14 := ht13.below B14
          have hv14 := hv13.below B14
          clear ht13 hv13 oO13 oP oO B12 B13 B14 hon
          go_wp2_with fail
          refine (hd_all ht14).mono ?_
          rintro e w15 ⟨a15, n15, c15, rfl, hO15, B15⟩
          have hn15 : n15 ≤ 1954687338264 := by have := hO15.isC.size; have := allL_len t; omega
          have ht15 := ht14.below B15
          have hv15 := hv14.below B15
          go_wp2_with fail
          refine (taken_any t.last hO15 hn15).mono ?_
          rintro e w16 ⟨a16, n16, c16, rfl, hO16, B16⟩
          have ht16 := ht15.below B16
          have hv16 := hv15.below B16
          clear ht14 hv14 ht15 hv15 hO15 hn15 B15 B16
          go_wp2_with fail
          refine (hd_all hv16).mono ?_
          rw [nl.out, nl2.out]
          rintro e w17 ⟨a17, n17, c17, rfl, hO17, B17⟩
          have hn17 : n17 ≤ 1954687338264 := by have := hO17.isC.size; have := allL_len t; omega
          have ht17 := ht16.below B17
          have hO16' := hO16.below B17
          go_wp2_with fail
          refine (taken_any t.last hO17 hn17).mono ?_
          rintro e w18 ⟨a18, n18, c18, rfl, hO18, B18⟩
          have ht18 := ht17.below B18
          have hO16'' := hO16'.below B18
          clear ht16 ht17 hv16 hO16 hO16' hO17 hn17 B17 B18
          go_wp2_with fail
          refine (sameRecord_true t.last hO16''.isC hO18.isC).mono ?_
          rintro e w19 ⟨rfl, B19⟩
          have ht19 := ht18.below B19
          go_wp2_with fail
          refine (known_true _).mono ?_
          rintro e w20 ⟨rfl, B20⟩
          have ht20 := ht19.below B20
          go_wp2
          go_ret
          exact ⟨rfl, ht20.belowW⟩
end Go.Proofs.Ytajdelinfkodbaa
