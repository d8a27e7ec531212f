/- The law TableForgets. -/
import Derived.Test.YtajdelinfkodbaaCpy
import Derived.Test.YtajdelinfkodbaaLwA
namespace Go.Proofs.Ytajdelinfkodbaa
open Go.RowKit
set_option maxRecDepth 100000
/-- A table and a copy of it. -/
def HdC (W0 : World) (b bu : Nat) (t : Tab) (w : World) : Prop := ∃ S R S2 R2, Tb w S R b t ∧ Tb w S2 R2 bu t ∧ (∀ g, S g → W0.heap.size ≤ g) ∧ (∀ g, S2 g → W0.heap.size ≤ g ∧ ¬ S g ∧ ¬ R g) ∧ Below W0.heap.size W0 w
theorem hd_copy {W0 w : World} {b : Nat} {t : Tab} (h : Hd W0 b t w) : Calls Try.prog 18 #[.pointer (some ⟨b, 0, none⟩)] w fun e w' => ∃ bu, e = .returned (.pointer (some ⟨bu, 0, none⟩)) ∧ HdC W0 b bu t w' := by
  obtain ⟨S, R, h1, h2, h3⟩ := h
  refine (copy_tab h1).mono ?_
  rintro e w' ⟨bu, S2, rfl, k1, k2, k3⟩
  refine ⟨bu, rfl, S, R, S2, _, h1.below k3, k1, h2, fun g hg => ?_, below_size h3 h3.size k3⟩
  have h4 := k2 g hg
  have h5 := h3.size
  exact ⟨by omega, fun q => by have := h1.sets.lt (.inl q); omega, fun q => by have := h1.sets.lt (.inr q); omega⟩
theorem hdc_forget {W0 w : World} {b bu : Nat} {t : Tab} (h : HdC W0 b bu t w) (c : Int) :
    Calls Try.prog 16 #[.pointer (some ⟨bu, 0, none⟩), .int .i64 c] w fun e w' => e = .returned (.int .i64 (forgetE t c)) ∧ Hd W0 b t w' ∧ Hd W0 bu (forgetT t c) w' := by
  obtain ⟨S, R, S2, R2, h1, h2, h3, h4, h5⟩ := h
  refine (forget_any h2 c).mono ?_
  rintro e w' ⟨rfl, S', R', k1, k2, k3, k4⟩
  have hB : Below W0.heap.size W0 w' := k4.below h5 h5.size (fun g hg => (h4 g hg).1)
  refine ⟨rfl, ⟨S, R, h1.same k4.size (fun g hg => k4.block g (h1.sets.lt hg) (fun e => hg.elim (h4 g e).2.1 (h4 g e).2.2)), h3, hB⟩, ⟨S', R', k1, fun g hg => ?_, hB⟩⟩
  rcases k2.new g hg with q | ⟨q, _⟩
  · exact (h4 g q).1
  · exact Nat.le_trans h5.size q
theorem hd_changed {W0 w : World} {b : Nat} {t : Tab} (h : Hd W0 b t w) (k : Int) : Calls Try.prog 24 #[.pointer (some ⟨b, 0, none⟩), .int .i64 k] w fun e w' => e = .returned (.int .i64 (t.m k).chg) ∧ w = w' := by
  obtain ⟨S, R, h1, _⟩ := h
  exact changed_any h1 k
theorem forget_all {t : Tab} (h : Fine t) {c d : Int} (hc : t.first ≤ c ∧ c ≤ t.last) (hd : c ≤ d ∨ d < 0) : (∀ k, atO (forgetT t c) d k = atO t d k ∧ atE (forgetT t c) d k = atE t d k) ∧ oopsL (forgetT t c) d = oopsL t d := by
  rcases hd with hd | hd
  · exact forget_same h hc hd
  · have e : forgetT t c = ⟨c, t.last, forgM c t.m⟩ := by unfold forgetT; rw [if_pos hc]
    have h0 := h.first0
    have n1 : ¬ (t.first ≤ d ∧ d ≤ t.last) := by omega
    have n2 : ¬ (c ≤ d ∧ d ≤ t.last) := by omega
    rw [e]
    refine ⟨fun k => ⟨?_, ?_⟩, ?_⟩
    · unfold atO; rw [if_neg n1, if_neg n2]
    · unfold atE; rw [if_neg n1, if_neg n2]
    · unfold oopsL; rw [if_neg n1, if_neg n2]
set_option maxHeartbeats 16000000 in
theorem tableForgets_true {w : World} {la : Option Addr} {ln lc : Nat} {ls : List Rm} (hl : IsRs w la ln lc ls) (c d oop : Int) :
    Calls Try.prog 7 #[.slice la ln lc, .int .i64 c, .int .i64 d, .int .i64 oop] w fun e w' => e = .returned (.bool true) ∧ Below w.heap.size w w' := by
  have t0 := Hd.new w
  go_enter Try.func7, Try.ntmps7
  go_wp2_with fail
  refine (new_tab w).mono ?_
  rintro e w1 ⟨rfl, rfl⟩
  obtain ⟨b, hb⟩ : ∃ q, Hid (q = w.heap.size) := ⟨_, rfl⟩
  rw [← hb.out] at t0 ⊢
  generalize w.alloc (tabB 0 0 none) = w1 at *
  clear hb
  have s1 := hl.size
  have s2 := hl.room
  have s3 := hl.most
  unfold maxLen at s3
  go_wp2_with fail
  go_loopw [10] (fun iv wr => ∃ (j : Nat) (t : Tab), iv = .int .i64 (j : Int) ∧ j ≤ ln ∧ Hd w b t wr) (fun iv _ => ln - (intOf iv).toNat)
  case atStart => exact ⟨0, tab0, rfl, by omega, t0⟩
  case round =>
    clear t0
    obtain ⟨j, t, rfl, hj, hd⟩ := hrel
    by_cases hlt : j < ln ∧ j < 20
    · obtain ⟨h1, h2⟩ := hlt
      obtain ⟨rb, ro, m, rfl, hrb, c0, c1, hC, hnn, hpart⟩ := hl.at_ j h1 hd.belowW
      have i1 : (j : Int) < (ln : Int) := by omega
      have i2 : (j : Int) < 20 := by omega
      go_wp2_with fail
      refine (given_any m.com hC hnn hpart).mono ?_
      rintro e w3 ⟨a2, n2, cap2, rfl, hO, B2⟩
      have hd2 := hd.below B2
      go_wp2_with fail
      refine (hd_apply hd2 m.com hO).mono ?_
      rintro e w4 ⟨rfl, hd3, _⟩
      go_wp2
      go_roundw
      case rel => exact ⟨j + 1, _, by go_num, by omega, hd3⟩
      case measure => simp [intOf]; omega
    · have i1 : ¬ ((j : Int) < (ln : Int) ∧ (j : Int) < 20) := by omega
      have fine := hd.fine
      by_cases i2 : (j : Int) < (ln : Int)
      · have i3 : ¬ (j : Int) < 20 := by omega
        clear i1 hlt
        go_wp2_with fail
        refine (hd_copy hd).mono ?_
        rintro e w3 ⟨bu, rfl, hc3⟩
        clear hd
        go_wp2_with fail
        refine (hdc_forget hc3 c).mono ?_
        rintro e w4 ⟨rfl, ht, hv⟩
        clear hc3
        by_cases hin : t.first ≤ c ∧ c ≤ t.last
        · have hE : forgetE t c = 0 := by unfold forgetE; rw [if_pos hin]
          have hT : forgetT t c = ⟨c, t.last, forgM c t.m⟩ := by unfold forgetT; rw [if_pos hin]
          have hff : (forgetT t c).first = c := by rw [hT]
          have hfl : (forgetT t c).last = t.last := by rw [hT]
          have hfm : ((forgetT t c).m oop).chg = (t.m oop).chg := by rw [hT]; rfl
          rw [hE]
          replace hff : Hid _ := hff
          replace hfl : Hid _ := hfl
          replace hfm : Hid _ := hfm
          clear hE hT
          go_wp2_with fail
          refine (hd_first hv).mono ?_
          rintro e w5 ⟨rfl, rfl⟩
          rw [hff.out]
          go_wp2_with fail
          refine (hd_last hv).mono ?_
          rintro e w5 ⟨rfl, rfl⟩
          rw [hfl.out]
          go_wp2_with fail
          refine (hd_last ht).mono ?_
          rintro e w5 ⟨rfl, rfl⟩
          go_wp2_with fail
          refine (hd_at ht d oop).mono ?_
          rintro e w7 ⟨vv, bv, rfl, oV, oB, B7⟩
          obtain ⟨sa, sn, sc, rfl⟩ := oV.shape'
          obtain ⟨ba, bn, bq, rfl⟩ := oB.shape'
          have ht7 := ht.below B7
          have hv7 := hv.below B7
          clear ht hv B7
          go_wp2_with fail
          obtain ⟨bx, hbx⟩ : ∃ q, Hid (q = w7.heap.size) := ⟨_, rfl⟩
          have E7 : (w7.alloc (.cells #[.int .i64 (clsO (atO t d oop)), .slice sa sn sc, .slice ba bn bq] 49)).heap[w7.heap.size]? = some (.cells #[.int .i64 (clsO (atO t d oop)), .slice sa sn sc, .slice ba bn bq] 49 (0, 0)) := new1 _ _
          have B8 : Below w7.heap.size w7 (w7.alloc (.cells #[.int .i64 (clsO (atO t d oop)), .slice sa sn sc, .slice ba bn bq] 49)) := box_below
          have ht8 := ht7.below B8
          have hv8 := hv7.below B8
          have oV8 := oV.below B8
          have oB8 := oB.below B8
          rw [← hbx.out] at E7 ⊢
          clear B8 hbx ht7 hv7 oV oB
          generalize w7.alloc (.cells #[.int .i64 (clsO (atO t d oop)), .slice sa sn sc, .slice ba bn bq] 49) = w8 at *
          refine (hd_at hv8 d oop).mono ?_
          rintro e w9 ⟨vy, by_, rfl, oW, oC, B9⟩
          obtain ⟨ta, tn, tc, rfl⟩ := oW.shape'
          obtain ⟨ea, en, ec, rfl⟩ := oC.shape'
          have ht9 := ht8.below B9
          have hv9 := hv8.below B9
          have oV9 := oV8.below B9
          have oB9 := oB8.below B9
          have E9 := (B9.block bx (lt_of_block E7)).trans E7
          clear oV8 oB8 E7 ht8 hv8 B9
          by_cases hlow : 0 ≤ d ∧ d < c
          · have hlo1 : (0 : Int) ≤ d := hlow.1
            have hlo2 : d < c := hlow.2
            have he : atE (forgetT t c) d oop = 13 := by unfold atE; rw [if_neg (by rw [hff.out]; omega)]
            rw [he]
            have B10 : Below w9.heap.size w9 (w9.alloc (.cells #[.int .i64 (clsO (atO (forgetT t c) d oop)), .slice ta tn tc, .slice ea en ec] 49)) := box_below
            have ht10 := ht9.below B10
            clear hlow he E9 oV9 oB9 oW oC B10 ht9 hv9
            go_wp2_with fail
            refine (known_true _).mono ?_
            rintro e w20 ⟨rfl, B20⟩
            have ht20 := ht10.below B20
            go_wp2
            go_ret
            exact ⟨rfl, ht20.belowW⟩
          · have hcond : (decide (0 ≤ d) && decide (d < c)) = false := by
              rw [Bool.and_eq_false_iff, decide_eq_false_iff_not, decide_eq_false_iff_not]
              omega
            have hsame := forget_all fine hin (d := d) (by omega)
            obtain ⟨hs1, hs2⟩ := hsame
            have na1 := hs1 oop
            replace na1 : Hid _ := na1
            replace hs2 : Hid _ := hs2
            clear hs1
            rw [na1.out.1] at oW oC ⊢
            rw [na1.out.2]
            have E10 := old1 E9 (.cells #[.int .i64 (clsO (atO t d oop)), .slice ta tn tc, .slice ea en ec] 49)
            obtain ⟨y0, y1, y2, _⟩ := obj_cells (c := clsO (atO t d oop)) (v1 := .slice sa sn sc) (v2 := .slice ba bn bq) E10
            have B10 : Below w9.heap.size w9 (w9.alloc (.cells #[.int .i64 (clsO (atO t d oop)), .slice ta tn tc, .slice ea en ec] 49)) := box_below
            have ht10 := ht9.below B10
            have hv10 := hv9.below B10
            have oV10 := oV9.below B10
            have oB10 := oB9.below B10
            have oW10 := oW.below B10
            have oC10 := oC.below B10
            have hcl := hd_cls' ht10 d oop
            clear E9 ht9 hv9 oV9 oB9 oW oC E10 B10
            by_cases hz : (0 : Int) ≤ d
            · have hz2 : ¬ d < c := fun h => hlow ⟨hz, h⟩
              clear hcond hlow
              go_wp2_with fail
              refine (rsame_any ⟨hcl, oV10.isV, oB10.isB⟩ ⟨hcl, oW10.isV, oC10.isB⟩).mono ?_
              rintro e w11 ⟨rfl, B11⟩
              have ht11 := ht10.below B11
              have hv11 := hv10.below B11
              rw [alike_yes']
              clear oV10 oB10 oW10 oC10 ht10 hv10 B11 hcl
              go_wp2_with fail
              refine (hd_oops ht11 d).mono ?_
              rintro e w12 ⟨oa, on, oc, rfl, hon0, oO, B12⟩
              have hon : Hid (on = (oopsL t d).length) := hon0
              clear hon0
              have ht12 := ht11.below B12
              have hv12 := hv11.below B12
              clear ht11 hv11
              go_wp2_with fail
              refine (hd_oops hv12 d).mono ?_
              rintro e w13 ⟨pa, pn, pc, rfl, hpn0, oP, B13⟩
              have ht13 := ht12.below B13
              have hv13 := hv12.below B13
              have oO13 := (KpT.below B13).own oO (by decide) (by decide)
              rw [hs2.out] at hpn0 oP
              obtain rfl : pn = on := hpn0.trans hon.out.symm
              clear hpn0 ht12 hv12
              go_wp2_with fail
              refine (lsame_yes oO13 oP hon.out (by rw [hon.out]; exact oopsL_len _ _)).mono ?_
              rintro e w14 ⟨rfl, B14⟩
              have ht14 := ht13.below B14
              have hv14 := hv13.below B14
              clear ht13 hv13 oO13 oP oO B12 B13 B14 hon
              go_wp2_with fail
              refine (hd_changed ht14 oop).mono ?_
              rintro e w15 ⟨rfl, rfl⟩
              go_wp2_with fail
              refine (hd_changed hv14 oop).mono ?_
              rintro e w15 ⟨rfl, rfl⟩
              rw [hfm.out]
              go_wp2_with fail
              refine (known_true _).mono ?_
              rintro e w20 ⟨rfl, B20⟩
              have ht20 := ht14.below B20
              go_wp2
              go_ret
              exact ⟨rfl, ht20.belowW⟩
            · clear hcond hlow
              go_wp2_with fail
              refine (rsame_any ⟨hcl, oV10.isV, oB10.isB⟩ ⟨hcl, oW10.isV, oC10.isB⟩).mono ?_
              rintro e w11 ⟨rfl, B11⟩
              have ht11 := ht10.below B11
              have hv11 := hv10.below B11
              rw [alike_yes']
              clear oV10 oB10 oW10 oC10 ht10 hv10 B11 hcl
              go_wp2_with fail
              refine (hd_oops ht11 d).mono ?_
              rintro e w12 ⟨oa, on, oc, rfl, hon0, oO, B12⟩
              have hon : Hid (on = (oopsL t d).length) := hon0
              clear hon0
              have ht12 := ht11.below B12
              have hv12 := hv11.below B12
              clear ht11 hv11
              go_wp2_with fail
              refine (hd_oops hv12 d).mono ?_
              rintro e w13 ⟨pa, pn, pc, rfl, hpn0, oP, B13⟩
              have ht13 := ht12.below B13
              have hv13 := hv12.below B13
              have oO13 := (KpT.below B13).own oO (by decide) (by decide)
              rw [hs2.out] at hpn0 oP
              obtain rfl : pn = on := hpn0.trans hon.out.symm
              clear hpn0 ht12 hv12
              go_wp2_with fail
              refine (lsame_yes oO13 oP hon.out (by rw [hon.out]; exact oopsL_len _ _)).mono ?_
              rintro e w14 ⟨rfl, B14⟩
              have ht14 := ht13.below B14
              have hv14 := hv13.below B14
              clear ht13 hv13 oO13 oP oO B12 B13 B14 hon
              go_wp2_with fail
              refine (hd_changed ht14 oop).mono ?_
              rintro e w15 ⟨rfl, rfl⟩
              go_wp2_with fail
              refine (hd_changed hv14 oop).mono ?_
              rintro e w15 ⟨rfl, rfl⟩
              rw [hfm.out]
              go_wp2_with fail
              refine (known_true _).mono ?_
              rintro e w20 ⟨rfl, B20⟩
              have ht20 := ht14.below B20
              go_wp2
              go_ret
              exact ⟨rfl, ht20.belowW⟩
        · have hE : forgetE t c = 13 := by unfold forgetE; rw [if_neg hin]
          have hT : forgetT t c = t := by unfold forgetT; rw [if_neg hin]
          rw [hE]
          rw [hT] at hv
          clear hE hT hin
          go_wp2_with fail
          refine (hd_first hv).mono ?_
          rintro e w5 ⟨rfl, rfl⟩
          go_wp2_with fail
          refine (hd_first ht).mono ?_
          rintro e w5 ⟨rfl, rfl⟩
          go_wp2_with fail
          refine (known_true _).mono ?_
          rintro e w20 ⟨rfl, B20⟩
          have ht20 := ht.below B20
          go_wp2
          go_ret
          exact ⟨rfl, ht20.belowW⟩
      · clear i1 hlt
        go_wp2_with fail
        refine (hd_copy hd).mono ?_
        rintro e w3 ⟨bu, rfl, hc3⟩
        clear hd
        go_wp2_with fail
        refine (hdc_forget hc3 c).mono ?_
        rintro e w4 ⟨rfl, ht, hv⟩
        clear hc3
        by_cases hin : t.first ≤ c ∧ c ≤ t.last
        · have hE : forgetE t c = 0 := by unfold forgetE; rw [if_pos hin]
          have hT : forgetT t c = ⟨c, t.last, forgM c t.m⟩ := by unfold forgetT; rw [if_pos hin]
          have hff : (forgetT t c).first = c := by rw [hT]
          have hfl : (forgetT t c).last = t.last := by rw [hT]
          have hfm : ((forgetT t c).m oop).chg = (t.m oop).chg := by rw [hT]; rfl
          rw [hE]
          replace hff : Hid _ := hff
          replace hfl : Hid _ := hfl
          replace hfm : Hid _ := hfm
          clear hE hT
          go_wp2_with fail
          refine (hd_first hv).mono ?_
          rintro e w5 ⟨rfl, rfl⟩
          rw [hff.out]
          go_wp2_with fail
          refine (hd_last hv).mono ?_
          rintro e w5 ⟨rfl, rfl⟩
          rw [hfl.out]
          go_wp2_with fail
          refine (hd_last ht).mono ?_
          rintro e w5 ⟨rfl, rfl⟩
          go_wp2_with fail
          refine (hd_at ht d oop).mono ?_
          rintro e w7 ⟨vv, bv, rfl, oV, oB, B7⟩
          obtain ⟨sa, sn, sc, rfl⟩ := oV.shape'
          obtain ⟨ba, bn, bq, rfl⟩ := oB.shape'
          have ht7 := ht.below B7
          have hv7 := hv.below B7
          clear ht hv B7
          go_wp2_with fail
          obtain ⟨bx, hbx⟩ : ∃ q, Hid (q = w7.heap.size) := ⟨_, rfl⟩
          have E7 : (w7.alloc (.cells #[.int .i64 (clsO (atO t d oop)), .slice sa sn sc, .slice ba bn bq] 49)).heap[w7.heap.size]? = some (.cells #[.int .i64 (clsO (atO t d oop)), .slice sa sn sc, .slice ba bn bq] 49 (0, 0)) := new1 _ _
          have B8 : Below w7.heap.size w7 (w7.alloc (.cells #[.int .i64 (clsO (atO t d oop)), .slice sa sn sc, .slice ba bn bq] 49)) := box_below
          have ht8 := ht7.below B8
          have hv8 := hv7.below B8
          have oV8 := oV.below B8
          have oB8 := oB.below B8
          rw [← hbx.out] at E7 ⊢
          clear B8 hbx ht7 hv7 oV oB
          generalize w7.alloc (.cells #[.int .i64 (clsO (atO t d oop)), .slice sa sn sc, .slice ba bn bq] 49) = w8 at *
          refine (hd_at hv8 d oop).mono ?_
          rintro e w9 ⟨vy, by_, rfl, oW, oC, B9⟩
          obtain ⟨ta, tn, tc, rfl⟩ := oW.shape'
          obtain ⟨ea, en, ec, rfl⟩ := oC.shape'
          have ht9 := ht8.below B9
          have hv9 := hv8.below B9
          have oV9 := oV8.below B9
          have oB9 := oB8.below B9
          have E9 := (B9.block bx (lt_of_block E7)).trans E7
          clear oV8 oB8 E7 ht8 hv8 B9
          by_cases hlow : 0 ≤ d ∧ d < c
          · have hlo1 : (0 : Int) ≤ d := hlow.1
            have hlo2 : d < c := hlow.2
            have he : atE (forgetT t c) d oop = 13 := by unfold atE; rw [if_neg (by rw [hff.out]; omega)]
            rw [he]
            have B10 : Below w9.heap.size w9 (w9.alloc (.cells #[.int .i64 (clsO (atO (forgetT t c) d oop)), .slice ta tn tc, .slice ea en ec] 49)) := box_below
            have ht10 := ht9.below B10
            clear hlow he E9 oV9 oB9 oW oC B10 ht9 hv9
            go_wp2_with fail
            refine (known_true _).mono ?_
            rintro e w20 ⟨rfl, B20⟩
            have ht20 := ht10.below B20
            go_wp2
            go_ret
            exact ⟨rfl, ht20.belowW⟩
          · have hcond : (decide (0 ≤ d) && decide (d < c)) = false := by
              rw [Bool.and_eq_false_iff, decide_eq_false_iff_not, decide_eq_false_iff_not]
              omega
            have hsame := forget_all fine hin (d := d) (by omega)
            obtain ⟨hs1, hs2⟩ := hsame
            have na1 := hs1 oop
            replace na1 : Hid _ := na1
            replace hs2 : Hid _ := hs2
            clear hs1
            rw [na1.out.1] at oW oC ⊢
            rw [na1.out.2]
            have E10 := old1 E9 (.cells #[.int .i64 (clsO (atO t d oop)), .slice ta tn tc, .slice ea en ec] 49)
            obtain ⟨y0, y1, y2, _⟩ := obj_cells (c := clsO (atO t d oop)) (v1 := .slice sa sn sc) (v2 := .slice ba bn bq) E10
            have B10 : Below w9.heap.size w9 (w9.alloc (.cells #[.int .i64 (clsO (atO t d oop)), .slice ta tn tc, .slice ea en ec] 49)) := box_below
            have ht10 := ht9.below B10
            have hv10 := hv9.below B10
            have oV10 := oV9.below B10
            have oB10 := oB9.below B10
            have oW10 := oW.below B10
            have oC10 := oC.below B10
            have hcl := hd_cls' ht10 d oop
            clear E9 ht9 hv9 oV9 oB9 oW oC E10 B10
            by_cases hz : (0 : Int) ≤ d
            · have hz2 : ¬ d < c := fun h => hlow ⟨hz, h⟩
              clear hcond hlow
              go_wp2_with fail
              refine (rsame_any ⟨hcl, oV10.isV, oB10.isB⟩ ⟨hcl, oW10.isV, oC10.isB⟩).mono ?_
              rintro e w11 ⟨rfl, B11⟩
              have ht11 := ht10.below B11
              have hv11 := hv10.below B11
              rw [alike_yes']
              clear oV10 oB10 oW10 oC10 ht10 hv10 B11 hcl
              go_wp2_with fail
              refine (hd_oops ht11 d).mono ?_
              rintro e w12 ⟨oa, on, oc, rfl, hon0, oO, B12⟩
              have hon : Hid (on = (oopsL t d).length) := hon0
              clear hon0
              have ht12 := ht11.below B12
              have hv12 := hv11.below B12
              clear ht11 hv11
              go_wp2_with fail
              refine (hd_oops hv12 d).mono ?_
              rintro e w13 ⟨pa, pn, pc, rfl, hpn0, oP, B13⟩
              have ht13 := ht12.below B13
              have hv13 := hv12.below B13
              have oO13 := (KpT.below B13).own oO (by decide) (by decide)
              rw [hs2.out] at hpn0 oP
              obtain rfl : pn = on := hpn0.trans hon.out.symm
              clear hpn0 ht12 hv12
              go_wp2_with fail
              refine (lsame_yes oO13 oP hon.out (by rw [hon.out]; exact oopsL_len _ _)).mono ?_
              rintro e w14 ⟨rfl, B14⟩
              have ht14 := ht13.below B14
              have hv14 := hv13.below B14
              clear ht13 hv13 oO13 oP oO B12 B13 B14 hon
              go_wp2_with fail
              refine (hd_changed ht14 oop).mono ?_
              rintro e w15 ⟨rfl, rfl⟩
              go_wp2_with fail
              refine (hd_changed hv14 oop).mono ?_
              rintro e w15 ⟨rfl, rfl⟩
              rw [hfm.out]
              go_wp2_with fail
              refine (known_true _).mono ?_
              rintro e w20 ⟨rfl, B20⟩
              have ht20 := ht14.below B20
              go_wp2
              go_ret
              exact ⟨rfl, ht20.belowW⟩
            · clear hcond hlow
              go_wp2_with fail
              refine (rsame_any ⟨hcl, oV10.isV, oB10.isB⟩ ⟨hcl, oW10.isV, oC10.isB⟩).mono ?_
              rintro e w11 ⟨rfl, B11⟩
              have ht11 := ht10.below B11
              have hv11 := hv10.below B11
              rw [alike_yes']
              clear oV10 oB10 oW10 oC10 ht10 hv10 B11 hcl
              go_wp2_with fail
              refine (hd_oops ht11 d).mono ?_
              rintro e w12 ⟨oa, on, oc, rfl, hon0, oO, B12⟩
              have hon : Hid (on = (oopsL t d).length) := hon0
              clear hon0
              have ht12 := ht11.below B12
              have hv12 := hv11.below B12
              clear ht11 hv11
              go_wp2_with fail
              refine (hd_oops hv12 d).mono ?_
              rintro e w13 ⟨pa, pn, pc, rfl, hpn0, oP, B13⟩
              have ht13 := ht12.below B13
              have hv13 := hv12.below B13
              have oO13 := (KpT.below B13).own oO (by decide) (by decide)
              rw [hs2.out] at hpn0 oP
              obtain rfl : pn = on := hpn0.trans hon.out.symm
              clear hpn0 ht12 hv12
              go_wp2_with fail
              refine (lsame_yes oO13 oP hon.out (by rw [hon.out]; exact oopsL_len _ _)).mono ?_
              rintro e w14 ⟨rfl, B14⟩
              have ht14 := ht13.below B14
              have hv14 := hv13.below B14
              clear ht13 hv13 oO13 oP oO B12 B13 B14 hon
              go_wp2_with fail
              refine (hd_changed ht14 oop).mono ?_
              rintro e w15 ⟨rfl, rfl⟩
              go_wp2_with fail
              refine (hd_changed hv14 oop).mono ?_
              rintro e w15 ⟨rfl, rfl⟩
              rw [hfm.out]
              go_wp2_with fail
              refine (known_true _).mono ?_
              rintro e w20 ⟨rfl, B20⟩
              have ht20 := ht14.below B20
              go_wp2
              go_ret
              exact ⟨rfl, ht20.belowW⟩
        · have hE : forgetE t c = 13 := by unfold forgetE; rw [if_neg hin]
          have hT : forgetT t c = t := by unfold forgetT; rw [if_neg hin]
          rw [hE]
          rw [hT] at hv
          clear hE hT hin
          go_wp2_with fail
          refine (hd_first hv).mono ?_
          rintro e w5 ⟨rfl, rfl⟩
          go_wp2_with fail
          refine (hd_first ht).mono ?_
          rintro e w5 ⟨rfl, rfl⟩
          go_wp2_with fail
          refine (known_true _).mono ?_
          rintro e w20 ⟨rfl, B20⟩
          have ht20 := ht.below B20
          go_wp2
          go_ret
          exact ⟨rfl, ht20.belowW⟩
end Go.Proofs.Ytajdelinfkodbaa
