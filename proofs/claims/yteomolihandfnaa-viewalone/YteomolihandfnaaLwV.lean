/- The law ViewAlone. -/
import Derived.Test.YteomolihandfnaaVla
import Derived.Test.YteomolihandfnaaLwL
import Derived.Test.YteomolihandfnaaOpa
namespace Go.Proofs.Yteomolihandfnaa
open Go.RowKit
set_option maxRecDepth 100000
theorem Hw.clsA {W0 W1 w : World} {Y : Nat → Prop} {tb b b2 : Nat} {t : Tab} {v v2 : Vw} (h : Hw W0 W1 Y tb t b v b2 v2 w) (k : Int) : -9223372036854775808 ≤ clsR (peekR v t k) ∧ clsR (peekR v t k) ≤ 9223372036854775807 := by
  obtain ⟨S, R, V, Q, V2, Q2, h1, h2, _⟩ := h
  exact pk_cls h1 h2 k
theorem Hw.rtbY {W0 W1 w : World} {U : Nat → Prop} {tb ub b b2 : Nat} {t : Tab} {u : RTab} {v v2 : Vw} (h : Hw W0 W1 U tb t b v b2 v2 w) (hU : RTb W1 U ub u) : RTb w U ub u := by
  obtain ⟨S, R, V, Q, V2, Q2, h1, h2, h3, h4, h5, h6, h7, h8⟩ := h
  have hk : ∀ g, U g → w.heap[g]? = W1.heap[g]? := fun g hg => (h7 g hg).2
  obtain ⟨lv, wv, n, a1, a2, ⟨xs, a3, a4⟩, a5⟩ := hU.blk
  exact ⟨⟨lv, wv, n, (hk ub hU.own).trans a1, a2.same (fun _ h => h) (fun g _ _ hg _ _ _ => hk g hg), ⟨xs, own_same a3 (fun g hg => hk g (a4 g hg)), a4⟩, a5⟩, hU.own, fun g hg => (h7 g hg).1, hU.few, hU.ge0⟩
set_option maxHeartbeats 32000000 in
theorem viewAlone_true {w : World} {la : Option Addr} {ln lc : Nat} {ls : List Rm} (hl : IsRs w la ln lc ls) {aa : Option Addr} {an ac : Nat} {as_ : List Ac} (has : IsAs w aa an ac as_) (oop : Int) :
    Calls Try.prog 4 #[.slice la ln lc, .slice aa an ac, .int .i64 oop] w fun e w' => e = .returned (.bool true) ∧ Below w.heap.size w w' := by
  have an4 : an ≤ 9223372036854775807 := by have h1 := has.room; have h2 := has.most; unfold maxLen at h2; omega
  go_enter Try.func4, Try.ntmps4
  go_wp2_with fail
  refine (both_any2 hl).mono ?_
  rintro e w2 ⟨tb, ub, u, rfl, hb, hr2, huk0⟩
  have huk : Hid (u.k ≤ 12) := huk0
  obtain ⟨T, hT⟩ : ∃ T, tabOf (ls.take 12) = T := ⟨_, rfl⟩
  rw [hT] at hb hr2
  obtain ⟨U, hU, cV⟩ := hb_view hb
  have hend : Hid (T.last = u.end_) := hr2.rel.last
  clear hb hT hl huk0
  go_wp2_with fail
  refine cV.mono ?_
  rintro e w3 ⟨vb, rfl, hv⟩
  clear cV
  go_wp2_with fail
  refine (hv_second hv).mono ?_
  rintro e w4 ⟨wb, rfl, hw⟩
  clear hv
  go_wp2_with fail
  refine (hw_peek hw.swap oop).mono ?_
  rintro e w5 ⟨pa, pn, pc, qa, qn, qc, rfl, oP, oQ, B5⟩
  have kcl := hw.swap.clsA oop
  obtain ⟨cR, hcR⟩ : ∃ q, Hid (clsR (peekR (vw0 T.last) T oop) = q) := ⟨_, rfl⟩
  obtain ⟨eR, heR⟩ : ∃ q, Hid (errR (peekR (vw0 T.last) T oop) = q) := ⟨_, rfl⟩
  obtain ⟨vR, hvR⟩ : ∃ q, Hid (vsR (peekR (vw0 T.last) T oop) = q) := ⟨_, rfl⟩
  obtain ⟨bR, hbR⟩ : ∃ q, Hid (bsR (peekR (vw0 T.last) T oop) = q) := ⟨_, rfl⟩
  rw [hvR.out] at oP
  rw [hbR.out] at oQ
  rw [hcR.out] at kcl
  rw [hcR.out, heR.out]
  have B6 : Below w5.heap.size w5 (w5.alloc (objB cR (.slice pa pn pc) (.slice qa qn qc))) := box_below
  have E11 := new1 w5 (objB cR (.slice pa pn pc) (.slice qa qn qc))
  have hw6 := (hw.below B5).below B6
  have oP6 := oP.below B6
  have oQ6 := oQ.below B6
  clear hw B5 B6 oP oQ
  unfold objB at E11 hw6 oP6 oQ6
  go_wp2_with fail
  generalize w5.alloc (.cells #[.int .i64 cR, .slice pa pn pc, .slice qa qn qc] 27) = w6 at *
  obtain ⟨b11, hb11⟩ : ∃ q, q = w5.heap.size := ⟨_, rfl⟩
  rw [← hb11] at E11 ⊢
  clear hb11
  replace E11 : w6.heap[b11]? = some (objB cR (.slice pa pn pc) (.slice qa qn qc)) := E11
  go_loopw [13] (fun iv wr => ∃ (j : Nat) (v : Vw), j ≤ an ∧ j ≤ 40 ∧ iv = .int .i64 (j : Int) ∧ Hw w w2 U tb T vb v wb (vw0 T.last) wr ∧ KpN w6.heap.size w6 wr) (fun iv _ => an - (intOf iv).toNat)
  case atStart => exact ⟨0, _, by omega, by omega, rfl, hw6, KpN.refl _ _⟩
  case round =>
    obtain ⟨j, v, hj1, hj2, rfl, hz, kp⟩ := hrel
    clear hw6
    go_upto_region 8 with fail
    go_cut [51] from 44 to 85 (fun v wx => v = .bool (decide (j < an ∧ j < 40)) ∧ wx = wr)
    case first =>
      by_cases h1 : j < an
      · have hlt1 : (j : Int) < (an : Int) := by omega
        by_cases h2 : j < 40
        · have hlt2 : (j : Int) < 40 := by omega
          go_wp2
          go_meet
          case rel => exact ⟨by simp [h1, h2], rfl⟩
        · have hlt2 : ¬ (j : Int) < 40 := by omega
          go_wp2
          go_meet
          case rel => exact ⟨by simp [h1, h2], rfl⟩
      · have hlt1 : ¬ (j : Int) < (an : Int) := by omega
        go_wp2
        go_meet
        case rel => exact ⟨by simp [h1], rfl⟩
    case rest =>
      obtain ⟨rfl, rfl⟩ := hcut
      by_cases hgo : j < an ∧ j < 40
      · have hgd : decide (j < an ∧ j < 40) = true := decide_eq_true hgo
        rw [hgd]
        obtain ⟨hlt1, hlt2⟩ : (j : Int) < (an : Int) ∧ (j : Int) < 40 := by omega
        obtain ⟨ab, ao, m, rfl, hin, hcell⟩ := has.at_ j hgo.1
        obtain ⟨hab, hc⟩ := hcell wc hz.belowW
        have c0 : wc.cell? ⟨ab, ao + j * 7, none⟩ = some (.int .i64 m.kind) := hc 0 _ rfl
        have c1 : wc.cell? ⟨ab, ao + j * 7 + 1, none⟩ = some (.int .i64 m.oop) := hc 1 _ rfl
        have c2 : wc.cell? ⟨ab, ao + j * 7 + 2, none⟩ = some (.int .i64 m.o.cls) := hc 2 _ rfl
        have c3 : wc.cell? ⟨ab, ao + j * 7 + 3, none⟩ = some (.slice m.sa m.sn m.sc) := hc 3 _ rfl
        have c4 : wc.cell? ⟨ab, ao + j * 7 + 4, none⟩ = some (.slice m.ba m.bn m.bc) := hc 4 _ rfl
        have c5 : wc.cell? ⟨ab, ao + j * 7 + 5, none⟩ = some (.int .i64 m.com) := hc 5 _ rfl
        have c6 : wc.cell? ⟨ab, ao + j * 7 + 6, none⟩ = some (.slice m.ra m.rn m.rc) := hc 6 _ rfl
        have EA := new1 wc (.cells #[.int .i64 m.kind, .int .i64 m.oop, .int .i64 m.o.cls, .slice m.sa m.sn m.sc, .slice m.ba m.bn m.bc, .int .i64 m.com, .slice m.ra m.rn m.rc] 47)
        have BA : Below wc.heap.size wc (wc.alloc (.cells #[.int .i64 m.kind, .int .i64 m.oop, .int .i64 m.o.cls, .slice m.sa m.sn m.sc, .slice m.ba m.bn m.bc, .int .i64 m.com, .slice m.ra m.rn m.rc] 47)) := box_below
        have hzA := hz.below BA
        have kpA := kp.trans ((KpV.below BA).toN _)
        clear hc hgd hgo hz kp BA
        go_upto_region 11 with fail
        generalize wc.alloc (.cells #[.int .i64 m.kind, .int .i64 m.oop, .int .i64 m.o.cls, .slice m.sa m.sn m.sc, .slice m.ba m.bn m.bc, .int .i64 m.com, .slice m.ra m.rn m.rc] 47) = wA at *
        obtain ⟨b14, hb14⟩ : ∃ q, q = wc.heap.size := ⟨_, rfl⟩
        rw [← hb14] at EA ⊢
        clear hb14 c0 c1 c2 c3 c4 c5 c6 hab
        have z0 : wA.cell? ⟨b14, 0, none⟩ = some (.int .i64 m.kind) := by rw [cell_of_row wA b14 _ _ _ _ EA]; rfl
        have z1 : wA.cell? ⟨b14, 1, none⟩ = some (.int .i64 m.oop) := by rw [cell_of_row wA b14 _ _ _ _ EA]; rfl
        have z2 : wA.cell? ⟨b14, 2, none⟩ = some (.int .i64 m.o.cls) := by rw [cell_of_row wA b14 _ _ _ _ EA]; rfl
        have z3 : wA.cell? ⟨b14, 3, none⟩ = some (.slice m.sa m.sn m.sc) := by rw [cell_of_row wA b14 _ _ _ _ EA]; rfl
        have z4 : wA.cell? ⟨b14, 4, none⟩ = some (.slice m.ba m.bn m.bc) := by rw [cell_of_row wA b14 _ _ _ _ EA]; rfl
        clear EA
        obtain ⟨kd, hkd⟩ : ∃ q, Hid (m.kind = q) := ⟨_, rfl⟩
        rw [hkd.out] at z0
        by_cases h4 : kd = 4
        · subst h4
          go_wp2_with fail
          refine (hw_putK hzA m.oop hin.obj).mono ?_
          rintro e w7 ⟨rfl, hv7, K7⟩
          have kp7 := kpA.trans (K7.toN _)
          clear z0 z1 z2 z3 z4 hzA kpA K7
          go_wp2
          go_roundw
          case rel => exact ⟨j + 1, _, by omega, by omega, by go_num, hv7, kp7⟩
          case measure => simp [intOf]; omega
        · have g4 : (kd == 4) = false := by simpa using h4
          by_cases h5 : kd = 5
          · subst h5
            clear g4 h4
            go_wp2_with fail
            refine (hw_putK hzA m.oop hin.obj).mono ?_
            rintro e w7 ⟨rfl, hv7, K7⟩
            have kp7 := kpA.trans (K7.toN _)
            clear z0 z1 z2 z3 z4 hzA kpA K7
            go_wp2
            go_roundw
            case rel => exact ⟨j + 1, _, by omega, by omega, by go_num, hv7, kp7⟩
            case measure => simp [intOf]; omega
          · have g5 : (kd == 5) = false := by simpa using h5
            by_cases h6 : kd = 6
            · subst h6
              clear g4 h4 g5 h5
              go_wp2_with fail
              refine (hw_putK hzA m.oop hin.obj).mono ?_
              rintro e w7 ⟨rfl, hv7, K7⟩
              have kp7 := kpA.trans (K7.toN _)
              clear z0 z1 z2 z3 z4 hzA kpA K7
              go_wp2
              go_roundw
              case rel => exact ⟨j + 1, _, by omega, by omega, by go_num, hv7, kp7⟩
              case measure => simp [intOf]; omega
            · have g6 : (kd == 6) = false := by simpa using h6
              by_cases h7 : kd = 7
              · subst h7
                clear g4 h4 g5 h5 g6 h6
                go_wp2_with fail
                refine (hw_makeK hzA hin.obj).mono ?_
                rintro e w7 ⟨rfl, hv7, K7⟩
                have kp7 := kpA.trans (K7.toN _)
                clear z0 z1 z2 z3 z4 hzA kpA K7
                go_wp2
                go_roundw
                case rel => exact ⟨j + 1, _, by omega, by omega, by go_num, hv7, kp7⟩
                case measure => simp [intOf]; omega
              · have g7 : (kd == 7) = false := by simpa using h7
                by_cases h8 : kd = 8
                · subst h8
                  clear g4 h4 g5 h5 g6 h6 g7 h7
                  go_wp2_with fail
                  refine (hw_makeK hzA hin.obj).mono ?_
                  rintro e w7 ⟨rfl, hv7, K7⟩
                  have kp7 := kpA.trans (K7.toN _)
                  clear z0 z1 z2 z3 z4 hzA kpA K7
                  go_wp2
                  go_roundw
                  case rel => exact ⟨j + 1, _, by omega, by omega, by go_num, hv7, kp7⟩
                  case measure => simp [intOf]; omega
                · have g8 : (kd == 8) = false := by simpa using h8
                  go_wp2_with fail
                  refine (hw_getQ hzA m.oop).mono ?_
                  rintro e w7 ⟨sa, sn, sc, ba, bn, bc, rfl, oV, oB, K7, hH⟩
                  obtain ⟨cx, hcx⟩ : ∃ q, q = clsR (peekR v T m.oop) := ⟨_, rfl⟩
                  obtain ⟨ex, hex⟩ : ∃ q, q = errR (peekR v T m.oop) := ⟨_, rfl⟩
                  rw [← hcx, ← hex]
                  clear hcx hex
                  have B8 : Below w7.heap.size w7 (w7.alloc (objB cx (.slice sa sn sc) (.slice ba bn bc))) := box_below
                  have E8 := new1 w7 (objB cx (.slice sa sn sc) (.slice ba bn bc))
                  have oV8 := oV.below B8
                  have oB8 := oB.below B8
                  have kp8 := (kpA.trans (K7.toN _)).trans ((KpV.below B8).toN _)
                  have sA := kpA.size
                  obtain ⟨y0, y1, y2, _⟩ := obj_cells E8
                  replace sA : Hid _ := sA
                  clear oV oB K7 hzA kpA E8
                  unfold objB at B8 oV8 oB8 kp8 y0 y1 y2
                  go_wp2_with fail
                  generalize w7.alloc (.cells #[.int .i64 cx, .slice sa sn sc, .slice ba bn bc] 27) = w8 at *
                  clear y0 y1 y2 z0 z1 z2 z3 z4
                  refine (spoil_any oV8 oB8).mono ?_
                  rintro e w9 ⟨rfl, F9⟩
                  have hw9 := hH w9 ((Fr.of_below B8).trans F9 (fun _ _ h => h))
                  have kp9 : KpN w6.heap.size w6 w9 := kp8.trans ⟨F9.size, fun g cur e hN hg _ => F9.block g (lt_of_block hg) (fun q => by
                    have := sA.out
                    rcases q with q | q
                    · have := (own_block oV8.1 q).1; omega
                    · have := (own_block oB8.1 q).1; omega)⟩
                  clear F9 kp8 oV8 oB8 hH B8
                  go_wp2
                  go_roundw
                  case rel => exact ⟨j + 1, _, by omega, by omega, by go_num, hw9, kp9⟩
                  case measure => simp [intOf]; omega
      · have hgd : decide (j < an ∧ j < 40) = false := decide_eq_false hgo
        rw [hgd]
        clear hgo hgd
        generalize wc = wt at *
        have oPz := kp.ownV oP6
        have oQz := kp.ownB oQ6
        have Ez := kp.obj E11
        have hRT := hz.rtbY hU
        clear oP6 oQ6 E11 kp hU
        go_wp2_with fail
        refine (hw_peek hz.swap oop).mono ?_
        rintro e w11 ⟨ga, gn, gc, da, dn, dc, rfl, oG, oD, B11⟩
        rw [hvR.out] at oG
        rw [hbR.out] at oD
        rw [hcR.out, heR.out]
        have B12 : Below w11.heap.size w11 (w11.alloc (objB cR (.slice ga gn gc) (.slice da dn dc))) := box_below
        have E17 := new1 w11 (objB cR (.slice ga gn gc) (.slice da dn dc))
        have BB : Below wt.heap.size wt (w11.alloc (objB cR (.slice ga gn gc) (.slice da dn dc))) := below_size B11 B11.size B12
        have hz12 := hz.below BB
        have oP12 := oPz.below BB
        have oQ12 := oQz.below BB
        have oG12 := oG.below B12
        have oD12 := oD.below B12
        have hRT12 := hRT.below BB
        have E12 := (KpV.below BB).obj Ez
        clear hz oPz oQz oG oD Ez B11 B12 BB hRT
        unfold objB at hz12 oP12 oQ12 oG12 oD12 hRT12 E17 E12
        go_wp2_with fail
        generalize w11.alloc (.cells #[.int .i64 cR, .slice ga gn gc, .slice da dn dc] 27) = w12 at *
        obtain ⟨b17, hb17⟩ : ∃ q, q = w11.heap.size := ⟨_, rfl⟩
        rw [← hb17] at E17 ⊢
        clear hb17
        replace E17 : w12.heap[b17]? = some (objB cR (.slice ga gn gc) (.slice da dn dc)) := E17
        replace E12 : w12.heap[b11]? = some (objB cR (.slice pa pn pc) (.slice qa qn qc)) := E12
        refine (hd_last hz12.hd).mono ?_
        rintro e w12' ⟨rfl, rfl⟩
        go_wp2_with fail
        refine (hd_at2 hz12.hd hr2 oop).mono ?_
        rintro e w13 ⟨ha, hn, hc, ia, in_, ic, rfl, oH, oI, B13⟩
        have kcm := hd_cls2 hz12.hd hr2 oop
        obtain ⟨cS, hcS⟩ : ∃ q, Hid (clsR (rAt u.recs oop) = q) := ⟨_, rfl⟩
        obtain ⟨eS, heS⟩ : ∃ q, Hid (errR (rAt u.recs oop) = q) := ⟨_, rfl⟩
        obtain ⟨vS, hvS⟩ : ∃ q, Hid (vsR (rAt u.recs oop) = q) := ⟨_, rfl⟩
        obtain ⟨bS, hbS⟩ : ∃ q, Hid (bsR (rAt u.recs oop) = q) := ⟨_, rfl⟩
        rw [hvS.out] at oH
        rw [hbS.out] at oI
        rw [hcS.out] at kcm
        rw [hcS.out, heS.out]
        have B14 : Below w13.heap.size w13 (w13.alloc (objB cS (.slice ha hn hc) (.slice ia in_ ic))) := box_below
        have E19 := new1 w13 (objB cS (.slice ha hn hc) (.slice ia in_ ic))
        have BB : Below w12.heap.size w12 (w13.alloc (objB cS (.slice ha hn hc) (.slice ia in_ ic))) := below_size B13 B13.size B14
        have hz14 := hz12.below BB
        have oP14 := oP12.below BB
        have oQ14 := oQ12.below BB
        have oG14 := oG12.below BB
        have oD14 := oD12.below BB
        have hRT14 := hRT12.below BB
        have E14 := (KpV.below BB).obj E12
        have F14 := (KpV.below BB).obj E17
        have oH14 := oH.below B14
        have oI14 := oI.below B14
        clear hz12 oP12 oQ12 oG12 oD12 hRT12 E12 E17 oH oI B13 B14 BB
        obtain ⟨lv, wv, nw, hblk, _, _, _⟩ := hRT14.blk
        obtain ⟨r0, r1, r2, r3, r4⟩ := rt_cells hblk
        clear hblk
        unfold objB at hz14 oP14 oQ14 oG14 oD14 hRT14 E14 F14 E19 oH14 oI14 r0 r1 r2 r3 r4
        go_wp2_with fail
        generalize w13.alloc (.cells #[.int .i64 cS, .slice ha hn hc, .slice ia in_ ic] 27) = w14 at *
        obtain ⟨b19, hb19⟩ : ∃ q, q = w13.heap.size := ⟨_, rfl⟩
        rw [← hb19] at E19 ⊢
        clear hb19 r0 r1 r2 r3 r4
        replace E19 : w14.heap[b19]? = some (objB cS (.slice ha hn hc) (.slice ia in_ ic)) := E19
        replace F14 : w14.heap[b17]? = some (objB cR (.slice ga gn gc) (.slice da dn dc)) := F14
        replace E14 : w14.heap[b11]? = some (objB cR (.slice pa pn pc) (.slice qa qn qc)) := E14
        refine (rat_any hRT14 (by rw [hr2.rel.from_]; exact hRT14.ge0) hr2.le hr2.rel.ok (by have := huk.out; omega) oop).mono ?_
        rintro e w15 ⟨ja, jn, jc, ka, kn, kc, rfl, oJ, oK, B15⟩
        rw [hvS.out] at oJ
        rw [hbS.out] at oK
        rw [hcS.out, heS.out]
        have B16 : Below w15.heap.size w15 (w15.alloc (objB cS (.slice ja jn jc) (.slice ka kn kc))) := box_below
        have E21 := new1 w15 (objB cS (.slice ja jn jc) (.slice ka kn kc))
        have BB : Below w14.heap.size w14 (w15.alloc (objB cS (.slice ja jn jc) (.slice ka kn kc))) := below_size B15 B15.size B16
        have hz16 := hz14.below BB
        have oP16 := oP14.below BB
        have oQ16 := oQ14.below BB
        have oG16 := oG14.below BB
        have oD16 := oD14.below BB
        have oH16 := oH14.below BB
        have oI16 := oI14.below BB
        have oJ16 := oJ.below B16
        have oK16 := oK.below B16
        obtain ⟨x0, x1, x2, _⟩ := obj_cells ((KpV.below BB).obj E14)
        obtain ⟨y0, y1, y2, _⟩ := obj_cells ((KpV.below BB).obj F14)
        have G19 := (KpV.below BB).obj E19
        clear hz14 oP14 oQ14 oG14 oD14 hRT14 E14 F14 E19 oH14 oI14 oJ oK B15 B16 BB
        unfold objB at hz16 oP16 oQ16 oG16 oD16 oH16 oI16 oJ16 oK16 x0 x1 x2 y0 y1 y2 G19 E21
        go_wp2_with fail
        generalize w15.alloc (.cells #[.int .i64 cS, .slice ja jn jc, .slice ka kn kc] 27) = w16 at *
        obtain ⟨b21, hb21⟩ : ∃ q, q = w15.heap.size := ⟨_, rfl⟩
        rw [← hb21] at E21 ⊢
        clear hb21 x0 x1 x2 y0 y1 y2
        replace E21 : w16.heap[b21]? = some (objB cS (.slice ja jn jc) (.slice ka kn kc)) := E21
        replace G19 : w16.heap[b19]? = some (objB cS (.slice ha hn hc) (.slice ia in_ ic)) := G19
        refine (rsame_any ⟨kcl, oP16.isV, oQ16.isB⟩ ⟨kcl, oG16.isV, oD16.isB⟩).mono ?_
        rintro e w17 ⟨rfl, B17⟩
        rw [alike_yes']
        have hz17 := hz16.below B17
        have oH17 := oH16.below B17
        have oI17 := oI16.below B17
        have oJ17 := oJ16.below B17
        have oK17 := oK16.below B17
        obtain ⟨x0, x1, x2, _⟩ := obj_cells ((KpV.below B17).obj G19)
        obtain ⟨y0, y1, y2, _⟩ := obj_cells ((KpV.below B17).obj E21)
        clear hz16 oP16 oQ16 oG16 oD16 oH16 oI16 oJ16 oK16 B17 G19 E21
        go_wp2_with fail
        refine (rsame_any ⟨kcm, oH17.isV, oI17.isB⟩ ⟨kcm, oJ17.isV, oK17.isB⟩).mono ?_
        rintro e w18 ⟨rfl, B18⟩
        rw [alike_yes']
        have hz18 := hz17.below B18
        clear hz17 oH17 oI17 oJ17 oK17 B18 x0 x1 x2 y0 y1 y2
        go_wp2_with fail
        refine (reads0 hz18.swap).mono ?_
        rintro e w19 ⟨r1a, r1c, rfl, B19⟩
        have hz19 := hz18.below B19
        clear hz18 B19
        go_wp2_with fail
        refine (writes0 hz19.swap).mono ?_
        rintro e w20 ⟨r2a, r2c, rfl, B20⟩
        have hz20 := hz19.below B20
        clear hz19 B20
        go_wp2_with fail
        refine (news0 hz20.swap).mono ?_
        rintro e w21 ⟨r3a, r3c, rfl, B21⟩
        have fin := (hz20.below B21).belowW
        clear hz20 B21
        go_wp2_with fail
        refine (known_true _).mono ?_
        rintro e wk ⟨rfl, BK⟩
        have fin2 := below_size fin fin.size BK
        go_wp2
        go_ret
        exact ⟨rfl, fin2⟩
end Go.Proofs.Yteomolihandfnaa
