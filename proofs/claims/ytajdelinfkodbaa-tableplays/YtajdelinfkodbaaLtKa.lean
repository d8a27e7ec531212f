/- The law TablePlays: an arm. -/
import Derived.Test.YtajdelinfkodbaaLtK
namespace Go.Proofs.Ytajdelinfkodbaa
open Go.RowKit
set_option maxRecDepth 100000
/-- What the operations yield. -/
def apV20 (tb ub : Nat) (com ae : Int) (oa ra ta : Option Addr) (on oc rn rc tn tc : Nat) (j : Nat) : Value :=
  ([.pointer (some ⟨tb, 0, none⟩),
    .agg #[.int .i64 com, .slice oa on oc],
    .int .i64 ae,
    .pointer (some ⟨ub, 0, none⟩),
    .agg #[.int .i64 com, .slice ra rn rc],
    .int .i64 ae,
    .bool false,
    .bool false,
    .agg #[.int .i64 com, .slice oa on oc],
    .agg #[.int .i64 com, .slice ta tn tc],
    .agg #[.int .i64 com, .slice ra rn rc],
    .bool true,
    .bool false,
    .bool false] : List Value).getD j undef
theorem apV20_list {l : List Value} (hh : l.length = 14) : ∃ v0 v1 v2 v3 v4 v5 v6 v7 v8 v9 v10 v11 v12 v13, l = [v0, v1, v2, v3, v4, v5, v6, v7, v8, v9, v10, v11, v12, v13] := by
  obtain ⟨v0, t0, rfl, h0⟩ := cons_of hh
  obtain ⟨v1, t1, rfl, h1⟩ := cons_of h0
  obtain ⟨v2, t2, rfl, h2⟩ := cons_of h1
  obtain ⟨v3, t3, rfl, h3⟩ := cons_of h2
  obtain ⟨v4, t4, rfl, h4⟩ := cons_of h3
  obtain ⟨v5, t5, rfl, h5⟩ := cons_of h4
  obtain ⟨v6, t6, rfl, h6⟩ := cons_of h5
  obtain ⟨v7, t7, rfl, h7⟩ := cons_of h6
  obtain ⟨v8, t8, rfl, h8⟩ := cons_of h7
  obtain ⟨v9, t9, rfl, h9⟩ := cons_of h8
  obtain ⟨v10, t10, rfl, h10⟩ := cons_of h9
  obtain ⟨v11, t11, rfl, h11⟩ := cons_of h10
  obtain ⟨v12, t12, rfl, h12⟩ := cons_of h11
  obtain ⟨v13, t13, rfl, h13⟩ := cons_of h12
  obtain rfl := List.eq_nil_of_length_eq_zero h13
  exact ⟨_, _, _, _, _, _, _, _, _, _, _, _, _, _, rfl⟩
set_option maxHeartbeats 80000000 in
theorem arma : skelK.1 := by
  intro w an ac as_ x1 ub w2 x2 x3 u2 u6 u7 u8 u9 u10 u11 u12 u13 u14 u15 u16 x4 x5 x6 x7 x8 x9 x10 u28 x11 x12 x13 x14 x15 x16 x17 x18 x19 x20 x21 x22 x23 x24 x25 x26 x27 x28 x29 x30 x31 x32 x33 x34 x35 x36 x37 x38 x39 x40 x41 x42 x43 x44 x45 x46 x47 x48 x49 x50 x51 x52 x53 x54 x55 x56 x57 x58 x59 x60 x61 x62 x63 x64 x65 x66 x67 x68 x69 x70 x71 x72 x73 x74 x75 x76 x77 x78 x79 x80 x81 x82 x83 x84 x85 x86 x87 x88 x89 x90 x91 x92 x93 x94 x95 x96 x97 x98 x99 x100 x101 x102 x103 x104 x105 x106 x107 x108 x109 x110 x111 x112 x113 x114 x115 x116 x117 x118 x119 x120 x121 x122 x123 x124 x125 x126 x127 x128 x129 x130 x131 x132 x133 x134 x135 x136 x137 x138 x139 x140 x141 x142 x143 x144 x145 x146 x147 x148 x149 x150 x151 x152 x153 x154 x155 x156 x157 x158 x159 x160 x161 x162 x163 x164 x165 x166 x167 x168 x169 x170 x171 x172 x173 x174 x175 x176 x177 x178 x179 x180 x181 x182 x183 x184 x185 x186 x187 x188 x189 x190 x191 x192 x193 x194 x195 x196 x197 x198 x199 x200 x201 x202 x203 x204 x205 x206 x207 x208 x209 x210 x211 x212 x213 x214 x215 j hj1 hj2 A tb t u k hk wc u21 u22 u23 u24 u25 u26 u27 u29 u30 u31 u32 u33 u34 u35 u36 u37 u38 u39 u40 u41 u42 u43 u44 u45 u46 u47 u48 u49 u50 u51 u52 u53 u54 u55 u56 u57 u58 u59 u60 u61 u62 u63 u64 u65 u66 u67 u68 u69 u70 u71 u72 u73 u74 u75 u76 u77 u78 u79 u80 u81 u82 u83 u84 u85 u86 u87 u88 u89 u90 u91 u92 u93 u94 u95 u96 u97 u98 u99 u100 u101 u102 u103 u104 u105 u106 u107 u108 u109 u110 u111 u112 u113 u114 u115 u116 u117 u118 u119 u120 u121 u122 u123 u124 u125 u126 u127 u128 u129 u130 u131 u132 u133 u134 u135 u136 u137 u138 u139 u140 u141 u142 u143 u144 u145 u146 u147 u148 u149 u150 u151 u152 u153 u154 u155 u156 u157 u158 u159 u160 u161 u162 u163 u164 u165 u166 u167 u168 u169 u170 u171 u172 u173 u174 u175 u176 u177 u178 u179 u180 u181 u182 u183 u184 u185 u186 u187 u188 u189 u190 u191 u192 u193 u194 u195 u196 u197 u198 u199 u200 u201 u202 u203 u204 u205 u206 u207 u208 u209 u210 u211 u212 u213 u214 u215 u216 u217 u218 u219 u220 u221 u222 u223 u224 u225 u226 u227 u228 u229 u230 u231 u232 u233 hlt1 hlt2 ab ao m x216 hin x217 x218 x219 x220 wA hxA xb hxl bxA j30 kd z0 hkd x221 x222 x223 x224 kA
  rw [hkd.out]
  obtain ⟨zk, y1, y2, y3, y4⟩ := act_cells bxA.blk
  rw [hkd.out] at zk
  have hgd := hxA.hy.good
  have hl1 : 0 ≤ u.end_ ∧ u.end_ ≤ 1099511627776 := by rw [← hxA.rel.rel.last]; omega
  clear z0 y3 y4
  go_upto_if 42 with fail
  go_cut [42] from 21 to 233 (fun v42 wx => v42 = .bool true ∧ wx = wA)
  case first =>
    rcases kA with rfl | rfl | rfl | rfl | rfl
    · go_wp2_with fail
      go_meet
      exact ⟨rfl, rfl⟩
    · go_wp2_with fail
      go_meet
      exact ⟨rfl, rfl⟩
    · go_wp2_with fail
      go_meet
      exact ⟨rfl, rfl⟩
    · go_wp2_with fail
      go_meet
      exact ⟨rfl, rfl⟩
    · go_wp2_with fail
      go_meet
      exact ⟨rfl, rfl⟩
  case rest =>
    obtain ⟨rfl, hwc⟩ := hcut
    have hwc' := hwc.symm
    clear hwc
    subst hwc'
    have B7 : Below wA.heap.size wA (wA.alloc (recB m.com (.slice m.ra m.rn m.rc) 29)) := box_below
    have E7 : Bx A (wA.alloc (recB m.com (.slice m.ra m.rn m.rc) 29)) wA.heap.size (recB m.com (.slice m.ra m.rn m.rc) 29) := ⟨new1 _ _, fun q => by have := hxA.lt q; omega⟩
    have hx7 := hxA.below B7
    have bx7 := bxA.below B7
    have hne7 : wA.heap.size ≠ xb := by have := lt_of_block' bxA.blk; omega
    have hlo7 : w.heap.size ≤ wA.heap.size := hxA.bel.size
    have zk7 := (B7.cell (p := ⟨xb, 0, none⟩) (lt_of_block' bxA.blk)).trans zk
    have hun := hx7.hy.ublk
    clear hxA bxA B7
    unfold recB at E7 hx7 bx7 zk7 hun
    go_upto_if 52 with fail
    generalize wA.alloc (.cells #[.int .i64 m.com, .slice m.ra m.rn m.rc] 29) = w7 at *
    obtain ⟨b7, hb7⟩ : ∃ q, q = wA.heap.size := ⟨_, rfl⟩
    rw [← hb7] at E7 hne7 hlo7 ⊢
    clear hb7 y1 y2 zk
    replace E7 : Bx A w7 b7 (recB m.com (.slice m.ra m.rn m.rc) 29) := E7
    obtain ⟨bv, lv, wv, hub⟩ := hun
    obtain ⟨_, q1, _⟩ := rt_cells hub
    obtain ⟨x0, x1⟩ := rec_cells E7.blk
    have xf := rec_frozen E7.blk 0
    go_cut [] from 21 to 233 (fun wx => ∃ com, Hx w A tb t ub u k wx ∧ Bx A wx xb (actC m m.c) ∧ Bx A wx b7 (recB com (.slice m.ra m.rn m.rc) 29))
    case first =>
      by_cases k6 : kd = 6
      · subst k6
        go_wp2
        go_meet
        exact ⟨u.end_ + 1, hx7.setB E7 hlo7, bx7.setO (Ne.symm hne7), rec_set0 E7.blk _, E7.out⟩
      · have n6 : (kd == 6) = false := by simpa using k6
        go_wp2
        go_meet
        exact ⟨m.com, hx7, bx7, E7⟩
    case rest =>
      obtain ⟨com, hx8, bx8, e7⟩ := hcut
      clear hx7 bx7 E7 zk7 hub q1 x0 x1 xf
      obtain ⟨x0, x1⟩ := rec_cells e7.blk
      have hch := hin.rec_.chs.below hx8.bel
      go_wp2_with fail
      refine (given_anyE com hch hin.rec_.few hin.rec_.part).mono ?_
      rintro e w8 ⟨oa, on, oc, rfl, oE, B8⟩
      obtain ⟨ss, hss0, rc⟩ := Rc.new (W0 := w) (A := A) hx8.bel.size (fun g hg => hx8.lt hg) oE
      have hss : Hid (ss.map Cs.x = m.rxs) := hss0
      have hon : on ≤ 1954687338264 := by
        have h1 := rc.len
        have h2 := congrArg List.length hss0
        rw [List.length_map] at h2
        have h3 := hin.rec_.chs.size
        have h4 := hin.rec_.few
        simp only at h3 h4
        omega
      have hx9 := hx8.below B8
      have bx9 := bx8.below B8
      have e79 := e7.below B8
      have B10 : Below w8.heap.size w8 (w8.alloc (recB com (.slice oa on oc) 38)) := box_below
      have E8 : Bx A (w8.alloc (recB com (.slice oa on oc) 38)) w8.heap.size (recB com (.slice oa on oc) 38) := ⟨new1 _ _, fun q => by have := hx9.lt q; omega⟩
      have hx10 := hx9.below B10
      have bx10 := bx9.below B10
      have e710 := e79.below B10
      have rc10 := rc.below B10
      clear hss0 oE hx8 bx8 e7 x0 x1 hch B8 hx9 bx9 e79 rc B10
      unfold recB at E8 hx10 bx10 e710 rc10
      go_upto_region 20 with fail
      generalize w8.alloc (.cells #[.int .i64 com, .slice oa on oc] 38) = wB at *
      obtain ⟨b8, hb8⟩ : ∃ q, q = w8.heap.size := ⟨_, rfl⟩
      rw [← hb8] at E8 ⊢
      clear hb8
      have hx8 := hx10
      have bx8 := bx10
      have e7 : Bx A wB b7 (recB com (.slice m.ra m.rn m.rc) 29) := e710
      have e8 : Bx A wB b8 (recB com (.slice oa on oc) 38) := E8
      have rc8 := rc10
      clear hx10 bx10 e710 E8 rc10
      obtain ⟨ae, hae⟩ : ∃ q, Hid (applyE t com m.rxs = q) := ⟨_, rfl⟩
      have hau : Hid (rapplyE u com m.rxs = ae) := (hx8.rel.appE com m.rxs).symm.trans hae.out
      have hrel : Hid (RelP (applyT t com m.rxs) (rapplyT u com m.rxs)) := hx8.rel.apply hgd.1 ⟨hgd.2.1, hgd.2.2.1⟩ com m.rxs
      clear hgd
      refine abstract_act fun A hA => ?_
      have hsz : A.tmps.size = 235 := by rw [hA]; rfl
      have s3 : A.tmps[3]? = some (.pointer (some ⟨tb, 0, none⟩)) := by rw [hA]; rfl
      have s4 : A.tmps[4]? = some (.pointer (some ⟨ub, 0, none⟩)) := by rw [hA]; rfl
      have s7 : A.tmps[7]? = some (.pointer (some ⟨b7, 0, none⟩)) := by rw [hA]; rfl
      have s8 : A.tmps[8]? = some (.pointer (some ⟨b8, 0, none⟩)) := by rw [hA]; rfl
      refine wp_region_inv2' (fun A D a w' => ∃ (l : List Value) (ta : Option Addr) (tn : Nat) (tc : Nat) (AX : Nat → Prop) (tX : Tab) (uX : RTf) (kX : Nat), a = putAll A 61 l ∧ l.length = 14 ∧ (∀ j, j < 14 → D j → l[j]? = some (apV20 tb ub com ae oa m.ra ta on oc m.rn m.rc tn tc j)) ∧ (Hy w AX tb tX ub uX kX w') ∧ (Bx AX w' xb (actC m m.c)) ∧ (Bx AX w' b7 (recB com (.slice m.ra m.rn m.rc) 29)) ∧ (Bx AX w' b8 (recB com (.slice oa on oc) 38)) ∧ (Rc w AX 51 oa on oc ss w') ∧ (D 2 ∨ tX = t) ∧ (D 5 ∨ uX = u ∧ kX = k) ∧ (D 2 → tX = applyT t com m.rxs) ∧ (D 5 → uX = rapplyT u com m.rxs ∧ kX = k + 1) ∧ (D 9 → ¬ D 11 → OwnC w' 0 73 (.slice ta tn tc) m.rxs)) (by kernel_rfl) (by kernel_rfl) ?mono ?start ?step ?done
      case mono =>
        rintro D D' a w' hD ⟨l, ta, tn, tc, AX, tX, uX, kX, ha, hlen, hl, hX, hBx, h7, h8, hRc, hT0, hU0, hT1, hU1, hTk⟩
        exact ⟨l, ta, tn, tc, AX, tX, uX, kX, ha, hlen, fun j hj h => hl j hj ((hD j).2 h), hX, hBx, h7, h8, hRc, hT0.imp_left (hD 2).1, hU0.imp_left (hD 5).1, fun h => hT1 ((hD 2).2 h), fun h => hU1 ((hD 5).2 h), fun h h' => hTk ((hD 9).2 h) (fun k => h' ((hD 11).1 k))⟩
      case start => exact ⟨_, none, 0, 0, _, t, u, k, (putAll_start A 61 14 (by omega)).1, (putAll_start A 61 14 (by omega)).2, fun _ _ h => h.elim, hx8.hy.below ((Below.refl _ _).drew), bx8.below ((Below.refl _ _).drew), e7.below ((Below.refl _ _).drew), e8.below ((Below.refl _ _).drew), rc8.below ((Below.refl _ _).drew), .inr (rfl), .inr (⟨rfl, rfl⟩), fun h => h.elim, fun h => h.elim, fun h _ => h.elim⟩
      case step =>
        clear hA
        intro i o ho D a w' hI hn hcl hd
        obtain ⟨l, ta, tn, tc, AX, tX, uX, kX, ha, hlen, hl, hX, hBx, h7, h8, hRc, hT0, hU0, hT1, hU1, hTk⟩ := hI
        match i, ho with
        | 0, ho =>
          cases Option.some.inj ho
          refine ⟨rfl, ?_⟩
          have ev : a.tmps[3]? = some (.pointer (some ⟨tb, 0, none⟩)) := by rw [ha, putAll_low A 61 3 l (by omega) (by decide)]; exact s3
          refine wp_value (w' := w') (v := .pointer (some ⟨tb, 0, none⟩)) (by simp [execOp, ev, go_sem]) ?_
          exact ⟨_, ta, tn, tc, AX, tX, uX, kX, by rw [ha]; exact putAll_put A 61 0 l _ (by omega) (by omega), by rw [List.length_set]; exact hlen, set_known hlen (by decide) hl, hX, hBx, h7, h8, hRc, hT0.imp_left .inr, hU0.imp_left .inr, fun h => hT1 (h.resolve_left (by decide)), fun h => hU1 (h.resolve_left (by decide)), fun h h' => hTk (h.resolve_left (by decide)) (fun k => h' (.inr k))⟩
        | 1, ho =>
          cases Option.some.inj ho
          refine ⟨rfl, ?_⟩
          have ev : a.tmps[8]? = some (.pointer (some ⟨b8, 0, none⟩)) := by rw [ha, putAll_low A 61 8 l (by omega) (by decide)]; exact s8
          obtain ⟨hc0, hc1⟩ := rec_cells h8.blk
          refine wp_value (w' := w') (v := .agg #[.int .i64 com, .slice oa on oc]) (by simp [execOp, ev, go_sem, hc0, hc1]) ?_
          exact ⟨_, ta, tn, tc, AX, tX, uX, kX, by rw [ha]; exact putAll_put A 61 1 l _ (by omega) (by omega), by rw [List.length_set]; exact hlen, set_known hlen (by decide) hl, hX, hBx, h7, h8, hRc, hT0.imp_left .inr, hU0.imp_left .inr, fun h => hT1 (h.resolve_left (by decide)), fun h => hU1 (h.resolve_left (by decide)), fun h h' => hTk (h.resolve_left (by decide)) (fun k => h' (.inr k))⟩
        | 2, ho =>
          cases Option.some.inj ho
          refine ⟨rfl, ?_⟩
          have ev : a.tmps[61]? = some (.pointer (some ⟨tb, 0, none⟩)) := known_at ha hsz hlen hl 0 (by decide) (hd ⟨0, .data⟩ (by simp) rfl)
          have ev' : a.tmps[62]? = some (.agg #[.int .i64 com, .slice oa on oc]) := known_at ha hsz hlen hl 1 (by decide) (hd ⟨1, .data⟩ (by simp) rfl)
          have eT := hT0.resolve_left hn
          rw [eT] at hX
          have cP := hy_apply hX com hRc.ownC
          rw [hss.out, hae.out] at cP
          refine wp_enter (f := 11) (args := #[.pointer (some ⟨tb, 0, none⟩), .agg #[.int .i64 com, .slice oa on oc]]) (by simp [execOp, ev, ev', go_sem]) ?_
          refine (cP).mono ?_
          rintro e w6 ⟨rfl, A7, hx7, nx7⟩
          refine ⟨_, rfl, ?_⟩
          exact ⟨_, ta, tn, tc, A7, (applyT t com m.rxs), uX, kX, by rw [ha]; exact putAll_put A 61 2 l _ (by omega) (by omega), by rw [List.length_set]; exact hlen, set_known hlen (by decide) hl, hx7, hBx.step nx7, h7.step nx7, h8.step nx7, hRc.step nx7, .inl (.inl rfl), hU0.imp_left .inr, fun _ => rfl, fun h => hU1 (h.resolve_left (by decide)), fun h _ => absurd (h.resolve_left (by decide)) (fun h => (fun h => (fun h => hn (hcl 6 _ rfl h ⟨2, .data⟩ (by simp) rfl)) (hcl 7 _ rfl h ⟨6, .data⟩ (by simp) rfl)) (hcl 9 _ rfl h ⟨7, .guard⟩ (by simp) rfl))⟩
        | 3, ho =>
          cases Option.some.inj ho
          refine ⟨rfl, ?_⟩
          have ev : a.tmps[4]? = some (.pointer (some ⟨ub, 0, none⟩)) := by rw [ha, putAll_low A 61 4 l (by omega) (by decide)]; exact s4
          refine wp_value (w' := w') (v := .pointer (some ⟨ub, 0, none⟩)) (by simp [execOp, ev, go_sem]) ?_
          exact ⟨_, ta, tn, tc, AX, tX, uX, kX, by rw [ha]; exact putAll_put A 61 3 l _ (by omega) (by omega), by rw [List.length_set]; exact hlen, set_known hlen (by decide) hl, hX, hBx, h7, h8, hRc, hT0.imp_left .inr, hU0.imp_left .inr, fun h => hT1 (h.resolve_left (by decide)), fun h => hU1 (h.resolve_left (by decide)), fun h h' => hTk (h.resolve_left (by decide)) (fun k => h' (.inr k))⟩
        | 4, ho =>
          cases Option.some.inj ho
          refine ⟨rfl, ?_⟩
          have ev : a.tmps[7]? = some (.pointer (some ⟨b7, 0, none⟩)) := by rw [ha, putAll_low A 61 7 l (by omega) (by decide)]; exact s7
          obtain ⟨hc0, hc1⟩ := rec_cells h7.blk
          refine wp_value (w' := w') (v := .agg #[.int .i64 com, .slice m.ra m.rn m.rc]) (by simp [execOp, ev, go_sem, hc0, hc1]) ?_
          exact ⟨_, ta, tn, tc, AX, tX, uX, kX, by rw [ha]; exact putAll_put A 61 4 l _ (by omega) (by omega), by rw [List.length_set]; exact hlen, set_known hlen (by decide) hl, hX, hBx, h7, h8, hRc, hT0.imp_left .inr, hU0.imp_left .inr, fun h => hT1 (h.resolve_left (by decide)), fun h => hU1 (h.resolve_left (by decide)), fun h h' => hTk (h.resolve_left (by decide)) (fun k => h' (.inr k))⟩
        | 5, ho =>
          cases Option.some.inj ho
          refine ⟨rfl, ?_⟩
          have ev : a.tmps[64]? = some (.pointer (some ⟨ub, 0, none⟩)) := known_at ha hsz hlen hl 3 (by decide) (hd ⟨3, .data⟩ (by simp) rfl)
          have ev' : a.tmps[65]? = some (.agg #[.int .i64 com, .slice m.ra m.rn m.rc]) := known_at ha hsz hlen hl 4 (by decide) (hd ⟨4, .data⟩ (by simp) rfl)
          obtain ⟨eU, eK⟩ := hU0.resolve_left hn
          rw [eU, eK] at hX
          have cP := hy_rapply hX (by omega) com hin.rec_.chs
          rw [hau.out] at cP
          refine wp_enter (f := 12) (args := #[.pointer (some ⟨ub, 0, none⟩), .agg #[.int .i64 com, .slice m.ra m.rn m.rc]]) (by simp [execOp, ev, ev', go_sem]) ?_
          refine (cP).mono ?_
          rintro e w6 ⟨rfl, A7, hx7, nx7⟩
          refine ⟨_, rfl, ?_⟩
          exact ⟨_, ta, tn, tc, A7, tX, (rapplyT u com m.rxs), (k + 1), by rw [ha]; exact putAll_put A 61 5 l _ (by omega) (by omega), by rw [List.length_set]; exact hlen, set_known hlen (by decide) hl, hx7, hBx.step nx7, h7.step nx7, h8.step nx7, hRc.step nx7, hT0.imp_left .inr, .inl (.inl rfl), fun h => hT1 (h.resolve_left (by decide)), fun _ => ⟨rfl, rfl⟩, fun h _ => absurd (h.resolve_left (by decide)) (fun h => (fun h => (fun h => hn (hcl 6 _ rfl h ⟨5, .data⟩ (by simp) rfl)) (hcl 7 _ rfl h ⟨6, .data⟩ (by simp) rfl)) (hcl 9 _ rfl h ⟨7, .guard⟩ (by simp) rfl))⟩
        | 6, ho =>
          cases Option.some.inj ho
          refine ⟨rfl, ?_⟩
          have ev : a.tmps[63]? = some (.int .i64 ae) := known_at ha hsz hlen hl 2 (by decide) (hd ⟨2, .data⟩ (by simp) rfl)
          have ev' : a.tmps[66]? = some (.int .i64 ae) := known_at ha hsz hlen hl 5 (by decide) (hd ⟨5, .data⟩ (by simp) rfl)
          refine wp_value (w' := w') (v := .bool false) (by simp [execOp, ev, ev', go_sem]) ?_
          exact ⟨_, ta, tn, tc, AX, tX, uX, kX, by rw [ha]; exact putAll_put A 61 6 l _ (by omega) (by omega), by rw [List.length_set]; exact hlen, set_known hlen (by decide) hl, hX, hBx, h7, h8, hRc, hT0.imp_left .inr, hU0.imp_left .inr, fun h => hT1 (h.resolve_left (by decide)), fun h => hU1 (h.resolve_left (by decide)), fun h h' => hTk (h.resolve_left (by decide)) (fun k => h' (.inr k))⟩
        | 7, ho =>
          cases Option.some.inj ho
          refine ⟨rfl, ?_⟩
          have ev : a.tmps[67]? = some (.bool false) := known_at ha hsz hlen hl 6 (by decide) (hd ⟨6, .data⟩ (by simp) rfl)
          refine wp_value (w' := w') (v := .bool false) (by simp [execOp, ev, go_sem]) ?_
          exact ⟨_, ta, tn, tc, AX, tX, uX, kX, by rw [ha]; exact putAll_put A 61 7 l _ (by omega) (by omega), by rw [List.length_set]; exact hlen, set_known hlen (by decide) hl, hX, hBx, h7, h8, hRc, hT0.imp_left .inr, hU0.imp_left .inr, fun h => hT1 (h.resolve_left (by decide)), fun h => hU1 (h.resolve_left (by decide)), fun h h' => hTk (h.resolve_left (by decide)) (fun k => h' (.inr k))⟩
        | 8, ho =>
          cases Option.some.inj ho
          refine ⟨wanted_of (k := 68) rfl rfl rfl (known_at ha hsz hlen hl 7 (by decide) (hd ⟨7, .guard⟩ (by simp) rfl)), ?_⟩
          have ev : a.tmps[8]? = some (.pointer (some ⟨b8, 0, none⟩)) := by rw [ha, putAll_low A 61 8 l (by omega) (by decide)]; exact s8
          obtain ⟨hc0, hc1⟩ := rec_cells h8.blk
          refine wp_value (w' := w') (v := .agg #[.int .i64 com, .slice oa on oc]) (by simp [execOp, ev, go_sem, hc0, hc1]) ?_
          exact ⟨_, ta, tn, tc, AX, tX, uX, kX, by rw [ha]; exact putAll_put A 61 8 l _ (by omega) (by omega), by rw [List.length_set]; exact hlen, set_known hlen (by decide) hl, hX, hBx, h7, h8, hRc, hT0.imp_left .inr, hU0.imp_left .inr, fun h => hT1 (h.resolve_left (by decide)), fun h => hU1 (h.resolve_left (by decide)), fun h h' => hTk (h.resolve_left (by decide)) (fun k => h' (.inr k))⟩
        | 9, ho =>
          cases Option.some.inj ho
          refine ⟨wanted_of (k := 68) rfl rfl rfl (known_at ha hsz hlen hl 7 (by decide) (hd ⟨7, .guard⟩ (by simp) rfl)), ?_⟩
          have ev : a.tmps[69]? = some (.agg #[.int .i64 com, .slice oa on oc]) := known_at ha hsz hlen hl 8 (by decide) (hd ⟨8, .data⟩ (by simp) rfl)
          have cK := taken_any com (xs := ss.map Cs.x) hRc.ownC hon
          rw [hss.out] at cK
          refine wp_enter (f := 14) (args := #[.agg #[.int .i64 com, .slice oa on oc]]) (by simp [execOp, ev, go_sem]) ?_
          refine (cK).mono ?_
          rintro e w6 ⟨ta', tn', tc', rfl, oC, HB⟩
          refine ⟨_, rfl, ?_⟩
          exact ⟨_, ta', tn', tc', AX, tX, uX, kX, by rw [ha]; exact putAll_put A 61 9 l _ (by omega) (by omega), by rw [List.length_set]; exact hlen, set_known' (val' := apV20 tb ub com ae oa m.ra ta' on oc m.rn m.rc tn' tc') hlen (by decide) hl (fun j hj hne => match j, hj, hne with | 0, _, _ => rfl | 1, _, _ => rfl | 2, _, _ => rfl | 3, _, _ => rfl | 4, _, _ => rfl | 5, _, _ => rfl | 6, _, _ => rfl | 7, _, _ => rfl | 8, _, _ => rfl | 9, _, hne => absurd rfl hne | 10, _, _ => rfl | 11, _, _ => rfl | 12, _, _ => rfl | 13, _, _ => rfl | j + 14, _, _ => rfl), hX.below HB, hBx.below HB, h7.below HB, h8.below HB, hRc.below HB, hT0.imp_left .inr, hU0.imp_left .inr, fun h => hT1 (h.resolve_left (by decide)), fun h => hU1 (h.resolve_left (by decide)), fun _ _ => oC.mono (Nat.zero_le _)⟩
        | 10, ho =>
          cases Option.some.inj ho
          refine ⟨wanted_of (k := 68) rfl rfl rfl (known_at ha hsz hlen hl 7 (by decide) (hd ⟨7, .guard⟩ (by simp) rfl)), ?_⟩
          have ev : a.tmps[7]? = some (.pointer (some ⟨b7, 0, none⟩)) := by rw [ha, putAll_low A 61 7 l (by omega) (by decide)]; exact s7
          obtain ⟨hc0, hc1⟩ := rec_cells h7.blk
          refine wp_value (w' := w') (v := .agg #[.int .i64 com, .slice m.ra m.rn m.rc]) (by simp [execOp, ev, go_sem, hc0, hc1]) ?_
          exact ⟨_, ta, tn, tc, AX, tX, uX, kX, by rw [ha]; exact putAll_put A 61 10 l _ (by omega) (by omega), by rw [List.length_set]; exact hlen, set_known hlen (by decide) hl, hX, hBx, h7, h8, hRc, hT0.imp_left .inr, hU0.imp_left .inr, fun h => hT1 (h.resolve_left (by decide)), fun h => hU1 (h.resolve_left (by decide)), fun h h' => hTk (h.resolve_left (by decide)) (fun k => h' (.inr k))⟩
        | 11, ho =>
          cases Option.some.inj ho
          refine ⟨wanted_of (k := 68) rfl rfl rfl (known_at ha hsz hlen hl 7 (by decide) (hd ⟨7, .guard⟩ (by simp) rfl)), ?_⟩
          have ev : a.tmps[70]? = some (.agg #[.int .i64 com, .slice ta tn tc]) := known_at ha hsz hlen hl 9 (by decide) (hd ⟨9, .data⟩ (by simp) rfl)
          have ev' : a.tmps[71]? = some (.agg #[.int .i64 com, .slice m.ra m.rn m.rc]) := known_at ha hsz hlen hl 10 (by decide) (hd ⟨10, .data⟩ (by simp) rfl)
          refine wp_enter (f := 13) (args := #[.agg #[.int .i64 com, .slice ta tn tc], .agg #[.int .i64 com, .slice m.ra m.rn m.rc]]) (by simp [execOp, ev, ev', go_sem]) ?_
          refine (sameRecord_true com (hTk (hd ⟨9, .data⟩ (by simp) rfl) hn).isC (hin.rec_.chs.below hX.bel)).mono ?_
          rintro e w6 ⟨rfl, HB⟩
          refine ⟨_, rfl, ?_⟩
          exact ⟨_, ta, tn, tc, AX, tX, uX, kX, by rw [ha]; exact putAll_put A 61 11 l _ (by omega) (by omega), by rw [List.length_set]; exact hlen, set_known hlen (by decide) hl, hX.below HB, hBx.below HB, h7.below HB, h8.below HB, hRc.below HB, hT0.imp_left .inr, hU0.imp_left .inr, fun h => hT1 (h.resolve_left (by decide)), fun h => hU1 (h.resolve_left (by decide)), fun _ h' => absurd (.inl rfl) h'⟩
        | 12, ho =>
          cases Option.some.inj ho
          refine ⟨wanted_of (k := 68) rfl rfl rfl (known_at ha hsz hlen hl 7 (by decide) (hd ⟨7, .guard⟩ (by simp) rfl)), ?_⟩
          have ev : a.tmps[72]? = some (.bool true) := known_at ha hsz hlen hl 11 (by decide) (hd ⟨11, .data⟩ (by simp) rfl)
          refine wp_value (w' := w') (v := .bool false) (by simp [execOp, ev, go_sem]) ?_
          exact ⟨_, ta, tn, tc, AX, tX, uX, kX, by rw [ha]; exact putAll_put A 61 12 l _ (by omega) (by omega), by rw [List.length_set]; exact hlen, set_known hlen (by decide) hl, hX, hBx, h7, h8, hRc, hT0.imp_left .inr, hU0.imp_left .inr, fun h => hT1 (h.resolve_left (by decide)), fun h => hU1 (h.resolve_left (by decide)), fun h h' => hTk (h.resolve_left (by decide)) (fun k => h' (.inr k))⟩
        | 13, ho =>
          cases Option.some.inj ho
          refine ⟨rfl, ?_⟩
          have ev : a.tmps[68]? = some (.bool false) := known_at ha hsz hlen hl 7 (by decide) (hd ⟨7, .data⟩ (by simp) rfl)
          have ev' : a.tmps[73]? = some (.bool false) := known_at ha hsz hlen hl 12 (by decide) (hd ⟨12, .data⟩ (by simp) rfl)
          refine wp_value (w' := w') (v := .bool false) (by simp [execOp, ev, ev', go_sem]) ?_
          exact ⟨_, ta, tn, tc, AX, tX, uX, kX, by rw [ha]; exact putAll_put A 61 13 l _ (by omega) (by omega), by rw [List.length_set]; exact hlen, set_known hlen (by decide) hl, hX, hBx, h7, h8, hRc, hT0.imp_left .inr, hU0.imp_left .inr, fun h => hT1 (h.resolve_left (by decide)), fun h => hU1 (h.resolve_left (by decide)), fun h h' => hTk (h.resolve_left (by decide)) (fun k => h' (.inr k))⟩
        | i + 14, ho => simp at ho
      case done =>
        rintro D a w' ⟨l, ta, tn, tc, AX, tX, uX, kX, ha, hlen, hl, hX, hBx, h7, h8, hRc, hT0, hU0, hT1, hU1, hTk⟩ hall
        obtain ⟨v0, v1, v2, v3, v4, v5, v6, v7, v8, v9, v10, v11, v12, v13, rfl⟩ := apV20_list hlen
        obtain rfl := hT1 (hall 2 (by decide))
        obtain ⟨rfl, rfl⟩ := hU1 (hall 5 (by decide))
        have e13 : some v13 = some (.bool false) := hl 13 (by decide) (hall 13 (by decide))
        obtain rfl := Option.some.inj e13
        have hx9 := hX.hx hrel.out
        clear e13 hall hl hlen hsz s3 s4 s7 s8 hT0 hU0 hT1 hU1 hTk hx8 bx8 e7 e8 rc8 hX h7
        subst hA
        have hfr : a = _ := ha
        rw [hfr]
        clear hfr ha
        simp only [putAll, List.take_succ_cons, List.take_zero, List.drop_succ_cons, List.drop_zero, List.cons_append, List.nil_append, List.length_cons, List.length_nil]
        generalize w' = w9 at *
        obtain ⟨x0, x1⟩ := rec_cells h8.blk
        go_wp2
        clear x0 x1
        go_loopw [9] (fun iv wr => ∃ q : Nat, q ≤ on ∧ iv = .int .i64 (q : Int) ∧ SpL ss w9 wr) (fun iv _ => on - (intOf iv).toNat)
        case atStart => exact ⟨0, by omega, rfl, SpL.refl _ _⟩
        case round =>
          obtain ⟨q, hq, rfl, sp⟩ := hrel
          have h8r := (sp.other hRc h8.blk (by decide) (by decide)).trans h8.blk
          obtain ⟨x0, x1⟩ := rec_cells h8r
          by_cases hlt : q < on
          · have hqi : (q : Int) < (on : Int) := by omega
            obtain ⟨cb, s, rfl, hsm, hat⟩ := hRc.at_ (by decide) (by decide) q hlt
            obtain ⟨hcb, hcl, hV, hB⟩ := hat wr sp
            have d2 : wr.cell? ⟨cb, q * 5 + 2, none⟩ = some (.int .i64 s.x.cls) := hcl 2 _ rfl
            have d3 : wr.cell? ⟨cb, q * 5 + 3, none⟩ = some (.slice s.sa s.sn s.sc) := hcl 3 _ rfl
            have d4 : wr.cell? ⟨cb, q * 5 + 4, none⟩ = some (.slice s.ba s.bn s.bc) := hcl 4 _ rfl
            clear hcl hat
            go_wp2_with fail
            refine (spoil_any hV hB).mono ?_
            rintro e w10 ⟨rfl, F10, K10⟩
            have sp2 := sp.next hsm F10 K10
            clear F10 K10 sp hV hB d2 d3 d4 x0 x1 h8r
            go_wp2
            go_roundw
            case rel => exact ⟨q + 1, by omega, by go_num, sp2⟩
            case measure => simp [intOf]; omega
          · have hqi : ¬ (q : Int) < (on : Int) := by omega
            have fin : AftP w ub xb m j (.pointer (some ⟨tb, 0, none⟩)) wr := ⟨AX, tb, _, _, k + 1, _, rfl, sp.hx hRc hx9, by omega, (sp.other hRc hBx.blk (by decide) (by decide)).trans hBx.blk, hBx.out⟩
            clear sp hRc hx9 hBx h8
            go_wp2
            go_meet
            case rel => exact fin
end Go.Proofs.Ytajdelinfkodbaa
