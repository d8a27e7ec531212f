/- The law ViewPlays: an arm. -/
import Derived.Test.YteomolihandfnaaGreatLwK
import Derived.Test.YteomolihandfnaaGreatHsu
namespace Go.Proofs.YteomolihandfnaaGreat
open Go.RowKit
set_option maxRecDepth 100000
/-- What the operations yield. -/
def putV31 (b rb xb : Nat) (oo cl pe : Int) (sa ba ta ea : Option Addr) (sn sc bn bc tn tc en ec : Nat) (j : Nat) : Value :=
  ([.pointer (some ⟨b, 0, none⟩),
    .pointer (some ⟨xb, 1, none⟩),
    .int .i64 oo,
    .agg #[.int .i64 cl, .slice sa sn sc, .slice ba bn bc],
    .int .i64 pe,
    .pointer (some ⟨rb, 0, none⟩),
    .pointer (some ⟨xb, 1, none⟩),
    .int .i64 oo,
    .pointer (some ⟨xb, 2, none⟩),
    .agg #[.int .i64 cl, .slice ta tn tc, .slice ea en ec],
    .int .i64 pe,
    .bool true,
    .bool true,
    .agg #[.int .i64 cl, .slice sa sn sc, .slice ba bn bc],
    .pointer (some ⟨xb, 2, none⟩),
    .agg #[.int .i64 cl, .slice ta tn tc, .slice ea en ec],
    .bool true,
    .bool true] : List Value).getD j undef
theorem putV31_list {l : List Value} (hh : l.length = 18) : ∃ v0 v1 v2 v3 v4 v5 v6 v7 v8 v9 v10 v11 v12 v13 v14 v15 v16 v17, l = [v0, v1, v2, v3, v4, v5, v6, v7, v8, v9, v10, v11, v12, v13, v14, v15, v16, v17] := by
  obtain ⟨v0, t0, rfl, h0⟩ := cons_of hh
  obtain ⟨v1, t1, rfl, h1⟩ := cons_of h0
  obtain ⟨v2, t2, rfl, h2⟩ := cons_of h1
  obtain ⟨v3, t3, rfl, h3⟩ := cons_of h2
  obtain ⟨v4, t4, rfl, h4⟩ := cons_of h3
  obtain ⟨v5, t5, rfl, h5⟩ := cons_of h4
  obtain ⟨v6, t6, rfl, h6⟩ := cons_of h5
  obtain ⟨v7, t7, rfl, h7⟩ := cons_of h6
  obtain ⟨v8, t8, rfl, h8⟩ := cons_of h7
  obtain ⟨v9, t9, rfl, h9⟩ := cons_of h8
  obtain ⟨v10, t10, rfl, h10⟩ := cons_of h9
  obtain ⟨v11, t11, rfl, h11⟩ := cons_of h10
  obtain ⟨v12, t12, rfl, h12⟩ := cons_of h11
  obtain ⟨v13, t13, rfl, h13⟩ := cons_of h12
  obtain ⟨v14, t14, rfl, h14⟩ := cons_of h13
  obtain ⟨v15, t15, rfl, h15⟩ := cons_of h14
  obtain ⟨v16, t16, rfl, h16⟩ := cons_of h15
  obtain ⟨v17, t17, rfl, h17⟩ := cons_of h16
  obtain rfl := List.eq_nil_of_length_eq_zero h17
  exact ⟨_, _, _, _, _, _, _, _, _, _, _, _, _, _, _, _, _, _, rfl⟩
set_option maxHeartbeats 80000000 in
theorem armd : skelK.2.2.2.1 := by
  intro w la ln lc ls an ac as_ x1 w2 tb ub u0 T w3 vb w4 rb A0 x2 x3 u4 u10 u11 u12 u13 u14 u15 u16 u17 u18 u19 u20 u21 u22 u23 u24 u25 u26 u27 u28 u29 u30 u31 x4 x5 x6 x7 x8 x9 x10 u50 x11 x12 x13 x14 x15 x16 x17 x18 x19 x20 x21 x22 x23 x24 x25 x26 x27 x28 x29 x30 x31 x32 x33 x34 x35 x36 x37 x38 x39 x40 x41 x42 x43 x44 x45 x46 x47 x48 x49 x50 x51 x52 x53 x54 x55 x56 x57 x58 x59 x60 x61 x62 x63 x64 x65 x66 x67 x68 x69 x70 x71 x72 x73 x74 x75 x76 x77 x78 x79 x80 x81 x82 x83 x84 x85 x86 x87 x88 x89 x90 x91 x92 x93 x94 x95 x96 x97 x98 x99 x100 x101 x102 x103 x104 x105 x106 x107 x108 x109 x110 x111 x112 x113 x114 x115 x116 x117 x118 x119 x120 x121 x122 x123 x124 x125 x126 x127 x128 x129 x130 x131 x132 x133 x134 x135 x136 x137 x138 x139 x140 x141 x142 x143 x144 x145 x146 x147 x148 x149 x150 x151 x152 x153 x154 x155 x156 x157 x158 x159 x160 x161 x162 x163 x164 x165 x166 x167 x168 x169 x170 x171 x172 x173 x174 x175 x176 x177 x178 x179 x180 x181 x182 x183 x184 x185 x186 x187 x188 x189 x190 x191 x192 x193 x194 x195 x196 x197 x198 x199 x200 x201 x202 x203 x204 x205 x206 x207 x208 x209 x210 x211 x212 x213 x214 x215 x216 x217 x218 x219 x220 x221 x222 x223 x224 x225 x226 x227 x228 x229 x230 x231 x232 x233 x234 x235 x236 x237 x238 x239 x240 x241 x242 x243 x244 x245 j hj1 hj2 A t u b v r zr wc u43 u44 u45 u46 u47 u48 u49 u51 u52 u53 u54 u55 u56 u57 u58 u59 u60 u61 u62 u63 u64 u65 u66 u67 u68 u69 u70 u71 u72 u73 u74 u75 u76 u77 u78 u79 u80 u81 u82 u83 u84 u85 u86 u87 u88 u89 u90 u91 u92 u93 u94 u95 u96 u97 u98 u99 u100 u101 u102 u103 u104 u105 u106 u107 u108 u109 u110 u111 u112 u113 u114 u115 u116 u117 u118 u119 u120 u121 u122 u123 u124 u125 u126 u127 u128 u129 u130 u131 u132 u133 u134 u135 u136 u137 u138 u139 u140 u141 u142 u143 u144 u145 u146 u147 u148 u149 u150 u151 u152 u153 u154 u155 u156 u157 u158 u159 u160 u161 u162 u163 u164 u165 u166 u167 u168 u169 u170 u171 u172 u173 u174 u175 u176 u177 u178 u179 u180 u181 u182 u183 u184 u185 u186 u187 u188 u189 u190 u191 u192 u193 u194 u195 u196 u197 u198 u199 u200 u201 u202 u203 u204 u205 u206 u207 u208 u209 u210 u211 u212 u213 u214 u215 u216 u217 u218 u219 u220 u221 u222 u223 u224 u225 u226 u227 u228 u229 u230 u231 u232 u233 u234 u235 u236 u237 u238 u239 u240 u241 u242 u243 u244 u245 u246 u247 u248 u249 u250 u251 u252 u253 u254 u255 u256 u257 u258 u259 u260 u261 u262 u263 u264 u265 u266 u267 u268 u269 u270 u271 u272 u273 u274 u275 u276 u277 u278 u279 u280 u281 u282 u283 u284 u285 hlt1 hlt2 ab ao m x246 hin x247 x248 x249 x250 wA hxA xb bxA j40 kd z0 hkd x251 x252 x253 x254 kA kB kC kD
  rw [hkd.out]
  have hs : m.sn ≤ 8796093022208 := by have := hin.sn; omega
  have hb : m.bn ≤ 140737488355328 := by have := hin.bn; omega
  obtain ⟨_, z1, z2, z3, z4, _⟩ := act_cells bxA.blk
  have ask := zr.asks hxA (by omega)
  have zr2 : Hid (Zr t u (putV v t m.oop ⟨m.o.cls, m.o.vs, m.o.bs⟩) (dputV r u m.oop ⟨m.o.cls, m.o.vs, m.o.bs⟩) (j + 1)) := zr.put hxA m.oop _
  obtain ⟨pe, hpe⟩ : ∃ q, Hid (putE v t m.oop ⟨m.o.cls, m.o.vs, m.o.bs⟩ = q) := ⟨_, rfl⟩
  have hpd : Hid (dputE r u m.oop ⟨m.o.cls, m.o.vs, m.o.bs⟩ = pe) := (zr.putE m.oop _).trans hpe.out
  rcases kD with rfl | rfl | rfl
  · go_wp2_with fail
    refine (rcopy_shape (hin.obj.below hxA.bel) hs hb).mono ?_
    rintro e w7 ⟨sa, sn, sc, ba, bn, bc, rfl, oV, oB, B7⟩
    have ro := Ro.new hxA oV oB
    have hx1 := hxA.below B7
    have bx1 := bxA.below B7
    have B8 : Below w7.heap.size w7 (w7.alloc (objB m.o.cls (.slice sa sn sc) (.slice ba bn bc))) := box_below
    have E8 : Bx A (w7.alloc (objB m.o.cls (.slice sa sn sc) (.slice ba bn bc))) w7.heap.size (objB m.o.cls (.slice sa sn sc) (.slice ba bn bc)) := ⟨new1 _ _, fun q => by have := hx1.lt q; omega⟩
    have hx2 := hx1.below B8
    have ro2 := ro.below B8
    have bx2 := bx1.below B8
    clear z0 z2 z3 z4 hxA bxA oV oB B7 ro hx1 bx1 B8
    obtain ⟨y0, y1, y2, _⟩ := obj_cells E8.blk
    clear z1 y0 y1 y2
    unfold objB at E8 hx2 ro2 bx2
    go_upto_region 31 with fail
    generalize w7.alloc (.cells #[.int .i64 m.o.cls, .slice sa sn sc, .slice ba bn bc] 35) = w8 at *
    obtain ⟨b20, hb20⟩ : ∃ q, q = w7.heap.size := ⟨_, rfl⟩
    rw [← hb20] at E8 ⊢
    clear hb20
    replace E8 : Bx A w8 b20 (objB m.o.cls (.slice sa sn sc) (.slice ba bn bc)) := E8
    refine abstract_act fun A hA => ?_
    have hsz : A.tmps.size = 287 := by rw [hA]; rfl
    have st : A.tmps[11]? = some (.bool true) := by rw [hA]; rfl
    have s7 : A.tmps[7]? = some (.pointer (some ⟨b, 0, none⟩)) := by rw [hA]; rfl
    have s8 : A.tmps[8]? = some (.pointer (some ⟨rb, 0, none⟩)) := by rw [hA]; rfl
    have s10 : A.tmps[10]? = some (.pointer (some ⟨xb, 0, none⟩)) := by rw [hA]; rfl
    have s20 : A.tmps[20]? = some (.pointer (some ⟨b20, 0, none⟩)) := by rw [hA]; rfl
    refine wp_region_inv2' (fun A D a w' => ∃ (l : List Value) (vt : Value) (AX : Nat → Prop) (vX : Vw) (rX : Dv), a = (putAll A 129 l).put (some 11) vt ∧ l.length = 18 ∧ (∀ j, j < 18 → D j → l[j]? = some (putV31 b rb xb m.oop m.o.cls pe sa ba m.sa m.ba sn sc bn bc m.sn m.sc m.bn m.bc j)) ∧ (D 18 → vt = .bool true) ∧ (Hx w AX tb t ub u b vX rb rX w') ∧ (Bx AX w' xb (actB m)) ∧ (Bx AX w' b20 (objB m.o.cls (.slice sa sn sc) (.slice ba bn bc))) ∧ (Ro w AX w' sa sn sc ba bn bc m.o.vs m.o.bs) ∧ (D 4 ∨ vX = v) ∧ (D 10 ∨ rX = r) ∧ (D 4 → vX = putV v t m.oop ⟨m.o.cls, m.o.vs, m.o.bs⟩) ∧ (D 10 → rX = dputV r u m.oop ⟨m.o.cls, m.o.vs, m.o.bs⟩)) (by kernel_rfl) (by kernel_rfl) ?mono ?start ?step ?done
    case mono =>
      rintro D D' a w' hD ⟨l, vt, AX, vX, rX, ha, hlen, hl, hvt, hX, hBx, hOx, hRo, hV0, hR0, hV1, hR1⟩
      exact ⟨l, vt, AX, vX, rX, ha, hlen, fun j hj h => hl j hj ((hD j).2 h), fun h => hvt ((hD 18).2 h), hX, hBx, hOx, hRo, hV0.imp_left (hD 4).1, hR0.imp_left (hD 10).1, fun h => hV1 ((hD 4).2 h), fun h => hR1 ((hD 10).2 h)⟩
    case start => exact ⟨_, _, _, v, r, putT_start A 129 18 11 _ (by omega) (by decide) st, (putAll_start A 129 18 (by omega)).2, fun _ _ h => h.elim, fun h => h.elim, hx2.below ((Below.refl _ _).drew), bx2.below ((Below.refl _ _).drew), E8.below ((Below.refl _ _).drew), ro2.below ((Below.refl _ _).drew), .inr (rfl), .inr (rfl), fun h => h.elim, fun h => h.elim⟩
    case step =>
      clear hA
      intro i o ho D a w' hI hn hcl hd
      obtain ⟨l, vt, AX, vX, rX, ha, hlen, hl, hvt, hX, hBx, hOx, hRo, hV0, hR0, hV1, hR1⟩ := hI
      match i, ho with
      | 0, ho =>
        cases Option.some.inj ho
        refine ⟨rfl, ?_⟩
        have ev : a.tmps[7]? = some (.pointer (some ⟨b, 0, none⟩)) := by rw [ha, putT_other _ _ _ _ (by decide), putAll_low A 129 7 l (by omega) (by decide)]; exact s7
        refine wp_value (w' := w') (v := .pointer (some ⟨b, 0, none⟩)) (by simp [execOp, ev, go_sem]) ?_
        exact ⟨_, vt, AX, vX, rX, by rw [ha]; exact putT_put A 129 0 11 l _ _ (by omega) (by omega) (by decide), by rw [List.length_set]; exact hlen, set_known hlen (by decide) hl, fun h => hvt (h.resolve_left (by decide)), hX, hBx, hOx, hRo, hV0.imp_left .inr, hR0.imp_left .inr, fun h => hV1 (h.resolve_left (by decide)), fun h => hR1 (h.resolve_left (by decide))⟩
      | 1, ho =>
        cases Option.some.inj ho
        refine ⟨rfl, ?_⟩
        have ev : a.tmps[10]? = some (.pointer (some ⟨xb, 0, none⟩)) := by rw [ha, putT_other _ _ _ _ (by decide), putAll_low A 129 10 l (by omega) (by decide)]; exact s10
        refine wp_value (w' := w') (v := .pointer (some ⟨xb, 1, none⟩)) (by simp [execOp, ev, go_sem]) ?_
        exact ⟨_, vt, AX, vX, rX, by rw [ha]; exact putT_put A 129 1 11 l _ _ (by omega) (by omega) (by decide), by rw [List.length_set]; exact hlen, set_known hlen (by decide) hl, fun h => hvt (h.resolve_left (by decide)), hX, hBx, hOx, hRo, hV0.imp_left .inr, hR0.imp_left .inr, fun h => hV1 (h.resolve_left (by decide)), fun h => hR1 (h.resolve_left (by decide))⟩
      | 2, ho =>
        cases Option.some.inj ho
        refine ⟨rfl, ?_⟩
        have ev : a.tmps[130]? = some (.pointer (some ⟨xb, 1, none⟩)) := known_atT ha hsz hlen hl 1 (by decide) (hd ⟨1, .data⟩ (by simp) rfl)
        have hc := (act_cells hBx.blk).2.1
        refine wp_value (w' := w') (v := .int .i64 m.oop) (by simp [execOp, ev, go_sem, hc]) ?_
        exact ⟨_, vt, AX, vX, rX, by rw [ha]; exact putT_put A 129 2 11 l _ _ (by omega) (by omega) (by decide), by rw [List.length_set]; exact hlen, set_known hlen (by decide) hl, fun h => hvt (h.resolve_left (by decide)), hX, hBx, hOx, hRo, hV0.imp_left .inr, hR0.imp_left .inr, fun h => hV1 (h.resolve_left (by decide)), fun h => hR1 (h.resolve_left (by decide))⟩
      | 3, ho =>
        cases Option.some.inj ho
        refine ⟨rfl, ?_⟩
        have ev : a.tmps[20]? = some (.pointer (some ⟨b20, 0, none⟩)) := by rw [ha, putT_other _ _ _ _ (by decide), putAll_low A 129 20 l (by omega) (by decide)]; exact s20
        obtain ⟨hc0, hc1, hc2, _⟩ := obj_cells hOx.blk
        refine wp_value (w' := w') (v := .agg #[.int .i64 m.o.cls, .slice sa sn sc, .slice ba bn bc]) (by simp [execOp, ev, go_sem, hc0, hc1, hc2]) ?_
        exact ⟨_, vt, AX, vX, rX, by rw [ha]; exact putT_put A 129 3 11 l _ _ (by omega) (by omega) (by decide), by rw [List.length_set]; exact hlen, set_known hlen (by decide) hl, fun h => hvt (h.resolve_left (by decide)), hX, hBx, hOx, hRo, hV0.imp_left .inr, hR0.imp_left .inr, fun h => hV1 (h.resolve_left (by decide)), fun h => hR1 (h.resolve_left (by decide))⟩
      | 4, ho =>
        cases Option.some.inj ho
        refine ⟨rfl, ?_⟩
        have ev : a.tmps[129]? = some (.pointer (some ⟨b, 0, none⟩)) := known_atT ha hsz hlen hl 0 (by decide) (hd ⟨0, .data⟩ (by simp) rfl)
        have ev' : a.tmps[131]? = some (.int .i64 m.oop) := known_atT ha hsz hlen hl 2 (by decide) (hd ⟨2, .data⟩ (by simp) rfl)
        have ev'' : a.tmps[132]? = some (.agg #[.int .i64 m.o.cls, .slice sa sn sc, .slice ba bn bc]) := known_atT ha hsz hlen hl 3 (by decide) (hd ⟨3, .data⟩ (by simp) rfl)
        have eV := hV0.resolve_left hn
        rw [eV] at hX
        have cP := hx_put hX m.oop (hRo.obX hin.obj.cls hX.inb)
        rw [hpe.out] at cP
        refine wp_enter (f := 16) (args := #[.pointer (some ⟨b, 0, none⟩), .int .i64 m.oop, .agg #[.int .i64 m.o.cls, .slice sa sn sc, .slice ba bn bc]]) (by simp [execOp, ev, ev', ev'', go_sem]) ?_
        refine (cP).mono ?_
        rintro e w6 ⟨rfl, A7, hx7, nx7⟩
        refine ⟨_, rfl, ?_⟩
        exact ⟨_, vt, A7, (putV v t m.oop ⟨m.o.cls, m.o.vs, m.o.bs⟩), rX, by rw [ha]; exact putT_put A 129 4 11 l _ _ (by omega) (by omega) (by decide), by rw [List.length_set]; exact hlen, set_known hlen (by decide) hl, fun h => hvt (h.resolve_left (by decide)), hx7, hBx.step nx7, hOx.step nx7, hRo.step nx7, .inl (.inl rfl), hR0.imp_left .inr, fun _ => rfl, fun h => hR1 (h.resolve_left (by decide))⟩
      | 5, ho =>
        cases Option.some.inj ho
        refine ⟨rfl, ?_⟩
        have ev : a.tmps[8]? = some (.pointer (some ⟨rb, 0, none⟩)) := by rw [ha, putT_other _ _ _ _ (by decide), putAll_low A 129 8 l (by omega) (by decide)]; exact s8
        refine wp_value (w' := w') (v := .pointer (some ⟨rb, 0, none⟩)) (by simp [execOp, ev, go_sem]) ?_
        exact ⟨_, vt, AX, vX, rX, by rw [ha]; exact putT_put A 129 5 11 l _ _ (by omega) (by omega) (by decide), by rw [List.length_set]; exact hlen, set_known hlen (by decide) hl, fun h => hvt (h.resolve_left (by decide)), hX, hBx, hOx, hRo, hV0.imp_left .inr, hR0.imp_left .inr, fun h => hV1 (h.resolve_left (by decide)), fun h => hR1 (h.resolve_left (by decide))⟩
      | 6, ho =>
        cases Option.some.inj ho
        refine ⟨rfl, ?_⟩
        have ev : a.tmps[10]? = some (.pointer (some ⟨xb, 0, none⟩)) := by rw [ha, putT_other _ _ _ _ (by decide), putAll_low A 129 10 l (by omega) (by decide)]; exact s10
        refine wp_value (w' := w') (v := .pointer (some ⟨xb, 1, none⟩)) (by simp [execOp, ev, go_sem]) ?_
        exact ⟨_, vt, AX, vX, rX, by rw [ha]; exact putT_put A 129 6 11 l _ _ (by omega) (by omega) (by decide), by rw [List.length_set]; exact hlen, set_known hlen (by decide) hl, fun h => hvt (h.resolve_left (by decide)), hX, hBx, hOx, hRo, hV0.imp_left .inr, hR0.imp_left .inr, fun h => hV1 (h.resolve_left (by decide)), fun h => hR1 (h.resolve_left (by decide))⟩
      | 7, ho =>
        cases Option.some.inj ho
        refine ⟨rfl, ?_⟩
        have ev : a.tmps[135]? = some (.pointer (some ⟨xb, 1, none⟩)) := known_atT ha hsz hlen hl 6 (by decide) (hd ⟨6, .data⟩ (by simp) rfl)
        have hc := (act_cells hBx.blk).2.1
        refine wp_value (w' := w') (v := .int .i64 m.oop) (by simp [execOp, ev, go_sem, hc]) ?_
        exact ⟨_, vt, AX, vX, rX, by rw [ha]; exact putT_put A 129 7 11 l _ _ (by omega) (by omega) (by decide), by rw [List.length_set]; exact hlen, set_known hlen (by decide) hl, fun h => hvt (h.resolve_left (by decide)), hX, hBx, hOx, hRo, hV0.imp_left .inr, hR0.imp_left .inr, fun h => hV1 (h.resolve_left (by decide)), fun h => hR1 (h.resolve_left (by decide))⟩
      | 8, ho =>
        cases Option.some.inj ho
        refine ⟨rfl, ?_⟩
        have ev : a.tmps[10]? = some (.pointer (some ⟨xb, 0, none⟩)) := by rw [ha, putT_other _ _ _ _ (by decide), putAll_low A 129 10 l (by omega) (by decide)]; exact s10
        refine wp_value (w' := w') (v := .pointer (some ⟨xb, 2, none⟩)) (by simp [execOp, ev, go_sem]) ?_
        exact ⟨_, vt, AX, vX, rX, by rw [ha]; exact putT_put A 129 8 11 l _ _ (by omega) (by omega) (by decide), by rw [List.length_set]; exact hlen, set_known hlen (by decide) hl, fun h => hvt (h.resolve_left (by decide)), hX, hBx, hOx, hRo, hV0.imp_left .inr, hR0.imp_left .inr, fun h => hV1 (h.resolve_left (by decide)), fun h => hR1 (h.resolve_left (by decide))⟩
      | 9, ho =>
        cases Option.some.inj ho
        refine ⟨rfl, ?_⟩
        have ev : a.tmps[137]? = some (.pointer (some ⟨xb, 2, none⟩)) := known_atT ha hsz hlen hl 8 (by decide) (hd ⟨8, .data⟩ (by simp) rfl)
        obtain ⟨_, _, hc0, hc1, hc2, _⟩ := act_cells hBx.blk
        refine wp_value (w' := w') (v := .agg #[.int .i64 m.o.cls, .slice m.sa m.sn m.sc, .slice m.ba m.bn m.bc]) (by simp [execOp, ev, go_sem, hc0, hc1, hc2]) ?_
        exact ⟨_, vt, AX, vX, rX, by rw [ha]; exact putT_put A 129 9 11 l _ _ (by omega) (by omega) (by decide), by rw [List.length_set]; exact hlen, set_known hlen (by decide) hl, fun h => hvt (h.resolve_left (by decide)), hX, hBx, hOx, hRo, hV0.imp_left .inr, hR0.imp_left .inr, fun h => hV1 (h.resolve_left (by decide)), fun h => hR1 (h.resolve_left (by decide))⟩
      | 10, ho =>
        cases Option.some.inj ho
        refine ⟨rfl, ?_⟩
        have ev : a.tmps[134]? = some (.pointer (some ⟨rb, 0, none⟩)) := known_atT ha hsz hlen hl 5 (by decide) (hd ⟨5, .data⟩ (by simp) rfl)
        have ev' : a.tmps[136]? = some (.int .i64 m.oop) := known_atT ha hsz hlen hl 7 (by decide) (hd ⟨7, .data⟩ (by simp) rfl)
        have ev'' : a.tmps[138]? = some (.agg #[.int .i64 m.o.cls, .slice m.sa m.sn m.sc, .slice m.ba m.bn m.bc]) := known_atT ha hsz hlen hl 9 (by decide) (hd ⟨9, .data⟩ (by simp) rfl)
        have eR := hR0.resolve_left hn
        rw [eR] at hX
        have cP := hx_dput hX ask m.oop hin.oop (hin.obj.below hX.bel) hs hb
        rw [hpd.out] at cP
        refine wp_enter (f := 17) (args := #[.pointer (some ⟨rb, 0, none⟩), .int .i64 m.oop, .agg #[.int .i64 m.o.cls, .slice m.sa m.sn m.sc, .slice m.ba m.bn m.bc]]) (by simp [execOp, ev, ev', ev'', go_sem]) ?_
        refine (cP).mono ?_
        rintro e w6 ⟨rfl, A7, hx7, nx7⟩
        refine ⟨_, rfl, ?_⟩
        exact ⟨_, vt, A7, vX, (dputV r u m.oop ⟨m.o.cls, m.o.vs, m.o.bs⟩), by rw [ha]; exact putT_put A 129 10 11 l _ _ (by omega) (by omega) (by decide), by rw [List.length_set]; exact hlen, set_known hlen (by decide) hl, fun h => hvt (h.resolve_left (by decide)), hx7, hBx.step nx7, hOx.step nx7, hRo.step nx7, hV0.imp_left .inr, .inl (.inl rfl), fun h => hV1 (h.resolve_left (by decide)), fun _ => rfl⟩
      | 11, ho =>
        cases Option.some.inj ho
        refine ⟨rfl, ?_⟩
        have ev : a.tmps[133]? = some (.int .i64 pe) := known_atT ha hsz hlen hl 4 (by decide) (hd ⟨4, .data⟩ (by simp) rfl)
        have ev' : a.tmps[139]? = some (.int .i64 pe) := known_atT ha hsz hlen hl 10 (by decide) (hd ⟨10, .data⟩ (by simp) rfl)
        refine wp_value (w' := w') (v := .bool true) (by simp [execOp, ev, ev', go_sem]) ?_
        exact ⟨_, vt, AX, vX, rX, by rw [ha]; exact putT_put A 129 11 11 l _ _ (by omega) (by omega) (by decide), by rw [List.length_set]; exact hlen, set_known hlen (by decide) hl, fun h => hvt (h.resolve_left (by decide)), hX, hBx, hOx, hRo, hV0.imp_left .inr, hR0.imp_left .inr, fun h => hV1 (h.resolve_left (by decide)), fun h => hR1 (h.resolve_left (by decide))⟩
      | 12, ho =>
        cases Option.some.inj ho
        refine ⟨rfl, ?_⟩
        have ev : a.tmps[140]? = some (.bool true) := known_atT ha hsz hlen hl 11 (by decide) (hd ⟨11, .data⟩ (by simp) rfl)
        refine wp_value (w' := w') (v := .bool true) (by simp [execOp, ev, go_sem]) ?_
        exact ⟨_, vt, AX, vX, rX, by rw [ha]; exact putT_put A 129 12 11 l _ _ (by omega) (by omega) (by decide), by rw [List.length_set]; exact hlen, set_known hlen (by decide) hl, fun h => hvt (h.resolve_left (by decide)), hX, hBx, hOx, hRo, hV0.imp_left .inr, hR0.imp_left .inr, fun h => hV1 (h.resolve_left (by decide)), fun h => hR1 (h.resolve_left (by decide))⟩
      | 13, ho =>
        cases Option.some.inj ho
        refine ⟨wanted_of (k := 141) rfl rfl rfl (known_atT ha hsz hlen hl 12 (by decide) (hd ⟨12, .guard⟩ (by simp) rfl)), ?_⟩
        have ev : a.tmps[20]? = some (.pointer (some ⟨b20, 0, none⟩)) := by rw [ha, putT_other _ _ _ _ (by decide), putAll_low A 129 20 l (by omega) (by decide)]; exact s20
        obtain ⟨hc0, hc1, hc2, _⟩ := obj_cells hOx.blk
        refine wp_value (w' := w') (v := .agg #[.int .i64 m.o.cls, .slice sa sn sc, .slice ba bn bc]) (by simp [execOp, ev, go_sem, hc0, hc1, hc2]) ?_
        exact ⟨_, vt, AX, vX, rX, by rw [ha]; exact putT_put A 129 13 11 l _ _ (by omega) (by omega) (by decide), by rw [List.length_set]; exact hlen, set_known hlen (by decide) hl, fun h => hvt (h.resolve_left (by decide)), hX, hBx, hOx, hRo, hV0.imp_left .inr, hR0.imp_left .inr, fun h => hV1 (h.resolve_left (by decide)), fun h => hR1 (h.resolve_left (by decide))⟩
      | 14, ho =>
        cases Option.some.inj ho
        refine ⟨wanted_of (k := 141) rfl rfl rfl (known_atT ha hsz hlen hl 12 (by decide) (hd ⟨12, .guard⟩ (by simp) rfl)), ?_⟩
        have ev : a.tmps[10]? = some (.pointer (some ⟨xb, 0, none⟩)) := by rw [ha, putT_other _ _ _ _ (by decide), putAll_low A 129 10 l (by omega) (by decide)]; exact s10
        refine wp_value (w' := w') (v := .pointer (some ⟨xb, 2, none⟩)) (by simp [execOp, ev, go_sem]) ?_
        exact ⟨_, vt, AX, vX, rX, by rw [ha]; exact putT_put A 129 14 11 l _ _ (by omega) (by omega) (by decide), by rw [List.length_set]; exact hlen, set_known hlen (by decide) hl, fun h => hvt (h.resolve_left (by decide)), hX, hBx, hOx, hRo, hV0.imp_left .inr, hR0.imp_left .inr, fun h => hV1 (h.resolve_left (by decide)), fun h => hR1 (h.resolve_left (by decide))⟩
      | 15, ho =>
        cases Option.some.inj ho
        refine ⟨wanted_of (k := 141) rfl rfl rfl (known_atT ha hsz hlen hl 12 (by decide) (hd ⟨12, .guard⟩ (by simp) rfl)), ?_⟩
        have ev : a.tmps[143]? = some (.pointer (some ⟨xb, 2, none⟩)) := known_atT ha hsz hlen hl 14 (by decide) (hd ⟨14, .data⟩ (by simp) rfl)
        obtain ⟨_, _, hc0, hc1, hc2, _⟩ := act_cells hBx.blk
        refine wp_value (w' := w') (v := .agg #[.int .i64 m.o.cls, .slice m.sa m.sn m.sc, .slice m.ba m.bn m.bc]) (by simp [execOp, ev, go_sem, hc0, hc1, hc2]) ?_
        exact ⟨_, vt, AX, vX, rX, by rw [ha]; exact putT_put A 129 15 11 l _ _ (by omega) (by omega) (by decide), by rw [List.length_set]; exact hlen, set_known hlen (by decide) hl, fun h => hvt (h.resolve_left (by decide)), hX, hBx, hOx, hRo, hV0.imp_left .inr, hR0.imp_left .inr, fun h => hV1 (h.resolve_left (by decide)), fun h => hR1 (h.resolve_left (by decide))⟩
      | 16, ho =>
        cases Option.some.inj ho
        refine ⟨wanted_of (k := 141) rfl rfl rfl (known_atT ha hsz hlen hl 12 (by decide) (hd ⟨12, .guard⟩ (by simp) rfl)), ?_⟩
        have ev : a.tmps[142]? = some (.agg #[.int .i64 m.o.cls, .slice sa sn sc, .slice ba bn bc]) := known_atT ha hsz hlen hl 13 (by decide) (hd ⟨13, .data⟩ (by simp) rfl)
        have ev' : a.tmps[144]? = some (.agg #[.int .i64 m.o.cls, .slice m.sa m.sn m.sc, .slice m.ba m.bn m.bc]) := known_atT ha hsz hlen hl 15 (by decide) (hd ⟨15, .data⟩ (by simp) rfl)
        refine wp_enter (f := 9) (args := #[.agg #[.int .i64 m.o.cls, .slice sa sn sc, .slice ba bn bc], .agg #[.int .i64 m.o.cls, .slice m.sa m.sn m.sc, .slice m.ba m.bn m.bc]]) (by simp [execOp, ev, ev', go_sem]) ?_
        refine (rsame_eq (hRo.isO hin.obj.cls) (hin.obj.below hX.bel)).mono ?_
        rintro e w6 ⟨rfl, HB⟩
        refine ⟨_, rfl, ?_⟩
        exact ⟨_, vt, AX, vX, rX, by rw [ha]; exact putT_put A 129 16 11 l _ _ (by omega) (by omega) (by decide), by rw [List.length_set]; exact hlen, set_known hlen (by decide) hl, fun h => hvt (h.resolve_left (by decide)), hX.below HB, hBx.below HB, hOx.below HB, hRo.below HB, hV0.imp_left .inr, hR0.imp_left .inr, fun h => hV1 (h.resolve_left (by decide)), fun h => hR1 (h.resolve_left (by decide))⟩
      | 17, ho =>
        cases Option.some.inj ho
        refine ⟨rfl, ?_⟩
        have ev : a.tmps[141]? = some (.bool true) := known_atT ha hsz hlen hl 12 (by decide) (hd ⟨12, .data⟩ (by simp) rfl)
        have ev' : a.tmps[145]? = some (.bool true) := known_atT ha hsz hlen hl 16 (by decide) (hd ⟨16, .data⟩ (by simp) rfl)
        refine wp_value (w' := w') (v := .bool true) (by simp [execOp, ev, ev', go_sem]) ?_
        exact ⟨_, vt, AX, vX, rX, by rw [ha]; exact putT_put A 129 17 11 l _ _ (by omega) (by omega) (by decide), by rw [List.length_set]; exact hlen, set_known hlen (by decide) hl, fun h => hvt (h.resolve_left (by decide)), hX, hBx, hOx, hRo, hV0.imp_left .inr, hR0.imp_left .inr, fun h => hV1 (h.resolve_left (by decide)), fun h => hR1 (h.resolve_left (by decide))⟩
      | 18, ho =>
        cases Option.some.inj ho
        refine ⟨rfl, ?_⟩
        have ev : a.tmps[146]? = some (.bool true) := known_atT ha hsz hlen hl 17 (by decide) (hd ⟨17, .data⟩ (by simp) rfl)
        refine wp_value (w' := w') (v := .bool true) (by simp [execOp, ev, go_sem]) ?_
        exact ⟨l, (.bool true), AX, vX, rX, by rw [ha]; exact putT_again _ _ _ _, hlen, fun j hj h => hl j hj (h.resolve_left (by omega)), fun _ => rfl, hX, hBx, hOx, hRo, hV0.imp_left .inr, hR0.imp_left .inr, fun h => hV1 (h.resolve_left (by decide)), fun h => hR1 (h.resolve_left (by decide))⟩
      | i + 19, ho => simp at ho
    case done =>
      rintro D a w' ⟨l, vt, AX, vX, rX, ha, hlen, hl, hvt, hX, hBx, hOx, hRo, hV0, hR0, hV1, hR1⟩ hall
      obtain rfl := hvt (hall 18 (by decide))
      obtain ⟨v0, v1, v2, v3, v4, v5, v6, v7, v8, v9, v10, v11, v12, v13, v14, v15, v16, v17, rfl⟩ := putV31_list hlen
      obtain rfl := hV1 (hall 4 (by decide))
      obtain rfl := hR1 (hall 10 (by decide))
      clear hall hl hlen hsz s7 s8 s10 s20 hV0 hR0 hV1 hR1 hvt st hx2 bx2 E8 ro2
      subst hA
      have hfr : a = _ := ha
      rw [hfr]
      clear hfr ha
      simp only [putAll, Act.put, List.setIfInBounds_toArray, List.set_cons_zero, List.set_cons_succ, List.take_succ_cons, List.take_zero, List.drop_succ_cons, List.drop_zero, List.cons_append, List.nil_append, List.length_cons, List.length_nil]
      obtain ⟨y0, y1, y2, _⟩ := obj_cells hOx.blk
      go_wp2_with fail
      refine (spoil_any hRo.v hRo.b).mono ?_
      rintro e w12 ⟨rfl, F12⟩
      have fin : AftP w tb ub rb xb m j (.pointer (some ⟨b, 0, none⟩)) (.bool true) w12 := ⟨AX, t, u, b, _, _, rfl, rfl, hRo.fin hX F12, zr2.out, hBx.fr F12 (hRo.not_act hBx)⟩
      clear F12 hRo hX hBx y0 y1 y2 hOx
      go_wp2
      go_meet
      case rel => exact fin
  · go_wp2_with fail
    refine (rcopy_shape (hin.obj.below hxA.bel) hs hb).mono ?_
    rintro e w7 ⟨sa, sn, sc, ba, bn, bc, rfl, oV, oB, B7⟩
    have ro := Ro.new hxA oV oB
    have hx1 := hxA.below B7
    have bx1 := bxA.below B7
    have B8 : Below w7.heap.size w7 (w7.alloc (objB m.o.cls (.slice sa sn sc) (.slice ba bn bc))) := box_below
    have E8 : Bx A (w7.alloc (objB m.o.cls (.slice sa sn sc) (.slice ba bn bc))) w7.heap.size (objB m.o.cls (.slice sa sn sc) (.slice ba bn bc)) := ⟨new1 _ _, fun q => by have := hx1.lt q; omega⟩
    have hx2 := hx1.below B8
    have ro2 := ro.below B8
    have bx2 := bx1.below B8
    clear z0 z2 z3 z4 hxA bxA oV oB B7 ro hx1 bx1 B8
    obtain ⟨y0, y1, y2, _⟩ := obj_cells E8.blk
    clear z1 y0 y1 y2
    unfold objB at E8 hx2 ro2 bx2
    go_upto_region 31 with fail
    generalize w7.alloc (.cells #[.int .i64 m.o.cls, .slice sa sn sc, .slice ba bn bc] 35) = w8 at *
    obtain ⟨b20, hb20⟩ : ∃ q, q = w7.heap.size := ⟨_, rfl⟩
    rw [← hb20] at E8 ⊢
    clear hb20
    replace E8 : Bx A w8 b20 (objB m.o.cls (.slice sa sn sc) (.slice ba bn bc)) := E8
    refine abstract_act fun A hA => ?_
    have hsz : A.tmps.size = 287 := by rw [hA]; rfl
    have st : A.tmps[11]? = some (.bool true) := by rw [hA]; rfl
    have s7 : A.tmps[7]? = some (.pointer (some ⟨b, 0, none⟩)) := by rw [hA]; rfl
    have s8 : A.tmps[8]? = some (.pointer (some ⟨rb, 0, none⟩)) := by rw [hA]; rfl
    have s10 : A.tmps[10]? = some (.pointer (some ⟨xb, 0, none⟩)) := by rw [hA]; rfl
    have s20 : A.tmps[20]? = some (.pointer (some ⟨b20, 0, none⟩)) := by rw [hA]; rfl
    refine wp_region_inv2' (fun A D a w' => ∃ (l : List Value) (vt : Value) (AX : Nat → Prop) (vX : Vw) (rX : Dv), a = (putAll A 129 l).put (some 11) vt ∧ l.length = 18 ∧ (∀ j, j < 18 → D j → l[j]? = some (putV31 b rb xb m.oop m.o.cls pe sa ba m.sa m.ba sn sc bn bc m.sn m.sc m.bn m.bc j)) ∧ (D 18 → vt = .bool true) ∧ (Hx w AX tb t ub u b vX rb rX w') ∧ (Bx AX w' xb (actB m)) ∧ (Bx AX w' b20 (objB m.o.cls (.slice sa sn sc) (.slice ba bn bc))) ∧ (Ro w AX w' sa sn sc ba bn bc m.o.vs m.o.bs) ∧ (D 4 ∨ vX = v) ∧ (D 10 ∨ rX = r) ∧ (D 4 → vX = putV v t m.oop ⟨m.o.cls, m.o.vs, m.o.bs⟩) ∧ (D 10 → rX = dputV r u m.oop ⟨m.o.cls, m.o.vs, m.o.bs⟩)) (by kernel_rfl) (by kernel_rfl) ?mono ?start ?step ?done
    case mono =>
      rintro D D' a w' hD ⟨l, vt, AX, vX, rX, ha, hlen, hl, hvt, hX, hBx, hOx, hRo, hV0, hR0, hV1, hR1⟩
      exact ⟨l, vt, AX, vX, rX, ha, hlen, fun j hj h => hl j hj ((hD j).2 h), fun h => hvt ((hD 18).2 h), hX, hBx, hOx, hRo, hV0.imp_left (hD 4).1, hR0.imp_left (hD 10).1, fun h => hV1 ((hD 4).2 h), fun h => hR1 ((hD 10).2 h)⟩
    case start => exact ⟨_, _, _, v, r, putT_start A 129 18 11 _ (by omega) (by decide) st, (putAll_start A 129 18 (by omega)).2, fun _ _ h => h.elim, fun h => h.elim, hx2.below ((Below.refl _ _).drew), bx2.below ((Below.refl _ _).drew), E8.below ((Below.refl _ _).drew), ro2.below ((Below.refl _ _).drew), .inr (rfl), .inr (rfl), fun h => h.elim, fun h => h.elim⟩
    case step =>
      clear hA
      intro i o ho D a w' hI hn hcl hd
      obtain ⟨l, vt, AX, vX, rX, ha, hlen, hl, hvt, hX, hBx, hOx, hRo, hV0, hR0, hV1, hR1⟩ := hI
      match i, ho with
      | 0, ho =>
        cases Option.some.inj ho
        refine ⟨rfl, ?_⟩
        have ev : a.tmps[7]? = some (.pointer (some ⟨b, 0, none⟩)) := by rw [ha, putT_other _ _ _ _ (by decide), putAll_low A 129 7 l (by omega) (by decide)]; exact s7
        refine wp_value (w' := w') (v := .pointer (some ⟨b, 0, none⟩)) (by simp [execOp, ev, go_sem]) ?_
        exact ⟨_, vt, AX, vX, rX, by rw [ha]; exact putT_put A 129 0 11 l _ _ (by omega) (by omega) (by decide), by rw [List.length_set]; exact hlen, set_known hlen (by decide) hl, fun h => hvt (h.resolve_left (by decide)), hX, hBx, hOx, hRo, hV0.imp_left .inr, hR0.imp_left .inr, fun h => hV1 (h.resolve_left (by decide)), fun h => hR1 (h.resolve_left (by decide))⟩
      | 1, ho =>
        cases Option.some.inj ho
        refine ⟨rfl, ?_⟩
        have ev : a.tmps[10]? = some (.pointer (some ⟨xb, 0, none⟩)) := by rw [ha, putT_other _ _ _ _ (by decide), putAll_low A 129 10 l (by omega) (by decide)]; exact s10
        refine wp_value (w' := w') (v := .pointer (some ⟨xb, 1, none⟩)) (by simp [execOp, ev, go_sem]) ?_
        exact ⟨_, vt, AX, vX, rX, by rw [ha]; exact putT_put A 129 1 11 l _ _ (by omega) (by omega) (by decide), by rw [List.length_set]; exact hlen, set_known hlen (by decide) hl, fun h => hvt (h.resolve_left (by decide)), hX, hBx, hOx, hRo, hV0.imp_left .inr, hR0.imp_left .inr, fun h => hV1 (h.resolve_left (by decide)), fun h => hR1 (h.resolve_left (by decide))⟩
      | 2, ho =>
        cases Option.some.inj ho
        refine ⟨rfl, ?_⟩
        have ev : a.tmps[130]? = some (.pointer (some ⟨xb, 1, none⟩)) := known_atT ha hsz hlen hl 1 (by decide) (hd ⟨1, .data⟩ (by simp) rfl)
        have hc := (act_cells hBx.blk).2.1
        refine wp_value (w' := w') (v := .int .i64 m.oop) (by simp [execOp, ev, go_sem, hc]) ?_
        exact ⟨_, vt, AX, vX, rX, by rw [ha]; exact putT_put A 129 2 11 l _ _ (by omega) (by omega) (by decide), by rw [List.length_set]; exact hlen, set_known hlen (by decide) hl, fun h => hvt (h.resolve_left (by decide)), hX, hBx, hOx, hRo, hV0.imp_left .inr, hR0.imp_left .inr, fun h => hV1 (h.resolve_left (by decide)), fun h => hR1 (h.resolve_left (by decide))⟩
      | 3, ho =>
        cases Option.some.inj ho
        refine ⟨rfl, ?_⟩
        have ev : a.tmps[20]? = some (.pointer (some ⟨b20, 0, none⟩)) := by rw [ha, putT_other _ _ _ _ (by decide), putAll_low A 129 20 l (by omega) (by decide)]; exact s20
        obtain ⟨hc0, hc1, hc2, _⟩ := obj_cells hOx.blk
        refine wp_value (w' := w') (v := .agg #[.int .i64 m.o.cls, .slice sa sn sc, .slice ba bn bc]) (by simp [execOp, ev, go_sem, hc0, hc1, hc2]) ?_
        exact ⟨_, vt, AX, vX, rX, by rw [ha]; exact putT_put A 129 3 11 l _ _ (by omega) (by omega) (by decide), by rw [List.length_set]; exact hlen, set_known hlen (by decide) hl, fun h => hvt (h.resolve_left (by decide)), hX, hBx, hOx, hRo, hV0.imp_left .inr, hR0.imp_left .inr, fun h => hV1 (h.resolve_left (by decide)), fun h => hR1 (h.resolve_left (by decide))⟩
      | 4, ho =>
        cases Option.some.inj ho
        refine ⟨rfl, ?_⟩
        have ev : a.tmps[129]? = some (.pointer (some ⟨b, 0, none⟩)) := known_atT ha hsz hlen hl 0 (by decide) (hd ⟨0, .data⟩ (by simp) rfl)
        have ev' : a.tmps[131]? = some (.int .i64 m.oop) := known_atT ha hsz hlen hl 2 (by decide) (hd ⟨2, .data⟩ (by simp) rfl)
        have ev'' : a.tmps[132]? = some (.agg #[.int .i64 m.o.cls, .slice sa sn sc, .slice ba bn bc]) := known_atT ha hsz hlen hl 3 (by decide) (hd ⟨3, .data⟩ (by simp) rfl)
        have eV := hV0.resolve_left hn
        rw [eV] at hX
        have cP := hx_put hX m.oop (hRo.obX hin.obj.cls hX.inb)
        rw [hpe.out] at cP
        refine wp_enter (f := 16) (args := #[.pointer (some ⟨b, 0, none⟩), .int .i64 m.oop, .agg #[.int .i64 m.o.cls, .slice sa sn sc, .slice ba bn bc]]) (by simp [execOp, ev, ev', ev'', go_sem]) ?_
        refine (cP).mono ?_
        rintro e w6 ⟨rfl, A7, hx7, nx7⟩
        refine ⟨_, rfl, ?_⟩
        exact ⟨_, vt, A7, (putV v t m.oop ⟨m.o.cls, m.o.vs, m.o.bs⟩), rX, by rw [ha]; exact putT_put A 129 4 11 l _ _ (by omega) (by omega) (by decide), by rw [List.length_set]; exact hlen, set_known hlen (by decide) hl, fun h => hvt (h.resolve_left (by decide)), hx7, hBx.step nx7, hOx.step nx7, hRo.step nx7, .inl (.inl rfl), hR0.imp_left .inr, fun _ => rfl, fun h => hR1 (h.resolve_left (by decide))⟩
      | 5, ho =>
        cases Option.some.inj ho
        refine ⟨rfl, ?_⟩
        have ev : a.tmps[8]? = some (.pointer (some ⟨rb, 0, none⟩)) := by rw [ha, putT_other _ _ _ _ (by decide), putAll_low A 129 8 l (by omega) (by decide)]; exact s8
        refine wp_value (w' := w') (v := .pointer (some ⟨rb, 0, none⟩)) (by simp [execOp, ev, go_sem]) ?_
        exact ⟨_, vt, AX, vX, rX, by rw [ha]; exact putT_put A 129 5 11 l _ _ (by omega) (by omega) (by decide), by rw [List.length_set]; exact hlen, set_known hlen (by decide) hl, fun h => hvt (h.resolve_left (by decide)), hX, hBx, hOx, hRo, hV0.imp_left .inr, hR0.imp_left .inr, fun h => hV1 (h.resolve_left (by decide)), fun h => hR1 (h.resolve_left (by decide))⟩
      | 6, ho =>
        cases Option.some.inj ho
        refine ⟨rfl, ?_⟩
        have ev : a.tmps[10]? = some (.pointer (some ⟨xb, 0, none⟩)) := by rw [ha, putT_other _ _ _ _ (by decide), putAll_low A 129 10 l (by omega) (by decide)]; exact s10
        refine wp_value (w' := w') (v := .pointer (some ⟨xb, 1, none⟩)) (by simp [execOp, ev, go_sem]) ?_
        exact ⟨_, vt, AX, vX, rX, by rw [ha]; exact putT_put A 129 6 11 l _ _ (by omega) (by omega) (by decide), by rw [List.length_set]; exact hlen, set_known hlen (by decide) hl, fun h => hvt (h.resolve_left (by decide)), hX, hBx, hOx, hRo, hV0.imp_left .inr, hR0.imp_left .inr, fun h => hV1 (h.resolve_left (by decide)), fun h => hR1 (h.resolve_left (by decide))⟩
      | 7, ho =>
        cases Option.some.inj ho
        refine ⟨rfl, ?_⟩
        have ev : a.tmps[135]? = some (.pointer (some ⟨xb, 1, none⟩)) := known_atT ha hsz hlen hl 6 (by decide) (hd ⟨6, .data⟩ (by simp) rfl)
        have hc := (act_cells hBx.blk).2.1
        refine wp_value (w' := w') (v := .int .i64 m.oop) (by simp [execOp, ev, go_sem, hc]) ?_
        exact ⟨_, vt, AX, vX, rX, by rw [ha]; exact putT_put A 129 7 11 l _ _ (by omega) (by omega) (by decide), by rw [List.length_set]; exact hlen, set_known hlen (by decide) hl, fun h => hvt (h.resolve_left (by decide)), hX, hBx, hOx, hRo, hV0.imp_left .inr, hR0.imp_left .inr, fun h => hV1 (h.resolve_left (by decide)), fun h => hR1 (h.resolve_left (by decide))⟩
      | 8, ho =>
        cases Option.some.inj ho
        refine ⟨rfl, ?_⟩
        have ev : a.tmps[10]? = some (.pointer (some ⟨xb, 0, none⟩)) := by rw [ha, putT_other _ _ _ _ (by decide), putAll_low A 129 10 l (by omega) (by decide)]; exact s10
        refine wp_value (w' := w') (v := .pointer (some ⟨xb, 2, none⟩)) (by simp [execOp, ev, go_sem]) ?_
        exact ⟨_, vt, AX, vX, rX, by rw [ha]; exact putT_put A 129 8 11 l _ _ (by omega) (by omega) (by decide), by rw [List.length_set]; exact hlen, set_known hlen (by decide) hl, fun h => hvt (h.resolve_left (by decide)), hX, hBx, hOx, hRo, hV0.imp_left .inr, hR0.imp_left .inr, fun h => hV1 (h.resolve_left (by decide)), fun h => hR1 (h.resolve_left (by decide))⟩
      | 9, ho =>
        cases Option.some.inj ho
        refine ⟨rfl, ?_⟩
        have ev : a.tmps[137]? = some (.pointer (some ⟨xb, 2, none⟩)) := known_atT ha hsz hlen hl 8 (by decide) (hd ⟨8, .data⟩ (by simp) rfl)
        obtain ⟨_, _, hc0, hc1, hc2, _⟩ := act_cells hBx.blk
        refine wp_value (w' := w') (v := .agg #[.int .i64 m.o.cls, .slice m.sa m.sn m.sc, .slice m.ba m.bn m.bc]) (by simp [execOp, ev, go_sem, hc0, hc1, hc2]) ?_
        exact ⟨_, vt, AX, vX, rX, by rw [ha]; exact putT_put A 129 9 11 l _ _ (by omega) (by omega) (by decide), by rw [List.length_set]; exact hlen, set_known hlen (by decide) hl, fun h => hvt (h.resolve_left (by decide)), hX, hBx, hOx, hRo, hV0.imp_left .inr, hR0.imp_left .inr, fun h => hV1 (h.resolve_left (by decide)), fun h => hR1 (h.resolve_left (by decide))⟩
      | 10, ho =>
        cases Option.some.inj ho
        refine ⟨rfl, ?_⟩
        have ev : a.tmps[134]? = some (.pointer (some ⟨rb, 0, none⟩)) := known_atT ha hsz hlen hl 5 (by decide) (hd ⟨5, .data⟩ (by simp) rfl)
        have ev' : a.tmps[136]? = some (.int .i64 m.oop) := known_atT ha hsz hlen hl 7 (by decide) (hd ⟨7, .data⟩ (by simp) rfl)
        have ev'' : a.tmps[138]? = some (.agg #[.int .i64 m.o.cls, .slice m.sa m.sn m.sc, .slice m.ba m.bn m.bc]) := known_atT ha hsz hlen hl 9 (by decide) (hd ⟨9, .data⟩ (by simp) rfl)
        have eR := hR0.resolve_left hn
        rw [eR] at hX
        have cP := hx_dput hX ask m.oop hin.oop (hin.obj.below hX.bel) hs hb
        rw [hpd.out] at cP
        refine wp_enter (f := 17) (args := #[.pointer (some ⟨rb, 0, none⟩), .int .i64 m.oop, .agg #[.int .i64 m.o.cls, .slice m.sa m.sn m.sc, .slice m.ba m.bn m.bc]]) (by simp [execOp, ev, ev', ev'', go_sem]) ?_
        refine (cP).mono ?_
        rintro e w6 ⟨rfl, A7, hx7, nx7⟩
        refine ⟨_, rfl, ?_⟩
        exact ⟨_, vt, A7, vX, (dputV r u m.oop ⟨m.o.cls, m.o.vs, m.o.bs⟩), by rw [ha]; exact putT_put A 129 10 11 l _ _ (by omega) (by omega) (by decide), by rw [List.length_set]; exact hlen, set_known hlen (by decide) hl, fun h => hvt (h.resolve_left (by decide)), hx7, hBx.step nx7, hOx.step nx7, hRo.step nx7, hV0.imp_left .inr, .inl (.inl rfl), fun h => hV1 (h.resolve_left (by decide)), fun _ => rfl⟩
      | 11, ho =>
        cases Option.some.inj ho
        refine ⟨rfl, ?_⟩
        have ev : a.tmps[133]? = some (.int .i64 pe) := known_atT ha hsz hlen hl 4 (by decide) (hd ⟨4, .data⟩ (by simp) rfl)
        have ev' : a.tmps[139]? = some (.int .i64 pe) := known_atT ha hsz hlen hl 10 (by decide) (hd ⟨10, .data⟩ (by simp) rfl)
        refine wp_value (w' := w') (v := .bool true) (by simp [execOp, ev, ev', go_sem]) ?_
        exact ⟨_, vt, AX, vX, rX, by rw [ha]; exact putT_put A 129 11 11 l _ _ (by omega) (by omega) (by decide), by rw [List.length_set]; exact hlen, set_known hlen (by decide) hl, fun h => hvt (h.resolve_left (by decide)), hX, hBx, hOx, hRo, hV0.imp_left .inr, hR0.imp_left .inr, fun h => hV1 (h.resolve_left (by decide)), fun h => hR1 (h.resolve_left (by decide))⟩
      | 12, ho =>
        cases Option.some.inj ho
        refine ⟨rfl, ?_⟩
        have ev : a.tmps[140]? = some (.bool true) := known_atT ha hsz hlen hl 11 (by decide) (hd ⟨11, .data⟩ (by simp) rfl)
        refine wp_value (w' := w') (v := .bool true) (by simp [execOp, ev, go_sem]) ?_
        exact ⟨_, vt, AX, vX, rX, by rw [ha]; exact putT_put A 129 12 11 l _ _ (by omega) (by omega) (by decide), by rw [List.length_set]; exact hlen, set_known hlen (by decide) hl, fun h => hvt (h.resolve_left (by decide)), hX, hBx, hOx, hRo, hV0.imp_left .inr, hR0.imp_left .inr, fun h => hV1 (h.resolve_left (by decide)), fun h => hR1 (h.resolve_left (by decide))⟩
      | 13, ho =>
        cases Option.some.inj ho
        refine ⟨wanted_of (k := 141) rfl rfl rfl (known_atT ha hsz hlen hl 12 (by decide) (hd ⟨12, .guard⟩ (by simp) rfl)), ?_⟩
        have ev : a.tmps[20]? = some (.pointer (some ⟨b20, 0, none⟩)) := by rw [ha, putT_other _ _ _ _ (by decide), putAll_low A 129 20 l (by omega) (by decide)]; exact s20
        obtain ⟨hc0, hc1, hc2, _⟩ := obj_cells hOx.blk
        refine wp_value (w' := w') (v := .agg #[.int .i64 m.o.cls, .slice sa sn sc, .slice ba bn bc]) (by simp [execOp, ev, go_sem, hc0, hc1, hc2]) ?_
        exact ⟨_, vt, AX, vX, rX, by rw [ha]; exact putT_put A 129 13 11 l _ _ (by omega) (by omega) (by decide), by rw [List.length_set]; exact hlen, set_known hlen (by decide) hl, fun h => hvt (h.resolve_left (by decide)), hX, hBx, hOx, hRo, hV0.imp_left .inr, hR0.imp_left .inr, fun h => hV1 (h.resolve_left (by decide)), fun h => hR1 (h.resolve_left (by decide))⟩
      | 14, ho =>
        cases Option.some.inj ho
        refine ⟨wanted_of (k := 141) rfl rfl rfl (known_atT ha hsz hlen hl 12 (by decide) (hd ⟨12, .guard⟩ (by simp) rfl)), ?_⟩
        have ev : a.tmps[10]? = some (.pointer (some ⟨xb, 0, none⟩)) := by rw [ha, putT_other _ _ _ _ (by decide), putAll_low A 129 10 l (by omega) (by decide)]; exact s10
        refine wp_value (w' := w') (v := .pointer (some ⟨xb, 2, none⟩)) (by simp [execOp, ev, go_sem]) ?_
        exact ⟨_, vt, AX, vX, rX, by rw [ha]; exact putT_put A 129 14 11 l _ _ (by omega) (by omega) (by decide), by rw [List.length_set]; exact hlen, set_known hlen (by decide) hl, fun h => hvt (h.resolve_left (by decide)), hX, hBx, hOx, hRo, hV0.imp_left .inr, hR0.imp_left .inr, fun h => hV1 (h.resolve_left (by decide)), fun h => hR1 (h.resolve_left (by decide))⟩
      | 15, ho =>
        cases Option.some.inj ho
        refine ⟨wanted_of (k := 141) rfl rfl rfl (known_atT ha hsz hlen hl 12 (by decide) (hd ⟨12, .guard⟩ (by simp) rfl)), ?_⟩
        have ev : a.tmps[143]? = some (.pointer (some ⟨xb, 2, none⟩)) := known_atT ha hsz hlen hl 14 (by decide) (hd ⟨14, .data⟩ (by simp) rfl)
        obtain ⟨_, _, hc0, hc1, hc2, _⟩ := act_cells hBx.blk
        refine wp_value (w' := w') (v := .agg #[.int .i64 m.o.cls, .slice m.sa m.sn m.sc, .slice m.ba m.bn m.bc]) (by simp [execOp, ev, go_sem, hc0, hc1, hc2]) ?_
        exact ⟨_, vt, AX, vX, rX, by rw [ha]; exact putT_put A 129 15 11 l _ _ (by omega) (by omega) (by decide), by rw [List.length_set]; exact hlen, set_known hlen (by decide) hl, fun h => hvt (h.resolve_left (by decide)), hX, hBx, hOx, hRo, hV0.imp_left .inr, hR0.imp_left .inr, fun h => hV1 (h.resolve_left (by decide)), fun h => hR1 (h.resolve_left (by decide))⟩
      | 16, ho =>
        cases Option.some.inj ho
        refine ⟨wanted_of (k := 141) rfl rfl rfl (known_atT ha hsz hlen hl 12 (by decide) (hd ⟨12, .guard⟩ (by simp) rfl)), ?_⟩
        have ev : a.tmps[142]? = some (.agg #[.int .i64 m.o.cls, .slice sa sn sc, .slice ba bn bc]) := known_atT ha hsz hlen hl 13 (by decide) (hd ⟨13, .data⟩ (by simp) rfl)
        have ev' : a.tmps[144]? = some (.agg #[.int .i64 m.o.cls, .slice m.sa m.sn m.sc, .slice m.ba m.bn m.bc]) := known_atT ha hsz hlen hl 15 (by decide) (hd ⟨15, .data⟩ (by simp) rfl)
        refine wp_enter (f := 9) (args := #[.agg #[.int .i64 m.o.cls, .slice sa sn sc, .slice ba bn bc], .agg #[.int .i64 m.o.cls, .slice m.sa m.sn m.sc, .slice m.ba m.bn m.bc]]) (by simp [execOp, ev, ev', go_sem]) ?_
        refine (rsame_eq (hRo.isO hin.obj.cls) (hin.obj.below hX.bel)).mono ?_
        rintro e w6 ⟨rfl, HB⟩
        refine ⟨_, rfl, ?_⟩
        exact ⟨_, vt, AX, vX, rX, by rw [ha]; exact putT_put A 129 16 11 l _ _ (by omega) (by omega) (by decide), by rw [List.length_set]; exact hlen, set_known hlen (by decide) hl, fun h => hvt (h.resolve_left (by decide)), hX.below HB, hBx.below HB, hOx.below HB, hRo.below HB, hV0.imp_left .inr, hR0.imp_left .inr, fun h => hV1 (h.resolve_left (by decide)), fun h => hR1 (h.resolve_left (by decide))⟩
      | 17, ho =>
        cases Option.some.inj ho
        refine ⟨rfl, ?_⟩
        have ev : a.tmps[141]? = some (.bool true) := known_atT ha hsz hlen hl 12 (by decide) (hd ⟨12, .data⟩ (by simp) rfl)
        have ev' : a.tmps[145]? = some (.bool true) := known_atT ha hsz hlen hl 16 (by decide) (hd ⟨16, .data⟩ (by simp) rfl)
        refine wp_value (w' := w') (v := .bool true) (by simp [execOp, ev, ev', go_sem]) ?_
        exact ⟨_, vt, AX, vX, rX, by rw [ha]; exact putT_put A 129 17 11 l _ _ (by omega) (by omega) (by decide), by rw [List.length_set]; exact hlen, set_known hlen (by decide) hl, fun h => hvt (h.resolve_left (by decide)), hX, hBx, hOx, hRo, hV0.imp_left .inr, hR0.imp_left .inr, fun h => hV1 (h.resolve_left (by decide)), fun h => hR1 (h.resolve_left (by decide))⟩
      | 18, ho =>
        cases Option.some.inj ho
        refine ⟨rfl, ?_⟩
        have ev : a.tmps[146]? = some (.bool true) := known_atT ha hsz hlen hl 17 (by decide) (hd ⟨17, .data⟩ (by simp) rfl)
        refine wp_value (w' := w') (v := .bool true) (by simp [execOp, ev, go_sem]) ?_
        exact ⟨l, (.bool true), AX, vX, rX, by rw [ha]; exact putT_again _ _ _ _, hlen, fun j hj h => hl j hj (h.resolve_left (by omega)), fun _ => rfl, hX, hBx, hOx, hRo, hV0.imp_left .inr, hR0.imp_left .inr, fun h => hV1 (h.resolve_left (by decide)), fun h => hR1 (h.resolve_left (by decide))⟩
      | i + 19, ho => simp at ho
    case done =>
      rintro D a w' ⟨l, vt, AX, vX, rX, ha, hlen, hl, hvt, hX, hBx, hOx, hRo, hV0, hR0, hV1, hR1⟩ hall
      obtain rfl := hvt (hall 18 (by decide))
      obtain ⟨v0, v1, v2, v3, v4, v5, v6, v7, v8, v9, v10, v11, v12, v13, v14, v15, v16, v17, rfl⟩ := putV31_list hlen
      obtain rfl := hV1 (hall 4 (by decide))
      obtain rfl := hR1 (hall 10 (by decide))
      clear hall hl hlen hsz s7 s8 s10 s20 hV0 hR0 hV1 hR1 hvt st hx2 bx2 E8 ro2
      subst hA
      have hfr : a = _ := ha
      rw [hfr]
      clear hfr ha
      simp only [putAll, Act.put, List.setIfInBounds_toArray, List.set_cons_zero, List.set_cons_succ, List.take_succ_cons, List.take_zero, List.drop_succ_cons, List.drop_zero, List.cons_append, List.nil_append, List.length_cons, List.length_nil]
      obtain ⟨y0, y1, y2, _⟩ := obj_cells hOx.blk
      go_wp2_with fail
      refine (spoil_any hRo.v hRo.b).mono ?_
      rintro e w12 ⟨rfl, F12⟩
      have fin : AftP w tb ub rb xb m j (.pointer (some ⟨b, 0, none⟩)) (.bool true) w12 := ⟨AX, t, u, b, _, _, rfl, rfl, hRo.fin hX F12, zr2.out, hBx.fr F12 (hRo.not_act hBx)⟩
      clear F12 hRo hX hBx y0 y1 y2 hOx
      go_wp2
      go_meet
      case rel => exact fin
  · go_wp2_with fail
    refine (rcopy_shape (hin.obj.below hxA.bel) hs hb).mono ?_
    rintro e w7 ⟨sa, sn, sc, ba, bn, bc, rfl, oV, oB, B7⟩
    have ro := Ro.new hxA oV oB
    have hx1 := hxA.below B7
    have bx1 := bxA.below B7
    have B8 : Below w7.heap.size w7 (w7.alloc (objB m.o.cls (.slice sa sn sc) (.slice ba bn bc))) := box_below
    have E8 : Bx A (w7.alloc (objB m.o.cls (.slice sa sn sc) (.slice ba bn bc))) w7.heap.size (objB m.o.cls (.slice sa sn sc) (.slice ba bn bc)) := ⟨new1 _ _, fun q => by have := hx1.lt q; omega⟩
    have hx2 := hx1.below B8
    have ro2 := ro.below B8
    have bx2 := bx1.below B8
    clear z0 z2 z3 z4 hxA bxA oV oB B7 ro hx1 bx1 B8
    obtain ⟨y0, y1, y2, _⟩ := obj_cells E8.blk
    clear z1 y0 y1 y2
    unfold objB at E8 hx2 ro2 bx2
    go_upto_region 31 with fail
    generalize w7.alloc (.cells #[.int .i64 m.o.cls, .slice sa sn sc, .slice ba bn bc] 35) = w8 at *
    obtain ⟨b20, hb20⟩ : ∃ q, q = w7.heap.size := ⟨_, rfl⟩
    rw [← hb20] at E8 ⊢
    clear hb20
    replace E8 : Bx A w8 b20 (objB m.o.cls (.slice sa sn sc) (.slice ba bn bc)) := E8
    refine abstract_act fun A hA => ?_
    have hsz : A.tmps.size = 287 := by rw [hA]; rfl
    have st : A.tmps[11]? = some (.bool true) := by rw [hA]; rfl
    have s7 : A.tmps[7]? = some (.pointer (some ⟨b, 0, none⟩)) := by rw [hA]; rfl
    have s8 : A.tmps[8]? = some (.pointer (some ⟨rb, 0, none⟩)) := by rw [hA]; rfl
    have s10 : A.tmps[10]? = some (.pointer (some ⟨xb, 0, none⟩)) := by rw [hA]; rfl
    have s20 : A.tmps[20]? = some (.pointer (some ⟨b20, 0, none⟩)) := by rw [hA]; rfl
    refine wp_region_inv2' (fun A D a w' => ∃ (l : List Value) (vt : Value) (AX : Nat → Prop) (vX : Vw) (rX : Dv), a = (putAll A 129 l).put (some 11) vt ∧ l.length = 18 ∧ (∀ j, j < 18 → D j → l[j]? = some (putV31 b rb xb m.oop m.o.cls pe sa ba m.sa m.ba sn sc bn bc m.sn m.sc m.bn m.bc j)) ∧ (D 18 → vt = .bool true) ∧ (Hx w AX tb t ub u b vX rb rX w') ∧ (Bx AX w' xb (actB m)) ∧ (Bx AX w' b20 (objB m.o.cls (.slice sa sn sc) (.slice ba bn bc))) ∧ (Ro w AX w' sa sn sc ba bn bc m.o.vs m.o.bs) ∧ (D 4 ∨ vX = v) ∧ (D 10 ∨ rX = r) ∧ (D 4 → vX = putV v t m.oop ⟨m.o.cls, m.o.vs, m.o.bs⟩) ∧ (D 10 → rX = dputV r u m.oop ⟨m.o.cls, m.o.vs, m.o.bs⟩)) (by kernel_rfl) (by kernel_rfl) ?mono ?start ?step ?done
    case mono =>
      rintro D D' a w' hD ⟨l, vt, AX, vX, rX, ha, hlen, hl, hvt, hX, hBx, hOx, hRo, hV0, hR0, hV1, hR1⟩
      exact ⟨l, vt, AX, vX, rX, ha, hlen, fun j hj h => hl j hj ((hD j).2 h), fun h => hvt ((hD 18).2 h), hX, hBx, hOx, hRo, hV0.imp_left (hD 4).1, hR0.imp_left (hD 10).1, fun h => hV1 ((hD 4).2 h), fun h => hR1 ((hD 10).2 h)⟩
    case start => exact ⟨_, _, _, v, r, putT_start A 129 18 11 _ (by omega) (by decide) st, (putAll_start A 129 18 (by omega)).2, fun _ _ h => h.elim, fun h => h.elim, hx2.below ((Below.refl _ _).drew), bx2.below ((Below.refl _ _).drew), E8.below ((Below.refl _ _).drew), ro2.below ((Below.refl _ _).drew), .inr (rfl), .inr (rfl), fun h => h.elim, fun h => h.elim⟩
    case step =>
      clear hA
      intro i o ho D a w' hI hn hcl hd
      obtain ⟨l, vt, AX, vX, rX, ha, hlen, hl, hvt, hX, hBx, hOx, hRo, hV0, hR0, hV1, hR1⟩ := hI
      match i, ho with
      | 0, ho =>
        cases Option.some.inj ho
        refine ⟨rfl, ?_⟩
        have ev : a.tmps[7]? = some (.pointer (some ⟨b, 0, none⟩)) := by rw [ha, putT_other _ _ _ _ (by decide), putAll_low A 129 7 l (by omega) (by decide)]; exact s7
        refine wp_value (w' := w') (v := .pointer (some ⟨b, 0, none⟩)) (by simp [execOp, ev, go_sem]) ?_
        exact ⟨_, vt, AX, vX, rX, by rw [ha]; exact putT_put A 129 0 11 l _ _ (by omega) (by omega) (by decide), by rw [List.length_set]; exact hlen, set_known hlen (by decide) hl, fun h => hvt (h.resolve_left (by decide)), hX, hBx, hOx, hRo, hV0.imp_left .inr, hR0.imp_left .inr, fun h => hV1 (h.resolve_left (by decide)), fun h => hR1 (h.resolve_left (by decide))⟩
      | 1, ho =>
        cases Option.some.inj ho
        refine ⟨rfl, ?_⟩
        have ev : a.tmps[10]? = some (.pointer (some ⟨xb, 0, none⟩)) := by rw [ha, putT_other _ _ _ _ (by decide), putAll_low A 129 10 l (by omega) (by decide)]; exact s10
        refine wp_value (w' := w') (v := .pointer (some ⟨xb, 1, none⟩)) (by simp [execOp, ev, go_sem]) ?_
        exact ⟨_, vt, AX, vX, rX, by rw [ha]; exact putT_put A 129 1 11 l _ _ (by omega) (by omega) (by decide), by rw [List.length_set]; exact hlen, set_known hlen (by decide) hl, fun h => hvt (h.resolve_left (by decide)), hX, hBx, hOx, hRo, hV0.imp_left .inr, hR0.imp_left .inr, fun h => hV1 (h.resolve_left (by decide)), fun h => hR1 (h.resolve_left (by decide))⟩
      | 2, ho =>
        cases Option.some.inj ho
        refine ⟨rfl, ?_⟩
        have ev : a.tmps[130]? = some (.pointer (some ⟨xb, 1, none⟩)) := known_atT ha hsz hlen hl 1 (by decide) (hd ⟨1, .data⟩ (by simp) rfl)
        have hc := (act_cells hBx.blk).2.1
        refine wp_value (w' := w') (v := .int .i64 m.oop) (by simp [execOp, ev, go_sem, hc]) ?_
        exact ⟨_, vt, AX, vX, rX, by rw [ha]; exact putT_put A 129 2 11 l _ _ (by omega) (by omega) (by decide), by rw [List.length_set]; exact hlen, set_known hlen (by decide) hl, fun h => hvt (h.resolve_left (by decide)), hX, hBx, hOx, hRo, hV0.imp_left .inr, hR0.imp_left .inr, fun h => hV1 (h.resolve_left (by decide)), fun h => hR1 (h.resolve_left (by decide))⟩
      | 3, ho =>
        cases Option.some.inj ho
        refine ⟨rfl, ?_⟩
        have ev : a.tmps[20]? = some (.pointer (some ⟨b20, 0, none⟩)) := by rw [ha, putT_other _ _ _ _ (by decide), putAll_low A 129 20 l (by omega) (by decide)]; exact s20
        obtain ⟨hc0, hc1, hc2, _⟩ := obj_cells hOx.blk
        refine wp_value (w' := w') (v := .agg #[.int .i64 m.o.cls, .slice sa sn sc, .slice ba bn bc]) (by simp [execOp, ev, go_sem, hc0, hc1, hc2]) ?_
        exact ⟨_, vt, AX, vX, rX, by rw [ha]; exact putT_put A 129 3 11 l _ _ (by omega) (by omega) (by decide), by rw [List.length_set]; exact hlen, set_known hlen (by decide) hl, fun h => hvt (h.resolve_left (by decide)), hX, hBx, hOx, hRo, hV0.imp_left .inr, hR0.imp_left .inr, fun h => hV1 (h.resolve_left (by decide)), fun h => hR1 (h.resolve_left (by decide))⟩
      | 4, ho =>
        cases Option.some.inj ho
        refine ⟨rfl, ?_⟩
        have ev : a.tmps[129]? = some (.pointer (some ⟨b, 0, none⟩)) := known_atT ha hsz hlen hl 0 (by decide) (hd ⟨0, .data⟩ (by simp) rfl)
        have ev' : a.tmps[131]? = some (.int .i64 m.oop) := known_atT ha hsz hlen hl 2 (by decide) (hd ⟨2, .data⟩ (by simp) rfl)
        have ev'' : a.tmps[132]? = some (.agg #[.int .i64 m.o.cls, .slice sa sn sc, .slice ba bn bc]) := known_atT ha hsz hlen hl 3 (by decide) (hd ⟨3, .data⟩ (by simp) rfl)
        have eV := hV0.resolve_left hn
        rw [eV] at hX
        have cP := hx_put hX m.oop (hRo.obX hin.obj.cls hX.inb)
        rw [hpe.out] at cP
        refine wp_enter (f := 16) (args := #[.pointer (some ⟨b, 0, none⟩), .int .i64 m.oop, .agg #[.int .i64 m.o.cls, .slice sa sn sc, .slice ba bn bc]]) (by simp [execOp, ev, ev', ev'', go_sem]) ?_
        refine (cP).mono ?_
        rintro e w6 ⟨rfl, A7, hx7, nx7⟩
        refine ⟨_, rfl, ?_⟩
        exact ⟨_, vt, A7, (putV v t m.oop ⟨m.o.cls, m.o.vs, m.o.bs⟩), rX, by rw [ha]; exact putT_put A 129 4 11 l _ _ (by omega) (by omega) (by decide), by rw [List.length_set]; exact hlen, set_known hlen (by decide) hl, fun h => hvt (h.resolve_left (by decide)), hx7, hBx.step nx7, hOx.step nx7, hRo.step nx7, .inl (.inl rfl), hR0.imp_left .inr, fun _ => rfl, fun h => hR1 (h.resolve_left (by decide))⟩
      | 5, ho =>
        cases Option.some.inj ho
        refine ⟨rfl, ?_⟩
        have ev : a.tmps[8]? = some (.pointer (some ⟨rb, 0, none⟩)) := by rw [ha, putT_other _ _ _ _ (by decide), putAll_low A 129 8 l (by omega) (by decide)]; exact s8
        refine wp_value (w' := w') (v := .pointer (some ⟨rb, 0, none⟩)) (by simp [execOp, ev, go_sem]) ?_
        exact ⟨_, vt, AX, vX, rX, by rw [ha]; exact putT_put A 129 5 11 l _ _ (by omega) (by omega) (by decide), by rw [List.length_set]; exact hlen, set_known hlen (by decide) hl, fun h => hvt (h.resolve_left (by decide)), hX, hBx, hOx, hRo, hV0.imp_left .inr, hR0.imp_left .inr, fun h => hV1 (h.resolve_left (by decide)), fun h => hR1 (h.resolve_left (by decide))⟩
      | 6, ho =>
        cases Option.some.inj ho
        refine ⟨rfl, ?_⟩
        have ev : a.tmps[10]? = some (.pointer (some ⟨xb, 0, none⟩)) := by rw [ha, putT_other _ _ _ _ (by decide), putAll_low A 129 10 l (by omega) (by decide)]; exact s10
        refine wp_value (w' := w') (v := .pointer (some ⟨xb, 1, none⟩)) (by simp [execOp, ev, go_sem]) ?_
        exact ⟨_, vt, AX, vX, rX, by rw [ha]; exact putT_put A 129 6 11 l _ _ (by omega) (by omega) (by decide), by rw [List.length_set]; exact hlen, set_known hlen (by decide) hl, fun h => hvt (h.resolve_left (by decide)), hX, hBx, hOx, hRo, hV0.imp_left .inr, hR0.imp_left .inr, fun h => hV1 (h.resolve_left (by decide)), fun h => hR1 (h.resolve_left (by decide))⟩
      | 7, ho =>
        cases Option.some.inj ho
        refine ⟨rfl, ?_⟩
        have ev : a.tmps[135]? = some (.pointer (some ⟨xb, 1, none⟩)) := known_atT ha hsz hlen hl 6 (by decide) (hd ⟨6, .data⟩ (by simp) rfl)
        have hc := (act_cells hBx.blk).2.1
        refine wp_value (w' := w') (v := .int .i64 m.oop) (by simp [execOp, ev, go_sem, hc]) ?_
        exact ⟨_, vt, AX, vX, rX, by rw [ha]; exact putT_put A 129 7 11 l _ _ (by omega) (by omega) (by decide), by rw [List.length_set]; exact hlen, set_known hlen (by decide) hl, fun h => hvt (h.resolve_left (by decide)), hX, hBx, hOx, hRo, hV0.imp_left .inr, hR0.imp_left .inr, fun h => hV1 (h.resolve_left (by decide)), fun h => hR1 (h.resolve_left (by decide))⟩
      | 8, ho =>
        cases Option.some.inj ho
        refine ⟨rfl, ?_⟩
        have ev : a.tmps[10]? = some (.pointer (some ⟨xb, 0, none⟩)) := by rw [ha, putT_other _ _ _ _ (by decide), putAll_low A 129 10 l (by omega) (by decide)]; exact s10
        refine wp_value (w' := w') (v := .pointer (some ⟨xb, 2, none⟩)) (by simp [execOp, ev, go_sem]) ?_
        exact ⟨_, vt, AX, vX, rX, by rw [ha]; exact putT_put A 129 8 11 l _ _ (by omega) (by omega) (by decide), by rw [List.length_set]; exact hlen, set_known hlen (by decide) hl, fun h => hvt (h.resolve_left (by decide)), hX, hBx, hOx, hRo, hV0.imp_left .inr, hR0.imp_left .inr, fun h => hV1 (h.resolve_left (by decide)), fun h => hR1 (h.resolve_left (by decide))⟩
      | 9, ho =>
        cases Option.some.inj ho
        refine ⟨rfl, ?_⟩
        have ev : a.tmps[137]? = some (.pointer (some ⟨xb, 2, none⟩)) := known_atT ha hsz hlen hl 8 (by decide) (hd ⟨8, .data⟩ (by simp) rfl)
        obtain ⟨_, _, hc0, hc1, hc2, _⟩ := act_cells hBx.blk
        refine wp_value (w' := w') (v := .agg #[.int .i64 m.o.cls, .slice m.sa m.sn m.sc, .slice m.ba m.bn m.bc]) (by simp [execOp, ev, go_sem, hc0, hc1, hc2]) ?_
        exact ⟨_, vt, AX, vX, rX, by rw [ha]; exact putT_put A 129 9 11 l _ _ (by omega) (by omega) (by decide), by rw [List.length_set]; exact hlen, set_known hlen (by decide) hl, fun h => hvt (h.resolve_left (by decide)), hX, hBx, hOx, hRo, hV0.imp_left .inr, hR0.imp_left .inr, fun h => hV1 (h.resolve_left (by decide)), fun h => hR1 (h.resolve_left (by decide))⟩
      | 10, ho =>
        cases Option.some.inj ho
        refine ⟨rfl, ?_⟩
        have ev : a.tmps[134]? = some (.pointer (some ⟨rb, 0, none⟩)) := known_atT ha hsz hlen hl 5 (by decide) (hd ⟨5, .data⟩ (by simp) rfl)
        have ev' : a.tmps[136]? = some (.int .i64 m.oop) := known_atT ha hsz hlen hl 7 (by decide) (hd ⟨7, .data⟩ (by simp) rfl)
        have ev'' : a.tmps[138]? = some (.agg #[.int .i64 m.o.cls, .slice m.sa m.sn m.sc, .slice m.ba m.bn m.bc]) := known_atT ha hsz hlen hl 9 (by decide) (hd ⟨9, .data⟩ (by simp) rfl)
        have eR := hR0.resolve_left hn
        rw [eR] at hX
        have cP := hx_dput hX ask m.oop hin.oop (hin.obj.below hX.bel) hs hb
        rw [hpd.out] at cP
        refine wp_enter (f := 17) (args := #[.pointer (some ⟨rb, 0, none⟩), .int .i64 m.oop, .agg #[.int .i64 m.o.cls, .slice m.sa m.sn m.sc, .slice m.ba m.bn m.bc]]) (by simp [execOp, ev, ev', ev'', go_sem]) ?_
        refine (cP).mono ?_
        rintro e w6 ⟨rfl, A7, hx7, nx7⟩
        refine ⟨_, rfl, ?_⟩
        exact ⟨_, vt, A7, vX, (dputV r u m.oop ⟨m.o.cls, m.o.vs, m.o.bs⟩), by rw [ha]; exact putT_put A 129 10 11 l _ _ (by omega) (by omega) (by decide), by rw [List.length_set]; exact hlen, set_known hlen (by decide) hl, fun h => hvt (h.resolve_left (by decide)), hx7, hBx.step nx7, hOx.step nx7, hRo.step nx7, hV0.imp_left .inr, .inl (.inl rfl), fun h => hV1 (h.resolve_left (by decide)), fun _ => rfl⟩
      | 11, ho =>
        cases Option.some.inj ho
        refine ⟨rfl, ?_⟩
        have ev : a.tmps[133]? = some (.int .i64 pe) := known_atT ha hsz hlen hl 4 (by decide) (hd ⟨4, .data⟩ (by simp) rfl)
        have ev' : a.tmps[139]? = some (.int .i64 pe) := known_atT ha hsz hlen hl 10 (by decide) (hd ⟨10, .data⟩ (by simp) rfl)
        refine wp_value (w' := w') (v := .bool true) (by simp [execOp, ev, ev', go_sem]) ?_
        exact ⟨_, vt, AX, vX, rX, by rw [ha]; exact putT_put A 129 11 11 l _ _ (by omega) (by omega) (by decide), by rw [List.length_set]; exact hlen, set_known hlen (by decide) hl, fun h => hvt (h.resolve_left (by decide)), hX, hBx, hOx, hRo, hV0.imp_left .inr, hR0.imp_left .inr, fun h => hV1 (h.resolve_left (by decide)), fun h => hR1 (h.resolve_left (by decide))⟩
      | 12, ho =>
        cases Option.some.inj ho
        refine ⟨rfl, ?_⟩
        have ev : a.tmps[140]? = some (.bool true) := known_atT ha hsz hlen hl 11 (by decide) (hd ⟨11, .data⟩ (by simp) rfl)
        refine wp_value (w' := w') (v := .bool true) (by simp [execOp, ev, go_sem]) ?_
        exact ⟨_, vt, AX, vX, rX, by rw [ha]; exact putT_put A 129 12 11 l _ _ (by omega) (by omega) (by decide), by rw [List.length_set]; exact hlen, set_known hlen (by decide) hl, fun h => hvt (h.resolve_left (by decide)), hX, hBx, hOx, hRo, hV0.imp_left .inr, hR0.imp_left .inr, fun h => hV1 (h.resolve_left (by decide)), fun h => hR1 (h.resolve_left (by decide))⟩
      | 13, ho =>
        cases Option.some.inj ho
        refine ⟨wanted_of (k := 141) rfl rfl rfl (known_atT ha hsz hlen hl 12 (by decide) (hd ⟨12, .guard⟩ (by simp) rfl)), ?_⟩
        have ev : a.tmps[20]? = some (.pointer (some ⟨b20, 0, none⟩)) := by rw [ha, putT_other _ _ _ _ (by decide), putAll_low A 129 20 l (by omega) (by decide)]; exact s20
        obtain ⟨hc0, hc1, hc2, _⟩ := obj_cells hOx.blk
        refine wp_value (w' := w') (v := .agg #[.int .i64 m.o.cls, .slice sa sn sc, .slice ba bn bc]) (by simp [execOp, ev, go_sem, hc0, hc1, hc2]) ?_
        exact ⟨_, vt, AX, vX, rX, by rw [ha]; exact putT_put A 129 13 11 l _ _ (by omega) (by omega) (by decide), by rw [List.length_set]; exact hlen, set_known hlen (by decide) hl, fun h => hvt (h.resolve_left (by decide)), hX, hBx, hOx, hRo, hV0.imp_left .inr, hR0.imp_left .inr, fun h => hV1 (h.resolve_left (by decide)), fun h => hR1 (h.resolve_left (by decide))⟩
      | 14, ho =>
        cases Option.some.inj ho
        refine ⟨wanted_of (k := 141) rfl rfl rfl (known_atT ha hsz hlen hl 12 (by decide) (hd ⟨12, .guard⟩ (by simp) rfl)), ?_⟩
        have ev : a.tmps[10]? = some (.pointer (some ⟨xb, 0, none⟩)) := by rw [ha, putT_other _ _ _ _ (by decide), putAll_low A 129 10 l (by omega) (by decide)]; exact s10
        refine wp_value (w' := w') (v := .pointer (some ⟨xb, 2, none⟩)) (by simp [execOp, ev, go_sem]) ?_
        exact ⟨_, vt, AX, vX, rX, by rw [ha]; exact putT_put A 129 14 11 l _ _ (by omega) (by omega) (by decide), by rw [List.length_set]; exact hlen, set_known hlen (by decide) hl, fun h => hvt (h.resolve_left (by decide)), hX, hBx, hOx, hRo, hV0.imp_left .inr, hR0.imp_left .inr, fun h => hV1 (h.resolve_left (by decide)), fun h => hR1 (h.resolve_left (by decide))⟩
      | 15, ho =>
        cases Option.some.inj ho
        refine ⟨wanted_of (k := 141) rfl rfl rfl (known_atT ha hsz hlen hl 12 (by decide) (hd ⟨12, .guard⟩ (by simp) rfl)), ?_⟩
        have ev : a.tmps[143]? = some (.pointer (some ⟨xb, 2, none⟩)) := known_atT ha hsz hlen hl 14 (by decide) (hd ⟨14, .data⟩ (by simp) rfl)
        obtain ⟨_, _, hc0, hc1, hc2, _⟩ := act_cells hBx.blk
        refine wp_value (w' := w') (v := .agg #[.int .i64 m.o.cls, .slice m.sa m.sn m.sc, .slice m.ba m.bn m.bc]) (by simp [execOp, ev, go_sem, hc0, hc1, hc2]) ?_
        exact ⟨_, vt, AX, vX, rX, by rw [ha]; exact putT_put A 129 15 11 l _ _ (by omega) (by omega) (by decide), by rw [List.length_set]; exact hlen, set_known hlen (by decide) hl, fun h => hvt (h.resolve_left (by decide)), hX, hBx, hOx, hRo, hV0.imp_left .inr, hR0.imp_left .inr, fun h => hV1 (h.resolve_left (by decide)), fun h => hR1 (h.resolve_left (by decide))⟩
      | 16, ho =>
        cases Option.some.inj ho
        refine ⟨wanted_of (k := 141) rfl rfl rfl (known_atT ha hsz hlen hl 12 (by decide) (hd ⟨12, .guard⟩ (by simp) rfl)), ?_⟩
        have ev : a.tmps[142]? = some (.agg #[.int .i64 m.o.cls, .slice sa sn sc, .slice ba bn bc]) := known_atT ha hsz hlen hl 13 (by decide) (hd ⟨13, .data⟩ (by simp) rfl)
        have ev' : a.tmps[144]? = some (.agg #[.int .i64 m.o.cls, .slice m.sa m.sn m.sc, .slice m.ba m.bn m.bc]) := known_atT ha hsz hlen hl 15 (by decide) (hd ⟨15, .data⟩ (by simp) rfl)
        refine wp_enter (f := 9) (args := #[.agg #[.int .i64 m.o.cls, .slice sa sn sc, .slice ba bn bc], .agg #[.int .i64 m.o.cls, .slice m.sa m.sn m.sc, .slice m.ba m.bn m.bc]]) (by simp [execOp, ev, ev', go_sem]) ?_
        refine (rsame_eq (hRo.isO hin.obj.cls) (hin.obj.below hX.bel)).mono ?_
        rintro e w6 ⟨rfl, HB⟩
        refine ⟨_, rfl, ?_⟩
        exact ⟨_, vt, AX, vX, rX, by rw [ha]; exact putT_put A 129 16 11 l _ _ (by omega) (by omega) (by decide), by rw [List.length_set]; exact hlen, set_known hlen (by decide) hl, fun h => hvt (h.resolve_left (by decide)), hX.below HB, hBx.below HB, hOx.below HB, hRo.below HB, hV0.imp_left .inr, hR0.imp_left .inr, fun h => hV1 (h.resolve_left (by decide)), fun h => hR1 (h.resolve_left (by decide))⟩
      | 17, ho =>
        cases Option.some.inj ho
        refine ⟨rfl, ?_⟩
        have ev : a.tmps[141]? = some (.bool true) := known_atT ha hsz hlen hl 12 (by decide) (hd ⟨12, .data⟩ (by simp) rfl)
        have ev' : a.tmps[145]? = some (.bool true) := known_atT ha hsz hlen hl 16 (by decide) (hd ⟨16, .data⟩ (by simp) rfl)
        refine wp_value (w' := w') (v := .bool true) (by simp [execOp, ev, ev', go_sem]) ?_
        exact ⟨_, vt, AX, vX, rX, by rw [ha]; exact putT_put A 129 17 11 l _ _ (by omega) (by omega) (by decide), by rw [List.length_set]; exact hlen, set_known hlen (by decide) hl, fun h => hvt (h.resolve_left (by decide)), hX, hBx, hOx, hRo, hV0.imp_left .inr, hR0.imp_left .inr, fun h => hV1 (h.resolve_left (by decide)), fun h => hR1 (h.resolve_left (by decide))⟩
      | 18, ho =>
        cases Option.some.inj ho
        refine ⟨rfl, ?_⟩
        have ev : a.tmps[146]? = some (.bool true) := known_atT ha hsz hlen hl 17 (by decide) (hd ⟨17, .data⟩ (by simp) rfl)
        refine wp_value (w' := w') (v := .bool true) (by simp [execOp, ev, go_sem]) ?_
        exact ⟨l, (.bool true), AX, vX, rX, by rw [ha]; exact putT_again _ _ _ _, hlen, fun j hj h => hl j hj (h.resolve_left (by omega)), fun _ => rfl, hX, hBx, hOx, hRo, hV0.imp_left .inr, hR0.imp_left .inr, fun h => hV1 (h.resolve_left (by decide)), fun h => hR1 (h.resolve_left (by decide))⟩
      | i + 19, ho => simp at ho
    case done =>
      rintro D a w' ⟨l, vt, AX, vX, rX, ha, hlen, hl, hvt, hX, hBx, hOx, hRo, hV0, hR0, hV1, hR1⟩ hall
      obtain rfl := hvt (hall 18 (by decide))
      obtain ⟨v0, v1, v2, v3, v4, v5, v6, v7, v8, v9, v10, v11, v12, v13, v14, v15, v16, v17, rfl⟩ := putV31_list hlen
      obtain rfl := hV1 (hall 4 (by decide))
      obtain rfl := hR1 (hall 10 (by decide))
      clear hall hl hlen hsz s7 s8 s10 s20 hV0 hR0 hV1 hR1 hvt st hx2 bx2 E8 ro2
      subst hA
      have hfr : a = _ := ha
      rw [hfr]
      clear hfr ha
      simp only [putAll, Act.put, List.setIfInBounds_toArray, List.set_cons_zero, List.set_cons_succ, List.take_succ_cons, List.take_zero, List.drop_succ_cons, List.drop_zero, List.cons_append, List.nil_append, List.length_cons, List.length_nil]
      obtain ⟨y0, y1, y2, _⟩ := obj_cells hOx.blk
      go_wp2_with fail
      refine (spoil_any hRo.v hRo.b).mono ?_
      rintro e w12 ⟨rfl, F12⟩
      have fin : AftP w tb ub rb xb m j (.pointer (some ⟨b, 0, none⟩)) (.bool true) w12 := ⟨AX, t, u, b, _, _, rfl, rfl, hRo.fin hX F12, zr2.out, hBx.fr F12 (hRo.not_act hBx)⟩
      clear F12 hRo hX hBx y0 y1 y2 hOx
      go_wp2
      go_meet
      case rel => exact fin
end Go.Proofs.YteomolihandfnaaGreat
