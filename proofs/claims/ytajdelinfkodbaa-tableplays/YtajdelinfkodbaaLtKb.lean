/- The law TablePlays: an arm. -/
import Derived.Test.YtajdelinfkodbaaLtK
namespace Go.Proofs.Ytajdelinfkodbaa
open Go.RowKit
set_option maxRecDepth 100000
/-- What the operations yield. -/
def fgV27 (tb ub xb : Nat) (cc fe : Int) (j : Nat) : Value :=
  ([.pointer (some ⟨tb, 0, none⟩),
    .pointer (some ⟨xb, 3, none⟩),
    .int .i64 cc,
    .int .i64 fe,
    .pointer (some ⟨ub, 0, none⟩),
    .pointer (some ⟨xb, 3, none⟩),
    .int .i64 cc,
    .int .i64 fe,
    .bool false] : List Value).getD j undef
theorem fgV27_list {l : List Value} (hh : l.length = 9) : ∃ v0 v1 v2 v3 v4 v5 v6 v7 v8, l = [v0, v1, v2, v3, v4, v5, v6, v7, v8] := by
  obtain ⟨v0, t0, rfl, h0⟩ := cons_of hh
  obtain ⟨v1, t1, rfl, h1⟩ := cons_of h0
  obtain ⟨v2, t2, rfl, h2⟩ := cons_of h1
  obtain ⟨v3, t3, rfl, h3⟩ := cons_of h2
  obtain ⟨v4, t4, rfl, h4⟩ := cons_of h3
  obtain ⟨v5, t5, rfl, h5⟩ := cons_of h4
  obtain ⟨v6, t6, rfl, h6⟩ := cons_of h5
  obtain ⟨v7, t7, rfl, h7⟩ := cons_of h6
  obtain ⟨v8, t8, rfl, h8⟩ := cons_of h7
  obtain rfl := List.eq_nil_of_length_eq_zero h8
  exact ⟨_, _, _, _, _, _, _, _, _, rfl⟩
set_option maxHeartbeats 80000000 in
theorem armb : skelK.2.1 := by
  intro w an ac as_ x1 ub w2 x2 x3 u2 u6 u7 u8 u9 u10 u11 u12 u13 u14 u15 u16 x4 x5 x6 x7 x8 x9 x10 u28 x11 x12 x13 x14 x15 x16 x17 x18 x19 x20 x21 x22 x23 x24 x25 x26 x27 x28 x29 x30 x31 x32 x33 x34 x35 x36 x37 x38 x39 x40 x41 x42 x43 x44 x45 x46 x47 x48 x49 x50 x51 x52 x53 x54 x55 x56 x57 x58 x59 x60 x61 x62 x63 x64 x65 x66 x67 x68 x69 x70 x71 x72 x73 x74 x75 x76 x77 x78 x79 x80 x81 x82 x83 x84 x85 x86 x87 x88 x89 x90 x91 x92 x93 x94 x95 x96 x97 x98 x99 x100 x101 x102 x103 x104 x105 x106 x107 x108 x109 x110 x111 x112 x113 x114 x115 x116 x117 x118 x119 x120 x121 x122 x123 x124 x125 x126 x127 x128 x129 x130 x131 x132 x133 x134 x135 x136 x137 x138 x139 x140 x141 x142 x143 x144 x145 x146 x147 x148 x149 x150 x151 x152 x153 x154 x155 x156 x157 x158 x159 x160 x161 x162 x163 x164 x165 x166 x167 x168 x169 x170 x171 x172 x173 x174 x175 x176 x177 x178 x179 x180 x181 x182 x183 x184 x185 x186 x187 x188 x189 x190 x191 x192 x193 x194 x195 x196 x197 x198 x199 x200 x201 x202 x203 x204 x205 x206 x207 x208 x209 x210 x211 x212 x213 x214 x215 j hj1 hj2 A tb t u k hk wc u21 u22 u23 u24 u25 u26 u27 u29 u30 u31 u32 u33 u34 u35 u36 u37 u38 u39 u40 u41 u42 u43 u44 u45 u46 u47 u48 u49 u50 u51 u52 u53 u54 u55 u56 u57 u58 u59 u60 u61 u62 u63 u64 u65 u66 u67 u68 u69 u70 u71 u72 u73 u74 u75 u76 u77 u78 u79 u80 u81 u82 u83 u84 u85 u86 u87 u88 u89 u90 u91 u92 u93 u94 u95 u96 u97 u98 u99 u100 u101 u102 u103 u104 u105 u106 u107 u108 u109 u110 u111 u112 u113 u114 u115 u116 u117 u118 u119 u120 u121 u122 u123 u124 u125 u126 u127 u128 u129 u130 u131 u132 u133 u134 u135 u136 u137 u138 u139 u140 u141 u142 u143 u144 u145 u146 u147 u148 u149 u150 u151 u152 u153 u154 u155 u156 u157 u158 u159 u160 u161 u162 u163 u164 u165 u166 u167 u168 u169 u170 u171 u172 u173 u174 u175 u176 u177 u178 u179 u180 u181 u182 u183 u184 u185 u186 u187 u188 u189 u190 u191 u192 u193 u194 u195 u196 u197 u198 u199 u200 u201 u202 u203 u204 u205 u206 u207 u208 u209 u210 u211 u212 u213 u214 u215 u216 u217 u218 u219 u220 u221 u222 u223 u224 u225 u226 u227 u228 u229 u230 u231 u232 u233 hlt1 hlt2 ab ao m x216 hin x217 x218 x219 x220 wA hxA xb hxl bxA j30 kd z0 hkd x221 x222 x223 x224 kA kB
  rw [hkd.out]
  subst kB
  have hokw : Hid (OkW u) := hxA.rel.ok
  have hgd := hxA.hy.good
  obtain ⟨fe, hfe⟩ : ∃ q, Hid (forgetE t m.c = q) := ⟨_, rfl⟩
  have hfu : Hid (rforgetE u m.c = fe) := (hxA.rel.forE m.c).symm.trans hfe.out
  have hrel : Hid (RelP (forgetT t m.c) (rforgetT u m.c)) := hxA.rel.forget hgd.1 m.c
  clear hgd z0
  go_upto_region 27 with fail
  refine abstract_act fun A hA => ?_
  have hsz : A.tmps.size = 235 := by rw [hA]; rfl
  have s3 : A.tmps[3]? = some (.pointer (some ⟨tb, 0, none⟩)) := by rw [hA]; rfl
  have s4 : A.tmps[4]? = some (.pointer (some ⟨ub, 0, none⟩)) := by rw [hA]; rfl
  have s6 : A.tmps[6]? = some (.pointer (some ⟨xb, 0, none⟩)) := by rw [hA]; rfl
  refine wp_region_inv2' (fun A D a w' => ∃ (l : List Value) (AX : Nat → Prop) (tX : Tab) (uX : RTf), a = putAll A 91 l ∧ l.length = 9 ∧ (∀ j, j < 9 → D j → l[j]? = some (fgV27 tb ub xb m.c fe j)) ∧ (Hy w AX tb tX ub uX k w') ∧ (Bx AX w' xb (actC m m.c)) ∧ (D 3 ∨ tX = t) ∧ (D 7 ∨ uX = u) ∧ (D 3 → tX = forgetT t m.c) ∧ (D 7 → uX = rforgetT u m.c)) (by kernel_rfl) (by kernel_rfl) ?mono ?start ?step ?done
  case mono =>
    rintro D D' a w' hD ⟨l, AX, tX, uX, ha, hlen, hl, hX, hBx, hT0, hU0, hT1, hU1⟩
    exact ⟨l, AX, tX, uX, ha, hlen, fun j hj h => hl j hj ((hD j).2 h), hX, hBx, hT0.imp_left (hD 3).1, hU0.imp_left (hD 7).1, fun h => hT1 ((hD 3).2 h), fun h => hU1 ((hD 7).2 h)⟩
  case start => exact ⟨_, _, t, u, (putAll_start A 91 9 (by omega)).1, (putAll_start A 91 9 (by omega)).2, fun _ _ h => h.elim, hxA.hy.below ((Below.refl _ _).drew), bxA.below ((Below.refl _ _).drew), .inr (rfl), .inr (rfl), fun h => h.elim, fun h => h.elim⟩
  case step =>
    clear hA
    intro i o ho D a w' hI hn hcl hd
    obtain ⟨l, AX, tX, uX, ha, hlen, hl, hX, hBx, hT0, hU0, hT1, hU1⟩ := hI
    match i, ho with
    | 0, ho =>
      cases Option.some.inj ho
      refine ⟨rfl, ?_⟩
      have ev : a.tmps[3]? = some (.pointer (some ⟨tb, 0, none⟩)) := by rw [ha, putAll_low A 91 3 l (by omega) (by decide)]; exact s3
      refine wp_value (w' := w') (v := .pointer (some ⟨tb, 0, none⟩)) (by simp [execOp, ev, go_sem]) ?_
      exact ⟨_, AX, tX, uX, by rw [ha]; exact putAll_put A 91 0 l _ (by omega) (by omega), by rw [List.length_set]; exact hlen, set_known hlen (by decide) hl, hX, hBx, hT0.imp_left .inr, hU0.imp_left .inr, fun h => hT1 (h.resolve_left (by decide)), fun h => hU1 (h.resolve_left (by decide))⟩
    | 1, ho =>
      cases Option.some.inj ho
      refine ⟨rfl, ?_⟩
      have ev : a.tmps[6]? = some (.pointer (some ⟨xb, 0, none⟩)) := by rw [ha, putAll_low A 91 6 l (by omega) (by decide)]; exact s6
      refine wp_value (w' := w') (v := .pointer (some ⟨xb, 3, none⟩)) (by simp [execOp, ev, go_sem]) ?_
      exact ⟨_, AX, tX, uX, by rw [ha]; exact putAll_put A 91 1 l _ (by omega) (by omega), by rw [List.length_set]; exact hlen, set_known hlen (by decide) hl, hX, hBx, hT0.imp_left .inr, hU0.imp_left .inr, fun h => hT1 (h.resolve_left (by decide)), fun h => hU1 (h.resolve_left (by decide))⟩
    | 2, ho =>
      cases Option.some.inj ho
      refine ⟨rfl, ?_⟩
      have ev : a.tmps[92]? = some (.pointer (some ⟨xb, 3, none⟩)) := known_at ha hsz hlen hl 1 (by decide) (hd ⟨1, .data⟩ (by simp) rfl)
      have hc := (act_cells hBx.blk).2.2.2.1
      refine wp_value (w' := w') (v := .int .i64 m.c) (by simp [execOp, ev, go_sem, hc]) ?_
      exact ⟨_, AX, tX, uX, by rw [ha]; exact putAll_put A 91 2 l _ (by omega) (by omega), by rw [List.length_set]; exact hlen, set_known hlen (by decide) hl, hX, hBx, hT0.imp_left .inr, hU0.imp_left .inr, fun h => hT1 (h.resolve_left (by decide)), fun h => hU1 (h.resolve_left (by decide))⟩
    | 3, ho =>
      cases Option.some.inj ho
      refine ⟨rfl, ?_⟩
      have ev : a.tmps[91]? = some (.pointer (some ⟨tb, 0, none⟩)) := known_at ha hsz hlen hl 0 (by decide) (hd ⟨0, .data⟩ (by simp) rfl)
      have ev' : a.tmps[93]? = some (.int .i64 m.c) := known_at ha hsz hlen hl 2 (by decide) (hd ⟨2, .data⟩ (by simp) rfl)
      have eT := hT0.resolve_left hn
      rw [eT] at hX
      have cF := hy_forget hX m.c
      rw [hfe.out] at cF
      refine wp_enter (f := 16) (args := #[.pointer (some ⟨tb, 0, none⟩), .int .i64 m.c]) (by simp [execOp, ev, ev', go_sem]) ?_
      refine (cF).mono ?_
      rintro e w6 ⟨rfl, A7, hx7, nx7⟩
      refine ⟨_, rfl, ?_⟩
      exact ⟨_, A7, (forgetT t m.c), uX, by rw [ha]; exact putAll_put A 91 3 l _ (by omega) (by omega), by rw [List.length_set]; exact hlen, set_known hlen (by decide) hl, hx7, hBx.step nx7, .inl (.inl rfl), hU0.imp_left .inr, fun _ => rfl, fun h => hU1 (h.resolve_left (by decide))⟩
    | 4, ho =>
      cases Option.some.inj ho
      refine ⟨rfl, ?_⟩
      have ev : a.tmps[4]? = some (.pointer (some ⟨ub, 0, none⟩)) := by rw [ha, putAll_low A 91 4 l (by omega) (by decide)]; exact s4
      refine wp_value (w' := w') (v := .pointer (some ⟨ub, 0, none⟩)) (by simp [execOp, ev, go_sem]) ?_
      exact ⟨_, AX, tX, uX, by rw [ha]; exact putAll_put A 91 4 l _ (by omega) (by omega), by rw [List.length_set]; exact hlen, set_known hlen (by decide) hl, hX, hBx, hT0.imp_left .inr, hU0.imp_left .inr, fun h => hT1 (h.resolve_left (by decide)), fun h => hU1 (h.resolve_left (by decide))⟩
    | 5, ho =>
      cases Option.some.inj ho
      refine ⟨rfl, ?_⟩
      have ev : a.tmps[6]? = some (.pointer (some ⟨xb, 0, none⟩)) := by rw [ha, putAll_low A 91 6 l (by omega) (by decide)]; exact s6
      refine wp_value (w' := w') (v := .pointer (some ⟨xb, 3, none⟩)) (by simp [execOp, ev, go_sem]) ?_
      exact ⟨_, AX, tX, uX, by rw [ha]; exact putAll_put A 91 5 l _ (by omega) (by omega), by rw [List.length_set]; exact hlen, set_known hlen (by decide) hl, hX, hBx, hT0.imp_left .inr, hU0.imp_left .inr, fun h => hT1 (h.resolve_left (by decide)), fun h => hU1 (h.resolve_left (by decide))⟩
    | 6, ho =>
      cases Option.some.inj ho
      refine ⟨rfl, ?_⟩
      have ev : a.tmps[96]? = some (.pointer (some ⟨xb, 3, none⟩)) := known_at ha hsz hlen hl 5 (by decide) (hd ⟨5, .data⟩ (by simp) rfl)
      have hc := (act_cells hBx.blk).2.2.2.1
      refine wp_value (w' := w') (v := .int .i64 m.c) (by simp [execOp, ev, go_sem, hc]) ?_
      exact ⟨_, AX, tX, uX, by rw [ha]; exact putAll_put A 91 6 l _ (by omega) (by omega), by rw [List.length_set]; exact hlen, set_known hlen (by decide) hl, hX, hBx, hT0.imp_left .inr, hU0.imp_left .inr, fun h => hT1 (h.resolve_left (by decide)), fun h => hU1 (h.resolve_left (by decide))⟩
    | 7, ho =>
      cases Option.some.inj ho
      refine ⟨rfl, ?_⟩
      have ev : a.tmps[95]? = some (.pointer (some ⟨ub, 0, none⟩)) := known_at ha hsz hlen hl 4 (by decide) (hd ⟨4, .data⟩ (by simp) rfl)
      have ev' : a.tmps[97]? = some (.int .i64 m.c) := known_at ha hsz hlen hl 6 (by decide) (hd ⟨6, .data⟩ (by simp) rfl)
      have eU := hU0.resolve_left hn
      rw [eU] at hX
      have cF := hy_rforget hX hokw.out (by omega) m.c
      rw [hfu.out] at cF
      refine wp_enter (f := 17) (args := #[.pointer (some ⟨ub, 0, none⟩), .int .i64 m.c]) (by simp [execOp, ev, ev', go_sem]) ?_
      refine (cF).mono ?_
      rintro e w6 ⟨rfl, A7, hx7, nx7⟩
      refine ⟨_, rfl, ?_⟩
      exact ⟨_, A7, tX, (rforgetT u m.c), by rw [ha]; exact putAll_put A 91 7 l _ (by omega) (by omega), by rw [List.length_set]; exact hlen, set_known hlen (by decide) hl, hx7, hBx.step nx7, hT0.imp_left .inr, .inl (.inl rfl), fun h => hT1 (h.resolve_left (by decide)), fun _ => rfl⟩
    | 8, ho =>
      cases Option.some.inj ho
      refine ⟨rfl, ?_⟩
      have ev : a.tmps[94]? = some (.int .i64 fe) := known_at ha hsz hlen hl 3 (by decide) (hd ⟨3, .data⟩ (by simp) rfl)
      have ev' : a.tmps[98]? = some (.int .i64 fe) := known_at ha hsz hlen hl 7 (by decide) (hd ⟨7, .data⟩ (by simp) rfl)
      refine wp_value (w' := w') (v := .bool false) (by simp [execOp, ev, ev', go_sem]) ?_
      exact ⟨_, AX, tX, uX, by rw [ha]; exact putAll_put A 91 8 l _ (by omega) (by omega), by rw [List.length_set]; exact hlen, set_known hlen (by decide) hl, hX, hBx, hT0.imp_left .inr, hU0.imp_left .inr, fun h => hT1 (h.resolve_left (by decide)), fun h => hU1 (h.resolve_left (by decide))⟩
    | i + 9, ho => simp at ho
  case done =>
    rintro D a w' ⟨l, AX, tX, uX, ha, hlen, hl, hX, hBx, hT0, hU0, hT1, hU1⟩ hall
    obtain ⟨v0, v1, v2, v3, v4, v5, v6, v7, v8, rfl⟩ := fgV27_list hlen
    obtain rfl := hT1 (hall 3 (by decide))
    obtain rfl := hU1 (hall 7 (by decide))
    have e8 : some v8 = some (.bool false) := hl 8 (by decide) (hall 8 (by decide))
    obtain rfl := Option.some.inj e8
    have fin : AftP w ub xb m j (.pointer (some ⟨tb, 0, none⟩)) w' := ⟨AX, tb, _, _, k, _, rfl, hX.hx hrel.out, by omega, hBx⟩
    clear e8 hall hl hlen hsz s3 s4 s6 hT0 hU0 hT1 hU1 hxA bxA hX hBx
    subst hA
    have hfr : a = _ := ha
    rw [hfr]
    clear hfr ha
    simp only [putAll, List.take_succ_cons, List.take_zero, List.drop_succ_cons, List.drop_zero, List.cons_append, List.nil_append, List.length_cons, List.length_nil]
    go_wp2
    go_meet
    case rel => exact fin
end Go.Proofs.Ytajdelinfkodbaa
