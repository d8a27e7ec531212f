/- The law ViewPlays: an arm. -/
import Derived.Test.YteomolihandfnaaGreatLwK
import Derived.Test.YteomolihandfnaaGreatHsu
import Derived.Test.YteomolihandfnaaGreatLwS
namespace Go.Proofs.YteomolihandfnaaGreat
open Go.RowKit
set_option maxRecDepth 100000
set_option maxHeartbeats 80000000 in
theorem arma : skelK.1 := by
  intro w la ln lc ls an ac as_ x1 w2 tb ub u0 T w3 vb w4 rb A0 x2 x3 u4 u10 u11 u12 u13 u14 u15 u16 u17 u18 u19 u20 u21 u22 u23 u24 u25 u26 u27 u28 u29 u30 u31 x4 x5 x6 x7 x8 x9 x10 u50 x11 x12 x13 x14 x15 x16 x17 x18 x19 x20 x21 x22 x23 x24 x25 x26 x27 x28 x29 x30 x31 x32 x33 x34 x35 x36 x37 x38 x39 x40 x41 x42 x43 x44 x45 x46 x47 x48 x49 x50 x51 x52 x53 x54 x55 x56 x57 x58 x59 x60 x61 x62 x63 x64 x65 x66 x67 x68 x69 x70 x71 x72 x73 x74 x75 x76 x77 x78 x79 x80 x81 x82 x83 x84 x85 x86 x87 x88 x89 x90 x91 x92 x93 x94 x95 x96 x97 x98 x99 x100 x101 x102 x103 x104 x105 x106 x107 x108 x109 x110 x111 x112 x113 x114 x115 x116 x117 x118 x119 x120 x121 x122 x123 x124 x125 x126 x127 x128 x129 x130 x131 x132 x133 x134 x135 x136 x137 x138 x139 x140 x141 x142 x143 x144 x145 x146 x147 x148 x149 x150 x151 x152 x153 x154 x155 x156 x157 x158 x159 x160 x161 x162 x163 x164 x165 x166 x167 x168 x169 x170 x171 x172 x173 x174 x175 x176 x177 x178 x179 x180 x181 x182 x183 x184 x185 x186 x187 x188 x189 x190 x191 x192 x193 x194 x195 x196 x197 x198 x199 x200 x201 x202 x203 x204 x205 x206 x207 x208 x209 x210 x211 x212 x213 x214 x215 x216 x217 x218 x219 x220 x221 x222 x223 x224 x225 x226 x227 x228 x229 x230 x231 x232 x233 x234 x235 x236 x237 x238 x239 x240 x241 x242 x243 x244 x245 j hj1 hj2 A t u b v r zr wc u43 u44 u45 u46 u47 u48 u49 u51 u52 u53 u54 u55 u56 u57 u58 u59 u60 u61 u62 u63 u64 u65 u66 u67 u68 u69 u70 u71 u72 u73 u74 u75 u76 u77 u78 u79 u80 u81 u82 u83 u84 u85 u86 u87 u88 u89 u90 u91 u92 u93 u94 u95 u96 u97 u98 u99 u100 u101 u102 u103 u104 u105 u106 u107 u108 u109 u110 u111 u112 u113 u114 u115 u116 u117 u118 u119 u120 u121 u122 u123 u124 u125 u126 u127 u128 u129 u130 u131 u132 u133 u134 u135 u136 u137 u138 u139 u140 u141 u142 u143 u144 u145 u146 u147 u148 u149 u150 u151 u152 u153 u154 u155 u156 u157 u158 u159 u160 u161 u162 u163 u164 u165 u166 u167 u168 u169 u170 u171 u172 u173 u174 u175 u176 u177 u178 u179 u180 u181 u182 u183 u184 u185 u186 u187 u188 u189 u190 u191 u192 u193 u194 u195 u196 u197 u198 u199 u200 u201 u202 u203 u204 u205 u206 u207 u208 u209 u210 u211 u212 u213 u214 u215 u216 u217 u218 u219 u220 u221 u222 u223 u224 u225 u226 u227 u228 u229 u230 u231 u232 u233 u234 u235 u236 u237 u238 u239 u240 u241 u242 u243 u244 u245 u246 u247 u248 u249 u250 u251 u252 u253 u254 u255 u256 u257 u258 u259 u260 u261 u262 u263 u264 u265 u266 u267 u268 u269 u270 u271 u272 u273 u274 u275 u276 u277 u278 u279 u280 u281 u282 u283 u284 u285 hlt1 hlt2 ab ao m x246 hin x247 x248 x249 x250 wA hxA xb bxA j40 kd z0 hkd x251 x252 x253 x254 kA
  rw [hkd.out]
  have z1 := (act_cells bxA.blk).2.1
  have ask := zr.asks hxA (by omega)
  have hcl := hxA.cls m.oop
  have hpk := zr.pk m.oop
  obtain ⟨cx, hcx⟩ : ∃ q, Hid (clsR (peekR v t m.oop) = q) := ⟨_, rfl⟩
  obtain ⟨ex, hex⟩ : ∃ q, Hid (errR (peekR v t m.oop) = q) := ⟨_, rfl⟩
  obtain ⟨vx, hvx⟩ : ∃ q, Hid (vsR (peekR v t m.oop) = q) := ⟨_, rfl⟩
  obtain ⟨bx, hbx⟩ : ∃ q, Hid (bsR (peekR v t m.oop) = q) := ⟨_, rfl⟩
  replace hpk : Hid _ := hpk
  rw [hcx.out] at hcl
  rcases kA with rfl | rfl
  · go_wp2_with fail
    refine (hx_get hxA m.oop).mono ?_
    rintro e w7 ⟨sa, sn, sc, ba, bn, bc, A1, rfl, ro, hx1, nx1⟩
    rw [hvx.out, hbx.out] at ro
    rw [hcx.out, hex.out]
    have bx1 := bxA.step nx1
    have B8 : Below w7.heap.size w7 (w7.alloc (objB cx (.slice sa sn sc) (.slice ba bn bc))) := box_below
    have E8 : Bx A1 (w7.alloc (objB cx (.slice sa sn sc) (.slice ba bn bc))) w7.heap.size (objB cx (.slice sa sn sc) (.slice ba bn bc)) := ⟨new1 _ _, fun q => by have := hx1.lt q; omega⟩
    have hx2 := hx1.below B8
    have ro2 := ro.below B8
    have bx2 := bx1.below B8
    clear z1
    have z1 := (act_cells bx2.blk).2.1
    clear hxA bxA z0 ro hx1 bx1 nx1 B8
    unfold objB at E8 hx2 ro2 bx2 z1
    go_wp2_with fail
    generalize w7.alloc (.cells #[.int .i64 cx, .slice sa sn sc, .slice ba bn bc] 35) = w8 at *
    obtain ⟨b12, hb12⟩ : ∃ q, q = w7.heap.size := ⟨_, rfl⟩
    rw [← hb12] at E8 ⊢
    clear hb12
    replace E8 : Bx A1 w8 b12 (objB cx (.slice sa sn sc) (.slice ba bn bc)) := E8
    refine (hx_dget hx2 ask m.oop).mono ?_
    rintro e w9 ⟨ta, tn, tc, ea, en, ec, A2, rfl, ro9, hx3, nx2⟩
    rw [hpk.out, hvx.out, hbx.out] at ro9
    rw [hpk.out, hcx.out, hex.out]
    have bx3 := bx2.step nx2
    have E9 := E8.step nx2
    have ro3 := ro2.step nx2
    have B10 : Below w9.heap.size w9 (w9.alloc (objB cx (.slice ta tn tc) (.slice ea en ec))) := box_below
    have F10 := new1 w9 (objB cx (.slice ta tn tc) (.slice ea en ec))
    have hx4 := hx3.below B10
    have ro4 := ro3.below B10
    have ro10 := ro9.below B10
    have bx4 := bx3.below B10
    have E10 := E9.below B10
    clear hx2 ro2 bx2 E8 z1 nx2 bx3 E9 ro3 ro9 hx3 B10
    obtain ⟨y0, y1, y2, _⟩ := obj_cells E10.blk
    obtain ⟨q0, q1, q2, _⟩ := obj_cells F10
    clear F10
    unfold objB at hx4 ro4 ro10 bx4 E10 y0 y1 y2 q0 q1 q2
    go_wp2_with fail
    generalize w9.alloc (.cells #[.int .i64 cx, .slice ta tn tc, .slice ea en ec] 35) = w10 at *
    refine (rsame_eq (ro4.isO hcl) (ro10.isO hcl)).mono ?_
    rintro e w11 ⟨rfl, B11⟩
    have hx5 := hx4.below B11
    have ro5 := ro4.below B11
    have bx5 := bx4.below B11
    replace E10 : Bx A2 w10 b12 (objB cx (.slice sa sn sc) (.slice ba bn bc)) := E10
    have E11 := E10.below B11
    clear y0 y1 y2 q0 q1 q2 hx4 ro4 ro10 bx4 E10 B11
    obtain ⟨y0, y1, y2, _⟩ := obj_cells E11.blk
    go_wp2_with fail
    refine (spoil_any ro5.v ro5.b).mono ?_
    rintro e w12 ⟨rfl, F12⟩
    have fin : AftP w tb ub rb xb m j (.pointer (some ⟨b, 0, none⟩)) (.bool true) w12 := ⟨A2, t, u, b, _, _, rfl, rfl, ro5.fin hx5 F12, (zr.read m.oop).up (by omega), bx5.fr F12 (ro5.not_act bx5)⟩
    clear F12 ro5 hx5 bx5 y0 y1 y2 E11
    go_wp2
    go_meet
    case rel => exact fin
  · go_wp2_with fail
    refine (hx_get hxA m.oop).mono ?_
    rintro e w7 ⟨sa, sn, sc, ba, bn, bc, A1, rfl, ro, hx1, nx1⟩
    rw [hvx.out, hbx.out] at ro
    rw [hcx.out, hex.out]
    have bx1 := bxA.step nx1
    have B8 : Below w7.heap.size w7 (w7.alloc (objB cx (.slice sa sn sc) (.slice ba bn bc))) := box_below
    have E8 : Bx A1 (w7.alloc (objB cx (.slice sa sn sc) (.slice ba bn bc))) w7.heap.size (objB cx (.slice sa sn sc) (.slice ba bn bc)) := ⟨new1 _ _, fun q => by have := hx1.lt q; omega⟩
    have hx2 := hx1.below B8
    have ro2 := ro.below B8
    have bx2 := bx1.below B8
    clear z1
    have z1 := (act_cells bx2.blk).2.1
    clear hxA bxA z0 ro hx1 bx1 nx1 B8
    unfold objB at E8 hx2 ro2 bx2 z1
    go_wp2_with fail
    generalize w7.alloc (.cells #[.int .i64 cx, .slice sa sn sc, .slice ba bn bc] 35) = w8 at *
    obtain ⟨b12, hb12⟩ : ∃ q, q = w7.heap.size := ⟨_, rfl⟩
    rw [← hb12] at E8 ⊢
    clear hb12
    replace E8 : Bx A1 w8 b12 (objB cx (.slice sa sn sc) (.slice ba bn bc)) := E8
    refine (hx_dget hx2 ask m.oop).mono ?_
    rintro e w9 ⟨ta, tn, tc, ea, en, ec, A2, rfl, ro9, hx3, nx2⟩
    rw [hpk.out, hvx.out, hbx.out] at ro9
    rw [hpk.out, hcx.out, hex.out]
    have bx3 := bx2.step nx2
    have E9 := E8.step nx2
    have ro3 := ro2.step nx2
    have B10 : Below w9.heap.size w9 (w9.alloc (objB cx (.slice ta tn tc) (.slice ea en ec))) := box_below
    have F10 := new1 w9 (objB cx (.slice ta tn tc) (.slice ea en ec))
    have hx4 := hx3.below B10
    have ro4 := ro3.below B10
    have ro10 := ro9.below B10
    have bx4 := bx3.below B10
    have E10 := E9.below B10
    clear hx2 ro2 bx2 E8 z1 nx2 bx3 E9 ro3 ro9 hx3 B10
    obtain ⟨y0, y1, y2, _⟩ := obj_cells E10.blk
    obtain ⟨q0, q1, q2, _⟩ := obj_cells F10
    clear F10
    unfold objB at hx4 ro4 ro10 bx4 E10 y0 y1 y2 q0 q1 q2
    go_wp2_with fail
    generalize w9.alloc (.cells #[.int .i64 cx, .slice ta tn tc, .slice ea en ec] 35) = w10 at *
    refine (rsame_eq (ro4.isO hcl) (ro10.isO hcl)).mono ?_
    rintro e w11 ⟨rfl, B11⟩
    have hx5 := hx4.below B11
    have ro5 := ro4.below B11
    have bx5 := bx4.below B11
    replace E10 : Bx A2 w10 b12 (objB cx (.slice sa sn sc) (.slice ba bn bc)) := E10
    have E11 := E10.below B11
    clear y0 y1 y2 q0 q1 q2 hx4 ro4 ro10 bx4 E10 B11
    obtain ⟨y0, y1, y2, _⟩ := obj_cells E11.blk
    go_wp2_with fail
    refine (spoil_any ro5.v ro5.b).mono ?_
    rintro e w12 ⟨rfl, F12⟩
    have fin : AftP w tb ub rb xb m j (.pointer (some ⟨b, 0, none⟩)) (.bool true) w12 := ⟨A2, t, u, b, _, _, rfl, rfl, ro5.fin hx5 F12, (zr.read m.oop).up (by omega), bx5.fr F12 (ro5.not_act bx5)⟩
    clear F12 ro5 hx5 bx5 y0 y1 y2 E11
    go_wp2
    go_meet
    case rel => exact fin
end Go.Proofs.YteomolihandfnaaGreat
namespace Go.Proofs.YteomolihandfnaaGreat
open Go.RowKit
set_option maxRecDepth 100000
set_option maxHeartbeats 80000000 in
theorem armb : skelK.2.1 := by
  intro w la ln lc ls an ac as_ x1 w2 tb ub u0 T w3 vb w4 rb A0 x2 x3 u4 u10 u11 u12 u13 u14 u15 u16 u17 u18 u19 u20 u21 u22 u23 u24 u25 u26 u27 u28 u29 u30 u31 x4 x5 x6 x7 x8 x9 x10 u50 x11 x12 x13 x14 x15 x16 x17 x18 x19 x20 x21 x22 x23 x24 x25 x26 x27 x28 x29 x30 x31 x32 x33 x34 x35 x36 x37 x38 x39 x40 x41 x42 x43 x44 x45 x46 x47 x48 x49 x50 x51 x52 x53 x54 x55 x56 x57 x58 x59 x60 x61 x62 x63 x64 x65 x66 x67 x68 x69 x70 x71 x72 x73 x74 x75 x76 x77 x78 x79 x80 x81 x82 x83 x84 x85 x86 x87 x88 x89 x90 x91 x92 x93 x94 x95 x96 x97 x98 x99 x100 x101 x102 x103 x104 x105 x106 x107 x108 x109 x110 x111 x112 x113 x114 x115 x116 x117 x118 x119 x120 x121 x122 x123 x124 x125 x126 x127 x128 x129 x130 x131 x132 x133 x134 x135 x136 x137 x138 x139 x140 x141 x142 x143 x144 x145 x146 x147 x148 x149 x150 x151 x152 x153 x154 x155 x156 x157 x158 x159 x160 x161 x162 x163 x164 x165 x166 x167 x168 x169 x170 x171 x172 x173 x174 x175 x176 x177 x178 x179 x180 x181 x182 x183 x184 x185 x186 x187 x188 x189 x190 x191 x192 x193 x194 x195 x196 x197 x198 x199 x200 x201 x202 x203 x204 x205 x206 x207 x208 x209 x210 x211 x212 x213 x214 x215 x216 x217 x218 x219 x220 x221 x222 x223 x224 x225 x226 x227 x228 x229 x230 x231 x232 x233 x234 x235 x236 x237 x238 x239 x240 x241 x242 x243 x244 x245 j hj1 hj2 A t u b v r zr wc u43 u44 u45 u46 u47 u48 u49 u51 u52 u53 u54 u55 u56 u57 u58 u59 u60 u61 u62 u63 u64 u65 u66 u67 u68 u69 u70 u71 u72 u73 u74 u75 u76 u77 u78 u79 u80 u81 u82 u83 u84 u85 u86 u87 u88 u89 u90 u91 u92 u93 u94 u95 u96 u97 u98 u99 u100 u101 u102 u103 u104 u105 u106 u107 u108 u109 u110 u111 u112 u113 u114 u115 u116 u117 u118 u119 u120 u121 u122 u123 u124 u125 u126 u127 u128 u129 u130 u131 u132 u133 u134 u135 u136 u137 u138 u139 u140 u141 u142 u143 u144 u145 u146 u147 u148 u149 u150 u151 u152 u153 u154 u155 u156 u157 u158 u159 u160 u161 u162 u163 u164 u165 u166 u167 u168 u169 u170 u171 u172 u173 u174 u175 u176 u177 u178 u179 u180 u181 u182 u183 u184 u185 u186 u187 u188 u189 u190 u191 u192 u193 u194 u195 u196 u197 u198 u199 u200 u201 u202 u203 u204 u205 u206 u207 u208 u209 u210 u211 u212 u213 u214 u215 u216 u217 u218 u219 u220 u221 u222 u223 u224 u225 u226 u227 u228 u229 u230 u231 u232 u233 u234 u235 u236 u237 u238 u239 u240 u241 u242 u243 u244 u245 u246 u247 u248 u249 u250 u251 u252 u253 u254 u255 u256 u257 u258 u259 u260 u261 u262 u263 u264 u265 u266 u267 u268 u269 u270 u271 u272 u273 u274 u275 u276 u277 u278 u279 u280 u281 u282 u283 u284 u285 hlt1 hlt2 ab ao m x246 hin x247 x248 x249 x250 wA hxA xb bxA j40 kd z0 hkd x251 x252 x253 x254 kA kB
  rw [hkd.out]
  subst kB
  have z1 := (act_cells bxA.blk).2.1
  have ask := zr.asks hxA (by omega)
  have hcl := hxA.cls m.oop
  have hpk := zr.pk m.oop
  obtain ⟨cx, hcx⟩ : ∃ q, Hid (clsR (peekR v t m.oop) = q) := ⟨_, rfl⟩
  obtain ⟨ex, hex⟩ : ∃ q, Hid (errR (peekR v t m.oop) = q) := ⟨_, rfl⟩
  obtain ⟨vx, hvx⟩ : ∃ q, Hid (vsR (peekR v t m.oop) = q) := ⟨_, rfl⟩
  obtain ⟨bx, hbx⟩ : ∃ q, Hid (bsR (peekR v t m.oop) = q) := ⟨_, rfl⟩
  replace hpk : Hid _ := hpk
  rw [hcx.out] at hcl
  go_wp2_with fail
  refine (hx_peek hxA m.oop).mono ?_
  rintro e w7 ⟨sa, sn, sc, ba, bn, bc, rfl, ro, B7⟩
  obtain ⟨A1, hx1, nx1, ro⟩ : ∃ A1, Hx w A1 tb t ub u b v rb r w7 ∧ Nx A A1 wA w7 ∧ Ro w A1 w7 sa sn sc ba bn bc (vsR (peekR v t m.oop)) (bsR (peekR v t m.oop)) := ⟨A, hxA.below B7, Nx.below B7, ro⟩
  rw [hvx.out, hbx.out] at ro
  rw [hcx.out, hex.out]
  have bx1 := bxA.step nx1
  have B8 : Below w7.heap.size w7 (w7.alloc (objB cx (.slice sa sn sc) (.slice ba bn bc))) := box_below
  have E8 : Bx A1 (w7.alloc (objB cx (.slice sa sn sc) (.slice ba bn bc))) w7.heap.size (objB cx (.slice sa sn sc) (.slice ba bn bc)) := ⟨new1 _ _, fun q => by have := hx1.lt q; omega⟩
  have hx2 := hx1.below B8
  have ro2 := ro.below B8
  have bx2 := bx1.below B8
  clear z1
  have z1 := (act_cells bx2.blk).2.1
  clear hxA bxA z0 ro hx1 bx1 nx1 B8
  unfold objB at E8 hx2 ro2 bx2 z1
  go_wp2_with fail
  generalize w7.alloc (.cells #[.int .i64 cx, .slice sa sn sc, .slice ba bn bc] 35) = w8 at *
  obtain ⟨b12, hb12⟩ : ∃ q, q = w7.heap.size := ⟨_, rfl⟩
  rw [← hb12] at E8 ⊢
  clear hb12
  replace E8 : Bx A1 w8 b12 (objB cx (.slice sa sn sc) (.slice ba bn bc)) := E8
  refine (hx_dpeek hx2 ask m.oop).mono ?_
  rintro e w9 ⟨ta, tn, tc, ea, en, ec, rfl, ro9, B9⟩
  obtain ⟨A2, hx3, nx2, ro9⟩ : ∃ A2, Hx w A2 tb t ub u b v rb r w9 ∧ Nx A1 A2 w8 w9 ∧ Ro w A2 w9 ta tn tc ea en ec (vsR (dpk r u m.oop)) (bsR (dpk r u m.oop)) := ⟨A1, hx2.below B9, Nx.below B9, ro9⟩
  rw [hpk.out, hvx.out, hbx.out] at ro9
  rw [hpk.out, hcx.out, hex.out]
  have bx3 := bx2.step nx2
  have E9 := E8.step nx2
  have ro3 := ro2.step nx2
  have B10 : Below w9.heap.size w9 (w9.alloc (objB cx (.slice ta tn tc) (.slice ea en ec))) := box_below
  have F10 := new1 w9 (objB cx (.slice ta tn tc) (.slice ea en ec))
  have hx4 := hx3.below B10
  have ro4 := ro3.below B10
  have ro10 := ro9.below B10
  have bx4 := bx3.below B10
  have E10 := E9.below B10
  clear hx2 ro2 bx2 E8 z1 nx2 bx3 E9 ro3 ro9 hx3 B10
  obtain ⟨y0, y1, y2, _⟩ := obj_cells E10.blk
  obtain ⟨q0, q1, q2, _⟩ := obj_cells F10
  clear F10
  unfold objB at hx4 ro4 ro10 bx4 E10 y0 y1 y2 q0 q1 q2
  go_wp2_with fail
  generalize w9.alloc (.cells #[.int .i64 cx, .slice ta tn tc, .slice ea en ec] 35) = w10 at *
  refine (rsame_eq (ro4.isO hcl) (ro10.isO hcl)).mono ?_
  rintro e w11 ⟨rfl, B11⟩
  have hx5 := hx4.below B11
  have ro5 := ro4.below B11
  have bx5 := bx4.below B11
  replace E10 : Bx A2 w10 b12 (objB cx (.slice sa sn sc) (.slice ba bn bc)) := E10
  have E11 := E10.below B11
  clear y0 y1 y2 q0 q1 q2 hx4 ro4 ro10 bx4 E10 B11
  obtain ⟨y0, y1, y2, _⟩ := obj_cells E11.blk
  go_wp2_with fail
  refine (spoil_any ro5.v ro5.b).mono ?_
  rintro e w12 ⟨rfl, F12⟩
  have fin : AftP w tb ub rb xb m j (.pointer (some ⟨b, 0, none⟩)) (.bool true) w12 := ⟨A2, t, u, b, _, _, rfl, rfl, ro5.fin hx5 F12, zr.up (by omega), bx5.fr F12 (ro5.not_act bx5)⟩
  clear F12 ro5 hx5 bx5 y0 y1 y2 E11
  go_wp2
  go_meet
  case rel => exact fin
end Go.Proofs.YteomolihandfnaaGreat
namespace Go.Proofs.YteomolihandfnaaGreat
open Go.RowKit
set_option maxRecDepth 100000
set_option maxHeartbeats 80000000 in
theorem armc : skelK.2.2.1 := by
  intro w la ln lc ls an ac as_ x1 w2 tb ub u0 T w3 vb w4 rb A0 x2 x3 u4 u10 u11 u12 u13 u14 u15 u16 u17 u18 u19 u20 u21 u22 u23 u24 u25 u26 u27 u28 u29 u30 u31 x4 x5 x6 x7 x8 x9 x10 u50 x11 x12 x13 x14 x15 x16 x17 x18 x19 x20 x21 x22 x23 x24 x25 x26 x27 x28 x29 x30 x31 x32 x33 x34 x35 x36 x37 x38 x39 x40 x41 x42 x43 x44 x45 x46 x47 x48 x49 x50 x51 x52 x53 x54 x55 x56 x57 x58 x59 x60 x61 x62 x63 x64 x65 x66 x67 x68 x69 x70 x71 x72 x73 x74 x75 x76 x77 x78 x79 x80 x81 x82 x83 x84 x85 x86 x87 x88 x89 x90 x91 x92 x93 x94 x95 x96 x97 x98 x99 x100 x101 x102 x103 x104 x105 x106 x107 x108 x109 x110 x111 x112 x113 x114 x115 x116 x117 x118 x119 x120 x121 x122 x123 x124 x125 x126 x127 x128 x129 x130 x131 x132 x133 x134 x135 x136 x137 x138 x139 x140 x141 x142 x143 x144 x145 x146 x147 x148 x149 x150 x151 x152 x153 x154 x155 x156 x157 x158 x159 x160 x161 x162 x163 x164 x165 x166 x167 x168 x169 x170 x171 x172 x173 x174 x175 x176 x177 x178 x179 x180 x181 x182 x183 x184 x185 x186 x187 x188 x189 x190 x191 x192 x193 x194 x195 x196 x197 x198 x199 x200 x201 x202 x203 x204 x205 x206 x207 x208 x209 x210 x211 x212 x213 x214 x215 x216 x217 x218 x219 x220 x221 x222 x223 x224 x225 x226 x227 x228 x229 x230 x231 x232 x233 x234 x235 x236 x237 x238 x239 x240 x241 x242 x243 x244 x245 j hj1 hj2 A t u b v r zr wc u43 u44 u45 u46 u47 u48 u49 u51 u52 u53 u54 u55 u56 u57 u58 u59 u60 u61 u62 u63 u64 u65 u66 u67 u68 u69 u70 u71 u72 u73 u74 u75 u76 u77 u78 u79 u80 u81 u82 u83 u84 u85 u86 u87 u88 u89 u90 u91 u92 u93 u94 u95 u96 u97 u98 u99 u100 u101 u102 u103 u104 u105 u106 u107 u108 u109 u110 u111 u112 u113 u114 u115 u116 u117 u118 u119 u120 u121 u122 u123 u124 u125 u126 u127 u128 u129 u130 u131 u132 u133 u134 u135 u136 u137 u138 u139 u140 u141 u142 u143 u144 u145 u146 u147 u148 u149 u150 u151 u152 u153 u154 u155 u156 u157 u158 u159 u160 u161 u162 u163 u164 u165 u166 u167 u168 u169 u170 u171 u172 u173 u174 u175 u176 u177 u178 u179 u180 u181 u182 u183 u184 u185 u186 u187 u188 u189 u190 u191 u192 u193 u194 u195 u196 u197 u198 u199 u200 u201 u202 u203 u204 u205 u206 u207 u208 u209 u210 u211 u212 u213 u214 u215 u216 u217 u218 u219 u220 u221 u222 u223 u224 u225 u226 u227 u228 u229 u230 u231 u232 u233 u234 u235 u236 u237 u238 u239 u240 u241 u242 u243 u244 u245 u246 u247 u248 u249 u250 u251 u252 u253 u254 u255 u256 u257 u258 u259 u260 u261 u262 u263 u264 u265 u266 u267 u268 u269 u270 u271 u272 u273 u274 u275 u276 u277 u278 u279 u280 u281 u282 u283 u284 u285 hlt1 hlt2 ab ao m x246 hin x247 x248 x249 x250 wA hxA xb bxA j40 kd z0 hkd x251 x252 x253 x254 kA kB kC
  rw [hkd.out]
  subst kC
  have z1 := (act_cells bxA.blk).2.1
  go_wp2_with fail
  refine (hx_read hxA m.oop).mono ?_
  rintro e w7 ⟨rfl, A1, hx1, nx1⟩
  have bx1 := bxA.step nx1
  clear z1 z0
  have z1 := (act_cells bx1.blk).2.1
  clear hxA bxA nx1
  go_wp2_with fail
  refine (hx_dread hx1 m.oop).mono ?_
  rintro e w8 ⟨rfl, A2, hx2, nx2⟩
  have bx2 := bx1.step nx2
  have fin : AftP w tb ub rb xb m j (.pointer (some ⟨b, 0, none⟩)) (.bool true) w8 := ⟨A2, t, u, b, _, _, rfl, rfl, hx2, (zr.read m.oop).up (by omega), bx2⟩
  clear hx1 bx1 hx2 bx2 nx2 z1
  go_wp2
  go_meet
  case rel => exact fin
end Go.Proofs.YteomolihandfnaaGreat
namespace Go.Proofs.YteomolihandfnaaGreat
open Go.RowKit
set_option maxRecDepth 100000
set_option maxHeartbeats 80000000 in
theorem arme : skelK.2.2.2.2.1 := by
  intro w la ln lc ls an ac as_ x1 w2 tb ub u0 T w3 vb w4 rb A0 x2 x3 u4 u10 u11 u12 u13 u14 u15 u16 u17 u18 u19 u20 u21 u22 u23 u24 u25 u26 u27 u28 u29 u30 u31 x4 x5 x6 x7 x8 x9 x10 u50 x11 x12 x13 x14 x15 x16 x17 x18 x19 x20 x21 x22 x23 x24 x25 x26 x27 x28 x29 x30 x31 x32 x33 x34 x35 x36 x37 x38 x39 x40 x41 x42 x43 x44 x45 x46 x47 x48 x49 x50 x51 x52 x53 x54 x55 x56 x57 x58 x59 x60 x61 x62 x63 x64 x65 x66 x67 x68 x69 x70 x71 x72 x73 x74 x75 x76 x77 x78 x79 x80 x81 x82 x83 x84 x85 x86 x87 x88 x89 x90 x91 x92 x93 x94 x95 x96 x97 x98 x99 x100 x101 x102 x103 x104 x105 x106 x107 x108 x109 x110 x111 x112 x113 x114 x115 x116 x117 x118 x119 x120 x121 x122 x123 x124 x125 x126 x127 x128 x129 x130 x131 x132 x133 x134 x135 x136 x137 x138 x139 x140 x141 x142 x143 x144 x145 x146 x147 x148 x149 x150 x151 x152 x153 x154 x155 x156 x157 x158 x159 x160 x161 x162 x163 x164 x165 x166 x167 x168 x169 x170 x171 x172 x173 x174 x175 x176 x177 x178 x179 x180 x181 x182 x183 x184 x185 x186 x187 x188 x189 x190 x191 x192 x193 x194 x195 x196 x197 x198 x199 x200 x201 x202 x203 x204 x205 x206 x207 x208 x209 x210 x211 x212 x213 x214 x215 x216 x217 x218 x219 x220 x221 x222 x223 x224 x225 x226 x227 x228 x229 x230 x231 x232 x233 x234 x235 x236 x237 x238 x239 x240 x241 x242 x243 x244 x245 j hj1 hj2 A t u b v r zr wc u43 u44 u45 u46 u47 u48 u49 u51 u52 u53 u54 u55 u56 u57 u58 u59 u60 u61 u62 u63 u64 u65 u66 u67 u68 u69 u70 u71 u72 u73 u74 u75 u76 u77 u78 u79 u80 u81 u82 u83 u84 u85 u86 u87 u88 u89 u90 u91 u92 u93 u94 u95 u96 u97 u98 u99 u100 u101 u102 u103 u104 u105 u106 u107 u108 u109 u110 u111 u112 u113 u114 u115 u116 u117 u118 u119 u120 u121 u122 u123 u124 u125 u126 u127 u128 u129 u130 u131 u132 u133 u134 u135 u136 u137 u138 u139 u140 u141 u142 u143 u144 u145 u146 u147 u148 u149 u150 u151 u152 u153 u154 u155 u156 u157 u158 u159 u160 u161 u162 u163 u164 u165 u166 u167 u168 u169 u170 u171 u172 u173 u174 u175 u176 u177 u178 u179 u180 u181 u182 u183 u184 u185 u186 u187 u188 u189 u190 u191 u192 u193 u194 u195 u196 u197 u198 u199 u200 u201 u202 u203 u204 u205 u206 u207 u208 u209 u210 u211 u212 u213 u214 u215 u216 u217 u218 u219 u220 u221 u222 u223 u224 u225 u226 u227 u228 u229 u230 u231 u232 u233 u234 u235 u236 u237 u238 u239 u240 u241 u242 u243 u244 u245 u246 u247 u248 u249 u250 u251 u252 u253 u254 u255 u256 u257 u258 u259 u260 u261 u262 u263 u264 u265 u266 u267 u268 u269 u270 u271 u272 u273 u274 u275 u276 u277 u278 u279 u280 u281 u282 u283 u284 u285 hlt1 hlt2 ab ao m x246 hin x247 x248 x249 x250 wA hxA xb bxA j40 kd z0 hkd x251 x252 x253 x254 kA kB kC kD kE
  rw [hkd.out]
  have hs : m.sn ≤ 8796093022208 := by have := hin.sn; omega
  have hb : m.bn ≤ 140737488355328 := by have := hin.bn; omega
  obtain ⟨_, z1, z2, z3, z4, _⟩ := act_cells bxA.blk
  have ask := zr.asks hxA (by omega)
  obtain ⟨hN, hE⟩ := zr.makeN ⟨m.o.cls, m.o.vs, m.o.bs⟩
  obtain ⟨nx, hnx⟩ : ∃ q, Hid (makeN v ⟨m.o.cls, m.o.vs, m.o.bs⟩ = q) := ⟨_, rfl⟩
  obtain ⟨ex, hex⟩ : ∃ q, Hid (makeE v ⟨m.o.cls, m.o.vs, m.o.bs⟩ = q) := ⟨_, rfl⟩
  rw [hnx.out] at hN
  rw [hex.out] at hE
  replace hN : Hid _ := hN
  replace hE : Hid _ := hE
  rcases kE with rfl | rfl
  · go_wp2_with fail
    refine (rcopy_shape (hin.obj.below hxA.bel) hs hb).mono ?_
    rintro e w7 ⟨sa, sn, sc, ba, bn, bc, rfl, oV, oB, B7⟩
    have ro := Ro.new hxA oV oB
    have hx1 := hxA.below B7
    have bx1 := bxA.below B7
    have B8 : Below w7.heap.size w7 (w7.alloc (objB m.o.cls (.slice sa sn sc) (.slice ba bn bc))) := box_below
    have E8 : Bx A (w7.alloc (objB m.o.cls (.slice sa sn sc) (.slice ba bn bc))) w7.heap.size (objB m.o.cls (.slice sa sn sc) (.slice ba bn bc)) := ⟨new1 _ _, fun q => by have := hx1.lt q; omega⟩
    have hx2 := hx1.below B8
    have ro2 := ro.below B8
    have bx2 := bx1.below B8
    clear z0 z2 z3 z4 hxA bxA oV oB B7 ro hx1 bx1 B8
    obtain ⟨y0, y1, y2, _⟩ := obj_cells E8.blk
    clear z1
    unfold objB at E8 hx2 ro2 bx2 y0 y1 y2
    go_wp2_with fail
    generalize w7.alloc (.cells #[.int .i64 m.o.cls, .slice sa sn sc, .slice ba bn bc] 35) = w8 at *
    obtain ⟨b21, hb21⟩ : ∃ q, q = w7.heap.size := ⟨_, rfl⟩
    rw [← hb21] at E8 y0 y1 y2 ⊢
    clear hb21
    replace E8 : Bx A w8 b21 (objB m.o.cls (.slice sa sn sc) (.slice ba bn bc)) := E8
    refine (hx_make hx2 (ro2.obX hin.obj.cls hx2.inb)).mono ?_
    rintro e w9 ⟨rfl, A1, hx3, nx1⟩
    rw [hnx.out, hex.out]
    have bx3 := bx2.step nx1
    have E9 := E8.step nx1
    have ro3 := ro2.step nx1
    clear y0 y1 y2 hx2 bx2 E8 ro2 nx1
    obtain ⟨_, _, z2, z3, z4, _⟩ := act_cells bx3.blk
    go_wp2_with fail
    refine (hx_dmake hx3 ask hin.obj hs hb).mono ?_
    rintro e w10 ⟨rfl, A2, hx4, nx2⟩
    rw [hN.out, hE.out]
    have bx4 := bx3.step nx2
    have E10 := E9.step nx2
    have ro4 := ro3.step nx2
    clear z2 z3 z4 hx3 bx3 E9 ro3 nx2
    obtain ⟨_, _, z2, z3, z4, _⟩ := act_cells bx4.blk
    obtain ⟨y0, y1, y2, _⟩ := obj_cells E10.blk
    go_wp2_with fail
    refine (rsame_eq (ro4.isO hin.obj.cls) (hin.obj.below hx4.bel)).mono ?_
    rintro e w11 ⟨rfl, B11⟩
    have hx5 := hx4.below B11
    have ro5 := ro4.below B11
    have bx5 := bx4.below B11
    have E11 := E10.below B11
    clear z2 z3 z4 y0 y1 y2 hx4 ro4 bx4 E10 B11
    obtain ⟨y0, y1, y2, _⟩ := obj_cells E11.blk
    go_wp2_with fail
    refine (spoil_any ro5.v ro5.b).mono ?_
    rintro e w12 ⟨rfl, F12⟩
    have fin : AftP w tb ub rb xb m j (.pointer (some ⟨b, 0, none⟩)) (.bool true) w12 := ⟨A2, t, u, b, _, _, rfl, rfl, ro5.fin hx5 F12, zr.make _, bx5.fr F12 (ro5.not_act bx5)⟩
    clear F12 ro5 hx5 bx5 y0 y1 y2 E11
    go_wp2
    go_meet
    case rel => exact fin
  · go_wp2_with fail
    refine (rcopy_shape (hin.obj.below hxA.bel) hs hb).mono ?_
    rintro e w7 ⟨sa, sn, sc, ba, bn, bc, rfl, oV, oB, B7⟩
    have ro := Ro.new hxA oV oB
    have hx1 := hxA.below B7
    have bx1 := bxA.below B7
    have B8 : Below w7.heap.size w7 (w7.alloc (objB m.o.cls (.slice sa sn sc) (.slice ba bn bc))) := box_below
    have E8 : Bx A (w7.alloc (objB m.o.cls (.slice sa sn sc) (.slice ba bn bc))) w7.heap.size (objB m.o.cls (.slice sa sn sc) (.slice ba bn bc)) := ⟨new1 _ _, fun q => by have := hx1.lt q; omega⟩
    have hx2 := hx1.below B8
    have ro2 := ro.below B8
    have bx2 := bx1.below B8
    clear z0 z2 z3 z4 hxA bxA oV oB B7 ro hx1 bx1 B8
    obtain ⟨y0, y1, y2, _⟩ := obj_cells E8.blk
    clear z1
    unfold objB at E8 hx2 ro2 bx2 y0 y1 y2
    go_wp2_with fail
    generalize w7.alloc (.cells #[.int .i64 m.o.cls, .slice sa sn sc, .slice ba bn bc] 35) = w8 at *
    obtain ⟨b21, hb21⟩ : ∃ q, q = w7.heap.size := ⟨_, rfl⟩
    rw [← hb21] at E8 y0 y1 y2 ⊢
    clear hb21
    replace E8 : Bx A w8 b21 (objB m.o.cls (.slice sa sn sc) (.slice ba bn bc)) := E8
    refine (hx_make hx2 (ro2.obX hin.obj.cls hx2.inb)).mono ?_
    rintro e w9 ⟨rfl, A1, hx3, nx1⟩
    rw [hnx.out, hex.out]
    have bx3 := bx2.step nx1
    have E9 := E8.step nx1
    have ro3 := ro2.step nx1
    clear y0 y1 y2 hx2 bx2 E8 ro2 nx1
    obtain ⟨_, _, z2, z3, z4, _⟩ := act_cells bx3.blk
    go_wp2_with fail
    refine (hx_dmake hx3 ask hin.obj hs hb).mono ?_
    rintro e w10 ⟨rfl, A2, hx4, nx2⟩
    rw [hN.out, hE.out]
    have bx4 := bx3.step nx2
    have E10 := E9.step nx2
    have ro4 := ro3.step nx2
    clear z2 z3 z4 hx3 bx3 E9 ro3 nx2
    obtain ⟨_, _, z2, z3, z4, _⟩ := act_cells bx4.blk
    obtain ⟨y0, y1, y2, _⟩ := obj_cells E10.blk
    go_wp2_with fail
    refine (rsame_eq (ro4.isO hin.obj.cls) (hin.obj.below hx4.bel)).mono ?_
    rintro e w11 ⟨rfl, B11⟩
    have hx5 := hx4.below B11
    have ro5 := ro4.below B11
    have bx5 := bx4.below B11
    have E11 := E10.below B11
    clear z2 z3 z4 y0 y1 y2 hx4 ro4 bx4 E10 B11
    obtain ⟨y0, y1, y2, _⟩ := obj_cells E11.blk
    go_wp2_with fail
    refine (spoil_any ro5.v ro5.b).mono ?_
    rintro e w12 ⟨rfl, F12⟩
    have fin : AftP w tb ub rb xb m j (.pointer (some ⟨b, 0, none⟩)) (.bool true) w12 := ⟨A2, t, u, b, _, _, rfl, rfl, ro5.fin hx5 F12, zr.make _, bx5.fr F12 (ro5.not_act bx5)⟩
    clear F12 ro5 hx5 bx5 y0 y1 y2 E11
    go_wp2
    go_meet
    case rel => exact fin
end Go.Proofs.YteomolihandfnaaGreat
namespace Go.Proofs.YteomolihandfnaaGreat
open Go.RowKit
set_option maxRecDepth 100000
set_option maxHeartbeats 80000000 in
theorem armf : skelK.2.2.2.2.2.1 := by
  intro w la ln lc ls an ac as_ x1 w2 tb ub u0 T w3 vb w4 rb A0 x2 x3 u4 u10 u11 u12 u13 u14 u15 u16 u17 u18 u19 u20 u21 u22 u23 u24 u25 u26 u27 u28 u29 u30 u31 x4 x5 x6 x7 x8 x9 x10 u50 x11 x12 x13 x14 x15 x16 x17 x18 x19 x20 x21 x22 x23 x24 x25 x26 x27 x28 x29 x30 x31 x32 x33 x34 x35 x36 x37 x38 x39 x40 x41 x42 x43 x44 x45 x46 x47 x48 x49 x50 x51 x52 x53 x54 x55 x56 x57 x58 x59 x60 x61 x62 x63 x64 x65 x66 x67 x68 x69 x70 x71 x72 x73 x74 x75 x76 x77 x78 x79 x80 x81 x82 x83 x84 x85 x86 x87 x88 x89 x90 x91 x92 x93 x94 x95 x96 x97 x98 x99 x100 x101 x102 x103 x104 x105 x106 x107 x108 x109 x110 x111 x112 x113 x114 x115 x116 x117 x118 x119 x120 x121 x122 x123 x124 x125 x126 x127 x128 x129 x130 x131 x132 x133 x134 x135 x136 x137 x138 x139 x140 x141 x142 x143 x144 x145 x146 x147 x148 x149 x150 x151 x152 x153 x154 x155 x156 x157 x158 x159 x160 x161 x162 x163 x164 x165 x166 x167 x168 x169 x170 x171 x172 x173 x174 x175 x176 x177 x178 x179 x180 x181 x182 x183 x184 x185 x186 x187 x188 x189 x190 x191 x192 x193 x194 x195 x196 x197 x198 x199 x200 x201 x202 x203 x204 x205 x206 x207 x208 x209 x210 x211 x212 x213 x214 x215 x216 x217 x218 x219 x220 x221 x222 x223 x224 x225 x226 x227 x228 x229 x230 x231 x232 x233 x234 x235 x236 x237 x238 x239 x240 x241 x242 x243 x244 x245 j hj1 hj2 A t u b v r zr wc u43 u44 u45 u46 u47 u48 u49 u51 u52 u53 u54 u55 u56 u57 u58 u59 u60 u61 u62 u63 u64 u65 u66 u67 u68 u69 u70 u71 u72 u73 u74 u75 u76 u77 u78 u79 u80 u81 u82 u83 u84 u85 u86 u87 u88 u89 u90 u91 u92 u93 u94 u95 u96 u97 u98 u99 u100 u101 u102 u103 u104 u105 u106 u107 u108 u109 u110 u111 u112 u113 u114 u115 u116 u117 u118 u119 u120 u121 u122 u123 u124 u125 u126 u127 u128 u129 u130 u131 u132 u133 u134 u135 u136 u137 u138 u139 u140 u141 u142 u143 u144 u145 u146 u147 u148 u149 u150 u151 u152 u153 u154 u155 u156 u157 u158 u159 u160 u161 u162 u163 u164 u165 u166 u167 u168 u169 u170 u171 u172 u173 u174 u175 u176 u177 u178 u179 u180 u181 u182 u183 u184 u185 u186 u187 u188 u189 u190 u191 u192 u193 u194 u195 u196 u197 u198 u199 u200 u201 u202 u203 u204 u205 u206 u207 u208 u209 u210 u211 u212 u213 u214 u215 u216 u217 u218 u219 u220 u221 u222 u223 u224 u225 u226 u227 u228 u229 u230 u231 u232 u233 u234 u235 u236 u237 u238 u239 u240 u241 u242 u243 u244 u245 u246 u247 u248 u249 u250 u251 u252 u253 u254 u255 u256 u257 u258 u259 u260 u261 u262 u263 u264 u265 u266 u267 u268 u269 u270 u271 u272 u273 u274 u275 u276 u277 u278 u279 u280 u281 u282 u283 u284 u285 hlt1 hlt2 ab ao m x246 hin x247 x248 x249 x250 wA hxA xb bxA j40 kd z0 hkd x251 x252 x253 x254 kA kB kC kD kE kF
  rw [hkd.out]
  subst kF
  go_wp2_with fail
  refine (hx_copy hxA).mono ?_
  rintro e w7 ⟨b2, A1, rfl, h7, nx1⟩
  have bx1 := bxA.step nx1
  clear hxA bxA nx1 z0
  have z1 := (act_cells bx1.blk).2.1
  go_wp2_with fail
  refine (hx2_put h7 m.oop (ObX.nil w7 b (c := 99) (by decide))).mono ?_
  rintro e w8 ⟨ee, A2, v8, rfl, h8, nx2⟩
  have bx2 := bx1.step nx2
  clear h7 bx1 nx2 z1
  go_wp2_with fail
  refine (hx2_read h8 77).mono ?_
  rintro e w9 ⟨A3, v9, rfl, h9, nx3⟩
  have bx3 := bx2.step nx3
  clear h8 bx2 nx3
  go_wp2_with fail
  refine (hx2_make h9 (ObX.nil w9 b (c := 99) (by decide))).mono ?_
  rintro e w10 ⟨ea, ef, A4, v10, rfl, h10, nx4⟩
  have bx4 := bx3.step nx4
  obtain ⟨A5, hx5, nx5⟩ := hx2_take h10
  have fin : AftP w tb ub rb xb m j (.pointer (some ⟨b2, 0, none⟩)) (.bool true) w10 := ⟨A5, t, u, b2, _, _, rfl, rfl, hx5, zr.up (by omega), bx4.step nx5⟩
  clear h9 bx3 nx4 h10 bx4 hx5 nx5
  go_wp2
  go_meet
  case rel => exact fin
end Go.Proofs.YteomolihandfnaaGreat
namespace Go.Proofs.YteomolihandfnaaGreat
open Go.RowKit
set_option maxRecDepth 100000
set_option maxHeartbeats 80000000 in
theorem armg : skelK.2.2.2.2.2.2.1 := by
  intro w la ln lc ls an ac as_ x1 w2 tb ub u0 T w3 vb w4 rb A0 x2 x3 u4 u10 u11 u12 u13 u14 u15 u16 u17 u18 u19 u20 u21 u22 u23 u24 u25 u26 u27 u28 u29 u30 u31 x4 x5 x6 x7 x8 x9 x10 u50 x11 x12 x13 x14 x15 x16 x17 x18 x19 x20 x21 x22 x23 x24 x25 x26 x27 x28 x29 x30 x31 x32 x33 x34 x35 x36 x37 x38 x39 x40 x41 x42 x43 x44 x45 x46 x47 x48 x49 x50 x51 x52 x53 x54 x55 x56 x57 x58 x59 x60 x61 x62 x63 x64 x65 x66 x67 x68 x69 x70 x71 x72 x73 x74 x75 x76 x77 x78 x79 x80 x81 x82 x83 x84 x85 x86 x87 x88 x89 x90 x91 x92 x93 x94 x95 x96 x97 x98 x99 x100 x101 x102 x103 x104 x105 x106 x107 x108 x109 x110 x111 x112 x113 x114 x115 x116 x117 x118 x119 x120 x121 x122 x123 x124 x125 x126 x127 x128 x129 x130 x131 x132 x133 x134 x135 x136 x137 x138 x139 x140 x141 x142 x143 x144 x145 x146 x147 x148 x149 x150 x151 x152 x153 x154 x155 x156 x157 x158 x159 x160 x161 x162 x163 x164 x165 x166 x167 x168 x169 x170 x171 x172 x173 x174 x175 x176 x177 x178 x179 x180 x181 x182 x183 x184 x185 x186 x187 x188 x189 x190 x191 x192 x193 x194 x195 x196 x197 x198 x199 x200 x201 x202 x203 x204 x205 x206 x207 x208 x209 x210 x211 x212 x213 x214 x215 x216 x217 x218 x219 x220 x221 x222 x223 x224 x225 x226 x227 x228 x229 x230 x231 x232 x233 x234 x235 x236 x237 x238 x239 x240 x241 x242 x243 x244 x245 j hj1 hj2 A t u b v r zr wc u43 u44 u45 u46 u47 u48 u49 u51 u52 u53 u54 u55 u56 u57 u58 u59 u60 u61 u62 u63 u64 u65 u66 u67 u68 u69 u70 u71 u72 u73 u74 u75 u76 u77 u78 u79 u80 u81 u82 u83 u84 u85 u86 u87 u88 u89 u90 u91 u92 u93 u94 u95 u96 u97 u98 u99 u100 u101 u102 u103 u104 u105 u106 u107 u108 u109 u110 u111 u112 u113 u114 u115 u116 u117 u118 u119 u120 u121 u122 u123 u124 u125 u126 u127 u128 u129 u130 u131 u132 u133 u134 u135 u136 u137 u138 u139 u140 u141 u142 u143 u144 u145 u146 u147 u148 u149 u150 u151 u152 u153 u154 u155 u156 u157 u158 u159 u160 u161 u162 u163 u164 u165 u166 u167 u168 u169 u170 u171 u172 u173 u174 u175 u176 u177 u178 u179 u180 u181 u182 u183 u184 u185 u186 u187 u188 u189 u190 u191 u192 u193 u194 u195 u196 u197 u198 u199 u200 u201 u202 u203 u204 u205 u206 u207 u208 u209 u210 u211 u212 u213 u214 u215 u216 u217 u218 u219 u220 u221 u222 u223 u224 u225 u226 u227 u228 u229 u230 u231 u232 u233 u234 u235 u236 u237 u238 u239 u240 u241 u242 u243 u244 u245 u246 u247 u248 u249 u250 u251 u252 u253 u254 u255 u256 u257 u258 u259 u260 u261 u262 u263 u264 u265 u266 u267 u268 u269 u270 u271 u272 u273 u274 u275 u276 u277 u278 u279 u280 u281 u282 u283 u284 u285 hlt1 hlt2 ab ao m x246 hin x247 x248 x249 x250 wA hxA xb bxA j40 kd z0 hkd x251 x252 x253 x254 kA kB kC kD kE kF kG
  rw [hkd.out]
  subst kG
  obtain ⟨_, _, _, _, _, z5, z6⟩ := act_cells bxA.blk
  obtain ⟨l0, l1⟩ := hxA.last zr
  obtain ⟨k0, k1⟩ := hx_end hxA
  obtain ⟨cc, hcc⟩ : ∃ q, Hid (u.end_ + 1 = q) := ⟨_, rfl⟩
  have hW : IntKind.i64.wrap (u.end_ + 1) = cc := (wrap64 (by omega) (by omega)).trans hcc.out
  have huk : u.k ≤ 1000 := by have := zr.k; omega
  have B7 : Below wA.heap.size wA (wA.alloc (recB m.com (.slice m.ra m.rn m.rc) 38)) := box_below
  have E7 := new1 wA (recB m.com (.slice m.ra m.rn m.rc) 38)
  have nA : ∀ g, A g → g ≠ wA.heap.size := fun g hg e => by have := hxA.lt hg; omega
  have k2 : (wA.alloc (recB m.com (.slice m.ra m.rn m.rc) 38)).cell? ⟨ub, 1, none⟩ = some (.int .i64 u.end_) := (B7.cell (p := ⟨ub, 1, none⟩) k1).trans k0
  have fz := rec_frozen E7 0
  obtain ⟨r0, r1⟩ := rec_cells E7
  have B8 : Below wA.heap.size wA (wA.alloc (recB cc (.slice m.ra m.rn m.rc) 38)) := box_below
  have E8 := new1 wA (recB cc (.slice m.ra m.rn m.rc) 38)
  have hx2 := hxA.below B8
  have bx2 := bxA.below B8
  have e2 : Bx A (wA.alloc (recB cc (.slice m.ra m.rn m.rc) 38)) wA.heap.size (recB cc (.slice m.ra m.rn m.rc) 38) := ⟨E8, fun q => nA _ q rfl⟩
  obtain ⟨g0, g1⟩ := rec_cells E8
  clear hxA bxA B7 B8 k0 k1 z0 l0 l1 E7 E8 nA
  unfold recB at k2 fz r0 r1 hx2 bx2 e2 g0 g1
  go_wp2_with fail
  generalize wA.alloc (.cells #[.int .i64 cc, .slice m.ra m.rn m.rc] 38) = w8 at *
  obtain ⟨rx, hrx⟩ : ∃ q, q = wA.heap.size := ⟨_, rfl⟩
  rw [← hrx] at e2 g0 g1 ⊢
  clear k2 fz r0 r1 hrx z5 z6
  replace e2 : Bx A w8 rx (recB cc (.slice m.ra m.rn m.rc) 38) := e2
  refine (given_any cc (hin.rec_.chs.below hx2.bel) hin.rec_.few hin.rec_.part).mono ?_
  rintro e w9 ⟨ga, gn, gc, rfl, oC, B9⟩
  have hx3 := hx2.below B9
  have bx3 := bx2.below B9
  have e3 := e2.below B9
  clear g0 g1 hx2 bx2 e2 B9
  go_wp2_with fail
  refine (hx_apply hx3 cc oC).mono ?_
  rintro e w10 ⟨rfl, A1, hx4, nx⟩
  have bx4 := bx3.step nx
  have e4 := e3.step nx
  clear hx3 bx3 e3 oC nx
  obtain ⟨g0, g1⟩ := rec_cells e4.blk
  go_wp2_with fail
  refine (hx_rapply hx4 huk cc hin.rec_.chs).mono ?_
  rintro e w11 ⟨rfl, A2, hx5, nx2⟩
  have bx5 := bx4.step nx2
  have fin : AftP w tb ub rb xb m j (.pointer (some ⟨b, 0, none⟩)) (.bool true) w11 := ⟨A2, _, _, b, v, r, rfl, rfl, hx5, zr.apply cc m.rxs, bx5⟩
  clear hx4 bx4 e4 g0 g1 hx5 bx5 nx2
  go_wp2
  go_meet
  case rel => exact fin
end Go.Proofs.YteomolihandfnaaGreat
namespace Go.Proofs.YteomolihandfnaaGreat
open Go.RowKit
set_option maxRecDepth 100000
set_option maxHeartbeats 80000000 in
theorem armh : skelK.2.2.2.2.2.2.2.1 := by
  intro w la ln lc ls an ac as_ x1 w2 tb ub u0 T w3 vb w4 rb A0 x2 x3 u4 u10 u11 u12 u13 u14 u15 u16 u17 u18 u19 u20 u21 u22 u23 u24 u25 u26 u27 u28 u29 u30 u31 x4 x5 x6 x7 x8 x9 x10 u50 x11 x12 x13 x14 x15 x16 x17 x18 x19 x20 x21 x22 x23 x24 x25 x26 x27 x28 x29 x30 x31 x32 x33 x34 x35 x36 x37 x38 x39 x40 x41 x42 x43 x44 x45 x46 x47 x48 x49 x50 x51 x52 x53 x54 x55 x56 x57 x58 x59 x60 x61 x62 x63 x64 x65 x66 x67 x68 x69 x70 x71 x72 x73 x74 x75 x76 x77 x78 x79 x80 x81 x82 x83 x84 x85 x86 x87 x88 x89 x90 x91 x92 x93 x94 x95 x96 x97 x98 x99 x100 x101 x102 x103 x104 x105 x106 x107 x108 x109 x110 x111 x112 x113 x114 x115 x116 x117 x118 x119 x120 x121 x122 x123 x124 x125 x126 x127 x128 x129 x130 x131 x132 x133 x134 x135 x136 x137 x138 x139 x140 x141 x142 x143 x144 x145 x146 x147 x148 x149 x150 x151 x152 x153 x154 x155 x156 x157 x158 x159 x160 x161 x162 x163 x164 x165 x166 x167 x168 x169 x170 x171 x172 x173 x174 x175 x176 x177 x178 x179 x180 x181 x182 x183 x184 x185 x186 x187 x188 x189 x190 x191 x192 x193 x194 x195 x196 x197 x198 x199 x200 x201 x202 x203 x204 x205 x206 x207 x208 x209 x210 x211 x212 x213 x214 x215 x216 x217 x218 x219 x220 x221 x222 x223 x224 x225 x226 x227 x228 x229 x230 x231 x232 x233 x234 x235 x236 x237 x238 x239 x240 x241 x242 x243 x244 x245 j hj1 hj2 A t u b v r zr wc u43 u44 u45 u46 u47 u48 u49 u51 u52 u53 u54 u55 u56 u57 u58 u59 u60 u61 u62 u63 u64 u65 u66 u67 u68 u69 u70 u71 u72 u73 u74 u75 u76 u77 u78 u79 u80 u81 u82 u83 u84 u85 u86 u87 u88 u89 u90 u91 u92 u93 u94 u95 u96 u97 u98 u99 u100 u101 u102 u103 u104 u105 u106 u107 u108 u109 u110 u111 u112 u113 u114 u115 u116 u117 u118 u119 u120 u121 u122 u123 u124 u125 u126 u127 u128 u129 u130 u131 u132 u133 u134 u135 u136 u137 u138 u139 u140 u141 u142 u143 u144 u145 u146 u147 u148 u149 u150 u151 u152 u153 u154 u155 u156 u157 u158 u159 u160 u161 u162 u163 u164 u165 u166 u167 u168 u169 u170 u171 u172 u173 u174 u175 u176 u177 u178 u179 u180 u181 u182 u183 u184 u185 u186 u187 u188 u189 u190 u191 u192 u193 u194 u195 u196 u197 u198 u199 u200 u201 u202 u203 u204 u205 u206 u207 u208 u209 u210 u211 u212 u213 u214 u215 u216 u217 u218 u219 u220 u221 u222 u223 u224 u225 u226 u227 u228 u229 u230 u231 u232 u233 u234 u235 u236 u237 u238 u239 u240 u241 u242 u243 u244 u245 u246 u247 u248 u249 u250 u251 u252 u253 u254 u255 u256 u257 u258 u259 u260 u261 u262 u263 u264 u265 u266 u267 u268 u269 u270 u271 u272 u273 u274 u275 u276 u277 u278 u279 u280 u281 u282 u283 u284 u285 hlt1 hlt2 ab ao m x246 hin x247 x248 x249 x250 wA hxA xb bxA j40 kd z0 hkd x251 x252 x253 x254 kA kB kC kD kE kF kG
  rw [hkd.out]
  have b0 : (kd == 0) = false := by simp; omega
  have b1 : (kd == 1) = false := by simp; omega
  have b2 : (kd == 2) = false := by simp; omega
  have b3 : (kd == 3) = false := by simp; omega
  have b4 : (kd == 4) = false := by simp; omega
  have b5 : (kd == 5) = false := by simp; omega
  have b6 : (kd == 6) = false := by simp; omega
  have b7 : (kd == 7) = false := by simp; omega
  have b8 : (kd == 8) = false := by simp; omega
  have b9 : (kd == 9) = false := by simp; omega
  have b10 : (kd == 10) = false := by simp; omega
  have c0 : ¬ kd = 0 := by omega
  have c1 : ¬ kd = 1 := by omega
  have c2 : ¬ kd = 2 := by omega
  have c3 : ¬ kd = 3 := by omega
  have c4 : ¬ kd = 4 := by omega
  have c5 : ¬ kd = 5 := by omega
  have c6 : ¬ kd = 6 := by omega
  have c7 : ¬ kd = 7 := by omega
  have c8 : ¬ kd = 8 := by omega
  have c9 : ¬ kd = 9 := by omega
  have c10 : ¬ kd = 10 := by omega
  have fin : AftP w tb ub rb xb m j (.pointer (some ⟨b, 0, none⟩)) (.bool true) wA := ⟨A, t, u, b, _, _, rfl, rfl, hxA, zr.up (by omega), bxA⟩
  clear kA kB kC kD kE kF kG hxA bxA
  go_wp2
  go_meet
  case rel => exact fin
end Go.Proofs.YteomolihandfnaaGreat
namespace Go.Proofs.YteomolihandfnaaGreat
open Go.RowKit
set_option maxRecDepth 100000
set_option maxHeartbeats 80000000 in
theorem armN : skel.2.1 := by
  intro w la ln lc ls aa an ac as_ has an4 x1 w2 tb ub u0 T w3 vb w4 rb A0 x2 x3 u4 u10 u11 u12 u13 u14 u15 u16 u17 u18 u19 u20 u21 u22 u23 u24 u25 u26 u27 u28 u29 u30 u31 x4 x5 x6 x7 x8 x9 x10 u50 x11 x12 x13 x14 x15 x16 x17 x18 x19 x20 x21 x22 x23 x24 x25 x26 x27 x28 x29 x30 x31 x32 x33 x34 x35 x36 x37 x38 x39 x40 x41 x42 x43 x44 x45 x46 x47 x48 x49 x50 x51 x52 x53 x54 x55 x56 x57 x58 x59 x60 x61 x62 x63 x64 x65 x66 x67 x68 x69 x70 x71 x72 x73 x74 x75 x76 x77 x78 x79 x80 x81 x82 x83 x84 x85 x86 x87 x88 x89 x90 x91 x92 x93 x94 x95 x96 x97 x98 x99 x100 x101 x102 x103 x104 x105 x106 x107 x108 x109 x110 x111 x112 x113 x114 x115 x116 x117 x118 x119 x120 x121 x122 x123 x124 x125 x126 x127 x128 x129 x130 x131 x132 x133 x134 x135 x136 x137 x138 x139 x140 x141 x142 x143 x144 x145 x146 x147 x148 x149 x150 x151 x152 x153 x154 x155 x156 x157 x158 x159 x160 x161 x162 x163 x164 x165 x166 x167 x168 x169 x170 x171 x172 x173 x174 x175 x176 x177 x178 x179 x180 x181 x182 x183 x184 x185 x186 x187 x188 x189 x190 x191 x192 x193 x194 x195 x196 x197 x198 x199 x200 x201 x202 x203 x204 x205 x206 x207 x208 x209 x210 x211 x212 x213 x214 x215 x216 x217 x218 x219 x220 x221 x222 x223 x224 x225 x226 x227 x228 x229 x230 x231 x232 x233 x234 x235 x236 x237 x238 x239 x240 x241 x242 x243 x244 x245 j hj1 hj2 A t u b v r zr x246 x247 x248 x249 x250 wc u43 u44 u45 u46 u47 u48 u49 u51 u52 u53 u54 u55 u56 u57 u58 u59 u60 u61 u62 u63 u64 u65 u66 u67 u68 u69 u70 u71 u72 u73 u74 u75 u76 u77 u78 u79 u80 u81 u82 u83 u84 u85 u86 u87 u88 u89 u90 u91 u92 u93 u94 u95 u96 u97 u98 u99 u100 u101 u102 u103 u104 u105 u106 u107 u108 u109 u110 u111 u112 u113 u114 u115 u116 u117 u118 u119 u120 u121 u122 u123 u124 u125 u126 u127 u128 u129 u130 u131 u132 u133 u134 u135 u136 u137 u138 u139 u140 u141 u142 u143 u144 u145 u146 u147 u148 u149 u150 u151 u152 u153 u154 u155 u156 u157 u158 u159 u160 u161 u162 u163 u164 u165 u166 u167 u168 u169 u170 u171 u172 u173 u174 u175 u176 u177 u178 u179 u180 u181 u182 u183 u184 u185 u186 u187 u188 u189 u190 u191 u192 u193 u194 u195 u196 u197 u198 u199 u200 u201 u202 u203 u204 u205 u206 u207 u208 u209 u210 u211 u212 u213 u214 u215 u216 u217 u218 u219 u220 u221 u222 u223 u224 u225 u226 u227 u228 u229 u230 u231 u232 u233 u234 u235 u236 u237 u238 u239 u240 u241 u242 u243 u244 u245 u246 u247 u248 u249 u250 u251 u252 u253 u254 u255 u256 u257 u258 u259 u260 u261 u262 u263 u264 u265 u266 u267 u268 u269 u270 u271 u272 u273 u274 u275 u276 u277 u278 u279 u280 u281 u282 u283 u284 u285 wt hx
  go_wp2_with fail
  refine (known_true wt).mono ?_
  rintro e w9 ⟨rfl, B9⟩
  have fin : Hid (Below w.heap.size w w9) := below_size hx.bel hx.bel.size B9
  clear B9 hx zr
  go_wp2
  go_ret
  exact ⟨rfl, fin.out⟩
end Go.Proofs.YteomolihandfnaaGreat
