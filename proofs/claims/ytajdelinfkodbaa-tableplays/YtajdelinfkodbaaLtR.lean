/- The law TablePlays: an arm. -/
import Derived.Test.YtajdelinfkodbaaLtS
import Derived.Deep.CutBlock
namespace Go.Proofs.Ytajdelinfkodbaa
open Go.RowKit
set_option maxRecDepth 100000
/-- What the operations yield. -/
def qaV37 (bb ub xb : Nat) (cx ex en_ fr_ mo wh : Int) (sa ba ta ea : Option Addr) (sn sc bn bc tn tc en ec : Nat) (j : Nat) : Value :=
  ([.agg #[.int .i64 cx, .slice sa sn sc, .slice ba bn bc],
    .agg #[.int .i64 cx, .slice ta tn tc, .slice ea en ec],
    .bool true,
    .bool false,
    .bool false,
    .int .i64 ex,
    .int .i64 ex,
    .bool false,
    .bool false,
    .bool false,
    .pointer (some ⟨bb, 0, none⟩),
    .int .i64 en_,
    .pointer (some ⟨ub, 0, none⟩),
    .pointer (some ⟨ub, 0, none⟩),
    .pointer (some ⟨ub, 1, none⟩),
    .int .i64 en_,
    .bool false,
    .bool false,
    .bool false,
    .pointer (some ⟨bb, 0, none⟩),
    .int .i64 fr_,
    .pointer (some ⟨ub, 0, none⟩),
    .pointer (some ⟨ub, 0, none⟩),
    .pointer (some ⟨ub, 0, none⟩),
    .int .i64 fr_,
    .bool false,
    .bool false,
    .bool false,
    .pointer (some ⟨bb, 0, none⟩),
    .pointer (some ⟨xb, 4, none⟩),
    .int .i64 mo,
    .int .i64 wh,
    .pointer (some ⟨ub, 0, none⟩),
    .pointer (some ⟨xb, 4, none⟩),
    .int .i64 mo,
    .int .i64 wh,
    .bool false,
    .bool false] : List Value).getD j undef
theorem qaV37_list {l : List Value} (hh : l.length = 38) : ∃ v0 v1 v2 v3 v4 v5 v6 v7 v8 v9 v10 v11 v12 v13 v14 v15 v16 v17 v18 v19 v20 v21 v22 v23 v24 v25 v26 v27 v28 v29 v30 v31 v32 v33 v34 v35 v36 v37, l = [v0, v1, v2, v3, v4, v5, v6, v7, v8, v9, v10, v11, v12, v13, v14, v15, v16, v17, v18, v19, v20, v21, v22, v23, v24, v25, v26, v27, v28, v29, v30, v31, v32, v33, v34, v35, v36, v37] := by
  obtain ⟨v0, t0, rfl, h0⟩ := cons_of hh
  obtain ⟨v1, t1, rfl, h1⟩ := cons_of h0
  obtain ⟨v2, t2, rfl, h2⟩ := cons_of h1
  obtain ⟨v3, t3, rfl, h3⟩ := cons_of h2
  obtain ⟨v4, t4, rfl, h4⟩ := cons_of h3
  obtain ⟨v5, t5, rfl, h5⟩ := cons_of h4
  obtain ⟨v6, t6, rfl, h6⟩ := cons_of h5
  obtain ⟨v7, t7, rfl, h7⟩ := cons_of h6
  obtain ⟨v8, t8, rfl, h8⟩ := cons_of h7
  obtain ⟨v9, t9, rfl, h9⟩ := cons_of h8
  obtain ⟨v10, t10, rfl, h10⟩ := cons_of h9
  obtain ⟨v11, t11, rfl, h11⟩ := cons_of h10
  obtain ⟨v12, t12, rfl, h12⟩ := cons_of h11
  obtain ⟨v13, t13, rfl, h13⟩ := cons_of h12
  obtain ⟨v14, t14, rfl, h14⟩ := cons_of h13
  obtain ⟨v15, t15, rfl, h15⟩ := cons_of h14
  obtain ⟨v16, t16, rfl, h16⟩ := cons_of h15
  obtain ⟨v17, t17, rfl, h17⟩ := cons_of h16
  obtain ⟨v18, t18, rfl, h18⟩ := cons_of h17
  obtain ⟨v19, t19, rfl, h19⟩ := cons_of h18
  obtain ⟨v20, t20, rfl, h20⟩ := cons_of h19
  obtain ⟨v21, t21, rfl, h21⟩ := cons_of h20
  obtain ⟨v22, t22, rfl, h22⟩ := cons_of h21
  obtain ⟨v23, t23, rfl, h23⟩ := cons_of h22
  obtain ⟨v24, t24, rfl, h24⟩ := cons_of h23
  obtain ⟨v25, t25, rfl, h25⟩ := cons_of h24
  obtain ⟨v26, t26, rfl, h26⟩ := cons_of h25
  obtain ⟨v27, t27, rfl, h27⟩ := cons_of h26
  obtain ⟨v28, t28, rfl, h28⟩ := cons_of h27
  obtain ⟨v29, t29, rfl, h29⟩ := cons_of h28
  obtain ⟨v30, t30, rfl, h30⟩ := cons_of h29
  obtain ⟨v31, t31, rfl, h31⟩ := cons_of h30
  obtain ⟨v32, t32, rfl, h32⟩ := cons_of h31
  obtain ⟨v33, t33, rfl, h33⟩ := cons_of h32
  obtain ⟨v34, t34, rfl, h34⟩ := cons_of h33
  obtain ⟨v35, t35, rfl, h35⟩ := cons_of h34
  obtain ⟨v36, t36, rfl, h36⟩ := cons_of h35
  obtain ⟨v37, t37, rfl, h37⟩ := cons_of h36
  obtain rfl := List.eq_nil_of_length_eq_zero h37
  exact ⟨_, _, _, _, _, _, _, _, _, _, _, _, _, _, _, _, _, _, _, _, _, _, _, _, _, _, _, _, _, _, _, _, _, _, _, _, _, _, rfl⟩
/-- What the operations yield. -/
def qbV41 (bb ub xb : Nat) (cc en_ : Int) (oa : Option Addr) (on oc : Nat) (la1 la2 la3 la4 la5 la6 la7 la8 : Option Addr) (ln1 lc1 ln2 lc2 ln3 lc3 ln4 lc4 ln5 lc5 ln6 lc6 ln7 lc7 ln8 lc8 : Nat) (j : Nat) : Value :=
  ([.pointer (some ⟨bb, 0, none⟩),
    .pointer (some ⟨xb, 3, none⟩),
    .int .i64 cc,
    .slice la1 ln1 lc1,
    .pointer (some ⟨ub, 0, none⟩),
    .pointer (some ⟨xb, 3, none⟩),
    .int .i64 cc,
    .slice la2 ln2 lc2,
    .bool true,
    .bool false,
    .bool false,
    .pointer (some ⟨bb, 0, none⟩),
    .pointer (some ⟨ub, 0, none⟩),
    .pointer (some ⟨ub, 0, none⟩),
    .pointer (some ⟨ub, 1, none⟩),
    .int .i64 en_,
    .slice la3 ln3 lc3,
    .pointer (some ⟨ub, 0, none⟩),
    .pointer (some ⟨ub, 0, none⟩),
    .pointer (some ⟨ub, 0, none⟩),
    .pointer (some ⟨ub, 1, none⟩),
    .int .i64 en_,
    .slice la4 ln4 lc4,
    .bool true,
    .bool false,
    .bool false,
    .bool false,
    .pointer (some ⟨bb, 0, none⟩),
    .slice la5 ln5 lc5,
    .pointer (some ⟨ub, 0, none⟩),
    .slice la6 ln6 lc6,
    .bool true,
    .bool false,
    .bool false,
    .bool false,
    .agg #[.int .i64 en_, .slice oa on oc],
    .agg #[.int .i64 en_, .slice la7 ln7 lc7],
    .pointer (some ⟨ub, 0, none⟩),
    .agg #[.int .i64 en_, .slice la8 ln8 lc8],
    .bool true,
    .bool false,
    .bool false] : List Value).getD j undef
theorem qbV41_list {l : List Value} (hh : l.length = 42) : ∃ v0 v1 v2 v3 v4 v5 v6 v7 v8 v9 v10 v11 v12 v13 v14 v15 v16 v17 v18 v19 v20 v21 v22 v23 v24 v25 v26 v27 v28 v29 v30 v31 v32 v33 v34 v35 v36 v37 v38 v39 v40 v41, l = [v0, v1, v2, v3, v4, v5, v6, v7, v8, v9, v10, v11, v12, v13, v14, v15, v16, v17, v18, v19, v20, v21, v22, v23, v24, v25, v26, v27, v28, v29, v30, v31, v32, v33, v34, v35, v36, v37, v38, v39, v40, v41] := by
  obtain ⟨v0, t0, rfl, h0⟩ := cons_of hh
  obtain ⟨v1, t1, rfl, h1⟩ := cons_of h0
  obtain ⟨v2, t2, rfl, h2⟩ := cons_of h1
  obtain ⟨v3, t3, rfl, h3⟩ := cons_of h2
  obtain ⟨v4, t4, rfl, h4⟩ := cons_of h3
  obtain ⟨v5, t5, rfl, h5⟩ := cons_of h4
  obtain ⟨v6, t6, rfl, h6⟩ := cons_of h5
  obtain ⟨v7, t7, rfl, h7⟩ := cons_of h6
  obtain ⟨v8, t8, rfl, h8⟩ := cons_of h7
  obtain ⟨v9, t9, rfl, h9⟩ := cons_of h8
  obtain ⟨v10, t10, rfl, h10⟩ := cons_of h9
  obtain ⟨v11, t11, rfl, h11⟩ := cons_of h10
  obtain ⟨v12, t12, rfl, h12⟩ := cons_of h11
  obtain ⟨v13, t13, rfl, h13⟩ := cons_of h12
  obtain ⟨v14, t14, rfl, h14⟩ := cons_of h13
  obtain ⟨v15, t15, rfl, h15⟩ := cons_of h14
  obtain ⟨v16, t16, rfl, h16⟩ := cons_of h15
  obtain ⟨v17, t17, rfl, h17⟩ := cons_of h16
  obtain ⟨v18, t18, rfl, h18⟩ := cons_of h17
  obtain ⟨v19, t19, rfl, h19⟩ := cons_of h18
  obtain ⟨v20, t20, rfl, h20⟩ := cons_of h19
  obtain ⟨v21, t21, rfl, h21⟩ := cons_of h20
  obtain ⟨v22, t22, rfl, h22⟩ := cons_of h21
  obtain ⟨v23, t23, rfl, h23⟩ := cons_of h22
  obtain ⟨v24, t24, rfl, h24⟩ := cons_of h23
  obtain ⟨v25, t25, rfl, h25⟩ := cons_of h24
  obtain ⟨v26, t26, rfl, h26⟩ := cons_of h25
  obtain ⟨v27, t27, rfl, h27⟩ := cons_of h26
  obtain ⟨v28, t28, rfl, h28⟩ := cons_of h27
  obtain ⟨v29, t29, rfl, h29⟩ := cons_of h28
  obtain ⟨v30, t30, rfl, h30⟩ := cons_of h29
  obtain ⟨v31, t31, rfl, h31⟩ := cons_of h30
  obtain ⟨v32, t32, rfl, h32⟩ := cons_of h31
  obtain ⟨v33, t33, rfl, h33⟩ := cons_of h32
  obtain ⟨v34, t34, rfl, h34⟩ := cons_of h33
  obtain ⟨v35, t35, rfl, h35⟩ := cons_of h34
  obtain ⟨v36, t36, rfl, h36⟩ := cons_of h35
  obtain ⟨v37, t37, rfl, h37⟩ := cons_of h36
  obtain ⟨v38, t38, rfl, h38⟩ := cons_of h37
  obtain ⟨v39, t39, rfl, h39⟩ := cons_of h38
  obtain ⟨v40, t40, rfl, h40⟩ := cons_of h39
  obtain ⟨v41, t41, rfl, h41⟩ := cons_of h40
  obtain rfl := List.eq_nil_of_length_eq_zero h41
  exact ⟨_, _, _, _, _, _, _, _, _, _, _, _, _, _, _, _, _, _, _, _, _, _, _, _, _, _, _, _, _, _, _, _, _, _, _, _, _, _, _, _, _, _, rfl⟩
set_option maxHeartbeats 80000000 in
theorem armR : skel.2.2.1 := by
  intro w an ac as_ x1 ub w2 x2 x3 x4 u6 x5 x6 x7 x8 u11 u12 u13 u14 u15 u16 x9 x10 x11 x12 x13 x14 x15 x16 x17 x18 x19 x20 x21 x22 x23 x24 x25 x26 x27 x28 x29 x30 x31 x32 x33 x34 x35 x36 x37 x38 x39 x40 x41 x42 x43 x44 x45 x46 x47 x48 x49 x50 x51 x52 x53 x54 x55 x56 x57 x58 x59 x60 x61 x62 x63 x64 x65 x66 x67 x68 x69 x70 x71 x72 x73 x74 x75 x76 x77 x78 x79 x80 x81 x82 x83 x84 x85 x86 x87 x88 x89 x90 x91 x92 x93 x94 x95 x96 x97 x98 x99 x100 x101 x102 x103 x104 x105 x106 x107 x108 x109 x110 x111 x112 x113 x114 x115 x116 x117 x118 x119 x120 x121 x122 x123 x124 x125 x126 x127 x128 x129 x130 x131 x132 x133 x134 x135 x136 x137 x138 x139 x140 x141 x142 x143 x144 x145 x146 x147 x148 x149 x150 x151 x152 x153 x154 x155 x156 x157 x158 x159 x160 x161 x162 x163 x164 x165 x166 x167 x168 x169 x170 x171 x172 x173 x174 x175 x176 x177 x178 x179 x180 x181 x182 x183 x184 x185 x186 x187 x188 x189 x190 x191 x192 x193 x194 x195 x196 x197 x198 x199 x200 x201 x202 x203 x204 x205 x206 x207 x208 x209 x210 x211 x212 x213 x214 x215 x216 x217 x218 x219 x220 x221 j hj1 hj2 A tb t u k hk x222 x223 x224 x225 x226 x227 x228 x229 x230 x231 x232 x233 x234 x235 x236 x237 x238 x239 x240 x241 x242 x243 x244 x245 x246 x247 x248 x249 x250 x251 x252 x253 x254 x255 x256 x257 x258 x259 x260 x261 x262 x263 x264 x265 x266 x267 x268 x269 x270 x271 x272 x273 x274 x275 x276 x277 x278 x279 x280 x281 x282 x283 x284 x285 x286 x287 x288 x289 x290 x291 x292 x293 x294 x295 x296 x297 x298 x299 x300 x301 x302 x303 x304 x305 x306 x307 x308 x309 x310 x311 x312 x313 x314 x315 x316 x317 x318 x319 x320 x321 x322 x323 x324 x325 x326 x327 x328 x329 x330 x331 x332 x333 x334 x335 x336 x337 x338 x339 x340 x341 x342 x343 x344 x345 x346 x347 x348 x349 x350 x351 x352 x353 x354 x355 x356 x357 x358 x359 x360 x361 x362 x363 x364 x365 x366 x367 x368 x369 x370 x371 x372 x373 x374 x375 x376 x377 x378 x379 x380 x381 x382 x383 x384 x385 x386 x387 x388 x389 x390 x391 x392 x393 x394 x395 x396 x397 x398 x399 x400 x401 x402 x403 x404 x405 x406 x407 x408 x409 x410 x411 x412 x413 x414 x415 x416 x417 x418 x419 x420 x421 x422 x423 x424 x425 x426 x427 x428 x429 x430 x431 x432 x433 x434 hlt1 hlt2 ab ao m x435 hin x436 x437 x438 x439 wA hxA xb hxl bxA j30 kd z0 hkd wc u2 u3 u7 u8 u9 u10 u21 u22 u23 u24 u25 u26 u27 u28 u29 u30 u31 u32 u33 u34 u35 u36 u37 u38 u39 u40 u41 u42 u43 u44 u45 u46 u47 u48 u49 u50 u51 u52 u53 u54 u55 u56 u57 u58 u59 u60 u61 u62 u63 u64 u65 u66 u67 u68 u69 u70 u71 u72 u73 u74 u75 u76 u77 u78 u79 u80 u81 u82 u83 u84 u85 u86 u87 u88 u89 u90 u91 u92 u93 u94 u95 u96 u97 u98 u99 u100 u101 u102 u103 u104 u105 u106 u107 u108 u109 u110 u111 u112 u113 u114 u115 u116 u117 u118 u119 u120 u121 u122 u123 u124 u125 u126 u127 u128 u129 u130 u131 u132 u133 u134 u135 u136 u137 u138 u139 u140 u141 u142 u143 u144 u145 u146 u147 u148 u149 u150 u151 u152 u153 u154 u155 u156 u157 u158 u159 u160 u161 u162 u163 u164 u165 u166 u167 u168 u169 u170 u171 u172 u173 u174 u175 u176 u177 u178 u179 u180 u181 u182 u183 u184 u185 u186 u187 u188 u189 u190 u191 u192 u193 u194 u195 u196 u197 u198 u199 u200 u201 u202 u203 u204 u205 u206 u207 u208 u209 u210 u211 u212 u213 u214 u215 u216 u217 u218 u219 u220 u221 u222 u223 u224 u225 u226 u227 u228 u229 u230 u231 u232 u233 hcut
  clear z0 hxA bxA
  obtain ⟨AA, bb, tt, uu, kk, cc, rfl, hx, hkk, bx⟩ := hcut
  obtain ⟨cx, hcx⟩ : ∃ q, Hid (oCl (ratO uu cc m.o) = q) := ⟨_, rfl⟩
  obtain ⟨ex, hex⟩ : ∃ q, Hid (ratE uu cc m.o = q) := ⟨_, rfl⟩
  obtain ⟨vx, hvx⟩ : ∃ q, Hid (oVs (ratO uu cc m.o) = q) := ⟨_, rfl⟩
  obtain ⟨bx_, hbx⟩ : ∃ q, Hid (oBs (ratO uu cc m.o) = q) := ⟨_, rfl⟩
  have hcls := hx.cls cc m.o
  rw [hcx.out] at hcls
  obtain ⟨_, _, _, x3, x4⟩ := act_cells bx.blk
  go_wp2_with fail
  refine (hx_at hx cc m.o).mono ?_
  rintro e w7 ⟨sa, sn, sc, ba, bn, bc, rfl, ro, B7⟩
  rw [hvx.out, hbx.out] at ro
  rw [hcx.out, hex.out]
  have hx1 := hx.below B7
  have bx1 := bx.below B7
  have B8 : Below w7.heap.size w7 (w7.alloc (objB cx (.slice sa sn sc) (.slice ba bn bc))) := box_below
  have E8 := new1 w7 (objB cx (.slice sa sn sc) (.slice ba bn bc))
  have hx2 := hx1.below B8
  have ro2 := ro.below B8
  have bx2 := bx1.below B8
  clear x3 x4
  obtain ⟨_, _, _, x3, x4⟩ := act_cells bx2.blk
  clear hx bx ro hx1 bx1 B7 B8
  unfold objB at E8 hx2 ro2 bx2 x3 x4
  go_wp2_with fail
  generalize w7.alloc (.cells #[.int .i64 cx, .slice sa sn sc, .slice ba bn bc] 49) = w8 at *
  obtain ⟨b11, hb11⟩ : ∃ q, q = w7.heap.size := ⟨_, rfl⟩
  rw [← hb11] at E8 ⊢
  clear hb11
  replace E8 : w8.heap[b11]? = some (objB cx (.slice sa sn sc) (.slice ba bn bc)) := E8
  refine (hx_rat hx2 (by omega) cc m.o).mono ?_
  rintro e w9 ⟨ta, tn, tc, ea, en, ec, rfl, ro9, B9⟩
  rw [hvx.out, hbx.out] at ro9
  rw [hcx.out, hex.out]
  have hx3 := hx2.below B9
  have bx3 := bx2.below B9
  have E9 := (B9.block b11 (lt_of_block' E8)).trans E8
  have ro3 := ro2.below B9
  have B10 : Below w9.heap.size w9 (w9.alloc (objB cx (.slice ta tn tc) (.slice ea en ec))) := box_below
  have F10 := new1 w9 (objB cx (.slice ta tn tc) (.slice ea en ec))
  have hx4 := hx3.below B10
  have bx4 := bx3.below B10
  have ro4 := ro3.below B10
  have ro10 := ro9.below B10
  have E10 := (B10.block b11 (lt_of_block' E9)).trans E9
  clear hx2 ro2 bx2 E8 x3 x4 E9 ro3 ro9 hx3 bx3 B10 B9
  have l11 := lt_of_block' E10
  have l13 := lt_of_block' F10
  obtain ⟨y0, y1, y2, _⟩ := obj_cells E10
  obtain ⟨q0, q1, q2, _⟩ := obj_cells F10
  clear F10
  unfold objB at hx4 ro4 ro10 y0 y1 y2 q0 q1 q2 l11 l13 bx4 E10
  go_upto_region 37 with fail
  generalize w9.alloc (.cells #[.int .i64 cx, .slice ta tn tc, .slice ea en ec] 49) = w10 at *
  obtain ⟨b13, hb13⟩ : ∃ q, q = w9.heap.size := ⟨_, rfl⟩
  rw [← hb13] at q0 q1 q2 l13 ⊢
  clear hb13
  replace E10 : w10.heap[b11]? = some (objB cx (.slice sa sn sc) (.slice ba bn bc)) := E10
  have io1 := ro4.isO hcls
  have io2 := ro10.isO hcls
  obtain ⟨en_, hen_⟩ : ∃ q, Hid (uu.end_ = q) := ⟨_, rfl⟩
  obtain ⟨fr_, hfr_⟩ : ∃ q, Hid (uu.from_ = q) := ⟨_, rfl⟩
  obtain ⟨wh, hwh⟩ : ∃ q, Hid (whenU uu m.o = q) := ⟨_, rfl⟩
  obtain ⟨bv, lv, wv, hub⟩ := hx4.hy.ublk
  rw [hen_.out, hfr_.out] at hub
  obtain ⟨z0, z1, _⟩ := rt_cells hub
  have lub := lt_of_block' hub
  obtain ⟨_, _, _, x3, x4⟩ := act_cells bx4.blk
  have lxb := lt_of_block' bx4.blk
  clear hub hcls
  go_cut [173] from 21 to 233 (fun v wx => v = .bool false ∧ Below w10.heap.size w10 wx)
  case first =>
    refine abstract_act fun A hA => ?_
    have hsz : A.tmps.size = 235 := by rw [hA]; rfl
    have s3 : A.tmps[3]? = some (.pointer (some ⟨bb, 0, none⟩)) := by rw [hA]; rfl
    have s4 : A.tmps[4]? = some (.pointer (some ⟨ub, 0, none⟩)) := by rw [hA]; rfl
    have s6 : A.tmps[6]? = some (.pointer (some ⟨xb, 0, none⟩)) := by rw [hA]; rfl
    have s11 : A.tmps[11]? = some (.pointer (some ⟨b11, 0, none⟩)) := by rw [hA]; rfl
    have s13 : A.tmps[13]? = some (.pointer (some ⟨b13, 0, none⟩)) := by rw [hA]; rfl
    have s12 : A.tmps[12]? = some (.int .i64 ex) := by rw [hA]; rfl
    have s14 : A.tmps[14]? = some (.int .i64 ex) := by rw [hA]; rfl
    refine wp_region_inv2' (fun A D a w' => ∃ (l : List Value), a = putAll A 136 l ∧ l.length = 38 ∧ (∀ j, j < 38 → D j → l[j]? = some (qaV37 bb ub xb cx ex en_ fr_ m.o wh sa ba ta ea sn sc bn bc tn tc en ec j)) ∧ (Below w10.heap.size w10 w')) (by kernel_rfl) (by kernel_rfl) ?mono ?start ?step ?done
    case mono =>
      rintro D D' a w' hD ⟨l, ha, hlen, hl, hB⟩
      exact ⟨l, ha, hlen, fun j hj h => hl j hj ((hD j).2 h), hB⟩
    case start => exact ⟨_, (putAll_start A 136 38 (by omega)).1, (putAll_start A 136 38 (by omega)).2, fun _ _ h => h.elim, (Below.refl _ _).drew⟩
    case step =>
      clear hA
      intro i o ho D a w' hI hn hcl hd
      obtain ⟨l, ha, hlen, hl, hB⟩ := hI
      match i, ho with
      | 0, ho =>
        cases Option.some.inj ho
        refine ⟨rfl, ?_⟩
        have ev : a.tmps[11]? = some (.pointer (some ⟨b11, 0, none⟩)) := by rw [ha, putAll_low A 136 11 l (by omega) (by decide)]; exact s11
        have hc0 := (hB.cell (p := ⟨b11, 0, none⟩) l11).trans y0
        have hc1 := (hB.cell (p := ⟨b11, 1, none⟩) l11).trans y1
        have hc2 := (hB.cell (p := ⟨b11, 2, none⟩) l11).trans y2
        refine wp_value (w' := w') (v := .agg #[.int .i64 cx, .slice sa sn sc, .slice ba bn bc]) (by simp [execOp, ev, go_sem, hc0, hc1, hc2]) ?_
        exact ⟨_, by rw [ha]; exact putAll_put A 136 0 l _ (by omega) (by omega), by rw [List.length_set]; exact hlen, set_known hlen (by decide) hl, hB⟩
      | 1, ho =>
        cases Option.some.inj ho
        refine ⟨rfl, ?_⟩
        have ev : a.tmps[13]? = some (.pointer (some ⟨b13, 0, none⟩)) := by rw [ha, putAll_low A 136 13 l (by omega) (by decide)]; exact s13
        have hc0 := (hB.cell (p := ⟨b13, 0, none⟩) l13).trans q0
        have hc1 := (hB.cell (p := ⟨b13, 1, none⟩) l13).trans q1
        have hc2 := (hB.cell (p := ⟨b13, 2, none⟩) l13).trans q2
        refine wp_value (w' := w') (v := .agg #[.int .i64 cx, .slice ta tn tc, .slice ea en ec]) (by simp [execOp, ev, go_sem, hc0, hc1, hc2]) ?_
        exact ⟨_, by rw [ha]; exact putAll_put A 136 1 l _ (by omega) (by omega), by rw [List.length_set]; exact hlen, set_known hlen (by decide) hl, hB⟩
      | 2, ho =>
        cases Option.some.inj ho
        refine ⟨rfl, ?_⟩
        have ev : a.tmps[136]? = some (.agg #[.int .i64 cx, .slice sa sn sc, .slice ba bn bc]) := known_at ha hsz hlen hl 0 (by decide) (hd ⟨0, .data⟩ (by simp) rfl)
        have ev' : a.tmps[137]? = some (.agg #[.int .i64 cx, .slice ta tn tc, .slice ea en ec]) := known_at ha hsz hlen hl 1 (by decide) (hd ⟨1, .data⟩ (by simp) rfl)
        refine wp_enter (f := 21) (args := #[.agg #[.int .i64 cx, .slice sa sn sc, .slice ba bn bc], .agg #[.int .i64 cx, .slice ta tn tc, .slice ea en ec]]) (by simp [execOp, ev, ev', go_sem]) ?_
        refine (rsame_eq (io1.below hB) (io2.below hB)).mono ?_
        rintro e w6 ⟨rfl, HB⟩
        refine ⟨_, rfl, ?_⟩
        exact ⟨_, by rw [ha]; exact putAll_put A 136 2 l _ (by omega) (by omega), by rw [List.length_set]; exact hlen, set_known hlen (by decide) hl, below_size hB hB.size HB⟩
      | 3, ho =>
        cases Option.some.inj ho
        refine ⟨rfl, ?_⟩
        have ev : a.tmps[138]? = some (.bool true) := known_at ha hsz hlen hl 2 (by decide) (hd ⟨2, .data⟩ (by simp) rfl)
        refine wp_value (w' := w') (v := .bool false) (by simp [execOp, ev, go_sem]) ?_
        exact ⟨_, by rw [ha]; exact putAll_put A 136 3 l _ (by omega) (by omega), by rw [List.length_set]; exact hlen, set_known hlen (by decide) hl, hB⟩
      | 4, ho =>
        cases Option.some.inj ho
        refine ⟨rfl, ?_⟩
        have ev : a.tmps[139]? = some (.bool false) := known_at ha hsz hlen hl 3 (by decide) (hd ⟨3, .data⟩ (by simp) rfl)
        refine wp_value (w' := w') (v := .bool false) (by simp [execOp, ev, go_sem]) ?_
        exact ⟨_, by rw [ha]; exact putAll_put A 136 4 l _ (by omega) (by omega), by rw [List.length_set]; exact hlen, set_known hlen (by decide) hl, hB⟩
      | 5, ho =>
        cases Option.some.inj ho
        refine ⟨wanted_of (k := 140) rfl rfl rfl (known_at ha hsz hlen hl 4 (by decide) (hd ⟨4, .guard⟩ (by simp) rfl)), ?_⟩
        have ev : a.tmps[12]? = some (.int .i64 ex) := by rw [ha, putAll_low A 136 12 l (by omega) (by decide)]; exact s12
        refine wp_value (w' := w') (v := .int .i64 ex) (by simp [execOp, ev, go_sem]) ?_
        exact ⟨_, by rw [ha]; exact putAll_put A 136 5 l _ (by omega) (by omega), by rw [List.length_set]; exact hlen, set_known hlen (by decide) hl, hB⟩
      | 6, ho =>
        cases Option.some.inj ho
        refine ⟨wanted_of (k := 140) rfl rfl rfl (known_at ha hsz hlen hl 4 (by decide) (hd ⟨4, .guard⟩ (by simp) rfl)), ?_⟩
        have ev : a.tmps[14]? = some (.int .i64 ex) := by rw [ha, putAll_low A 136 14 l (by omega) (by decide)]; exact s14
        refine wp_value (w' := w') (v := .int .i64 ex) (by simp [execOp, ev, go_sem]) ?_
        exact ⟨_, by rw [ha]; exact putAll_put A 136 6 l _ (by omega) (by omega), by rw [List.length_set]; exact hlen, set_known hlen (by decide) hl, hB⟩
      | 7, ho =>
        cases Option.some.inj ho
        refine ⟨wanted_of (k := 140) rfl rfl rfl (known_at ha hsz hlen hl 4 (by decide) (hd ⟨4, .guard⟩ (by simp) rfl)), ?_⟩
        have ev : a.tmps[141]? = some (.int .i64 ex) := known_at ha hsz hlen hl 5 (by decide) (hd ⟨5, .data⟩ (by simp) rfl)
        have ev' : a.tmps[142]? = some (.int .i64 ex) := known_at ha hsz hlen hl 6 (by decide) (hd ⟨6, .data⟩ (by simp) rfl)
        refine wp_value (w' := w') (v := .bool false) (by simp [execOp, ev, ev', go_sem]) ?_
        exact ⟨_, by rw [ha]; exact putAll_put A 136 7 l _ (by omega) (by omega), by rw [List.length_set]; exact hlen, set_known hlen (by decide) hl, hB⟩
      | 8, ho =>
        cases Option.some.inj ho
        refine ⟨rfl, ?_⟩
        have ev : a.tmps[140]? = some (.bool false) := known_at ha hsz hlen hl 4 (by decide) (hd ⟨4, .data⟩ (by simp) rfl)
        have ev' : a.tmps[143]? = some (.bool false) := known_at ha hsz hlen hl 7 (by decide) (hd ⟨7, .data⟩ (by simp) rfl)
        refine wp_value (w' := w') (v := .bool false) (by simp [execOp, ev, ev', go_sem]) ?_
        exact ⟨_, by rw [ha]; exact putAll_put A 136 8 l _ (by omega) (by omega), by rw [List.length_set]; exact hlen, set_known hlen (by decide) hl, hB⟩
      | 9, ho =>
        cases Option.some.inj ho
        refine ⟨rfl, ?_⟩
        have ev : a.tmps[144]? = some (.bool false) := known_at ha hsz hlen hl 8 (by decide) (hd ⟨8, .data⟩ (by simp) rfl)
        refine wp_value (w' := w') (v := .bool false) (by simp [execOp, ev, go_sem]) ?_
        exact ⟨_, by rw [ha]; exact putAll_put A 136 9 l _ (by omega) (by omega), by rw [List.length_set]; exact hlen, set_known hlen (by decide) hl, hB⟩
      | 10, ho =>
        cases Option.some.inj ho
        refine ⟨wanted_of (k := 145) rfl rfl rfl (known_at ha hsz hlen hl 9 (by decide) (hd ⟨9, .guard⟩ (by simp) rfl)), ?_⟩
        have ev : a.tmps[3]? = some (.pointer (some ⟨bb, 0, none⟩)) := by rw [ha, putAll_low A 136 3 l (by omega) (by decide)]; exact s3
        refine wp_value (w' := w') (v := .pointer (some ⟨bb, 0, none⟩)) (by simp [execOp, ev, go_sem]) ?_
        exact ⟨_, by rw [ha]; exact putAll_put A 136 10 l _ (by omega) (by omega), by rw [List.length_set]; exact hlen, set_known hlen (by decide) hl, hB⟩
      | 11, ho =>
        cases Option.some.inj ho
        refine ⟨wanted_of (k := 145) rfl rfl rfl (known_at ha hsz hlen hl 9 (by decide) (hd ⟨9, .guard⟩ (by simp) rfl)), ?_⟩
        have ev : a.tmps[146]? = some (.pointer (some ⟨bb, 0, none⟩)) := known_at ha hsz hlen hl 10 (by decide) (hd ⟨10, .data⟩ (by simp) rfl)
        have cB := hx_last (hx4.below hB)
        rw [hen_.out] at cB
        refine wp_enter (f := 22) (args := #[.pointer (some ⟨bb, 0, none⟩)]) (by simp [execOp, ev, go_sem]) ?_
        refine (cB).mono ?_
        rintro e w6 ⟨rfl, rfl⟩
        refine ⟨_, rfl, ?_⟩
        exact ⟨_, by rw [ha]; exact putAll_put A 136 11 l _ (by omega) (by omega), by rw [List.length_set]; exact hlen, set_known hlen (by decide) hl, hB⟩
      | 12, ho =>
        cases Option.some.inj ho
        refine ⟨wanted_of (k := 145) rfl rfl rfl (known_at ha hsz hlen hl 9 (by decide) (hd ⟨9, .guard⟩ (by simp) rfl)), ?_⟩
        have ev : a.tmps[4]? = some (.pointer (some ⟨ub, 0, none⟩)) := by rw [ha, putAll_low A 136 4 l (by omega) (by decide)]; exact s4
        refine wp_value (w' := w') (v := .pointer (some ⟨ub, 0, none⟩)) (by simp [execOp, ev, go_sem]) ?_
        exact ⟨_, by rw [ha]; exact putAll_put A 136 12 l _ (by omega) (by omega), by rw [List.length_set]; exact hlen, set_known hlen (by decide) hl, hB⟩
      | 13, ho =>
        cases Option.some.inj ho
        refine ⟨wanted_of (k := 145) rfl rfl rfl (known_at ha hsz hlen hl 9 (by decide) (hd ⟨9, .guard⟩ (by simp) rfl)), ?_⟩
        have ev : a.tmps[148]? = some (.pointer (some ⟨ub, 0, none⟩)) := known_at ha hsz hlen hl 12 (by decide) (hd ⟨12, .data⟩ (by simp) rfl)
        refine wp_value (w' := w') (v := .pointer (some ⟨ub, 0, none⟩)) (by simp [execOp, ev, go_sem]) ?_
        exact ⟨_, by rw [ha]; exact putAll_put A 136 13 l _ (by omega) (by omega), by rw [List.length_set]; exact hlen, set_known hlen (by decide) hl, hB⟩
      | 14, ho =>
        cases Option.some.inj ho
        refine ⟨wanted_of (k := 145) rfl rfl rfl (known_at ha hsz hlen hl 9 (by decide) (hd ⟨9, .guard⟩ (by simp) rfl)), ?_⟩
        have ev : a.tmps[149]? = some (.pointer (some ⟨ub, 0, none⟩)) := known_at ha hsz hlen hl 13 (by decide) (hd ⟨13, .data⟩ (by simp) rfl)
        refine wp_value (w' := w') (v := .pointer (some ⟨ub, 1, none⟩)) (by simp [execOp, ev, go_sem]) ?_
        exact ⟨_, by rw [ha]; exact putAll_put A 136 14 l _ (by omega) (by omega), by rw [List.length_set]; exact hlen, set_known hlen (by decide) hl, hB⟩
      | 15, ho =>
        cases Option.some.inj ho
        refine ⟨wanted_of (k := 145) rfl rfl rfl (known_at ha hsz hlen hl 9 (by decide) (hd ⟨9, .guard⟩ (by simp) rfl)), ?_⟩
        have ev : a.tmps[150]? = some (.pointer (some ⟨ub, 1, none⟩)) := known_at ha hsz hlen hl 14 (by decide) (hd ⟨14, .data⟩ (by simp) rfl)
        have hc0 := (hB.cell (p := ⟨ub, 1, none⟩) lub).trans z1
        refine wp_value (w' := w') (v := .int .i64 en_) (by simp [execOp, ev, go_sem, hc0]) ?_
        exact ⟨_, by rw [ha]; exact putAll_put A 136 15 l _ (by omega) (by omega), by rw [List.length_set]; exact hlen, set_known hlen (by decide) hl, hB⟩
      | 16, ho =>
        cases Option.some.inj ho
        refine ⟨wanted_of (k := 145) rfl rfl rfl (known_at ha hsz hlen hl 9 (by decide) (hd ⟨9, .guard⟩ (by simp) rfl)), ?_⟩
        have ev : a.tmps[147]? = some (.int .i64 en_) := known_at ha hsz hlen hl 11 (by decide) (hd ⟨11, .data⟩ (by simp) rfl)
        have ev' : a.tmps[151]? = some (.int .i64 en_) := known_at ha hsz hlen hl 15 (by decide) (hd ⟨15, .data⟩ (by simp) rfl)
        refine wp_value (w' := w') (v := .bool false) (by simp [execOp, ev, ev', go_sem]) ?_
        exact ⟨_, by rw [ha]; exact putAll_put A 136 16 l _ (by omega) (by omega), by rw [List.length_set]; exact hlen, set_known hlen (by decide) hl, hB⟩
      | 17, ho =>
        cases Option.some.inj ho
        refine ⟨rfl, ?_⟩
        have ev : a.tmps[145]? = some (.bool false) := known_at ha hsz hlen hl 9 (by decide) (hd ⟨9, .data⟩ (by simp) rfl)
        have ev' : a.tmps[152]? = some (.bool false) := known_at ha hsz hlen hl 16 (by decide) (hd ⟨16, .data⟩ (by simp) rfl)
        refine wp_value (w' := w') (v := .bool false) (by simp [execOp, ev, ev', go_sem]) ?_
        exact ⟨_, by rw [ha]; exact putAll_put A 136 17 l _ (by omega) (by omega), by rw [List.length_set]; exact hlen, set_known hlen (by decide) hl, hB⟩
      | 18, ho =>
        cases Option.some.inj ho
        refine ⟨rfl, ?_⟩
        have ev : a.tmps[153]? = some (.bool false) := known_at ha hsz hlen hl 17 (by decide) (hd ⟨17, .data⟩ (by simp) rfl)
        refine wp_value (w' := w') (v := .bool false) (by simp [execOp, ev, go_sem]) ?_
        exact ⟨_, by rw [ha]; exact putAll_put A 136 18 l _ (by omega) (by omega), by rw [List.length_set]; exact hlen, set_known hlen (by decide) hl, hB⟩
      | 19, ho =>
        cases Option.some.inj ho
        refine ⟨wanted_of (k := 154) rfl rfl rfl (known_at ha hsz hlen hl 18 (by decide) (hd ⟨18, .guard⟩ (by simp) rfl)), ?_⟩
        have ev : a.tmps[3]? = some (.pointer (some ⟨bb, 0, none⟩)) := by rw [ha, putAll_low A 136 3 l (by omega) (by decide)]; exact s3
        refine wp_value (w' := w') (v := .pointer (some ⟨bb, 0, none⟩)) (by simp [execOp, ev, go_sem]) ?_
        exact ⟨_, by rw [ha]; exact putAll_put A 136 19 l _ (by omega) (by omega), by rw [List.length_set]; exact hlen, set_known hlen (by decide) hl, hB⟩
      | 20, ho =>
        cases Option.some.inj ho
        refine ⟨wanted_of (k := 154) rfl rfl rfl (known_at ha hsz hlen hl 18 (by decide) (hd ⟨18, .guard⟩ (by simp) rfl)), ?_⟩
        have ev : a.tmps[155]? = some (.pointer (some ⟨bb, 0, none⟩)) := known_at ha hsz hlen hl 19 (by decide) (hd ⟨19, .data⟩ (by simp) rfl)
        have cB := hx_first (hx4.below hB)
        rw [hfr_.out] at cB
        refine wp_enter (f := 23) (args := #[.pointer (some ⟨bb, 0, none⟩)]) (by simp [execOp, ev, go_sem]) ?_
        refine (cB).mono ?_
        rintro e w6 ⟨rfl, rfl⟩
        refine ⟨_, rfl, ?_⟩
        exact ⟨_, by rw [ha]; exact putAll_put A 136 20 l _ (by omega) (by omega), by rw [List.length_set]; exact hlen, set_known hlen (by decide) hl, hB⟩
      | 21, ho =>
        cases Option.some.inj ho
        refine ⟨wanted_of (k := 154) rfl rfl rfl (known_at ha hsz hlen hl 18 (by decide) (hd ⟨18, .guard⟩ (by simp) rfl)), ?_⟩
        have ev : a.tmps[4]? = some (.pointer (some ⟨ub, 0, none⟩)) := by rw [ha, putAll_low A 136 4 l (by omega) (by decide)]; exact s4
        refine wp_value (w' := w') (v := .pointer (some ⟨ub, 0, none⟩)) (by simp [execOp, ev, go_sem]) ?_
        exact ⟨_, by rw [ha]; exact putAll_put A 136 21 l _ (by omega) (by omega), by rw [List.length_set]; exact hlen, set_known hlen (by decide) hl, hB⟩
      | 22, ho =>
        cases Option.some.inj ho
        refine ⟨wanted_of (k := 154) rfl rfl rfl (known_at ha hsz hlen hl 18 (by decide) (hd ⟨18, .guard⟩ (by simp) rfl)), ?_⟩
        have ev : a.tmps[157]? = some (.pointer (some ⟨ub, 0, none⟩)) := known_at ha hsz hlen hl 21 (by decide) (hd ⟨21, .data⟩ (by simp) rfl)
        refine wp_value (w' := w') (v := .pointer (some ⟨ub, 0, none⟩)) (by simp [execOp, ev, go_sem]) ?_
        exact ⟨_, by rw [ha]; exact putAll_put A 136 22 l _ (by omega) (by omega), by rw [List.length_set]; exact hlen, set_known hlen (by decide) hl, hB⟩
      | 23, ho =>
        cases Option.some.inj ho
        refine ⟨wanted_of (k := 154) rfl rfl rfl (known_at ha hsz hlen hl 18 (by decide) (hd ⟨18, .guard⟩ (by simp) rfl)), ?_⟩
        have ev : a.tmps[158]? = some (.pointer (some ⟨ub, 0, none⟩)) := known_at ha hsz hlen hl 22 (by decide) (hd ⟨22, .data⟩ (by simp) rfl)
        refine wp_value (w' := w') (v := .pointer (some ⟨ub, 0, none⟩)) (by simp [execOp, ev, go_sem]) ?_
        exact ⟨_, by rw [ha]; exact putAll_put A 136 23 l _ (by omega) (by omega), by rw [List.length_set]; exact hlen, set_known hlen (by decide) hl, hB⟩
      | 24, ho =>
        cases Option.some.inj ho
        refine ⟨wanted_of (k := 154) rfl rfl rfl (known_at ha hsz hlen hl 18 (by decide) (hd ⟨18, .guard⟩ (by simp) rfl)), ?_⟩
        have ev : a.tmps[159]? = some (.pointer (some ⟨ub, 0, none⟩)) := known_at ha hsz hlen hl 23 (by decide) (hd ⟨23, .data⟩ (by simp) rfl)
        have hc0 := (hB.cell (p := ⟨ub, 0, none⟩) lub).trans z0
        refine wp_value (w' := w') (v := .int .i64 fr_) (by simp [execOp, ev, go_sem, hc0]) ?_
        exact ⟨_, by rw [ha]; exact putAll_put A 136 24 l _ (by omega) (by omega), by rw [List.length_set]; exact hlen, set_known hlen (by decide) hl, hB⟩
      | 25, ho =>
        cases Option.some.inj ho
        refine ⟨wanted_of (k := 154) rfl rfl rfl (known_at ha hsz hlen hl 18 (by decide) (hd ⟨18, .guard⟩ (by simp) rfl)), ?_⟩
        have ev : a.tmps[156]? = some (.int .i64 fr_) := known_at ha hsz hlen hl 20 (by decide) (hd ⟨20, .data⟩ (by simp) rfl)
        have ev' : a.tmps[160]? = some (.int .i64 fr_) := known_at ha hsz hlen hl 24 (by decide) (hd ⟨24, .data⟩ (by simp) rfl)
        refine wp_value (w' := w') (v := .bool false) (by simp [execOp, ev, ev', go_sem]) ?_
        exact ⟨_, by rw [ha]; exact putAll_put A 136 25 l _ (by omega) (by omega), by rw [List.length_set]; exact hlen, set_known hlen (by decide) hl, hB⟩
      | 26, ho =>
        cases Option.some.inj ho
        refine ⟨rfl, ?_⟩
        have ev : a.tmps[154]? = some (.bool false) := known_at ha hsz hlen hl 18 (by decide) (hd ⟨18, .data⟩ (by simp) rfl)
        have ev' : a.tmps[161]? = some (.bool false) := known_at ha hsz hlen hl 25 (by decide) (hd ⟨25, .data⟩ (by simp) rfl)
        refine wp_value (w' := w') (v := .bool false) (by simp [execOp, ev, ev', go_sem]) ?_
        exact ⟨_, by rw [ha]; exact putAll_put A 136 26 l _ (by omega) (by omega), by rw [List.length_set]; exact hlen, set_known hlen (by decide) hl, hB⟩
      | 27, ho =>
        cases Option.some.inj ho
        refine ⟨rfl, ?_⟩
        have ev : a.tmps[162]? = some (.bool false) := known_at ha hsz hlen hl 26 (by decide) (hd ⟨26, .data⟩ (by simp) rfl)
        refine wp_value (w' := w') (v := .bool false) (by simp [execOp, ev, go_sem]) ?_
        exact ⟨_, by rw [ha]; exact putAll_put A 136 27 l _ (by omega) (by omega), by rw [List.length_set]; exact hlen, set_known hlen (by decide) hl, hB⟩
      | 28, ho =>
        cases Option.some.inj ho
        refine ⟨wanted_of (k := 163) rfl rfl rfl (known_at ha hsz hlen hl 27 (by decide) (hd ⟨27, .guard⟩ (by simp) rfl)), ?_⟩
        have ev : a.tmps[3]? = some (.pointer (some ⟨bb, 0, none⟩)) := by rw [ha, putAll_low A 136 3 l (by omega) (by decide)]; exact s3
        refine wp_value (w' := w') (v := .pointer (some ⟨bb, 0, none⟩)) (by simp [execOp, ev, go_sem]) ?_
        exact ⟨_, by rw [ha]; exact putAll_put A 136 28 l _ (by omega) (by omega), by rw [List.length_set]; exact hlen, set_known hlen (by decide) hl, hB⟩
      | 29, ho =>
        cases Option.some.inj ho
        refine ⟨wanted_of (k := 163) rfl rfl rfl (known_at ha hsz hlen hl 27 (by decide) (hd ⟨27, .guard⟩ (by simp) rfl)), ?_⟩
        have ev : a.tmps[6]? = some (.pointer (some ⟨xb, 0, none⟩)) := by rw [ha, putAll_low A 136 6 l (by omega) (by decide)]; exact s6
        refine wp_value (w' := w') (v := .pointer (some ⟨xb, 4, none⟩)) (by simp [execOp, ev, go_sem]) ?_
        exact ⟨_, by rw [ha]; exact putAll_put A 136 29 l _ (by omega) (by omega), by rw [List.length_set]; exact hlen, set_known hlen (by decide) hl, hB⟩
      | 30, ho =>
        cases Option.some.inj ho
        refine ⟨wanted_of (k := 163) rfl rfl rfl (known_at ha hsz hlen hl 27 (by decide) (hd ⟨27, .guard⟩ (by simp) rfl)), ?_⟩
        have ev : a.tmps[165]? = some (.pointer (some ⟨xb, 4, none⟩)) := known_at ha hsz hlen hl 29 (by decide) (hd ⟨29, .data⟩ (by simp) rfl)
        have hc0 := (hB.cell (p := ⟨xb, 4, none⟩) lxb).trans x4
        refine wp_value (w' := w') (v := .int .i64 m.o) (by simp [execOp, ev, go_sem, hc0]) ?_
        exact ⟨_, by rw [ha]; exact putAll_put A 136 30 l _ (by omega) (by omega), by rw [List.length_set]; exact hlen, set_known hlen (by decide) hl, hB⟩
      | 31, ho =>
        cases Option.some.inj ho
        refine ⟨wanted_of (k := 163) rfl rfl rfl (known_at ha hsz hlen hl 27 (by decide) (hd ⟨27, .guard⟩ (by simp) rfl)), ?_⟩
        have ev : a.tmps[164]? = some (.pointer (some ⟨bb, 0, none⟩)) := known_at ha hsz hlen hl 28 (by decide) (hd ⟨28, .data⟩ (by simp) rfl)
        have ev' : a.tmps[166]? = some (.int .i64 m.o) := known_at ha hsz hlen hl 30 (by decide) (hd ⟨30, .data⟩ (by simp) rfl)
        have cB := hx_changed (hx4.below hB) m.o
        rw [hwh.out] at cB
        refine wp_enter (f := 24) (args := #[.pointer (some ⟨bb, 0, none⟩), .int .i64 m.o]) (by simp [execOp, ev, ev', go_sem]) ?_
        refine (cB).mono ?_
        rintro e w6 ⟨rfl, rfl⟩
        refine ⟨_, rfl, ?_⟩
        exact ⟨_, by rw [ha]; exact putAll_put A 136 31 l _ (by omega) (by omega), by rw [List.length_set]; exact hlen, set_known hlen (by decide) hl, hB⟩
      | 32, ho =>
        cases Option.some.inj ho
        refine ⟨wanted_of (k := 163) rfl rfl rfl (known_at ha hsz hlen hl 27 (by decide) (hd ⟨27, .guard⟩ (by simp) rfl)), ?_⟩
        have ev : a.tmps[4]? = some (.pointer (some ⟨ub, 0, none⟩)) := by rw [ha, putAll_low A 136 4 l (by omega) (by decide)]; exact s4
        refine wp_value (w' := w') (v := .pointer (some ⟨ub, 0, none⟩)) (by simp [execOp, ev, go_sem]) ?_
        exact ⟨_, by rw [ha]; exact putAll_put A 136 32 l _ (by omega) (by omega), by rw [List.length_set]; exact hlen, set_known hlen (by decide) hl, hB⟩
      | 33, ho =>
        cases Option.some.inj ho
        refine ⟨wanted_of (k := 163) rfl rfl rfl (known_at ha hsz hlen hl 27 (by decide) (hd ⟨27, .guard⟩ (by simp) rfl)), ?_⟩
        have ev : a.tmps[6]? = some (.pointer (some ⟨xb, 0, none⟩)) := by rw [ha, putAll_low A 136 6 l (by omega) (by decide)]; exact s6
        refine wp_value (w' := w') (v := .pointer (some ⟨xb, 4, none⟩)) (by simp [execOp, ev, go_sem]) ?_
        exact ⟨_, by rw [ha]; exact putAll_put A 136 33 l _ (by omega) (by omega), by rw [List.length_set]; exact hlen, set_known hlen (by decide) hl, hB⟩
      | 34, ho =>
        cases Option.some.inj ho
        refine ⟨wanted_of (k := 163) rfl rfl rfl (known_at ha hsz hlen hl 27 (by decide) (hd ⟨27, .guard⟩ (by simp) rfl)), ?_⟩
        have ev : a.tmps[169]? = some (.pointer (some ⟨xb, 4, none⟩)) := known_at ha hsz hlen hl 33 (by decide) (hd ⟨33, .data⟩ (by simp) rfl)
        have hc0 := (hB.cell (p := ⟨xb, 4, none⟩) lxb).trans x4
        refine wp_value (w' := w') (v := .int .i64 m.o) (by simp [execOp, ev, go_sem, hc0]) ?_
        exact ⟨_, by rw [ha]; exact putAll_put A 136 34 l _ (by omega) (by omega), by rw [List.length_set]; exact hlen, set_known hlen (by decide) hl, hB⟩
      | 35, ho =>
        cases Option.some.inj ho
        refine ⟨wanted_of (k := 163) rfl rfl rfl (known_at ha hsz hlen hl 27 (by decide) (hd ⟨27, .guard⟩ (by simp) rfl)), ?_⟩
        have ev : a.tmps[168]? = some (.pointer (some ⟨ub, 0, none⟩)) := known_at ha hsz hlen hl 32 (by decide) (hd ⟨32, .data⟩ (by simp) rfl)
        have ev' : a.tmps[170]? = some (.int .i64 m.o) := known_at ha hsz hlen hl 34 (by decide) (hd ⟨34, .data⟩ (by simp) rfl)
        have cB := hx_rchanged (hx4.below hB) (by omega) m.o
        rw [hwh.out] at cB
        refine wp_enter (f := 25) (args := #[.pointer (some ⟨ub, 0, none⟩), .int .i64 m.o]) (by simp [execOp, ev, ev', go_sem]) ?_
        refine (cB).mono ?_
        rintro e w6 ⟨rfl, rfl⟩
        refine ⟨_, rfl, ?_⟩
        exact ⟨_, by rw [ha]; exact putAll_put A 136 35 l _ (by omega) (by omega), by rw [List.length_set]; exact hlen, set_known hlen (by decide) hl, hB⟩
      | 36, ho =>
        cases Option.some.inj ho
        refine ⟨wanted_of (k := 163) rfl rfl rfl (known_at ha hsz hlen hl 27 (by decide) (hd ⟨27, .guard⟩ (by simp) rfl)), ?_⟩
        have ev : a.tmps[167]? = some (.int .i64 wh) := known_at ha hsz hlen hl 31 (by decide) (hd ⟨31, .data⟩ (by simp) rfl)
        have ev' : a.tmps[171]? = some (.int .i64 wh) := known_at ha hsz hlen hl 35 (by decide) (hd ⟨35, .data⟩ (by simp) rfl)
        refine wp_value (w' := w') (v := .bool false) (by simp [execOp, ev, ev', go_sem]) ?_
        exact ⟨_, by rw [ha]; exact putAll_put A 136 36 l _ (by omega) (by omega), by rw [List.length_set]; exact hlen, set_known hlen (by decide) hl, hB⟩
      | 37, ho =>
        cases Option.some.inj ho
        refine ⟨rfl, ?_⟩
        have ev : a.tmps[163]? = some (.bool false) := known_at ha hsz hlen hl 27 (by decide) (hd ⟨27, .data⟩ (by simp) rfl)
        have ev' : a.tmps[172]? = some (.bool false) := known_at ha hsz hlen hl 36 (by decide) (hd ⟨36, .data⟩ (by simp) rfl)
        refine wp_value (w' := w') (v := .bool false) (by simp [execOp, ev, ev', go_sem]) ?_
        exact ⟨_, by rw [ha]; exact putAll_put A 136 37 l _ (by omega) (by omega), by rw [List.length_set]; exact hlen, set_known hlen (by decide) hl, hB⟩
      | i + 38, ho => simp at ho
    case done =>
      rintro D a w' ⟨l, ha, hlen, hl, hB⟩ hall
      obtain ⟨v0, v1, v2, v3, v4, v5, v6, v7, v8, v9, v10, v11, v12, v13, v14, v15, v16, v17, v18, v19, v20, v21, v22, v23, v24, v25, v26, v27, v28, v29, v30, v31, v32, v33, v34, v35, v36, v37, rfl⟩ := qaV37_list hlen
      have hb9 := hB
      have e37 : some v37 = some (.bool false) := hl 37 (by decide) (hall 37 (by decide))
      obtain rfl := Option.some.inj e37
      clear e37 hall hB hl hlen hsz s3 s4 s6 s11 s12 s13 s14
      subst hA
      have hfr : a = _ := ha
      rw [hfr]
      clear hfr ha
      simp only [putAll, List.take_succ_cons, List.take_zero, List.drop_succ_cons, List.drop_zero, List.cons_append, List.nil_append, List.length_cons, List.length_nil]
      clear hx4 ro4 ro10 bx4 io1 io2
      go_wp2
      go_meet
      exact ⟨rfl, hb9⟩
  case rest =>
    obtain ⟨rfl, hb9⟩ := hcut
    have hx := hx4.below hb9
    have ro := ro4.below hb9
    have bx := bx4.below hb9
    have E11 := (hb9.block b11 (lt_of_block' E10)).trans E10
    obtain ⟨g0, g1, g2, _⟩ := obj_cells E11
    have hV := ShV.of_own ro.v
    have hBb := ShB.of_own ro.b
    clear hx4 ro4 ro10 bx4 hb9 E10 E11 io1 io2 y0 y1 y2 q0 q1 q2 l11 l13 z0 z1 lub x3 x4 lxb
    go_wp2_with fail
    refine (spoil_any hV hBb).mono ?_
    rintro e w11 ⟨rfl, F11, K11⟩
    have hxa : Hx w AA bb tt ub uu kk w11 := hx.spoil F11 (fun g hg => ⟨ro.out g hg, (ro.lt hg).1⟩)
    have bxa : Bx AA w11 xb (actC m cc) := bx.fr F11 (fun hg => by
      obtain ⟨_, cur, e, hh, he⟩ := ro.lt hg
      have hb := bx.blk
      rw [hh] at hb
      unfold actC at hb
      rcases he with rfl | rfl
      · cases hb
      · cases hb)
    clear hx ro bx g0 g1 g2 hV hBb F11 K11
    go_wp2_with fail
    refine (hx_all hxa).mono ?_
    rintro e w12 ⟨oa, on, oc, rfl, oE, B12⟩
    obtain ⟨xs, hxs⟩ : ∃ q, Hid (liveU uu uu.end_ = q) := ⟨_, rfl⟩
    rw [hxs.out] at oE
    rw [hen_.out] at hxs
    rw [hen_.out]
    have hfew : Hid (xs.length ≤ 4096) := by
      rw [← hxs.out, ← hen_.out]
      exact Nat.le_trans (List.length_filter_le _ _) (hxa.rel.ok.few _)
    obtain ⟨ss, hss0, rc⟩ := Rc.new (W0 := w) (A := AA) hxa.bel.size (fun g hg => hxa.lt hg) oE
    have hss : Hid (ss.map Cs.x = xs) := hss0
    have hon : on ≤ 1954687338264 := by
      have h1 := rc.len
      have h2 := congrArg List.length hss0
      rw [List.length_map] at h2
      have h3 := hfew.out
      omega
    have hx9 := hxa.below B12
    have bx9 := bxa.below B12
    have B14 : Below w12.heap.size w12 (w12.alloc (recB en_ (.slice oa on oc) 38)) := box_below
    have E14 : Bx AA (w12.alloc (recB en_ (.slice oa on oc) 38)) w12.heap.size (recB en_ (.slice oa on oc) 38) := ⟨new1 _ _, fun q => by have := hx9.lt q; omega⟩
    have hx10 := hx9.below B14
    have bx10 := bx9.below B14
    have rc10 := rc.below B14
    clear hss0 oE hxa bxa B12 hx9 bx9 rc B14
    unfold recB at E14 hx10 bx10 rc10
    go_upto_region 41 with fail
    generalize w12.alloc (.cells #[.int .i64 en_, .slice oa on oc] 38) = w14 at *
    obtain ⟨b15, hb15⟩ : ∃ q, q = w12.heap.size := ⟨_, rfl⟩
    rw [← hb15] at E14 ⊢
    clear hb15
    have hx4 := hx10
    have bx4 := bx10
    have e15 : Bx AA w14 b15 (recB en_ (.slice oa on oc) 38) := E14
    have rc4 := rc10
    clear hx10 bx10 E14 rc10
    obtain ⟨bv, lv, wv, hub⟩ := hx4.hy.ublk
    rw [hen_.out, hfr_.out] at hub
    obtain ⟨_, z1, _⟩ := rt_cells hub
    have lub := lt_of_block' hub
    obtain ⟨_, _, _, x3, _⟩ := act_cells bx4.blk
    have lxb := lt_of_block' bx4.blk
    obtain ⟨r0, r1⟩ := rec_cells e15.blk
    have l15 := lt_of_block' e15.blk
    obtain ⟨L1, hL1e⟩ : ∃ q, Hid (roopsL uu cc = q) := ⟨_, rfl⟩
    obtain ⟨L2, hL2e⟩ : ∃ q, Hid (roopsL uu en_ = q) := ⟨_, rfl⟩
    obtain ⟨L3, hL3e⟩ : ∃ q, Hid (fr3 (rfreeP uu) = q) := ⟨_, rfl⟩
    have few1 : L1.length ≤ 4096 := by rw [← hL1e.out]; exact roopsL_few hx4 cc
    have few2 : L2.length ≤ 4096 := by rw [← hL2e.out]; exact roopsL_few hx4 en_
    have few3 : L3.length ≤ 4096 := by rw [← hL3e.out]; exact fr3_few _
    clear hub
    go_cut [219] from 21 to 233 (fun v wx => v = .bool false ∧ Below w14.heap.size w14 wx)
    case first =>
      refine abstract_act fun A hA => ?_
      have hsz : A.tmps.size = 235 := by rw [hA]; rfl
      have s3 : A.tmps[3]? = some (.pointer (some ⟨bb, 0, none⟩)) := by rw [hA]; rfl
      have s4 : A.tmps[4]? = some (.pointer (some ⟨ub, 0, none⟩)) := by rw [hA]; rfl
      have s6 : A.tmps[6]? = some (.pointer (some ⟨xb, 0, none⟩)) := by rw [hA]; rfl
      have s15 : A.tmps[15]? = some (.pointer (some ⟨b15, 0, none⟩)) := by rw [hA]; rfl
      refine wp_region_inv2' (fun A D a w' => ∃ (l : List Value) (la1 : Option Addr) (ln1 : Nat) (lc1 : Nat) (la2 : Option Addr) (ln2 : Nat) (lc2 : Nat) (la3 : Option Addr) (ln3 : Nat) (lc3 : Nat) (la4 : Option Addr) (ln4 : Nat) (lc4 : Nat) (la5 : Option Addr) (ln5 : Nat) (lc5 : Nat) (la6 : Option Addr) (ln6 : Nat) (lc6 : Nat) (la7 : Option Addr) (ln7 : Nat) (lc7 : Nat) (la8 : Option Addr) (ln8 : Nat) (lc8 : Nat), a = putAll A 178 l ∧ l.length = 42 ∧ (∀ j, j < 42 → D j → l[j]? = some (qbV41 bb ub xb cc en_ oa on oc la1 la2 la3 la4 la5 la6 la7 la8 ln1 lc1 ln2 lc2 ln3 lc3 ln4 lc4 ln5 lc5 ln6 lc6 ln7 lc7 ln8 lc8 j)) ∧ (Below w14.heap.size w14 w') ∧ (D 3 → LsJ w' la1 ln1 lc1 L1) ∧ (D 7 → LsJ w' la2 ln2 lc2 L1) ∧ (D 16 → LsJ w' la3 ln3 lc3 L2) ∧ (D 22 → LsJ w' la4 ln4 lc4 L2) ∧ (D 28 → LsJ w' la5 ln5 lc5 L3) ∧ (D 30 → LsJ w' la6 ln6 lc6 L3) ∧ (D 36 → IsC w' la7 ln7 lc7 xs) ∧ (D 38 → IsC w' la8 ln8 lc8 xs)) (by kernel_rfl) (by kernel_rfl) ?mono ?start ?step ?done
      case mono =>
        rintro D D' a w' hD ⟨l, la1, ln1, lc1, la2, ln2, lc2, la3, ln3, lc3, la4, ln4, lc4, la5, ln5, lc5, la6, ln6, lc6, la7, ln7, lc7, la8, ln8, lc8, ha, hlen, hl, hB, hL1, hL2, hL3, hL4, hL5, hL6, hL7, hL8⟩
        exact ⟨l, la1, ln1, lc1, la2, ln2, lc2, la3, ln3, lc3, la4, ln4, lc4, la5, ln5, lc5, la6, ln6, lc6, la7, ln7, lc7, la8, ln8, lc8, ha, hlen, fun j hj h => hl j hj ((hD j).2 h), hB, fun h => hL1 ((hD 3).2 h), fun h => hL2 ((hD 7).2 h), fun h => hL3 ((hD 16).2 h), fun h => hL4 ((hD 22).2 h), fun h => hL5 ((hD 28).2 h), fun h => hL6 ((hD 30).2 h), fun h => hL7 ((hD 36).2 h), fun h => hL8 ((hD 38).2 h)⟩
      case start => exact ⟨_, none, 0, 0, none, 0, 0, none, 0, 0, none, 0, 0, none, 0, 0, none, 0, 0, none, 0, 0, none, 0, 0, (putAll_start A 178 42 (by omega)).1, (putAll_start A 178 42 (by omega)).2, fun _ _ h => h.elim, (Below.refl _ _).drew, fun h => h.elim, fun h => h.elim, fun h => h.elim, fun h => h.elim, fun h => h.elim, fun h => h.elim, fun h => h.elim, fun h => h.elim⟩
      case step =>
        clear hA
        intro i o ho D a w' hI hn hcl hd
        obtain ⟨l, la1, ln1, lc1, la2, ln2, lc2, la3, ln3, lc3, la4, ln4, lc4, la5, ln5, lc5, la6, ln6, lc6, la7, ln7, lc7, la8, ln8, lc8, ha, hlen, hl, hB, hL1, hL2, hL3, hL4, hL5, hL6, hL7, hL8⟩ := hI
        match i, ho with
        | 0, ho =>
          cases Option.some.inj ho
          refine ⟨rfl, ?_⟩
          have ev : a.tmps[3]? = some (.pointer (some ⟨bb, 0, none⟩)) := by rw [ha, putAll_low A 178 3 l (by omega) (by decide)]; exact s3
          refine wp_value (w' := w') (v := .pointer (some ⟨bb, 0, none⟩)) (by simp [execOp, ev, go_sem]) ?_
          exact ⟨_, la1, ln1, lc1, la2, ln2, lc2, la3, ln3, lc3, la4, ln4, lc4, la5, ln5, lc5, la6, ln6, lc6, la7, ln7, lc7, la8, ln8, lc8, by rw [ha]; exact putAll_put A 178 0 l _ (by omega) (by omega), by rw [List.length_set]; exact hlen, set_known hlen (by decide) hl, hB, fun h => hL1 (h.resolve_left (by decide)), fun h => hL2 (h.resolve_left (by decide)), fun h => hL3 (h.resolve_left (by decide)), fun h => hL4 (h.resolve_left (by decide)), fun h => hL5 (h.resolve_left (by decide)), fun h => hL6 (h.resolve_left (by decide)), fun h => hL7 (h.resolve_left (by decide)), fun h => hL8 (h.resolve_left (by decide))⟩
        | 1, ho =>
          cases Option.some.inj ho
          refine ⟨rfl, ?_⟩
          have ev : a.tmps[6]? = some (.pointer (some ⟨xb, 0, none⟩)) := by rw [ha, putAll_low A 178 6 l (by omega) (by decide)]; exact s6
          refine wp_value (w' := w') (v := .pointer (some ⟨xb, 3, none⟩)) (by simp [execOp, ev, go_sem]) ?_
          exact ⟨_, la1, ln1, lc1, la2, ln2, lc2, la3, ln3, lc3, la4, ln4, lc4, la5, ln5, lc5, la6, ln6, lc6, la7, ln7, lc7, la8, ln8, lc8, by rw [ha]; exact putAll_put A 178 1 l _ (by omega) (by omega), by rw [List.length_set]; exact hlen, set_known hlen (by decide) hl, hB, fun h => hL1 (h.resolve_left (by decide)), fun h => hL2 (h.resolve_left (by decide)), fun h => hL3 (h.resolve_left (by decide)), fun h => hL4 (h.resolve_left (by decide)), fun h => hL5 (h.resolve_left (by decide)), fun h => hL6 (h.resolve_left (by decide)), fun h => hL7 (h.resolve_left (by decide)), fun h => hL8 (h.resolve_left (by decide))⟩
        | 2, ho =>
          cases Option.some.inj ho
          refine ⟨rfl, ?_⟩
          have ev : a.tmps[179]? = some (.pointer (some ⟨xb, 3, none⟩)) := known_at ha hsz hlen hl 1 (by decide) (hd ⟨1, .data⟩ (by simp) rfl)
          have hc0 := (hB.cell (p := ⟨xb, 3, none⟩) lxb).trans x3
          refine wp_value (w' := w') (v := .int .i64 cc) (by simp [execOp, ev, go_sem, hc0]) ?_
          exact ⟨_, la1, ln1, lc1, la2, ln2, lc2, la3, ln3, lc3, la4, ln4, lc4, la5, ln5, lc5, la6, ln6, lc6, la7, ln7, lc7, la8, ln8, lc8, by rw [ha]; exact putAll_put A 178 2 l _ (by omega) (by omega), by rw [List.length_set]; exact hlen, set_known hlen (by decide) hl, hB, fun h => hL1 (h.resolve_left (by decide)), fun h => hL2 (h.resolve_left (by decide)), fun h => hL3 (h.resolve_left (by decide)), fun h => hL4 (h.resolve_left (by decide)), fun h => hL5 (h.resolve_left (by decide)), fun h => hL6 (h.resolve_left (by decide)), fun h => hL7 (h.resolve_left (by decide)), fun h => hL8 (h.resolve_left (by decide))⟩
        | 3, ho =>
          cases Option.some.inj ho
          refine ⟨rfl, ?_⟩
          have ev : a.tmps[178]? = some (.pointer (some ⟨bb, 0, none⟩)) := known_at ha hsz hlen hl 0 (by decide) (hd ⟨0, .data⟩ (by simp) rfl)
          have ev' : a.tmps[180]? = some (.int .i64 cc) := known_at ha hsz hlen hl 2 (by decide) (hd ⟨2, .data⟩ (by simp) rfl)
          have cO := hx_oops (hx4.below hB) cc
          rw [hL1e.out] at cO
          refine wp_enter (f := 28) (args := #[.pointer (some ⟨bb, 0, none⟩), .int .i64 cc]) (by simp [execOp, ev, ev', go_sem]) ?_
          refine (cO).mono ?_
          rintro e w6 ⟨za, zn, zc, rfl, HN, HR, HB⟩
          refine ⟨_, rfl, ?_⟩
          exact ⟨_, za, zn, zc, la2, ln2, lc2, la3, ln3, lc3, la4, ln4, lc4, la5, ln5, lc5, la6, ln6, lc6, la7, ln7, lc7, la8, ln8, lc8, by rw [ha]; exact putAll_put A 178 3 l _ (by omega) (by omega), by rw [List.length_set]; exact hlen, set_known' (val' := qbV41 bb ub xb cc en_ oa on oc za la2 la3 la4 la5 la6 la7 la8 zn zc ln2 lc2 ln3 lc3 ln4 lc4 ln5 lc5 ln6 lc6 ln7 lc7 ln8 lc8) hlen (by decide) hl (fun j hj hne => match j, hj, hne with | 0, _, _ => rfl | 1, _, _ => rfl | 2, _, _ => rfl | 3, _, hne => absurd rfl hne | 4, _, _ => rfl | 5, _, _ => rfl | 6, _, _ => rfl | 7, _, _ => rfl | 8, _, _ => rfl | 9, _, _ => rfl | 10, _, _ => rfl | 11, _, _ => rfl | 12, _, _ => rfl | 13, _, _ => rfl | 14, _, _ => rfl | 15, _, _ => rfl | 16, _, _ => rfl | 17, _, _ => rfl | 18, _, _ => rfl | 19, _, _ => rfl | 20, _, _ => rfl | 21, _, _ => rfl | 22, _, _ => rfl | 23, _, _ => rfl | 24, _, _ => rfl | 25, _, _ => rfl | 26, _, _ => rfl | 27, _, _ => rfl | 28, _, _ => rfl | 29, _, _ => rfl | 30, _, _ => rfl | 31, _, _ => rfl | 32, _, _ => rfl | 33, _, _ => rfl | 34, _, _ => rfl | 35, _, _ => rfl | 36, _, _ => rfl | 37, _, _ => rfl | 38, _, _ => rfl | 39, _, _ => rfl | 40, _, _ => rfl | 41, _, _ => rfl | j + 42, _, _ => rfl), below_size hB hB.size HB, fun _ => ⟨⟨_, HR⟩, HN, by rw [HN]; exact few1⟩, fun h => (hL2 (h.resolve_left (by decide))).below HB, fun h => (hL3 (h.resolve_left (by decide))).below HB, fun h => (hL4 (h.resolve_left (by decide))).below HB, fun h => (hL5 (h.resolve_left (by decide))).below HB, fun h => (hL6 (h.resolve_left (by decide))).below HB, fun h => (hL7 (h.resolve_left (by decide))).below HB, fun h => (hL8 (h.resolve_left (by decide))).below HB⟩
        | 4, ho =>
          cases Option.some.inj ho
          refine ⟨rfl, ?_⟩
          have ev : a.tmps[4]? = some (.pointer (some ⟨ub, 0, none⟩)) := by rw [ha, putAll_low A 178 4 l (by omega) (by decide)]; exact s4
          refine wp_value (w' := w') (v := .pointer (some ⟨ub, 0, none⟩)) (by simp [execOp, ev, go_sem]) ?_
          exact ⟨_, la1, ln1, lc1, la2, ln2, lc2, la3, ln3, lc3, la4, ln4, lc4, la5, ln5, lc5, la6, ln6, lc6, la7, ln7, lc7, la8, ln8, lc8, by rw [ha]; exact putAll_put A 178 4 l _ (by omega) (by omega), by rw [List.length_set]; exact hlen, set_known hlen (by decide) hl, hB, fun h => hL1 (h.resolve_left (by decide)), fun h => hL2 (h.resolve_left (by decide)), fun h => hL3 (h.resolve_left (by decide)), fun h => hL4 (h.resolve_left (by decide)), fun h => hL5 (h.resolve_left (by decide)), fun h => hL6 (h.resolve_left (by decide)), fun h => hL7 (h.resolve_left (by decide)), fun h => hL8 (h.resolve_left (by decide))⟩
        | 5, ho =>
          cases Option.some.inj ho
          refine ⟨rfl, ?_⟩
          have ev : a.tmps[6]? = some (.pointer (some ⟨xb, 0, none⟩)) := by rw [ha, putAll_low A 178 6 l (by omega) (by decide)]; exact s6
          refine wp_value (w' := w') (v := .pointer (some ⟨xb, 3, none⟩)) (by simp [execOp, ev, go_sem]) ?_
          exact ⟨_, la1, ln1, lc1, la2, ln2, lc2, la3, ln3, lc3, la4, ln4, lc4, la5, ln5, lc5, la6, ln6, lc6, la7, ln7, lc7, la8, ln8, lc8, by rw [ha]; exact putAll_put A 178 5 l _ (by omega) (by omega), by rw [List.length_set]; exact hlen, set_known hlen (by decide) hl, hB, fun h => hL1 (h.resolve_left (by decide)), fun h => hL2 (h.resolve_left (by decide)), fun h => hL3 (h.resolve_left (by decide)), fun h => hL4 (h.resolve_left (by decide)), fun h => hL5 (h.resolve_left (by decide)), fun h => hL6 (h.resolve_left (by decide)), fun h => hL7 (h.resolve_left (by decide)), fun h => hL8 (h.resolve_left (by decide))⟩
        | 6, ho =>
          cases Option.some.inj ho
          refine ⟨rfl, ?_⟩
          have ev : a.tmps[183]? = some (.pointer (some ⟨xb, 3, none⟩)) := known_at ha hsz hlen hl 5 (by decide) (hd ⟨5, .data⟩ (by simp) rfl)
          have hc0 := (hB.cell (p := ⟨xb, 3, none⟩) lxb).trans x3
          refine wp_value (w' := w') (v := .int .i64 cc) (by simp [execOp, ev, go_sem, hc0]) ?_
          exact ⟨_, la1, ln1, lc1, la2, ln2, lc2, la3, ln3, lc3, la4, ln4, lc4, la5, ln5, lc5, la6, ln6, lc6, la7, ln7, lc7, la8, ln8, lc8, by rw [ha]; exact putAll_put A 178 6 l _ (by omega) (by omega), by rw [List.length_set]; exact hlen, set_known hlen (by decide) hl, hB, fun h => hL1 (h.resolve_left (by decide)), fun h => hL2 (h.resolve_left (by decide)), fun h => hL3 (h.resolve_left (by decide)), fun h => hL4 (h.resolve_left (by decide)), fun h => hL5 (h.resolve_left (by decide)), fun h => hL6 (h.resolve_left (by decide)), fun h => hL7 (h.resolve_left (by decide)), fun h => hL8 (h.resolve_left (by decide))⟩
        | 7, ho =>
          cases Option.some.inj ho
          refine ⟨rfl, ?_⟩
          have ev : a.tmps[182]? = some (.pointer (some ⟨ub, 0, none⟩)) := known_at ha hsz hlen hl 4 (by decide) (hd ⟨4, .data⟩ (by simp) rfl)
          have ev' : a.tmps[184]? = some (.int .i64 cc) := known_at ha hsz hlen hl 6 (by decide) (hd ⟨6, .data⟩ (by simp) rfl)
          have cO := hx_roops (hx4.below hB) (by omega) cc
          rw [hL1e.out] at cO
          refine wp_enter (f := 29) (args := #[.pointer (some ⟨ub, 0, none⟩), .int .i64 cc]) (by simp [execOp, ev, ev', go_sem]) ?_
          refine (cO).mono ?_
          rintro e w6 ⟨za, zn, zc, rfl, HN, HR, HB⟩
          refine ⟨_, rfl, ?_⟩
          exact ⟨_, la1, ln1, lc1, za, zn, zc, la3, ln3, lc3, la4, ln4, lc4, la5, ln5, lc5, la6, ln6, lc6, la7, ln7, lc7, la8, ln8, lc8, by rw [ha]; exact putAll_put A 178 7 l _ (by omega) (by omega), by rw [List.length_set]; exact hlen, set_known' (val' := qbV41 bb ub xb cc en_ oa on oc la1 za la3 la4 la5 la6 la7 la8 ln1 lc1 zn zc ln3 lc3 ln4 lc4 ln5 lc5 ln6 lc6 ln7 lc7 ln8 lc8) hlen (by decide) hl (fun j hj hne => match j, hj, hne with | 0, _, _ => rfl | 1, _, _ => rfl | 2, _, _ => rfl | 3, _, _ => rfl | 4, _, _ => rfl | 5, _, _ => rfl | 6, _, _ => rfl | 7, _, hne => absurd rfl hne | 8, _, _ => rfl | 9, _, _ => rfl | 10, _, _ => rfl | 11, _, _ => rfl | 12, _, _ => rfl | 13, _, _ => rfl | 14, _, _ => rfl | 15, _, _ => rfl | 16, _, _ => rfl | 17, _, _ => rfl | 18, _, _ => rfl | 19, _, _ => rfl | 20, _, _ => rfl | 21, _, _ => rfl | 22, _, _ => rfl | 23, _, _ => rfl | 24, _, _ => rfl | 25, _, _ => rfl | 26, _, _ => rfl | 27, _, _ => rfl | 28, _, _ => rfl | 29, _, _ => rfl | 30, _, _ => rfl | 31, _, _ => rfl | 32, _, _ => rfl | 33, _, _ => rfl | 34, _, _ => rfl | 35, _, _ => rfl | 36, _, _ => rfl | 37, _, _ => rfl | 38, _, _ => rfl | 39, _, _ => rfl | 40, _, _ => rfl | 41, _, _ => rfl | j + 42, _, _ => rfl), below_size hB hB.size HB, fun h => (hL1 (h.resolve_left (by decide))).below HB, fun _ => ⟨⟨_, HR⟩, HN, by rw [HN]; exact few1⟩, fun h => (hL3 (h.resolve_left (by decide))).below HB, fun h => (hL4 (h.resolve_left (by decide))).below HB, fun h => (hL5 (h.resolve_left (by decide))).below HB, fun h => (hL6 (h.resolve_left (by decide))).below HB, fun h => (hL7 (h.resolve_left (by decide))).below HB, fun h => (hL8 (h.resolve_left (by decide))).below HB⟩
        | 8, ho =>
          cases Option.some.inj ho
          refine ⟨rfl, ?_⟩
          have ev : a.tmps[181]? = some (.slice la1 ln1 lc1) := known_at ha hsz hlen hl 3 (by decide) (hd ⟨3, .data⟩ (by simp) rfl)
          have ev' : a.tmps[185]? = some (.slice la2 ln2 lc2) := known_at ha hsz hlen hl 7 (by decide) (hd ⟨7, .data⟩ (by simp) rfl)
          refine wp_enter (f := 27) (args := #[.slice la1 ln1 lc1, .slice la2 ln2 lc2]) (by simp [execOp, ev, ev', go_sem]) ?_
          refine (lj_same (hL1 (hd ⟨3, .data⟩ (by simp) rfl)) (hL2 (hd ⟨7, .data⟩ (by simp) rfl))).mono ?_
          rintro e w6 ⟨rfl, HB⟩
          refine ⟨_, rfl, ?_⟩
          exact ⟨_, la1, ln1, lc1, la2, ln2, lc2, la3, ln3, lc3, la4, ln4, lc4, la5, ln5, lc5, la6, ln6, lc6, la7, ln7, lc7, la8, ln8, lc8, by rw [ha]; exact putAll_put A 178 8 l _ (by omega) (by omega), by rw [List.length_set]; exact hlen, set_known hlen (by decide) hl, below_size hB hB.size HB, fun h => (hL1 (h.resolve_left (by decide))).below HB, fun h => (hL2 (h.resolve_left (by decide))).below HB, fun h => (hL3 (h.resolve_left (by decide))).below HB, fun h => (hL4 (h.resolve_left (by decide))).below HB, fun h => (hL5 (h.resolve_left (by decide))).below HB, fun h => (hL6 (h.resolve_left (by decide))).below HB, fun h => (hL7 (h.resolve_left (by decide))).below HB, fun h => (hL8 (h.resolve_left (by decide))).below HB⟩
        | 9, ho =>
          cases Option.some.inj ho
          refine ⟨rfl, ?_⟩
          have ev : a.tmps[186]? = some (.bool true) := known_at ha hsz hlen hl 8 (by decide) (hd ⟨8, .data⟩ (by simp) rfl)
          refine wp_value (w' := w') (v := .bool false) (by simp [execOp, ev, go_sem]) ?_
          exact ⟨_, la1, ln1, lc1, la2, ln2, lc2, la3, ln3, lc3, la4, ln4, lc4, la5, ln5, lc5, la6, ln6, lc6, la7, ln7, lc7, la8, ln8, lc8, by rw [ha]; exact putAll_put A 178 9 l _ (by omega) (by omega), by rw [List.length_set]; exact hlen, set_known hlen (by decide) hl, hB, fun h => hL1 (h.resolve_left (by decide)), fun h => hL2 (h.resolve_left (by decide)), fun h => hL3 (h.resolve_left (by decide)), fun h => hL4 (h.resolve_left (by decide)), fun h => hL5 (h.resolve_left (by decide)), fun h => hL6 (h.resolve_left (by decide)), fun h => hL7 (h.resolve_left (by decide)), fun h => hL8 (h.resolve_left (by decide))⟩
        | 10, ho =>
          cases Option.some.inj ho
          refine ⟨rfl, ?_⟩
          have ev : a.tmps[187]? = some (.bool false) := known_at ha hsz hlen hl 9 (by decide) (hd ⟨9, .data⟩ (by simp) rfl)
          refine wp_value (w' := w') (v := .bool false) (by simp [execOp, ev, go_sem]) ?_
          exact ⟨_, la1, ln1, lc1, la2, ln2, lc2, la3, ln3, lc3, la4, ln4, lc4, la5, ln5, lc5, la6, ln6, lc6, la7, ln7, lc7, la8, ln8, lc8, by rw [ha]; exact putAll_put A 178 10 l _ (by omega) (by omega), by rw [List.length_set]; exact hlen, set_known hlen (by decide) hl, hB, fun h => hL1 (h.resolve_left (by decide)), fun h => hL2 (h.resolve_left (by decide)), fun h => hL3 (h.resolve_left (by decide)), fun h => hL4 (h.resolve_left (by decide)), fun h => hL5 (h.resolve_left (by decide)), fun h => hL6 (h.resolve_left (by decide)), fun h => hL7 (h.resolve_left (by decide)), fun h => hL8 (h.resolve_left (by decide))⟩
        | 11, ho =>
          cases Option.some.inj ho
          refine ⟨wanted_of (k := 188) rfl rfl rfl (known_at ha hsz hlen hl 10 (by decide) (hd ⟨10, .guard⟩ (by simp) rfl)), ?_⟩
          have ev : a.tmps[3]? = some (.pointer (some ⟨bb, 0, none⟩)) := by rw [ha, putAll_low A 178 3 l (by omega) (by decide)]; exact s3
          refine wp_value (w' := w') (v := .pointer (some ⟨bb, 0, none⟩)) (by simp [execOp, ev, go_sem]) ?_
          exact ⟨_, la1, ln1, lc1, la2, ln2, lc2, la3, ln3, lc3, la4, ln4, lc4, la5, ln5, lc5, la6, ln6, lc6, la7, ln7, lc7, la8, ln8, lc8, by rw [ha]; exact putAll_put A 178 11 l _ (by omega) (by omega), by rw [List.length_set]; exact hlen, set_known hlen (by decide) hl, hB, fun h => hL1 (h.resolve_left (by decide)), fun h => hL2 (h.resolve_left (by decide)), fun h => hL3 (h.resolve_left (by decide)), fun h => hL4 (h.resolve_left (by decide)), fun h => hL5 (h.resolve_left (by decide)), fun h => hL6 (h.resolve_left (by decide)), fun h => hL7 (h.resolve_left (by decide)), fun h => hL8 (h.resolve_left (by decide))⟩
        | 12, ho =>
          cases Option.some.inj ho
          refine ⟨wanted_of (k := 188) rfl rfl rfl (known_at ha hsz hlen hl 10 (by decide) (hd ⟨10, .guard⟩ (by simp) rfl)), ?_⟩
          have ev : a.tmps[4]? = some (.pointer (some ⟨ub, 0, none⟩)) := by rw [ha, putAll_low A 178 4 l (by omega) (by decide)]; exact s4
          refine wp_value (w' := w') (v := .pointer (some ⟨ub, 0, none⟩)) (by simp [execOp, ev, go_sem]) ?_
          exact ⟨_, la1, ln1, lc1, la2, ln2, lc2, la3, ln3, lc3, la4, ln4, lc4, la5, ln5, lc5, la6, ln6, lc6, la7, ln7, lc7, la8, ln8, lc8, by rw [ha]; exact putAll_put A 178 12 l _ (by omega) (by omega), by rw [List.length_set]; exact hlen, set_known hlen (by decide) hl, hB, fun h => hL1 (h.resolve_left (by decide)), fun h => hL2 (h.resolve_left (by decide)), fun h => hL3 (h.resolve_left (by decide)), fun h => hL4 (h.resolve_left (by decide)), fun h => hL5 (h.resolve_left (by decide)), fun h => hL6 (h.resolve_left (by decide)), fun h => hL7 (h.resolve_left (by decide)), fun h => hL8 (h.resolve_left (by decide))⟩
        | 13, ho =>
          cases Option.some.inj ho
          refine ⟨wanted_of (k := 188) rfl rfl rfl (known_at ha hsz hlen hl 10 (by decide) (hd ⟨10, .guard⟩ (by simp) rfl)), ?_⟩
          have ev : a.tmps[190]? = some (.pointer (some ⟨ub, 0, none⟩)) := known_at ha hsz hlen hl 12 (by decide) (hd ⟨12, .data⟩ (by simp) rfl)
          refine wp_value (w' := w') (v := .pointer (some ⟨ub, 0, none⟩)) (by simp [execOp, ev, go_sem]) ?_
          exact ⟨_, la1, ln1, lc1, la2, ln2, lc2, la3, ln3, lc3, la4, ln4, lc4, la5, ln5, lc5, la6, ln6, lc6, la7, ln7, lc7, la8, ln8, lc8, by rw [ha]; exact putAll_put A 178 13 l _ (by omega) (by omega), by rw [List.length_set]; exact hlen, set_known hlen (by decide) hl, hB, fun h => hL1 (h.resolve_left (by decide)), fun h => hL2 (h.resolve_left (by decide)), fun h => hL3 (h.resolve_left (by decide)), fun h => hL4 (h.resolve_left (by decide)), fun h => hL5 (h.resolve_left (by decide)), fun h => hL6 (h.resolve_left (by decide)), fun h => hL7 (h.resolve_left (by decide)), fun h => hL8 (h.resolve_left (by decide))⟩
        | 14, ho =>
          cases Option.some.inj ho
          refine ⟨wanted_of (k := 188) rfl rfl rfl (known_at ha hsz hlen hl 10 (by decide) (hd ⟨10, .guard⟩ (by simp) rfl)), ?_⟩
          have ev : a.tmps[191]? = some (.pointer (some ⟨ub, 0, none⟩)) := known_at ha hsz hlen hl 13 (by decide) (hd ⟨13, .data⟩ (by simp) rfl)
          refine wp_value (w' := w') (v := .pointer (some ⟨ub, 1, none⟩)) (by simp [execOp, ev, go_sem]) ?_
          exact ⟨_, la1, ln1, lc1, la2, ln2, lc2, la3, ln3, lc3, la4, ln4, lc4, la5, ln5, lc5, la6, ln6, lc6, la7, ln7, lc7, la8, ln8, lc8, by rw [ha]; exact putAll_put A 178 14 l _ (by omega) (by omega), by rw [List.length_set]; exact hlen, set_known hlen (by decide) hl, hB, fun h => hL1 (h.resolve_left (by decide)), fun h => hL2 (h.resolve_left (by decide)), fun h => hL3 (h.resolve_left (by decide)), fun h => hL4 (h.resolve_left (by decide)), fun h => hL5 (h.resolve_left (by decide)), fun h => hL6 (h.resolve_left (by decide)), fun h => hL7 (h.resolve_left (by decide)), fun h => hL8 (h.resolve_left (by decide))⟩
        | 15, ho =>
          cases Option.some.inj ho
          refine ⟨wanted_of (k := 188) rfl rfl rfl (known_at ha hsz hlen hl 10 (by decide) (hd ⟨10, .guard⟩ (by simp) rfl)), ?_⟩
          have ev : a.tmps[192]? = some (.pointer (some ⟨ub, 1, none⟩)) := known_at ha hsz hlen hl 14 (by decide) (hd ⟨14, .data⟩ (by simp) rfl)
          have hc0 := (hB.cell (p := ⟨ub, 1, none⟩) lub).trans z1
          refine wp_value (w' := w') (v := .int .i64 en_) (by simp [execOp, ev, go_sem, hc0]) ?_
          exact ⟨_, la1, ln1, lc1, la2, ln2, lc2, la3, ln3, lc3, la4, ln4, lc4, la5, ln5, lc5, la6, ln6, lc6, la7, ln7, lc7, la8, ln8, lc8, by rw [ha]; exact putAll_put A 178 15 l _ (by omega) (by omega), by rw [List.length_set]; exact hlen, set_known hlen (by decide) hl, hB, fun h => hL1 (h.resolve_left (by decide)), fun h => hL2 (h.resolve_left (by decide)), fun h => hL3 (h.resolve_left (by decide)), fun h => hL4 (h.resolve_left (by decide)), fun h => hL5 (h.resolve_left (by decide)), fun h => hL6 (h.resolve_left (by decide)), fun h => hL7 (h.resolve_left (by decide)), fun h => hL8 (h.resolve_left (by decide))⟩
        | 16, ho =>
          cases Option.some.inj ho
          refine ⟨wanted_of (k := 188) rfl rfl rfl (known_at ha hsz hlen hl 10 (by decide) (hd ⟨10, .guard⟩ (by simp) rfl)), ?_⟩
          have ev : a.tmps[189]? = some (.pointer (some ⟨bb, 0, none⟩)) := known_at ha hsz hlen hl 11 (by decide) (hd ⟨11, .data⟩ (by simp) rfl)
          have ev' : a.tmps[193]? = some (.int .i64 en_) := known_at ha hsz hlen hl 15 (by decide) (hd ⟨15, .data⟩ (by simp) rfl)
          have cO := hx_oops (hx4.below hB) en_
          rw [hL2e.out] at cO
          refine wp_enter (f := 28) (args := #[.pointer (some ⟨bb, 0, none⟩), .int .i64 en_]) (by simp [execOp, ev, ev', go_sem]) ?_
          refine (cO).mono ?_
          rintro e w6 ⟨za, zn, zc, rfl, HN, HR, HB⟩
          refine ⟨_, rfl, ?_⟩
          exact ⟨_, la1, ln1, lc1, la2, ln2, lc2, za, zn, zc, la4, ln4, lc4, la5, ln5, lc5, la6, ln6, lc6, la7, ln7, lc7, la8, ln8, lc8, by rw [ha]; exact putAll_put A 178 16 l _ (by omega) (by omega), by rw [List.length_set]; exact hlen, set_known' (val' := qbV41 bb ub xb cc en_ oa on oc la1 la2 za la4 la5 la6 la7 la8 ln1 lc1 ln2 lc2 zn zc ln4 lc4 ln5 lc5 ln6 lc6 ln7 lc7 ln8 lc8) hlen (by decide) hl (fun j hj hne => match j, hj, hne with | 0, _, _ => rfl | 1, _, _ => rfl | 2, _, _ => rfl | 3, _, _ => rfl | 4, _, _ => rfl | 5, _, _ => rfl | 6, _, _ => rfl | 7, _, _ => rfl | 8, _, _ => rfl | 9, _, _ => rfl | 10, _, _ => rfl | 11, _, _ => rfl | 12, _, _ => rfl | 13, _, _ => rfl | 14, _, _ => rfl | 15, _, _ => rfl | 16, _, hne => absurd rfl hne | 17, _, _ => rfl | 18, _, _ => rfl | 19, _, _ => rfl | 20, _, _ => rfl | 21, _, _ => rfl | 22, _, _ => rfl | 23, _, _ => rfl | 24, _, _ => rfl | 25, _, _ => rfl | 26, _, _ => rfl | 27, _, _ => rfl | 28, _, _ => rfl | 29, _, _ => rfl | 30, _, _ => rfl | 31, _, _ => rfl | 32, _, _ => rfl | 33, _, _ => rfl | 34, _, _ => rfl | 35, _, _ => rfl | 36, _, _ => rfl | 37, _, _ => rfl | 38, _, _ => rfl | 39, _, _ => rfl | 40, _, _ => rfl | 41, _, _ => rfl | j + 42, _, _ => rfl), below_size hB hB.size HB, fun h => (hL1 (h.resolve_left (by decide))).below HB, fun h => (hL2 (h.resolve_left (by decide))).below HB, fun _ => ⟨⟨_, HR⟩, HN, by rw [HN]; exact few2⟩, fun h => (hL4 (h.resolve_left (by decide))).below HB, fun h => (hL5 (h.resolve_left (by decide))).below HB, fun h => (hL6 (h.resolve_left (by decide))).below HB, fun h => (hL7 (h.resolve_left (by decide))).below HB, fun h => (hL8 (h.resolve_left (by decide))).below HB⟩
        | 17, ho =>
          cases Option.some.inj ho
          refine ⟨wanted_of (k := 188) rfl rfl rfl (known_at ha hsz hlen hl 10 (by decide) (hd ⟨10, .guard⟩ (by simp) rfl)), ?_⟩
          have ev : a.tmps[4]? = some (.pointer (some ⟨ub, 0, none⟩)) := by rw [ha, putAll_low A 178 4 l (by omega) (by decide)]; exact s4
          refine wp_value (w' := w') (v := .pointer (some ⟨ub, 0, none⟩)) (by simp [execOp, ev, go_sem]) ?_
          exact ⟨_, la1, ln1, lc1, la2, ln2, lc2, la3, ln3, lc3, la4, ln4, lc4, la5, ln5, lc5, la6, ln6, lc6, la7, ln7, lc7, la8, ln8, lc8, by rw [ha]; exact putAll_put A 178 17 l _ (by omega) (by omega), by rw [List.length_set]; exact hlen, set_known hlen (by decide) hl, hB, fun h => hL1 (h.resolve_left (by decide)), fun h => hL2 (h.resolve_left (by decide)), fun h => hL3 (h.resolve_left (by decide)), fun h => hL4 (h.resolve_left (by decide)), fun h => hL5 (h.resolve_left (by decide)), fun h => hL6 (h.resolve_left (by decide)), fun h => hL7 (h.resolve_left (by decide)), fun h => hL8 (h.resolve_left (by decide))⟩
        | 18, ho =>
          cases Option.some.inj ho
          refine ⟨wanted_of (k := 188) rfl rfl rfl (known_at ha hsz hlen hl 10 (by decide) (hd ⟨10, .guard⟩ (by simp) rfl)), ?_⟩
          have ev : a.tmps[4]? = some (.pointer (some ⟨ub, 0, none⟩)) := by rw [ha, putAll_low A 178 4 l (by omega) (by decide)]; exact s4
          refine wp_value (w' := w') (v := .pointer (some ⟨ub, 0, none⟩)) (by simp [execOp, ev, go_sem]) ?_
          exact ⟨_, la1, ln1, lc1, la2, ln2, lc2, la3, ln3, lc3, la4, ln4, lc4, la5, ln5, lc5, la6, ln6, lc6, la7, ln7, lc7, la8, ln8, lc8, by rw [ha]; exact putAll_put A 178 18 l _ (by omega) (by omega), by rw [List.length_set]; exact hlen, set_known hlen (by decide) hl, hB, fun h => hL1 (h.resolve_left (by decide)), fun h => hL2 (h.resolve_left (by decide)), fun h => hL3 (h.resolve_left (by decide)), fun h => hL4 (h.resolve_left (by decide)), fun h => hL5 (h.resolve_left (by decide)), fun h => hL6 (h.resolve_left (by decide)), fun h => hL7 (h.resolve_left (by decide)), fun h => hL8 (h.resolve_left (by decide))⟩
        | 19, ho =>
          cases Option.some.inj ho
          refine ⟨wanted_of (k := 188) rfl rfl rfl (known_at ha hsz hlen hl 10 (by decide) (hd ⟨10, .guard⟩ (by simp) rfl)), ?_⟩
          have ev : a.tmps[196]? = some (.pointer (some ⟨ub, 0, none⟩)) := known_at ha hsz hlen hl 18 (by decide) (hd ⟨18, .data⟩ (by simp) rfl)
          refine wp_value (w' := w') (v := .pointer (some ⟨ub, 0, none⟩)) (by simp [execOp, ev, go_sem]) ?_
          exact ⟨_, la1, ln1, lc1, la2, ln2, lc2, la3, ln3, lc3, la4, ln4, lc4, la5, ln5, lc5, la6, ln6, lc6, la7, ln7, lc7, la8, ln8, lc8, by rw [ha]; exact putAll_put A 178 19 l _ (by omega) (by omega), by rw [List.length_set]; exact hlen, set_known hlen (by decide) hl, hB, fun h => hL1 (h.resolve_left (by decide)), fun h => hL2 (h.resolve_left (by decide)), fun h => hL3 (h.resolve_left (by decide)), fun h => hL4 (h.resolve_left (by decide)), fun h => hL5 (h.resolve_left (by decide)), fun h => hL6 (h.resolve_left (by decide)), fun h => hL7 (h.resolve_left (by decide)), fun h => hL8 (h.resolve_left (by decide))⟩
        | 20, ho =>
          cases Option.some.inj ho
          refine ⟨wanted_of (k := 188) rfl rfl rfl (known_at ha hsz hlen hl 10 (by decide) (hd ⟨10, .guard⟩ (by simp) rfl)), ?_⟩
          have ev : a.tmps[197]? = some (.pointer (some ⟨ub, 0, none⟩)) := known_at ha hsz hlen hl 19 (by decide) (hd ⟨19, .data⟩ (by simp) rfl)
          refine wp_value (w' := w') (v := .pointer (some ⟨ub, 1, none⟩)) (by simp [execOp, ev, go_sem]) ?_
          exact ⟨_, la1, ln1, lc1, la2, ln2, lc2, la3, ln3, lc3, la4, ln4, lc4, la5, ln5, lc5, la6, ln6, lc6, la7, ln7, lc7, la8, ln8, lc8, by rw [ha]; exact putAll_put A 178 20 l _ (by omega) (by omega), by rw [List.length_set]; exact hlen, set_known hlen (by decide) hl, hB, fun h => hL1 (h.resolve_left (by decide)), fun h => hL2 (h.resolve_left (by decide)), fun h => hL3 (h.resolve_left (by decide)), fun h => hL4 (h.resolve_left (by decide)), fun h => hL5 (h.resolve_left (by decide)), fun h => hL6 (h.resolve_left (by decide)), fun h => hL7 (h.resolve_left (by decide)), fun h => hL8 (h.resolve_left (by decide))⟩
        | 21, ho =>
          cases Option.some.inj ho
          refine ⟨wanted_of (k := 188) rfl rfl rfl (known_at ha hsz hlen hl 10 (by decide) (hd ⟨10, .guard⟩ (by simp) rfl)), ?_⟩
          have ev : a.tmps[198]? = some (.pointer (some ⟨ub, 1, none⟩)) := known_at ha hsz hlen hl 20 (by decide) (hd ⟨20, .data⟩ (by simp) rfl)
          have hc0 := (hB.cell (p := ⟨ub, 1, none⟩) lub).trans z1
          refine wp_value (w' := w') (v := .int .i64 en_) (by simp [execOp, ev, go_sem, hc0]) ?_
          exact ⟨_, la1, ln1, lc1, la2, ln2, lc2, la3, ln3, lc3, la4, ln4, lc4, la5, ln5, lc5, la6, ln6, lc6, la7, ln7, lc7, la8, ln8, lc8, by rw [ha]; exact putAll_put A 178 21 l _ (by omega) (by omega), by rw [List.length_set]; exact hlen, set_known hlen (by decide) hl, hB, fun h => hL1 (h.resolve_left (by decide)), fun h => hL2 (h.resolve_left (by decide)), fun h => hL3 (h.resolve_left (by decide)), fun h => hL4 (h.resolve_left (by decide)), fun h => hL5 (h.resolve_left (by decide)), fun h => hL6 (h.resolve_left (by decide)), fun h => hL7 (h.resolve_left (by decide)), fun h => hL8 (h.resolve_left (by decide))⟩
        | 22, ho =>
          cases Option.some.inj ho
          refine ⟨wanted_of (k := 188) rfl rfl rfl (known_at ha hsz hlen hl 10 (by decide) (hd ⟨10, .guard⟩ (by simp) rfl)), ?_⟩
          have ev : a.tmps[195]? = some (.pointer (some ⟨ub, 0, none⟩)) := known_at ha hsz hlen hl 17 (by decide) (hd ⟨17, .data⟩ (by simp) rfl)
          have ev' : a.tmps[199]? = some (.int .i64 en_) := known_at ha hsz hlen hl 21 (by decide) (hd ⟨21, .data⟩ (by simp) rfl)
          have cO := hx_roops (hx4.below hB) (by omega) en_
          rw [hL2e.out] at cO
          refine wp_enter (f := 29) (args := #[.pointer (some ⟨ub, 0, none⟩), .int .i64 en_]) (by simp [execOp, ev, ev', go_sem]) ?_
          refine (cO).mono ?_
          rintro e w6 ⟨za, zn, zc, rfl, HN, HR, HB⟩
          refine ⟨_, rfl, ?_⟩
          exact ⟨_, la1, ln1, lc1, la2, ln2, lc2, la3, ln3, lc3, za, zn, zc, la5, ln5, lc5, la6, ln6, lc6, la7, ln7, lc7, la8, ln8, lc8, by rw [ha]; exact putAll_put A 178 22 l _ (by omega) (by omega), by rw [List.length_set]; exact hlen, set_known' (val' := qbV41 bb ub xb cc en_ oa on oc la1 la2 la3 za la5 la6 la7 la8 ln1 lc1 ln2 lc2 ln3 lc3 zn zc ln5 lc5 ln6 lc6 ln7 lc7 ln8 lc8) hlen (by decide) hl (fun j hj hne => match j, hj, hne with | 0, _, _ => rfl | 1, _, _ => rfl | 2, _, _ => rfl | 3, _, _ => rfl | 4, _, _ => rfl | 5, _, _ => rfl | 6, _, _ => rfl | 7, _, _ => rfl | 8, _, _ => rfl | 9, _, _ => rfl | 10, _, _ => rfl | 11, _, _ => rfl | 12, _, _ => rfl | 13, _, _ => rfl | 14, _, _ => rfl | 15, _, _ => rfl | 16, _, _ => rfl | 17, _, _ => rfl | 18, _, _ => rfl | 19, _, _ => rfl | 20, _, _ => rfl | 21, _, _ => rfl | 22, _, hne => absurd rfl hne | 23, _, _ => rfl | 24, _, _ => rfl | 25, _, _ => rfl | 26, _, _ => rfl | 27, _, _ => rfl | 28, _, _ => rfl | 29, _, _ => rfl | 30, _, _ => rfl | 31, _, _ => rfl | 32, _, _ => rfl | 33, _, _ => rfl | 34, _, _ => rfl | 35, _, _ => rfl | 36, _, _ => rfl | 37, _, _ => rfl | 38, _, _ => rfl | 39, _, _ => rfl | 40, _, _ => rfl | 41, _, _ => rfl | j + 42, _, _ => rfl), below_size hB hB.size HB, fun h => (hL1 (h.resolve_left (by decide))).below HB, fun h => (hL2 (h.resolve_left (by decide))).below HB, fun h => (hL3 (h.resolve_left (by decide))).below HB, fun _ => ⟨⟨_, HR⟩, HN, by rw [HN]; exact few2⟩, fun h => (hL5 (h.resolve_left (by decide))).below HB, fun h => (hL6 (h.resolve_left (by decide))).below HB, fun h => (hL7 (h.resolve_left (by decide))).below HB, fun h => (hL8 (h.resolve_left (by decide))).below HB⟩
        | 23, ho =>
          cases Option.some.inj ho
          refine ⟨wanted_of (k := 188) rfl rfl rfl (known_at ha hsz hlen hl 10 (by decide) (hd ⟨10, .guard⟩ (by simp) rfl)), ?_⟩
          have ev : a.tmps[194]? = some (.slice la3 ln3 lc3) := known_at ha hsz hlen hl 16 (by decide) (hd ⟨16, .data⟩ (by simp) rfl)
          have ev' : a.tmps[200]? = some (.slice la4 ln4 lc4) := known_at ha hsz hlen hl 22 (by decide) (hd ⟨22, .data⟩ (by simp) rfl)
          refine wp_enter (f := 27) (args := #[.slice la3 ln3 lc3, .slice la4 ln4 lc4]) (by simp [execOp, ev, ev', go_sem]) ?_
          refine (lj_same (hL3 (hd ⟨16, .data⟩ (by simp) rfl)) (hL4 (hd ⟨22, .data⟩ (by simp) rfl))).mono ?_
          rintro e w6 ⟨rfl, HB⟩
          refine ⟨_, rfl, ?_⟩
          exact ⟨_, la1, ln1, lc1, la2, ln2, lc2, la3, ln3, lc3, la4, ln4, lc4, la5, ln5, lc5, la6, ln6, lc6, la7, ln7, lc7, la8, ln8, lc8, by rw [ha]; exact putAll_put A 178 23 l _ (by omega) (by omega), by rw [List.length_set]; exact hlen, set_known hlen (by decide) hl, below_size hB hB.size HB, fun h => (hL1 (h.resolve_left (by decide))).below HB, fun h => (hL2 (h.resolve_left (by decide))).below HB, fun h => (hL3 (h.resolve_left (by decide))).below HB, fun h => (hL4 (h.resolve_left (by decide))).below HB, fun h => (hL5 (h.resolve_left (by decide))).below HB, fun h => (hL6 (h.resolve_left (by decide))).below HB, fun h => (hL7 (h.resolve_left (by decide))).below HB, fun h => (hL8 (h.resolve_left (by decide))).below HB⟩
        | 24, ho =>
          cases Option.some.inj ho
          refine ⟨wanted_of (k := 188) rfl rfl rfl (known_at ha hsz hlen hl 10 (by decide) (hd ⟨10, .guard⟩ (by simp) rfl)), ?_⟩
          have ev : a.tmps[201]? = some (.bool true) := known_at ha hsz hlen hl 23 (by decide) (hd ⟨23, .data⟩ (by simp) rfl)
          refine wp_value (w' := w') (v := .bool false) (by simp [execOp, ev, go_sem]) ?_
          exact ⟨_, la1, ln1, lc1, la2, ln2, lc2, la3, ln3, lc3, la4, ln4, lc4, la5, ln5, lc5, la6, ln6, lc6, la7, ln7, lc7, la8, ln8, lc8, by rw [ha]; exact putAll_put A 178 24 l _ (by omega) (by omega), by rw [List.length_set]; exact hlen, set_known hlen (by decide) hl, hB, fun h => hL1 (h.resolve_left (by decide)), fun h => hL2 (h.resolve_left (by decide)), fun h => hL3 (h.resolve_left (by decide)), fun h => hL4 (h.resolve_left (by decide)), fun h => hL5 (h.resolve_left (by decide)), fun h => hL6 (h.resolve_left (by decide)), fun h => hL7 (h.resolve_left (by decide)), fun h => hL8 (h.resolve_left (by decide))⟩
        | 25, ho =>
          cases Option.some.inj ho
          refine ⟨rfl, ?_⟩
          have ev : a.tmps[188]? = some (.bool false) := known_at ha hsz hlen hl 10 (by decide) (hd ⟨10, .data⟩ (by simp) rfl)
          have ev' : a.tmps[202]? = some (.bool false) := known_at ha hsz hlen hl 24 (by decide) (hd ⟨24, .data⟩ (by simp) rfl)
          refine wp_value (w' := w') (v := .bool false) (by simp [execOp, ev, ev', go_sem]) ?_
          exact ⟨_, la1, ln1, lc1, la2, ln2, lc2, la3, ln3, lc3, la4, ln4, lc4, la5, ln5, lc5, la6, ln6, lc6, la7, ln7, lc7, la8, ln8, lc8, by rw [ha]; exact putAll_put A 178 25 l _ (by omega) (by omega), by rw [List.length_set]; exact hlen, set_known hlen (by decide) hl, hB, fun h => hL1 (h.resolve_left (by decide)), fun h => hL2 (h.resolve_left (by decide)), fun h => hL3 (h.resolve_left (by decide)), fun h => hL4 (h.resolve_left (by decide)), fun h => hL5 (h.resolve_left (by decide)), fun h => hL6 (h.resolve_left (by decide)), fun h => hL7 (h.resolve_left (by decide)), fun h => hL8 (h.resolve_left (by decide))⟩
        | 26, ho =>
          cases Option.some.inj ho
          refine ⟨rfl, ?_⟩
          have ev : a.tmps[203]? = some (.bool false) := known_at ha hsz hlen hl 25 (by decide) (hd ⟨25, .data⟩ (by simp) rfl)
          refine wp_value (w' := w') (v := .bool false) (by simp [execOp, ev, go_sem]) ?_
          exact ⟨_, la1, ln1, lc1, la2, ln2, lc2, la3, ln3, lc3, la4, ln4, lc4, la5, ln5, lc5, la6, ln6, lc6, la7, ln7, lc7, la8, ln8, lc8, by rw [ha]; exact putAll_put A 178 26 l _ (by omega) (by omega), by rw [List.length_set]; exact hlen, set_known hlen (by decide) hl, hB, fun h => hL1 (h.resolve_left (by decide)), fun h => hL2 (h.resolve_left (by decide)), fun h => hL3 (h.resolve_left (by decide)), fun h => hL4 (h.resolve_left (by decide)), fun h => hL5 (h.resolve_left (by decide)), fun h => hL6 (h.resolve_left (by decide)), fun h => hL7 (h.resolve_left (by decide)), fun h => hL8 (h.resolve_left (by decide))⟩
        | 27, ho =>
          cases Option.some.inj ho
          refine ⟨wanted_of (k := 204) rfl rfl rfl (known_at ha hsz hlen hl 26 (by decide) (hd ⟨26, .guard⟩ (by simp) rfl)), ?_⟩
          have ev : a.tmps[3]? = some (.pointer (some ⟨bb, 0, none⟩)) := by rw [ha, putAll_low A 178 3 l (by omega) (by decide)]; exact s3
          refine wp_value (w' := w') (v := .pointer (some ⟨bb, 0, none⟩)) (by simp [execOp, ev, go_sem]) ?_
          exact ⟨_, la1, ln1, lc1, la2, ln2, lc2, la3, ln3, lc3, la4, ln4, lc4, la5, ln5, lc5, la6, ln6, lc6, la7, ln7, lc7, la8, ln8, lc8, by rw [ha]; exact putAll_put A 178 27 l _ (by omega) (by omega), by rw [List.length_set]; exact hlen, set_known hlen (by decide) hl, hB, fun h => hL1 (h.resolve_left (by decide)), fun h => hL2 (h.resolve_left (by decide)), fun h => hL3 (h.resolve_left (by decide)), fun h => hL4 (h.resolve_left (by decide)), fun h => hL5 (h.resolve_left (by decide)), fun h => hL6 (h.resolve_left (by decide)), fun h => hL7 (h.resolve_left (by decide)), fun h => hL8 (h.resolve_left (by decide))⟩
        | 28, ho =>
          cases Option.some.inj ho
          refine ⟨wanted_of (k := 204) rfl rfl rfl (known_at ha hsz hlen hl 26 (by decide) (hd ⟨26, .guard⟩ (by simp) rfl)), ?_⟩
          have ev : a.tmps[205]? = some (.pointer (some ⟨bb, 0, none⟩)) := known_at ha hsz hlen hl 27 (by decide) (hd ⟨27, .data⟩ (by simp) rfl)
          have cO := hx_free (hx4.below hB)
          rw [hL3e.out] at cO
          refine wp_enter (f := 30) (args := #[.pointer (some ⟨bb, 0, none⟩), .int .i64 3]) (by simp [execOp, ev, go_sem]) ?_
          refine (cO).mono ?_
          rintro e w6 ⟨za, zn, zc, rfl, HN, HR, HB⟩
          refine ⟨_, rfl, ?_⟩
          exact ⟨_, la1, ln1, lc1, la2, ln2, lc2, la3, ln3, lc3, la4, ln4, lc4, za, zn, zc, la6, ln6, lc6, la7, ln7, lc7, la8, ln8, lc8, by rw [ha]; exact putAll_put A 178 28 l _ (by omega) (by omega), by rw [List.length_set]; exact hlen, set_known' (val' := qbV41 bb ub xb cc en_ oa on oc la1 la2 la3 la4 za la6 la7 la8 ln1 lc1 ln2 lc2 ln3 lc3 ln4 lc4 zn zc ln6 lc6 ln7 lc7 ln8 lc8) hlen (by decide) hl (fun j hj hne => match j, hj, hne with | 0, _, _ => rfl | 1, _, _ => rfl | 2, _, _ => rfl | 3, _, _ => rfl | 4, _, _ => rfl | 5, _, _ => rfl | 6, _, _ => rfl | 7, _, _ => rfl | 8, _, _ => rfl | 9, _, _ => rfl | 10, _, _ => rfl | 11, _, _ => rfl | 12, _, _ => rfl | 13, _, _ => rfl | 14, _, _ => rfl | 15, _, _ => rfl | 16, _, _ => rfl | 17, _, _ => rfl | 18, _, _ => rfl | 19, _, _ => rfl | 20, _, _ => rfl | 21, _, _ => rfl | 22, _, _ => rfl | 23, _, _ => rfl | 24, _, _ => rfl | 25, _, _ => rfl | 26, _, _ => rfl | 27, _, _ => rfl | 28, _, hne => absurd rfl hne | 29, _, _ => rfl | 30, _, _ => rfl | 31, _, _ => rfl | 32, _, _ => rfl | 33, _, _ => rfl | 34, _, _ => rfl | 35, _, _ => rfl | 36, _, _ => rfl | 37, _, _ => rfl | 38, _, _ => rfl | 39, _, _ => rfl | 40, _, _ => rfl | 41, _, _ => rfl | j + 42, _, _ => rfl), below_size hB hB.size HB, fun h => (hL1 (h.resolve_left (by decide))).below HB, fun h => (hL2 (h.resolve_left (by decide))).below HB, fun h => (hL3 (h.resolve_left (by decide))).below HB, fun h => (hL4 (h.resolve_left (by decide))).below HB, fun _ => ⟨⟨_, HR⟩, HN, by rw [HN]; exact few3⟩, fun h => (hL6 (h.resolve_left (by decide))).below HB, fun h => (hL7 (h.resolve_left (by decide))).below HB, fun h => (hL8 (h.resolve_left (by decide))).below HB⟩
        | 29, ho =>
          cases Option.some.inj ho
          refine ⟨wanted_of (k := 204) rfl rfl rfl (known_at ha hsz hlen hl 26 (by decide) (hd ⟨26, .guard⟩ (by simp) rfl)), ?_⟩
          have ev : a.tmps[4]? = some (.pointer (some ⟨ub, 0, none⟩)) := by rw [ha, putAll_low A 178 4 l (by omega) (by decide)]; exact s4
          refine wp_value (w' := w') (v := .pointer (some ⟨ub, 0, none⟩)) (by simp [execOp, ev, go_sem]) ?_
          exact ⟨_, la1, ln1, lc1, la2, ln2, lc2, la3, ln3, lc3, la4, ln4, lc4, la5, ln5, lc5, la6, ln6, lc6, la7, ln7, lc7, la8, ln8, lc8, by rw [ha]; exact putAll_put A 178 29 l _ (by omega) (by omega), by rw [List.length_set]; exact hlen, set_known hlen (by decide) hl, hB, fun h => hL1 (h.resolve_left (by decide)), fun h => hL2 (h.resolve_left (by decide)), fun h => hL3 (h.resolve_left (by decide)), fun h => hL4 (h.resolve_left (by decide)), fun h => hL5 (h.resolve_left (by decide)), fun h => hL6 (h.resolve_left (by decide)), fun h => hL7 (h.resolve_left (by decide)), fun h => hL8 (h.resolve_left (by decide))⟩
        | 30, ho =>
          cases Option.some.inj ho
          refine ⟨wanted_of (k := 204) rfl rfl rfl (known_at ha hsz hlen hl 26 (by decide) (hd ⟨26, .guard⟩ (by simp) rfl)), ?_⟩
          have ev : a.tmps[207]? = some (.pointer (some ⟨ub, 0, none⟩)) := known_at ha hsz hlen hl 29 (by decide) (hd ⟨29, .data⟩ (by simp) rfl)
          have cO := hx_rfree (hx4.below hB) (by omega)
          rw [hL3e.out] at cO
          refine wp_enter (f := 31) (args := #[.pointer (some ⟨ub, 0, none⟩), .int .i64 3]) (by simp [execOp, ev, go_sem]) ?_
          refine (cO).mono ?_
          rintro e w6 ⟨za, zn, zc, rfl, HN, HR, HB⟩
          refine ⟨_, rfl, ?_⟩
          exact ⟨_, la1, ln1, lc1, la2, ln2, lc2, la3, ln3, lc3, la4, ln4, lc4, la5, ln5, lc5, za, zn, zc, la7, ln7, lc7, la8, ln8, lc8, by rw [ha]; exact putAll_put A 178 30 l _ (by omega) (by omega), by rw [List.length_set]; exact hlen, set_known' (val' := qbV41 bb ub xb cc en_ oa on oc la1 la2 la3 la4 la5 za la7 la8 ln1 lc1 ln2 lc2 ln3 lc3 ln4 lc4 ln5 lc5 zn zc ln7 lc7 ln8 lc8) hlen (by decide) hl (fun j hj hne => match j, hj, hne with | 0, _, _ => rfl | 1, _, _ => rfl | 2, _, _ => rfl | 3, _, _ => rfl | 4, _, _ => rfl | 5, _, _ => rfl | 6, _, _ => rfl | 7, _, _ => rfl | 8, _, _ => rfl | 9, _, _ => rfl | 10, _, _ => rfl | 11, _, _ => rfl | 12, _, _ => rfl | 13, _, _ => rfl | 14, _, _ => rfl | 15, _, _ => rfl | 16, _, _ => rfl | 17, _, _ => rfl | 18, _, _ => rfl | 19, _, _ => rfl | 20, _, _ => rfl | 21, _, _ => rfl | 22, _, _ => rfl | 23, _, _ => rfl | 24, _, _ => rfl | 25, _, _ => rfl | 26, _, _ => rfl | 27, _, _ => rfl | 28, _, _ => rfl | 29, _, _ => rfl | 30, _, hne => absurd rfl hne | 31, _, _ => rfl | 32, _, _ => rfl | 33, _, _ => rfl | 34, _, _ => rfl | 35, _, _ => rfl | 36, _, _ => rfl | 37, _, _ => rfl | 38, _, _ => rfl | 39, _, _ => rfl | 40, _, _ => rfl | 41, _, _ => rfl | j + 42, _, _ => rfl), below_size hB hB.size HB, fun h => (hL1 (h.resolve_left (by decide))).below HB, fun h => (hL2 (h.resolve_left (by decide))).below HB, fun h => (hL3 (h.resolve_left (by decide))).below HB, fun h => (hL4 (h.resolve_left (by decide))).below HB, fun h => (hL5 (h.resolve_left (by decide))).below HB, fun _ => ⟨⟨_, HR⟩, HN, by rw [HN]; exact few3⟩, fun h => (hL7 (h.resolve_left (by decide))).below HB, fun h => (hL8 (h.resolve_left (by decide))).below HB⟩
        | 31, ho =>
          cases Option.some.inj ho
          refine ⟨wanted_of (k := 204) rfl rfl rfl (known_at ha hsz hlen hl 26 (by decide) (hd ⟨26, .guard⟩ (by simp) rfl)), ?_⟩
          have ev : a.tmps[206]? = some (.slice la5 ln5 lc5) := known_at ha hsz hlen hl 28 (by decide) (hd ⟨28, .data⟩ (by simp) rfl)
          have ev' : a.tmps[208]? = some (.slice la6 ln6 lc6) := known_at ha hsz hlen hl 30 (by decide) (hd ⟨30, .data⟩ (by simp) rfl)
          refine wp_enter (f := 27) (args := #[.slice la5 ln5 lc5, .slice la6 ln6 lc6]) (by simp [execOp, ev, ev', go_sem]) ?_
          refine (lj_same (hL5 (hd ⟨28, .data⟩ (by simp) rfl)) (hL6 (hd ⟨30, .data⟩ (by simp) rfl))).mono ?_
          rintro e w6 ⟨rfl, HB⟩
          refine ⟨_, rfl, ?_⟩
          exact ⟨_, la1, ln1, lc1, la2, ln2, lc2, la3, ln3, lc3, la4, ln4, lc4, la5, ln5, lc5, la6, ln6, lc6, la7, ln7, lc7, la8, ln8, lc8, by rw [ha]; exact putAll_put A 178 31 l _ (by omega) (by omega), by rw [List.length_set]; exact hlen, set_known hlen (by decide) hl, below_size hB hB.size HB, fun h => (hL1 (h.resolve_left (by decide))).below HB, fun h => (hL2 (h.resolve_left (by decide))).below HB, fun h => (hL3 (h.resolve_left (by decide))).below HB, fun h => (hL4 (h.resolve_left (by decide))).below HB, fun h => (hL5 (h.resolve_left (by decide))).below HB, fun h => (hL6 (h.resolve_left (by decide))).below HB, fun h => (hL7 (h.resolve_left (by decide))).below HB, fun h => (hL8 (h.resolve_left (by decide))).below HB⟩
        | 32, ho =>
          cases Option.some.inj ho
          refine ⟨wanted_of (k := 204) rfl rfl rfl (known_at ha hsz hlen hl 26 (by decide) (hd ⟨26, .guard⟩ (by simp) rfl)), ?_⟩
          have ev : a.tmps[209]? = some (.bool true) := known_at ha hsz hlen hl 31 (by decide) (hd ⟨31, .data⟩ (by simp) rfl)
          refine wp_value (w' := w') (v := .bool false) (by simp [execOp, ev, go_sem]) ?_
          exact ⟨_, la1, ln1, lc1, la2, ln2, lc2, la3, ln3, lc3, la4, ln4, lc4, la5, ln5, lc5, la6, ln6, lc6, la7, ln7, lc7, la8, ln8, lc8, by rw [ha]; exact putAll_put A 178 32 l _ (by omega) (by omega), by rw [List.length_set]; exact hlen, set_known hlen (by decide) hl, hB, fun h => hL1 (h.resolve_left (by decide)), fun h => hL2 (h.resolve_left (by decide)), fun h => hL3 (h.resolve_left (by decide)), fun h => hL4 (h.resolve_left (by decide)), fun h => hL5 (h.resolve_left (by decide)), fun h => hL6 (h.resolve_left (by decide)), fun h => hL7 (h.resolve_left (by decide)), fun h => hL8 (h.resolve_left (by decide))⟩
        | 33, ho =>
          cases Option.some.inj ho
          refine ⟨rfl, ?_⟩
          have ev : a.tmps[204]? = some (.bool false) := known_at ha hsz hlen hl 26 (by decide) (hd ⟨26, .data⟩ (by simp) rfl)
          have ev' : a.tmps[210]? = some (.bool false) := known_at ha hsz hlen hl 32 (by decide) (hd ⟨32, .data⟩ (by simp) rfl)
          refine wp_value (w' := w') (v := .bool false) (by simp [execOp, ev, ev', go_sem]) ?_
          exact ⟨_, la1, ln1, lc1, la2, ln2, lc2, la3, ln3, lc3, la4, ln4, lc4, la5, ln5, lc5, la6, ln6, lc6, la7, ln7, lc7, la8, ln8, lc8, by rw [ha]; exact putAll_put A 178 33 l _ (by omega) (by omega), by rw [List.length_set]; exact hlen, set_known hlen (by decide) hl, hB, fun h => hL1 (h.resolve_left (by decide)), fun h => hL2 (h.resolve_left (by decide)), fun h => hL3 (h.resolve_left (by decide)), fun h => hL4 (h.resolve_left (by decide)), fun h => hL5 (h.resolve_left (by decide)), fun h => hL6 (h.resolve_left (by decide)), fun h => hL7 (h.resolve_left (by decide)), fun h => hL8 (h.resolve_left (by decide))⟩
        | 34, ho =>
          cases Option.some.inj ho
          refine ⟨rfl, ?_⟩
          have ev : a.tmps[211]? = some (.bool false) := known_at ha hsz hlen hl 33 (by decide) (hd ⟨33, .data⟩ (by simp) rfl)
          refine wp_value (w' := w') (v := .bool false) (by simp [execOp, ev, go_sem]) ?_
          exact ⟨_, la1, ln1, lc1, la2, ln2, lc2, la3, ln3, lc3, la4, ln4, lc4, la5, ln5, lc5, la6, ln6, lc6, la7, ln7, lc7, la8, ln8, lc8, by rw [ha]; exact putAll_put A 178 34 l _ (by omega) (by omega), by rw [List.length_set]; exact hlen, set_known hlen (by decide) hl, hB, fun h => hL1 (h.resolve_left (by decide)), fun h => hL2 (h.resolve_left (by decide)), fun h => hL3 (h.resolve_left (by decide)), fun h => hL4 (h.resolve_left (by decide)), fun h => hL5 (h.resolve_left (by decide)), fun h => hL6 (h.resolve_left (by decide)), fun h => hL7 (h.resolve_left (by decide)), fun h => hL8 (h.resolve_left (by decide))⟩
        | 35, ho =>
          cases Option.some.inj ho
          refine ⟨wanted_of (k := 212) rfl rfl rfl (known_at ha hsz hlen hl 34 (by decide) (hd ⟨34, .guard⟩ (by simp) rfl)), ?_⟩
          have ev : a.tmps[15]? = some (.pointer (some ⟨b15, 0, none⟩)) := by rw [ha, putAll_low A 178 15 l (by omega) (by decide)]; exact s15
          have hc0 := (hB.cell (p := ⟨b15, 0, none⟩) l15).trans r0
          have hc1 := (hB.cell (p := ⟨b15, 1, none⟩) l15).trans r1
          refine wp_value (w' := w') (v := .agg #[.int .i64 en_, .slice oa on oc]) (by simp [execOp, ev, go_sem, hc0, hc1]) ?_
          exact ⟨_, la1, ln1, lc1, la2, ln2, lc2, la3, ln3, lc3, la4, ln4, lc4, la5, ln5, lc5, la6, ln6, lc6, la7, ln7, lc7, la8, ln8, lc8, by rw [ha]; exact putAll_put A 178 35 l _ (by omega) (by omega), by rw [List.length_set]; exact hlen, set_known hlen (by decide) hl, hB, fun h => hL1 (h.resolve_left (by decide)), fun h => hL2 (h.resolve_left (by decide)), fun h => hL3 (h.resolve_left (by decide)), fun h => hL4 (h.resolve_left (by decide)), fun h => hL5 (h.resolve_left (by decide)), fun h => hL6 (h.resolve_left (by decide)), fun h => hL7 (h.resolve_left (by decide)), fun h => hL8 (h.resolve_left (by decide))⟩
        | 36, ho =>
          cases Option.some.inj ho
          refine ⟨wanted_of (k := 212) rfl rfl rfl (known_at ha hsz hlen hl 34 (by decide) (hd ⟨34, .guard⟩ (by simp) rfl)), ?_⟩
          have ev : a.tmps[213]? = some (.agg #[.int .i64 en_, .slice oa on oc]) := known_at ha hsz hlen hl 35 (by decide) (hd ⟨35, .data⟩ (by simp) rfl)
          have cK := taken_any en_ (xs := ss.map Cs.x) ((rc4.below hB).ownC) hon
          rw [hss.out] at cK
          refine wp_enter (f := 14) (args := #[.agg #[.int .i64 en_, .slice oa on oc]]) (by simp [execOp, ev, go_sem]) ?_
          refine (cK).mono ?_
          rintro e w6 ⟨za, zn, zc, rfl, oC, HB⟩
          refine ⟨_, rfl, ?_⟩
          exact ⟨_, la1, ln1, lc1, la2, ln2, lc2, la3, ln3, lc3, la4, ln4, lc4, la5, ln5, lc5, la6, ln6, lc6, za, zn, zc, la8, ln8, lc8, by rw [ha]; exact putAll_put A 178 36 l _ (by omega) (by omega), by rw [List.length_set]; exact hlen, set_known' (val' := qbV41 bb ub xb cc en_ oa on oc la1 la2 la3 la4 la5 la6 za la8 ln1 lc1 ln2 lc2 ln3 lc3 ln4 lc4 ln5 lc5 ln6 lc6 zn zc ln8 lc8) hlen (by decide) hl (fun j hj hne => match j, hj, hne with | 0, _, _ => rfl | 1, _, _ => rfl | 2, _, _ => rfl | 3, _, _ => rfl | 4, _, _ => rfl | 5, _, _ => rfl | 6, _, _ => rfl | 7, _, _ => rfl | 8, _, _ => rfl | 9, _, _ => rfl | 10, _, _ => rfl | 11, _, _ => rfl | 12, _, _ => rfl | 13, _, _ => rfl | 14, _, _ => rfl | 15, _, _ => rfl | 16, _, _ => rfl | 17, _, _ => rfl | 18, _, _ => rfl | 19, _, _ => rfl | 20, _, _ => rfl | 21, _, _ => rfl | 22, _, _ => rfl | 23, _, _ => rfl | 24, _, _ => rfl | 25, _, _ => rfl | 26, _, _ => rfl | 27, _, _ => rfl | 28, _, _ => rfl | 29, _, _ => rfl | 30, _, _ => rfl | 31, _, _ => rfl | 32, _, _ => rfl | 33, _, _ => rfl | 34, _, _ => rfl | 35, _, _ => rfl | 36, _, hne => absurd rfl hne | 37, _, _ => rfl | 38, _, _ => rfl | 39, _, _ => rfl | 40, _, _ => rfl | 41, _, _ => rfl | j + 42, _, _ => rfl), below_size hB hB.size HB, fun h => (hL1 (h.resolve_left (by decide))).below HB, fun h => (hL2 (h.resolve_left (by decide))).below HB, fun h => (hL3 (h.resolve_left (by decide))).below HB, fun h => (hL4 (h.resolve_left (by decide))).below HB, fun h => (hL5 (h.resolve_left (by decide))).below HB, fun h => (hL6 (h.resolve_left (by decide))).below HB, fun _ => oC.isC, fun h => (hL8 (h.resolve_left (by decide))).below HB⟩
        | 37, ho =>
          cases Option.some.inj ho
          refine ⟨wanted_of (k := 212) rfl rfl rfl (known_at ha hsz hlen hl 34 (by decide) (hd ⟨34, .guard⟩ (by simp) rfl)), ?_⟩
          have ev : a.tmps[4]? = some (.pointer (some ⟨ub, 0, none⟩)) := by rw [ha, putAll_low A 178 4 l (by omega) (by decide)]; exact s4
          refine wp_value (w' := w') (v := .pointer (some ⟨ub, 0, none⟩)) (by simp [execOp, ev, go_sem]) ?_
          exact ⟨_, la1, ln1, lc1, la2, ln2, lc2, la3, ln3, lc3, la4, ln4, lc4, la5, ln5, lc5, la6, ln6, lc6, la7, ln7, lc7, la8, ln8, lc8, by rw [ha]; exact putAll_put A 178 37 l _ (by omega) (by omega), by rw [List.length_set]; exact hlen, set_known hlen (by decide) hl, hB, fun h => hL1 (h.resolve_left (by decide)), fun h => hL2 (h.resolve_left (by decide)), fun h => hL3 (h.resolve_left (by decide)), fun h => hL4 (h.resolve_left (by decide)), fun h => hL5 (h.resolve_left (by decide)), fun h => hL6 (h.resolve_left (by decide)), fun h => hL7 (h.resolve_left (by decide)), fun h => hL8 (h.resolve_left (by decide))⟩
        | 38, ho =>
          cases Option.some.inj ho
          refine ⟨wanted_of (k := 212) rfl rfl rfl (known_at ha hsz hlen hl 34 (by decide) (hd ⟨34, .guard⟩ (by simp) rfl)), ?_⟩
          have ev : a.tmps[215]? = some (.pointer (some ⟨ub, 0, none⟩)) := known_at ha hsz hlen hl 37 (by decide) (hd ⟨37, .data⟩ (by simp) rfl)
          have cK := hx_rall (hx4.below hB) (by omega)
          rw [hen_.out, hxs.out] at cK
          refine wp_enter (f := 32) (args := #[.pointer (some ⟨ub, 0, none⟩)]) (by simp [execOp, ev, go_sem]) ?_
          refine (cK).mono ?_
          rintro e w6 ⟨za, zn, zc, rfl, oC, HB⟩
          refine ⟨_, rfl, ?_⟩
          exact ⟨_, la1, ln1, lc1, la2, ln2, lc2, la3, ln3, lc3, la4, ln4, lc4, la5, ln5, lc5, la6, ln6, lc6, la7, ln7, lc7, za, zn, zc, by rw [ha]; exact putAll_put A 178 38 l _ (by omega) (by omega), by rw [List.length_set]; exact hlen, set_known' (val' := qbV41 bb ub xb cc en_ oa on oc la1 la2 la3 la4 la5 la6 la7 za ln1 lc1 ln2 lc2 ln3 lc3 ln4 lc4 ln5 lc5 ln6 lc6 ln7 lc7 zn zc) hlen (by decide) hl (fun j hj hne => match j, hj, hne with | 0, _, _ => rfl | 1, _, _ => rfl | 2, _, _ => rfl | 3, _, _ => rfl | 4, _, _ => rfl | 5, _, _ => rfl | 6, _, _ => rfl | 7, _, _ => rfl | 8, _, _ => rfl | 9, _, _ => rfl | 10, _, _ => rfl | 11, _, _ => rfl | 12, _, _ => rfl | 13, _, _ => rfl | 14, _, _ => rfl | 15, _, _ => rfl | 16, _, _ => rfl | 17, _, _ => rfl | 18, _, _ => rfl | 19, _, _ => rfl | 20, _, _ => rfl | 21, _, _ => rfl | 22, _, _ => rfl | 23, _, _ => rfl | 24, _, _ => rfl | 25, _, _ => rfl | 26, _, _ => rfl | 27, _, _ => rfl | 28, _, _ => rfl | 29, _, _ => rfl | 30, _, _ => rfl | 31, _, _ => rfl | 32, _, _ => rfl | 33, _, _ => rfl | 34, _, _ => rfl | 35, _, _ => rfl | 36, _, _ => rfl | 37, _, _ => rfl | 38, _, hne => absurd rfl hne | 39, _, _ => rfl | 40, _, _ => rfl | 41, _, _ => rfl | j + 42, _, _ => rfl), below_size hB hB.size HB, fun h => (hL1 (h.resolve_left (by decide))).below HB, fun h => (hL2 (h.resolve_left (by decide))).below HB, fun h => (hL3 (h.resolve_left (by decide))).below HB, fun h => (hL4 (h.resolve_left (by decide))).below HB, fun h => (hL5 (h.resolve_left (by decide))).below HB, fun h => (hL6 (h.resolve_left (by decide))).below HB, fun h => (hL7 (h.resolve_left (by decide))).below HB, fun _ => oC.isC⟩
        | 39, ho =>
          cases Option.some.inj ho
          refine ⟨wanted_of (k := 212) rfl rfl rfl (known_at ha hsz hlen hl 34 (by decide) (hd ⟨34, .guard⟩ (by simp) rfl)), ?_⟩
          have ev : a.tmps[214]? = some (.agg #[.int .i64 en_, .slice la7 ln7 lc7]) := known_at ha hsz hlen hl 36 (by decide) (hd ⟨36, .data⟩ (by simp) rfl)
          have ev' : a.tmps[216]? = some (.agg #[.int .i64 en_, .slice la8 ln8 lc8]) := known_at ha hsz hlen hl 38 (by decide) (hd ⟨38, .data⟩ (by simp) rfl)
          refine wp_enter (f := 13) (args := #[.agg #[.int .i64 en_, .slice la7 ln7 lc7], .agg #[.int .i64 en_, .slice la8 ln8 lc8]]) (by simp [execOp, ev, ev', go_sem]) ?_
          refine (sameRecord_true en_ (hL7 (hd ⟨36, .data⟩ (by simp) rfl)) (hL8 (hd ⟨38, .data⟩ (by simp) rfl))).mono ?_
          rintro e w6 ⟨rfl, HB⟩
          refine ⟨_, rfl, ?_⟩
          exact ⟨_, la1, ln1, lc1, la2, ln2, lc2, la3, ln3, lc3, la4, ln4, lc4, la5, ln5, lc5, la6, ln6, lc6, la7, ln7, lc7, la8, ln8, lc8, by rw [ha]; exact putAll_put A 178 39 l _ (by omega) (by omega), by rw [List.length_set]; exact hlen, set_known hlen (by decide) hl, below_size hB hB.size HB, fun h => (hL1 (h.resolve_left (by decide))).below HB, fun h => (hL2 (h.resolve_left (by decide))).below HB, fun h => (hL3 (h.resolve_left (by decide))).below HB, fun h => (hL4 (h.resolve_left (by decide))).below HB, fun h => (hL5 (h.resolve_left (by decide))).below HB, fun h => (hL6 (h.resolve_left (by decide))).below HB, fun h => (hL7 (h.resolve_left (by decide))).below HB, fun h => (hL8 (h.resolve_left (by decide))).below HB⟩
        | 40, ho =>
          cases Option.some.inj ho
          refine ⟨wanted_of (k := 212) rfl rfl rfl (known_at ha hsz hlen hl 34 (by decide) (hd ⟨34, .guard⟩ (by simp) rfl)), ?_⟩
          have ev : a.tmps[217]? = some (.bool true) := known_at ha hsz hlen hl 39 (by decide) (hd ⟨39, .data⟩ (by simp) rfl)
          refine wp_value (w' := w') (v := .bool false) (by simp [execOp, ev, go_sem]) ?_
          exact ⟨_, la1, ln1, lc1, la2, ln2, lc2, la3, ln3, lc3, la4, ln4, lc4, la5, ln5, lc5, la6, ln6, lc6, la7, ln7, lc7, la8, ln8, lc8, by rw [ha]; exact putAll_put A 178 40 l _ (by omega) (by omega), by rw [List.length_set]; exact hlen, set_known hlen (by decide) hl, hB, fun h => hL1 (h.resolve_left (by decide)), fun h => hL2 (h.resolve_left (by decide)), fun h => hL3 (h.resolve_left (by decide)), fun h => hL4 (h.resolve_left (by decide)), fun h => hL5 (h.resolve_left (by decide)), fun h => hL6 (h.resolve_left (by decide)), fun h => hL7 (h.resolve_left (by decide)), fun h => hL8 (h.resolve_left (by decide))⟩
        | 41, ho =>
          cases Option.some.inj ho
          refine ⟨rfl, ?_⟩
          have ev : a.tmps[212]? = some (.bool false) := known_at ha hsz hlen hl 34 (by decide) (hd ⟨34, .data⟩ (by simp) rfl)
          have ev' : a.tmps[218]? = some (.bool false) := known_at ha hsz hlen hl 40 (by decide) (hd ⟨40, .data⟩ (by simp) rfl)
          refine wp_value (w' := w') (v := .bool false) (by simp [execOp, ev, ev', go_sem]) ?_
          exact ⟨_, la1, ln1, lc1, la2, ln2, lc2, la3, ln3, lc3, la4, ln4, lc4, la5, ln5, lc5, la6, ln6, lc6, la7, ln7, lc7, la8, ln8, lc8, by rw [ha]; exact putAll_put A 178 41 l _ (by omega) (by omega), by rw [List.length_set]; exact hlen, set_known hlen (by decide) hl, hB, fun h => hL1 (h.resolve_left (by decide)), fun h => hL2 (h.resolve_left (by decide)), fun h => hL3 (h.resolve_left (by decide)), fun h => hL4 (h.resolve_left (by decide)), fun h => hL5 (h.resolve_left (by decide)), fun h => hL6 (h.resolve_left (by decide)), fun h => hL7 (h.resolve_left (by decide)), fun h => hL8 (h.resolve_left (by decide))⟩
        | i + 42, ho => simp at ho
      case done =>
        rintro D a w' ⟨l, la1, ln1, lc1, la2, ln2, lc2, la3, ln3, lc3, la4, ln4, lc4, la5, ln5, lc5, la6, ln6, lc6, la7, ln7, lc7, la8, ln8, lc8, ha, hlen, hl, hB, hL1, hL2, hL3, hL4, hL5, hL6, hL7, hL8⟩ hall
        obtain ⟨v0, v1, v2, v3, v4, v5, v6, v7, v8, v9, v10, v11, v12, v13, v14, v15, v16, v17, v18, v19, v20, v21, v22, v23, v24, v25, v26, v27, v28, v29, v30, v31, v32, v33, v34, v35, v36, v37, v38, v39, v40, v41, rfl⟩ := qbV41_list hlen
        have hb9 := hB
        have e41 : some v41 = some (.bool false) := hl 41 (by decide) (hall 41 (by decide))
        obtain rfl := Option.some.inj e41
        clear e41 hall hB hl hlen hsz s3 s4 s6 s15 hL1 hL2 hL3 hL4 hL5 hL6 hL7 hL8
        subst hA
        have hfr : a = _ := ha
        rw [hfr]
        clear hfr ha
        simp only [putAll, List.take_succ_cons, List.take_zero, List.drop_succ_cons, List.drop_zero, List.cons_append, List.nil_append, List.length_cons, List.length_nil]
        clear hx4 bx4 e15 rc4
        go_wp2
        go_meet
        exact ⟨rfl, hb9⟩
    case rest =>
      obtain ⟨rfl, hb9⟩ := hcut
      have hx := hx4.below hb9
      have hRc := rc4.below hb9
      have h8 := e15.below hb9
      clear hx4 bx4 rc4 e15 hb9 few1 few2 few3 z1 lub x3 lxb r0 r1 l15
      generalize wc = w9 at *
      obtain ⟨x0, x1⟩ := rec_cells h8.blk
      go_wp2
      clear x0 x1
      go_loopw [16] (fun iv wr => ∃ q : Nat, q ≤ on ∧ iv = .int .i64 (q : Int) ∧ SpL ss w9 wr) (fun iv _ => on - (intOf iv).toNat)
      case atStart => exact ⟨0, by omega, rfl, SpL.refl _ _⟩
      case round =>
        obtain ⟨q, hq, rfl, sp⟩ := hrel
        have h8r := (sp.other hRc h8.blk (by decide) (by decide)).trans h8.blk
        obtain ⟨x0, x1⟩ := rec_cells h8r
        by_cases hlt : q < on
        · have hqi : (q : Int) < (on : Int) := by omega
          obtain ⟨cb, s, rfl, hsm, hat⟩ := hRc.at_ (by decide) (by decide) q hlt
          obtain ⟨hcb, hcl, hV, hB⟩ := hat wr sp
          have d2 : wr.cell? ⟨cb, q * 5 + 2, none⟩ = some (.int .i64 s.x.cls) := hcl 2 _ rfl
          have d3 : wr.cell? ⟨cb, q * 5 + 3, none⟩ = some (.slice s.sa s.sn s.sc) := hcl 3 _ rfl
          have d4 : wr.cell? ⟨cb, q * 5 + 4, none⟩ = some (.slice s.ba s.bn s.bc) := hcl 4 _ rfl
          clear hcl hat
          go_wp2_with fail
          refine (spoil_any hV hB).mono ?_
          rintro e w10 ⟨rfl, F10, K10⟩
          have sp2 := sp.next hsm F10 K10
          clear F10 K10 sp hV hB d2 d3 d4 x0 x1 h8r
          go_wp2
          go_roundw
          case rel => exact ⟨q + 1, by omega, by go_num, sp2⟩
          case measure => simp [intOf]; omega
        · have hqi : ¬ (q : Int) < (on : Int) := by omega
          have LP : LpP w ub (j + 1) (.pointer (some ⟨bb, 0, none⟩)) wr := ⟨AA, bb, tt, uu, kk, rfl, sp.hx hRc hx, hkk⟩
          clear sp hRc hx h8
          go_wp2
          go_roundw
          case rel => exact ⟨j + 1, by omega, by omega, by go_num, LP⟩
          case measure => simp [intOf]; omega
end Go.Proofs.Ytajdelinfkodbaa
