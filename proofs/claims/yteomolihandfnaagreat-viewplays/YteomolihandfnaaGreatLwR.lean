/- The law ViewPlays: an arm. -/
import Derived.Test.YteomolihandfnaaGreatLwS
import Derived.Test.YteomolihandfnaaGreatHsu
namespace Go.Proofs.YteomolihandfnaaGreat
open Go.RowKit
set_option maxRecDepth 100000
/-- What the operations yield. -/
def regV (cx ex cb : Int) (bb rb : Nat) (sa ba ta ea : Option Addr) (sn sc bn bc tn tc en ec : Nat) (la1 la2 la3 la4 la5 la6 la7 la8 : Option Addr) (ln1 lc1 ln2 lc2 ln3 lc3 ln4 lc4 ln5 lc5 ln6 lc6 ln7 lc7 ln8 lc8 : Nat) (j : Nat) : Value :=
  ([.bool true,
    .bool false,
    .bool false,
    .agg #[.int .i64 cx, .slice sa sn sc, .slice ba bn bc],
    .agg #[.int .i64 cx, .slice ta tn tc, .slice ea en ec],
    .bool true,
    .bool false,
    .bool false,
    .bool false,
    .int .i64 ex,
    .int .i64 ex,
    .bool false,
    .bool false,
    .bool false,
    .pointer (some ⟨bb, 0, none⟩),
    .int .i64 cb,
    .pointer (some ⟨rb, 0, none⟩),
    .pointer (some ⟨rb, 0, none⟩),
    .pointer (some ⟨rb, 1, none⟩),
    .int .i64 cb,
    .bool false,
    .bool false,
    .bool false,
    .pointer (some ⟨bb, 0, none⟩),
    .slice la1 ln1 lc1,
    .pointer (some ⟨rb, 0, none⟩),
    .slice la2 ln2 lc2,
    .bool true,
    .bool false,
    .bool false,
    .bool false,
    .pointer (some ⟨bb, 0, none⟩),
    .slice la3 ln3 lc3,
    .pointer (some ⟨rb, 0, none⟩),
    .slice la4 ln4 lc4,
    .bool true,
    .bool false,
    .bool false,
    .bool false,
    .pointer (some ⟨bb, 0, none⟩),
    .slice la5 ln5 lc5,
    .pointer (some ⟨rb, 0, none⟩),
    .slice la6 ln6 lc6,
    .bool true,
    .bool false,
    .bool false,
    .bool false,
    .pointer (some ⟨bb, 0, none⟩),
    .slice la7 ln7 lc7,
    .pointer (some ⟨rb, 0, none⟩),
    .slice la8 ln8 lc8,
    .bool true,
    .bool false,
    .bool false] : List Value).getD j undef
theorem regV_list {l : List Value} (hh : l.length = 54) : ∃ v0 v1 v2 v3 v4 v5 v6 v7 v8 v9 v10 v11 v12 v13 v14 v15 v16 v17 v18 v19 v20 v21 v22 v23 v24 v25 v26 v27 v28 v29 v30 v31 v32 v33 v34 v35 v36 v37 v38 v39 v40 v41 v42 v43 v44 v45 v46 v47 v48 v49 v50 v51 v52 v53, l = [v0, v1, v2, v3, v4, v5, v6, v7, v8, v9, v10, v11, v12, v13, v14, v15, v16, v17, v18, v19, v20, v21, v22, v23, v24, v25, v26, v27, v28, v29, v30, v31, v32, v33, v34, v35, v36, v37, v38, v39, v40, v41, v42, v43, v44, v45, v46, v47, v48, v49, v50, v51, v52, v53] := by
  obtain ⟨v0, t0, rfl, h0⟩ := cons_of hh
  obtain ⟨v1, t1, rfl, h1⟩ := cons_of h0
  obtain ⟨v2, t2, rfl, h2⟩ := cons_of h1
  obtain ⟨v3, t3, rfl, h3⟩ := cons_of h2
  obtain ⟨v4, t4, rfl, h4⟩ := cons_of h3
  obtain ⟨v5, t5, rfl, h5⟩ := cons_of h4
  obtain ⟨v6, t6, rfl, h6⟩ := cons_of h5
  obtain ⟨v7, t7, rfl, h7⟩ := cons_of h6
  obtain ⟨v8, t8, rfl, h8⟩ := cons_of h7
  obtain ⟨v9, t9, rfl, h9⟩ := cons_of h8
  obtain ⟨v10, t10, rfl, h10⟩ := cons_of h9
  obtain ⟨v11, t11, rfl, h11⟩ := cons_of h10
  obtain ⟨v12, t12, rfl, h12⟩ := cons_of h11
  obtain ⟨v13, t13, rfl, h13⟩ := cons_of h12
  obtain ⟨v14, t14, rfl, h14⟩ := cons_of h13
  obtain ⟨v15, t15, rfl, h15⟩ := cons_of h14
  obtain ⟨v16, t16, rfl, h16⟩ := cons_of h15
  obtain ⟨v17, t17, rfl, h17⟩ := cons_of h16
  obtain ⟨v18, t18, rfl, h18⟩ := cons_of h17
  obtain ⟨v19, t19, rfl, h19⟩ := cons_of h18
  obtain ⟨v20, t20, rfl, h20⟩ := cons_of h19
  obtain ⟨v21, t21, rfl, h21⟩ := cons_of h20
  obtain ⟨v22, t22, rfl, h22⟩ := cons_of h21
  obtain ⟨v23, t23, rfl, h23⟩ := cons_of h22
  obtain ⟨v24, t24, rfl, h24⟩ := cons_of h23
  obtain ⟨v25, t25, rfl, h25⟩ := cons_of h24
  obtain ⟨v26, t26, rfl, h26⟩ := cons_of h25
  obtain ⟨v27, t27, rfl, h27⟩ := cons_of h26
  obtain ⟨v28, t28, rfl, h28⟩ := cons_of h27
  obtain ⟨v29, t29, rfl, h29⟩ := cons_of h28
  obtain ⟨v30, t30, rfl, h30⟩ := cons_of h29
  obtain ⟨v31, t31, rfl, h31⟩ := cons_of h30
  obtain ⟨v32, t32, rfl, h32⟩ := cons_of h31
  obtain ⟨v33, t33, rfl, h33⟩ := cons_of h32
  obtain ⟨v34, t34, rfl, h34⟩ := cons_of h33
  obtain ⟨v35, t35, rfl, h35⟩ := cons_of h34
  obtain ⟨v36, t36, rfl, h36⟩ := cons_of h35
  obtain ⟨v37, t37, rfl, h37⟩ := cons_of h36
  obtain ⟨v38, t38, rfl, h38⟩ := cons_of h37
  obtain ⟨v39, t39, rfl, h39⟩ := cons_of h38
  obtain ⟨v40, t40, rfl, h40⟩ := cons_of h39
  obtain ⟨v41, t41, rfl, h41⟩ := cons_of h40
  obtain ⟨v42, t42, rfl, h42⟩ := cons_of h41
  obtain ⟨v43, t43, rfl, h43⟩ := cons_of h42
  obtain ⟨v44, t44, rfl, h44⟩ := cons_of h43
  obtain ⟨v45, t45, rfl, h45⟩ := cons_of h44
  obtain ⟨v46, t46, rfl, h46⟩ := cons_of h45
  obtain ⟨v47, t47, rfl, h47⟩ := cons_of h46
  obtain ⟨v48, t48, rfl, h48⟩ := cons_of h47
  obtain ⟨v49, t49, rfl, h49⟩ := cons_of h48
  obtain ⟨v50, t50, rfl, h50⟩ := cons_of h49
  obtain ⟨v51, t51, rfl, h51⟩ := cons_of h50
  obtain ⟨v52, t52, rfl, h52⟩ := cons_of h51
  obtain ⟨v53, t53, rfl, h53⟩ := cons_of h52
  obtain rfl := List.eq_nil_of_length_eq_zero h53
  exact ⟨_, _, _, _, _, _, _, _, _, _, _, _, _, _, _, _, _, _, _, _, _, _, _, _, _, _, _, _, _, _, _, _, _, _, _, _, _, _, _, _, _, _, _, _, _, _, _, _, _, _, _, _, _, _, rfl⟩
set_option maxHeartbeats 80000000 in
theorem armR : skel.2.2.1 := by
  intro w la ln lc ls an ac as_ x1 w2 tb ub u0 T w3 vb w4 rb A0 x2 x3 x4 u10 x5 x6 x7 x8 x9 x10 x11 x12 x13 x14 x15 x16 x17 x18 x19 x20 x21 u28 u29 u30 u31 x22 x23 x24 x25 x26 x27 x28 x29 x30 x31 x32 x33 x34 x35 x36 x37 x38 x39 x40 x41 x42 x43 x44 x45 x46 x47 x48 x49 x50 x51 x52 x53 x54 x55 x56 x57 x58 x59 x60 x61 x62 x63 x64 x65 x66 x67 x68 x69 x70 x71 x72 x73 x74 x75 x76 x77 x78 x79 x80 x81 x82 x83 x84 x85 x86 x87 x88 x89 x90 x91 x92 x93 x94 x95 x96 x97 x98 x99 x100 x101 x102 x103 x104 x105 x106 x107 x108 x109 x110 x111 x112 x113 x114 x115 x116 x117 x118 x119 x120 x121 x122 x123 x124 x125 x126 x127 x128 x129 x130 x131 x132 x133 x134 x135 x136 x137 x138 x139 x140 x141 x142 x143 x144 x145 x146 x147 x148 x149 x150 x151 x152 x153 x154 x155 x156 x157 x158 x159 x160 x161 x162 x163 x164 x165 x166 x167 x168 x169 x170 x171 x172 x173 x174 x175 x176 x177 x178 x179 x180 x181 x182 x183 x184 x185 x186 x187 x188 x189 x190 x191 x192 x193 x194 x195 x196 x197 x198 x199 x200 x201 x202 x203 x204 x205 x206 x207 x208 x209 x210 x211 x212 x213 x214 x215 x216 x217 x218 x219 x220 x221 x222 x223 x224 x225 x226 x227 x228 x229 x230 x231 x232 x233 x234 x235 x236 x237 x238 x239 x240 x241 x242 x243 x244 x245 x246 x247 x248 x249 x250 x251 x252 x253 x254 x255 x256 x257 x258 x259 x260 x261 x262 x263 x264 j hj1 hj2 A t u b v r zr x265 x266 x267 x268 x269 x270 x271 x272 x273 x274 x275 x276 x277 x278 x279 x280 x281 x282 x283 x284 x285 x286 x287 x288 x289 x290 x291 x292 x293 x294 x295 x296 x297 x298 x299 x300 x301 x302 x303 x304 x305 x306 x307 x308 x309 x310 x311 x312 x313 x314 x315 x316 x317 x318 x319 x320 x321 x322 x323 x324 x325 x326 x327 x328 x329 x330 x331 x332 x333 x334 x335 x336 x337 x338 x339 x340 x341 x342 x343 x344 x345 x346 x347 x348 x349 x350 x351 x352 x353 x354 x355 x356 x357 x358 x359 x360 x361 x362 x363 x364 x365 x366 x367 x368 x369 x370 x371 x372 x373 x374 x375 x376 x377 x378 x379 x380 x381 x382 x383 x384 x385 x386 x387 x388 x389 x390 x391 x392 x393 x394 x395 x396 x397 x398 x399 x400 x401 x402 x403 x404 x405 x406 x407 x408 x409 x410 x411 x412 x413 x414 x415 x416 x417 x418 x419 x420 x421 x422 x423 x424 x425 x426 x427 x428 x429 x430 x431 x432 x433 x434 x435 x436 x437 x438 x439 x440 x441 x442 x443 x444 x445 x446 x447 x448 x449 x450 x451 x452 x453 x454 x455 x456 x457 x458 x459 x460 x461 x462 x463 x464 x465 x466 x467 x468 x469 x470 x471 x472 x473 x474 x475 x476 x477 x478 x479 x480 x481 x482 x483 x484 x485 x486 x487 x488 x489 x490 x491 x492 x493 x494 x495 x496 x497 x498 x499 x500 x501 x502 x503 x504 x505 x506 x507 hlt1 hlt2 ab ao m x508 hin x509 x510 x511 x512 wA hxA xb bxA j40 kd z0 hkd wc u4 u7 u11 u12 u13 u14 u15 u16 u17 u18 u19 u20 u21 u22 u23 u24 u25 u26 u27 u43 u44 u45 u46 u47 u48 u49 u50 u51 u52 u53 u54 u55 u56 u57 u58 u59 u60 u61 u62 u63 u64 u65 u66 u67 u68 u69 u70 u71 u72 u73 u74 u75 u76 u77 u78 u79 u80 u81 u82 u83 u84 u85 u86 u87 u88 u89 u90 u91 u92 u93 u94 u95 u96 u97 u98 u99 u100 u101 u102 u103 u104 u105 u106 u107 u108 u109 u110 u111 u112 u113 u114 u115 u116 u117 u118 u119 u120 u121 u122 u123 u124 u125 u126 u127 u128 u129 u130 u131 u132 u133 u134 u135 u136 u137 u138 u139 u140 u141 u142 u143 u144 u145 u146 u147 u148 u149 u150 u151 u152 u153 u154 u155 u156 u157 u158 u159 u160 u161 u162 u163 u164 u165 u166 u167 u168 u169 u170 u171 u172 u173 u174 u175 u176 u177 u178 u179 u180 u181 u182 u183 u184 u185 u186 u187 u188 u189 u190 u191 u192 u193 u194 u195 u196 u197 u198 u199 u200 u201 u202 u203 u204 u205 u206 u207 u208 u209 u210 u211 u212 u213 u214 u215 u216 u217 u218 u219 u220 u221 u222 u223 u224 u225 u226 u227 u228 u229 u230 u231 u232 u233 u234 u235 u236 u237 u238 u239 u240 u241 u242 u243 u244 u245 u246 u247 u248 u249 u250 u251 u252 u253 u254 u255 u256 u257 u258 u259 u260 u261 u262 u263 u264 u265 u266 u267 u268 u269 u270 u271 u272 u273 u274 u275 u276 u277 u278 u279 u280 u281 u282 u283 u284 u285 hcut
  clear z0 hxA bxA zr
  obtain ⟨AA, tt, uu, bb, vv, rr, rfl, rfl, hx, zr, bxx⟩ := hcut
  have z1 := (act_cells bxx.blk).2.1
  have ask := zr.asks hx (by omega)
  have hcl := hx.cls m.oop
  have hpk := zr.pk m.oop
  obtain ⟨cx, hcx⟩ : ∃ q, Hid (clsR (peekR vv tt m.oop) = q) := ⟨_, rfl⟩
  obtain ⟨ex, hex⟩ : ∃ q, Hid (errR (peekR vv tt m.oop) = q) := ⟨_, rfl⟩
  obtain ⟨vx, hvx⟩ : ∃ q, Hid (vsR (peekR vv tt m.oop) = q) := ⟨_, rfl⟩
  obtain ⟨bx, hbx⟩ : ∃ q, Hid (bsR (peekR vv tt m.oop) = q) := ⟨_, rfl⟩
  replace hpk : Hid _ := hpk
  rw [hcx.out] at hcl
  go_wp2_with fail
  refine (hx_peek hx m.oop).mono ?_
  rintro e w7 ⟨sa, sn, sc, ba, bn, bc, rfl, ro, B7⟩
  rw [hvx.out, hbx.out] at ro
  rw [hcx.out, hex.out]
  have hx1 := hx.below B7
  have bx1 := bxx.below B7
  have B8 : Below w7.heap.size w7 (w7.alloc (objB cx (.slice sa sn sc) (.slice ba bn bc))) := box_below
  have E8 := new1 w7 (objB cx (.slice sa sn sc) (.slice ba bn bc))
  have hx2 := hx1.below B8
  have ro2 := ro.below B8
  have bx2 := bx1.below B8
  clear z1
  have z1 := (act_cells bx2.blk).2.1
  clear hx bxx ro hx1 bx1 B7 B8
  unfold objB at E8 hx2 ro2 bx2 z1
  go_wp2_with fail
  generalize w7.alloc (.cells #[.int .i64 cx, .slice sa sn sc, .slice ba bn bc] 35) = w8 at *
  obtain ⟨b28, hb28⟩ : ∃ q, q = w7.heap.size := ⟨_, rfl⟩
  rw [← hb28] at E8 ⊢
  clear hb28
  replace E8 : w8.heap[b28]? = some (objB cx (.slice sa sn sc) (.slice ba bn bc)) := E8
  refine (hx_dpeek hx2 ask m.oop).mono ?_
  rintro e w9 ⟨ta, tn, tc, ea, en, ec, rfl, ro9, B9⟩
  rw [hpk.out, hvx.out, hbx.out] at ro9
  rw [hpk.out, hcx.out, hex.out]
  have hx3 := hx2.below B9
  have E9 := (B9.block b28 (lt_of_block' E8)).trans E8
  have ro3 := ro2.below B9
  have B10 : Below w9.heap.size w9 (w9.alloc (objB cx (.slice ta tn tc) (.slice ea en ec))) := box_below
  have F10 := new1 w9 (objB cx (.slice ta tn tc) (.slice ea en ec))
  have hx4 := hx3.below B10
  have ro4 := ro3.below B10
  have ro10 := ro9.below B10
  have E10 := (B10.block b28 (lt_of_block' E9)).trans E9
  have hrc := hx_c hx4
  rw [zr.vr.c] at hrc
  obtain ⟨cb, hcb⟩ : ∃ q, Hid (vv.base = q) := ⟨_, rfl⟩
  rw [hcb.out] at hrc
  clear hx2 ro2 bx2 E8 z1 E9 ro3 ro9 hx3 B10 B9
  have l28 := lt_of_block' E10
  have l30 := lt_of_block' F10
  obtain ⟨y0, y1, y2, _⟩ := obj_cells E10
  obtain ⟨q0, q1, q2, _⟩ := obj_cells F10
  clear F10 E10
  unfold objB at hx4 ro4 ro10 y0 y1 y2 q0 q1 q2 l28 l30 hrc
  go_upto_region 55 with fail
  generalize w9.alloc (.cells #[.int .i64 cx, .slice ta tn tc, .slice ea en ec] 35) = w10 at *
  obtain ⟨b30, hb30⟩ : ∃ q, q = w9.heap.size := ⟨_, rfl⟩
  rw [← hb30] at q0 q1 q2 l30 ⊢
  clear hb30
  have io1 := ro4.isO hcl
  have io2 := ro10.isO hcl
  clear hcl
  refine abstract_act fun A hA => ?_
  have hsz : A.tmps.size = 287 := by rw [hA]; rfl
  have s11 : A.tmps[11]? = some (.bool true) := by rw [hA]; rfl
  have s28 : A.tmps[28]? = some (.pointer (some ⟨b28, 0, none⟩)) := by rw [hA]; rfl
  have s30 : A.tmps[30]? = some (.pointer (some ⟨b30, 0, none⟩)) := by rw [hA]; rfl
  have s29 : A.tmps[29]? = some (.int .i64 ex) := by rw [hA]; rfl
  have s31 : A.tmps[31]? = some (.int .i64 ex) := by rw [hA]; rfl
  have s7 : A.tmps[7]? = some (.pointer (some ⟨bb, 0, none⟩)) := by rw [hA]; rfl
  have s8 : A.tmps[8]? = some (.pointer (some ⟨rb, 0, none⟩)) := by rw [hA]; rfl
  refine wp_region_inv2' (fun A D a w' => ∃ (l : List Value) (la1 : Option Addr) (ln1 : Nat) (lc1 : Nat) (la2 : Option Addr) (ln2 : Nat) (lc2 : Nat) (la3 : Option Addr) (ln3 : Nat) (lc3 : Nat) (la4 : Option Addr) (ln4 : Nat) (lc4 : Nat) (la5 : Option Addr) (ln5 : Nat) (lc5 : Nat) (la6 : Option Addr) (ln6 : Nat) (lc6 : Nat) (la7 : Option Addr) (ln7 : Nat) (lc7 : Nat) (la8 : Option Addr) (ln8 : Nat) (lc8 : Nat) (lo1 : Nat) (hi1 : Nat) (lo2 : Nat) (hi2 : Nat), a = putAll A 232 l ∧ l.length = 54 ∧ (∀ j, j < 54 → D j → l[j]? = some (regV cx ex cb bb rb sa ba ta ea sn sc bn bc tn tc en ec la1 la2 la3 la4 la5 la6 la7 la8 ln1 lc1 ln2 lc2 ln3 lc3 ln4 lc4 ln5 lc5 ln6 lc6 ln7 lc7 ln8 lc8 j)) ∧ (Below w10.heap.size w10 w') ∧ (D 24 → ¬ D 51 → LsJ w' la1 ln1 lc1 (rdK vv)) ∧ (D 26 → ¬ D 51 → LsJ w' la2 ln2 lc2 (rdK vv)) ∧ (D 32 → ¬ D 51 → LsJ w' la3 ln3 lc3 (oopsL vv 1 4096)) ∧ (D 34 → ¬ D 51 → LsJ w' la4 ln4 lc4 (oopsL vv 1 4096)) ∧ (D 40 → ¬ D 51 → LsJ w' la5 ln5 lc5 (oopsL vv 4097 8192)) ∧ (D 42 → ¬ D 51 → LsJ w' la6 ln6 lc6 (oopsL vv 4097 8192)) ∧ (D 48 → ¬ D 51 → ChP w' lo1 hi1 la7 ln7 lc7 (chaL vv) ∧ w10.heap.size ≤ lo1 ∧ hi1 ≤ w'.heap.size) ∧ (D 50 → ¬ D 51 → ChD w' lo2 hi2 la8 ln8 lc8 (chaL vv) ∧ hi2 ≤ w'.heap.size) ∧ (D 48 → D 50 → hi1 ≤ lo2 ∨ hi2 ≤ lo1)) (by kernel_rfl) (by kernel_rfl) ?mono ?start ?step ?done
  case mono =>
    rintro D D' a w' hD ⟨l, la1, ln1, lc1, la2, ln2, lc2, la3, ln3, lc3, la4, ln4, lc4, la5, ln5, lc5, la6, ln6, lc6, la7, ln7, lc7, la8, ln8, lc8, lo1, hi1, lo2, hi2, ha, hlen, hl, hB, hL1, hL2, hL3, hL4, hL5, hL6, hP, hDd, hap⟩
    exact ⟨l, la1, ln1, lc1, la2, ln2, lc2, la3, ln3, lc3, la4, ln4, lc4, la5, ln5, lc5, la6, ln6, lc6, la7, ln7, lc7, la8, ln8, lc8, lo1, hi1, lo2, hi2, ha, hlen, fun j hj h => hl j hj ((hD j).2 h), hB, fun h h' => hL1 ((hD 24).2 h) (fun k => h' ((hD 51).1 k)), fun h h' => hL2 ((hD 26).2 h) (fun k => h' ((hD 51).1 k)), fun h h' => hL3 ((hD 32).2 h) (fun k => h' ((hD 51).1 k)), fun h h' => hL4 ((hD 34).2 h) (fun k => h' ((hD 51).1 k)), fun h h' => hL5 ((hD 40).2 h) (fun k => h' ((hD 51).1 k)), fun h h' => hL6 ((hD 42).2 h) (fun k => h' ((hD 51).1 k)), fun h h' => hP ((hD 48).2 h) (fun k => h' ((hD 51).1 k)), fun h h' => hDd ((hD 50).2 h) (fun k => h' ((hD 51).1 k)), fun h h' => hap ((hD 48).2 h) ((hD 50).2 h')⟩
  case start => exact ⟨_, none, 0, 0, none, 0, 0, none, 0, 0, none, 0, 0, none, 0, 0, none, 0, 0, none, 0, 0, none, 0, 0, 0, 0, 0, 0, (putAll_start A 232 54 (by omega)).1, (putAll_start A 232 54 (by omega)).2, fun _ _ h => h.elim, (Below.refl _ _).drew, fun h _ => h.elim, fun h _ => h.elim, fun h _ => h.elim, fun h _ => h.elim, fun h _ => h.elim, fun h _ => h.elim, fun h _ => h.elim, fun h _ => h.elim, fun h _ => h.elim⟩
  case step =>
    clear hA
    intro i o ho D a w' hI hn hcl hd
    obtain ⟨l, la1, ln1, lc1, la2, ln2, lc2, la3, ln3, lc3, la4, ln4, lc4, la5, ln5, lc5, la6, ln6, lc6, la7, ln7, lc7, la8, ln8, lc8, lo1, hi1, lo2, hi2, ha, hlen, hl, hB, hL1, hL2, hL3, hL4, hL5, hL6, hP, hDd, hap⟩ := hI
    match i, ho with
    | 0, ho =>
      cases Option.some.inj ho
      refine ⟨rfl, ?_⟩
      have ev : a.tmps[11]? = some (.bool true) := by rw [ha, putAll_low A 232 11 l (by omega) (by decide)]; exact s11
      refine wp_value (w' := w') (v := .bool true) (by simp [execOp, ev, go_sem]) ?_
      exact ⟨_, la1, ln1, lc1, la2, ln2, lc2, la3, ln3, lc3, la4, ln4, lc4, la5, ln5, lc5, la6, ln6, lc6, la7, ln7, lc7, la8, ln8, lc8, lo1, hi1, lo2, hi2, by rw [ha]; exact putAll_put A 232 0 l _ (by omega) (by omega), by rw [List.length_set]; exact hlen, set_known hlen (by decide) hl, hB, fun h h' => hL1 (h.resolve_left (by decide)) (fun k => h' (.inr k)), fun h h' => hL2 (h.resolve_left (by decide)) (fun k => h' (.inr k)), fun h h' => hL3 (h.resolve_left (by decide)) (fun k => h' (.inr k)), fun h h' => hL4 (h.resolve_left (by decide)) (fun k => h' (.inr k)), fun h h' => hL5 (h.resolve_left (by decide)) (fun k => h' (.inr k)), fun h h' => hL6 (h.resolve_left (by decide)) (fun k => h' (.inr k)), fun h h' => hP (h.resolve_left (by decide)) (fun k => h' (.inr k)), fun h h' => hDd (h.resolve_left (by decide)) (fun k => h' (.inr k)), fun h h' => hap (h.resolve_left (by decide)) (h'.resolve_left (by decide))⟩
    | 1, ho =>
      cases Option.some.inj ho
      refine ⟨rfl, ?_⟩
      have ev : a.tmps[232]? = some (.bool true) := known_at ha hsz hlen hl 0 (by decide) (hd ⟨0, .data⟩ (by simp) rfl)
      refine wp_value (w' := w') (v := .bool false) (by simp [execOp, ev, go_sem]) ?_
      exact ⟨_, la1, ln1, lc1, la2, ln2, lc2, la3, ln3, lc3, la4, ln4, lc4, la5, ln5, lc5, la6, ln6, lc6, la7, ln7, lc7, la8, ln8, lc8, lo1, hi1, lo2, hi2, by rw [ha]; exact putAll_put A 232 1 l _ (by omega) (by omega), by rw [List.length_set]; exact hlen, set_known hlen (by decide) hl, hB, fun h h' => hL1 (h.resolve_left (by decide)) (fun k => h' (.inr k)), fun h h' => hL2 (h.resolve_left (by decide)) (fun k => h' (.inr k)), fun h h' => hL3 (h.resolve_left (by decide)) (fun k => h' (.inr k)), fun h h' => hL4 (h.resolve_left (by decide)) (fun k => h' (.inr k)), fun h h' => hL5 (h.resolve_left (by decide)) (fun k => h' (.inr k)), fun h h' => hL6 (h.resolve_left (by decide)) (fun k => h' (.inr k)), fun h h' => hP (h.resolve_left (by decide)) (fun k => h' (.inr k)), fun h h' => hDd (h.resolve_left (by decide)) (fun k => h' (.inr k)), fun h h' => hap (h.resolve_left (by decide)) (h'.resolve_left (by decide))⟩
    | 2, ho =>
      cases Option.some.inj ho
      refine ⟨rfl, ?_⟩
      have ev : a.tmps[233]? = some (.bool false) := known_at ha hsz hlen hl 1 (by decide) (hd ⟨1, .data⟩ (by simp) rfl)
      refine wp_value (w' := w') (v := .bool false) (by simp [execOp, ev, go_sem]) ?_
      exact ⟨_, la1, ln1, lc1, la2, ln2, lc2, la3, ln3, lc3, la4, ln4, lc4, la5, ln5, lc5, la6, ln6, lc6, la7, ln7, lc7, la8, ln8, lc8, lo1, hi1, lo2, hi2, by rw [ha]; exact putAll_put A 232 2 l _ (by omega) (by omega), by rw [List.length_set]; exact hlen, set_known hlen (by decide) hl, hB, fun h h' => hL1 (h.resolve_left (by decide)) (fun k => h' (.inr k)), fun h h' => hL2 (h.resolve_left (by decide)) (fun k => h' (.inr k)), fun h h' => hL3 (h.resolve_left (by decide)) (fun k => h' (.inr k)), fun h h' => hL4 (h.resolve_left (by decide)) (fun k => h' (.inr k)), fun h h' => hL5 (h.resolve_left (by decide)) (fun k => h' (.inr k)), fun h h' => hL6 (h.resolve_left (by decide)) (fun k => h' (.inr k)), fun h h' => hP (h.resolve_left (by decide)) (fun k => h' (.inr k)), fun h h' => hDd (h.resolve_left (by decide)) (fun k => h' (.inr k)), fun h h' => hap (h.resolve_left (by decide)) (h'.resolve_left (by decide))⟩
    | 3, ho =>
      cases Option.some.inj ho
      refine ⟨wanted_of (k := 234) rfl rfl rfl (known_at ha hsz hlen hl 2 (by decide) (hd ⟨2, .guard⟩ (by simp) rfl)), ?_⟩
      have ev : a.tmps[28]? = some (.pointer (some ⟨b28, 0, none⟩)) := by rw [ha, putAll_low A 232 28 l (by omega) (by decide)]; exact s28
      have hc0 := (hB.cell (p := ⟨b28, 0, none⟩) l28).trans y0
      have hc1 := (hB.cell (p := ⟨b28, 1, none⟩) l28).trans y1
      have hc2 := (hB.cell (p := ⟨b28, 2, none⟩) l28).trans y2
      refine wp_value (w' := w') (v := .agg #[.int .i64 cx, .slice sa sn sc, .slice ba bn bc]) (by simp [execOp, ev, go_sem, hc0, hc1, hc2]) ?_
      exact ⟨_, la1, ln1, lc1, la2, ln2, lc2, la3, ln3, lc3, la4, ln4, lc4, la5, ln5, lc5, la6, ln6, lc6, la7, ln7, lc7, la8, ln8, lc8, lo1, hi1, lo2, hi2, by rw [ha]; exact putAll_put A 232 3 l _ (by omega) (by omega), by rw [List.length_set]; exact hlen, set_known hlen (by decide) hl, hB, fun h h' => hL1 (h.resolve_left (by decide)) (fun k => h' (.inr k)), fun h h' => hL2 (h.resolve_left (by decide)) (fun k => h' (.inr k)), fun h h' => hL3 (h.resolve_left (by decide)) (fun k => h' (.inr k)), fun h h' => hL4 (h.resolve_left (by decide)) (fun k => h' (.inr k)), fun h h' => hL5 (h.resolve_left (by decide)) (fun k => h' (.inr k)), fun h h' => hL6 (h.resolve_left (by decide)) (fun k => h' (.inr k)), fun h h' => hP (h.resolve_left (by decide)) (fun k => h' (.inr k)), fun h h' => hDd (h.resolve_left (by decide)) (fun k => h' (.inr k)), fun h h' => hap (h.resolve_left (by decide)) (h'.resolve_left (by decide))⟩
    | 4, ho =>
      cases Option.some.inj ho
      refine ⟨wanted_of (k := 234) rfl rfl rfl (known_at ha hsz hlen hl 2 (by decide) (hd ⟨2, .guard⟩ (by simp) rfl)), ?_⟩
      have ev : a.tmps[30]? = some (.pointer (some ⟨b30, 0, none⟩)) := by rw [ha, putAll_low A 232 30 l (by omega) (by decide)]; exact s30
      have hc0 := (hB.cell (p := ⟨b30, 0, none⟩) l30).trans q0
      have hc1 := (hB.cell (p := ⟨b30, 1, none⟩) l30).trans q1
      have hc2 := (hB.cell (p := ⟨b30, 2, none⟩) l30).trans q2
      refine wp_value (w' := w') (v := .agg #[.int .i64 cx, .slice ta tn tc, .slice ea en ec]) (by simp [execOp, ev, go_sem, hc0, hc1, hc2]) ?_
      exact ⟨_, la1, ln1, lc1, la2, ln2, lc2, la3, ln3, lc3, la4, ln4, lc4, la5, ln5, lc5, la6, ln6, lc6, la7, ln7, lc7, la8, ln8, lc8, lo1, hi1, lo2, hi2, by rw [ha]; exact putAll_put A 232 4 l _ (by omega) (by omega), by rw [List.length_set]; exact hlen, set_known hlen (by decide) hl, hB, fun h h' => hL1 (h.resolve_left (by decide)) (fun k => h' (.inr k)), fun h h' => hL2 (h.resolve_left (by decide)) (fun k => h' (.inr k)), fun h h' => hL3 (h.resolve_left (by decide)) (fun k => h' (.inr k)), fun h h' => hL4 (h.resolve_left (by decide)) (fun k => h' (.inr k)), fun h h' => hL5 (h.resolve_left (by decide)) (fun k => h' (.inr k)), fun h h' => hL6 (h.resolve_left (by decide)) (fun k => h' (.inr k)), fun h h' => hP (h.resolve_left (by decide)) (fun k => h' (.inr k)), fun h h' => hDd (h.resolve_left (by decide)) (fun k => h' (.inr k)), fun h h' => hap (h.resolve_left (by decide)) (h'.resolve_left (by decide))⟩
    | 5, ho =>
      cases Option.some.inj ho
      refine ⟨wanted_of (k := 234) rfl rfl rfl (known_at ha hsz hlen hl 2 (by decide) (hd ⟨2, .guard⟩ (by simp) rfl)), ?_⟩
      have ev : a.tmps[235]? = some (.agg #[.int .i64 cx, .slice sa sn sc, .slice ba bn bc]) := known_at ha hsz hlen hl 3 (by decide) (hd ⟨3, .data⟩ (by simp) rfl)
      have ev' : a.tmps[236]? = some (.agg #[.int .i64 cx, .slice ta tn tc, .slice ea en ec]) := known_at ha hsz hlen hl 4 (by decide) (hd ⟨4, .data⟩ (by simp) rfl)
      refine wp_enter (f := 9) (args := #[.agg #[.int .i64 cx, .slice sa sn sc, .slice ba bn bc], .agg #[.int .i64 cx, .slice ta tn tc, .slice ea en ec]]) (by simp [execOp, ev, ev', go_sem]) ?_
      refine (rsame_eq (io1.below hB) (io2.below hB)).mono ?_
      rintro e w6 ⟨rfl, HB⟩
      refine ⟨_, rfl, ?_⟩
      exact ⟨_, la1, ln1, lc1, la2, ln2, lc2, la3, ln3, lc3, la4, ln4, lc4, la5, ln5, lc5, la6, ln6, lc6, la7, ln7, lc7, la8, ln8, lc8, lo1, hi1, lo2, hi2, by rw [ha]; exact putAll_put A 232 5 l _ (by omega) (by omega), by rw [List.length_set]; exact hlen, set_known hlen (by decide) hl, below_size hB hB.size HB, fun h h' => (hL1 (h.resolve_left (by decide)) (fun k => h' (.inr k))).below HB, fun h h' => (hL2 (h.resolve_left (by decide)) (fun k => h' (.inr k))).below HB, fun h h' => (hL3 (h.resolve_left (by decide)) (fun k => h' (.inr k))).below HB, fun h h' => (hL4 (h.resolve_left (by decide)) (fun k => h' (.inr k))).below HB, fun h h' => (hL5 (h.resolve_left (by decide)) (fun k => h' (.inr k))).below HB, fun h h' => (hL6 (h.resolve_left (by decide)) (fun k => h' (.inr k))).below HB, fun h h' => have q := hP (h.resolve_left (by decide)) (fun k => h' (.inr k)); ⟨q.1.below HB, q.2.1, Nat.le_trans q.2.2 HB.size⟩, fun h h' => have q := hDd (h.resolve_left (by decide)) (fun k => h' (.inr k)); ⟨q.1.below HB, Nat.le_trans q.2 HB.size⟩, fun h h' => hap (h.resolve_left (by decide)) (h'.resolve_left (by decide))⟩
    | 6, ho =>
      cases Option.some.inj ho
      refine ⟨wanted_of (k := 234) rfl rfl rfl (known_at ha hsz hlen hl 2 (by decide) (hd ⟨2, .guard⟩ (by simp) rfl)), ?_⟩
      have ev : a.tmps[237]? = some (.bool true) := known_at ha hsz hlen hl 5 (by decide) (hd ⟨5, .data⟩ (by simp) rfl)
      refine wp_value (w' := w') (v := .bool false) (by simp [execOp, ev, go_sem]) ?_
      exact ⟨_, la1, ln1, lc1, la2, ln2, lc2, la3, ln3, lc3, la4, ln4, lc4, la5, ln5, lc5, la6, ln6, lc6, la7, ln7, lc7, la8, ln8, lc8, lo1, hi1, lo2, hi2, by rw [ha]; exact putAll_put A 232 6 l _ (by omega) (by omega), by rw [List.length_set]; exact hlen, set_known hlen (by decide) hl, hB, fun h h' => hL1 (h.resolve_left (by decide)) (fun k => h' (.inr k)), fun h h' => hL2 (h.resolve_left (by decide)) (fun k => h' (.inr k)), fun h h' => hL3 (h.resolve_left (by decide)) (fun k => h' (.inr k)), fun h h' => hL4 (h.resolve_left (by decide)) (fun k => h' (.inr k)), fun h h' => hL5 (h.resolve_left (by decide)) (fun k => h' (.inr k)), fun h h' => hL6 (h.resolve_left (by decide)) (fun k => h' (.inr k)), fun h h' => hP (h.resolve_left (by decide)) (fun k => h' (.inr k)), fun h h' => hDd (h.resolve_left (by decide)) (fun k => h' (.inr k)), fun h h' => hap (h.resolve_left (by decide)) (h'.resolve_left (by decide))⟩
    | 7, ho =>
      cases Option.some.inj ho
      refine ⟨rfl, ?_⟩
      have ev : a.tmps[234]? = some (.bool false) := known_at ha hsz hlen hl 2 (by decide) (hd ⟨2, .data⟩ (by simp) rfl)
      have ev' : a.tmps[238]? = some (.bool false) := known_at ha hsz hlen hl 6 (by decide) (hd ⟨6, .data⟩ (by simp) rfl)
      refine wp_value (w' := w') (v := .bool false) (by simp [execOp, ev, ev', go_sem]) ?_
      exact ⟨_, la1, ln1, lc1, la2, ln2, lc2, la3, ln3, lc3, la4, ln4, lc4, la5, ln5, lc5, la6, ln6, lc6, la7, ln7, lc7, la8, ln8, lc8, lo1, hi1, lo2, hi2, by rw [ha]; exact putAll_put A 232 7 l _ (by omega) (by omega), by rw [List.length_set]; exact hlen, set_known hlen (by decide) hl, hB, fun h h' => hL1 (h.resolve_left (by decide)) (fun k => h' (.inr k)), fun h h' => hL2 (h.resolve_left (by decide)) (fun k => h' (.inr k)), fun h h' => hL3 (h.resolve_left (by decide)) (fun k => h' (.inr k)), fun h h' => hL4 (h.resolve_left (by decide)) (fun k => h' (.inr k)), fun h h' => hL5 (h.resolve_left (by decide)) (fun k => h' (.inr k)), fun h h' => hL6 (h.resolve_left (by decide)) (fun k => h' (.inr k)), fun h h' => hP (h.resolve_left (by decide)) (fun k => h' (.inr k)), fun h h' => hDd (h.resolve_left (by decide)) (fun k => h' (.inr k)), fun h h' => hap (h.resolve_left (by decide)) (h'.resolve_left (by decide))⟩
    | 8, ho =>
      cases Option.some.inj ho
      refine ⟨rfl, ?_⟩
      have ev : a.tmps[239]? = some (.bool false) := known_at ha hsz hlen hl 7 (by decide) (hd ⟨7, .data⟩ (by simp) rfl)
      refine wp_value (w' := w') (v := .bool false) (by simp [execOp, ev, go_sem]) ?_
      exact ⟨_, la1, ln1, lc1, la2, ln2, lc2, la3, ln3, lc3, la4, ln4, lc4, la5, ln5, lc5, la6, ln6, lc6, la7, ln7, lc7, la8, ln8, lc8, lo1, hi1, lo2, hi2, by rw [ha]; exact putAll_put A 232 8 l _ (by omega) (by omega), by rw [List.length_set]; exact hlen, set_known hlen (by decide) hl, hB, fun h h' => hL1 (h.resolve_left (by decide)) (fun k => h' (.inr k)), fun h h' => hL2 (h.resolve_left (by decide)) (fun k => h' (.inr k)), fun h h' => hL3 (h.resolve_left (by decide)) (fun k => h' (.inr k)), fun h h' => hL4 (h.resolve_left (by decide)) (fun k => h' (.inr k)), fun h h' => hL5 (h.resolve_left (by decide)) (fun k => h' (.inr k)), fun h h' => hL6 (h.resolve_left (by decide)) (fun k => h' (.inr k)), fun h h' => hP (h.resolve_left (by decide)) (fun k => h' (.inr k)), fun h h' => hDd (h.resolve_left (by decide)) (fun k => h' (.inr k)), fun h h' => hap (h.resolve_left (by decide)) (h'.resolve_left (by decide))⟩
    | 9, ho =>
      cases Option.some.inj ho
      refine ⟨wanted_of (k := 240) rfl rfl rfl (known_at ha hsz hlen hl 8 (by decide) (hd ⟨8, .guard⟩ (by simp) rfl)), ?_⟩
      have ev : a.tmps[29]? = some (.int .i64 ex) := by rw [ha, putAll_low A 232 29 l (by omega) (by decide)]; exact s29
      refine wp_value (w' := w') (v := .int .i64 ex) (by simp [execOp, ev, go_sem]) ?_
      exact ⟨_, la1, ln1, lc1, la2, ln2, lc2, la3, ln3, lc3, la4, ln4, lc4, la5, ln5, lc5, la6, ln6, lc6, la7, ln7, lc7, la8, ln8, lc8, lo1, hi1, lo2, hi2, by rw [ha]; exact putAll_put A 232 9 l _ (by omega) (by omega), by rw [List.length_set]; exact hlen, set_known hlen (by decide) hl, hB, fun h h' => hL1 (h.resolve_left (by decide)) (fun k => h' (.inr k)), fun h h' => hL2 (h.resolve_left (by decide)) (fun k => h' (.inr k)), fun h h' => hL3 (h.resolve_left (by decide)) (fun k => h' (.inr k)), fun h h' => hL4 (h.resolve_left (by decide)) (fun k => h' (.inr k)), fun h h' => hL5 (h.resolve_left (by decide)) (fun k => h' (.inr k)), fun h h' => hL6 (h.resolve_left (by decide)) (fun k => h' (.inr k)), fun h h' => hP (h.resolve_left (by decide)) (fun k => h' (.inr k)), fun h h' => hDd (h.resolve_left (by decide)) (fun k => h' (.inr k)), fun h h' => hap (h.resolve_left (by decide)) (h'.resolve_left (by decide))⟩
    | 10, ho =>
      cases Option.some.inj ho
      refine ⟨wanted_of (k := 240) rfl rfl rfl (known_at ha hsz hlen hl 8 (by decide) (hd ⟨8, .guard⟩ (by simp) rfl)), ?_⟩
      have ev : a.tmps[31]? = some (.int .i64 ex) := by rw [ha, putAll_low A 232 31 l (by omega) (by decide)]; exact s31
      refine wp_value (w' := w') (v := .int .i64 ex) (by simp [execOp, ev, go_sem]) ?_
      exact ⟨_, la1, ln1, lc1, la2, ln2, lc2, la3, ln3, lc3, la4, ln4, lc4, la5, ln5, lc5, la6, ln6, lc6, la7, ln7, lc7, la8, ln8, lc8, lo1, hi1, lo2, hi2, by rw [ha]; exact putAll_put A 232 10 l _ (by omega) (by omega), by rw [List.length_set]; exact hlen, set_known hlen (by decide) hl, hB, fun h h' => hL1 (h.resolve_left (by decide)) (fun k => h' (.inr k)), fun h h' => hL2 (h.resolve_left (by decide)) (fun k => h' (.inr k)), fun h h' => hL3 (h.resolve_left (by decide)) (fun k => h' (.inr k)), fun h h' => hL4 (h.resolve_left (by decide)) (fun k => h' (.inr k)), fun h h' => hL5 (h.resolve_left (by decide)) (fun k => h' (.inr k)), fun h h' => hL6 (h.resolve_left (by decide)) (fun k => h' (.inr k)), fun h h' => hP (h.resolve_left (by decide)) (fun k => h' (.inr k)), fun h h' => hDd (h.resolve_left (by decide)) (fun k => h' (.inr k)), fun h h' => hap (h.resolve_left (by decide)) (h'.resolve_left (by decide))⟩
    | 11, ho =>
      cases Option.some.inj ho
      refine ⟨wanted_of (k := 240) rfl rfl rfl (known_at ha hsz hlen hl 8 (by decide) (hd ⟨8, .guard⟩ (by simp) rfl)), ?_⟩
      have ev : a.tmps[241]? = some (.int .i64 ex) := known_at ha hsz hlen hl 9 (by decide) (hd ⟨9, .data⟩ (by simp) rfl)
      have ev' : a.tmps[242]? = some (.int .i64 ex) := known_at ha hsz hlen hl 10 (by decide) (hd ⟨10, .data⟩ (by simp) rfl)
      refine wp_value (w' := w') (v := .bool false) (by simp [execOp, ev, ev', go_sem]) ?_
      exact ⟨_, la1, ln1, lc1, la2, ln2, lc2, la3, ln3, lc3, la4, ln4, lc4, la5, ln5, lc5, la6, ln6, lc6, la7, ln7, lc7, la8, ln8, lc8, lo1, hi1, lo2, hi2, by rw [ha]; exact putAll_put A 232 11 l _ (by omega) (by omega), by rw [List.length_set]; exact hlen, set_known hlen (by decide) hl, hB, fun h h' => hL1 (h.resolve_left (by decide)) (fun k => h' (.inr k)), fun h h' => hL2 (h.resolve_left (by decide)) (fun k => h' (.inr k)), fun h h' => hL3 (h.resolve_left (by decide)) (fun k => h' (.inr k)), fun h h' => hL4 (h.resolve_left (by decide)) (fun k => h' (.inr k)), fun h h' => hL5 (h.resolve_left (by decide)) (fun k => h' (.inr k)), fun h h' => hL6 (h.resolve_left (by decide)) (fun k => h' (.inr k)), fun h h' => hP (h.resolve_left (by decide)) (fun k => h' (.inr k)), fun h h' => hDd (h.resolve_left (by decide)) (fun k => h' (.inr k)), fun h h' => hap (h.resolve_left (by decide)) (h'.resolve_left (by decide))⟩
    | 12, ho =>
      cases Option.some.inj ho
      refine ⟨rfl, ?_⟩
      have ev : a.tmps[240]? = some (.bool false) := known_at ha hsz hlen hl 8 (by decide) (hd ⟨8, .data⟩ (by simp) rfl)
      have ev' : a.tmps[243]? = some (.bool false) := known_at ha hsz hlen hl 11 (by decide) (hd ⟨11, .data⟩ (by simp) rfl)
      refine wp_value (w' := w') (v := .bool false) (by simp [execOp, ev, ev', go_sem]) ?_
      exact ⟨_, la1, ln1, lc1, la2, ln2, lc2, la3, ln3, lc3, la4, ln4, lc4, la5, ln5, lc5, la6, ln6, lc6, la7, ln7, lc7, la8, ln8, lc8, lo1, hi1, lo2, hi2, by rw [ha]; exact putAll_put A 232 12 l _ (by omega) (by omega), by rw [List.length_set]; exact hlen, set_known hlen (by decide) hl, hB, fun h h' => hL1 (h.resolve_left (by decide)) (fun k => h' (.inr k)), fun h h' => hL2 (h.resolve_left (by decide)) (fun k => h' (.inr k)), fun h h' => hL3 (h.resolve_left (by decide)) (fun k => h' (.inr k)), fun h h' => hL4 (h.resolve_left (by decide)) (fun k => h' (.inr k)), fun h h' => hL5 (h.resolve_left (by decide)) (fun k => h' (.inr k)), fun h h' => hL6 (h.resolve_left (by decide)) (fun k => h' (.inr k)), fun h h' => hP (h.resolve_left (by decide)) (fun k => h' (.inr k)), fun h h' => hDd (h.resolve_left (by decide)) (fun k => h' (.inr k)), fun h h' => hap (h.resolve_left (by decide)) (h'.resolve_left (by decide))⟩
    | 13, ho =>
      cases Option.some.inj ho
      refine ⟨rfl, ?_⟩
      have ev : a.tmps[244]? = some (.bool false) := known_at ha hsz hlen hl 12 (by decide) (hd ⟨12, .data⟩ (by simp) rfl)
      refine wp_value (w' := w') (v := .bool false) (by simp [execOp, ev, go_sem]) ?_
      exact ⟨_, la1, ln1, lc1, la2, ln2, lc2, la3, ln3, lc3, la4, ln4, lc4, la5, ln5, lc5, la6, ln6, lc6, la7, ln7, lc7, la8, ln8, lc8, lo1, hi1, lo2, hi2, by rw [ha]; exact putAll_put A 232 13 l _ (by omega) (by omega), by rw [List.length_set]; exact hlen, set_known hlen (by decide) hl, hB, fun h h' => hL1 (h.resolve_left (by decide)) (fun k => h' (.inr k)), fun h h' => hL2 (h.resolve_left (by decide)) (fun k => h' (.inr k)), fun h h' => hL3 (h.resolve_left (by decide)) (fun k => h' (.inr k)), fun h h' => hL4 (h.resolve_left (by decide)) (fun k => h' (.inr k)), fun h h' => hL5 (h.resolve_left (by decide)) (fun k => h' (.inr k)), fun h h' => hL6 (h.resolve_left (by decide)) (fun k => h' (.inr k)), fun h h' => hP (h.resolve_left (by decide)) (fun k => h' (.inr k)), fun h h' => hDd (h.resolve_left (by decide)) (fun k => h' (.inr k)), fun h h' => hap (h.resolve_left (by decide)) (h'.resolve_left (by decide))⟩
    | 14, ho =>
      cases Option.some.inj ho
      refine ⟨wanted_of (k := 245) rfl rfl rfl (known_at ha hsz hlen hl 13 (by decide) (hd ⟨13, .guard⟩ (by simp) rfl)), ?_⟩
      have ev : a.tmps[7]? = some (.pointer (some ⟨bb, 0, none⟩)) := by rw [ha, putAll_low A 232 7 l (by omega) (by decide)]; exact s7
      refine wp_value (w' := w') (v := .pointer (some ⟨bb, 0, none⟩)) (by simp [execOp, ev, go_sem]) ?_
      exact ⟨_, la1, ln1, lc1, la2, ln2, lc2, la3, ln3, lc3, la4, ln4, lc4, la5, ln5, lc5, la6, ln6, lc6, la7, ln7, lc7, la8, ln8, lc8, lo1, hi1, lo2, hi2, by rw [ha]; exact putAll_put A 232 14 l _ (by omega) (by omega), by rw [List.length_set]; exact hlen, set_known hlen (by decide) hl, hB, fun h h' => hL1 (h.resolve_left (by decide)) (fun k => h' (.inr k)), fun h h' => hL2 (h.resolve_left (by decide)) (fun k => h' (.inr k)), fun h h' => hL3 (h.resolve_left (by decide)) (fun k => h' (.inr k)), fun h h' => hL4 (h.resolve_left (by decide)) (fun k => h' (.inr k)), fun h h' => hL5 (h.resolve_left (by decide)) (fun k => h' (.inr k)), fun h h' => hL6 (h.resolve_left (by decide)) (fun k => h' (.inr k)), fun h h' => hP (h.resolve_left (by decide)) (fun k => h' (.inr k)), fun h h' => hDd (h.resolve_left (by decide)) (fun k => h' (.inr k)), fun h h' => hap (h.resolve_left (by decide)) (h'.resolve_left (by decide))⟩
    | 15, ho =>
      cases Option.some.inj ho
      refine ⟨wanted_of (k := 245) rfl rfl rfl (known_at ha hsz hlen hl 13 (by decide) (hd ⟨13, .guard⟩ (by simp) rfl)), ?_⟩
      have ev : a.tmps[246]? = some (.pointer (some ⟨bb, 0, none⟩)) := known_at ha hsz hlen hl 14 (by decide) (hd ⟨14, .data⟩ (by simp) rfl)
      have cB := hx_base (hx4.below hB)
      rw [hcb.out] at cB
      refine wp_enter (f := 24) (args := #[.pointer (some ⟨bb, 0, none⟩)]) (by simp [execOp, ev, go_sem]) ?_
      refine (cB).mono ?_
      rintro e w6 ⟨rfl, rfl⟩
      refine ⟨_, rfl, ?_⟩
      exact ⟨_, la1, ln1, lc1, la2, ln2, lc2, la3, ln3, lc3, la4, ln4, lc4, la5, ln5, lc5, la6, ln6, lc6, la7, ln7, lc7, la8, ln8, lc8, lo1, hi1, lo2, hi2, by rw [ha]; exact putAll_put A 232 15 l _ (by omega) (by omega), by rw [List.length_set]; exact hlen, set_known hlen (by decide) hl, hB, fun h h' => hL1 (h.resolve_left (by decide)) (fun k => h' (.inr k)), fun h h' => hL2 (h.resolve_left (by decide)) (fun k => h' (.inr k)), fun h h' => hL3 (h.resolve_left (by decide)) (fun k => h' (.inr k)), fun h h' => hL4 (h.resolve_left (by decide)) (fun k => h' (.inr k)), fun h h' => hL5 (h.resolve_left (by decide)) (fun k => h' (.inr k)), fun h h' => hL6 (h.resolve_left (by decide)) (fun k => h' (.inr k)), fun h h' => hP (h.resolve_left (by decide)) (fun k => h' (.inr k)), fun h h' => hDd (h.resolve_left (by decide)) (fun k => h' (.inr k)), fun h h' => hap (h.resolve_left (by decide)) (h'.resolve_left (by decide))⟩
    | 16, ho =>
      cases Option.some.inj ho
      refine ⟨wanted_of (k := 245) rfl rfl rfl (known_at ha hsz hlen hl 13 (by decide) (hd ⟨13, .guard⟩ (by simp) rfl)), ?_⟩
      have ev : a.tmps[8]? = some (.pointer (some ⟨rb, 0, none⟩)) := by rw [ha, putAll_low A 232 8 l (by omega) (by decide)]; exact s8
      refine wp_value (w' := w') (v := .pointer (some ⟨rb, 0, none⟩)) (by simp [execOp, ev, go_sem]) ?_
      exact ⟨_, la1, ln1, lc1, la2, ln2, lc2, la3, ln3, lc3, la4, ln4, lc4, la5, ln5, lc5, la6, ln6, lc6, la7, ln7, lc7, la8, ln8, lc8, lo1, hi1, lo2, hi2, by rw [ha]; exact putAll_put A 232 16 l _ (by omega) (by omega), by rw [List.length_set]; exact hlen, set_known hlen (by decide) hl, hB, fun h h' => hL1 (h.resolve_left (by decide)) (fun k => h' (.inr k)), fun h h' => hL2 (h.resolve_left (by decide)) (fun k => h' (.inr k)), fun h h' => hL3 (h.resolve_left (by decide)) (fun k => h' (.inr k)), fun h h' => hL4 (h.resolve_left (by decide)) (fun k => h' (.inr k)), fun h h' => hL5 (h.resolve_left (by decide)) (fun k => h' (.inr k)), fun h h' => hL6 (h.resolve_left (by decide)) (fun k => h' (.inr k)), fun h h' => hP (h.resolve_left (by decide)) (fun k => h' (.inr k)), fun h h' => hDd (h.resolve_left (by decide)) (fun k => h' (.inr k)), fun h h' => hap (h.resolve_left (by decide)) (h'.resolve_left (by decide))⟩
    | 17, ho =>
      cases Option.some.inj ho
      refine ⟨wanted_of (k := 245) rfl rfl rfl (known_at ha hsz hlen hl 13 (by decide) (hd ⟨13, .guard⟩ (by simp) rfl)), ?_⟩
      have ev : a.tmps[248]? = some (.pointer (some ⟨rb, 0, none⟩)) := known_at ha hsz hlen hl 16 (by decide) (hd ⟨16, .data⟩ (by simp) rfl)
      refine wp_value (w' := w') (v := .pointer (some ⟨rb, 0, none⟩)) (by simp [execOp, ev, go_sem]) ?_
      exact ⟨_, la1, ln1, lc1, la2, ln2, lc2, la3, ln3, lc3, la4, ln4, lc4, la5, ln5, lc5, la6, ln6, lc6, la7, ln7, lc7, la8, ln8, lc8, lo1, hi1, lo2, hi2, by rw [ha]; exact putAll_put A 232 17 l _ (by omega) (by omega), by rw [List.length_set]; exact hlen, set_known hlen (by decide) hl, hB, fun h h' => hL1 (h.resolve_left (by decide)) (fun k => h' (.inr k)), fun h h' => hL2 (h.resolve_left (by decide)) (fun k => h' (.inr k)), fun h h' => hL3 (h.resolve_left (by decide)) (fun k => h' (.inr k)), fun h h' => hL4 (h.resolve_left (by decide)) (fun k => h' (.inr k)), fun h h' => hL5 (h.resolve_left (by decide)) (fun k => h' (.inr k)), fun h h' => hL6 (h.resolve_left (by decide)) (fun k => h' (.inr k)), fun h h' => hP (h.resolve_left (by decide)) (fun k => h' (.inr k)), fun h h' => hDd (h.resolve_left (by decide)) (fun k => h' (.inr k)), fun h h' => hap (h.resolve_left (by decide)) (h'.resolve_left (by decide))⟩
    | 18, ho =>
      cases Option.some.inj ho
      refine ⟨wanted_of (k := 245) rfl rfl rfl (known_at ha hsz hlen hl 13 (by decide) (hd ⟨13, .guard⟩ (by simp) rfl)), ?_⟩
      have ev : a.tmps[249]? = some (.pointer (some ⟨rb, 0, none⟩)) := known_at ha hsz hlen hl 17 (by decide) (hd ⟨17, .data⟩ (by simp) rfl)
      refine wp_value (w' := w') (v := .pointer (some ⟨rb, 1, none⟩)) (by simp [execOp, ev, go_sem]) ?_
      exact ⟨_, la1, ln1, lc1, la2, ln2, lc2, la3, ln3, lc3, la4, ln4, lc4, la5, ln5, lc5, la6, ln6, lc6, la7, ln7, lc7, la8, ln8, lc8, lo1, hi1, lo2, hi2, by rw [ha]; exact putAll_put A 232 18 l _ (by omega) (by omega), by rw [List.length_set]; exact hlen, set_known hlen (by decide) hl, hB, fun h h' => hL1 (h.resolve_left (by decide)) (fun k => h' (.inr k)), fun h h' => hL2 (h.resolve_left (by decide)) (fun k => h' (.inr k)), fun h h' => hL3 (h.resolve_left (by decide)) (fun k => h' (.inr k)), fun h h' => hL4 (h.resolve_left (by decide)) (fun k => h' (.inr k)), fun h h' => hL5 (h.resolve_left (by decide)) (fun k => h' (.inr k)), fun h h' => hL6 (h.resolve_left (by decide)) (fun k => h' (.inr k)), fun h h' => hP (h.resolve_left (by decide)) (fun k => h' (.inr k)), fun h h' => hDd (h.resolve_left (by decide)) (fun k => h' (.inr k)), fun h h' => hap (h.resolve_left (by decide)) (h'.resolve_left (by decide))⟩
    | 19, ho =>
      cases Option.some.inj ho
      refine ⟨wanted_of (k := 245) rfl rfl rfl (known_at ha hsz hlen hl 13 (by decide) (hd ⟨13, .guard⟩ (by simp) rfl)), ?_⟩
      have ev : a.tmps[250]? = some (.pointer (some ⟨rb, 1, none⟩)) := known_at ha hsz hlen hl 18 (by decide) (hd ⟨18, .data⟩ (by simp) rfl)
      have hc0 := (hB.cell (p := ⟨rb, 1, none⟩) hrc.2).trans hrc.1
      refine wp_value (w' := w') (v := .int .i64 cb) (by simp [execOp, ev, go_sem, hc0]) ?_
      exact ⟨_, la1, ln1, lc1, la2, ln2, lc2, la3, ln3, lc3, la4, ln4, lc4, la5, ln5, lc5, la6, ln6, lc6, la7, ln7, lc7, la8, ln8, lc8, lo1, hi1, lo2, hi2, by rw [ha]; exact putAll_put A 232 19 l _ (by omega) (by omega), by rw [List.length_set]; exact hlen, set_known hlen (by decide) hl, hB, fun h h' => hL1 (h.resolve_left (by decide)) (fun k => h' (.inr k)), fun h h' => hL2 (h.resolve_left (by decide)) (fun k => h' (.inr k)), fun h h' => hL3 (h.resolve_left (by decide)) (fun k => h' (.inr k)), fun h h' => hL4 (h.resolve_left (by decide)) (fun k => h' (.inr k)), fun h h' => hL5 (h.resolve_left (by decide)) (fun k => h' (.inr k)), fun h h' => hL6 (h.resolve_left (by decide)) (fun k => h' (.inr k)), fun h h' => hP (h.resolve_left (by decide)) (fun k => h' (.inr k)), fun h h' => hDd (h.resolve_left (by decide)) (fun k => h' (.inr k)), fun h h' => hap (h.resolve_left (by decide)) (h'.resolve_left (by decide))⟩
    | 20, ho =>
      cases Option.some.inj ho
      refine ⟨wanted_of (k := 245) rfl rfl rfl (known_at ha hsz hlen hl 13 (by decide) (hd ⟨13, .guard⟩ (by simp) rfl)), ?_⟩
      have ev : a.tmps[247]? = some (.int .i64 cb) := known_at ha hsz hlen hl 15 (by decide) (hd ⟨15, .data⟩ (by simp) rfl)
      have ev' : a.tmps[251]? = some (.int .i64 cb) := known_at ha hsz hlen hl 19 (by decide) (hd ⟨19, .data⟩ (by simp) rfl)
      refine wp_value (w' := w') (v := .bool false) (by simp [execOp, ev, ev', go_sem]) ?_
      exact ⟨_, la1, ln1, lc1, la2, ln2, lc2, la3, ln3, lc3, la4, ln4, lc4, la5, ln5, lc5, la6, ln6, lc6, la7, ln7, lc7, la8, ln8, lc8, lo1, hi1, lo2, hi2, by rw [ha]; exact putAll_put A 232 20 l _ (by omega) (by omega), by rw [List.length_set]; exact hlen, set_known hlen (by decide) hl, hB, fun h h' => hL1 (h.resolve_left (by decide)) (fun k => h' (.inr k)), fun h h' => hL2 (h.resolve_left (by decide)) (fun k => h' (.inr k)), fun h h' => hL3 (h.resolve_left (by decide)) (fun k => h' (.inr k)), fun h h' => hL4 (h.resolve_left (by decide)) (fun k => h' (.inr k)), fun h h' => hL5 (h.resolve_left (by decide)) (fun k => h' (.inr k)), fun h h' => hL6 (h.resolve_left (by decide)) (fun k => h' (.inr k)), fun h h' => hP (h.resolve_left (by decide)) (fun k => h' (.inr k)), fun h h' => hDd (h.resolve_left (by decide)) (fun k => h' (.inr k)), fun h h' => hap (h.resolve_left (by decide)) (h'.resolve_left (by decide))⟩
    | 21, ho =>
      cases Option.some.inj ho
      refine ⟨rfl, ?_⟩
      have ev : a.tmps[245]? = some (.bool false) := known_at ha hsz hlen hl 13 (by decide) (hd ⟨13, .data⟩ (by simp) rfl)
      have ev' : a.tmps[252]? = some (.bool false) := known_at ha hsz hlen hl 20 (by decide) (hd ⟨20, .data⟩ (by simp) rfl)
      refine wp_value (w' := w') (v := .bool false) (by simp [execOp, ev, ev', go_sem]) ?_
      exact ⟨_, la1, ln1, lc1, la2, ln2, lc2, la3, ln3, lc3, la4, ln4, lc4, la5, ln5, lc5, la6, ln6, lc6, la7, ln7, lc7, la8, ln8, lc8, lo1, hi1, lo2, hi2, by rw [ha]; exact putAll_put A 232 21 l _ (by omega) (by omega), by rw [List.length_set]; exact hlen, set_known hlen (by decide) hl, hB, fun h h' => hL1 (h.resolve_left (by decide)) (fun k => h' (.inr k)), fun h h' => hL2 (h.resolve_left (by decide)) (fun k => h' (.inr k)), fun h h' => hL3 (h.resolve_left (by decide)) (fun k => h' (.inr k)), fun h h' => hL4 (h.resolve_left (by decide)) (fun k => h' (.inr k)), fun h h' => hL5 (h.resolve_left (by decide)) (fun k => h' (.inr k)), fun h h' => hL6 (h.resolve_left (by decide)) (fun k => h' (.inr k)), fun h h' => hP (h.resolve_left (by decide)) (fun k => h' (.inr k)), fun h h' => hDd (h.resolve_left (by decide)) (fun k => h' (.inr k)), fun h h' => hap (h.resolve_left (by decide)) (h'.resolve_left (by decide))⟩
    | 22, ho =>
      cases Option.some.inj ho
      refine ⟨rfl, ?_⟩
      have ev : a.tmps[253]? = some (.bool false) := known_at ha hsz hlen hl 21 (by decide) (hd ⟨21, .data⟩ (by simp) rfl)
      refine wp_value (w' := w') (v := .bool false) (by simp [execOp, ev, go_sem]) ?_
      exact ⟨_, la1, ln1, lc1, la2, ln2, lc2, la3, ln3, lc3, la4, ln4, lc4, la5, ln5, lc5, la6, ln6, lc6, la7, ln7, lc7, la8, ln8, lc8, lo1, hi1, lo2, hi2, by rw [ha]; exact putAll_put A 232 22 l _ (by omega) (by omega), by rw [List.length_set]; exact hlen, set_known hlen (by decide) hl, hB, fun h h' => hL1 (h.resolve_left (by decide)) (fun k => h' (.inr k)), fun h h' => hL2 (h.resolve_left (by decide)) (fun k => h' (.inr k)), fun h h' => hL3 (h.resolve_left (by decide)) (fun k => h' (.inr k)), fun h h' => hL4 (h.resolve_left (by decide)) (fun k => h' (.inr k)), fun h h' => hL5 (h.resolve_left (by decide)) (fun k => h' (.inr k)), fun h h' => hL6 (h.resolve_left (by decide)) (fun k => h' (.inr k)), fun h h' => hP (h.resolve_left (by decide)) (fun k => h' (.inr k)), fun h h' => hDd (h.resolve_left (by decide)) (fun k => h' (.inr k)), fun h h' => hap (h.resolve_left (by decide)) (h'.resolve_left (by decide))⟩
    | 23, ho =>
      cases Option.some.inj ho
      refine ⟨wanted_of (k := 254) rfl rfl rfl (known_at ha hsz hlen hl 22 (by decide) (hd ⟨22, .guard⟩ (by simp) rfl)), ?_⟩
      have ev : a.tmps[7]? = some (.pointer (some ⟨bb, 0, none⟩)) := by rw [ha, putAll_low A 232 7 l (by omega) (by decide)]; exact s7
      refine wp_value (w' := w') (v := .pointer (some ⟨bb, 0, none⟩)) (by simp [execOp, ev, go_sem]) ?_
      exact ⟨_, la1, ln1, lc1, la2, ln2, lc2, la3, ln3, lc3, la4, ln4, lc4, la5, ln5, lc5, la6, ln6, lc6, la7, ln7, lc7, la8, ln8, lc8, lo1, hi1, lo2, hi2, by rw [ha]; exact putAll_put A 232 23 l _ (by omega) (by omega), by rw [List.length_set]; exact hlen, set_known hlen (by decide) hl, hB, fun h h' => hL1 (h.resolve_left (by decide)) (fun k => h' (.inr k)), fun h h' => hL2 (h.resolve_left (by decide)) (fun k => h' (.inr k)), fun h h' => hL3 (h.resolve_left (by decide)) (fun k => h' (.inr k)), fun h h' => hL4 (h.resolve_left (by decide)) (fun k => h' (.inr k)), fun h h' => hL5 (h.resolve_left (by decide)) (fun k => h' (.inr k)), fun h h' => hL6 (h.resolve_left (by decide)) (fun k => h' (.inr k)), fun h h' => hP (h.resolve_left (by decide)) (fun k => h' (.inr k)), fun h h' => hDd (h.resolve_left (by decide)) (fun k => h' (.inr k)), fun h h' => hap (h.resolve_left (by decide)) (h'.resolve_left (by decide))⟩
    | 24, ho =>
      cases Option.some.inj ho
      refine ⟨wanted_of (k := 254) rfl rfl rfl (known_at ha hsz hlen hl 22 (by decide) (hd ⟨22, .guard⟩ (by simp) rfl)), ?_⟩
      have ev : a.tmps[255]? = some (.pointer (some ⟨bb, 0, none⟩)) := known_at ha hsz hlen hl 23 (by decide) (hd ⟨23, .data⟩ (by simp) rfl)
      refine wp_enter (f := 26) (args := #[.pointer (some ⟨bb, 0, none⟩)]) (by simp [execOp, ev, go_sem]) ?_
      refine (hx_reads (hx4.below hB) zr.vr.ky).mono ?_
      rintro e w6 ⟨za, zn, zc, rfl, HL, HB⟩
      refine ⟨_, rfl, ?_⟩
      exact ⟨_, za, zn, zc, la2, ln2, lc2, la3, ln3, lc3, la4, ln4, lc4, la5, ln5, lc5, la6, ln6, lc6, la7, ln7, lc7, la8, ln8, lc8, lo1, hi1, lo2, hi2, by rw [ha]; exact putAll_put A 232 24 l _ (by omega) (by omega), by rw [List.length_set]; exact hlen, set_known' (val' := regV cx ex cb bb rb sa ba ta ea sn sc bn bc tn tc en ec za la2 la3 la4 la5 la6 la7 la8 zn zc ln2 lc2 ln3 lc3 ln4 lc4 ln5 lc5 ln6 lc6 ln7 lc7 ln8 lc8) hlen (by decide) hl (fun j hj hne => match j, hj, hne with | 0, _, _ => rfl | 1, _, _ => rfl | 2, _, _ => rfl | 3, _, _ => rfl | 4, _, _ => rfl | 5, _, _ => rfl | 6, _, _ => rfl | 7, _, _ => rfl | 8, _, _ => rfl | 9, _, _ => rfl | 10, _, _ => rfl | 11, _, _ => rfl | 12, _, _ => rfl | 13, _, _ => rfl | 14, _, _ => rfl | 15, _, _ => rfl | 16, _, _ => rfl | 17, _, _ => rfl | 18, _, _ => rfl | 19, _, _ => rfl | 20, _, _ => rfl | 21, _, _ => rfl | 22, _, _ => rfl | 23, _, _ => rfl | 24, _, hne => absurd rfl hne | 25, _, _ => rfl | 26, _, _ => rfl | 27, _, _ => rfl | 28, _, _ => rfl | 29, _, _ => rfl | 30, _, _ => rfl | 31, _, _ => rfl | 32, _, _ => rfl | 33, _, _ => rfl | 34, _, _ => rfl | 35, _, _ => rfl | 36, _, _ => rfl | 37, _, _ => rfl | 38, _, _ => rfl | 39, _, _ => rfl | 40, _, _ => rfl | 41, _, _ => rfl | 42, _, _ => rfl | 43, _, _ => rfl | 44, _, _ => rfl | 45, _, _ => rfl | 46, _, _ => rfl | 47, _, _ => rfl | 48, _, _ => rfl | 49, _, _ => rfl | 50, _, _ => rfl | 51, _, _ => rfl | 52, _, _ => rfl | 53, _, _ => rfl | j + 54, _, _ => rfl), below_size hB hB.size HB, fun _ _ => ⟨_, HL⟩, fun h h' => (hL2 (h.resolve_left (by decide)) (fun k => h' (.inr k))).below HB, fun h h' => (hL3 (h.resolve_left (by decide)) (fun k => h' (.inr k))).below HB, fun h h' => (hL4 (h.resolve_left (by decide)) (fun k => h' (.inr k))).below HB, fun h h' => (hL5 (h.resolve_left (by decide)) (fun k => h' (.inr k))).below HB, fun h h' => (hL6 (h.resolve_left (by decide)) (fun k => h' (.inr k))).below HB, fun h h' => have q := hP (h.resolve_left (by decide)) (fun k => h' (.inr k)); ⟨q.1.below HB, q.2.1, Nat.le_trans q.2.2 HB.size⟩, fun h h' => have q := hDd (h.resolve_left (by decide)) (fun k => h' (.inr k)); ⟨q.1.below HB, Nat.le_trans q.2 HB.size⟩, fun h h' => hap (h.resolve_left (by decide)) (h'.resolve_left (by decide))⟩
    | 25, ho =>
      cases Option.some.inj ho
      refine ⟨wanted_of (k := 254) rfl rfl rfl (known_at ha hsz hlen hl 22 (by decide) (hd ⟨22, .guard⟩ (by simp) rfl)), ?_⟩
      have ev : a.tmps[8]? = some (.pointer (some ⟨rb, 0, none⟩)) := by rw [ha, putAll_low A 232 8 l (by omega) (by decide)]; exact s8
      refine wp_value (w' := w') (v := .pointer (some ⟨rb, 0, none⟩)) (by simp [execOp, ev, go_sem]) ?_
      exact ⟨_, la1, ln1, lc1, la2, ln2, lc2, la3, ln3, lc3, la4, ln4, lc4, la5, ln5, lc5, la6, ln6, lc6, la7, ln7, lc7, la8, ln8, lc8, lo1, hi1, lo2, hi2, by rw [ha]; exact putAll_put A 232 25 l _ (by omega) (by omega), by rw [List.length_set]; exact hlen, set_known hlen (by decide) hl, hB, fun h h' => hL1 (h.resolve_left (by decide)) (fun k => h' (.inr k)), fun h h' => hL2 (h.resolve_left (by decide)) (fun k => h' (.inr k)), fun h h' => hL3 (h.resolve_left (by decide)) (fun k => h' (.inr k)), fun h h' => hL4 (h.resolve_left (by decide)) (fun k => h' (.inr k)), fun h h' => hL5 (h.resolve_left (by decide)) (fun k => h' (.inr k)), fun h h' => hL6 (h.resolve_left (by decide)) (fun k => h' (.inr k)), fun h h' => hP (h.resolve_left (by decide)) (fun k => h' (.inr k)), fun h h' => hDd (h.resolve_left (by decide)) (fun k => h' (.inr k)), fun h h' => hap (h.resolve_left (by decide)) (h'.resolve_left (by decide))⟩
    | 26, ho =>
      cases Option.some.inj ho
      refine ⟨wanted_of (k := 254) rfl rfl rfl (known_at ha hsz hlen hl 22 (by decide) (hd ⟨22, .guard⟩ (by simp) rfl)), ?_⟩
      have ev : a.tmps[257]? = some (.pointer (some ⟨rb, 0, none⟩)) := known_at ha hsz hlen hl 25 (by decide) (hd ⟨25, .data⟩ (by simp) rfl)
      refine wp_enter (f := 27) (args := #[.pointer (some ⟨rb, 0, none⟩)]) (by simp [execOp, ev, go_sem]) ?_
      refine (hx_dreads (hx4.below hB) zr.vr).mono ?_
      rintro e w6 ⟨za, zn, zc, rfl, HL, HB⟩
      refine ⟨_, rfl, ?_⟩
      exact ⟨_, la1, ln1, lc1, za, zn, zc, la3, ln3, lc3, la4, ln4, lc4, la5, ln5, lc5, la6, ln6, lc6, la7, ln7, lc7, la8, ln8, lc8, lo1, hi1, lo2, hi2, by rw [ha]; exact putAll_put A 232 26 l _ (by omega) (by omega), by rw [List.length_set]; exact hlen, set_known' (val' := regV cx ex cb bb rb sa ba ta ea sn sc bn bc tn tc en ec la1 za la3 la4 la5 la6 la7 la8 ln1 lc1 zn zc ln3 lc3 ln4 lc4 ln5 lc5 ln6 lc6 ln7 lc7 ln8 lc8) hlen (by decide) hl (fun j hj hne => match j, hj, hne with | 0, _, _ => rfl | 1, _, _ => rfl | 2, _, _ => rfl | 3, _, _ => rfl | 4, _, _ => rfl | 5, _, _ => rfl | 6, _, _ => rfl | 7, _, _ => rfl | 8, _, _ => rfl | 9, _, _ => rfl | 10, _, _ => rfl | 11, _, _ => rfl | 12, _, _ => rfl | 13, _, _ => rfl | 14, _, _ => rfl | 15, _, _ => rfl | 16, _, _ => rfl | 17, _, _ => rfl | 18, _, _ => rfl | 19, _, _ => rfl | 20, _, _ => rfl | 21, _, _ => rfl | 22, _, _ => rfl | 23, _, _ => rfl | 24, _, _ => rfl | 25, _, _ => rfl | 26, _, hne => absurd rfl hne | 27, _, _ => rfl | 28, _, _ => rfl | 29, _, _ => rfl | 30, _, _ => rfl | 31, _, _ => rfl | 32, _, _ => rfl | 33, _, _ => rfl | 34, _, _ => rfl | 35, _, _ => rfl | 36, _, _ => rfl | 37, _, _ => rfl | 38, _, _ => rfl | 39, _, _ => rfl | 40, _, _ => rfl | 41, _, _ => rfl | 42, _, _ => rfl | 43, _, _ => rfl | 44, _, _ => rfl | 45, _, _ => rfl | 46, _, _ => rfl | 47, _, _ => rfl | 48, _, _ => rfl | 49, _, _ => rfl | 50, _, _ => rfl | 51, _, _ => rfl | 52, _, _ => rfl | 53, _, _ => rfl | j + 54, _, _ => rfl), below_size hB hB.size HB, fun h h' => (hL1 (h.resolve_left (by decide)) (fun k => h' (.inr k))).below HB, fun _ _ => ⟨_, HL⟩, fun h h' => (hL3 (h.resolve_left (by decide)) (fun k => h' (.inr k))).below HB, fun h h' => (hL4 (h.resolve_left (by decide)) (fun k => h' (.inr k))).below HB, fun h h' => (hL5 (h.resolve_left (by decide)) (fun k => h' (.inr k))).below HB, fun h h' => (hL6 (h.resolve_left (by decide)) (fun k => h' (.inr k))).below HB, fun h h' => have q := hP (h.resolve_left (by decide)) (fun k => h' (.inr k)); ⟨q.1.below HB, q.2.1, Nat.le_trans q.2.2 HB.size⟩, fun h h' => have q := hDd (h.resolve_left (by decide)) (fun k => h' (.inr k)); ⟨q.1.below HB, Nat.le_trans q.2 HB.size⟩, fun h h' => hap (h.resolve_left (by decide)) (h'.resolve_left (by decide))⟩
    | 27, ho =>
      cases Option.some.inj ho
      refine ⟨wanted_of (k := 254) rfl rfl rfl (known_at ha hsz hlen hl 22 (by decide) (hd ⟨22, .guard⟩ (by simp) rfl)), ?_⟩
      have ev : a.tmps[256]? = some (.slice la1 ln1 lc1) := known_at ha hsz hlen hl 24 (by decide) (hd ⟨24, .data⟩ (by simp) rfl)
      have ev' : a.tmps[258]? = some (.slice la2 ln2 lc2) := known_at ha hsz hlen hl 26 (by decide) (hd ⟨26, .data⟩ (by simp) rfl)
      refine wp_enter (f := 25) (args := #[.slice la1 ln1 lc1, .slice la2 ln2 lc2]) (by simp [execOp, ev, ev', go_sem]) ?_
      refine (lj_same (hL1 (hd ⟨24, .data⟩ (by simp) rfl) (fun h => (fun h => (fun h => (fun h => (fun h => (fun h => (fun h => (fun h => hn (hcl 28 _ rfl h ⟨27, .data⟩ (by simp) rfl)) (hcl 29 _ rfl h ⟨28, .data⟩ (by simp) rfl)) (hcl 30 _ rfl h ⟨29, .data⟩ (by simp) rfl)) (hcl 37 _ rfl h ⟨30, .data⟩ (by simp) rfl)) (hcl 38 _ rfl h ⟨37, .data⟩ (by simp) rfl)) (hcl 45 _ rfl h ⟨38, .data⟩ (by simp) rfl)) (hcl 46 _ rfl h ⟨45, .data⟩ (by simp) rfl)) (hcl 51 _ rfl h ⟨46, .guard⟩ (by simp) rfl))) (hL2 (hd ⟨26, .data⟩ (by simp) rfl) (fun h => (fun h => (fun h => (fun h => (fun h => (fun h => (fun h => (fun h => hn (hcl 28 _ rfl h ⟨27, .data⟩ (by simp) rfl)) (hcl 29 _ rfl h ⟨28, .data⟩ (by simp) rfl)) (hcl 30 _ rfl h ⟨29, .data⟩ (by simp) rfl)) (hcl 37 _ rfl h ⟨30, .data⟩ (by simp) rfl)) (hcl 38 _ rfl h ⟨37, .data⟩ (by simp) rfl)) (hcl 45 _ rfl h ⟨38, .data⟩ (by simp) rfl)) (hcl 46 _ rfl h ⟨45, .data⟩ (by simp) rfl)) (hcl 51 _ rfl h ⟨46, .guard⟩ (by simp) rfl)))).mono ?_
      rintro e w6 ⟨rfl, HB⟩
      refine ⟨_, rfl, ?_⟩
      exact ⟨_, la1, ln1, lc1, la2, ln2, lc2, la3, ln3, lc3, la4, ln4, lc4, la5, ln5, lc5, la6, ln6, lc6, la7, ln7, lc7, la8, ln8, lc8, lo1, hi1, lo2, hi2, by rw [ha]; exact putAll_put A 232 27 l _ (by omega) (by omega), by rw [List.length_set]; exact hlen, set_known hlen (by decide) hl, below_size hB hB.size HB, fun h h' => (hL1 (h.resolve_left (by decide)) (fun k => h' (.inr k))).below HB, fun h h' => (hL2 (h.resolve_left (by decide)) (fun k => h' (.inr k))).below HB, fun h h' => (hL3 (h.resolve_left (by decide)) (fun k => h' (.inr k))).below HB, fun h h' => (hL4 (h.resolve_left (by decide)) (fun k => h' (.inr k))).below HB, fun h h' => (hL5 (h.resolve_left (by decide)) (fun k => h' (.inr k))).below HB, fun h h' => (hL6 (h.resolve_left (by decide)) (fun k => h' (.inr k))).below HB, fun h h' => have q := hP (h.resolve_left (by decide)) (fun k => h' (.inr k)); ⟨q.1.below HB, q.2.1, Nat.le_trans q.2.2 HB.size⟩, fun h h' => have q := hDd (h.resolve_left (by decide)) (fun k => h' (.inr k)); ⟨q.1.below HB, Nat.le_trans q.2 HB.size⟩, fun h h' => hap (h.resolve_left (by decide)) (h'.resolve_left (by decide))⟩
    | 28, ho =>
      cases Option.some.inj ho
      refine ⟨wanted_of (k := 254) rfl rfl rfl (known_at ha hsz hlen hl 22 (by decide) (hd ⟨22, .guard⟩ (by simp) rfl)), ?_⟩
      have ev : a.tmps[259]? = some (.bool true) := known_at ha hsz hlen hl 27 (by decide) (hd ⟨27, .data⟩ (by simp) rfl)
      refine wp_value (w' := w') (v := .bool false) (by simp [execOp, ev, go_sem]) ?_
      exact ⟨_, la1, ln1, lc1, la2, ln2, lc2, la3, ln3, lc3, la4, ln4, lc4, la5, ln5, lc5, la6, ln6, lc6, la7, ln7, lc7, la8, ln8, lc8, lo1, hi1, lo2, hi2, by rw [ha]; exact putAll_put A 232 28 l _ (by omega) (by omega), by rw [List.length_set]; exact hlen, set_known hlen (by decide) hl, hB, fun h h' => hL1 (h.resolve_left (by decide)) (fun k => h' (.inr k)), fun h h' => hL2 (h.resolve_left (by decide)) (fun k => h' (.inr k)), fun h h' => hL3 (h.resolve_left (by decide)) (fun k => h' (.inr k)), fun h h' => hL4 (h.resolve_left (by decide)) (fun k => h' (.inr k)), fun h h' => hL5 (h.resolve_left (by decide)) (fun k => h' (.inr k)), fun h h' => hL6 (h.resolve_left (by decide)) (fun k => h' (.inr k)), fun h h' => hP (h.resolve_left (by decide)) (fun k => h' (.inr k)), fun h h' => hDd (h.resolve_left (by decide)) (fun k => h' (.inr k)), fun h h' => hap (h.resolve_left (by decide)) (h'.resolve_left (by decide))⟩
    | 29, ho =>
      cases Option.some.inj ho
      refine ⟨rfl, ?_⟩
      have ev : a.tmps[254]? = some (.bool false) := known_at ha hsz hlen hl 22 (by decide) (hd ⟨22, .data⟩ (by simp) rfl)
      have ev' : a.tmps[260]? = some (.bool false) := known_at ha hsz hlen hl 28 (by decide) (hd ⟨28, .data⟩ (by simp) rfl)
      refine wp_value (w' := w') (v := .bool false) (by simp [execOp, ev, ev', go_sem]) ?_
      exact ⟨_, la1, ln1, lc1, la2, ln2, lc2, la3, ln3, lc3, la4, ln4, lc4, la5, ln5, lc5, la6, ln6, lc6, la7, ln7, lc7, la8, ln8, lc8, lo1, hi1, lo2, hi2, by rw [ha]; exact putAll_put A 232 29 l _ (by omega) (by omega), by rw [List.length_set]; exact hlen, set_known hlen (by decide) hl, hB, fun h h' => hL1 (h.resolve_left (by decide)) (fun k => h' (.inr k)), fun h h' => hL2 (h.resolve_left (by decide)) (fun k => h' (.inr k)), fun h h' => hL3 (h.resolve_left (by decide)) (fun k => h' (.inr k)), fun h h' => hL4 (h.resolve_left (by decide)) (fun k => h' (.inr k)), fun h h' => hL5 (h.resolve_left (by decide)) (fun k => h' (.inr k)), fun h h' => hL6 (h.resolve_left (by decide)) (fun k => h' (.inr k)), fun h h' => hP (h.resolve_left (by decide)) (fun k => h' (.inr k)), fun h h' => hDd (h.resolve_left (by decide)) (fun k => h' (.inr k)), fun h h' => hap (h.resolve_left (by decide)) (h'.resolve_left (by decide))⟩
    | 30, ho =>
      cases Option.some.inj ho
      refine ⟨rfl, ?_⟩
      have ev : a.tmps[261]? = some (.bool false) := known_at ha hsz hlen hl 29 (by decide) (hd ⟨29, .data⟩ (by simp) rfl)
      refine wp_value (w' := w') (v := .bool false) (by simp [execOp, ev, go_sem]) ?_
      exact ⟨_, la1, ln1, lc1, la2, ln2, lc2, la3, ln3, lc3, la4, ln4, lc4, la5, ln5, lc5, la6, ln6, lc6, la7, ln7, lc7, la8, ln8, lc8, lo1, hi1, lo2, hi2, by rw [ha]; exact putAll_put A 232 30 l _ (by omega) (by omega), by rw [List.length_set]; exact hlen, set_known hlen (by decide) hl, hB, fun h h' => hL1 (h.resolve_left (by decide)) (fun k => h' (.inr k)), fun h h' => hL2 (h.resolve_left (by decide)) (fun k => h' (.inr k)), fun h h' => hL3 (h.resolve_left (by decide)) (fun k => h' (.inr k)), fun h h' => hL4 (h.resolve_left (by decide)) (fun k => h' (.inr k)), fun h h' => hL5 (h.resolve_left (by decide)) (fun k => h' (.inr k)), fun h h' => hL6 (h.resolve_left (by decide)) (fun k => h' (.inr k)), fun h h' => hP (h.resolve_left (by decide)) (fun k => h' (.inr k)), fun h h' => hDd (h.resolve_left (by decide)) (fun k => h' (.inr k)), fun h h' => hap (h.resolve_left (by decide)) (h'.resolve_left (by decide))⟩
    | 31, ho =>
      cases Option.some.inj ho
      refine ⟨wanted_of (k := 262) rfl rfl rfl (known_at ha hsz hlen hl 30 (by decide) (hd ⟨30, .guard⟩ (by simp) rfl)), ?_⟩
      have ev : a.tmps[7]? = some (.pointer (some ⟨bb, 0, none⟩)) := by rw [ha, putAll_low A 232 7 l (by omega) (by decide)]; exact s7
      refine wp_value (w' := w') (v := .pointer (some ⟨bb, 0, none⟩)) (by simp [execOp, ev, go_sem]) ?_
      exact ⟨_, la1, ln1, lc1, la2, ln2, lc2, la3, ln3, lc3, la4, ln4, lc4, la5, ln5, lc5, la6, ln6, lc6, la7, ln7, lc7, la8, ln8, lc8, lo1, hi1, lo2, hi2, by rw [ha]; exact putAll_put A 232 31 l _ (by omega) (by omega), by rw [List.length_set]; exact hlen, set_known hlen (by decide) hl, hB, fun h h' => hL1 (h.resolve_left (by decide)) (fun k => h' (.inr k)), fun h h' => hL2 (h.resolve_left (by decide)) (fun k => h' (.inr k)), fun h h' => hL3 (h.resolve_left (by decide)) (fun k => h' (.inr k)), fun h h' => hL4 (h.resolve_left (by decide)) (fun k => h' (.inr k)), fun h h' => hL5 (h.resolve_left (by decide)) (fun k => h' (.inr k)), fun h h' => hL6 (h.resolve_left (by decide)) (fun k => h' (.inr k)), fun h h' => hP (h.resolve_left (by decide)) (fun k => h' (.inr k)), fun h h' => hDd (h.resolve_left (by decide)) (fun k => h' (.inr k)), fun h h' => hap (h.resolve_left (by decide)) (h'.resolve_left (by decide))⟩
    | 32, ho =>
      cases Option.some.inj ho
      refine ⟨wanted_of (k := 262) rfl rfl rfl (known_at ha hsz hlen hl 30 (by decide) (hd ⟨30, .guard⟩ (by simp) rfl)), ?_⟩
      have ev : a.tmps[263]? = some (.pointer (some ⟨bb, 0, none⟩)) := known_at ha hsz hlen hl 31 (by decide) (hd ⟨31, .data⟩ (by simp) rfl)
      refine wp_enter (f := 28) (args := #[.pointer (some ⟨bb, 0, none⟩)]) (by simp [execOp, ev, go_sem]) ?_
      refine (hx_writes (hx4.below hB) zr.vr.ky).mono ?_
      rintro e w6 ⟨za, zn, zc, rfl, HL, HB⟩
      refine ⟨_, rfl, ?_⟩
      exact ⟨_, la1, ln1, lc1, la2, ln2, lc2, za, zn, zc, la4, ln4, lc4, la5, ln5, lc5, la6, ln6, lc6, la7, ln7, lc7, la8, ln8, lc8, lo1, hi1, lo2, hi2, by rw [ha]; exact putAll_put A 232 32 l _ (by omega) (by omega), by rw [List.length_set]; exact hlen, set_known' (val' := regV cx ex cb bb rb sa ba ta ea sn sc bn bc tn tc en ec la1 la2 za la4 la5 la6 la7 la8 ln1 lc1 ln2 lc2 zn zc ln4 lc4 ln5 lc5 ln6 lc6 ln7 lc7 ln8 lc8) hlen (by decide) hl (fun j hj hne => match j, hj, hne with | 0, _, _ => rfl | 1, _, _ => rfl | 2, _, _ => rfl | 3, _, _ => rfl | 4, _, _ => rfl | 5, _, _ => rfl | 6, _, _ => rfl | 7, _, _ => rfl | 8, _, _ => rfl | 9, _, _ => rfl | 10, _, _ => rfl | 11, _, _ => rfl | 12, _, _ => rfl | 13, _, _ => rfl | 14, _, _ => rfl | 15, _, _ => rfl | 16, _, _ => rfl | 17, _, _ => rfl | 18, _, _ => rfl | 19, _, _ => rfl | 20, _, _ => rfl | 21, _, _ => rfl | 22, _, _ => rfl | 23, _, _ => rfl | 24, _, _ => rfl | 25, _, _ => rfl | 26, _, _ => rfl | 27, _, _ => rfl | 28, _, _ => rfl | 29, _, _ => rfl | 30, _, _ => rfl | 31, _, _ => rfl | 32, _, hne => absurd rfl hne | 33, _, _ => rfl | 34, _, _ => rfl | 35, _, _ => rfl | 36, _, _ => rfl | 37, _, _ => rfl | 38, _, _ => rfl | 39, _, _ => rfl | 40, _, _ => rfl | 41, _, _ => rfl | 42, _, _ => rfl | 43, _, _ => rfl | 44, _, _ => rfl | 45, _, _ => rfl | 46, _, _ => rfl | 47, _, _ => rfl | 48, _, _ => rfl | 49, _, _ => rfl | 50, _, _ => rfl | 51, _, _ => rfl | 52, _, _ => rfl | 53, _, _ => rfl | j + 54, _, _ => rfl), below_size hB hB.size HB, fun h h' => (hL1 (h.resolve_left (by decide)) (fun k => h' (.inr k))).below HB, fun h h' => (hL2 (h.resolve_left (by decide)) (fun k => h' (.inr k))).below HB, fun _ _ => ⟨_, HL⟩, fun h h' => (hL4 (h.resolve_left (by decide)) (fun k => h' (.inr k))).below HB, fun h h' => (hL5 (h.resolve_left (by decide)) (fun k => h' (.inr k))).below HB, fun h h' => (hL6 (h.resolve_left (by decide)) (fun k => h' (.inr k))).below HB, fun h h' => have q := hP (h.resolve_left (by decide)) (fun k => h' (.inr k)); ⟨q.1.below HB, q.2.1, Nat.le_trans q.2.2 HB.size⟩, fun h h' => have q := hDd (h.resolve_left (by decide)) (fun k => h' (.inr k)); ⟨q.1.below HB, Nat.le_trans q.2 HB.size⟩, fun h h' => hap (h.resolve_left (by decide)) (h'.resolve_left (by decide))⟩
    | 33, ho =>
      cases Option.some.inj ho
      refine ⟨wanted_of (k := 262) rfl rfl rfl (known_at ha hsz hlen hl 30 (by decide) (hd ⟨30, .guard⟩ (by simp) rfl)), ?_⟩
      have ev : a.tmps[8]? = some (.pointer (some ⟨rb, 0, none⟩)) := by rw [ha, putAll_low A 232 8 l (by omega) (by decide)]; exact s8
      refine wp_value (w' := w') (v := .pointer (some ⟨rb, 0, none⟩)) (by simp [execOp, ev, go_sem]) ?_
      exact ⟨_, la1, ln1, lc1, la2, ln2, lc2, la3, ln3, lc3, la4, ln4, lc4, la5, ln5, lc5, la6, ln6, lc6, la7, ln7, lc7, la8, ln8, lc8, lo1, hi1, lo2, hi2, by rw [ha]; exact putAll_put A 232 33 l _ (by omega) (by omega), by rw [List.length_set]; exact hlen, set_known hlen (by decide) hl, hB, fun h h' => hL1 (h.resolve_left (by decide)) (fun k => h' (.inr k)), fun h h' => hL2 (h.resolve_left (by decide)) (fun k => h' (.inr k)), fun h h' => hL3 (h.resolve_left (by decide)) (fun k => h' (.inr k)), fun h h' => hL4 (h.resolve_left (by decide)) (fun k => h' (.inr k)), fun h h' => hL5 (h.resolve_left (by decide)) (fun k => h' (.inr k)), fun h h' => hL6 (h.resolve_left (by decide)) (fun k => h' (.inr k)), fun h h' => hP (h.resolve_left (by decide)) (fun k => h' (.inr k)), fun h h' => hDd (h.resolve_left (by decide)) (fun k => h' (.inr k)), fun h h' => hap (h.resolve_left (by decide)) (h'.resolve_left (by decide))⟩
    | 34, ho =>
      cases Option.some.inj ho
      refine ⟨wanted_of (k := 262) rfl rfl rfl (known_at ha hsz hlen hl 30 (by decide) (hd ⟨30, .guard⟩ (by simp) rfl)), ?_⟩
      have ev : a.tmps[265]? = some (.pointer (some ⟨rb, 0, none⟩)) := known_at ha hsz hlen hl 33 (by decide) (hd ⟨33, .data⟩ (by simp) rfl)
      refine wp_enter (f := 29) (args := #[.pointer (some ⟨rb, 0, none⟩)]) (by simp [execOp, ev, go_sem]) ?_
      refine (hx_dwrites (hx4.below hB) zr.vr ask).mono ?_
      rintro e w6 ⟨za, zn, zc, rfl, HL, HB⟩
      refine ⟨_, rfl, ?_⟩
      exact ⟨_, la1, ln1, lc1, la2, ln2, lc2, la3, ln3, lc3, za, zn, zc, la5, ln5, lc5, la6, ln6, lc6, la7, ln7, lc7, la8, ln8, lc8, lo1, hi1, lo2, hi2, by rw [ha]; exact putAll_put A 232 34 l _ (by omega) (by omega), by rw [List.length_set]; exact hlen, set_known' (val' := regV cx ex cb bb rb sa ba ta ea sn sc bn bc tn tc en ec la1 la2 la3 za la5 la6 la7 la8 ln1 lc1 ln2 lc2 ln3 lc3 zn zc ln5 lc5 ln6 lc6 ln7 lc7 ln8 lc8) hlen (by decide) hl (fun j hj hne => match j, hj, hne with | 0, _, _ => rfl | 1, _, _ => rfl | 2, _, _ => rfl | 3, _, _ => rfl | 4, _, _ => rfl | 5, _, _ => rfl | 6, _, _ => rfl | 7, _, _ => rfl | 8, _, _ => rfl | 9, _, _ => rfl | 10, _, _ => rfl | 11, _, _ => rfl | 12, _, _ => rfl | 13, _, _ => rfl | 14, _, _ => rfl | 15, _, _ => rfl | 16, _, _ => rfl | 17, _, _ => rfl | 18, _, _ => rfl | 19, _, _ => rfl | 20, _, _ => rfl | 21, _, _ => rfl | 22, _, _ => rfl | 23, _, _ => rfl | 24, _, _ => rfl | 25, _, _ => rfl | 26, _, _ => rfl | 27, _, _ => rfl | 28, _, _ => rfl | 29, _, _ => rfl | 30, _, _ => rfl | 31, _, _ => rfl | 32, _, _ => rfl | 33, _, _ => rfl | 34, _, hne => absurd rfl hne | 35, _, _ => rfl | 36, _, _ => rfl | 37, _, _ => rfl | 38, _, _ => rfl | 39, _, _ => rfl | 40, _, _ => rfl | 41, _, _ => rfl | 42, _, _ => rfl | 43, _, _ => rfl | 44, _, _ => rfl | 45, _, _ => rfl | 46, _, _ => rfl | 47, _, _ => rfl | 48, _, _ => rfl | 49, _, _ => rfl | 50, _, _ => rfl | 51, _, _ => rfl | 52, _, _ => rfl | 53, _, _ => rfl | j + 54, _, _ => rfl), below_size hB hB.size HB, fun h h' => (hL1 (h.resolve_left (by decide)) (fun k => h' (.inr k))).below HB, fun h h' => (hL2 (h.resolve_left (by decide)) (fun k => h' (.inr k))).below HB, fun h h' => (hL3 (h.resolve_left (by decide)) (fun k => h' (.inr k))).below HB, fun _ _ => ⟨_, HL⟩, fun h h' => (hL5 (h.resolve_left (by decide)) (fun k => h' (.inr k))).below HB, fun h h' => (hL6 (h.resolve_left (by decide)) (fun k => h' (.inr k))).below HB, fun h h' => have q := hP (h.resolve_left (by decide)) (fun k => h' (.inr k)); ⟨q.1.below HB, q.2.1, Nat.le_trans q.2.2 HB.size⟩, fun h h' => have q := hDd (h.resolve_left (by decide)) (fun k => h' (.inr k)); ⟨q.1.below HB, Nat.le_trans q.2 HB.size⟩, fun h h' => hap (h.resolve_left (by decide)) (h'.resolve_left (by decide))⟩
    | 35, ho =>
      cases Option.some.inj ho
      refine ⟨wanted_of (k := 262) rfl rfl rfl (known_at ha hsz hlen hl 30 (by decide) (hd ⟨30, .guard⟩ (by simp) rfl)), ?_⟩
      have ev : a.tmps[264]? = some (.slice la3 ln3 lc3) := known_at ha hsz hlen hl 32 (by decide) (hd ⟨32, .data⟩ (by simp) rfl)
      have ev' : a.tmps[266]? = some (.slice la4 ln4 lc4) := known_at ha hsz hlen hl 34 (by decide) (hd ⟨34, .data⟩ (by simp) rfl)
      refine wp_enter (f := 25) (args := #[.slice la3 ln3 lc3, .slice la4 ln4 lc4]) (by simp [execOp, ev, ev', go_sem]) ?_
      refine (lj_same (hL3 (hd ⟨32, .data⟩ (by simp) rfl) (fun h => (fun h => (fun h => (fun h => (fun h => (fun h => hn (hcl 36 _ rfl h ⟨35, .data⟩ (by simp) rfl)) (hcl 37 _ rfl h ⟨36, .data⟩ (by simp) rfl)) (hcl 38 _ rfl h ⟨37, .data⟩ (by simp) rfl)) (hcl 45 _ rfl h ⟨38, .data⟩ (by simp) rfl)) (hcl 46 _ rfl h ⟨45, .data⟩ (by simp) rfl)) (hcl 51 _ rfl h ⟨46, .guard⟩ (by simp) rfl))) (hL4 (hd ⟨34, .data⟩ (by simp) rfl) (fun h => (fun h => (fun h => (fun h => (fun h => (fun h => hn (hcl 36 _ rfl h ⟨35, .data⟩ (by simp) rfl)) (hcl 37 _ rfl h ⟨36, .data⟩ (by simp) rfl)) (hcl 38 _ rfl h ⟨37, .data⟩ (by simp) rfl)) (hcl 45 _ rfl h ⟨38, .data⟩ (by simp) rfl)) (hcl 46 _ rfl h ⟨45, .data⟩ (by simp) rfl)) (hcl 51 _ rfl h ⟨46, .guard⟩ (by simp) rfl)))).mono ?_
      rintro e w6 ⟨rfl, HB⟩
      refine ⟨_, rfl, ?_⟩
      exact ⟨_, la1, ln1, lc1, la2, ln2, lc2, la3, ln3, lc3, la4, ln4, lc4, la5, ln5, lc5, la6, ln6, lc6, la7, ln7, lc7, la8, ln8, lc8, lo1, hi1, lo2, hi2, by rw [ha]; exact putAll_put A 232 35 l _ (by omega) (by omega), by rw [List.length_set]; exact hlen, set_known hlen (by decide) hl, below_size hB hB.size HB, fun h h' => (hL1 (h.resolve_left (by decide)) (fun k => h' (.inr k))).below HB, fun h h' => (hL2 (h.resolve_left (by decide)) (fun k => h' (.inr k))).below HB, fun h h' => (hL3 (h.resolve_left (by decide)) (fun k => h' (.inr k))).below HB, fun h h' => (hL4 (h.resolve_left (by decide)) (fun k => h' (.inr k))).below HB, fun h h' => (hL5 (h.resolve_left (by decide)) (fun k => h' (.inr k))).below HB, fun h h' => (hL6 (h.resolve_left (by decide)) (fun k => h' (.inr k))).below HB, fun h h' => have q := hP (h.resolve_left (by decide)) (fun k => h' (.inr k)); ⟨q.1.below HB, q.2.1, Nat.le_trans q.2.2 HB.size⟩, fun h h' => have q := hDd (h.resolve_left (by decide)) (fun k => h' (.inr k)); ⟨q.1.below HB, Nat.le_trans q.2 HB.size⟩, fun h h' => hap (h.resolve_left (by decide)) (h'.resolve_left (by decide))⟩
    | 36, ho =>
      cases Option.some.inj ho
      refine ⟨wanted_of (k := 262) rfl rfl rfl (known_at ha hsz hlen hl 30 (by decide) (hd ⟨30, .guard⟩ (by simp) rfl)), ?_⟩
      have ev : a.tmps[267]? = some (.bool true) := known_at ha hsz hlen hl 35 (by decide) (hd ⟨35, .data⟩ (by simp) rfl)
      refine wp_value (w' := w') (v := .bool false) (by simp [execOp, ev, go_sem]) ?_
      exact ⟨_, la1, ln1, lc1, la2, ln2, lc2, la3, ln3, lc3, la4, ln4, lc4, la5, ln5, lc5, la6, ln6, lc6, la7, ln7, lc7, la8, ln8, lc8, lo1, hi1, lo2, hi2, by rw [ha]; exact putAll_put A 232 36 l _ (by omega) (by omega), by rw [List.length_set]; exact hlen, set_known hlen (by decide) hl, hB, fun h h' => hL1 (h.resolve_left (by decide)) (fun k => h' (.inr k)), fun h h' => hL2 (h.resolve_left (by decide)) (fun k => h' (.inr k)), fun h h' => hL3 (h.resolve_left (by decide)) (fun k => h' (.inr k)), fun h h' => hL4 (h.resolve_left (by decide)) (fun k => h' (.inr k)), fun h h' => hL5 (h.resolve_left (by decide)) (fun k => h' (.inr k)), fun h h' => hL6 (h.resolve_left (by decide)) (fun k => h' (.inr k)), fun h h' => hP (h.resolve_left (by decide)) (fun k => h' (.inr k)), fun h h' => hDd (h.resolve_left (by decide)) (fun k => h' (.inr k)), fun h h' => hap (h.resolve_left (by decide)) (h'.resolve_left (by decide))⟩
    | 37, ho =>
      cases Option.some.inj ho
      refine ⟨rfl, ?_⟩
      have ev : a.tmps[262]? = some (.bool false) := known_at ha hsz hlen hl 30 (by decide) (hd ⟨30, .data⟩ (by simp) rfl)
      have ev' : a.tmps[268]? = some (.bool false) := known_at ha hsz hlen hl 36 (by decide) (hd ⟨36, .data⟩ (by simp) rfl)
      refine wp_value (w' := w') (v := .bool false) (by simp [execOp, ev, ev', go_sem]) ?_
      exact ⟨_, la1, ln1, lc1, la2, ln2, lc2, la3, ln3, lc3, la4, ln4, lc4, la5, ln5, lc5, la6, ln6, lc6, la7, ln7, lc7, la8, ln8, lc8, lo1, hi1, lo2, hi2, by rw [ha]; exact putAll_put A 232 37 l _ (by omega) (by omega), by rw [List.length_set]; exact hlen, set_known hlen (by decide) hl, hB, fun h h' => hL1 (h.resolve_left (by decide)) (fun k => h' (.inr k)), fun h h' => hL2 (h.resolve_left (by decide)) (fun k => h' (.inr k)), fun h h' => hL3 (h.resolve_left (by decide)) (fun k => h' (.inr k)), fun h h' => hL4 (h.resolve_left (by decide)) (fun k => h' (.inr k)), fun h h' => hL5 (h.resolve_left (by decide)) (fun k => h' (.inr k)), fun h h' => hL6 (h.resolve_left (by decide)) (fun k => h' (.inr k)), fun h h' => hP (h.resolve_left (by decide)) (fun k => h' (.inr k)), fun h h' => hDd (h.resolve_left (by decide)) (fun k => h' (.inr k)), fun h h' => hap (h.resolve_left (by decide)) (h'.resolve_left (by decide))⟩
    | 38, ho =>
      cases Option.some.inj ho
      refine ⟨rfl, ?_⟩
      have ev : a.tmps[269]? = some (.bool false) := known_at ha hsz hlen hl 37 (by decide) (hd ⟨37, .data⟩ (by simp) rfl)
      refine wp_value (w' := w') (v := .bool false) (by simp [execOp, ev, go_sem]) ?_
      exact ⟨_, la1, ln1, lc1, la2, ln2, lc2, la3, ln3, lc3, la4, ln4, lc4, la5, ln5, lc5, la6, ln6, lc6, la7, ln7, lc7, la8, ln8, lc8, lo1, hi1, lo2, hi2, by rw [ha]; exact putAll_put A 232 38 l _ (by omega) (by omega), by rw [List.length_set]; exact hlen, set_known hlen (by decide) hl, hB, fun h h' => hL1 (h.resolve_left (by decide)) (fun k => h' (.inr k)), fun h h' => hL2 (h.resolve_left (by decide)) (fun k => h' (.inr k)), fun h h' => hL3 (h.resolve_left (by decide)) (fun k => h' (.inr k)), fun h h' => hL4 (h.resolve_left (by decide)) (fun k => h' (.inr k)), fun h h' => hL5 (h.resolve_left (by decide)) (fun k => h' (.inr k)), fun h h' => hL6 (h.resolve_left (by decide)) (fun k => h' (.inr k)), fun h h' => hP (h.resolve_left (by decide)) (fun k => h' (.inr k)), fun h h' => hDd (h.resolve_left (by decide)) (fun k => h' (.inr k)), fun h h' => hap (h.resolve_left (by decide)) (h'.resolve_left (by decide))⟩
    | 39, ho =>
      cases Option.some.inj ho
      refine ⟨wanted_of (k := 270) rfl rfl rfl (known_at ha hsz hlen hl 38 (by decide) (hd ⟨38, .guard⟩ (by simp) rfl)), ?_⟩
      have ev : a.tmps[7]? = some (.pointer (some ⟨bb, 0, none⟩)) := by rw [ha, putAll_low A 232 7 l (by omega) (by decide)]; exact s7
      refine wp_value (w' := w') (v := .pointer (some ⟨bb, 0, none⟩)) (by simp [execOp, ev, go_sem]) ?_
      exact ⟨_, la1, ln1, lc1, la2, ln2, lc2, la3, ln3, lc3, la4, ln4, lc4, la5, ln5, lc5, la6, ln6, lc6, la7, ln7, lc7, la8, ln8, lc8, lo1, hi1, lo2, hi2, by rw [ha]; exact putAll_put A 232 39 l _ (by omega) (by omega), by rw [List.length_set]; exact hlen, set_known hlen (by decide) hl, hB, fun h h' => hL1 (h.resolve_left (by decide)) (fun k => h' (.inr k)), fun h h' => hL2 (h.resolve_left (by decide)) (fun k => h' (.inr k)), fun h h' => hL3 (h.resolve_left (by decide)) (fun k => h' (.inr k)), fun h h' => hL4 (h.resolve_left (by decide)) (fun k => h' (.inr k)), fun h h' => hL5 (h.resolve_left (by decide)) (fun k => h' (.inr k)), fun h h' => hL6 (h.resolve_left (by decide)) (fun k => h' (.inr k)), fun h h' => hP (h.resolve_left (by decide)) (fun k => h' (.inr k)), fun h h' => hDd (h.resolve_left (by decide)) (fun k => h' (.inr k)), fun h h' => hap (h.resolve_left (by decide)) (h'.resolve_left (by decide))⟩
    | 40, ho =>
      cases Option.some.inj ho
      refine ⟨wanted_of (k := 270) rfl rfl rfl (known_at ha hsz hlen hl 38 (by decide) (hd ⟨38, .guard⟩ (by simp) rfl)), ?_⟩
      have ev : a.tmps[271]? = some (.pointer (some ⟨bb, 0, none⟩)) := known_at ha hsz hlen hl 39 (by decide) (hd ⟨39, .data⟩ (by simp) rfl)
      refine wp_enter (f := 30) (args := #[.pointer (some ⟨bb, 0, none⟩)]) (by simp [execOp, ev, go_sem]) ?_
      refine (hx_news (hx4.below hB) zr.vr.ky).mono ?_
      rintro e w6 ⟨za, zn, zc, rfl, HL, HB⟩
      refine ⟨_, rfl, ?_⟩
      exact ⟨_, la1, ln1, lc1, la2, ln2, lc2, la3, ln3, lc3, la4, ln4, lc4, za, zn, zc, la6, ln6, lc6, la7, ln7, lc7, la8, ln8, lc8, lo1, hi1, lo2, hi2, by rw [ha]; exact putAll_put A 232 40 l _ (by omega) (by omega), by rw [List.length_set]; exact hlen, set_known' (val' := regV cx ex cb bb rb sa ba ta ea sn sc bn bc tn tc en ec la1 la2 la3 la4 za la6 la7 la8 ln1 lc1 ln2 lc2 ln3 lc3 ln4 lc4 zn zc ln6 lc6 ln7 lc7 ln8 lc8) hlen (by decide) hl (fun j hj hne => match j, hj, hne with | 0, _, _ => rfl | 1, _, _ => rfl | 2, _, _ => rfl | 3, _, _ => rfl | 4, _, _ => rfl | 5, _, _ => rfl | 6, _, _ => rfl | 7, _, _ => rfl | 8, _, _ => rfl | 9, _, _ => rfl | 10, _, _ => rfl | 11, _, _ => rfl | 12, _, _ => rfl | 13, _, _ => rfl | 14, _, _ => rfl | 15, _, _ => rfl | 16, _, _ => rfl | 17, _, _ => rfl | 18, _, _ => rfl | 19, _, _ => rfl | 20, _, _ => rfl | 21, _, _ => rfl | 22, _, _ => rfl | 23, _, _ => rfl | 24, _, _ => rfl | 25, _, _ => rfl | 26, _, _ => rfl | 27, _, _ => rfl | 28, _, _ => rfl | 29, _, _ => rfl | 30, _, _ => rfl | 31, _, _ => rfl | 32, _, _ => rfl | 33, _, _ => rfl | 34, _, _ => rfl | 35, _, _ => rfl | 36, _, _ => rfl | 37, _, _ => rfl | 38, _, _ => rfl | 39, _, _ => rfl | 40, _, hne => absurd rfl hne | 41, _, _ => rfl | 42, _, _ => rfl | 43, _, _ => rfl | 44, _, _ => rfl | 45, _, _ => rfl | 46, _, _ => rfl | 47, _, _ => rfl | 48, _, _ => rfl | 49, _, _ => rfl | 50, _, _ => rfl | 51, _, _ => rfl | 52, _, _ => rfl | 53, _, _ => rfl | j + 54, _, _ => rfl), below_size hB hB.size HB, fun h h' => (hL1 (h.resolve_left (by decide)) (fun k => h' (.inr k))).below HB, fun h h' => (hL2 (h.resolve_left (by decide)) (fun k => h' (.inr k))).below HB, fun h h' => (hL3 (h.resolve_left (by decide)) (fun k => h' (.inr k))).below HB, fun h h' => (hL4 (h.resolve_left (by decide)) (fun k => h' (.inr k))).below HB, fun _ _ => ⟨_, HL⟩, fun h h' => (hL6 (h.resolve_left (by decide)) (fun k => h' (.inr k))).below HB, fun h h' => have q := hP (h.resolve_left (by decide)) (fun k => h' (.inr k)); ⟨q.1.below HB, q.2.1, Nat.le_trans q.2.2 HB.size⟩, fun h h' => have q := hDd (h.resolve_left (by decide)) (fun k => h' (.inr k)); ⟨q.1.below HB, Nat.le_trans q.2 HB.size⟩, fun h h' => hap (h.resolve_left (by decide)) (h'.resolve_left (by decide))⟩
    | 41, ho =>
      cases Option.some.inj ho
      refine ⟨wanted_of (k := 270) rfl rfl rfl (known_at ha hsz hlen hl 38 (by decide) (hd ⟨38, .guard⟩ (by simp) rfl)), ?_⟩
      have ev : a.tmps[8]? = some (.pointer (some ⟨rb, 0, none⟩)) := by rw [ha, putAll_low A 232 8 l (by omega) (by decide)]; exact s8
      refine wp_value (w' := w') (v := .pointer (some ⟨rb, 0, none⟩)) (by simp [execOp, ev, go_sem]) ?_
      exact ⟨_, la1, ln1, lc1, la2, ln2, lc2, la3, ln3, lc3, la4, ln4, lc4, la5, ln5, lc5, la6, ln6, lc6, la7, ln7, lc7, la8, ln8, lc8, lo1, hi1, lo2, hi2, by rw [ha]; exact putAll_put A 232 41 l _ (by omega) (by omega), by rw [List.length_set]; exact hlen, set_known hlen (by decide) hl, hB, fun h h' => hL1 (h.resolve_left (by decide)) (fun k => h' (.inr k)), fun h h' => hL2 (h.resolve_left (by decide)) (fun k => h' (.inr k)), fun h h' => hL3 (h.resolve_left (by decide)) (fun k => h' (.inr k)), fun h h' => hL4 (h.resolve_left (by decide)) (fun k => h' (.inr k)), fun h h' => hL5 (h.resolve_left (by decide)) (fun k => h' (.inr k)), fun h h' => hL6 (h.resolve_left (by decide)) (fun k => h' (.inr k)), fun h h' => hP (h.resolve_left (by decide)) (fun k => h' (.inr k)), fun h h' => hDd (h.resolve_left (by decide)) (fun k => h' (.inr k)), fun h h' => hap (h.resolve_left (by decide)) (h'.resolve_left (by decide))⟩
    | 42, ho =>
      cases Option.some.inj ho
      refine ⟨wanted_of (k := 270) rfl rfl rfl (known_at ha hsz hlen hl 38 (by decide) (hd ⟨38, .guard⟩ (by simp) rfl)), ?_⟩
      have ev : a.tmps[273]? = some (.pointer (some ⟨rb, 0, none⟩)) := known_at ha hsz hlen hl 41 (by decide) (hd ⟨41, .data⟩ (by simp) rfl)
      refine wp_enter (f := 31) (args := #[.pointer (some ⟨rb, 0, none⟩)]) (by simp [execOp, ev, go_sem]) ?_
      refine (hx_dnews (hx4.below hB) zr.vr ask).mono ?_
      rintro e w6 ⟨za, zn, zc, rfl, HL, HB⟩
      refine ⟨_, rfl, ?_⟩
      exact ⟨_, la1, ln1, lc1, la2, ln2, lc2, la3, ln3, lc3, la4, ln4, lc4, la5, ln5, lc5, za, zn, zc, la7, ln7, lc7, la8, ln8, lc8, lo1, hi1, lo2, hi2, by rw [ha]; exact putAll_put A 232 42 l _ (by omega) (by omega), by rw [List.length_set]; exact hlen, set_known' (val' := regV cx ex cb bb rb sa ba ta ea sn sc bn bc tn tc en ec la1 la2 la3 la4 la5 za la7 la8 ln1 lc1 ln2 lc2 ln3 lc3 ln4 lc4 ln5 lc5 zn zc ln7 lc7 ln8 lc8) hlen (by decide) hl (fun j hj hne => match j, hj, hne with | 0, _, _ => rfl | 1, _, _ => rfl | 2, _, _ => rfl | 3, _, _ => rfl | 4, _, _ => rfl | 5, _, _ => rfl | 6, _, _ => rfl | 7, _, _ => rfl | 8, _, _ => rfl | 9, _, _ => rfl | 10, _, _ => rfl | 11, _, _ => rfl | 12, _, _ => rfl | 13, _, _ => rfl | 14, _, _ => rfl | 15, _, _ => rfl | 16, _, _ => rfl | 17, _, _ => rfl | 18, _, _ => rfl | 19, _, _ => rfl | 20, _, _ => rfl | 21, _, _ => rfl | 22, _, _ => rfl | 23, _, _ => rfl | 24, _, _ => rfl | 25, _, _ => rfl | 26, _, _ => rfl | 27, _, _ => rfl | 28, _, _ => rfl | 29, _, _ => rfl | 30, _, _ => rfl | 31, _, _ => rfl | 32, _, _ => rfl | 33, _, _ => rfl | 34, _, _ => rfl | 35, _, _ => rfl | 36, _, _ => rfl | 37, _, _ => rfl | 38, _, _ => rfl | 39, _, _ => rfl | 40, _, _ => rfl | 41, _, _ => rfl | 42, _, hne => absurd rfl hne | 43, _, _ => rfl | 44, _, _ => rfl | 45, _, _ => rfl | 46, _, _ => rfl | 47, _, _ => rfl | 48, _, _ => rfl | 49, _, _ => rfl | 50, _, _ => rfl | 51, _, _ => rfl | 52, _, _ => rfl | 53, _, _ => rfl | j + 54, _, _ => rfl), below_size hB hB.size HB, fun h h' => (hL1 (h.resolve_left (by decide)) (fun k => h' (.inr k))).below HB, fun h h' => (hL2 (h.resolve_left (by decide)) (fun k => h' (.inr k))).below HB, fun h h' => (hL3 (h.resolve_left (by decide)) (fun k => h' (.inr k))).below HB, fun h h' => (hL4 (h.resolve_left (by decide)) (fun k => h' (.inr k))).below HB, fun h h' => (hL5 (h.resolve_left (by decide)) (fun k => h' (.inr k))).below HB, fun _ _ => ⟨_, HL⟩, fun h h' => have q := hP (h.resolve_left (by decide)) (fun k => h' (.inr k)); ⟨q.1.below HB, q.2.1, Nat.le_trans q.2.2 HB.size⟩, fun h h' => have q := hDd (h.resolve_left (by decide)) (fun k => h' (.inr k)); ⟨q.1.below HB, Nat.le_trans q.2 HB.size⟩, fun h h' => hap (h.resolve_left (by decide)) (h'.resolve_left (by decide))⟩
    | 43, ho =>
      cases Option.some.inj ho
      refine ⟨wanted_of (k := 270) rfl rfl rfl (known_at ha hsz hlen hl 38 (by decide) (hd ⟨38, .guard⟩ (by simp) rfl)), ?_⟩
      have ev : a.tmps[272]? = some (.slice la5 ln5 lc5) := known_at ha hsz hlen hl 40 (by decide) (hd ⟨40, .data⟩ (by simp) rfl)
      have ev' : a.tmps[274]? = some (.slice la6 ln6 lc6) := known_at ha hsz hlen hl 42 (by decide) (hd ⟨42, .data⟩ (by simp) rfl)
      refine wp_enter (f := 25) (args := #[.slice la5 ln5 lc5, .slice la6 ln6 lc6]) (by simp [execOp, ev, ev', go_sem]) ?_
      refine (lj_same (hL5 (hd ⟨40, .data⟩ (by simp) rfl) (fun h => (fun h => (fun h => (fun h => hn (hcl 44 _ rfl h ⟨43, .data⟩ (by simp) rfl)) (hcl 45 _ rfl h ⟨44, .data⟩ (by simp) rfl)) (hcl 46 _ rfl h ⟨45, .data⟩ (by simp) rfl)) (hcl 51 _ rfl h ⟨46, .guard⟩ (by simp) rfl))) (hL6 (hd ⟨42, .data⟩ (by simp) rfl) (fun h => (fun h => (fun h => (fun h => hn (hcl 44 _ rfl h ⟨43, .data⟩ (by simp) rfl)) (hcl 45 _ rfl h ⟨44, .data⟩ (by simp) rfl)) (hcl 46 _ rfl h ⟨45, .data⟩ (by simp) rfl)) (hcl 51 _ rfl h ⟨46, .guard⟩ (by simp) rfl)))).mono ?_
      rintro e w6 ⟨rfl, HB⟩
      refine ⟨_, rfl, ?_⟩
      exact ⟨_, la1, ln1, lc1, la2, ln2, lc2, la3, ln3, lc3, la4, ln4, lc4, la5, ln5, lc5, la6, ln6, lc6, la7, ln7, lc7, la8, ln8, lc8, lo1, hi1, lo2, hi2, by rw [ha]; exact putAll_put A 232 43 l _ (by omega) (by omega), by rw [List.length_set]; exact hlen, set_known hlen (by decide) hl, below_size hB hB.size HB, fun h h' => (hL1 (h.resolve_left (by decide)) (fun k => h' (.inr k))).below HB, fun h h' => (hL2 (h.resolve_left (by decide)) (fun k => h' (.inr k))).below HB, fun h h' => (hL3 (h.resolve_left (by decide)) (fun k => h' (.inr k))).below HB, fun h h' => (hL4 (h.resolve_left (by decide)) (fun k => h' (.inr k))).below HB, fun h h' => (hL5 (h.resolve_left (by decide)) (fun k => h' (.inr k))).below HB, fun h h' => (hL6 (h.resolve_left (by decide)) (fun k => h' (.inr k))).below HB, fun h h' => have q := hP (h.resolve_left (by decide)) (fun k => h' (.inr k)); ⟨q.1.below HB, q.2.1, Nat.le_trans q.2.2 HB.size⟩, fun h h' => have q := hDd (h.resolve_left (by decide)) (fun k => h' (.inr k)); ⟨q.1.below HB, Nat.le_trans q.2 HB.size⟩, fun h h' => hap (h.resolve_left (by decide)) (h'.resolve_left (by decide))⟩
    | 44, ho =>
      cases Option.some.inj ho
      refine ⟨wanted_of (k := 270) rfl rfl rfl (known_at ha hsz hlen hl 38 (by decide) (hd ⟨38, .guard⟩ (by simp) rfl)), ?_⟩
      have ev : a.tmps[275]? = some (.bool true) := known_at ha hsz hlen hl 43 (by decide) (hd ⟨43, .data⟩ (by simp) rfl)
      refine wp_value (w' := w') (v := .bool false) (by simp [execOp, ev, go_sem]) ?_
      exact ⟨_, la1, ln1, lc1, la2, ln2, lc2, la3, ln3, lc3, la4, ln4, lc4, la5, ln5, lc5, la6, ln6, lc6, la7, ln7, lc7, la8, ln8, lc8, lo1, hi1, lo2, hi2, by rw [ha]; exact putAll_put A 232 44 l _ (by omega) (by omega), by rw [List.length_set]; exact hlen, set_known hlen (by decide) hl, hB, fun h h' => hL1 (h.resolve_left (by decide)) (fun k => h' (.inr k)), fun h h' => hL2 (h.resolve_left (by decide)) (fun k => h' (.inr k)), fun h h' => hL3 (h.resolve_left (by decide)) (fun k => h' (.inr k)), fun h h' => hL4 (h.resolve_left (by decide)) (fun k => h' (.inr k)), fun h h' => hL5 (h.resolve_left (by decide)) (fun k => h' (.inr k)), fun h h' => hL6 (h.resolve_left (by decide)) (fun k => h' (.inr k)), fun h h' => hP (h.resolve_left (by decide)) (fun k => h' (.inr k)), fun h h' => hDd (h.resolve_left (by decide)) (fun k => h' (.inr k)), fun h h' => hap (h.resolve_left (by decide)) (h'.resolve_left (by decide))⟩
    | 45, ho =>
      cases Option.some.inj ho
      refine ⟨rfl, ?_⟩
      have ev : a.tmps[270]? = some (.bool false) := known_at ha hsz hlen hl 38 (by decide) (hd ⟨38, .data⟩ (by simp) rfl)
      have ev' : a.tmps[276]? = some (.bool false) := known_at ha hsz hlen hl 44 (by decide) (hd ⟨44, .data⟩ (by simp) rfl)
      refine wp_value (w' := w') (v := .bool false) (by simp [execOp, ev, ev', go_sem]) ?_
      exact ⟨_, la1, ln1, lc1, la2, ln2, lc2, la3, ln3, lc3, la4, ln4, lc4, la5, ln5, lc5, la6, ln6, lc6, la7, ln7, lc7, la8, ln8, lc8, lo1, hi1, lo2, hi2, by rw [ha]; exact putAll_put A 232 45 l _ (by omega) (by omega), by rw [List.length_set]; exact hlen, set_known hlen (by decide) hl, hB, fun h h' => hL1 (h.resolve_left (by decide)) (fun k => h' (.inr k)), fun h h' => hL2 (h.resolve_left (by decide)) (fun k => h' (.inr k)), fun h h' => hL3 (h.resolve_left (by decide)) (fun k => h' (.inr k)), fun h h' => hL4 (h.resolve_left (by decide)) (fun k => h' (.inr k)), fun h h' => hL5 (h.resolve_left (by decide)) (fun k => h' (.inr k)), fun h h' => hL6 (h.resolve_left (by decide)) (fun k => h' (.inr k)), fun h h' => hP (h.resolve_left (by decide)) (fun k => h' (.inr k)), fun h h' => hDd (h.resolve_left (by decide)) (fun k => h' (.inr k)), fun h h' => hap (h.resolve_left (by decide)) (h'.resolve_left (by decide))⟩
    | 46, ho =>
      cases Option.some.inj ho
      refine ⟨rfl, ?_⟩
      have ev : a.tmps[277]? = some (.bool false) := known_at ha hsz hlen hl 45 (by decide) (hd ⟨45, .data⟩ (by simp) rfl)
      refine wp_value (w' := w') (v := .bool false) (by simp [execOp, ev, go_sem]) ?_
      exact ⟨_, la1, ln1, lc1, la2, ln2, lc2, la3, ln3, lc3, la4, ln4, lc4, la5, ln5, lc5, la6, ln6, lc6, la7, ln7, lc7, la8, ln8, lc8, lo1, hi1, lo2, hi2, by rw [ha]; exact putAll_put A 232 46 l _ (by omega) (by omega), by rw [List.length_set]; exact hlen, set_known hlen (by decide) hl, hB, fun h h' => hL1 (h.resolve_left (by decide)) (fun k => h' (.inr k)), fun h h' => hL2 (h.resolve_left (by decide)) (fun k => h' (.inr k)), fun h h' => hL3 (h.resolve_left (by decide)) (fun k => h' (.inr k)), fun h h' => hL4 (h.resolve_left (by decide)) (fun k => h' (.inr k)), fun h h' => hL5 (h.resolve_left (by decide)) (fun k => h' (.inr k)), fun h h' => hL6 (h.resolve_left (by decide)) (fun k => h' (.inr k)), fun h h' => hP (h.resolve_left (by decide)) (fun k => h' (.inr k)), fun h h' => hDd (h.resolve_left (by decide)) (fun k => h' (.inr k)), fun h h' => hap (h.resolve_left (by decide)) (h'.resolve_left (by decide))⟩
    | 47, ho =>
      cases Option.some.inj ho
      refine ⟨wanted_of (k := 278) rfl rfl rfl (known_at ha hsz hlen hl 46 (by decide) (hd ⟨46, .guard⟩ (by simp) rfl)), ?_⟩
      have ev : a.tmps[7]? = some (.pointer (some ⟨bb, 0, none⟩)) := by rw [ha, putAll_low A 232 7 l (by omega) (by decide)]; exact s7
      refine wp_value (w' := w') (v := .pointer (some ⟨bb, 0, none⟩)) (by simp [execOp, ev, go_sem]) ?_
      exact ⟨_, la1, ln1, lc1, la2, ln2, lc2, la3, ln3, lc3, la4, ln4, lc4, la5, ln5, lc5, la6, ln6, lc6, la7, ln7, lc7, la8, ln8, lc8, lo1, hi1, lo2, hi2, by rw [ha]; exact putAll_put A 232 47 l _ (by omega) (by omega), by rw [List.length_set]; exact hlen, set_known hlen (by decide) hl, hB, fun h h' => hL1 (h.resolve_left (by decide)) (fun k => h' (.inr k)), fun h h' => hL2 (h.resolve_left (by decide)) (fun k => h' (.inr k)), fun h h' => hL3 (h.resolve_left (by decide)) (fun k => h' (.inr k)), fun h h' => hL4 (h.resolve_left (by decide)) (fun k => h' (.inr k)), fun h h' => hL5 (h.resolve_left (by decide)) (fun k => h' (.inr k)), fun h h' => hL6 (h.resolve_left (by decide)) (fun k => h' (.inr k)), fun h h' => hP (h.resolve_left (by decide)) (fun k => h' (.inr k)), fun h h' => hDd (h.resolve_left (by decide)) (fun k => h' (.inr k)), fun h h' => hap (h.resolve_left (by decide)) (h'.resolve_left (by decide))⟩
    | 48, ho =>
      cases Option.some.inj ho
      refine ⟨wanted_of (k := 278) rfl rfl rfl (known_at ha hsz hlen hl 46 (by decide) (hd ⟨46, .guard⟩ (by simp) rfl)), ?_⟩
      have ev : a.tmps[279]? = some (.pointer (some ⟨bb, 0, none⟩)) := known_at ha hsz hlen hl 47 (by decide) (hd ⟨47, .data⟩ (by simp) rfl)
      refine wp_enter (f := 33) (args := #[.pointer (some ⟨bb, 0, none⟩)]) (by simp [execOp, ev, go_sem]) ?_
      refine (hx_changed (hx4.below hB) zr.vr.ky).mono ?_
      rintro e w6 ⟨za, zn, zc, rfl, HL, HB⟩
      refine ⟨_, rfl, ?_⟩
      exact ⟨_, la1, ln1, lc1, la2, ln2, lc2, la3, ln3, lc3, la4, ln4, lc4, la5, ln5, lc5, la6, ln6, lc6, za, zn, zc, la8, ln8, lc8, w'.heap.size, w6.heap.size, lo2, hi2, by rw [ha]; exact putAll_put A 232 48 l _ (by omega) (by omega), by rw [List.length_set]; exact hlen, set_known' (val' := regV cx ex cb bb rb sa ba ta ea sn sc bn bc tn tc en ec la1 la2 la3 la4 la5 la6 za la8 ln1 lc1 ln2 lc2 ln3 lc3 ln4 lc4 ln5 lc5 ln6 lc6 zn zc ln8 lc8) hlen (by decide) hl (fun j hj hne => match j, hj, hne with | 0, _, _ => rfl | 1, _, _ => rfl | 2, _, _ => rfl | 3, _, _ => rfl | 4, _, _ => rfl | 5, _, _ => rfl | 6, _, _ => rfl | 7, _, _ => rfl | 8, _, _ => rfl | 9, _, _ => rfl | 10, _, _ => rfl | 11, _, _ => rfl | 12, _, _ => rfl | 13, _, _ => rfl | 14, _, _ => rfl | 15, _, _ => rfl | 16, _, _ => rfl | 17, _, _ => rfl | 18, _, _ => rfl | 19, _, _ => rfl | 20, _, _ => rfl | 21, _, _ => rfl | 22, _, _ => rfl | 23, _, _ => rfl | 24, _, _ => rfl | 25, _, _ => rfl | 26, _, _ => rfl | 27, _, _ => rfl | 28, _, _ => rfl | 29, _, _ => rfl | 30, _, _ => rfl | 31, _, _ => rfl | 32, _, _ => rfl | 33, _, _ => rfl | 34, _, _ => rfl | 35, _, _ => rfl | 36, _, _ => rfl | 37, _, _ => rfl | 38, _, _ => rfl | 39, _, _ => rfl | 40, _, _ => rfl | 41, _, _ => rfl | 42, _, _ => rfl | 43, _, _ => rfl | 44, _, _ => rfl | 45, _, _ => rfl | 46, _, _ => rfl | 47, _, _ => rfl | 48, _, hne => absurd rfl hne | 49, _, _ => rfl | 50, _, _ => rfl | 51, _, _ => rfl | 52, _, _ => rfl | 53, _, _ => rfl | j + 54, _, _ => rfl), below_size hB hB.size HB, fun h h' => (hL1 (h.resolve_left (by decide)) (fun k => h' (.inr k))).below HB, fun h h' => (hL2 (h.resolve_left (by decide)) (fun k => h' (.inr k))).below HB, fun h h' => (hL3 (h.resolve_left (by decide)) (fun k => h' (.inr k))).below HB, fun h h' => (hL4 (h.resolve_left (by decide)) (fun k => h' (.inr k))).below HB, fun h h' => (hL5 (h.resolve_left (by decide)) (fun k => h' (.inr k))).below HB, fun h h' => (hL6 (h.resolve_left (by decide)) (fun k => h' (.inr k))).below HB, fun _ _ => ⟨HL, hB.size, Nat.le_refl _⟩, fun h h' => have q := hDd (h.resolve_left (by decide)) (fun k => h' (.inr k)); ⟨q.1.below HB, Nat.le_trans q.2 HB.size⟩, fun _ h' => .inr (hDd (h'.resolve_left (by decide)) (fun h => hn (hcl 51 _ rfl h ⟨48, .data⟩ (by simp) rfl))).2⟩
    | 49, ho =>
      cases Option.some.inj ho
      refine ⟨wanted_of (k := 278) rfl rfl rfl (known_at ha hsz hlen hl 46 (by decide) (hd ⟨46, .guard⟩ (by simp) rfl)), ?_⟩
      have ev : a.tmps[8]? = some (.pointer (some ⟨rb, 0, none⟩)) := by rw [ha, putAll_low A 232 8 l (by omega) (by decide)]; exact s8
      refine wp_value (w' := w') (v := .pointer (some ⟨rb, 0, none⟩)) (by simp [execOp, ev, go_sem]) ?_
      exact ⟨_, la1, ln1, lc1, la2, ln2, lc2, la3, ln3, lc3, la4, ln4, lc4, la5, ln5, lc5, la6, ln6, lc6, la7, ln7, lc7, la8, ln8, lc8, lo1, hi1, lo2, hi2, by rw [ha]; exact putAll_put A 232 49 l _ (by omega) (by omega), by rw [List.length_set]; exact hlen, set_known hlen (by decide) hl, hB, fun h h' => hL1 (h.resolve_left (by decide)) (fun k => h' (.inr k)), fun h h' => hL2 (h.resolve_left (by decide)) (fun k => h' (.inr k)), fun h h' => hL3 (h.resolve_left (by decide)) (fun k => h' (.inr k)), fun h h' => hL4 (h.resolve_left (by decide)) (fun k => h' (.inr k)), fun h h' => hL5 (h.resolve_left (by decide)) (fun k => h' (.inr k)), fun h h' => hL6 (h.resolve_left (by decide)) (fun k => h' (.inr k)), fun h h' => hP (h.resolve_left (by decide)) (fun k => h' (.inr k)), fun h h' => hDd (h.resolve_left (by decide)) (fun k => h' (.inr k)), fun h h' => hap (h.resolve_left (by decide)) (h'.resolve_left (by decide))⟩
    | 50, ho =>
      cases Option.some.inj ho
      refine ⟨wanted_of (k := 278) rfl rfl rfl (known_at ha hsz hlen hl 46 (by decide) (hd ⟨46, .guard⟩ (by simp) rfl)), ?_⟩
      have ev : a.tmps[281]? = some (.pointer (some ⟨rb, 0, none⟩)) := known_at ha hsz hlen hl 49 (by decide) (hd ⟨49, .data⟩ (by simp) rfl)
      refine wp_enter (f := 34) (args := #[.pointer (some ⟨rb, 0, none⟩)]) (by simp [execOp, ev, go_sem]) ?_
      refine (hx_dchanged (hx4.below hB) zr.vr ask).mono ?_
      rintro e w6 ⟨za, zn, zc, rfl, HL, HB⟩
      refine ⟨_, rfl, ?_⟩
      exact ⟨_, la1, ln1, lc1, la2, ln2, lc2, la3, ln3, lc3, la4, ln4, lc4, la5, ln5, lc5, la6, ln6, lc6, la7, ln7, lc7, za, zn, zc, lo1, hi1, w'.heap.size, w6.heap.size, by rw [ha]; exact putAll_put A 232 50 l _ (by omega) (by omega), by rw [List.length_set]; exact hlen, set_known' (val' := regV cx ex cb bb rb sa ba ta ea sn sc bn bc tn tc en ec la1 la2 la3 la4 la5 la6 la7 za ln1 lc1 ln2 lc2 ln3 lc3 ln4 lc4 ln5 lc5 ln6 lc6 ln7 lc7 zn zc) hlen (by decide) hl (fun j hj hne => match j, hj, hne with | 0, _, _ => rfl | 1, _, _ => rfl | 2, _, _ => rfl | 3, _, _ => rfl | 4, _, _ => rfl | 5, _, _ => rfl | 6, _, _ => rfl | 7, _, _ => rfl | 8, _, _ => rfl | 9, _, _ => rfl | 10, _, _ => rfl | 11, _, _ => rfl | 12, _, _ => rfl | 13, _, _ => rfl | 14, _, _ => rfl | 15, _, _ => rfl | 16, _, _ => rfl | 17, _, _ => rfl | 18, _, _ => rfl | 19, _, _ => rfl | 20, _, _ => rfl | 21, _, _ => rfl | 22, _, _ => rfl | 23, _, _ => rfl | 24, _, _ => rfl | 25, _, _ => rfl | 26, _, _ => rfl | 27, _, _ => rfl | 28, _, _ => rfl | 29, _, _ => rfl | 30, _, _ => rfl | 31, _, _ => rfl | 32, _, _ => rfl | 33, _, _ => rfl | 34, _, _ => rfl | 35, _, _ => rfl | 36, _, _ => rfl | 37, _, _ => rfl | 38, _, _ => rfl | 39, _, _ => rfl | 40, _, _ => rfl | 41, _, _ => rfl | 42, _, _ => rfl | 43, _, _ => rfl | 44, _, _ => rfl | 45, _, _ => rfl | 46, _, _ => rfl | 47, _, _ => rfl | 48, _, _ => rfl | 49, _, _ => rfl | 50, _, hne => absurd rfl hne | 51, _, _ => rfl | 52, _, _ => rfl | 53, _, _ => rfl | j + 54, _, _ => rfl), below_size hB hB.size HB, fun h h' => (hL1 (h.resolve_left (by decide)) (fun k => h' (.inr k))).below HB, fun h h' => (hL2 (h.resolve_left (by decide)) (fun k => h' (.inr k))).below HB, fun h h' => (hL3 (h.resolve_left (by decide)) (fun k => h' (.inr k))).below HB, fun h h' => (hL4 (h.resolve_left (by decide)) (fun k => h' (.inr k))).below HB, fun h h' => (hL5 (h.resolve_left (by decide)) (fun k => h' (.inr k))).below HB, fun h h' => (hL6 (h.resolve_left (by decide)) (fun k => h' (.inr k))).below HB, fun h h' => have q := hP (h.resolve_left (by decide)) (fun k => h' (.inr k)); ⟨q.1.below HB, q.2.1, Nat.le_trans q.2.2 HB.size⟩, fun _ _ => ⟨HL, Nat.le_refl _⟩, fun h _ => .inl (hP (h.resolve_left (by decide)) (fun h => hn (hcl 51 _ rfl h ⟨50, .data⟩ (by simp) rfl))).2.2⟩
    | 51, ho =>
      cases Option.some.inj ho
      refine ⟨wanted_of (k := 278) rfl rfl rfl (known_at ha hsz hlen hl 46 (by decide) (hd ⟨46, .guard⟩ (by simp) rfl)), ?_⟩
      have ev : a.tmps[280]? = some (.slice la7 ln7 lc7) := known_at ha hsz hlen hl 48 (by decide) (hd ⟨48, .data⟩ (by simp) rfl)
      have ev' : a.tmps[282]? = some (.slice la8 ln8 lc8) := known_at ha hsz hlen hl 50 (by decide) (hd ⟨50, .data⟩ (by simp) rfl)
      refine wp_enter (f := 32) (args := #[.slice la7 ln7 lc7, .slice la8 ln8 lc8]) (by simp [execOp, ev, ev', go_sem]) ?_
      refine (ch_same (hP (hd ⟨48, .data⟩ (by simp) rfl) hn).1 (hDd (hd ⟨50, .data⟩ (by simp) rfl) hn).1 (hap (hd ⟨48, .data⟩ (by simp) rfl) (hd ⟨50, .data⟩ (by simp) rfl)) hB (hP (hd ⟨48, .data⟩ (by simp) rfl) hn).2.1).mono ?_
      rintro e w6 ⟨rfl, HB⟩
      refine ⟨_, rfl, ?_⟩
      exact ⟨_, la1, ln1, lc1, la2, ln2, lc2, la3, ln3, lc3, la4, ln4, lc4, la5, ln5, lc5, la6, ln6, lc6, la7, ln7, lc7, la8, ln8, lc8, lo1, hi1, lo2, hi2, by rw [ha]; exact putAll_put A 232 51 l _ (by omega) (by omega), by rw [List.length_set]; exact hlen, set_known hlen (by decide) hl, HB, fun _ h' => absurd (.inl rfl) h', fun _ h' => absurd (.inl rfl) h', fun _ h' => absurd (.inl rfl) h', fun _ h' => absurd (.inl rfl) h', fun _ h' => absurd (.inl rfl) h', fun _ h' => absurd (.inl rfl) h', fun _ h' => absurd (.inl rfl) h', fun _ h' => absurd (.inl rfl) h', fun h h' => hap (h.resolve_left (by decide)) (h'.resolve_left (by decide))⟩
    | 52, ho =>
      cases Option.some.inj ho
      refine ⟨wanted_of (k := 278) rfl rfl rfl (known_at ha hsz hlen hl 46 (by decide) (hd ⟨46, .guard⟩ (by simp) rfl)), ?_⟩
      have ev : a.tmps[283]? = some (.bool true) := known_at ha hsz hlen hl 51 (by decide) (hd ⟨51, .data⟩ (by simp) rfl)
      refine wp_value (w' := w') (v := .bool false) (by simp [execOp, ev, go_sem]) ?_
      exact ⟨_, la1, ln1, lc1, la2, ln2, lc2, la3, ln3, lc3, la4, ln4, lc4, la5, ln5, lc5, la6, ln6, lc6, la7, ln7, lc7, la8, ln8, lc8, lo1, hi1, lo2, hi2, by rw [ha]; exact putAll_put A 232 52 l _ (by omega) (by omega), by rw [List.length_set]; exact hlen, set_known hlen (by decide) hl, hB, fun h h' => hL1 (h.resolve_left (by decide)) (fun k => h' (.inr k)), fun h h' => hL2 (h.resolve_left (by decide)) (fun k => h' (.inr k)), fun h h' => hL3 (h.resolve_left (by decide)) (fun k => h' (.inr k)), fun h h' => hL4 (h.resolve_left (by decide)) (fun k => h' (.inr k)), fun h h' => hL5 (h.resolve_left (by decide)) (fun k => h' (.inr k)), fun h h' => hL6 (h.resolve_left (by decide)) (fun k => h' (.inr k)), fun h h' => hP (h.resolve_left (by decide)) (fun k => h' (.inr k)), fun h h' => hDd (h.resolve_left (by decide)) (fun k => h' (.inr k)), fun h h' => hap (h.resolve_left (by decide)) (h'.resolve_left (by decide))⟩
    | 53, ho =>
      cases Option.some.inj ho
      refine ⟨rfl, ?_⟩
      have ev : a.tmps[278]? = some (.bool false) := known_at ha hsz hlen hl 46 (by decide) (hd ⟨46, .data⟩ (by simp) rfl)
      have ev' : a.tmps[284]? = some (.bool false) := known_at ha hsz hlen hl 52 (by decide) (hd ⟨52, .data⟩ (by simp) rfl)
      refine wp_value (w' := w') (v := .bool false) (by simp [execOp, ev, ev', go_sem]) ?_
      exact ⟨_, la1, ln1, lc1, la2, ln2, lc2, la3, ln3, lc3, la4, ln4, lc4, la5, ln5, lc5, la6, ln6, lc6, la7, ln7, lc7, la8, ln8, lc8, lo1, hi1, lo2, hi2, by rw [ha]; exact putAll_put A 232 53 l _ (by omega) (by omega), by rw [List.length_set]; exact hlen, set_known hlen (by decide) hl, hB, fun h h' => hL1 (h.resolve_left (by decide)) (fun k => h' (.inr k)), fun h h' => hL2 (h.resolve_left (by decide)) (fun k => h' (.inr k)), fun h h' => hL3 (h.resolve_left (by decide)) (fun k => h' (.inr k)), fun h h' => hL4 (h.resolve_left (by decide)) (fun k => h' (.inr k)), fun h h' => hL5 (h.resolve_left (by decide)) (fun k => h' (.inr k)), fun h h' => hL6 (h.resolve_left (by decide)) (fun k => h' (.inr k)), fun h h' => hP (h.resolve_left (by decide)) (fun k => h' (.inr k)), fun h h' => hDd (h.resolve_left (by decide)) (fun k => h' (.inr k)), fun h h' => hap (h.resolve_left (by decide)) (h'.resolve_left (by decide))⟩
    | i + 54, ho => simp at ho
  case done =>
    rintro D a w' ⟨l, la1, ln1, lc1, la2, ln2, lc2, la3, ln3, lc3, la4, ln4, lc4, la5, ln5, lc5, la6, ln6, lc6, la7, ln7, lc7, la8, ln8, lc8, lo1, hi1, lo2, hi2, ha, hlen, hl, hB, hL1, hL2, hL3, hL4, hL5, hL6, hP, hDd, hap⟩ hall
    obtain ⟨v0, v1, v2, v3, v4, v5, v6, v7, v8, v9, v10, v11, v12, v13, v14, v15, v16, v17, v18, v19, v20, v21, v22, v23, v24, v25, v26, v27, v28, v29, v30, v31, v32, v33, v34, v35, v36, v37, v38, v39, v40, v41, v42, v43, v44, v45, v46, v47, v48, v49, v50, v51, v52, v53, rfl⟩ := regV_list hlen
    have hb9 := hB
    have hz := hl 53 (by decide) (hall 53 (by decide))
    simp only [List.getElem?_cons_succ, List.getElem?_cons_zero, Option.some.injEq] at hz
    have hz' : v53 = .bool false := hz
    subst hz'
    clear hz hall hB hl hlen hsz s11 s28 s30 s29 s31 s7 s8 hL1 hL2 hL3 hL4 hL5 hL6 hP hDd hap
    subst hA
    have hfr : a = _ := ha
    rw [hfr]
    clear hfr ha
    simp only [putAll, List.take_succ_cons, List.take_zero, List.drop_succ_cons, List.drop_zero, List.cons_append, List.nil_append, List.length_cons, List.length_nil]
    have LP : LpP w tb ub rb (j + 1) (.pointer (some ⟨bb, 0, none⟩)) w' := ⟨AA, tt, uu, bb, vv, rr, rfl, hx4.below hb9, zr⟩
    clear io1 io2 hb9 hx4 ro4 ro10 y0 y1 y2 q0 q1 q2 hrc
    go_wp2
    go_roundw
    case rel => exact ⟨j + 1, by omega, by omega, by go_num, LP⟩
    case measure => simp [intOf]; omega
end Go.Proofs.YteomolihandfnaaGreat
