/- The law TablePlays: how it begins, and what an arm leaves. -/
import Derived.Test.YtajdelinfkodbaaHzd
import Derived.Deep.CutBlock
namespace Go.Proofs.Ytajdelinfkodbaa
open Go.RowKit
set_option maxRecDepth 100000
/-- A call in its box; what it asks may turn. -/
def actC (m : Ac) (cc : Int) : Obj := .cells #[.int .i64 m.kind, .int .i64 m.com, .slice m.ra m.rn m.rc, .int .i64 cc, .int .i64 m.o] 31 (0, 0)
theorem act_cells {w : World} {b : Nat} {m : Ac} {cc : Int} (h : w.heap[b]? = some (actC m cc)) : w.cell? ⟨b, 0, none⟩ = some (.int .i64 m.kind) ∧ w.cell? ⟨b, 1, none⟩ = some (.int .i64 m.com) ∧ w.cell? ⟨b, 2, none⟩ = some (.slice m.ra m.rn m.rc) ∧ w.cell? ⟨b, 3, none⟩ = some (.int .i64 cc) ∧ w.cell? ⟨b, 4, none⟩ = some (.int .i64 m.o) := by
  unfold actC at h
  refine ⟨?_, ?_, ?_, ?_, ?_⟩ <;> rw [cell_of_row w b _ _ _ _ h] <;> rfl
theorem act_frozen {w : World} {b : Nat} {m : Ac} {cc : Int} (h : w.heap[b]? = some (actC m cc)) (k : Nat) : w.frozen? ⟨b, k, none⟩ = false := by
  unfold World.frozen?
  unfold actC at h
  rw [h]
  rfl
theorem act_set3 {w : World} {b : Nat} {m : Ac} {cc : Int} (h : w.heap[b]? = some (actC m cc)) (c' : Int) : (w.setCell ⟨b, 3, none⟩ (.int .i64 c')).heap[b]? = some (actC m c') := by
  unfold actC at h ⊢
  rw [heap_setCell_same w b 3 _ _ _ h]
  simp
/-- What holds between two rounds. -/
def LpP (W0 : World) (ub n : Nat) (v3 : Value) (wr : World) : Prop := ∃ A tb t u k, v3 = .pointer (some ⟨tb, 0, none⟩) ∧ Hx W0 A tb t ub u k wr ∧ k ≤ n
/-- What an arm leaves. -/
def AftP (W0 : World) (ub xb : Nat) (m : Ac) (n : Nat) (v3 : Value) (wr : World) : Prop := ∃ A tb t u k cc, v3 = .pointer (some ⟨tb, 0, none⟩) ∧ Hx W0 A tb t ub u k wr ∧ k ≤ n + 1 ∧ Bx A wr xb (actC m cc)
theorem Hx.start (w : World) : Hx w (Un (fun g => g = w.heap.size) (fun _ => False) (fun g => g = (w.alloc (tabB 0 0 none)).heap.size)) w.heap.size tab0 (w.alloc (tabB 0 0 none)).heap.size rtab0 0 ((w.alloc (tabB 0 0 none)).alloc (rtB 0 0 (.slice none 0 0) (.slice none 0 0) (.slice none 0 0))) := by
  have h1 := Tb.new w
  have B2 : Below (w.alloc (tabB 0 0 none)).heap.size (w.alloc (tabB 0 0 none)) ((w.alloc (tabB 0 0 none)).alloc (rtB 0 0 (.slice none 0 0) (.slice none 0 0) (.slice none 0 0))) := box_below
  have B1 : Below w.heap.size w (w.alloc (tabB 0 0 none)) := box_below
  have s1 : (w.alloc (tabB 0 0 none)).heap.size = w.heap.size + 1 := by simp
  refine ⟨_, _, _, ⟨h1.below B2, RTb.new _, fun g hg q => ?_, fun g _ q => q, fun g hg => ?_, below_size B1 B1.size B2, RelP.new⟩, rfl⟩
  · rw [hg, s1] at q; omega
  · rcases hg with q | q
    · exact Nat.le_of_eq q.symm
    · rw [q, s1]; omega
/-- A store into a box that is nobody's. -/
theorem Hx.setB {W0 w : World} {A : Nat → Prop} {tb ub k b i : Nat} {t : Tab} {u : RTf} {o : Obj} {v : Value} (h : Hx W0 A tb t ub u k w) (hb : Bx A w b o) (hlo : W0.heap.size ≤ b) : Hx W0 A tb t ub u k (w.setCell ⟨b, i, none⟩ v) := by
  have C : Below W0.heap.size w (w.setCell ⟨b, i, none⟩ v) := (Below.refl _ w).setCell (p := ⟨b, i, none⟩) hlo _
  exact (h.hy.same (by simp) (fun g hg => heap_setCell_other w ⟨b, i, none⟩ g _ (fun e => hb.out (by have e' : g = b := e; rw [← e']; exact hg))) (h.bel.trans C)).hx h.rel
theorem Bx.setO {A : Nat → Prop} {w : World} {g b i : Nat} {o : Obj} {v : Value} (h : Bx A w g o) (hne : g ≠ b) : Bx A (w.setCell ⟨b, i, none⟩ v) g o := ⟨(heap_setCell_other w ⟨b, i, none⟩ g _ hne).trans h.blk, h.out⟩
end Go.Proofs.Ytajdelinfkodbaa
namespace Go.Proofs.Ytajdelinfkodbaa
open Go.RowKit
set_option maxRecDepth 100000
structure Arm (P : Prop) : Prop where
  out : P
set_option maxHeartbeats 32000000 in
def skel : PSigma fun PF : Prop => PSigma fun PN : Prop => PSigma fun PR : Prop => Arm PF → Arm PN → Arm PR → ∀ (w : World) (aa : Option Addr) (an ac : Nat) (as_ : List Ac) (_ : IsAs w aa an ac as_), Calls Try.prog 3 #[.slice aa an ac] w fun e w' => e = .returned (.bool true) ∧ Below w.heap.size w w' := by
  apply PSigma.mk
  apply PSigma.mk
  apply PSigma.mk
  · intro hF hN hR
    intro w aa an ac as_ has
    have an4 : an ≤ 9223372036854775807 := by have h1 := has.room; have h2 := has.most; unfold maxLen at h2; omega
    have hx0 := Hx.start w
    go_enter Try.func3, Try.ntmps3
    go_wp2_with fail
    refine (new_tab w).mono ?_
    rintro e w1 ⟨rfl, rfl⟩
    go_wp2_with fail
    refine (rnew_tab _).mono ?_
    rintro e w2 ⟨rfl, rfl⟩
    obtain ⟨ub, hub⟩ : ∃ q, q = (w.alloc (tabB 0 0 none)).heap.size := ⟨_, rfl⟩
    rw [← hub] at hx0 ⊢
    generalize ((w.alloc (tabB 0 0 none)).alloc (rtB 0 0 (.slice none 0 0) (.slice none 0 0) (.slice none 0 0))) = w2 at *
    have L0 : LpP w ub 0 (.pointer (some ⟨w.heap.size, 0, none⟩)) w2 := ⟨_, _, _, _, _, rfl, hx0, Nat.le_refl _⟩
    clear hx0 hub
    go_wp2_with fail
    go_loopw [3, 5] (fun vv iv wr => ∃ (j : Nat), j ≤ an ∧ j ≤ 30 ∧ iv = .int .i64 (j : Int) ∧ LpP w ub j vv wr) (fun _ iv _ => an - (intOf iv).toNat)
    case atStart => exact ⟨0, by omega, by omega, rfl, L0⟩
    case round =>
      obtain ⟨j, hj1, hj2, rfl, A, tb, t, u, k, rfl, hx, hk⟩ := hrel
      clear L0
      go_upto_region 6 with fail
      go_cut [28] from 21 to 233 (fun v wx => v = .bool (decide (j < an ∧ j < 30)) ∧ wx = wr)
      case first =>
        by_cases h1 : j < an
        · have hlt1 : (j : Int) < (an : Int) := by omega
          by_cases h2 : j < 30
          · have hlt2 : (j : Int) < 30 := by omega
            go_wp2
            go_meet
            case rel => exact ⟨by simp [h1, h2], rfl⟩
          · have hlt2 : ¬ (j : Int) < 30 := by omega
            go_wp2
            go_meet
            case rel => exact ⟨by simp [h1, h2], rfl⟩
        · have hlt1 : ¬ (j : Int) < (an : Int) := by omega
          go_wp2
          go_meet
          case rel => exact ⟨by simp [h1], rfl⟩
      case rest =>
        obtain ⟨rfl, rfl⟩ := hcut
        by_cases hgo : j < an ∧ j < 30
        · have hgd : decide (j < an ∧ j < 30) = true := decide_eq_true hgo
          rw [hgd]
          obtain ⟨hlt1, hlt2⟩ : (j : Int) < (an : Int) ∧ (j : Int) < 30 := by omega
          obtain ⟨ab, ao, m, rfl, hin, hcell⟩ := has.at_ j hgo.1
          obtain ⟨hab, hc⟩ := hcell wc hx.bel
          have c0 : wc.cell? ⟨ab, ao + j * 5, none⟩ = some (.int .i64 m.kind) := hc 0 _ rfl
          have c1 : wc.cell? ⟨ab, ao + j * 5 + 1, none⟩ = some (.int .i64 m.com) := hc 1 _ rfl
          have c2 : wc.cell? ⟨ab, ao + j * 5 + 2, none⟩ = some (.slice m.ra m.rn m.rc) := hc 2 _ rfl
          have c3 : wc.cell? ⟨ab, ao + j * 5 + 3, none⟩ = some (.int .i64 m.c) := hc 3 _ rfl
          have c4 : wc.cell? ⟨ab, ao + j * 5 + 4, none⟩ = some (.int .i64 m.o) := hc 4 _ rfl
          have EA := new1 wc (actC m m.c)
          have BA : Below wc.heap.size wc (wc.alloc (actC m m.c)) := box_below
          have hxA := hx.below BA
          have bxA : Bx A (wc.alloc (actC m m.c)) wc.heap.size (actC m m.c) := ⟨EA, fun q => by have := hx.lt q; omega⟩
          have z0 := (act_cells EA).1
          have hxl : w.heap.size ≤ wc.heap.size := hx.bel.size
          clear hc hgd hgo hx BA EA hcell has
          unfold actC at hxA bxA z0
          go_upto_block 2 with fail
          generalize wc.alloc (.cells #[.int .i64 m.kind, .int .i64 m.com, .slice m.ra m.rn m.rc, .int .i64 m.c, .int .i64 m.o] 31) = wA at *
          obtain ⟨xb, hxb⟩ : ∃ q, q = wc.heap.size := ⟨_, rfl⟩
          rw [← hxb] at bxA z0 hxl ⊢
          replace bxA : Bx A wA xb (actC m m.c) := bxA
          clear hxb c0 c1 c2 c3 c4 hab an4
          have j30 : j ≤ 29 := by omega
          obtain ⟨kd, hkd⟩ : ∃ q, Hid (m.kind = q) := ⟨_, rfl⟩
          rw [hkd.out] at z0
          go_cut [3, 7, 8, 9, 10] from 21 to 233 (fun v3 v7 v8 v9 v10 wx => AftP w ub xb m j v3 wx)
          case first =>
            rename_i x1 x2 x3 x4 x5 x6 x7 x8 x9 x10 x11 x12 x13 x14 x15 x16 x17 x18 x19 x20 x21 x22 x23 x24 x25 x26 x27 x28 x29 x30 x31 x32 x33 x34 x35 x36 x37 x38 x39 x40 x41 x42 x43 x44 x45 x46 x47 x48 x49 x50 x51 x52 x53 x54 x55 x56 x57 x58 x59 x60 x61 x62 x63 x64 x65 x66 x67 x68 x69 x70 x71 x72 x73 x74 x75 x76 x77 x78 x79 x80 x81 x82 x83 x84 x85 x86 x87 x88 x89 x90 x91 x92 x93 x94 x95 x96 x97 x98 x99 x100 x101 x102 x103 x104 x105 x106 x107 x108 x109 x110 x111 x112 x113 x114 x115 x116 x117 x118 x119 x120 x121 x122 x123 x124 x125 x126 x127 x128 x129 x130 x131 x132 x133 x134 x135 x136 x137 x138 x139 x140 x141 x142 x143 x144 x145 x146 x147 x148 x149 x150 x151 x152 x153 x154 x155 x156 x157 x158 x159 x160 x161 x162 x163 x164 x165 x166 x167 x168 x169 x170 x171 x172 x173 x174 x175 x176 x177 x178 x179 x180 x181 x182 x183 x184 x185 x186 x187 x188 x189 x190 x191 x192 x193 x194 x195 x196 x197 x198 x199 x200 x201 x202 x203 x204 x205 x206 x207 x208 x209 x210 x211 x212 x213 x214 x215 x216 x217 x218 x219 x220 x221 x222 x223 x224
            revert w an ac as_ x1 ub w2 x2 x3 u2 u6 u7 u8 u9 u10 u11 u12 u13 u14 u15 u16 x4 x5 x6 x7 x8 x9 x10 u28 x11 x12 x13 x14 x15 x16 x17 x18 x19 x20 x21 x22 x23 x24 x25 x26 x27 x28 x29 x30 x31 x32 x33 x34 x35 x36 x37 x38 x39 x40 x41 x42 x43 x44 x45 x46 x47 x48 x49 x50 x51 x52 x53 x54 x55 x56 x57 x58 x59 x60 x61 x62 x63 x64 x65 x66 x67 x68 x69 x70 x71 x72 x73 x74 x75 x76 x77 x78 x79 x80 x81 x82 x83 x84 x85 x86 x87 x88 x89 x90 x91 x92 x93 x94 x95 x96 x97 x98 x99 x100 x101 x102 x103 x104 x105 x106 x107 x108 x109 x110 x111 x112 x113 x114 x115 x116 x117 x118 x119 x120 x121 x122 x123 x124 x125 x126 x127 x128 x129 x130 x131 x132 x133 x134 x135 x136 x137 x138 x139 x140 x141 x142 x143 x144 x145 x146 x147 x148 x149 x150 x151 x152 x153 x154 x155 x156 x157 x158 x159 x160 x161 x162 x163 x164 x165 x166 x167 x168 x169 x170 x171 x172 x173 x174 x175 x176 x177 x178 x179 x180 x181 x182 x183 x184 x185 x186 x187 x188 x189 x190 x191 x192 x193 x194 x195 x196 x197 x198 x199 x200 x201 x202 x203 x204 x205 x206 x207 x208 x209 x210 x211 x212 x213 x214 x215 j hj1 hj2 A tb t u k hk wc u21 u22 u23 u24 u25 u26 u27 u29 u30 u31 u32 u33 u34 u35 u36 u37 u38 u39 u40 u41 u42 u43 u44 u45 u46 u47 u48 u49 u50 u51 u52 u53 u54 u55 u56 u57 u58 u59 u60 u61 u62 u63 u64 u65 u66 u67 u68 u69 u70 u71 u72 u73 u74 u75 u76 u77 u78 u79 u80 u81 u82 u83 u84 u85 u86 u87 u88 u89 u90 u91 u92 u93 u94 u95 u96 u97 u98 u99 u100 u101 u102 u103 u104 u105 u106 u107 u108 u109 u110 u111 u112 u113 u114 u115 u116 u117 u118 u119 u120 u121 u122 u123 u124 u125 u126 u127 u128 u129 u130 u131 u132 u133 u134 u135 u136 u137 u138 u139 u140 u141 u142 u143 u144 u145 u146 u147 u148 u149 u150 u151 u152 u153 u154 u155 u156 u157 u158 u159 u160 u161 u162 u163 u164 u165 u166 u167 u168 u169 u170 u171 u172 u173 u174 u175 u176 u177 u178 u179 u180 u181 u182 u183 u184 u185 u186 u187 u188 u189 u190 u191 u192 u193 u194 u195 u196 u197 u198 u199 u200 u201 u202 u203 u204 u205 u206 u207 u208 u209 u210 u211 u212 u213 u214 u215 u216 u217 u218 u219 u220 u221 u222 u223 u224 u225 u226 u227 u228 u229 u230 u231 u232 u233 hlt1 hlt2 ab ao m x216 hin x217 x218 x219 x220 wA hxA xb hxl bxA j30 kd z0 hkd x221 x222 x223 x224
            exact hF.out
          case rest =>
            rename_i x1 x2 x3 x4 x5 x6 x7 x8 x9 x10 x11 x12 x13 x14 x15 x16 x17 x18 x19 x20 x21 x22 x23 x24 x25 x26 x27 x28 x29 x30 x31 x32 x33 x34 x35 x36 x37 x38 x39 x40 x41 x42 x43 x44 x45 x46 x47 x48 x49 x50 x51 x52 x53 x54 x55 x56 x57 x58 x59 x60 x61 x62 x63 x64 x65 x66 x67 x68 x69 x70 x71 x72 x73 x74 x75 x76 x77 x78 x79 x80 x81 x82 x83 x84 x85 x86 x87 x88 x89 x90 x91 x92 x93 x94 x95 x96 x97 x98 x99 x100 x101 x102 x103 x104 x105 x106 x107 x108 x109 x110 x111 x112 x113 x114 x115 x116 x117 x118 x119 x120 x121 x122 x123 x124 x125 x126 x127 x128 x129 x130 x131 x132 x133 x134 x135 x136 x137 x138 x139 x140 x141 x142 x143 x144 x145 x146 x147 x148 x149 x150 x151 x152 x153 x154 x155 x156 x157 x158 x159 x160 x161 x162 x163 x164 x165 x166 x167 x168 x169 x170 x171 x172 x173 x174 x175 x176 x177 x178 x179 x180 x181 x182 x183 x184 x185 x186 x187 x188 x189 x190 x191 x192 x193 x194 x195 x196 x197 x198 x199 x200 x201 x202 x203 x204 x205 x206 x207 x208 x209 x210 x211 x212 x213 x214 x215 x216 x217 x218 x219 x220 x221 x222 x223 x224 x225 x226 x227 x228 x229 x230 x231 x232 x233 x234 x235 x236 x237 x238 x239 x240 x241 x242 x243 x244 x245 x246 x247 x248 x249 x250 x251 x252 x253 x254 x255 x256 x257 x258 x259 x260 x261 x262 x263 x264 x265 x266 x267 x268 x269 x270 x271 x272 x273 x274 x275 x276 x277 x278 x279 x280 x281 x282 x283 x284 x285 x286 x287 x288 x289 x290 x291 x292 x293 x294 x295 x296 x297 x298 x299 x300 x301 x302 x303 x304 x305 x306 x307 x308 x309 x310 x311 x312 x313 x314 x315 x316 x317 x318 x319 x320 x321 x322 x323 x324 x325 x326 x327 x328 x329 x330 x331 x332 x333 x334 x335 x336 x337 x338 x339 x340 x341 x342 x343 x344 x345 x346 x347 x348 x349 x350 x351 x352 x353 x354 x355 x356 x357 x358 x359 x360 x361 x362 x363 x364 x365 x366 x367 x368 x369 x370 x371 x372 x373 x374 x375 x376 x377 x378 x379 x380 x381 x382 x383 x384 x385 x386 x387 x388 x389 x390 x391 x392 x393 x394 x395 x396 x397 x398 x399 x400 x401 x402 x403 x404 x405 x406 x407 x408 x409 x410 x411 x412 x413 x414 x415 x416 x417 x418 x419 x420 x421 x422 x423 x424 x425 x426 x427 x428 x429 x430 x431 x432 x433 x434 x435 x436 x437 x438 x439
            revert w an ac as_ x1 ub w2 x2 x3 x4 u6 x5 x6 x7 x8 u11 u12 u13 u14 u15 u16 x9 x10 x11 x12 x13 x14 x15 x16 x17 x18 x19 x20 x21 x22 x23 x24 x25 x26 x27 x28 x29 x30 x31 x32 x33 x34 x35 x36 x37 x38 x39 x40 x41 x42 x43 x44 x45 x46 x47 x48 x49 x50 x51 x52 x53 x54 x55 x56 x57 x58 x59 x60 x61 x62 x63 x64 x65 x66 x67 x68 x69 x70 x71 x72 x73 x74 x75 x76 x77 x78 x79 x80 x81 x82 x83 x84 x85 x86 x87 x88 x89 x90 x91 x92 x93 x94 x95 x96 x97 x98 x99 x100 x101 x102 x103 x104 x105 x106 x107 x108 x109 x110 x111 x112 x113 x114 x115 x116 x117 x118 x119 x120 x121 x122 x123 x124 x125 x126 x127 x128 x129 x130 x131 x132 x133 x134 x135 x136 x137 x138 x139 x140 x141 x142 x143 x144 x145 x146 x147 x148 x149 x150 x151 x152 x153 x154 x155 x156 x157 x158 x159 x160 x161 x162 x163 x164 x165 x166 x167 x168 x169 x170 x171 x172 x173 x174 x175 x176 x177 x178 x179 x180 x181 x182 x183 x184 x185 x186 x187 x188 x189 x190 x191 x192 x193 x194 x195 x196 x197 x198 x199 x200 x201 x202 x203 x204 x205 x206 x207 x208 x209 x210 x211 x212 x213 x214 x215 x216 x217 x218 x219 x220 x221 j hj1 hj2 A tb t u k hk x222 x223 x224 x225 x226 x227 x228 x229 x230 x231 x232 x233 x234 x235 x236 x237 x238 x239 x240 x241 x242 x243 x244 x245 x246 x247 x248 x249 x250 x251 x252 x253 x254 x255 x256 x257 x258 x259 x260 x261 x262 x263 x264 x265 x266 x267 x268 x269 x270 x271 x272 x273 x274 x275 x276 x277 x278 x279 x280 x281 x282 x283 x284 x285 x286 x287 x288 x289 x290 x291 x292 x293 x294 x295 x296 x297 x298 x299 x300 x301 x302 x303 x304 x305 x306 x307 x308 x309 x310 x311 x312 x313 x314 x315 x316 x317 x318 x319 x320 x321 x322 x323 x324 x325 x326 x327 x328 x329 x330 x331 x332 x333 x334 x335 x336 x337 x338 x339 x340 x341 x342 x343 x344 x345 x346 x347 x348 x349 x350 x351 x352 x353 x354 x355 x356 x357 x358 x359 x360 x361 x362 x363 x364 x365 x366 x367 x368 x369 x370 x371 x372 x373 x374 x375 x376 x377 x378 x379 x380 x381 x382 x383 x384 x385 x386 x387 x388 x389 x390 x391 x392 x393 x394 x395 x396 x397 x398 x399 x400 x401 x402 x403 x404 x405 x406 x407 x408 x409 x410 x411 x412 x413 x414 x415 x416 x417 x418 x419 x420 x421 x422 x423 x424 x425 x426 x427 x428 x429 x430 x431 x432 x433 x434 hlt1 hlt2 ab ao m x435 hin x436 x437 x438 x439 wA hxA xb hxl bxA j30 kd z0 hkd wc u2 u3 u7 u8 u9 u10 u21 u22 u23 u24 u25 u26 u27 u28 u29 u30 u31 u32 u33 u34 u35 u36 u37 u38 u39 u40 u41 u42 u43 u44 u45 u46 u47 u48 u49 u50 u51 u52 u53 u54 u55 u56 u57 u58 u59 u60 u61 u62 u63 u64 u65 u66 u67 u68 u69 u70 u71 u72 u73 u74 u75 u76 u77 u78 u79 u80 u81 u82 u83 u84 u85 u86 u87 u88 u89 u90 u91 u92 u93 u94 u95 u96 u97 u98 u99 u100 u101 u102 u103 u104 u105 u106 u107 u108 u109 u110 u111 u112 u113 u114 u115 u116 u117 u118 u119 u120 u121 u122 u123 u124 u125 u126 u127 u128 u129 u130 u131 u132 u133 u134 u135 u136 u137 u138 u139 u140 u141 u142 u143 u144 u145 u146 u147 u148 u149 u150 u151 u152 u153 u154 u155 u156 u157 u158 u159 u160 u161 u162 u163 u164 u165 u166 u167 u168 u169 u170 u171 u172 u173 u174 u175 u176 u177 u178 u179 u180 u181 u182 u183 u184 u185 u186 u187 u188 u189 u190 u191 u192 u193 u194 u195 u196 u197 u198 u199 u200 u201 u202 u203 u204 u205 u206 u207 u208 u209 u210 u211 u212 u213 u214 u215 u216 u217 u218 u219 u220 u221 u222 u223 u224 u225 u226 u227 u228 u229 u230 u231 u232 u233 hcut
            exact hR.out
        · have hgd : decide (j < an ∧ j < 30) = false := decide_eq_false hgo
          rw [hgd]
          clear hgo hgd
          generalize wc = wt at *
          rename_i x1 x2 x3 x4 x5 x6 x7 x8 x9 x10 x11 x12 x13 x14 x15 x16 x17 x18 x19 x20 x21 x22 x23 x24 x25 x26 x27 x28 x29 x30 x31 x32 x33 x34 x35 x36 x37 x38 x39 x40 x41 x42 x43 x44 x45 x46 x47 x48 x49 x50 x51 x52 x53 x54 x55 x56 x57 x58 x59 x60 x61 x62 x63 x64 x65 x66 x67 x68 x69 x70 x71 x72 x73 x74 x75 x76 x77 x78 x79 x80 x81 x82 x83 x84 x85 x86 x87 x88 x89 x90 x91 x92 x93 x94 x95 x96 x97 x98 x99 x100 x101 x102 x103 x104 x105 x106 x107 x108 x109 x110 x111 x112 x113 x114 x115 x116 x117 x118 x119 x120 x121 x122 x123 x124 x125 x126 x127 x128 x129 x130 x131 x132 x133 x134 x135 x136 x137 x138 x139 x140 x141 x142 x143 x144 x145 x146 x147 x148 x149 x150 x151 x152 x153 x154 x155 x156 x157 x158 x159 x160 x161 x162 x163 x164 x165 x166 x167 x168 x169 x170 x171 x172 x173 x174 x175 x176 x177 x178 x179 x180 x181 x182 x183 x184 x185 x186 x187 x188 x189 x190 x191 x192 x193 x194 x195 x196 x197 x198 x199 x200 x201 x202 x203 x204 x205 x206 x207 x208 x209 x210 x211 x212 x213 x214 x215 x216 x217 x218 x219 x220
          revert w aa an ac as_ has an4 x1 ub w2 x2 x3 u2 u6 u7 u8 u9 u10 u11 u12 u13 u14 u15 u16 x4 x5 x6 x7 x8 x9 x10 u28 x11 x12 x13 x14 x15 x16 x17 x18 x19 x20 x21 x22 x23 x24 x25 x26 x27 x28 x29 x30 x31 x32 x33 x34 x35 x36 x37 x38 x39 x40 x41 x42 x43 x44 x45 x46 x47 x48 x49 x50 x51 x52 x53 x54 x55 x56 x57 x58 x59 x60 x61 x62 x63 x64 x65 x66 x67 x68 x69 x70 x71 x72 x73 x74 x75 x76 x77 x78 x79 x80 x81 x82 x83 x84 x85 x86 x87 x88 x89 x90 x91 x92 x93 x94 x95 x96 x97 x98 x99 x100 x101 x102 x103 x104 x105 x106 x107 x108 x109 x110 x111 x112 x113 x114 x115 x116 x117 x118 x119 x120 x121 x122 x123 x124 x125 x126 x127 x128 x129 x130 x131 x132 x133 x134 x135 x136 x137 x138 x139 x140 x141 x142 x143 x144 x145 x146 x147 x148 x149 x150 x151 x152 x153 x154 x155 x156 x157 x158 x159 x160 x161 x162 x163 x164 x165 x166 x167 x168 x169 x170 x171 x172 x173 x174 x175 x176 x177 x178 x179 x180 x181 x182 x183 x184 x185 x186 x187 x188 x189 x190 x191 x192 x193 x194 x195 x196 x197 x198 x199 x200 x201 x202 x203 x204 x205 x206 x207 x208 x209 x210 x211 x212 x213 x214 x215 j hj1 hj2 A tb t u k hk x216 x217 x218 x219 x220 wc u21 u22 u23 u24 u25 u26 u27 u29 u30 u31 u32 u33 u34 u35 u36 u37 u38 u39 u40 u41 u42 u43 u44 u45 u46 u47 u48 u49 u50 u51 u52 u53 u54 u55 u56 u57 u58 u59 u60 u61 u62 u63 u64 u65 u66 u67 u68 u69 u70 u71 u72 u73 u74 u75 u76 u77 u78 u79 u80 u81 u82 u83 u84 u85 u86 u87 u88 u89 u90 u91 u92 u93 u94 u95 u96 u97 u98 u99 u100 u101 u102 u103 u104 u105 u106 u107 u108 u109 u110 u111 u112 u113 u114 u115 u116 u117 u118 u119 u120 u121 u122 u123 u124 u125 u126 u127 u128 u129 u130 u131 u132 u133 u134 u135 u136 u137 u138 u139 u140 u141 u142 u143 u144 u145 u146 u147 u148 u149 u150 u151 u152 u153 u154 u155 u156 u157 u158 u159 u160 u161 u162 u163 u164 u165 u166 u167 u168 u169 u170 u171 u172 u173 u174 u175 u176 u177 u178 u179 u180 u181 u182 u183 u184 u185 u186 u187 u188 u189 u190 u191 u192 u193 u194 u195 u196 u197 u198 u199 u200 u201 u202 u203 u204 u205 u206 u207 u208 u209 u210 u211 u212 u213 u214 u215 u216 u217 u218 u219 u220 u221 u222 u223 u224 u225 u226 u227 u228 u229 u230 u231 u232 u233 wt hx
          exact hN.out
end Go.Proofs.Ytajdelinfkodbaa
