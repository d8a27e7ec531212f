/- The law TablePlays: an arm. -/
import Derived.Test.YtajdelinfkodbaaLtK
import Derived.Test.YtajdelinfkodbaaLtS
namespace Go.Proofs.Ytajdelinfkodbaa
open Go.RowKit
set_option maxRecDepth 100000
set_option maxHeartbeats 80000000 in
theorem armc : skelK.2.2.1 := by
  intro w an ac as_ x1 ub w2 x2 x3 u2 u6 u7 u8 u9 u10 u11 u12 u13 u14 u15 u16 x4 x5 x6 x7 x8 x9 x10 u28 x11 x12 x13 x14 x15 x16 x17 x18 x19 x20 x21 x22 x23 x24 x25 x26 x27 x28 x29 x30 x31 x32 x33 x34 x35 x36 x37 x38 x39 x40 x41 x42 x43 x44 x45 x46 x47 x48 x49 x50 x51 x52 x53 x54 x55 x56 x57 x58 x59 x60 x61 x62 x63 x64 x65 x66 x67 x68 x69 x70 x71 x72 x73 x74 x75 x76 x77 x78 x79 x80 x81 x82 x83 x84 x85 x86 x87 x88 x89 x90 x91 x92 x93 x94 x95 x96 x97 x98 x99 x100 x101 x102 x103 x104 x105 x106 x107 x108 x109 x110 x111 x112 x113 x114 x115 x116 x117 x118 x119 x120 x121 x122 x123 x124 x125 x126 x127 x128 x129 x130 x131 x132 x133 x134 x135 x136 x137 x138 x139 x140 x141 x142 x143 x144 x145 x146 x147 x148 x149 x150 x151 x152 x153 x154 x155 x156 x157 x158 x159 x160 x161 x162 x163 x164 x165 x166 x167 x168 x169 x170 x171 x172 x173 x174 x175 x176 x177 x178 x179 x180 x181 x182 x183 x184 x185 x186 x187 x188 x189 x190 x191 x192 x193 x194 x195 x196 x197 x198 x199 x200 x201 x202 x203 x204 x205 x206 x207 x208 x209 x210 x211 x212 x213 x214 x215 j hj1 hj2 A tb t u k hk wc u21 u22 u23 u24 u25 u26 u27 u29 u30 u31 u32 u33 u34 u35 u36 u37 u38 u39 u40 u41 u42 u43 u44 u45 u46 u47 u48 u49 u50 u51 u52 u53 u54 u55 u56 u57 u58 u59 u60 u61 u62 u63 u64 u65 u66 u67 u68 u69 u70 u71 u72 u73 u74 u75 u76 u77 u78 u79 u80 u81 u82 u83 u84 u85 u86 u87 u88 u89 u90 u91 u92 u93 u94 u95 u96 u97 u98 u99 u100 u101 u102 u103 u104 u105 u106 u107 u108 u109 u110 u111 u112 u113 u114 u115 u116 u117 u118 u119 u120 u121 u122 u123 u124 u125 u126 u127 u128 u129 u130 u131 u132 u133 u134 u135 u136 u137 u138 u139 u140 u141 u142 u143 u144 u145 u146 u147 u148 u149 u150 u151 u152 u153 u154 u155 u156 u157 u158 u159 u160 u161 u162 u163 u164 u165 u166 u167 u168 u169 u170 u171 u172 u173 u174 u175 u176 u177 u178 u179 u180 u181 u182 u183 u184 u185 u186 u187 u188 u189 u190 u191 u192 u193 u194 u195 u196 u197 u198 u199 u200 u201 u202 u203 u204 u205 u206 u207 u208 u209 u210 u211 u212 u213 u214 u215 u216 u217 u218 u219 u220 u221 u222 u223 u224 u225 u226 u227 u228 u229 u230 u231 u232 u233 hlt1 hlt2 ab ao m x216 hin x217 x218 x219 x220 wA hxA xb hxl bxA j30 kd z0 hkd x221 x222 x223 x224 kA kB kC
  rw [hkd.out]
  subst kC
  have hrel : Hid (RelP t u) := hxA.rel
  have hgd := hxA.hy.good
  have hl1 : 0 ≤ u.end_ ∧ u.end_ ≤ 1099511627776 := by rw [← hxA.rel.rel.last]; omega
  clear hgd z0
  go_wp2_with fail
  refine (hx_copy hxA).mono ?_
  rintro e w7 ⟨cb, rfl, cq, B7⟩
  obtain ⟨bv, lv, wv, hub⟩ := (hxA.below B7).hy.ublk
  obtain ⟨_, y1, _⟩ := rt_cells hub
  have bx7 := bxA.below B7
  have B8 : Below w7.heap.size w7 (w7.alloc (.cells #[.int .i64 3, .bool false, .int .i64 9, .slice none 0 0, .slice none 0 0] 51)) := box_below
  have cq8 := cq.below B8
  have nx0 : Nx A A wA (w7.alloc (.cells #[.int .i64 3, .bool false, .int .i64 9, .slice none 0 0, .slice none 0 0] 51)) := Nx.below (below_size B7 B7.size B8)
  have L8 := new1 w7 (chB 3 false 9 (.slice none 0 0) (.slice none 0 0))
  have ow := lit_own L8 (Nat.le_refl _) (by decide) (by decide)
  unfold chB at L8 ow
  clear cq B8 B7 hub L8
  go_wp2_with fail
  refine (cpq_apply cq8 hrel.out (u.end_ + 1) ow (by omega)).mono ?_
  rintro e w9 ⟨⟨v9, rfl⟩, A9, hx9, nx9⟩
  have fin : AftP w ub xb m j (.pointer (some ⟨cb, 0, none⟩)) w9 := ⟨A9, cb, t, u, k, _, rfl, hx9, by omega, bxA.step nx9⟩
  clear cq8 nx0 ow hxA bxA hx9 nx9 bx7 y1
  go_wp2_with fail
  go_meet
  case rel => exact fin
end Go.Proofs.Ytajdelinfkodbaa
namespace Go.Proofs.Ytajdelinfkodbaa
open Go.RowKit
set_option maxRecDepth 100000
set_option maxHeartbeats 80000000 in
theorem armd : skelK.2.2.2.1 := by
  intro w an ac as_ x1 ub w2 x2 x3 u2 u6 u7 u8 u9 u10 u11 u12 u13 u14 u15 u16 x4 x5 x6 x7 x8 x9 x10 u28 x11 x12 x13 x14 x15 x16 x17 x18 x19 x20 x21 x22 x23 x24 x25 x26 x27 x28 x29 x30 x31 x32 x33 x34 x35 x36 x37 x38 x39 x40 x41 x42 x43 x44 x45 x46 x47 x48 x49 x50 x51 x52 x53 x54 x55 x56 x57 x58 x59 x60 x61 x62 x63 x64 x65 x66 x67 x68 x69 x70 x71 x72 x73 x74 x75 x76 x77 x78 x79 x80 x81 x82 x83 x84 x85 x86 x87 x88 x89 x90 x91 x92 x93 x94 x95 x96 x97 x98 x99 x100 x101 x102 x103 x104 x105 x106 x107 x108 x109 x110 x111 x112 x113 x114 x115 x116 x117 x118 x119 x120 x121 x122 x123 x124 x125 x126 x127 x128 x129 x130 x131 x132 x133 x134 x135 x136 x137 x138 x139 x140 x141 x142 x143 x144 x145 x146 x147 x148 x149 x150 x151 x152 x153 x154 x155 x156 x157 x158 x159 x160 x161 x162 x163 x164 x165 x166 x167 x168 x169 x170 x171 x172 x173 x174 x175 x176 x177 x178 x179 x180 x181 x182 x183 x184 x185 x186 x187 x188 x189 x190 x191 x192 x193 x194 x195 x196 x197 x198 x199 x200 x201 x202 x203 x204 x205 x206 x207 x208 x209 x210 x211 x212 x213 x214 x215 j hj1 hj2 A tb t u k hk wc u21 u22 u23 u24 u25 u26 u27 u29 u30 u31 u32 u33 u34 u35 u36 u37 u38 u39 u40 u41 u42 u43 u44 u45 u46 u47 u48 u49 u50 u51 u52 u53 u54 u55 u56 u57 u58 u59 u60 u61 u62 u63 u64 u65 u66 u67 u68 u69 u70 u71 u72 u73 u74 u75 u76 u77 u78 u79 u80 u81 u82 u83 u84 u85 u86 u87 u88 u89 u90 u91 u92 u93 u94 u95 u96 u97 u98 u99 u100 u101 u102 u103 u104 u105 u106 u107 u108 u109 u110 u111 u112 u113 u114 u115 u116 u117 u118 u119 u120 u121 u122 u123 u124 u125 u126 u127 u128 u129 u130 u131 u132 u133 u134 u135 u136 u137 u138 u139 u140 u141 u142 u143 u144 u145 u146 u147 u148 u149 u150 u151 u152 u153 u154 u155 u156 u157 u158 u159 u160 u161 u162 u163 u164 u165 u166 u167 u168 u169 u170 u171 u172 u173 u174 u175 u176 u177 u178 u179 u180 u181 u182 u183 u184 u185 u186 u187 u188 u189 u190 u191 u192 u193 u194 u195 u196 u197 u198 u199 u200 u201 u202 u203 u204 u205 u206 u207 u208 u209 u210 u211 u212 u213 u214 u215 u216 u217 u218 u219 u220 u221 u222 u223 u224 u225 u226 u227 u228 u229 u230 u231 u232 u233 hlt1 hlt2 ab ao m x216 hin x217 x218 x219 x220 wA hxA xb hxl bxA j30 kd z0 hkd x221 x222 x223 x224 kA kB kC
  rw [hkd.out]
  have n0 : (kd == 0) = false := by simp; omega
  have n1 : (kd == 1) = false := by simp; omega
  have n2 : (kd == 2) = false := by simp; omega
  have n3 : (kd == 3) = false := by simp; omega
  have n6 : (kd == 6) = false := by simp; omega
  have n4 : (kd == 4) = false := by simpa using kB
  have n5 : (kd == 5) = false := by simpa using kC
  obtain ⟨bv, lv, wv, hub⟩ := hxA.hy.ublk
  obtain ⟨_, y1, _⟩ := rt_cells hub
  obtain ⟨_, _, _, y3, _⟩ := act_cells bxA.blk
  have yf := act_frozen bxA.blk 3
  have fin : AftP w ub xb m j (.pointer (some ⟨tb, 0, none⟩)) (wA.setCell ⟨xb, 3, none⟩ (.int .i64 u.end_)) := ⟨A, tb, t, u, k, u.end_, rfl, hxA.setB bxA hxl, by omega, act_set3 bxA.blk _, bxA.out⟩
  clear hub hxA bxA
  go_wp2_with fail
  go_meet
  case rel => exact fin
end Go.Proofs.Ytajdelinfkodbaa
namespace Go.Proofs.Ytajdelinfkodbaa
open Go.RowKit
set_option maxRecDepth 100000
set_option maxHeartbeats 80000000 in
theorem armN : skel.2.1 := by
  intro w aa an ac as_ has an4 x1 ub w2 x2 x3 u2 u6 u7 u8 u9 u10 u11 u12 u13 u14 u15 u16 x4 x5 x6 x7 x8 x9 x10 u28 x11 x12 x13 x14 x15 x16 x17 x18 x19 x20 x21 x22 x23 x24 x25 x26 x27 x28 x29 x30 x31 x32 x33 x34 x35 x36 x37 x38 x39 x40 x41 x42 x43 x44 x45 x46 x47 x48 x49 x50 x51 x52 x53 x54 x55 x56 x57 x58 x59 x60 x61 x62 x63 x64 x65 x66 x67 x68 x69 x70 x71 x72 x73 x74 x75 x76 x77 x78 x79 x80 x81 x82 x83 x84 x85 x86 x87 x88 x89 x90 x91 x92 x93 x94 x95 x96 x97 x98 x99 x100 x101 x102 x103 x104 x105 x106 x107 x108 x109 x110 x111 x112 x113 x114 x115 x116 x117 x118 x119 x120 x121 x122 x123 x124 x125 x126 x127 x128 x129 x130 x131 x132 x133 x134 x135 x136 x137 x138 x139 x140 x141 x142 x143 x144 x145 x146 x147 x148 x149 x150 x151 x152 x153 x154 x155 x156 x157 x158 x159 x160 x161 x162 x163 x164 x165 x166 x167 x168 x169 x170 x171 x172 x173 x174 x175 x176 x177 x178 x179 x180 x181 x182 x183 x184 x185 x186 x187 x188 x189 x190 x191 x192 x193 x194 x195 x196 x197 x198 x199 x200 x201 x202 x203 x204 x205 x206 x207 x208 x209 x210 x211 x212 x213 x214 x215 j hj1 hj2 A tb t u k hk x216 x217 x218 x219 x220 wc u21 u22 u23 u24 u25 u26 u27 u29 u30 u31 u32 u33 u34 u35 u36 u37 u38 u39 u40 u41 u42 u43 u44 u45 u46 u47 u48 u49 u50 u51 u52 u53 u54 u55 u56 u57 u58 u59 u60 u61 u62 u63 u64 u65 u66 u67 u68 u69 u70 u71 u72 u73 u74 u75 u76 u77 u78 u79 u80 u81 u82 u83 u84 u85 u86 u87 u88 u89 u90 u91 u92 u93 u94 u95 u96 u97 u98 u99 u100 u101 u102 u103 u104 u105 u106 u107 u108 u109 u110 u111 u112 u113 u114 u115 u116 u117 u118 u119 u120 u121 u122 u123 u124 u125 u126 u127 u128 u129 u130 u131 u132 u133 u134 u135 u136 u137 u138 u139 u140 u141 u142 u143 u144 u145 u146 u147 u148 u149 u150 u151 u152 u153 u154 u155 u156 u157 u158 u159 u160 u161 u162 u163 u164 u165 u166 u167 u168 u169 u170 u171 u172 u173 u174 u175 u176 u177 u178 u179 u180 u181 u182 u183 u184 u185 u186 u187 u188 u189 u190 u191 u192 u193 u194 u195 u196 u197 u198 u199 u200 u201 u202 u203 u204 u205 u206 u207 u208 u209 u210 u211 u212 u213 u214 u215 u216 u217 u218 u219 u220 u221 u222 u223 u224 u225 u226 u227 u228 u229 u230 u231 u232 u233 wt hx
  go_wp2_with fail
  refine (known_true wt).mono ?_
  rintro e w9 ⟨rfl, B9⟩
  have fin : Hid (Below w.heap.size w w9) := below_size hx.bel hx.bel.size B9
  clear B9 hx
  go_wp2
  go_ret
  exact ⟨rfl, fin.out⟩
end Go.Proofs.Ytajdelinfkodbaa
