/- Acts played on a log. -/
import Derived.Test.YtofgphiamllmdabStep
import Derived.BigQuiet
import Derived.Deep.QuietTactic
import Derived.Deep.RegionLawGrows
import Derived.Deep.CutBlock
namespace Go.Proofs.Ytofgphiamllmdab
open Go.RowKit
set_option maxRecDepth 100000
theorem secR_le (m : Nat) : ∀ (l : List (List Int)), (∀ ys ∈ l, ys.length ≤ m) → secR l ≤ l.length * ((m + 111) / 112)
  | [], _ => by simp [secR]
  | y :: t, h => by
    have h1 := secR_le m t (fun ys hy => h ys (by simp [hy]))
    have h2 := h y (by simp)
    have h3 : (y.length + 111) / 112 ≤ (m + 111) / 112 := Nat.div_le_div_right (by omega)
    simp only [secR, List.length_cons]
    rw [Nat.add_mul, Nat.one_mul]
    omega
theorem secR_some (k : Nat) (c : Int) (r : Nat) (hk : k ≤ 400) (hr : r ≤ 10) : secR (someL k c r) ≤ 1000 := by
  have h1 := secR_le 1000 (someL k c r) (fun ys hy => by
    obtain ⟨j, hj, rfl⟩ := List.mem_map.1 hy
    have := List.mem_range.1 hj
    rw [List.length_replicate]
    omega)
  have h2 : (someL k c r).length = r := by simp [someL]
  rw [h2] at h1
  omega
def Played (w : World) (S : Nat) (e : Ending) (w' : World) : Prop := ∃ sb p bs bn lb hs rs sv mv, e = .returned (.pointer (some ⟨sb, 0, none⟩)) ∧ hs = (S - 2) / 2 ∧ Tale w w.heap.size w' p bs bn lb S hs sb 30 rs sv mv ∧ RL w' sv (rs.map (·.2))
theorem played {w : World} {S : Nat} {e : Ending} {w' : World} {sb p bs bn lb hs : Nat} {rs : List (Int × List Int)} {sv mv : Value} (h1 : e = .returned (.pointer (some ⟨sb, 0, none⟩))) (h2 : hs = (S - 2) / 2) (h3 : Tale w w.heap.size w' p bs bn lb S hs sb 30 rs sv mv ∧ RL w' sv (rs.map (·.2))) : Played w S e w' := ⟨sb, p, bs, bn, lb, hs, rs, sv, mv, h1, h2, h3⟩
structure Arm (P : Prop) : Prop where
  out : P
set_option maxHeartbeats 80000000 in
def skel : PSigma fun PA : Prop => PSigma fun PB : Prop => PSigma fun PC : Prop => PSigma fun PD : Prop => PSigma fun PR : Prop => Arm PA → Arm PB → Arm PC → Arm PD → Arm PR → ∀ (w : World) (S : Nat) (_ : 8 ≤ S) (_ : S ≤ 100) (sa : Option Addr) (len cap : Nat) (_ : ActsR w sa len), Calls Try.prog 41 #[.int .i64 (S : Int), .slice sa len cap] w fun e w' => Played w S e w' := by
  apply PSigma.mk
  apply PSigma.mk
  apply PSigma.mk
  apply PSigma.mk
  apply PSigma.mk
  · intro hA hB hC hD hR
    intro w S hS0 hS1 sa len cap ha
    obtain ⟨hs, hhs⟩ : ∃ hs : Nat, Hid (hs = (S - 2) / 2) := ⟨_, rfl⟩
    go_enter Try.func41, Try.ntmps41
    go_wp2_with fail
    refine (device_ok w S (by omega) (by omega)).mono ?_
    rintro e w1 ⟨p, bs, bn, q, rfl, D1, B1⟩
    go_wp2_with fail
    refine (format_ok D1 (by omega) (by omega) (by simp)).mono ?_
    rintro e w2 ⟨rfl, D2, F2⟩
    have B2 := B1.trans (F2.below D1)
    rw [List.nil_append] at D2
    clear D1 B1 F2
    go_wp2_with fail
    have A3 := heap_alloc_new w2 (storyO p (.slice none 0 0) (.slice none 0 0))
    have B3 := below_size B2 (Nat.le_refl _) (box_below w2 (storyO p (.slice none 0 0) (.slice none 0 0)))
    have D3 := D2.same (w' := w2.alloc (storyO p (.slice none 0 0) (.slice none 0 0))) (fun i hi => Below.heap_alloc _ _ _ hi)
    have sb0 : w.heap.size ≤ w2.heap.size := B2.size
    unfold storyO at A3 B3 D3
    generalize w2.alloc (.cells #[.pointer (some ⟨p, 0, none⟩), .slice none 0 0, .slice none 0 0] 68) = w3 at *
    generalize w2.heap.size = sb at *
    clear D2 B2
    refine (open_first (hs := hs) D3 (by omega) (by omega) hhs.out).mono ?_
    rintro e w4 ⟨lb, ra, rc, G, rfl, hlb, V4, F4⟩
    have B4 := B3.trans (F4.below D3)
    have A4 : w4.heap[sb]? = some (storyO p (.slice none 0 0) (.slice none 0 0)) := F4.blk D3 A3 (by decide) (by decide)
    clear A3 B3 D3 F4
    go_wp2
    go_loopw [8, 11] (fun lv iv wr => ∃ (i : Nat) (lb : Nat) (rs : List (Int × List Int)) (sv mv : Value), i ≤ 30 ∧ iv = .int .i64 (i : Int) ∧ lv = .pointer (some ⟨lb, 0, none⟩) ∧ Tale w w.heap.size wr p bs bn lb S hs sb i rs sv mv ∧ RL wr sv (rs.map (·.2))) (fun _ iv _ => 30 - (intOf iv).toNat)
    case atStart => exact ⟨0, lb, [], _, _, by omega, rfl, rfl, ⟨⟨G, 0, 2, 0, 1, 1, V4, by decide, by decide⟩, A4, B4, sb0⟩, RL.nil _⟩
    case round =>
      clear V4 A4 B4
      obtain ⟨i, lb, rs, sv, mv, hi, rfl, rfl, T, R⟩ := hrel
      obtain ⟨va, vn, vc, rfl⟩ : ∃ a n c, sv = .slice a n c := by
        obtain ⟨a, c, e⟩ := R.shape
        exact ⟨_, _, _, e⟩
      have fin := T.mayS R (.slice va vn vc) (i' := 30) hi
      have T1 := T.mayS R (.slice va vn vc) (Nat.le_refl i)
      obtain ⟨s0, s1, s2, sf⟩ := story_cells T.st
      obtain ⟨t0, t1, t2, tf⟩ := story_cells T1.1.st
      by_cases h1 : i < len
      · by_cases h2 : i < 30
        · have g1 : (i : Int) < (len : Int) := by omega
          have g2 : (i : Int) < 30 := by omega
          obtain ⟨ab, ao, kd, an, ak, ac, ka, kl, kc, ks, rfl, hab, hact⟩ := ha.at_ i h1
          have act := hact.below hab T.B
          obtain ⟨a0, a1, a2, a3, a4, _, _, _, _⟩ := act
          have act := hact.below hab T.B
          clear t0 t1 t2 tf fin T1
          go_wp2_with fail
          refine (count_any an 400 (by decide) (by decide) _).mono ?_
          rintro e wq ⟨⟨r, hr, rfl⟩, rfl⟩
          have hwr : IntKind.i64.wrap (1 + (r : Int)) = ((1 + r : Nat) : Int) := by rw [IntKind.wrap_i64]; omega
          obtain ⟨k, hk⟩ : ∃ k, Hid (1 + r = k) := ⟨_, rfl⟩
          have hk0 : 1 ≤ k := by have := hk.out; omega
          have hk1 : k ≤ 400 := by have := hk.out; omega
          rw [hk.out] at hwr
          clear hk hr
          have Ta := T.below (Nat.le_refl _) (box_below wr (.cells #[.int .i64 kd, .int .i64 an, .int .i64 ak, .int .u8 ac, .slice ka kl kc] 37))
          have Ra := R.keep (Keeps.of_below (box_below wr (.cells #[.int .i64 kd, .int .i64 an, .int .i64 ak, .int .u8 ac, .slice ka kl kc] 37)))
          have Ha := heap_alloc_new wr (.cells #[.int .i64 kd, .int .i64 an, .int .i64 ak, .int .u8 ac, .slice ka kl kc] 37)
          have hz : w.heap.size ≤ wr.heap.size := T.B.size
          generalize wr.alloc (.cells #[.int .i64 kd, .int .i64 an, .int .i64 ak, .int .u8 ac, .slice ka kl kc] 37) = wa at *
          generalize wr.heap.size = xb at *
          clear T R a0 a1 a2 a3 a4 act s0 s1 s2 sf
          obtain ⟨s0, s1, s2, sf⟩ := story_cells Ta.st
          have y0 : wa.cell? ⟨xb, 0, none⟩ = some (.int .i64 kd) := by rw [cell_of_row _ xb _ _ _ _ Ha]; rfl
          have y1 : wa.cell? ⟨xb, 1, none⟩ = some (.int .i64 an) := by rw [cell_of_row _ xb _ _ _ _ Ha]; rfl
          have hsx : sb ≠ xb := by
            rintro rfl
            have e := Ta.st
            rw [Ha] at e
            exact absurd (cells_ty e) (by decide)
          go_upto_block 2 with fail
          have Tb := Ta.mayS Ra (.slice va vn vc) (Nat.le_refl i)
          have Hb := (heap_setCell_other wa ⟨sb, 2, none⟩ xb (.slice va vn vc) (Ne.symm hsx)).trans Ha
          clear Ta Ra Ha s0 s1 s2 sf y0 y1
          generalize wa.setCell ⟨sb, 2, none⟩ (.slice va vn vc) = wb at *
          obtain ⟨Tb, Rb⟩ := Tb
          go_cut [8, 9, 10, 14, 15] from 48 to 221 (fun v8 v9 v10 v14 v15 wx => After w p bs bn S hs sb xb i (.cells #[.int .i64 kd, .int .i64 an, .int .i64 ak, .int .u8 ac, .slice ka kl kc] 37) v8 v14 wx)
          case first =>
            obtain ⟨s0, s1, s2, sf⟩ := story_cells Tb.st
            have y0 : wb.cell? ⟨xb, 0, none⟩ = some (.int .i64 kd) := by rw [cell_of_row _ xb _ _ _ _ Hb]; rfl
            have y2 : wb.cell? ⟨xb, 2, none⟩ = some (.int .i64 ak) := by rw [cell_of_row _ xb _ _ _ _ Hb]; rfl
            have y3 : wb.cell? ⟨xb, 3, none⟩ = some (.int .u8 ac) := by rw [cell_of_row _ xb _ _ _ _ Hb]; rfl
            have y4 : wb.cell? ⟨xb, 4, none⟩ = some (.slice ka kl kc) := by rw [cell_of_row _ xb _ _ _ _ Hb]; rfl
            have act := hact.below hab Tb.B
            have hcc := hact.hc
            obtain ⟨G, left, life, hf, first, since, V, k1, k2⟩ := Tb.L
            have f1 := V.g.f1
            have l1 := V.g.l1
            by_cases kA : kd = 0 ∨ kd = 1 ∨ kd = 2
            · rename_i x1 x2 x3 x4 x5 x6 x7 x8 x9 x10 x11 x12 x13 x14 x15 x16 x17 x18
              revert w S hS0 hS1 len cap hs hhs x1 w1 p bs bn q w2 w3 sb sb0 w4 x2 ra rc x3 hlb x4 x5 wr u4 u9 u10 u12 u13 u14 u15 u48 u49 u50 u51 u52 u53 u54 u55 u56 u57 u58 u59 u60 u61 u62 u63 u64 u65 u66 u67 u68 u69 u70 u71 u72 u73 u74 u75 u76 u77 u78 u79 u80 u81 u82 u83 u84 u85 u86 u87 u88 u89 u90 u91 u92 u93 u94 u95 u96 u97 u98 u99 u100 u101 u102 u103 u104 u105 u106 u107 u108 u109 u110 u111 u112 u113 u114 u115 u116 u117 u118 u119 u120 u121 u122 u123 u124 u125 u126 u127 u128 u129 u130 u131 u132 u133 u134 u135 u136 u137 u138 u139 u140 u141 u142 u143 u144 u145 u146 u147 u148 u149 u150 u151 u152 u153 u154 u155 u156 u157 u158 u159 u160 u161 u162 u163 u164 u165 u166 u167 u168 u169 u170 u171 u172 u173 u174 u175 u176 u177 u178 u179 u180 u181 u182 u183 u184 u185 u186 u187 u188 u189 u190 u191 u192 u193 u194 u195 u196 u197 u198 u199 u200 u201 u202 u203 u204 u205 u206 u207 u208 u209 u210 u211 u212 u213 u214 u215 u216 u217 u218 u219 u220 u221 i lb rs mv hi va vn vc h1 h2 g1 g2 ab ao kd an ak ac ka kl kc ks ha hab hact x6 x7 x8 x9 x10 x11 r k hwr hk0 hk1 wa xb x12 hz hsx x13 x14 wb Hb Tb Rb x15 x16 x17 x18 s0 s1 s2 sf y0 y2 y3 y4 act hcc G left life hf first since V k1 k2 f1 l1 kA
              exact hA.out
            by_cases kB : kd = 3
            · rename_i x1 x2 x3 x4 x5 x6 x7 x8 x9 x10 x11 x12 x13 x14 x15 x16 x17 x18
              revert w S hS0 hS1 len cap hs hhs x1 w1 p bs bn q w2 w3 sb sb0 w4 x2 ra rc x3 hlb x4 x5 wr u4 u9 u10 u12 u13 u14 u15 u48 u49 u50 u51 u52 u53 u54 u55 u56 u57 u58 u59 u60 u61 u62 u63 u64 u65 u66 u67 u68 u69 u70 u71 u72 u73 u74 u75 u76 u77 u78 u79 u80 u81 u82 u83 u84 u85 u86 u87 u88 u89 u90 u91 u92 u93 u94 u95 u96 u97 u98 u99 u100 u101 u102 u103 u104 u105 u106 u107 u108 u109 u110 u111 u112 u113 u114 u115 u116 u117 u118 u119 u120 u121 u122 u123 u124 u125 u126 u127 u128 u129 u130 u131 u132 u133 u134 u135 u136 u137 u138 u139 u140 u141 u142 u143 u144 u145 u146 u147 u148 u149 u150 u151 u152 u153 u154 u155 u156 u157 u158 u159 u160 u161 u162 u163 u164 u165 u166 u167 u168 u169 u170 u171 u172 u173 u174 u175 u176 u177 u178 u179 u180 u181 u182 u183 u184 u185 u186 u187 u188 u189 u190 u191 u192 u193 u194 u195 u196 u197 u198 u199 u200 u201 u202 u203 u204 u205 u206 u207 u208 u209 u210 u211 u212 u213 u214 u215 u216 u217 u218 u219 u220 u221 i lb rs mv hi va vn vc h1 h2 g1 g2 ab ao kd an ak ac ka kl kc ks ha hab hact x6 x7 x8 x9 x10 x11 r k hwr hk0 hk1 wa xb x12 hz hsx x13 x14 wb Hb Tb Rb x15 x16 x17 x18 s0 s1 s2 sf y0 y2 y3 y4 act hcc G left life hf first since V k1 k2 f1 l1 kA kB
              exact hB.out
            by_cases kC : kd = 4
            · rename_i x1 x2 x3 x4 x5 x6 x7 x8 x9 x10 x11 x12 x13 x14 x15 x16 x17 x18
              revert w S hS0 hS1 len cap hs hhs x1 w1 p bs bn q w2 w3 sb sb0 w4 x2 ra rc x3 hlb x4 x5 wr u4 u9 u10 u12 u13 u14 u15 u48 u49 u50 u51 u52 u53 u54 u55 u56 u57 u58 u59 u60 u61 u62 u63 u64 u65 u66 u67 u68 u69 u70 u71 u72 u73 u74 u75 u76 u77 u78 u79 u80 u81 u82 u83 u84 u85 u86 u87 u88 u89 u90 u91 u92 u93 u94 u95 u96 u97 u98 u99 u100 u101 u102 u103 u104 u105 u106 u107 u108 u109 u110 u111 u112 u113 u114 u115 u116 u117 u118 u119 u120 u121 u122 u123 u124 u125 u126 u127 u128 u129 u130 u131 u132 u133 u134 u135 u136 u137 u138 u139 u140 u141 u142 u143 u144 u145 u146 u147 u148 u149 u150 u151 u152 u153 u154 u155 u156 u157 u158 u159 u160 u161 u162 u163 u164 u165 u166 u167 u168 u169 u170 u171 u172 u173 u174 u175 u176 u177 u178 u179 u180 u181 u182 u183 u184 u185 u186 u187 u188 u189 u190 u191 u192 u193 u194 u195 u196 u197 u198 u199 u200 u201 u202 u203 u204 u205 u206 u207 u208 u209 u210 u211 u212 u213 u214 u215 u216 u217 u218 u219 u220 u221 i lb rs mv hi va vn vc h1 h2 g1 g2 ab ao kd an ak ac ka kl kc ks ha hab hact x6 x7 x8 x9 x10 x11 r k hwr hk0 hk1 wa xb x12 hz hsx x13 x14 wb Hb Tb Rb x15 x16 x17 x18 s0 s1 s2 sf y0 y2 y3 y4 act hcc G left life hf first since V k1 k2 f1 l1 kA kB kC
              exact hC.out
            have b0 : (kd == 0) = false := by simp; omega
            have b1 : (kd == 1) = false := by simp; omega
            have b2 : (kd == 2) = false := by simp; omega
            have b3 : (kd == 3) = false := by simp; omega
            have b4 : (kd == 4) = false := by simp; omega
            rename_i x1 x2 x3 x4 x5 x6 x7 x8 x9 x10 x11 x12 x13 x14 x15 x16 x17 x18
            revert w S hS0 hS1 len cap hs hhs x1 w1 p bs bn q w2 w3 sb sb0 w4 x2 ra rc x3 hlb x4 x5 wr u4 u9 u10 u12 u13 u14 u15 u48 u49 u50 u51 u52 u53 u54 u55 u56 u57 u58 u59 u60 u61 u62 u63 u64 u65 u66 u67 u68 u69 u70 u71 u72 u73 u74 u75 u76 u77 u78 u79 u80 u81 u82 u83 u84 u85 u86 u87 u88 u89 u90 u91 u92 u93 u94 u95 u96 u97 u98 u99 u100 u101 u102 u103 u104 u105 u106 u107 u108 u109 u110 u111 u112 u113 u114 u115 u116 u117 u118 u119 u120 u121 u122 u123 u124 u125 u126 u127 u128 u129 u130 u131 u132 u133 u134 u135 u136 u137 u138 u139 u140 u141 u142 u143 u144 u145 u146 u147 u148 u149 u150 u151 u152 u153 u154 u155 u156 u157 u158 u159 u160 u161 u162 u163 u164 u165 u166 u167 u168 u169 u170 u171 u172 u173 u174 u175 u176 u177 u178 u179 u180 u181 u182 u183 u184 u185 u186 u187 u188 u189 u190 u191 u192 u193 u194 u195 u196 u197 u198 u199 u200 u201 u202 u203 u204 u205 u206 u207 u208 u209 u210 u211 u212 u213 u214 u215 u216 u217 u218 u219 u220 u221 i lb rs mv hi va vn vc h1 h2 g1 g2 ab ao kd an ak ac ka kl kc ks ha hab hact x6 x7 x8 x9 x10 x11 r k hwr hk0 hk1 wa xb x12 hz hsx x13 x14 wb Hb Tb Rb x15 x16 x17 x18 s0 s1 s2 sf y0 y2 y3 y4 act hcc G left life hf first since V k1 k2 f1 l1 kA kB kC b0 b1 b2 b3 b4
            exact hD.out
          case rest =>
            rename_i x1 x2 x3 x4 x5 x6 x7 x8 x9 x10 x11 x12 x13 x14 x15 x16 x17 x18 x19 x20 x21 x22 x23 x24 x25 x26 x27 x28 x29 x30 x31 x32 x33 x34 x35 x36 x37 x38 x39 x40 x41 x42 x43 x44 x45 x46 x47 x48 x49 x50 x51 x52 x53 x54 x55 x56 x57 x58 x59 x60 x61 x62 x63 x64 x65 x66 x67 x68 x69 x70 x71 x72 x73 x74 x75 x76 x77 x78 x79 x80 x81 x82 x83 x84 x85 x86 x87 x88 x89 x90 x91 x92 x93 x94 x95 x96 x97 x98 x99 x100 x101 x102 x103 x104 x105 x106 x107 x108 x109 x110 x111 x112 x113 x114 x115 x116 x117 x118 x119 x120 x121 x122 x123 x124 x125 x126 x127 x128 x129 x130 x131 x132 x133 x134 x135 x136 x137 x138 x139 x140 x141 x142 x143 x144 x145 x146 x147 x148 x149 x150 x151 x152 x153 x154 x155 x156 x157 x158 x159 x160 x161 x162 x163 x164 x165 x166 x167 x168 x169 x170 x171 x172 x173 x174 x175 x176 x177 x178 x179 x180 x181 x182 x183 x184 x185 x186 x187 x188 x189 x190 x191 x192
            revert w S hS0 hS1 len cap hs hhs x1 w1 p bs bn q w2 w3 sb sb0 w4 x2 ra rc G hlb x3 x4 wr x5 x6 x7 u12 u13 x8 x9 x10 x11 x12 x13 x14 x15 x16 x17 x18 x19 x20 x21 x22 x23 x24 x25 x26 x27 x28 x29 x30 x31 x32 x33 x34 x35 x36 x37 x38 x39 x40 x41 x42 x43 x44 x45 x46 x47 x48 x49 x50 x51 x52 x53 x54 x55 x56 x57 x58 x59 x60 x61 x62 x63 x64 x65 x66 x67 x68 x69 x70 x71 x72 x73 x74 x75 x76 x77 x78 x79 x80 x81 x82 x83 x84 x85 x86 x87 x88 x89 x90 x91 x92 x93 x94 x95 x96 x97 x98 x99 x100 x101 x102 x103 x104 x105 x106 x107 x108 x109 x110 x111 x112 x113 x114 x115 x116 x117 x118 x119 x120 x121 x122 x123 x124 x125 x126 x127 x128 x129 x130 x131 x132 x133 x134 x135 x136 x137 x138 x139 x140 x141 x142 x143 x144 x145 x146 x147 x148 x149 x150 x151 x152 x153 x154 x155 x156 x157 x158 x159 x160 x161 x162 x163 x164 x165 x166 x167 x168 x169 x170 x171 x172 x173 x174 x175 x176 x177 x178 x179 x180 x181 x182 x183 i lb rs mv hi va vn vc h1 h2 g1 g2 ab ao kd an ak ac ka kl kc ks ha hab hact x184 x185 x186 x187 x188 x189 r k hwr hk0 hk1 wa xb x190 hz hsx x191 x192 wb Hb Tb Rb wc u4 u8 u9 u10 u14 u15 u48 u49 u50 u51 u52 u53 u54 u55 u56 u57 u58 u59 u60 u61 u62 u63 u64 u65 u66 u67 u68 u69 u70 u71 u72 u73 u74 u75 u76 u77 u78 u79 u80 u81 u82 u83 u84 u85 u86 u87 u88 u89 u90 u91 u92 u93 u94 u95 u96 u97 u98 u99 u100 u101 u102 u103 u104 u105 u106 u107 u108 u109 u110 u111 u112 u113 u114 u115 u116 u117 u118 u119 u120 u121 u122 u123 u124 u125 u126 u127 u128 u129 u130 u131 u132 u133 u134 u135 u136 u137 u138 u139 u140 u141 u142 u143 u144 u145 u146 u147 u148 u149 u150 u151 u152 u153 u154 u155 u156 u157 u158 u159 u160 u161 u162 u163 u164 u165 u166 u167 u168 u169 u170 u171 u172 u173 u174 u175 u176 u177 u178 u179 u180 u181 u182 u183 u184 u185 u186 u187 u188 u189 u190 u191 u192 u193 u194 u195 u196 u197 u198 u199 u200 u201 u202 u203 u204 u205 u206 u207 u208 u209 u210 u211 u212 u213 u214 u215 u216 u217 u218 u219 u220 u221 hcut
            exact hR.out
        · have g1 : (i : Int) < (len : Int) := by omega
          have g2 : ¬ (i : Int) < 30 := by omega
          go_wp2
          go_ret
          exact played rfl hhs.out fin
      · have g1 : ¬ (i : Int) < (len : Int) := by omega
        go_wp2
        go_ret
        exact played rfl hhs.out fin
set_option maxHeartbeats 80000000 in
theorem armA : skel.1 := by
  intro w S hS0 hS1 len cap hs hhs x1 w1 p bs bn q w2 w3 sb sb0 w4 x2 ra rc x3 hlb x4 x5 wr u4 u9 u10 u12 u13 u14 u15 u48 u49 u50 u51 u52 u53 u54 u55 u56 u57 u58 u59 u60 u61 u62 u63 u64 u65 u66 u67 u68 u69 u70 u71 u72 u73 u74 u75 u76 u77 u78 u79 u80 u81 u82 u83 u84 u85 u86 u87 u88 u89 u90 u91 u92 u93 u94 u95 u96 u97 u98 u99 u100 u101 u102 u103 u104 u105 u106 u107 u108 u109 u110 u111 u112 u113 u114 u115 u116 u117 u118 u119 u120 u121 u122 u123 u124 u125 u126 u127 u128 u129 u130 u131 u132 u133 u134 u135 u136 u137 u138 u139 u140 u141 u142 u143 u144 u145 u146 u147 u148 u149 u150 u151 u152 u153 u154 u155 u156 u157 u158 u159 u160 u161 u162 u163 u164 u165 u166 u167 u168 u169 u170 u171 u172 u173 u174 u175 u176 u177 u178 u179 u180 u181 u182 u183 u184 u185 u186 u187 u188 u189 u190 u191 u192 u193 u194 u195 u196 u197 u198 u199 u200 u201 u202 u203 u204 u205 u206 u207 u208 u209 u210 u211 u212 u213 u214 u215 u216 u217 u218 u219 u220 u221 i lb rs mv hi va vn vc h1 h2 g1 g2 ab ao kd an ak ac ka kl kc ks ha hab hact x6 x7 x8 x9 x10 x11 r k hwr hk0 hk1 wa xb x12 hz hsx x13 x14 wb Hb Tb Rb x15 x16 x17 x18 s0 s1 s2 sf y0 y2 y3 y4 act hcc G left life hf first since V k1 k2 f1 l1 kA
  obtain ⟨i0, hi0, hz0, hz1, hz2⟩ := info_parts Try.info38
  have hvn := Rb.row.1
  rw [List.length_map] at hvn
  replace hvn : Hid (rs.length = vn) := hvn
  have hvn1 : vn ≤ 1000 := by have := hvn.out; omega
  clear V k1 k2 f1 l1 act y2 y4 s0 s1 s2 sf
  go_upto_if 110 with fail
  go_cut [110] from 73 to 113 (fun v110 wx => v110 = .bool true ∧ wx = wb)
  case first =>
    rcases kA with rfl | rfl | rfl
    · go_wp2_with fail
      go_meet
      exact ⟨rfl, rfl⟩
    · go_wp2_with fail
      go_meet
      exact ⟨rfl, rfl⟩
    · go_wp2_with fail
      go_meet
      exact ⟨rfl, rfl⟩
  case rest =>
    obtain ⟨rfl, hwc⟩ := hcut
    have hwc' := hwc.symm
    clear hwc
    subst hwc'
    go_wp2_with fail
    refine (text_any wb k ac (by omega)).mono ?_
    rintro e w5 ⟨rfl, X5, G5⟩
    have B5 : Below wb.heap.size wb w5 := ⟨G5.os, G5.tape, G5.output, G5.size, fun i hi => G5.block i hi (by simp)⟩
    have T5 := Tb.below (Nat.le_refl _) B5
    have R5 := Rb.keep (Keeps.of_below B5)
    have H5 := (B5.block xb (lt_of_block Hb)).trans Hb
    have P5 := RB.text X5 hcc hk0 (by omega)
    clear B5 G5 X5 Tb Rb Hb y0 y3
    generalize wb.heap.size = gb at *
    obtain ⟨s0, s1, s2, sf⟩ := story_cells T5.st
    have T6 := T5.mayS R5 (.slice none 0 0) (Nat.le_refl i)
    have H6 := (heap_setCell_other w5 ⟨sb, 2, none⟩ xb (.slice none 0 0) (Ne.symm hsx)).trans H5
    have P6 := P5.keep (Keeps.set (i := 2) (x := .slice none 0 0) T5.st (by decide) (by decide))
    clear R5 H5 P5
    go_upto_region 27 with fail
    clear s0 s1 s2 sf T5
    generalize w5.setCell ⟨sb, 2, none⟩ (.slice none 0 0) = w6 at *
    obtain ⟨T6, R6⟩ := T6
    have E6 := T6.st
    obtain ⟨s0, s1, s2, sf⟩ := story_cells E6
    go_cut [14] from 48 to 221 (fun v14 wx => v14 = .int .i64 0 ∧ MidR w6 sb p vn (.slice va vn vc) (rs.map (·.2)) wx)
    case first =>
      go_region_law (refine step_app_recs rfl (.tmp 125) (.tmp 129) rfl (by simp [Act.eval]) va vn vc (rs.map (·.2)) (by simp [Act.eval]) R6.drew (by omega) ?_; intro av cv vs w7 O7 q7 B7; have E7 := (B7.block sb (lt_of_block E6)).trans E6; obtain ⟨z0, z1, z2, zf⟩ := story_cells E7)
      all_goals
        have M7 := midR E7 O7 q7 B7
        clear O7 q7 B7 E7
        go_wp2_with fail
        go_meet
        exact ⟨rfl, av, cv, vs, M7⟩
    case rest =>
      obtain ⟨rfl, av, cv, vs, K7, E7, O7, q7⟩ := hcut
      clear s0 s1 s2 sf
      have E7e := (Below.heap_alloc wc (.cells #[.slice (some ⟨gb, 0, none⟩) k k] 38) sb (lt_of_block E7)).trans E7
      have O7e := own_alloc O7 (.cells #[.slice (some ⟨gb, 0, none⟩) k k] 38)
      have K7e := K7.below (box_below wc (.cells #[.slice (some ⟨gb, 0, none⟩) k k] 38))
      obtain ⟨s0, s1, s2, sf⟩ := story_cells E7
      have hsz := K7e.size
      go_upto_region 29 with (at_builtin; refine wpList_append_own _ rfl _ _ 44 rfl w6.heap.size 38 i0 (.slice none 0 0) 1 24 Try.underlying44 hi0 hz0 hz1 hz2 rfl (by decide) _ _ _ rfl O7e ⟨wc.heap.size, 0, none⟩ 1 1 [.slice (some ⟨gb, 0, none⟩) k k] rfl rfl one_cell (by simp [Value.oneCell']) (by unfold maxLen; omega) (by omega) hsz ?_; intro v' wf O8 G8 _; obtain ⟨g8, c8, rfl⟩ := own_pos O8 (by omega); have E8 := (G8.block sb (lt_of_block E7e) (fun e => own_ne O7e E7e (by decide) e.symm)).trans E7e; obtain ⟨z0, z1, z2, zf⟩ := story_cells E8)
      have K9 := (K7e.grown O7e (Nat.le_refl _) G8).set (i := 2) (v := .slice (some ⟨g8, 0, none⟩) (vn + 1) c8)
      have E9 := story_may E8 (.slice (some ⟨g8, 0, none⟩) (vn + 1) c8)
      have O9 := own_setCell (i := 2) (x := .slice (some ⟨g8, 0, none⟩) (vn + 1) c8) O8 E8 (by decide)
      clear E7e O7e K7e s0 s1 s2 sf hsz G8 O8 E8 z0 z1 z2 zf K7 E7 O7
      generalize wf.setCell ⟨sb, 2, none⟩ (.slice (some ⟨g8, 0, none⟩) (vn + 1) c8) = w9 at *
      have KP := Keeps.of_but K9 E6 (by decide) (by decide)
      have R9 := R6.keep KP
      have P9 := P6.keep KP
      have H9 := K9.blk E6 H6 (by decide)
      have B9 := K9.belowN T6.B (Nat.le_refl _) T6.sb0
      have sb1 := T6.sb0
      obtain ⟨G, left, life, hf, first, since, V, k1, k2⟩ := T6.L
      have V9 := V.but K9 E6 (by decide) (by decide) (by decide)
      have M9 : RL w9 (.slice (some ⟨g8, 0, none⟩) (vn + 1) c8) (rs.map (·.2) ++ [List.replicate k ac]) := RL.of_own O9 (by rw [List.length_append, List.length_map, hvn.out]; rfl) (fun j ys hj => by
        have hvl : vs.length = vn := by have := O9.1; simp at this; omega
        rcases Nat.lt_trichotomy j (rs.map (·.2)).length with hl | hl | hl
        · rw [List.getElem?_append_left hl] at hj
          obtain ⟨x, h1, h2⟩ := q7 j ys hj
          exact ⟨x, by rw [List.getElem?_append_left (by have := (List.getElem?_eq_some_iff.1 h1).1; omega)]; exact h1, h2.keep KP⟩
        · subst hl
          rw [List.getElem?_append_right (Nat.le_refl _), Nat.sub_self] at hj
          simp only [List.getElem?_cons_zero, Option.some.injEq] at hj
          subst hj
          exact ⟨_, by rw [List.length_map, hvn.out, ← hvl, List.getElem?_append_right (Nat.le_refl _), Nat.sub_self]; rfl, P9⟩
        · rw [List.getElem?_eq_none (by simp at hl ⊢; omega)] at hj
          cases hj)
      have f1 := V.g.f1
      clear K9 KP O9 q7 V T6 R6 E6 H6 P6
      go_wp2_with fail
      refine (append_live V9 (by omega) (by omega) hhs.out (by omega) (by omega) P9.slb).mono ?_
      rintro e w10 (⟨rfl, ⟨G', left', V10⟩, F10⟩ | ⟨rfl, B10⟩ | ⟨rfl, DY, F10⟩)
      · have res : After w p bs bn S hs sb xb i (.cells #[.int .i64 kd, .int .i64 an, .int .i64 ak, .int .u8 ac, .slice ka kl kc] 37) (.pointer (some ⟨lb, 0, none⟩)) (.int .i64 0) w10 :=
          ⟨F10.blk V9.D V9.L H9 (by decide) (by decide) (by decide), .inl ⟨rfl, lb, rs ++ [(life, List.replicate k ac)], _, _, _, _, rfl, ⟨⟨G', left', life, hf, first, since, V10, by push_cast; omega, by rw [List.length_append]; push_cast; simp; omega⟩, F10.blk V9.D V9.L E9 (by decide) (by decide) (by decide), B9.trans (F10.belowD V9.D V9.lb0), sb1⟩, by rw [List.map_append]; exact M9.keep (Keeps.of_fl F10 V9.D V9.L)⟩⟩
        clear V10 F10 M9 V9 R9 P9 H9 B9 E9
        go_wp2
        go_meet
        exact res
      · have T9 : Tale w w.heap.size w9 p bs bn lb S hs sb (i + 1) rs (.slice va vn vc) (.slice (some ⟨g8, 0, none⟩) (vn + 1) c8) := ⟨⟨G, left, life, hf, first, since, V9, by push_cast; omega, by push_cast; omega⟩, E9, B9, sb1⟩
        have res : After w p bs bn S hs sb xb i (.cells #[.int .i64 kd, .int .i64 an, .int .i64 ak, .int .u8 ac, .slice ka kl kc] 37) (.pointer (some ⟨lb, 0, none⟩)) (.int .i64 4) w10 :=
          ⟨(B10.block xb (lt_of_block H9)).trans H9, .inr (.inl ⟨rfl, lb, rs, _, _, rfl, T9.below (Nat.le_refl _) B10, R9.keep (Keeps.of_below B10)⟩)⟩
        clear T9 B10 M9 V9 R9 P9 H9 B9 E9
        go_wp2
        go_meet
        exact res
      · have res : After w p bs bn S hs sb xb i (.cells #[.int .i64 kd, .int .i64 an, .int .i64 ak, .int .u8 ac, .slice ka kl kc] 37) (.pointer (some ⟨lb, 0, none⟩)) (.int .i64 14) w10 :=
          ⟨F10.blk V9.D V9.L H9 (by decide) (by decide) (by decide), .inr (.inr ⟨rfl, rs, _, _, _, _, life, hf, first, since, DY, k1, k2, F10.blk V9.D V9.L E9 (by decide) (by decide) (by decide), B9.trans (F10.belowD V9.D V9.lb0), sb1, R9.keep (Keeps.of_fl F10 V9.D V9.L)⟩)⟩
        clear DY F10 M9 V9 R9 P9 H9 B9 E9
        go_wp2
        go_meet
        exact res
set_option maxHeartbeats 80000000 in
theorem armB : skel.2.1 := by
  intro w S hS0 hS1 len cap hs hhs x1 w1 p bs bn q w2 w3 sb sb0 w4 x2 ra rc x3 hlb x4 x5 wr u4 u9 u10 u12 u13 u14 u15 u48 u49 u50 u51 u52 u53 u54 u55 u56 u57 u58 u59 u60 u61 u62 u63 u64 u65 u66 u67 u68 u69 u70 u71 u72 u73 u74 u75 u76 u77 u78 u79 u80 u81 u82 u83 u84 u85 u86 u87 u88 u89 u90 u91 u92 u93 u94 u95 u96 u97 u98 u99 u100 u101 u102 u103 u104 u105 u106 u107 u108 u109 u110 u111 u112 u113 u114 u115 u116 u117 u118 u119 u120 u121 u122 u123 u124 u125 u126 u127 u128 u129 u130 u131 u132 u133 u134 u135 u136 u137 u138 u139 u140 u141 u142 u143 u144 u145 u146 u147 u148 u149 u150 u151 u152 u153 u154 u155 u156 u157 u158 u159 u160 u161 u162 u163 u164 u165 u166 u167 u168 u169 u170 u171 u172 u173 u174 u175 u176 u177 u178 u179 u180 u181 u182 u183 u184 u185 u186 u187 u188 u189 u190 u191 u192 u193 u194 u195 u196 u197 u198 u199 u200 u201 u202 u203 u204 u205 u206 u207 u208 u209 u210 u211 u212 u213 u214 u215 u216 u217 u218 u219 u220 u221 i lb rs mv hi va vn vc h1 h2 g1 g2 ab ao kd an ak ac ka kl kc ks ha hab hact x6 x7 x8 x9 x10 x11 r k hwr hk0 hk1 wa xb x12 hz hsx x13 x14 wb Hb Tb Rb x15 x16 x17 x18 s0 s1 s2 sf y0 y2 y3 y4 act hcc G left life hf first since V k1 k2 f1 l1 kA kB
  clear y0 act y4
  subst kB
  go_upto_region 31 with fail
  clear s0 s1 s2 sf
  go_cut [14] from 48 to 221 (fun v14 wx => v14 = .int .i64 0 ∧ ∃ (r2 : Nat) (av : Option Addr) (cv : Nat), r2 < 6 ∧ But sb wb wx ∧ wx.heap[sb]? = some (storyO p (.slice va vn vc) (.slice av (someL k ac r2).length cv)) ∧ Recs wx wb.heap.size (.slice av (someL k ac r2).length cv) (someL k ac r2))
  case first =>
    refine wp_region_inv' (fun A D a w' => ∃ v148 v149 v150 v151 v152 v153 v154 v155 v156 v157 r2 av cv, a = ((((((((((A.put (some 148) v148).put (some 149) v149).put (some 150) v150).put (some 151) v151).put (some 152) v152).put (some 153) v153).put (some 154) v154).put (some 155) v155).put (some 156) v156).put (some 157) v157) ∧ (D 10 ∨ Below wb.heap.size wb w') ∧ (D 0 → v148 = .pointer (some ⟨sb, 0, none⟩)) ∧ (D 1 → v149 = .pointer (some ⟨xb, 2, none⟩)) ∧ (D 2 → v150 = .int .i64 ak) ∧ (D 3 → v151 = .int .i64 ((r2 : Nat) : Int)) ∧ (D 4 → v152 = .int .i64 (k : Int)) ∧ (D 5 → v153 = .pointer (some ⟨xb, 3, none⟩)) ∧ (D 6 → v154 = .int .u8 ac) ∧ (D 7 → v155 = .slice av (someL k ac r2).length cv) ∧ (D 8 → v156 = .pointer (some ⟨sb, 0, none⟩)) ∧ (D 9 → v157 = .pointer (some ⟨sb, 2, none⟩)) ∧ (D 3 → r2 < 6) ∧ (D 10 → But sb wb w' ∧ w'.heap[sb]? = some (storyO p (.slice va vn vc) (.slice av (someL k ac r2).length cv)) ∧ Recs w' wb.heap.size (.slice av (someL k ac r2).length cv) (someL k ac r2)) ∧ (D 7 → ¬ D 10 → Recs w' wb.heap.size (.slice av (someL k ac r2).length cv) (someL k ac r2))) (by kernel_rfl) (by kernel_rfl) ?mono ?start ?step ?done
    case mono =>
      rintro D D' a w' hD ⟨v148, v149, v150, v151, v152, v153, v154, v155, v156, v157, r2, av, cv, ha, hB, e0, e1, e2, e3, e4, e5, e6, e7, e8, e9, hr2, hq, hrc⟩
      exact ⟨v148, v149, v150, v151, v152, v153, v154, v155, v156, v157, r2, av, cv, ha, hB.imp_left (hD 10).1, fun h => e0 ((hD 0).2 h), fun h => e1 ((hD 1).2 h), fun h => e2 ((hD 2).2 h), fun h => e3 ((hD 3).2 h), fun h => e4 ((hD 4).2 h), fun h => e5 ((hD 5).2 h), fun h => e6 ((hD 6).2 h), fun h => e7 ((hD 7).2 h), fun h => e8 ((hD 8).2 h), fun h => e9 ((hD 9).2 h), fun h => hr2 ((hD 3).2 h), fun h => hq ((hD 10).2 h), fun h h' => hrc ((hD 7).2 h) (fun k => h' ((hD 10).1 k))⟩
    case start => exact ⟨u148, u149, u150, u151, u152, u153, u154, u155, u156, u157, 0, none, 0, by kernel_rfl, .inr ((Below.refl _ _).drew), fun h => h.elim, fun h => h.elim, fun h => h.elim, fun h => h.elim, fun h => h.elim, fun h => h.elim, fun h => h.elim, fun h => h.elim, fun h => h.elim, fun h => h.elim, fun h => h.elim, fun h => h.elim, fun h _ => h.elim⟩
    case step =>
      intro i o ho D a w' hI hn hcl hd
      obtain ⟨v148, v149, v150, v151, v152, v153, v154, v155, v156, v157, r2, av, cv, ha, hB, e0, e1, e2, e3, e4, e5, e6, e7, e8, e9, hr2, hq, hrc⟩ := hI
      match i, ho with
      | 0, ho =>
        cases Option.some.inj ho
        have ev : a.tmps[7]?.getD undef = .pointer (some ⟨sb, 0, none⟩) := by rw [ha]; kernel_rfl
        refine wp_value (w' := w') (v := .pointer (some ⟨sb, 0, none⟩)) (by simp [execOp, ev, go_sem]) ?_
        exact ⟨(.pointer (some ⟨sb, 0, none⟩)), v149, v150, v151, v152, v153, v154, v155, v156, v157, r2, av, cv, by rw [ha]; kernel_rfl, hB.imp_left .inr, fun _ => rfl, fun h => e1 (h.resolve_left (by decide)), fun h => e2 (h.resolve_left (by decide)), fun h => e3 (h.resolve_left (by decide)), fun h => e4 (h.resolve_left (by decide)), fun h => e5 (h.resolve_left (by decide)), fun h => e6 (h.resolve_left (by decide)), fun h => e7 (h.resolve_left (by decide)), fun h => e8 (h.resolve_left (by decide)), fun h => e9 (h.resolve_left (by decide)), fun h => hr2 (h.resolve_left (by decide)), fun h => hq (h.resolve_left (by decide)), fun h h' => hrc (h.resolve_left (by decide)) (fun k => h' (.inr k))⟩
      | 1, ho =>
        cases Option.some.inj ho
        have ev : a.tmps[12]?.getD undef = .pointer (some ⟨xb, 0, none⟩) := by rw [ha]; kernel_rfl
        refine wp_value (w' := w') (v := .pointer (some ⟨xb, 2, none⟩)) (by simp [execOp, ev, go_sem]) ?_
        exact ⟨v148, (.pointer (some ⟨xb, 2, none⟩)), v150, v151, v152, v153, v154, v155, v156, v157, r2, av, cv, by rw [ha]; kernel_rfl, hB.imp_left .inr, fun h => e0 (h.resolve_left (by decide)), fun _ => rfl, fun h => e2 (h.resolve_left (by decide)), fun h => e3 (h.resolve_left (by decide)), fun h => e4 (h.resolve_left (by decide)), fun h => e5 (h.resolve_left (by decide)), fun h => e6 (h.resolve_left (by decide)), fun h => e7 (h.resolve_left (by decide)), fun h => e8 (h.resolve_left (by decide)), fun h => e9 (h.resolve_left (by decide)), fun h => hr2 (h.resolve_left (by decide)), fun h => hq (h.resolve_left (by decide)), fun h h' => hrc (h.resolve_left (by decide)) (fun k => h' (.inr k))⟩
      | 2, ho =>
        cases Option.some.inj ho
        have ev : a.tmps[149]?.getD undef = .pointer (some ⟨xb, 2, none⟩) := by rw [ha, e1 (hd ⟨1, .data⟩ (by simp) rfl)]; kernel_rfl
        have hc := ((hB.resolve_left (fun h => (fun h => (fun h => hn (hcl 3 _ rfl h ⟨2, .data⟩ (by simp) rfl)) (hcl 7 _ rfl h ⟨3, .data⟩ (by simp) rfl)) (hcl 10 _ rfl h ⟨7, .data⟩ (by simp) rfl))).cell (p := ⟨xb, 2, none⟩) (lt_of_block Hb)).trans y2
        refine wp_value (w' := w') (v := .int .i64 ak) (by simp [execOp, ev, go_sem, hc]) ?_
        exact ⟨v148, v149, (.int .i64 ak), v151, v152, v153, v154, v155, v156, v157, r2, av, cv, by rw [ha]; kernel_rfl, hB.imp_left .inr, fun h => e0 (h.resolve_left (by decide)), fun h => e1 (h.resolve_left (by decide)), fun _ => rfl, fun h => e3 (h.resolve_left (by decide)), fun h => e4 (h.resolve_left (by decide)), fun h => e5 (h.resolve_left (by decide)), fun h => e6 (h.resolve_left (by decide)), fun h => e7 (h.resolve_left (by decide)), fun h => e8 (h.resolve_left (by decide)), fun h => e9 (h.resolve_left (by decide)), fun h => hr2 (h.resolve_left (by decide)), fun h => hq (h.resolve_left (by decide)), fun h h' => hrc (h.resolve_left (by decide)) (fun k => h' (.inr k))⟩
      | 3, ho =>
        cases Option.some.inj ho
        have ev : a.tmps[150]?.getD undef = .int .i64 ak := by rw [ha, e2 (hd ⟨2, .data⟩ (by simp) rfl)]; kernel_rfl
        refine wp_enter (f := 9) (args := #[.int .i64 ak, .int .i64 6]) (by simp [execOp, ev, go_sem]) ?_
        refine (count_any ak 6 (by decide) (by decide) w').mono ?_
        rintro e w6 ⟨⟨r2', hr', rfl⟩, rfl⟩
        refine ⟨_, rfl, ?_⟩
        exact ⟨v148, v149, v150, (.int .i64 ((r2' : Nat) : Int)), v152, v153, v154, v155, v156, v157, r2', av, cv, by rw [ha]; kernel_rfl, hB.imp_left .inr, fun h => e0 (h.resolve_left (by decide)), fun h => e1 (h.resolve_left (by decide)), fun h => e2 (h.resolve_left (by decide)), fun _ => rfl, fun h => e4 (h.resolve_left (by decide)), fun h => e5 (h.resolve_left (by decide)), fun h => e6 (h.resolve_left (by decide)), fun h => absurd (h.resolve_left (by decide)) (fun h => hn (hcl 7 _ rfl h ⟨3, .data⟩ (by simp) rfl)), fun h => e8 (h.resolve_left (by decide)), fun h => e9 (h.resolve_left (by decide)), fun _ => hr', fun h => absurd (h.resolve_left (by decide)) (fun h => (fun h => hn (hcl 7 _ rfl h ⟨3, .data⟩ (by simp) rfl)) (hcl 10 _ rfl h ⟨7, .data⟩ (by simp) rfl)), fun h _ => absurd (h.resolve_left (by decide)) (fun h => hn (hcl 7 _ rfl h ⟨3, .data⟩ (by simp) rfl))⟩
      | 4, ho =>
        cases Option.some.inj ho
        have ev : a.tmps[13]?.getD undef = .int .i64 (k : Int) := by rw [ha]; kernel_rfl
        refine wp_value (w' := w') (v := .int .i64 (k : Int)) (by simp [execOp, ev, go_sem]) ?_
        exact ⟨v148, v149, v150, v151, (.int .i64 (k : Int)), v153, v154, v155, v156, v157, r2, av, cv, by rw [ha]; kernel_rfl, hB.imp_left .inr, fun h => e0 (h.resolve_left (by decide)), fun h => e1 (h.resolve_left (by decide)), fun h => e2 (h.resolve_left (by decide)), fun h => e3 (h.resolve_left (by decide)), fun _ => rfl, fun h => e5 (h.resolve_left (by decide)), fun h => e6 (h.resolve_left (by decide)), fun h => e7 (h.resolve_left (by decide)), fun h => e8 (h.resolve_left (by decide)), fun h => e9 (h.resolve_left (by decide)), fun h => hr2 (h.resolve_left (by decide)), fun h => hq (h.resolve_left (by decide)), fun h h' => hrc (h.resolve_left (by decide)) (fun k => h' (.inr k))⟩
      | 5, ho =>
        cases Option.some.inj ho
        have ev : a.tmps[12]?.getD undef = .pointer (some ⟨xb, 0, none⟩) := by rw [ha]; kernel_rfl
        refine wp_value (w' := w') (v := .pointer (some ⟨xb, 3, none⟩)) (by simp [execOp, ev, go_sem]) ?_
        exact ⟨v148, v149, v150, v151, v152, (.pointer (some ⟨xb, 3, none⟩)), v154, v155, v156, v157, r2, av, cv, by rw [ha]; kernel_rfl, hB.imp_left .inr, fun h => e0 (h.resolve_left (by decide)), fun h => e1 (h.resolve_left (by decide)), fun h => e2 (h.resolve_left (by decide)), fun h => e3 (h.resolve_left (by decide)), fun h => e4 (h.resolve_left (by decide)), fun _ => rfl, fun h => e6 (h.resolve_left (by decide)), fun h => e7 (h.resolve_left (by decide)), fun h => e8 (h.resolve_left (by decide)), fun h => e9 (h.resolve_left (by decide)), fun h => hr2 (h.resolve_left (by decide)), fun h => hq (h.resolve_left (by decide)), fun h h' => hrc (h.resolve_left (by decide)) (fun k => h' (.inr k))⟩
      | 6, ho =>
        cases Option.some.inj ho
        have ev : a.tmps[153]?.getD undef = .pointer (some ⟨xb, 3, none⟩) := by rw [ha, e5 (hd ⟨5, .data⟩ (by simp) rfl)]; kernel_rfl
        have hc := ((hB.resolve_left (fun h => (fun h => hn (hcl 7 _ rfl h ⟨6, .data⟩ (by simp) rfl)) (hcl 10 _ rfl h ⟨7, .data⟩ (by simp) rfl))).cell (p := ⟨xb, 3, none⟩) (lt_of_block Hb)).trans y3
        refine wp_value (w' := w') (v := .int .u8 ac) (by simp [execOp, ev, go_sem, hc]) ?_
        exact ⟨v148, v149, v150, v151, v152, v153, (.int .u8 ac), v155, v156, v157, r2, av, cv, by rw [ha]; kernel_rfl, hB.imp_left .inr, fun h => e0 (h.resolve_left (by decide)), fun h => e1 (h.resolve_left (by decide)), fun h => e2 (h.resolve_left (by decide)), fun h => e3 (h.resolve_left (by decide)), fun h => e4 (h.resolve_left (by decide)), fun h => e5 (h.resolve_left (by decide)), fun _ => rfl, fun h => e7 (h.resolve_left (by decide)), fun h => e8 (h.resolve_left (by decide)), fun h => e9 (h.resolve_left (by decide)), fun h => hr2 (h.resolve_left (by decide)), fun h => hq (h.resolve_left (by decide)), fun h h' => hrc (h.resolve_left (by decide)) (fun k => h' (.inr k))⟩
      | 7, ho =>
        cases Option.some.inj ho
        have ev : a.tmps[151]?.getD undef = .int .i64 ((r2 : Nat) : Int) := by rw [ha, e3 (hd ⟨3, .data⟩ (by simp) rfl)]; kernel_rfl
        have ev' : a.tmps[152]?.getD undef = .int .i64 (k : Int) := by rw [ha, e4 (hd ⟨4, .data⟩ (by simp) rfl)]; kernel_rfl
        have ev'' : a.tmps[154]?.getD undef = .int .u8 ac := by rw [ha, e6 (hd ⟨6, .data⟩ (by simp) rfl)]; kernel_rfl
        have hr6 := hr2 (hd ⟨3, .data⟩ (by simp) rfl)
        have hb4 := hB.resolve_left (fun h => hn (hcl 10 _ rfl h ⟨7, .data⟩ (by simp) rfl))
        refine wp_enter (f := 20) (args := #[.int .i64 ((r2 : Nat) : Int), .int .i64 (k : Int), .int .u8 ac]) (by simp [execOp, ev, ev', ev'', go_sem]) ?_
        refine (some_any w' r2 k ac (by omega) hk0 (by omega)).mono ?_
        rintro e w6 ⟨v', rfl, RC, HB⟩
        refine ⟨_, rfl, ?_⟩
        obtain ⟨av', cv', rfl⟩ := RC.shape
        exact ⟨v148, v149, v150, v151, v152, v153, v154, (.slice av' (someL k ac r2).length cv'), v156, v157, r2, av', cv', by rw [ha]; kernel_rfl, hB.imp .inr (fun h => below_size h (Nat.le_refl _) HB), fun h => e0 (h.resolve_left (by decide)), fun h => e1 (h.resolve_left (by decide)), fun h => e2 (h.resolve_left (by decide)), fun h => e3 (h.resolve_left (by decide)), fun h => e4 (h.resolve_left (by decide)), fun h => e5 (h.resolve_left (by decide)), fun h => e6 (h.resolve_left (by decide)), fun _ => rfl, fun h => e8 (h.resolve_left (by decide)), fun h => e9 (h.resolve_left (by decide)), fun h => hr2 (h.resolve_left (by decide)), fun h => absurd (h.resolve_left (by decide)) (fun h => hn (hcl 10 _ rfl h ⟨7, .data⟩ (by simp) rfl)), fun _ _ => RC.mono hb4.size⟩
      | 8, ho =>
        cases Option.some.inj ho
        have ev : a.tmps[148]?.getD undef = .pointer (some ⟨sb, 0, none⟩) := by rw [ha, e0 (hd ⟨0, .data⟩ (by simp) rfl)]; kernel_rfl
        refine wp_value (w' := w') (v := .pointer (some ⟨sb, 0, none⟩)) (by simp [execOp, ev, go_sem]) ?_
        exact ⟨v148, v149, v150, v151, v152, v153, v154, v155, (.pointer (some ⟨sb, 0, none⟩)), v157, r2, av, cv, by rw [ha]; kernel_rfl, hB.imp_left .inr, fun h => e0 (h.resolve_left (by decide)), fun h => e1 (h.resolve_left (by decide)), fun h => e2 (h.resolve_left (by decide)), fun h => e3 (h.resolve_left (by decide)), fun h => e4 (h.resolve_left (by decide)), fun h => e5 (h.resolve_left (by decide)), fun h => e6 (h.resolve_left (by decide)), fun h => e7 (h.resolve_left (by decide)), fun _ => rfl, fun h => e9 (h.resolve_left (by decide)), fun h => hr2 (h.resolve_left (by decide)), fun h => hq (h.resolve_left (by decide)), fun h h' => hrc (h.resolve_left (by decide)) (fun k => h' (.inr k))⟩
      | 9, ho =>
        cases Option.some.inj ho
        have ev : a.tmps[156]?.getD undef = .pointer (some ⟨sb, 0, none⟩) := by rw [ha, e8 (hd ⟨8, .data⟩ (by simp) rfl)]; kernel_rfl
        refine wp_value (w' := w') (v := .pointer (some ⟨sb, 2, none⟩)) (by simp [execOp, ev, go_sem]) ?_
        exact ⟨v148, v149, v150, v151, v152, v153, v154, v155, v156, (.pointer (some ⟨sb, 2, none⟩)), r2, av, cv, by rw [ha]; kernel_rfl, hB.imp_left .inr, fun h => e0 (h.resolve_left (by decide)), fun h => e1 (h.resolve_left (by decide)), fun h => e2 (h.resolve_left (by decide)), fun h => e3 (h.resolve_left (by decide)), fun h => e4 (h.resolve_left (by decide)), fun h => e5 (h.resolve_left (by decide)), fun h => e6 (h.resolve_left (by decide)), fun h => e7 (h.resolve_left (by decide)), fun h => e8 (h.resolve_left (by decide)), fun _ => rfl, fun h => hr2 (h.resolve_left (by decide)), fun h => hq (h.resolve_left (by decide)), fun h h' => hrc (h.resolve_left (by decide)) (fun k => h' (.inr k))⟩
      | 10, ho =>
        cases Option.some.inj ho
        have ev : a.tmps[157]?.getD undef = .pointer (some ⟨sb, 2, none⟩) := by rw [ha, e9 (hd ⟨9, .data⟩ (by simp) rfl)]; kernel_rfl
        have ev' : a.tmps[155]?.getD undef = .slice av (someL k ac r2).length cv := by rw [ha, e7 (hd ⟨7, .data⟩ (by simp) rfl)]; kernel_rfl
        have hb4 := hB.resolve_left hn
        have E4 := (hb4.block sb (lt_of_block Tb.st)).trans Tb.st
        obtain ⟨z0, z1, z2, zf⟩ := story_cells E4
        have zf2 := zf 2
        have RC4 := hrc (hd ⟨7, .data⟩ (by simp) rfl) hn
        refine wp_skip (w' := w'.setCell ⟨sb, 2, none⟩ (.slice av (someL k ac r2).length cv)) (by simp [execOp, Act.eval, ev, ev', go_sem, z2, zf2]) ?_
        exact ⟨v148, v149, v150, v151, v152, v153, v154, v155, v156, v157, r2, av, cv, by rw [ha]; kernel_rfl, .inl (.inl rfl), fun h => e0 (h.resolve_left (by decide)), fun h => e1 (h.resolve_left (by decide)), fun h => e2 (h.resolve_left (by decide)), fun h => e3 (h.resolve_left (by decide)), fun h => e4 (h.resolve_left (by decide)), fun h => e5 (h.resolve_left (by decide)), fun h => e6 (h.resolve_left (by decide)), fun h => e7 (h.resolve_left (by decide)), fun h => e8 (h.resolve_left (by decide)), fun h => e9 (h.resolve_left (by decide)), fun h => hr2 (h.resolve_left (by decide)), fun _ => ⟨((But.refl sb wb).below hb4).set, story_may E4 _, RC4.set E4 (by decide) (by decide)⟩, fun _ h' => absurd (.inl rfl) h'⟩
      | i + 11, ho => simp at ho
    case done =>
      rintro D a w' ⟨v148, v149, v150, v151, v152, v153, v154, v155, v156, v157, r2, av, cv, ha, hB, e0, e1, e2, e3, e4, e5, e6, e7, e8, e9, hr2, hq, hrc⟩ hall
      have hq' := hq (hall 10 (by decide))
      have hr6 := hr2 (hall 3 (by decide))
      obtain rfl := e0 (hall 0 (by decide))
      obtain rfl := e1 (hall 1 (by decide))
      obtain rfl := e2 (hall 2 (by decide))
      obtain rfl := e3 (hall 3 (by decide))
      obtain rfl := e4 (hall 4 (by decide))
      obtain rfl := e5 (hall 5 (by decide))
      obtain rfl := e6 (hall 6 (by decide))
      obtain rfl := e7 (hall 7 (by decide))
      obtain rfl := e8 (hall 8 (by decide))
      obtain rfl := e9 (hall 9 (by decide))
      clear hB hq hr2 hrc hall e0 e1 e2 e3 e4 e5 e6 e7 e8 e9
      rw [ha]
      clear ha
      simp only [Act.put, List.setIfInBounds_toArray, List.set_cons_zero, List.set_cons_succ]
      go_wp2_with fail
      go_meet
      exact ⟨rfl, r2, av, cv, hr6, hq'⟩
  case rest =>
    obtain ⟨rfl, r2, av, cv, hr6, K7, E7, O7⟩ := hcut
    have KP := Keeps.of_but K7 Tb.st (by decide) (by decide)
    have R9 := Rb.keep KP
    have H9 := K7.blk Tb.st Hb (by decide)
    have B9 := K7.belowN Tb.B (Nat.le_refl _) Tb.sb0
    have sb1 := Tb.sb0
    have V9 := V.but K7 Tb.st (by decide) (by decide) (by decide)
    have hsl : (someL k ac r2).length = r2 := by simp [someL]
    have hsf : ∀ ys ∈ someL k ac r2, 1 ≤ ys.length ∧ ys.length ≤ 60000 ∧ ∀ y ∈ ys, 0 ≤ y ∧ y < 256 := fun ys hy => by
      obtain ⟨j, hj, rfl⟩ := List.mem_map.1 hy
      have := List.mem_range.1 hj
      rw [List.length_replicate]
      exact ⟨by omega, by omega, fun y hy => by obtain ⟨_, rfl⟩ := List.mem_replicate.1 hy; exact hcc⟩
    have M9 := RL.of_recs O7 hsf
    have hT := secR_some k ac r2 hk1 (by omega)
    clear K7 KP O7 V Tb Rb Hb y2 y3 hsf
    obtain ⟨recs, hrecs⟩ : ∃ l, Hid (someL k ac r2 = l) := ⟨_, rfl⟩
    rw [hrecs.out] at M9 E7 hsl hT
    rw [hsl] at M9 E7
    clear hrecs
    obtain ⟨s0, s1, s2, sf⟩ := story_cells E7
    go_wp2_with fail
    refine (lents_any M9 (by omega)).mono ?_
    rintro e w10 ⟨v10, rfl, RC10, B10⟩
    have V10 := V9.below B10
    have T9 : Tale w w.heap.size wc p bs bn lb S hs sb (i + 1) rs (.slice va vn vc) (.slice av r2 cv) := ⟨⟨G, left, life, hf, first, since, V9, by push_cast; omega, by push_cast; omega⟩, E7, B9, sb1⟩
    have T10 := T9.below (Nat.le_refl _) B10
    have R10 := R9.keep (Keeps.of_below B10)
    have M10 := M9.keep (Keeps.of_below B10)
    have H10 := (B10.block xb (lt_of_block H9)).trans H9
    have L10 := RL.of_recs RC10 M9.facts
    clear s0 s1 s2 sf T9 B10 V9 R9 M9 H9 B9 E7 RC10
    obtain ⟨xa, xc, rfl⟩ := L10.shape
    have S10 := L10.sll
    rw [hsl] at S10 ⊢
    go_wp2_with fail
    refine (rewrite_live V10 (by omega) (by omega) hhs.out (by omega) (by omega) S10.1 hsl (by omega) (by omega)).mono ?_
    rintro e w11 (⟨rfl, ⟨G', left', V11⟩, F11⟩ | ⟨rfl, rfl⟩ | ⟨rfl, DY, F11⟩)
    · have res : After w p bs bn S hs sb xb i (.cells #[.int .i64 3, .int .i64 an, .int .i64 ak, .int .u8 ac, .slice ka kl kc] 37) (.pointer (some ⟨lb, 0, none⟩)) (.int .i64 0) w11 :=
        ⟨F11.blk V10.D V10.L H10 (by decide) (by decide) (by decide), .inl ⟨rfl, lb, recs.map (fun ys => (life + 1, ys)), _, _, _, _, rfl, ⟨⟨G', left', _, _, _, _, V11, by push_cast; omega, by rw [List.length_map, hsl]; push_cast; omega⟩, F11.blk V10.D V10.L T10.st (by decide) (by decide) (by decide), T10.B.trans (F11.belowD V10.D V10.lb0), sb1⟩, by
          rw [List.map_map]
          have : ((fun x : Int × List Int => x.2) ∘ fun ys => (life + 1, ys)) = id := rfl
          rw [this, List.map_id]
          exact M10.keep (Keeps.of_fl F11 V10.D V10.L)⟩⟩
      clear V11 F11 T10 R10 M10 H10 L10 S10 V10
      go_wp2
      go_meet
      exact res
    · have res : After w p bs bn S hs sb xb i (.cells #[.int .i64 3, .int .i64 an, .int .i64 ak, .int .u8 ac, .slice ka kl kc] 37) (.pointer (some ⟨lb, 0, none⟩)) (.int .i64 4) w10 :=
        ⟨H10, .inr (.inl ⟨rfl, lb, rs, _, _, rfl, T10, R10⟩)⟩
      clear T10 R10 M10 H10 L10 S10 V10
      go_wp2
      go_meet
      exact res
    · have res : After w p bs bn S hs sb xb i (.cells #[.int .i64 3, .int .i64 an, .int .i64 ak, .int .u8 ac, .slice ka kl kc] 37) (.pointer (some ⟨lb, 0, none⟩)) (.int .i64 14) w11 :=
        ⟨F11.blk V10.D V10.L H10 (by decide) (by decide) (by decide), .inr (.inr ⟨rfl, rs, _, _, _, _, life, hf, first, since, DY, k1, k2, F11.blk V10.D V10.L T10.st (by decide) (by decide) (by decide), T10.B.trans (F11.belowD V10.D V10.lb0), sb1, R10.keep (Keeps.of_fl F11 V10.D V10.L)⟩)⟩
      clear DY F11 T10 R10 M10 H10 L10 S10 V10
      go_wp2
      go_meet
      exact res
set_option maxHeartbeats 80000000 in
theorem armC : skel.2.2.1 := by
  intro w S hS0 hS1 len cap hs hhs x1 w1 p bs bn q w2 w3 sb sb0 w4 x2 ra rc x3 hlb x4 x5 wr u4 u9 u10 u12 u13 u14 u15 u48 u49 u50 u51 u52 u53 u54 u55 u56 u57 u58 u59 u60 u61 u62 u63 u64 u65 u66 u67 u68 u69 u70 u71 u72 u73 u74 u75 u76 u77 u78 u79 u80 u81 u82 u83 u84 u85 u86 u87 u88 u89 u90 u91 u92 u93 u94 u95 u96 u97 u98 u99 u100 u101 u102 u103 u104 u105 u106 u107 u108 u109 u110 u111 u112 u113 u114 u115 u116 u117 u118 u119 u120 u121 u122 u123 u124 u125 u126 u127 u128 u129 u130 u131 u132 u133 u134 u135 u136 u137 u138 u139 u140 u141 u142 u143 u144 u145 u146 u147 u148 u149 u150 u151 u152 u153 u154 u155 u156 u157 u158 u159 u160 u161 u162 u163 u164 u165 u166 u167 u168 u169 u170 u171 u172 u173 u174 u175 u176 u177 u178 u179 u180 u181 u182 u183 u184 u185 u186 u187 u188 u189 u190 u191 u192 u193 u194 u195 u196 u197 u198 u199 u200 u201 u202 u203 u204 u205 u206 u207 u208 u209 u210 u211 u212 u213 u214 u215 u216 u217 u218 u219 u220 u221 i lb rs mv hi va vn vc h1 h2 g1 g2 ab ao kd an ak ac ka kl kc ks ha hab hact x6 x7 x8 x9 x10 x11 r k hwr hk0 hk1 wa xb x12 hz hsx x13 x14 wb Hb Tb Rb x15 x16 x17 x18 s0 s1 s2 sf y0 y2 y3 y4 act hcc G left life hf first since V k1 k2 f1 l1 kA kB kC
  clear y0
  subst kC
  go_wp2_with fail
  refine (count_any ak 12 (by decide) (by decide) _).mono ?_
  rintro e wq ⟨⟨r2, hr2, rfl⟩, rfl⟩
  have hw12 : IntKind.i64.wrap (1 + (r2 : Int)) = 1 + (r2 : Int) := by rw [IntKind.wrap_i64]; omega
  go_wp2_with fail
  refine (fail_any V.D (1 + (r2 : Int)) (by omega)).mono ?_
  rintro e w5 ⟨rfl, D5, F5⟩
  have V5 : Live w5 w.heap.size p bs bn lb S hs G (1 + (r2 : Int)) life hf first since rs := ⟨D5, F5.blk V.D V.L (by decide) (by decide), V.g, V.lb0, by omega, by omega⟩
  have res : After w p bs bn S hs sb xb i (.cells #[.int .i64 4, .int .i64 an, .int .i64 ak, .int .u8 ac, .slice ka kl kc] 37) (.pointer (some ⟨lb, 0, none⟩)) (.int .i64 0) w5 :=
    ⟨F5.blk V.D Hb (by decide) (by decide), .inl ⟨rfl, lb, rs, _, _, _, _, rfl, ⟨⟨G, _, life, hf, first, since, V5, by push_cast; omega, by push_cast; omega⟩, F5.blk V.D Tb.st (by decide) (by decide), Tb.B.trans (F5.below V.D), Tb.sb0⟩, Rb.keep (Keeps.of_fr F5 V.D)⟩⟩
  clear V5 D5 F5
  go_wp2
  go_meet
  exact res
set_option maxHeartbeats 80000000 in
theorem armD : skel.2.2.2.1 := by
  intro w S hS0 hS1 len cap hs hhs x1 w1 p bs bn q w2 w3 sb sb0 w4 x2 ra rc x3 hlb x4 x5 wr u4 u9 u10 u12 u13 u14 u15 u48 u49 u50 u51 u52 u53 u54 u55 u56 u57 u58 u59 u60 u61 u62 u63 u64 u65 u66 u67 u68 u69 u70 u71 u72 u73 u74 u75 u76 u77 u78 u79 u80 u81 u82 u83 u84 u85 u86 u87 u88 u89 u90 u91 u92 u93 u94 u95 u96 u97 u98 u99 u100 u101 u102 u103 u104 u105 u106 u107 u108 u109 u110 u111 u112 u113 u114 u115 u116 u117 u118 u119 u120 u121 u122 u123 u124 u125 u126 u127 u128 u129 u130 u131 u132 u133 u134 u135 u136 u137 u138 u139 u140 u141 u142 u143 u144 u145 u146 u147 u148 u149 u150 u151 u152 u153 u154 u155 u156 u157 u158 u159 u160 u161 u162 u163 u164 u165 u166 u167 u168 u169 u170 u171 u172 u173 u174 u175 u176 u177 u178 u179 u180 u181 u182 u183 u184 u185 u186 u187 u188 u189 u190 u191 u192 u193 u194 u195 u196 u197 u198 u199 u200 u201 u202 u203 u204 u205 u206 u207 u208 u209 u210 u211 u212 u213 u214 u215 u216 u217 u218 u219 u220 u221 i lb rs mv hi va vn vc h1 h2 g1 g2 ab ao kd an ak ac ka kl kc ks ha hab hact x6 x7 x8 x9 x10 x11 r k hwr hk0 hk1 wa xb x12 hz hsx x13 x14 wb Hb Tb Rb x15 x16 x17 x18 s0 s1 s2 sf y0 y2 y3 y4 act hcc G left life hf first since V k1 k2 f1 l1 kA kB kC b0 b1 b2 b3 b4
  go_wp2_with fail
  refine (Crash_long V.D (fun _ => rfl) ka kl kc ks act.hk act.hl (by decide) (fun b off e h0 => by
    have hb := hact.hb b off e h0
    have h1 := V.D.fromP
    have h2 := V.D.fromS
    have h3 := V.D.fromN
    exact ⟨by omega, by omega, by omega, fun e => by cases e⟩)).mono ?_
  rintro e w5 ⟨rfl, D5, F5⟩
  have E5 : w5.heap[sb]? = some (storyO p (.slice va vn vc) (.slice va vn vc)) := F5.blk V.D Tb.st (by decide) (by decide)
  have R5 := Rb.keep (Keeps.of_fr F5 V.D)
  have B5 := Tb.B.trans (F5.below V.D)
  have H5 := F5.blk V.D Hb (by decide) (by decide)
  have g5 := V.g
  have sb1 := Tb.sb0
  obtain ⟨u0, u1, u2, uf⟩ := story_cells E5
  clear y0 y2 y3 y4 act Tb Rb Hb V F5 s0 s1 s2 sf
  have D5' : Dev (w5.setCell ⟨sb, 2, none⟩ (.slice none 0 0)) w.heap.size p bs bn (.slice none 0 0) (S : Int) G G [] 0 false := D5.but (But.refl sb w5).set (D5.apart E5 (by decide) (by decide))
  have E5' := story_may E5 (.slice none 0 0)
  have R5' := R5.keep (Keeps.set (i := 2) (x := .slice none 0 0) E5 (by decide) (by decide))
  have B5' := below_set (j := 2) (x := .slice none 0 0) B5 sb1
  have H5' := (heap_setCell_other w5 ⟨sb, 2, none⟩ xb (.slice none 0 0) (Ne.symm hsx)).trans H5
  go_wp2_with fail
  generalize w5.setCell ⟨sb, 2, none⟩ (.slice none 0 0) = w8 at *
  clear D5 E5 R5 B5 H5 u0 u1 u2 uf
  refine (open_live D5' g5 (by omega) (by omega) hhs.out (by omega) (by omega)).mono ?_
  rintro e w6 ⟨lb6, v6, G6, rfl, hlb6, V6, RC6, F6⟩
  have E6 : w6.heap[sb]? = some (storyO p (.slice va vn vc) (.slice none 0 0)) := F6.blk D5' E5' (by decide) (by decide)
  have R6 := R5'.keep (Keeps.of_fr F6 D5')
  have B6 := B5'.trans (F6.below D5')
  have H6 := F6.blk D5' H5' (by decide) (by decide)
  have Q6 := RL.of_recs RC6 R6.facts
  clear D5' F6 E5' B5' R5' RC6 H5'
  obtain ⟨xa, xn, xc, rfl⟩ : ∃ a n c, v6 = .slice a n c := by
    obtain ⟨a, c, e⟩ := Q6.shape
    exact ⟨_, _, _, e⟩
  obtain ⟨s0, s1, s2, sf⟩ := story_cells E6
  go_wp2_with fail
  refine (same_true Q6 R6 (by rw [List.length_map]; omega)).mono ?_
  rintro e w7 ⟨rfl, B7⟩
  have T7 : Tale w w.heap.size w6 p bs bn lb6 S hs sb (i + 1) rs (.slice va vn vc) (.slice none 0 0) := ⟨⟨G6, 0, life + 1, hf, first, since, V6, by push_cast; omega, by push_cast; omega⟩, E6, B6, sb1⟩
  have T8 := T7.below (Nat.le_refl _) B7
  have R8 := R6.keep (Keeps.of_below B7)
  have H8 := (B7.block xb (lt_of_block H6)).trans H6
  obtain ⟨z0, z1, z2, zf⟩ := story_cells T8.st
  have fin2 := T8.mayS R8 (.slice va vn vc) (Nat.le_refl _)
  have res : After w p bs bn S hs sb xb i (.cells #[.int .i64 kd, .int .i64 an, .int .i64 ak, .int .u8 ac, .slice ka kl kc] 37) (.pointer (some ⟨lb6, 0, none⟩)) (.int .i64 0) (w7.setCell ⟨sb, 2, none⟩ (.slice va vn vc)) :=
    ⟨(heap_setCell_other w7 ⟨sb, 2, none⟩ xb (.slice va vn vc) (Ne.symm hsx)).trans H8, .inl ⟨rfl, lb6, rs, _, _, _, _, rfl, fin2.1, fin2.2⟩⟩
  clear s0 s1 s2 sf T7 Q6 R6 B6 E6 V6 B7 fin2 T8 R8 H8 H6
  go_wp2
  go_meet
  exact res
set_option maxHeartbeats 80000000 in
theorem armR : skel.2.2.2.2.1 := by
  intro w S hS0 hS1 len cap hs hhs x1 w1 p bs bn q w2 w3 sb sb0 w4 x2 ra rc G hlb x3 x4 wr x5 x6 x7 u12 u13 x8 x9 x10 x11 x12 x13 x14 x15 x16 x17 x18 x19 x20 x21 x22 x23 x24 x25 x26 x27 x28 x29 x30 x31 x32 x33 x34 x35 x36 x37 x38 x39 x40 x41 x42 x43 x44 x45 x46 x47 x48 x49 x50 x51 x52 x53 x54 x55 x56 x57 x58 x59 x60 x61 x62 x63 x64 x65 x66 x67 x68 x69 x70 x71 x72 x73 x74 x75 x76 x77 x78 x79 x80 x81 x82 x83 x84 x85 x86 x87 x88 x89 x90 x91 x92 x93 x94 x95 x96 x97 x98 x99 x100 x101 x102 x103 x104 x105 x106 x107 x108 x109 x110 x111 x112 x113 x114 x115 x116 x117 x118 x119 x120 x121 x122 x123 x124 x125 x126 x127 x128 x129 x130 x131 x132 x133 x134 x135 x136 x137 x138 x139 x140 x141 x142 x143 x144 x145 x146 x147 x148 x149 x150 x151 x152 x153 x154 x155 x156 x157 x158 x159 x160 x161 x162 x163 x164 x165 x166 x167 x168 x169 x170 x171 x172 x173 x174 x175 x176 x177 x178 x179 x180 x181 x182 x183 i lb rs mv hi va vn vc h1 h2 g1 g2 ab ao kd an ak ac ka kl kc ks ha hab hact x184 x185 x186 x187 x188 x189 r k hwr hk0 hk1 wa xb x190 hz hsx x191 x192 wb Hb Tb Rb wc u4 u8 u9 u10 u14 u15 u48 u49 u50 u51 u52 u53 u54 u55 u56 u57 u58 u59 u60 u61 u62 u63 u64 u65 u66 u67 u68 u69 u70 u71 u72 u73 u74 u75 u76 u77 u78 u79 u80 u81 u82 u83 u84 u85 u86 u87 u88 u89 u90 u91 u92 u93 u94 u95 u96 u97 u98 u99 u100 u101 u102 u103 u104 u105 u106 u107 u108 u109 u110 u111 u112 u113 u114 u115 u116 u117 u118 u119 u120 u121 u122 u123 u124 u125 u126 u127 u128 u129 u130 u131 u132 u133 u134 u135 u136 u137 u138 u139 u140 u141 u142 u143 u144 u145 u146 u147 u148 u149 u150 u151 u152 u153 u154 u155 u156 u157 u158 u159 u160 u161 u162 u163 u164 u165 u166 u167 u168 u169 u170 u171 u172 u173 u174 u175 u176 u177 u178 u179 u180 u181 u182 u183 u184 u185 u186 u187 u188 u189 u190 u191 u192 u193 u194 u195 u196 u197 u198 u199 u200 u201 u202 u203 u204 u205 u206 u207 u208 u209 u210 u211 u212 u213 u214 u215 u216 u217 u218 u219 u220 u221 hcut
  clear Tb Rb Hb
  obtain ⟨Hx, hc⟩ := hcut
  rcases hc with ⟨rfl, lb', rs', sv', a', n', c', rfl, Tc, Rc⟩ | ⟨rfl, lb', rs', sv', mv', rfl, Tc, Rc⟩ | ⟨rfl, rs', a', n', c', mv', life, hf, first, since, DY, k1, k2, Es, Bx, sx, Rc⟩
  · obtain ⟨s0, s1, s2, sf⟩ := story_cells Tc.st
    have fin2 := Tc.sureS Rc (Nat.le_refl _)
    have hw1 : IntKind.i64.wrap ((i : Int) + 1) = (i : Int) + 1 := by rw [IntKind.wrap_i64]; omega
    go_wp2
    go_roundw
    case rel => exact ⟨i + 1, lb', rs', _, _, by omega, by push_cast; rfl, rfl, fin2.1, fin2.2⟩
    case measure => simp [intOf]; omega
  · have hw1 : IntKind.i64.wrap ((i : Int) + 1) = (i : Int) + 1 := by rw [IntKind.wrap_i64]; omega
    go_wp2
    go_roundw
    case rel => exact ⟨i + 1, lb', rs', _, _, by omega, by push_cast; rfl, rfl, Tc, Rc⟩
    case measure => simp [intOf]; omega
  · have y4 : wc.cell? ⟨xb, 4, none⟩ = some (.slice ka kl kc) := by rw [cell_of_row _ xb _ _ _ _ Hx]; rfl
    have act := hact.below hab Bx
    obtain ⟨pv, G0, G1, L, D, hI, hL, hG⟩ := DY.D
    have Db := D.base
    go_wp2_with fail
    refine (Crash_long D hI ka kl kc ks act.hk act.hl (by omega) (fun b off e h0 => by
      have hb := hact.hb b off e h0
      have h1 := D.fromP
      have h2 := D.fromS
      have h3 := D.fromN
      exact ⟨by omega, by omega, by omega, fun e => by have := (own_block D.pend e).1; omega⟩)).mono ?_
    rintro e w5 ⟨rfl, D5, F5⟩
    have E5 : w5.heap[sb]? = some (storyO p (.slice a' n' c') mv') := F5.blk D Es (by decide) (by decide)
    have R5 := Rc.keep (Keeps.of_fr F5 D)
    have B5 := Bx.trans (F5.below D)
    clear D DY F5 Es Bx Rc Hx y4 act hI
    go_wp2_with fail
    refine (open_live D5 (hG ks) (by omega) (by omega) hhs.out (by omega) (by omega)).mono ?_
    rintro e w6 ⟨lb6, v6, G6, rfl, hlb6, V6, RC6, F6⟩
    have E6 : w6.heap[sb]? = some (storyO p (.slice a' n' c') mv') := F6.blk D5 E5 (by decide) (by decide)
    have R6 := R5.keep (Keeps.of_fr F6 D5)
    have B6 := B5.trans (F6.below D5)
    have Q6 := RL.of_recs RC6 R6.facts
    clear D5 F6 E5 B5 R5 RC6 hG
    obtain ⟨xa, xn, xc, rfl⟩ : ∃ a n c, v6 = .slice a n c := by
      obtain ⟨a, c, e⟩ := Q6.shape
      exact ⟨_, _, _, e⟩
    obtain ⟨s0, s1, s2, sf⟩ := story_cells E6
    have f1 := V6.g.f1
    go_wp2_with fail
    refine (same_true Q6 R6 (by rw [List.length_map]; omega)).mono ?_
    rintro e w7 ⟨rfl, B7⟩
    have T7 : Tale w w.heap.size w6 p bs bn lb6 S hs sb (i + 1) rs' (.slice a' n' c') mv' := ⟨⟨G6, 0, life + 1, hf, first, since, V6, by push_cast; omega, by push_cast; omega⟩, E6, B6, sx⟩
    have T8 := T7.below (Nat.le_refl _) B7
    have Q8 := Q6.keep (Keeps.of_below B7)
    obtain ⟨z0, z1, z2, zf⟩ := story_cells T8.st
    have fin2 := T8.sureS Q8 (Nat.le_refl _)
    clear s0 s1 s2 sf T7 Q6 R6 B6 E6 V6 B7
    have hw1 : IntKind.i64.wrap ((i : Int) + 1) = (i : Int) + 1 := by rw [IntKind.wrap_i64]; omega
    go_wp2
    go_roundw
    case rel => exact ⟨i + 1, lb6, rs', _, _, by omega, by push_cast; rfl, rfl, fin2.1, fin2.2⟩
    case measure => simp [intOf]; omega
theorem play_any (w : World) (S : Nat) (hS0 : 8 ≤ S) (hS1 : S ≤ 100) (sa : Option Addr) (len cap : Nat) (ha : ActsR w sa len) : Calls Try.prog 41 #[.int .i64 (S : Int), .slice sa len cap] w fun e w' => Played w S e w' := skel.2.2.2.2.2 ⟨armA⟩ ⟨armB⟩ ⟨armC⟩ ⟨armD⟩ ⟨armR⟩ w S hS0 hS1 sa len cap ha
end Go.Proofs.Ytofgphiamllmdab
