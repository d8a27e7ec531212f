/- TreeParses, TreeMethods: the laws' walks. -/
import Derived.Test.YtncfmhlikmibaaaGreatDoorDtk
import Derived.Test.YtncfmhlikmibaaaGreatDoorKno
namespace Go.Proofs.YtncfmhlikmibaaaGreatDoor
open Go.RowKit
set_option maxRecDepth 100000
set_option maxHeartbeats 16000000
def dsaqV (y : Nd) (q3 q4 k kl kb ko kc kb2 ko2 kc2 : Nat) (sa ta sa2 ta2 : Option Addr) (sc tc sc2 tc2 : Nat) (j : Nat) : Value :=
 ([.pointer (some ⟨q3, 5, none⟩),
  .slice (some ⟨kb, ko, none⟩) kl kc,
  .int .i64 (k : Int),
  .pointer (some ⟨kb, ko + k * 6, none⟩),
  .agg #[.int .i64 y.kind, .string (strOfNums y.text), .int .i64 (y.pos : Int), .int .i64 (y.n : Int), .slice sa y.names.length sc, .slice ta y.kids.length tc],
  .pointer (some ⟨q4, 5, none⟩),
  .slice (some ⟨kb2, ko2, none⟩) kl kc2,
  .int .i64 (k : Int),
  .pointer (some ⟨kb2, ko2 + k * 6, none⟩),
  .agg #[.int .i64 y.kind, .string (strOfNums y.text), .int .i64 (y.pos : Int), .int .i64 (y.n : Int), .slice sa2 y.names.length sc2, .slice ta2 y.kids.length tc2],
  .bool true,
  .bool true,
  .bool false] : List Value).getD j undef
theorem same_at (n : Nd) (IH : ∀ y ∈ n.kids, ∀ (w : World) (A A' : Nat → Prop) (v u : Value), NdV A w y v → NdV A' w y u → Calls Tryz.prog 10 #[v, u, .bool true] w fun e w' => e = .returned (.bool true) ∧ Below w.heap.size w w') (w : World) (A A' : Nat → Prop) (v u : Value) (hv : NdV A w n v) (hu : NdV A' w n u) :
  Calls Tryz.prog 10 #[v, u, .bool true] w fun e w' => e = .returned (.bool true) ∧ Below w.heap.size w w' := by
 obtain ⟨na, nc, ka, kc, fl, rfl, sn, sk, kf, bn, bk, bt⟩ := NdV.parts hv
 obtain ⟨na2, nc2, ka2, kc2, fl2, rfl, sn2, sk2, kf2, _⟩ := NdV.parts hu
 go_enter Tryz.func10, Tryz.ntmps10
 go_wp2_with (refine bx31 _ rfl _ rfl _ _ _ _ _ _ _ _ _ _ rfl ?_)
 intro q3 wa Ea hq3 Ba
 have hla := lt_of_block Ea
 have hsa := Ba.size
 go_wp2_with (refine bx31 _ rfl _ rfl _ _ _ _ _ _ _ _ _ _ rfl ?_)
 intro q4 wb Eb hq4 Bb
 have Da : Below w.heap.size w wb := Ba.trans (Bb.mono hsa)
 replace Ea := (Bb.block q3 hla).trans Ea
 have hsb := Bb.size
 have hlb := lt_of_block Eb
 clear Ba Bb
 obtain ⟨y0, y1, y2, y3, y4, y5, _⟩ := Zac Ea
 obtain ⟨z0, z1, z2, z3, z4, z5, _⟩ := Zac Eb
 have b1 : (n.kind != n.kind) = false := bne_self_eq_false _
 have b2 : ((n.pos : Int) != (n.pos : Int)) = false := bne_self_eq_false _
 have b3 : ((n.n : Int) != (n.n : Int)) = false := bne_self_eq_false _
 have b4 : ((n.names.length : Int) != (n.names.length : Int)) = false := bne_self_eq_false _
 have b5 : ((n.kids.length : Int) != (n.kids.length : Int)) = false := bne_self_eq_false _
 go_upto_region 3 with fail
 have sn0 : SlF A wb na n.names.length nc (n.names.map Zcr) := sn.imp (fun b hb hA => ⟨hA, Da.block b hb⟩)
 have sm0 : SlF A' wb na2 n.names.length nc2 (n.names.map Zcr) := sn2.imp (fun b hb hA => ⟨hA, Da.block b hb⟩)
 have sk0 : SlF A wb ka n.kids.length kc fl := sk.imp (fun b hb hA => ⟨hA, Da.block b hb⟩)
 have sl0 : SlF A' wb ka2 n.kids.length kc2 fl2 := sk2.imp (fun b hb hA => ⟨hA, Da.block b hb⟩)
 have kf0 : KsF A wb n.kids fl := KsF.imp (fun b hb hA => ⟨hA, Da.block b hb⟩) _ _ kf
 have kg0 : KsF A' wb n.kids fl2 := KsF.imp (fun b hb hA => ⟨hA, Da.block b hb⟩) _ _ kf2
 clear y0 y1 y2 y3 y4 y5 z0 z1 z2 z3 z4 z5 b1 b2 b3 b4 b5 sn sn2 sk sk2 kf kf2
 go_wp2
 go_loopw [7] (fun iv wr => ∃ k : Nat, k ≤ n.names.length ∧ iv = .int .i64 (k : Int) ∧ Below wb.heap.size wb wr) (fun iv _ => n.names.length - (intOf iv).toNat)
 case atStart => exact ⟨0, Nat.zero_le _, rfl, Below.refl _ _⟩
 obtain ⟨k, hk0, rfl, Dw⟩ := hrel
 have hsr := Dw.size
 have E3r : wr.heap[q3]? = _ := (Dw.block q3 (by omega)).trans Ea
 have E4r : wr.heap[q4]? = _ := (Dw.block q4 (by omega)).trans Eb
 by_cases hk : k < n.names.length
 ·obtain ⟨y0, y1, y2, y3, y4, y5, _⟩ := Zac E3r
  obtain ⟨z0, z1, z2, z3, z4, z5, _⟩ := Zac E4r
  obtain ⟨t, hget⟩ : ∃ t, (n.names.map Zcr)[k]? = some (.string (strOfNums t)) := ⟨n.names[k], by rw [List.getElem?_map, List.getElem?_eq_getElem hk]; rfl⟩
  have hlm : (n.names.map Zcr).length = n.names.length := by simp
  obtain ⟨b1, o1, rfl, _, hc1⟩ := (sn0.imp (A' := A) (fun b hb hA => ⟨hA, Dw.block b hb⟩)).cells (by omega)
  obtain ⟨b2, o2, rfl, _, hc2⟩ := (sm0.imp (A' := A') (fun b hb hA => ⟨hA, Dw.block b hb⟩)).cells (by omega)
  have c1 := hc1 _ _ hget
  have c2 := hc2 _ _ hget
  have hix : (0 : Int) ≤ (k : Int) := by omega
  have hix2 : ((k : Int)).toNat = k := by omega
  have hix3 : (k : Int) < (n.names.length : Int) := by omega
  clear hc1 hc2 hget hlm
  go_wp2_with fail
  go_region
  go_wp2
  go_roundw
  case rel => exact ⟨k + 1, hk, by go_num, Dw.drew⟩
  case measure => simp [intOf]; omega
 have hki : ¬ (k : Int) < (n.names.length : Int) := by omega
 obtain ⟨y0, y1, y2, y3, y4, y5, _⟩ := Zac E3r
 go_wp2_with fail
 clear y0 y1 y2 y3 y4 y5 E3r E4r hki hk hk0 hsr
 generalize wr = wm at *
 go_loopw [8] (fun iv wr => ∃ k : Nat, k ≤ n.kids.length ∧ iv = .int .i64 (k : Int) ∧ Below wb.heap.size wb wr) (fun iv _ => n.kids.length - (intOf iv).toNat)
 case atStart => exact ⟨0, Nat.zero_le _, rfl, Dw⟩
 clear Dw
 obtain ⟨k, hk0, rfl, Dw⟩ := hrel
 have hsr := Dw.size
 have E3r : wr.heap[q3]? = _ := (Dw.block q3 (by omega)).trans Ea
 have E4r : wr.heap[q4]? = _ := (Dw.block q4 (by omega)).trans Eb
 obtain ⟨y0, y1, y2, y3, y4, y5, _⟩ := Zac E3r
 obtain ⟨z0, z1, z2, z3, z4, z5, _⟩ := Zac E4r
 by_cases hk : k < n.kids.length
 ·have hki : (k : Int) < (n.kids.length : Int) := by omega
  have skr := sk0.imp (A' := A) (fun b hb hA => ⟨hA, Dw.block b hb⟩)
  have slr := sl0.imp (A' := A') (fun b hb hA => ⟨hA, Dw.block b hb⟩)
  have kfr := KsF.imp (A' := A) (fun b hb hA => ⟨hA, Dw.block b hb⟩) _ _ kf0
  have kgr := KsF.imp (A' := A') (fun b hb hA => ⟨hA, Dw.block b hb⟩) _ _ kg0
  obtain ⟨y, hget⟩ : ∃ y, n.kids[k]? = some y := ⟨_, List.getElem?_eq_getElem hk⟩
  have hmem : y ∈ n.kids := List.mem_of_getElem? hget
  obtain ⟨v0, v1, v2, v3, v4, v5, hN, hf0, hf1, hf2, hf3, hf4, hf5⟩ := kfr.at_ k y hget
  obtain ⟨u0, u1, u2, u3, u4, u5, hM, hg0, hg1, hg2, hg3, hg4, hg5⟩ := kgr.at_ k y hget
  obtain ⟨kb, ko, rfl, _, hc1⟩ := skr.cells (by have := kfr.len; omega)
  obtain ⟨kb2, ko2, rfl, _, hc2⟩ := slr.cells (by have := kgr.len; omega)
  obtain ⟨sa, sc, ta, tc, _, eP, _⟩ := NdV.parts hN
  simp only [Value.agg.injEq, Array.mk.injEq, List.cons.injEq, and_true] at eP
  obtain ⟨rfl, rfl, rfl, rfl, rfl, rfl⟩ := eP
  obtain ⟨sa2, sc2, ta2, tc2, _, eP, _⟩ := NdV.parts hM
  simp only [Value.agg.injEq, Array.mk.injEq, List.cons.injEq, and_true] at eP
  obtain ⟨rfl, rfl, rfl, rfl, rfl, rfl⟩ := eP
  have ha0' := hc1 _ _ hf0
  have ha1' := hc1 _ _ hf1
  have ha2' := hc1 _ _ hf2
  have ha3' := hc1 _ _ hf3
  have ha4' := hc1 _ _ hf4
  have ha5' := hc1 _ _ hf5
  simp only [← Nat.add_assoc] at ha0' ha1' ha2' ha3' ha4' ha5'
  have ha0 : wr.drew.cell? ⟨kb, ko + k * 6, none⟩ = _ := ha0'
  have ha1 : wr.drew.cell? ⟨kb, ko + k * 6 + 1, none⟩ = _ := ha1'
  have ha2 : wr.drew.cell? ⟨kb, ko + k * 6 + 2, none⟩ = _ := ha2'
  have ha3 : wr.drew.cell? ⟨kb, ko + k * 6 + 3, none⟩ = _ := ha3'
  have ha4 : wr.drew.cell? ⟨kb, ko + k * 6 + 4, none⟩ = _ := ha4'
  have ha5 : wr.drew.cell? ⟨kb, ko + k * 6 + 5, none⟩ = _ := ha5'
  clear ha0' ha1' ha2' ha3' ha4' ha5' hf0 hf1 hf2 hf3 hf4 hf5
  have hb0' := hc2 _ _ hg0
  have hb1' := hc2 _ _ hg1
  have hb2' := hc2 _ _ hg2
  have hb3' := hc2 _ _ hg3
  have hb4' := hc2 _ _ hg4
  have hb5' := hc2 _ _ hg5
  simp only [← Nat.add_assoc] at hb0' hb1' hb2' hb3' hb4' hb5'
  have hb0 : wr.drew.cell? ⟨kb2, ko2 + k * 6, none⟩ = _ := hb0'
  have hb1 : wr.drew.cell? ⟨kb2, ko2 + k * 6 + 1, none⟩ = _ := hb1'
  have hb2 : wr.drew.cell? ⟨kb2, ko2 + k * 6 + 2, none⟩ = _ := hb2'
  have hb3 : wr.drew.cell? ⟨kb2, ko2 + k * 6 + 3, none⟩ = _ := hb3'
  have hb4 : wr.drew.cell? ⟨kb2, ko2 + k * 6 + 4, none⟩ = _ := hb4'
  have hb5 : wr.drew.cell? ⟨kb2, ko2 + k * 6 + 5, none⟩ = _ := hb5'
  clear hb0' hb1' hb2' hb3' hb4' hb5' hg0 hg1 hg2 hg3 hg4 hg5
  have HT : ∀ w', w' = wr.drew → Calls Tryz.prog 10 #[.agg #[.int .i64 y.kind, .string (strOfNums y.text), .int .i64 (y.pos : Int), .int .i64 (y.n : Int), .slice sa y.names.length sc, .slice ta y.kids.length tc], .agg #[.int .i64 y.kind, .string (strOfNums y.text), .int .i64 (y.pos : Int), .int .i64 (y.n : Int), .slice sa2 y.names.length sc2, .slice ta2 y.kids.length tc2], .bool true] w' fun e w'' => e = .returned (.bool true) ∧ Below w'.heap.size w' w'' := by
   rintro _ rfl
   exact IH y hmem wr.drew _ _ _ _ (NdV.imp (w := wr) (w' := wr.drew) (A := A) (A' := A) (fun b _ hA => ⟨hA, rfl⟩) _ _ hN) (NdV.imp (w := wr) (w' := wr.drew) (A := A') (A' := A') (fun b _ hA => ⟨hA, rfl⟩) _ _ hM)
  have y5d : wr.drew.cell? ⟨q3, 5, none⟩ = _ := y5
  have z5d : wr.drew.cell? ⟨q4, 5, none⟩ = _ := z5
  have hix : (0 : Int) ≤ (k : Int) := by omega
  have hix2 : ((k : Int)).toNat = k := by omega
  have hix3 : (k : Int) < (n.kids.length : Int) := hki
  obtain ⟨kl, hkl⟩ : ∃ kl, Hid (n.kids.length = kl) := ⟨_, rfl⟩
  rw [hkl.out] at y5d z5d hix3
  clear hc1 hc2 skr slr kfr kgr y0 y1 y2 y3 y4 z0 z1 z2 z3 z4
  go_wp2_with fail
  refine Zah fun A hA => ?_
  have hsz : A.tmps.size = 94 := by rw [hA]; rfl
  have s2 : A.tmps[2]? = some (.bool true) := by rw [hA]; rfl
  have s3 : A.tmps[3]? = some (.pointer (some ⟨q3, 0, none⟩)) := by rw [hA]; rfl
  have s4 : A.tmps[4]? = some (.pointer (some ⟨q4, 0, none⟩)) := by rw [hA]; rfl
  have s8 : A.tmps[8]? = some (.int .i64 (k : Int)) := by rw [hA]; rfl
  refine zR1 (fun A D a w' => ∃ (l : List Value), a = Zaj A 81 l ∧ l.length = 13 ∧ (∀ j, j < 13 → D j → l[j]? = some (dsaqV y q3 q4 k kl kb ko kc kb2 ko2 kc2 sa ta sa2 ta2 sc tc sc2 tc2 j)) ∧ (D 11 ∨ w' = wr.drew) ∧ (D 11 → Below wr.heap.size wr w')) ?start ?step ?done
  case start => exact ⟨_, zS 81 13 hsz, zG 81 13 hsz, zK, .inr (rfl), zf⟩
  case step =>
   clear hA
   intro i o ho D a w' hI hn hcl hd
   obtain ⟨l, ha, Lh, hl, hN, hL⟩ := hI
   match i, ho with
   | 0, ho =>
    cases zq ho
    have ev : a.tmps[3]? = some (.pointer (some ⟨q3, 0, none⟩)) := zu 3 ha Lh hsz s3
    exact zx (.pointer (some ⟨q3, 5, none⟩)) (by simp [execOp, ev, go_sem]) ⟨_, zp 0 ha Lh hsz, zh Lh, zk Lh hl, zl hN, zr hL⟩
   | 1, ho =>
    cases zq ho
    have ev : a.tmps[81]? = some (.pointer (some ⟨q3, 5, none⟩)) := zv ha hsz Lh hl 0 hd
    have eN := hN.resolve_left (fun h => hn (zc hcl 3 1 rfl (zc hcl 4 3 rfl (zc hcl 11 4 rfl h))))
    have zz := y5d
    rw [← eN] at zz
    exact zx (.slice (some ⟨kb, ko, none⟩) kl kc) (by simp [execOp, ev, go_sem, zz]) ⟨_, zp 1 ha Lh hsz, zh Lh, zk Lh hl, zl hN, zr hL⟩
   | 2, ho =>
    cases zq ho
    have ev : a.tmps[8]? = some (.int .i64 (k : Int)) := zu 8 ha Lh hsz s8
    exact zx (.int .i64 (k : Int)) (by simp [execOp, ev, go_sem]) ⟨_, zp 2 ha Lh hsz, zh Lh, zk Lh hl, zl hN, zr hL⟩
   | 3, ho =>
    cases zq ho
    have ev : a.tmps[82]? = some (.slice (some ⟨kb, ko, none⟩) kl kc) := zv ha hsz Lh hl 1 hd
    have ev' : a.tmps[83]? = some (.int .i64 (k : Int)) := zv ha hsz Lh hl 2 hd
    refine Zba (w' := w') (v := .pointer (some ⟨kb, ko + k * 6, none⟩)) ?_ ?_
    ·simp [execOp, ev, ev', go_sem, hix, hix2, Za7]
     intro hh
     exact absurd hh (by omega)
    exact ⟨_, zp 3 ha Lh hsz, zh Lh, zk Lh hl, zl hN, zr hL⟩
   | 4, ho =>
    cases zq ho
    have ev : a.tmps[84]? = some (.pointer (some ⟨kb, ko + k * 6, none⟩)) := zv ha hsz Lh hl 3 hd
    have eN := hN.resolve_left (fun h => hn (zc hcl 11 4 rfl h))
    have x0 := ha0
    have x1 := ha1
    have x2 := ha2
    have x3 := ha3
    have x4 := ha4
    have x5 := ha5
    rw [← eN] at x0 x1 x2 x3 x4 x5
    exact zx (.agg #[.int .i64 y.kind, .string (strOfNums y.text), .int .i64 (y.pos : Int), .int .i64 (y.n : Int), .slice sa y.names.length sc, .slice ta y.kids.length tc]) (by simp [execOp, ev, go_sem, x0, x1, x2, x3, x4, x5, Za7]) ⟨_, zp 4 ha Lh hsz, zh Lh, zk Lh hl, zl hN, zr hL⟩
   | 5, ho =>
    cases zq ho
    have ev : a.tmps[4]? = some (.pointer (some ⟨q4, 0, none⟩)) := zu 4 ha Lh hsz s4
    exact zx (.pointer (some ⟨q4, 5, none⟩)) (by simp [execOp, ev, go_sem]) ⟨_, zp 5 ha Lh hsz, zh Lh, zk Lh hl, zl hN, zr hL⟩
   | 6, ho =>
    cases zq ho
    have ev : a.tmps[86]? = some (.pointer (some ⟨q4, 5, none⟩)) := zv ha hsz Lh hl 5 hd
    have eN := hN.resolve_left (fun h => hn (zc hcl 8 6 rfl (zc hcl 9 8 rfl (zc hcl 11 9 rfl h))))
    have zz := z5d
    rw [← eN] at zz
    exact zx (.slice (some ⟨kb2, ko2, none⟩) kl kc2) (by simp [execOp, ev, go_sem, zz]) ⟨_, zp 6 ha Lh hsz, zh Lh, zk Lh hl, zl hN, zr hL⟩
   | 7, ho =>
    cases zq ho
    have ev : a.tmps[8]? = some (.int .i64 (k : Int)) := zu 8 ha Lh hsz s8
    exact zx (.int .i64 (k : Int)) (by simp [execOp, ev, go_sem]) ⟨_, zp 7 ha Lh hsz, zh Lh, zk Lh hl, zl hN, zr hL⟩
   | 8, ho =>
    cases zq ho
    have ev : a.tmps[87]? = some (.slice (some ⟨kb2, ko2, none⟩) kl kc2) := zv ha hsz Lh hl 6 hd
    have ev' : a.tmps[88]? = some (.int .i64 (k : Int)) := zv ha hsz Lh hl 7 hd
    refine Zba (w' := w') (v := .pointer (some ⟨kb2, ko2 + k * 6, none⟩)) ?_ ?_
    ·simp [execOp, ev, ev', go_sem, hix, hix2, Za7]
     intro hh
     exact absurd hh (by omega)
    exact ⟨_, zp 8 ha Lh hsz, zh Lh, zk Lh hl, zl hN, zr hL⟩
   | 9, ho =>
    cases zq ho
    have ev : a.tmps[89]? = some (.pointer (some ⟨kb2, ko2 + k * 6, none⟩)) := zv ha hsz Lh hl 8 hd
    have eN := hN.resolve_left (fun h => hn (zc hcl 11 9 rfl h))
    have x0 := hb0
    have x1 := hb1
    have x2 := hb2
    have x3 := hb3
    have x4 := hb4
    have x5 := hb5
    rw [← eN] at x0 x1 x2 x3 x4 x5
    exact zx (.agg #[.int .i64 y.kind, .string (strOfNums y.text), .int .i64 (y.pos : Int), .int .i64 (y.n : Int), .slice sa2 y.names.length sc2, .slice ta2 y.kids.length tc2]) (by simp [execOp, ev, go_sem, x0, x1, x2, x3, x4, x5, Za7]) ⟨_, zp 9 ha Lh hsz, zh Lh, zk Lh hl, zl hN, zr hL⟩
   | 10, ho =>
    cases zq ho
    have ev : a.tmps[2]? = some (.bool true) := zu 2 ha Lh hsz s2
    exact zx (.bool true) (by simp [execOp, ev, go_sem]) ⟨_, zp 10 ha Lh hsz, zh Lh, zk Lh hl, zl hN, zr hL⟩
   | 11, ho =>
    cases zq ho
    have ev : a.tmps[85]? = some (.agg #[.int .i64 y.kind, .string (strOfNums y.text), .int .i64 (y.pos : Int), .int .i64 (y.n : Int), .slice sa y.names.length sc, .slice ta y.kids.length tc]) := zv ha hsz Lh hl 4 hd
    have ev' : a.tmps[90]? = some (.agg #[.int .i64 y.kind, .string (strOfNums y.text), .int .i64 (y.pos : Int), .int .i64 (y.n : Int), .slice sa2 y.names.length sc2, .slice ta2 y.kids.length tc2]) := zv ha hsz Lh hl 9 hd
    have ev'' : a.tmps[91]? = some (.bool true) := zv ha hsz Lh hl 10 hd
    have eN := hN.resolve_left hn
    refine Zan (f := 10) (args := #[.agg #[.int .i64 y.kind, .string (strOfNums y.text), .int .i64 (y.pos : Int), .int .i64 (y.n : Int), .slice sa y.names.length sc, .slice ta y.kids.length tc], .agg #[.int .i64 y.kind, .string (strOfNums y.text), .int .i64 (y.pos : Int), .int .i64 (y.n : Int), .slice sa2 y.names.length sc2, .slice ta2 y.kids.length tc2], .bool true]) (by simp [execOp, ev, ev', ev'', go_sem]) ?_
    refine (HT w' eN).mono ?_
    rintro e w6 ⟨rfl, F4⟩
    refine ⟨_, rfl, ?_⟩
    exact ⟨_, zp 11 ha Lh hsz, zh Lh, zk Lh hl, .inl (.inl rfl), fun _ => (by rw [eN] at F4; exact drewF4 F4)⟩
   | 12, ho =>
    cases zq ho
    have ev : a.tmps[92]? = some (.bool true) := zv ha hsz Lh hl 11 hd
    exact zx (.bool false) (by simp [execOp, ev, go_sem]) ⟨_, zp 12 ha Lh hsz, zh Lh, zk Lh hl, zl hN, zr hL⟩
   | i + 13, ho => simp at ho
  rintro D a w' ⟨l, ha, Lh, hl, hN, hL⟩ hall
  obtain ⟨v0, v1, v2, v3, v4, v5, v6, v7, v8, v9, v10, v11, v12, rfl⟩ := zL13 Lh
  have D9 := hL (hall 11 (by decide))
  have hz := hl 12 (by decide) (hall 12 (by decide))
  simp only [List.getElem?_cons_succ, List.getElem?_cons_zero, Option.some.injEq] at hz
  have hz' : v12 = .bool false := hz
  subst hz'
  subst hA
  have hfr : a = _ := ha
  rw [hfr]
  clear hfr ha
  simp only [Zaj, yG, yH]
  clear hl hN hL hall
  go_wp2
  go_roundw
  case rel => exact ⟨k + 1, hk, by go_num, Zab Dw zo D9⟩
  case measure => simp [intOf]; omega
 have hki : ¬ (k : Int) < (n.kids.length : Int) := by omega
 go_wp2
 exact bodyPost_ret (v := .bool true) (by simp [results, go_sem]) rfl ⟨rfl, Zab Da zo Dw⟩
theorem same_all (k : Nat) : ∀ n : Nd, SizeOf.sizeOf n ≤ k → ∀ (w : World) (A A' : Nat → Prop) (v u : Value), NdV A w n v → NdV A' w n u → Calls Tryz.prog 10 #[v, u, .bool true] w fun e w' => e = .returned (.bool true) ∧ Below w.heap.size w w' := by
 induction k with
 | zero => intro n hn; cases n; simp at hn
 | succ k ih =>
  intro n hn w A A' v u hv hu
  refine same_at n (fun y hy => ih y ?_) w A A' v u hv hu
  cases n with
  | mk k t p m l kids =>
   have h1 : SizeOf.sizeOf y < SizeOf.sizeOf kids := List.sizeOf_lt_of_mem hy
   simp only [Nd.mk.sizeOf_spec] at hn
   omega
theorem same_any (n : Nd) (w : World) (A A' : Nat → Prop) (v u : Value) (hv : NdV A w n v) (hu : NdV A' w n u) : Calls Tryz.prog 10 #[v, u, .bool true] w fun e w' => e = .returned (.bool true) ∧ Below w.heap.size w w' := same_all _ n zo w A A' v u hv hu
def lwtV (x : Nd) (pl : Nat) (er : Int) (na ka ma la na2 ka2 : Option Addr) (nc kc mc lc nc2 kc2 : Nat) (j : Nat) : Value :=
 ([.agg #[.int .i64 x.kind, .string (strOfNums x.text), .int .i64 (x.pos : Int), .int .i64 (x.n : Int), .slice na x.names.length nc, .slice ka x.kids.length kc],
  .agg #[.int .i64 x.kind, .string (strOfNums x.text), .int .i64 (x.pos : Int), .int .i64 (x.n : Int), .slice ma x.names.length mc, .slice la x.kids.length lc],
  .agg #[.int .i64 x.kind, .string (strOfNums x.text), .int .i64 (x.pos : Int), .int .i64 (x.n : Int), .slice na2 x.names.length nc2, .slice ka2 x.kids.length kc2],
  .bool true,
  .bool true,
  .int .i64 (pl : Int),
  .int .i64 (pl : Int),
  .bool true,
  .bool true,
  .bool true,
  .int .i64 er,
  .int .i64 er,
  .bool true,
  .bool true,
  .bool true,
  .bool true,
  .bool true] : List Value).getD j undef
theorem treeMethods_true (ss : List Int) (w : World) (hb : ∀ x ∈ ss, 0 ≤ x ∧ x < 256) (hm : ss.length ≤ 9223372036854775807) : Calls Tryz.prog 4 #[.string (strOfNums ss)] w fun e w' => e = .returned (.bool true) ∧ Below w.heap.size w w' := by
 have P1 := fun w => Zg3 13 true (.inr ⟨rfl, rfl⟩) ss w hb hm
 have P2 := fun w => Zoh 14 true (.inr ⟨rfl, rfl⟩) ss w hb
 go_enter Tryz.func4, Tryz.ntmps4
 go_wp2_with fail
 refine (P1 _).mono ?_
 rintro e w2 ⟨x, pl, er, v1, ht1, rfl, hn1, B2⟩
 obtain ⟨na, nc, ka, kc, _, rfl, _⟩ := hn1.parts
 go_wp2_with (refine Zdl _ rfl rfl ?_)
 intro b1 w3 E3 hb1 B3
 go_wp2_with (refine Zar rfl rfl rfl rfl rfl E3 ?_)
 intro w4 E4 S4
 have B24 : Below w2.heap.size w2 w4 := B3.trans (S4.below hb1)
 have hn4 := NdV.imp (w := w2) (w' := w4) (A := fun b => w.heap.size ≤ b) (A' := fun b => w.heap.size ≤ b) (fun b hb hA => ⟨hA, B24.block b hb⟩) _ _ hn1
 have B04 := B2.trans (B24.mono B2.size)
 clear E3 B3 S4 B24 hn1 B2
 go_wp2_with fail
 refine (P2 _).mono ?_
 rintro e w5 ⟨x2, pl2, er2, v2, ht2, rfl, hn2, B5⟩
 obtain ⟨rfl, rfl, rfl⟩ := ht1.det ht2
 obtain ⟨na2, nc2, ka2, kc2, _, rfl, _⟩ := hn2.parts
 have E5 := (B5.block b1 (lt_of_block E4)).trans E4
 have hn5 := NdV.imp (w := w4) (w' := w5) (A := fun b => w.heap.size ≤ b) (A' := fun b => w.heap.size ≤ b) (fun b hb hA => ⟨hA, B5.block b hb⟩) _ _ hn4
 have B05 := B04.trans (B5.mono B04.size)
 clear E4 B5 hn4 B04 ht1 ht2 P1 P2
 go_wp2_with (refine Zdn _ rfl rfl ?_)
 intro b2 w6 E6 hb2 B6
 go_wp2_with (refine Za8 rfl rfl rfl rfl rfl E6 ?_)
 intro w1 E7 S7
 have B57 : Below w5.heap.size w5 w1 := B6.trans (S7.below hb2)
 have E1 := (B57.block b1 (lt_of_block E5)).trans E5
 have hn7 := NdV.imp (w := w5) (w' := w1) (A := fun b => w.heap.size ≤ b) (A' := fun b => w.heap.size ≤ b) (fun b hb hA => ⟨hA, B57.block b hb⟩) _ _ hn5
 have hn8 := NdV.imp (w := w5) (w' := w1) (A := fun b => w4.heap.size ≤ b) (A' := fun b => w4.heap.size ≤ b) (fun b hb hA => ⟨hA, B57.block b hb⟩) _ _ hn2
 have B1 := B05.trans (B57.mono B05.size)
 clear E5 E6 B6 S7 B57 hn5 hn2 B05
 have box1 : ∀ w', Below w1.heap.size w1 w' → w'.heap[b1]? = _ := fun w' B => (B.block b1 (lt_of_block E1)).trans E1
 have box2 : ∀ w', Below w1.heap.size w1 w' → w'.heap[b2]? = _ := fun w' B => (B.block b2 (lt_of_block E7)).trans E7
 have nd1 := fun w' (B : Below w1.heap.size w1 w') => NdV.imp (w := w1) (w' := w') (A := fun b => w.heap.size ≤ b) (A' := fun b => w.heap.size ≤ b) (fun b hb hA => ⟨hA, B.block b hb⟩) _ _ hn7
 have nd2 := fun w' (B : Below w1.heap.size w1 w') => NdV.imp (w := w1) (w' := w') (A := fun b => w4.heap.size ≤ b) (A' := fun b => w4.heap.size ≤ b) (fun b hb hA => ⟨hA, B.block b hb⟩) _ _ hn8
 clear hn7 hn8 E1 E7
 go_upto_region 3 with fail
 refine Zah fun A hA => ?_
 have hsz : A.tmps.size = 38 := by rw [hA]; rfl
 have st : A.tmps[2]? = some (.bool false) := by rw [hA]; rfl
 have s3 : A.tmps[3]? = some (.pointer (some ⟨b1, 0, none⟩)) := by rw [hA]; rfl
 have s6 : A.tmps[6]? = some (.pointer (some ⟨b2, 0, none⟩)) := by rw [hA]; rfl
 have s4 : A.tmps[4]? = some (.int .i64 (pl : Int)) := by rw [hA]; rfl
 have s7 : A.tmps[7]? = some (.int .i64 (pl : Int)) := by rw [hA]; rfl
 have s5 : A.tmps[5]? = some (.int .i64 er) := by rw [hA]; rfl
 have s8 : A.tmps[8]? = some (.int .i64 er) := by rw [hA]; rfl
 refine zR2 (fun A D a w' => ∃ (l : List Value) (vt : Value) (ma : Option Addr) (la : Option Addr) (mc : Nat) (lc : Nat), a = (Zaj A 21 l).put (some 2) vt ∧ l.length = 17 ∧ (∀ j, j < 17 → D j → l[j]? = some (lwtV x pl er na ka ma la na2 ka2 nc kc mc lc nc2 kc2 j)) ∧ (D 17 → vt = .bool true) ∧ (D 1 → ∃ A' : Nat → Prop, NdV A' w' x (.agg #[.int .i64 x.kind, .string (strOfNums x.text), .int .i64 (x.pos : Int), .int .i64 (x.n : Int), .slice ma x.names.length mc, .slice la x.kids.length lc])) ∧ (Below w1.heap.size w1 w')) ?start ?step ?done
 case start => exact ⟨_, _, none, none, 0, 0, Zbo A 21 17 2 _ (by omega) (by decide) st, zG 21 17 hsz, zK, zf, zf, (Below.refl _ w1).drew⟩
 case step =>
  clear hA
  intro i o ho D a w' hI hn hcl hd
  obtain ⟨l, vt, ma, la, mc, lc, ha, Lh, hl, hvt, hU, hB⟩ := hI
  match i, ho with
  | 0, ho =>
   cases zq ho
   refine ⟨rfl, ?_⟩
   have ev : a.tmps[3]? = some (.pointer (some ⟨b1, 0, none⟩)) := zU 3 ha Lh hsz s3
   obtain ⟨z0, z1, z2, z3, z4, z5, _⟩ := Zae (box1 w' hB)
   exact zx (.agg #[.int .i64 x.kind, .string (strOfNums x.text), .int .i64 (x.pos : Int), .int .i64 (x.n : Int), .slice na x.names.length nc, .slice ka x.kids.length kc]) (by simp [execOp, ev, go_sem, z0, z1, z2, z3, z4, z5]) ⟨_, vt, ma, la, mc, lc, zt 0 ha Lh hsz, zh Lh, zk Lh hl, zr hvt, zr hU, hB⟩
  | 1, ho =>
   cases zq ho
   refine ⟨rfl, ?_⟩
   have ev : a.tmps[21]? = some (.agg #[.int .i64 x.kind, .string (strOfNums x.text), .int .i64 (x.pos : Int), .int .i64 (x.n : Int), .slice na x.names.length nc, .slice ka x.kids.length kc]) := zw ha hsz Lh hl 0 hd
   refine Zan (f := 11) (args := #[.agg #[.int .i64 x.kind, .string (strOfNums x.text), .int .i64 (x.pos : Int), .int .i64 (x.n : Int), .slice na x.names.length nc, .slice ka x.kids.length kc]]) (by simp [execOp, ev, go_sem]) ?_
   refine (Zpf x w' _ _ (nd1 w' hB)).mono ?_
   rintro e w6 ⟨u, rfl, hu, B9⟩
   refine ⟨_, rfl, ?_⟩
   obtain ⟨ma', mc', la', lc', _, rfl, _⟩ := NdV.parts hu
   exact ⟨_, vt, ma', la', mc', lc', zt 1 ha Lh hsz, zh Lh, Zai (val' := lwtV x pl er na ka ma' la' na2 ka2 nc kc mc' lc' nc2 kc2) Lh (by decide) hl (fun j hj hne => match j, hj, hne with | 0, _, _ => rfl | 1, _, hne => absurd rfl hne | 2, _, _ => rfl | 3, _, _ => rfl | 4, _, _ => rfl | 5, _, _ => rfl | 6, _, _ => rfl | 7, _, _ => rfl | 8, _, _ => rfl | 9, _, _ => rfl | 10, _, _ => rfl | 11, _, _ => rfl | 12, _, _ => rfl | 13, _, _ => rfl | 14, _, _ => rfl | 15, _, _ => rfl | 16, _, _ => rfl | j + 17, _, _ => rfl), zr hvt, fun _ => ⟨_, hu⟩, hB.trans (B9.mono hB.size)⟩
  | 2, ho =>
   cases zq ho
   refine ⟨rfl, ?_⟩
   have ev : a.tmps[6]? = some (.pointer (some ⟨b2, 0, none⟩)) := zU 6 ha Lh hsz s6
   obtain ⟨z0, z1, z2, z3, z4, z5, _⟩ := Zac (box2 w' hB)
   exact zx (.agg #[.int .i64 x.kind, .string (strOfNums x.text), .int .i64 (x.pos : Int), .int .i64 (x.n : Int), .slice na2 x.names.length nc2, .slice ka2 x.kids.length kc2]) (by simp [execOp, ev, go_sem, z0, z1, z2, z3, z4, z5]) ⟨_, vt, ma, la, mc, lc, zt 2 ha Lh hsz, zh Lh, zk Lh hl, zr hvt, zr hU, hB⟩
  | 3, ho =>
   cases zq ho
   refine ⟨rfl, ?_⟩
   have ev : a.tmps[22]? = some (.agg #[.int .i64 x.kind, .string (strOfNums x.text), .int .i64 (x.pos : Int), .int .i64 (x.n : Int), .slice ma x.names.length mc, .slice la x.kids.length lc]) := zw ha hsz Lh hl 1 hd
   have ev' : a.tmps[23]? = some (.agg #[.int .i64 x.kind, .string (strOfNums x.text), .int .i64 (x.pos : Int), .int .i64 (x.n : Int), .slice na2 x.names.length nc2, .slice ka2 x.kids.length kc2]) := zw ha hsz Lh hl 2 hd
   refine Zan (f := 10) (args := #[.agg #[.int .i64 x.kind, .string (strOfNums x.text), .int .i64 (x.pos : Int), .int .i64 (x.n : Int), .slice ma x.names.length mc, .slice la x.kids.length lc], .agg #[.int .i64 x.kind, .string (strOfNums x.text), .int .i64 (x.pos : Int), .int .i64 (x.n : Int), .slice na2 x.names.length nc2, .slice ka2 x.kids.length kc2], .bool true]) (by simp [execOp, ev, ev', go_sem]) ?_
   refine ((hU (zd hd 1)).elim fun A' hu' => same_any x w' A' _ _ _ hu' (nd2 w' hB)).mono ?_
   rintro e w6 ⟨rfl, B9⟩
   refine ⟨_, rfl, ?_⟩
   exact ⟨_, vt, ma, la, mc, lc, zt 3 ha Lh hsz, zh Lh, zk Lh hl, zr hvt, fun h => (hU (h.resolve_left (by decide))).imp fun A' h' => NdV.imp (w := w') (fun b hb hA => ⟨hA, B9.block b hb⟩) _ _ h', hB.trans (B9.mono hB.size)⟩
  | 4, ho =>
   cases zq ho
   refine ⟨rfl, ?_⟩
   have ev : a.tmps[24]? = some (.bool true) := zw ha hsz Lh hl 3 hd
   exact zx (.bool true) (by simp [execOp, ev, go_sem]) ⟨_, vt, ma, la, mc, lc, zt 4 ha Lh hsz, zh Lh, zk Lh hl, zr hvt, zr hU, hB⟩
  | 5, ho =>
   cases zq ho
   refine ⟨Zaw (k := 25) rfl rfl rfl (Zbl ha hsz Lh hl 4 (by decide) (zg hd 4)), ?_⟩
   have ev : a.tmps[4]? = some (.int .i64 (pl : Int)) := zU 4 ha Lh hsz s4
   exact zx (.int .i64 (pl : Int)) (by simp [execOp, ev, go_sem]) ⟨_, vt, ma, la, mc, lc, zt 5 ha Lh hsz, zh Lh, zk Lh hl, zr hvt, zr hU, hB⟩
  | 6, ho =>
   cases zq ho
   refine ⟨Zaw (k := 25) rfl rfl rfl (Zbl ha hsz Lh hl 4 (by decide) (zg hd 4)), ?_⟩
   have ev : a.tmps[7]? = some (.int .i64 (pl : Int)) := zU 7 ha Lh hsz s7
   exact zx (.int .i64 (pl : Int)) (by simp [execOp, ev, go_sem]) ⟨_, vt, ma, la, mc, lc, zt 6 ha Lh hsz, zh Lh, zk Lh hl, zr hvt, zr hU, hB⟩
  | 7, ho =>
   cases zq ho
   refine ⟨Zaw (k := 25) rfl rfl rfl (Zbl ha hsz Lh hl 4 (by decide) (zg hd 4)), ?_⟩
   have ev : a.tmps[26]? = some (.int .i64 (pl : Int)) := zw ha hsz Lh hl 5 hd
   have ev' : a.tmps[27]? = some (.int .i64 (pl : Int)) := zw ha hsz Lh hl 6 hd
   exact zx (.bool true) (by simp [execOp, ev, ev', go_sem]) ⟨_, vt, ma, la, mc, lc, zt 7 ha Lh hsz, zh Lh, zk Lh hl, zr hvt, zr hU, hB⟩
  | 8, ho =>
   cases zq ho
   refine ⟨rfl, ?_⟩
   have ev : a.tmps[25]? = some (.bool true) := zw ha hsz Lh hl 4 hd
   have ev' : a.tmps[28]? = some (.bool true) := zw ha hsz Lh hl 7 hd
   exact zx (.bool true) (by simp [execOp, ev, ev', go_sem]) ⟨_, vt, ma, la, mc, lc, zt 8 ha Lh hsz, zh Lh, zk Lh hl, zr hvt, zr hU, hB⟩
  | 9, ho =>
   cases zq ho
   refine ⟨rfl, ?_⟩
   have ev : a.tmps[29]? = some (.bool true) := zw ha hsz Lh hl 8 hd
   exact zx (.bool true) (by simp [execOp, ev, go_sem]) ⟨_, vt, ma, la, mc, lc, zt 9 ha Lh hsz, zh Lh, zk Lh hl, zr hvt, zr hU, hB⟩
  | 10, ho =>
   cases zq ho
   refine ⟨Zaw (k := 30) rfl rfl rfl (Zbl ha hsz Lh hl 9 (by decide) (zg hd 9)), ?_⟩
   have ev : a.tmps[5]? = some (.int .i64 er) := zU 5 ha Lh hsz s5
   exact zx (.int .i64 er) (by simp [execOp, ev, go_sem]) ⟨_, vt, ma, la, mc, lc, zt 10 ha Lh hsz, zh Lh, zk Lh hl, zr hvt, zr hU, hB⟩
  | 11, ho =>
   cases zq ho
   refine ⟨Zaw (k := 30) rfl rfl rfl (Zbl ha hsz Lh hl 9 (by decide) (zg hd 9)), ?_⟩
   have ev : a.tmps[8]? = some (.int .i64 er) := zU 8 ha Lh hsz s8
   exact zx (.int .i64 er) (by simp [execOp, ev, go_sem]) ⟨_, vt, ma, la, mc, lc, zt 11 ha Lh hsz, zh Lh, zk Lh hl, zr hvt, zr hU, hB⟩
  | 12, ho =>
   cases zq ho
   refine ⟨Zaw (k := 30) rfl rfl rfl (Zbl ha hsz Lh hl 9 (by decide) (zg hd 9)), ?_⟩
   have ev : a.tmps[31]? = some (.int .i64 er) := zw ha hsz Lh hl 10 hd
   have ev' : a.tmps[32]? = some (.int .i64 er) := zw ha hsz Lh hl 11 hd
   exact zx (.bool true) (by simp [execOp, ev, ev', go_sem]) ⟨_, vt, ma, la, mc, lc, zt 12 ha Lh hsz, zh Lh, zk Lh hl, zr hvt, zr hU, hB⟩
  | 13, ho =>
   cases zq ho
   refine ⟨rfl, ?_⟩
   have ev : a.tmps[30]? = some (.bool true) := zw ha hsz Lh hl 9 hd
   have ev' : a.tmps[33]? = some (.bool true) := zw ha hsz Lh hl 12 hd
   exact zx (.bool true) (by simp [execOp, ev, ev', go_sem]) ⟨_, vt, ma, la, mc, lc, zt 13 ha Lh hsz, zh Lh, zk Lh hl, zr hvt, zr hU, hB⟩
  | 14, ho =>
   cases zq ho
   refine ⟨rfl, ?_⟩
   have ev : a.tmps[34]? = some (.bool true) := zw ha hsz Lh hl 13 hd
   exact zx (.bool true) (by simp [execOp, ev, go_sem]) ⟨_, vt, ma, la, mc, lc, zt 14 ha Lh hsz, zh Lh, zk Lh hl, zr hvt, zr hU, hB⟩
  | 15, ho =>
   cases zq ho
   refine ⟨Zaw (k := 35) rfl rfl rfl (Zbl ha hsz Lh hl 14 (by decide) (zg hd 14)), ?_⟩
   refine Zan (f := 12) (args := #[]) (by simp [execOp, go_sem]) ?_
   refine (Zn7 w').mono ?_
   rintro e w6 ⟨rfl, B9⟩
   refine ⟨_, rfl, ?_⟩
   exact ⟨_, vt, ma, la, mc, lc, zt 15 ha Lh hsz, zh Lh, zk Lh hl, zr hvt, fun h => (hU (h.resolve_left (by decide))).imp fun A' h' => NdV.imp (w := w') (fun b hb hA => ⟨hA, B9.block b hb⟩) _ _ h', hB.trans (B9.mono hB.size)⟩
  | 16, ho =>
   cases zq ho
   refine ⟨rfl, ?_⟩
   have ev : a.tmps[35]? = some (.bool true) := zw ha hsz Lh hl 14 hd
   have ev' : a.tmps[36]? = some (.bool true) := zw ha hsz Lh hl 15 hd
   exact zx (.bool true) (by simp [execOp, ev, ev', go_sem]) ⟨_, vt, ma, la, mc, lc, zt 16 ha Lh hsz, zh Lh, zk Lh hl, zr hvt, zr hU, hB⟩
  | 17, ho =>
   cases zq ho
   refine ⟨rfl, ?_⟩
   have ev : a.tmps[37]? = some (.bool true) := zw ha hsz Lh hl 16 hd
   exact zx (.bool true) (by simp [execOp, ev, go_sem]) ⟨l, (.bool true), ma, la, mc, lc, by rw [ha]; exact Zbp _ _ _ _, Lh, zJ hl, fun _ => rfl, zr hU, hB⟩
  | i + 18, ho => simp at ho
 rintro D a w' ⟨l, vt, ma, la, mc, lc, ha, Lh, hl, hvt, hU, hB⟩ hall
 obtain rfl := hvt (hall 17 (by decide))
 obtain ⟨v0, v1, v2, v3, v4, v5, v6, v7, v8, v9, v10, v11, v12, v13, v14, v15, v16, rfl⟩ := zL17 Lh
 subst hA
 have hfr : a = _ := ha
 rw [hfr]
 clear hfr ha
 simp only [Zaj, Act.put, List.setIfInBounds_toArray, List.set_cons_zero, List.set_cons_succ, List.take_succ_cons, List.take_zero, List.drop_succ_cons, List.drop_zero, List.cons_append, List.nil_append, List.length_cons, List.length_nil]
 clear hl Lh hall hU
 go_wp2
 go_ret
 exact ⟨rfl, B1.trans (hB.mono B1.size)⟩
end Go.Proofs.YtncfmhlikmibaaaGreatDoor
