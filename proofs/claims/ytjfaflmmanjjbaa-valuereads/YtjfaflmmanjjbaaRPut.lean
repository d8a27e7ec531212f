/- The document's bytes of an object. -/
import Derived.Test.YtjfaflmmanjjbaaPut
namespace Go.Proofs.Ytjfaflmmanjjbaa
open Go.RowKit
set_option maxRecDepth 100000
theorem ruint_to (m : Nat) (w : World) (hm : m < 18446744073709551616) : Calls Try.prog 50 #[.int .u64 (m : Int)] w fun e w' => ∃ a n c, e = .returned (.slice a n c) ∧ n ≤ 10 ∧ IsB w' a n c (uvar m) ∧ OwnB w' w.heap.size (.slice a n c) (uvar m) ∧ Below w.heap.size w w' := by
  refine (ruint_any m w hm).mono ?_
  rintro e w' ⟨g, cap, rfl, O, B⟩
  exact ⟨_, _, _, rfl, (usz_bd m).2, isB_own O (uvar_byte m hm), ownB_of O (uvar_byte m hm), B⟩
set_option maxHeartbeats 8000000 in
theorem rbytes_any {w : World} {c : Int} {sa ba : Option Addr} {sn sc bn bc : Nat} {vs : List (Int × Int)} {bs : List Int} (ho : IsO w c sa sn sc ba bn bc vs bs) (hok : okO c vs bn = true) :
    Calls Try.prog 44 #[.agg #[.int .i64 c, .slice sa sn sc, .slice ba bn bc]] w fun e w' => ∃ v', e = .returned v' ∧ OwnB w' w.heap.size v' (objY c vs bs) ∧ Below w.heap.size w w' := by
  obtain ⟨hc, hn, hbn, hvs⟩ := okO_parts hok
  have hsz := ho.v.size
  have hbsz := ho.b.size
  obtain ⟨m, rfl⟩ : ∃ m : Nat, c = (m : Int) := ⟨c.toNat, by omega⟩
  have hul1 : (uvar m).length ≤ 10 := by rw [uvar_length m (by omega)]; exact (usz_bd m).2
  have hul2 : (uvar sn).length ≤ 10 := by rw [uvar_length sn (by omega)]; exact (usz_bd sn).2
  have e0 : objY (m : Int) vs bs = uvar m ++ (uvar sn ++ (valsB vs ++ textB bs)) := by unfold objY; rw [Int.toNat_natCast, hsz]
  rw [e0]
  clear e0 hok
  have hw1 : IntKind.u64.wrap (m : Int) = (m : Int) := by rw [IntKind.wrap_u64]; omega
  have hw2 : IntKind.u64.wrap (sn : Int) = (sn : Int) := by rw [IntKind.wrap_u64]; omega
  go_enter Try.func44, Try.ntmps44
  go_wp2_with fail
  refine (ruint_to m _ (by omega)).mono ?_
  rintro e w2 ⟨a2, n2, c2, rfl, _, _, O2, B2⟩
  have E2 := (B2.block w.heap.size (by simp)).trans (new1 w (objB (m : Int) (.slice sa sn sc) (.slice ba bn bc)))
  have G2 : Gr w.heap.size w w2 := Gr.of (below_size box_below box_below.size B2) (Nat.le_refl _)
  replace O2 : OwnB w2 w.heap.size (.slice a2 n2 c2) (uvar m) := ownB_of (own_mono O2.1 (by simp)) O2.byte
  obtain ⟨z0, z1, z2, zf⟩ := obj_cells E2
  have hb2 := G2.below.size
  clear B2
  go_wp2_with fail
  refine (ruint_to sn _ (by omega)).mono ?_
  rintro e w3 ⟨a3, n3, c3, rfl, _, I3, _, B3⟩
  have O2' := O2.below B3
  have E3 := (B3.block w.heap.size (lt_of_block E2)).trans E2
  have G3 := G2.trans (Gr.of B3 (by omega))
  have hb3 := G3.below.size
  clear z0 z1 z2 zf E2 G2 O2 B3
  go_wp2_with (at_builtin; refine app_own _ rfl _ _ rfl w.heap.size _ (uvar m) rfl O2' _ _ _ _ rfl I3 (by omega) (by omega) ?_)
  intro a4 n4 c4 w4 O4 G4
  have E4 := G4.keep w.heap.size _ 27 (by decide) E3
  have G5 := G3.trans G4
  clear O2' I3 E3 G3 G4
  go_wp2
  obtain ⟨ys, hys⟩ : ∃ ys, Hid (uvar m ++ uvar sn = ys) := ⟨_, rfl⟩
  have hyl : ys.length ≤ 20 := by rw [← hys.out, List.length_append]; omega
  rw [hys.out] at O4
  clear hul1 hul2
  go_loopw [3, 4] (fun bv iv wr => ∃ (k : Nat) (a : Option Addr) (n c : Nat), k ≤ sn ∧ iv = .int .i64 (k : Int) ∧ bv = .slice a n c ∧ OwnB wr w.heap.size (.slice a n c) (ys ++ valsB (vs.take k)) ∧ Gr w.heap.size w wr ∧ wr.heap[w.heap.size]? = some (objB (m : Int) (.slice sa sn sc) (.slice ba bn bc))) (fun _ iv _ => sn - (intOf iv).toNat)
  case atStart => exact ⟨0, a4, n4, c4, by omega, rfl, rfl, by simpa [valsB] using O4, G5, E4⟩
  case round =>
    clear O4 G5 E4
    obtain ⟨k, a, n, c, hk, rfl, rfl, O, G, E⟩ := hrel
    have hvl := valsB_len (okVs_take hvs k)
    rw [List.length_take] at hvl
    have hbr := G.below.size
    obtain ⟨z0, z1, z2, zf⟩ := obj_cells E
    by_cases hlt : k < sn
    · obtain ⟨b, off, x, y, rfl, hbl, c0, c1', hx, _, _⟩ := (ho.v.below G.below).at_ k hlt
      have hok := okVs_at hvs hx.out
      have hkk := okV_kind hok
      have hsn := valsB_snoc hx.out
      replace hsn : Hid (valsB (vs.take (k + 1)) = valsB (vs.take k) ++ valB x y) := hsn
      have hw8 : IntKind.u8.wrap x = x := by rw [IntKind.wrap_u8]; omega
      by_cases h3 : x = 3
      · subst h3
        have hn := okV_num3 hok
        obtain ⟨hz, hzl⟩ := zz_nat (n := y) (by omega)
        obtain ⟨m', hm'⟩ : ∃ m', Hid ((zz y).toNat = m') := ⟨_, rfl⟩
        rw [hm'.out] at hz hzl
        replace hz : Hid (zz y = (m' : Int)) := hz
        have ev : Hid (valB 3 y = 3 :: uvar m') := by show valB 3 y = _; rw [← hm'.out]; simp [valB]
        have hul : (uvar m').length ≤ 10 := by rw [uvar_length m' hzl]; exact (usz_bd m').2
        clear hm' hok hx
        have I1 := (isB_lit (wr.alloc (.cells #[.int .i64 3, .int .i64 y] 23)) #[.int .u8 3] [3] 1 rfl (by decide) rfl (by intro x hx; simp at hx; omega) (0, 0))
        rw [size1] at I1
        go_wp2_with (at_builtin; refine app_own _ rfl _ _ rfl w.heap.size _ _ rfl ((O.below box_below).below box_below) _ _ _ _ rfl I1 (by rw [List.length_append]; omega) (by simp; omega) ?_)
        intro a1 n1 c1 w3 O3 G3
        have E3 := G3.keep wr.heap.size #[.int .i64 3, .int .i64 y] 23 (by decide) (old1 (new1 _ _) _)
        have F3 := G3.keep w.heap.size _ 27 (by decide) (old1 (old1 E _) _)
        have G4 : Gr w.heap.size w w3 := G.trans (((Gr.of box_below hbr).trans (Gr.of box_below (Nat.le_trans hbr box_below.size))).trans G3)
        have sz3 := G4.below.size
        obtain ⟨zs, hzs⟩ : ∃ zs : List Int, Hid (ys ++ (valsB (vs.take k) ++ [3]) = zs) := ⟨ys ++ (valsB (vs.take k) ++ [3]), rfl⟩
        have hzl2 : zs.length ≤ 5000 := by rw [← hzs.out]; simp only [List.length_append, List.length_cons, List.length_nil]; omega
        rw [hzs.out] at O3
        clear I1 O G E G3 z0 z1 z2 zf c0 c1'
        have y0 : w3.cell? ⟨wr.heap.size, 0, none⟩ = some (.int .i64 3) := by rw [cell_of_row _ _ _ _ _ _ E3]; rfl
        have y1 : w3.cell? ⟨wr.heap.size, 1, none⟩ = some (.int .i64 y) := by rw [cell_of_row _ _ _ _ _ _ E3]; rfl
        go_wp2_with fail
        refine (rfold_any y w3 (by omega) (by omega)).mono ?_
        rintro e w4 ⟨rfl, rfl⟩
        rw [hz.out]
        go_wp2_with fail
        refine (ruint_to m' w4 hzl).mono ?_
        rintro e w5 ⟨a5, n5, c5, rfl, _, I5, _, B5⟩
        have O3' := O3.below B5
        have E5 := (B5.block wr.heap.size (lt_of_block E3)).trans E3
        have F5 := (B5.block w.heap.size (lt_of_block F3)).trans F3
        have sz5 := B5.size
        clear O3
        go_wp2_with (at_builtin; refine app_own _ rfl _ _ rfl w.heap.size _ zs rfl O3' _ _ _ _ rfl I5 (by omega) (by omega) ?_)
        intro a6 n6 c6 w6 O6 G6
        have F6 := G6.keep w.heap.size _ 27 (by decide) F5
        have E6 := G6.keep wr.heap.size _ 23 (by decide) E5
        have x0 : w6.cell? ⟨wr.heap.size, 0, none⟩ = some (.int .i64 3) := by rw [cell_of_row _ _ _ _ _ _ E6]; rfl
        have G7 := G4.trans ((Gr.of B5 (by omega)).trans G6)
        clear I5 O3' y0 y1 F5 E5 E6 G6 B5
        go_wp2
        go_roundw
        case rel => exact ⟨k + 1, _, _, _, by omega, by go_num, rfl, by rw [← hzs.out] at O6; rw [hsn.out, ev.out]; simpa only [List.append_assoc, List.cons_append, List.nil_append] using O6, G7, F6⟩
        case measure => simp [intOf]; omega
      · by_cases h4 : x = 4
        · subst h4
          have hn := okV_num4 hok
          obtain ⟨m', rfl⟩ : ∃ m' : Nat, y = (m' : Int) := ⟨y.toNat, by omega⟩
          have hzl : m' < 18446744073709551616 := by omega
          have hw : IntKind.u64.wrap (m' : Int) = (m' : Int) := by rw [IntKind.wrap_u64]; omega
          have ev : Hid (valB 4 (m' : Int) = 4 :: uvar m') := by show valB 4 (m' : Int) = _; simp [valB]
          have hul : (uvar m').length ≤ 10 := by rw [uvar_length m' hzl]; exact (usz_bd m').2
          clear hok hx
          have I1 := (isB_lit (wr.alloc (.cells #[.int .i64 4, .int .i64 (m' : Int)] 23)) #[.int .u8 4] [4] 1 rfl (by decide) rfl (by intro x hx; simp at hx; omega) (0, 0))
          rw [size1] at I1
          go_wp2_with (at_builtin; refine app_own _ rfl _ _ rfl w.heap.size _ _ rfl ((O.below box_below).below box_below) _ _ _ _ rfl I1 (by rw [List.length_append]; omega) (by simp; omega) ?_)
          intro a1 n1 c1 w3 O3 G3
          have E3 := G3.keep wr.heap.size #[.int .i64 4, .int .i64 (m' : Int)] 23 (by decide) (old1 (new1 _ _) _)
          have F3 := G3.keep w.heap.size _ 27 (by decide) (old1 (old1 E _) _)
          have G4 : Gr w.heap.size w w3 := G.trans (((Gr.of box_below hbr).trans (Gr.of box_below (Nat.le_trans hbr box_below.size))).trans G3)
          have sz3 := G4.below.size
          obtain ⟨zs, hzs⟩ : ∃ zs : List Int, Hid (ys ++ (valsB (vs.take k) ++ [4]) = zs) := ⟨ys ++ (valsB (vs.take k) ++ [4]), rfl⟩
          have hzl2 : zs.length ≤ 5000 := by rw [← hzs.out]; simp only [List.length_append, List.length_cons, List.length_nil]; omega
          rw [hzs.out] at O3
          clear I1 O G E G3 z0 z1 z2 zf c0 c1'
          have y0 : w3.cell? ⟨wr.heap.size, 0, none⟩ = some (.int .i64 4) := by rw [cell_of_row _ _ _ _ _ _ E3]; rfl
          have y1 : w3.cell? ⟨wr.heap.size, 1, none⟩ = some (.int .i64 (m' : Int)) := by rw [cell_of_row _ _ _ _ _ _ E3]; rfl
          go_wp2_with fail
          refine (ruint_to m' w3 hzl).mono ?_
          rintro e w5 ⟨a5, n5, c5, rfl, _, I5, _, B5⟩
          have O3' := O3.below B5
          have E5 := (B5.block wr.heap.size (lt_of_block E3)).trans E3
          have F5 := (B5.block w.heap.size (lt_of_block F3)).trans F3
          have sz5 := B5.size
          clear O3
          go_wp2_with (at_builtin; refine app_own _ rfl _ _ rfl w.heap.size _ zs rfl O3' _ _ _ _ rfl I5 (by omega) (by omega) ?_)
          intro a6 n6 c6 w6 O6 G6
          have F6 := G6.keep w.heap.size _ 27 (by decide) F5
          have E6 := G6.keep wr.heap.size _ 23 (by decide) E5
          have x0 : w6.cell? ⟨wr.heap.size, 0, none⟩ = some (.int .i64 4) := by rw [cell_of_row _ _ _ _ _ _ E6]; rfl
          have G7 := G4.trans ((Gr.of B5 (by omega)).trans G6)
          clear I5 O3' y0 y1 F5 E5 E6 G6 B5
          go_wp2
          go_roundw
          case rel => exact ⟨k + 1, _, _, _, by omega, by go_num, rfl, by rw [← hzs.out] at O6; rw [hsn.out, ev.out]; simpa only [List.append_assoc, List.cons_append, List.nil_append] using O6, G7, F6⟩
          case measure => simp [intOf]; omega
        · have ev : Hid (valB x y = [x]) := by show valB x y = _; simp [valB, h3, h4]
          have b3 : (x == 3) = false := by simp; omega
          have b4 : (x == 4) = false := by simp; omega
          clear hok hx h3 h4
          have I1 := (isB_lit (wr.alloc (.cells #[.int .i64 x, .int .i64 y] 23)) #[.int .u8 x] [x] 1 rfl (by decide) rfl (by intro x hx; simp at hx; omega) (0, 0))
          rw [size1] at I1
          go_wp2_with (at_builtin; refine app_own _ rfl _ _ rfl w.heap.size _ _ rfl ((O.below box_below).below box_below) _ _ _ _ rfl I1 (by rw [List.length_append]; omega) (by simp; omega) ?_)
          intro a1 n1 c1 w3 O3 G3
          have E3 := G3.keep wr.heap.size #[.int .i64 x, .int .i64 y] 23 (by decide) (old1 (new1 _ _) _)
          have F3 := G3.keep w.heap.size _ 27 (by decide) (old1 (old1 E _) _)
          have G4 : Gr w.heap.size w w3 := G.trans (((Gr.of box_below hbr).trans (Gr.of box_below (Nat.le_trans hbr box_below.size))).trans G3)
          have sz3 := G4.below.size
          obtain ⟨zs, hzs⟩ : ∃ zs : List Int, Hid (ys ++ (valsB (vs.take k) ++ [x]) = zs) := ⟨ys ++ (valsB (vs.take k) ++ [x]), rfl⟩
          have hzl2 : zs.length ≤ 5000 := by rw [← hzs.out]; simp only [List.length_append, List.length_cons, List.length_nil]; omega
          rw [hzs.out] at O3
          clear I1 O G E G3 z0 z1 z2 zf c0 c1'
          have y0 : w3.cell? ⟨wr.heap.size, 0, none⟩ = some (.int .i64 x) := by rw [cell_of_row _ _ _ _ _ _ E3]; rfl
          have y1 : w3.cell? ⟨wr.heap.size, 1, none⟩ = some (.int .i64 y) := by rw [cell_of_row _ _ _ _ _ _ E3]; rfl
          go_wp2
          go_roundw
          case rel => exact ⟨k + 1, _, _, _, by omega, by go_num, rfl, by rw [← hzs.out] at O3; rw [hsn.out, ev.out]; simpa only [List.append_assoc, List.cons_append, List.nil_append] using O3, G4, F3⟩
          case measure => simp [intOf]; omega
    · rw [List.take_of_length_le (by omega)] at O
      have hB := ho.b.below G.below
      go_wp2_with fail
      refine (rtext_to hB (by omega)).mono ?_
      rintro e w5 ⟨av, cv, rfl, I5, B5⟩
      have O5 := O.below B5
      have sz5 := B5.size
      have htl := textB_len bs (by omega)
      have husz := usz_bd bs.length
      replace htl : Hid ((textB bs).length = usz bs.length + bs.length) := htl
      obtain ⟨tn, htn⟩ : ∃ n, Hid ((textB bs).length = n) := ⟨_, rfl⟩
      rw [htn.out] at I5 ⊢
      have htl2 : tn ≤ 2000 := by have h1 := htl.out; have h2 := htn.out; omega
      have hvl2 : (valsB vs).length ≤ 2816 := by have := valsB_len hvs; omega
      clear z0 z1 z2 zf hB O E hvl
      go_wp2_with (at_builtin; refine app_own _ rfl _ _ rfl w.heap.size _ (ys ++ valsB vs) rfl O5 _ _ _ _ rfl I5 (by rw [List.length_append]; omega) (by omega) ?_)
      intro a6 n6 c6 w6 O6 G6
      have G7 := G.trans ((Gr.of B5 (by omega)).trans G6)
      have e7 : uvar m ++ (uvar sn ++ (valsB vs ++ textB bs)) = ys ++ valsB vs ++ textB bs := by rw [← hys.out]; simp only [List.append_assoc]
      replace e7 : Hid (uvar m ++ (uvar sn ++ (valsB vs ++ textB bs)) = ys ++ valsB vs ++ textB bs) := e7
      clear O5 I5 G G6 B5
      go_wp2
      go_ret
      exact ⟨_, rfl, by rw [e7.out]; first | exact O6 | (rw [List.append_assoc]; exact O6), G7.below⟩
end Go.Proofs.Ytjfaflmmanjjbaa
