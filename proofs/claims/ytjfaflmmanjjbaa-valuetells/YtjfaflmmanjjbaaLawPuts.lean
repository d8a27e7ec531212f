/- The law ValuePuts. -/
import Derived.Test.YtjfaflmmanjjbaaBack
namespace Go.Proofs.Ytjfaflmmanjjbaa
open Go.RowKit
set_option maxRecDepth 100000
set_option maxHeartbeats 1000000 in
theorem spoil_but {base g n cap : Nat} {xs : List Int} {w : World} (h : OwnB w base (.slice (some ⟨g, 0, none⟩) n cap) xs) :
    Calls Try.prog 24 #[.slice (some ⟨g, 0, none⟩) n cap] w fun e w' => e = .returned (.tuple #[]) ∧ But g w w' := by
  have hm : n ≤ 9223372036854775807 := by have h1 := h.isB.room; have h2 := h.isB.most; unfold maxLen at h2; omega
  have hxl := h.isB.size
  have h0 := h.1
  rw [hxl] at h0
  go_enter Try.func24, Try.ntmps24
  go_wp2
  go_loopw [2] (fun i wr => ∃ (k : Nat) (ys : List Int), k ≤ n ∧ i = .int .i64 k ∧ wr.ownsRow base 5 1 (.slice (some ⟨g, 0, none⟩) n cap) n (ys.map (Value.int .u8)) ∧ But g w wr) (fun i _ => n - (intOf i).toNat)
  case atStart => exact ⟨0, xs, Nat.zero_le _, rfl, h0, But.refl _ _⟩
  case round =>
    obtain ⟨k, ys, hk, rfl, hown, hbel⟩ := hrel
    by_cases hlt : k < n
    · have hf := hown.frozenAt k
      have hyl : ys.length = n := by have := hown.1; simpa using this
      have hc : wr.cell? ⟨g, k, none⟩ = some (.int .u8 (ys.getD k 0)) := by
        rw [hown.cellAt k (by omega)]
        simp [show k < ys.length by omega]
      have hst := hown.stored k (.int .u8 90)
      clear h h0
      go_wp2
      go_roundw
      case rel =>
        refine ⟨k + 1, ys.set k 90, by omega, by go_num, ?_, hbel.trans But.set⟩
        rw [List.map_set]
        exact hst.1
      case measure => simp [intOf]; omega
    · go_wp2
      go_end0
      exact ⟨rfl, hbel⟩
theorem isB_nil (w : World) : IsB w none 0 0 [] := ⟨rfl, Nat.le_refl _, by decide, fun _ => rfl, by simp, fun h => absurd h (by decide)⟩
set_option maxHeartbeats 4000000 in
theorem puts_no {w : World} {c : Int} {sa ba : Option Addr} {sn sc bn bc : Nat} {vs : List (Int × Int)} {bs : List Int} (h : IsO w c sa sn sc ba bn bc vs bs) (hs : sn ≤ 8796093022208) (hb : bn ≤ 140737488355328) (hok : okO c vs bn = false) :
    Calls Try.prog 4 #[.agg #[.int .i64 c, .slice sa sn sc, .slice ba bn bc]] w fun e w' => e = .returned (.bool true) ∧ Below w.heap.size w w' := by
  have hbl := h.b.size
  go_enter Try.func4, Try.ntmps4
  go_wp2_with fail
  have k1 := h.below (box_below (o := objB c (.slice sa sn sc) (.slice ba bn bc)))
  refine (rcopy_any k1 hs hb).mono ?_
  rintro e w1 ⟨vv, bv, rfl, V1, O1, B1⟩
  have E1 := (B1.block _ (by rw [size1]; omega)).trans (new1 w (objB c (.slice sa sn sc) (.slice ba bn bc)))
  have g1 := k1.below B1
  have B1' : Below w.heap.size w w1 := below_size box_below box_below.size B1
  obtain ⟨va, vn, vc, rfl⟩ := V1.shape'
  obtain ⟨xa, xn, xc, rfl⟩ := O1.shape'
  have r1 : IsO w1 c va vn vc xa xn xc vs bs := ⟨h.cls, V1.isV, O1.isB⟩
  have hxn : xn = bn := by have := O1.isB.size; omega
  subst hxn
  have E2 := old1 E1 (objB c (.slice va vn vc) (.slice xa xn xc))
  have F2 := new1 w1 (objB c (.slice va vn vc) (.slice xa xn xc))
  have g2 := g1.below (box_below (o := objB c (.slice va vn vc) (.slice xa xn xc)))
  have r2 := r1.below (box_below (o := objB c (.slice va vn vc) (.slice xa xn xc)))
  have B2 := below_size B1' B1'.size (box_below (o := objB c (.slice va vn vc) (.slice xa xn xc)))
  unfold objB at E2 F2 g2 r2 B2
  clear V1 O1 B1 B1' E1 k1 g1 r1
  go_wp2_with fail
  generalize w1.alloc (.cells #[.int .i64 c, .slice va vn vc, .slice xa xn xc] 27) = w2 at *
  replace E2 : w2.heap[w.heap.size]? = some (objB c (.slice sa sn sc) (.slice ba xn bc)) := E2
  replace F2 : w2.heap[w1.heap.size]? = some (objB c (.slice va vn vc) (.slice xa xn xc)) := F2
  generalize w1.heap.size = pb at *
  refine (put_no r2 hok).mono ?_
  rintro e w3 ⟨rfl, B3⟩
  have E3 := (B3.block _ (lt_of_block E2)).trans E2
  have F3 := (B3.block _ (lt_of_block F2)).trans F2
  have g3 := g2.below B3
  have r3 := r2.below B3
  have B3' := below_size B2 B2.size B3
  clear E2 F2 g2 r2 B2 B3
  obtain ⟨z0, z1, z2, zf⟩ := obj_cells E3
  go_wp2_with fail
  refine (rput_no g3 hok).mono ?_
  rintro e w4 ⟨rfl, B4⟩
  have E4 := (B4.block _ (lt_of_block E3)).trans E3
  have F4 := (B4.block _ (lt_of_block F3)).trans F3
  have g4 := g3.below B4
  have r4 := r3.below B4
  have B4' := below_size B3' B3'.size B4
  clear E3 F3 g3 r3 B3' B4 z0 z1 z2 zf
  obtain ⟨z0, z1, z2, zf⟩ := obj_cells E4
  obtain ⟨y0, y1, y2, yf⟩ := obj_cells F4
  have hst := (isB_nil w4).str
  go_wp2_with fail
  refine (rsame_any r4 g4).mono ?_
  rintro e w5 ⟨rfl, B5⟩
  rw [show alike c c vs vs bs bs = true by simp [alike]]
  have B5' := below_size B4' B4'.size B5
  clear E4 F4 g4 r4 B4' B5 z0 z1 z2 zf y0 y1 y2 yf hst
  go_wp2_with fail
  refine (known_true w5).mono ?_
  rintro e w6 ⟨rfl, B6⟩
  have B6' := below_size B5' B5'.size B6
  go_wp2
  go_ret
  exact ⟨rfl, B6'⟩
set_option maxHeartbeats 4000000 in
theorem puts_yes {w : World} {c : Int} {sa ba : Option Addr} {sn sc bn bc : Nat} {vs : List (Int × Int)} {bs : List Int} (h : IsO w c sa sn sc ba bn bc vs bs) (hs : sn ≤ 8796093022208) (hb : bn ≤ 140737488355328) (hok : okO c vs bn = true) :
    Calls Try.prog 4 #[.agg #[.int .i64 c, .slice sa sn sc, .slice ba bn bc]] w fun e w' => e = .returned (.bool true) ∧ Below w.heap.size w w' := by
  have hbl := h.b.size
  go_enter Try.func4, Try.ntmps4
  go_wp2_with fail
  have k1 := h.below (box_below (o := objB c (.slice sa sn sc) (.slice ba bn bc)))
  refine (rcopy_any k1 hs hb).mono ?_
  rintro e w1 ⟨vv, bv, rfl, V1, O1, B1⟩
  have E1 := (B1.block _ (by rw [size1]; omega)).trans (new1 w (objB c (.slice sa sn sc) (.slice ba bn bc)))
  have g1 := k1.below B1
  have B1' : Below w.heap.size w w1 := below_size box_below box_below.size B1
  obtain ⟨va, vn, vc, rfl⟩ := V1.shape'
  obtain ⟨xa, xn, xc, rfl⟩ := O1.shape'
  have r1 : IsO w1 c va vn vc xa xn xc vs bs := ⟨h.cls, V1.isV, O1.isB⟩
  have hxn : xn = bn := by have := O1.isB.size; omega
  subst hxn
  have E2 := old1 E1 (objB c (.slice va vn vc) (.slice xa xn xc))
  have F2 := new1 w1 (objB c (.slice va vn vc) (.slice xa xn xc))
  have g2 := g1.below (box_below (o := objB c (.slice va vn vc) (.slice xa xn xc)))
  have r2 := r1.below (box_below (o := objB c (.slice va vn vc) (.slice xa xn xc)))
  have B2 := below_size B1' B1'.size (box_below (o := objB c (.slice va vn vc) (.slice xa xn xc)))
  unfold objB at E2 F2 g2 r2 B2
  clear V1 O1 B1 B1' E1 k1 g1 r1
  go_wp2_with fail
  generalize w1.alloc (.cells #[.int .i64 c, .slice va vn vc, .slice xa xn xc] 27) = w2 at *
  replace E2 : w2.heap[w.heap.size]? = some (objB c (.slice sa sn sc) (.slice ba xn bc)) := E2
  replace F2 : w2.heap[w1.heap.size]? = some (objB c (.slice va vn vc) (.slice xa xn xc)) := F2
  generalize w1.heap.size = pb at *
  have hok' : okO c vs bs.length = true := by rw [hbl]; exact hok
  obtain ⟨Y, hY⟩ : ∃ Y, Hid (objY c vs bs = Y) := ⟨_, rfl⟩
  have hYl : Y.length ≤ 4000 := by rw [← hY.out]; exact objY_len hok'
  have hY1 : Y ≠ [] := by
    intro e
    have := objR_objY hok'
    rw [hY.out, e] at this
    simp [objR, nR, uR, rd, tR, rtx, slotsR] at this
  have hG : okG Y = true := by rw [← hY.out]; exact okG_objY hok'
  have hR : Hid (objR (some Y) = (c, vs, bs, some [])) := by show objR (some Y) = _; rw [← hY.out]; exact objR_objY hok'
  refine (put_ok r2 hok).mono ?_
  rintro e w3 ⟨v3, rfl, X3, B3⟩
  rw [hY.out] at X3
  have E3 := (B3.block _ (lt_of_block E2)).trans E2
  have F3 := (B3.block _ (lt_of_block F2)).trans F2
  have g3 := g2.below B3
  have r3 := r2.below B3
  have B3' := below_size B2 B2.size B3
  have sz3 := B3.size
  have lp := lt_of_block F2
  have l0 := lt_of_block E2
  obtain ⟨a3, n3, c3, rfl⟩ := X3.shape'
  have N3 := B3
  clear E2 F2 B3
  obtain ⟨z0, z1, z2, zf⟩ := obj_cells E3
  go_wp2_with fail
  refine (rput_ok g3 hok).mono ?_
  rintro e w4 ⟨v4, rfl, Y4, B4⟩
  rw [hY.out] at Y4
  have X4 := X3.below B4
  have E4 := (B4.block _ (lt_of_block E3)).trans E3
  have F4 := (B4.block _ (lt_of_block F3)).trans F3
  have g4 := g3.below B4
  have r4 := r3.below B4
  have B4' := below_size B3' B3'.size B4
  have sz4 := B4.size
  have hx3 := X3.lt
  have N4 := below_size N3 N3.size B4
  obtain ⟨a4, n4, c4, rfl⟩ := Y4.shape'
  clear E3 F3 g3 r3 B4 z0 z1 z2 zf X3
  obtain ⟨z0, z1, z2, zf⟩ := obj_cells E4
  obtain ⟨y0, y1, y2, yf⟩ := obj_cells F4
  have hst := X4.isB.str
  have hst2 := Y4.isB.str
  go_wp2_with fail
  refine (rsame_any r4 g4).mono ?_
  rintro e w5 ⟨rfl, B5⟩
  rw [show alike c c vs vs bs bs = true by simp [alike]]
  have X5 := X4.below B5
  have Y5 := Y4.below B5
  have E5 := (B5.block _ (lt_of_block E4)).trans E4
  have F5 := (B5.block _ (lt_of_block F4)).trans F4
  have g5 := g4.below B5
  have r5 := r4.below B5
  have B5' := below_size B4' B4'.size B5
  have sz5 := B5.size
  have N5 := below_size N4 N4.size B5
  clear E4 F4 g4 r4 B4' B5 z0 z1 z2 zf y0 y1 y2 yf hst hst2 X4 Y4
  obtain ⟨g, rfl⟩ : ∃ g, a3 = some ⟨g, 0, none⟩ := by
    rcases X5.1.2 with ⟨_, h0⟩ | ⟨g, cap, cur, e, _⟩
    · exact absurd (List.eq_nil_of_length_eq_zero h0) hY1
    · simp only [Value.slice.injEq] at e
      exact ⟨g, e.1⟩
  have hg := hx3 g rfl
  go_wp2_with fail
  refine (spoil_but X5).mono ?_
  rintro e w6 ⟨rfl, K6⟩
  have E6 := (K6.block _ (lt_of_block E5) (by omega)).trans E5
  have F6 := (K6.block _ (lt_of_block F5) (by omega)).trans F5
  have N6 := K6.below N5 N5.size hg.1
  have g6 := g2.below N6
  have r6 := r2.below N6
  have Y6 := Y5.same (fun q hq => K6.block q (Y5.lt q hq).2 (by have := (Y5.lt q hq).1; omega))
  have B6' := B5'.trans ⟨K6.os, K6.tape, K6.output, K6.size, fun q hq => K6.block q (by omega) (by omega)⟩
  have hn4 := Y6.isB.size
  clear E5 F5 g5 r5 X5 Y5 K6 B5' N3 N4 N5 g2 r2
  go_wp2_with fail
  refine (get_any Y6.isB (by omega)).mono ?_
  rintro e w7 ⟨B7, ⟨_, zv, zb, rfl, V7, Z7⟩ | ⟨hno, _⟩⟩
  · rw [hR.out] at V7 Z7 ⊢
    dsimp only at V7 Z7 ⊢
    obtain ⟨pa, pn, pc, rfl⟩ := V7.shape'
    obtain ⟨qa, qn, qc, rfl⟩ := Z7.shape'
    have E7 := old1 ((B7.block _ (lt_of_block E6)).trans E6) (objB c (.slice pa pn pc) (.slice qa qn qc))
    have F7 := old1 ((B7.block _ (lt_of_block F6)).trans F6) (objB c (.slice pa pn pc) (.slice qa qn qc))
    have g7 := (g6.below B7).below (box_below (o := objB c (.slice pa pn pc) (.slice qa qn qc)))
    have r7 := (r6.below B7).below (box_below (o := objB c (.slice pa pn pc) (.slice qa qn qc)))
    have t7 : IsO w7 c pa pn pc qa qn qc vs bs := ⟨h.cls, V7.isV, Z7.isB⟩
    have t7' := t7.below (box_below (o := objB c (.slice pa pn pc) (.slice qa qn qc)))
    have B7' := below_size B6' B6'.size B7
    have B8' := below_size B7' B7'.size (box_below (o := objB c (.slice pa pn pc) (.slice qa qn qc)))
    clear E6 F6 g6 r6 Y6 V7 Z7 B7 t7 N6 B7' B6'
    obtain ⟨z0, z1, z2, zf⟩ := obj_cells E7
    unfold objB at E7 F7 g7 r7 t7' B8' z0 z1 z2 zf
    go_wp2_with fail
    generalize w7.alloc (.cells #[.int .i64 c, .slice pa pn pc, .slice qa qn qc] 27) = w8 at *
    refine (rsame_any t7' g7).mono ?_
    rintro e w9 ⟨rfl, B9⟩
    rw [show alike c c vs vs bs bs = true by simp [alike]]
    have E9 := (B9.block _ (lt_of_block E7)).trans E7
    have F9 := (B9.block _ (lt_of_block F7)).trans F7
    have g9 := g7.below B9
    have r9 := r7.below B9
    have B9' := below_size B8' B8'.size B9
    clear z0 z1 z2 zf E7 F7 g7 r7 t7' B8' B9
    obtain ⟨z0, z1, z2, zf⟩ := obj_cells (c := c) E9
    obtain ⟨y0, y1, y2, yf⟩ := obj_cells (c := c) F9
    go_wp2_with fail
    refine (rsame_any r9 g9).mono ?_
    rintro e w10 ⟨rfl, B10⟩
    rw [show alike c c vs vs bs bs = true by simp [alike]]
    have B10' := below_size B9' B9'.size B10
    clear z0 z1 z2 zf y0 y1 y2 yf E9 F9 g9 r9 B9' B10
    go_wp2_with fail
    refine (known_true w10).mono ?_
    rintro e w11 ⟨rfl, B11⟩
    have B11' := below_size B10' B10'.size B11
    go_wp2
    go_ret
    exact ⟨rfl, B11'⟩
  · rw [hG] at hno
    cases hno
theorem puts_law {w : World} {c : Int} {sa ba : Option Addr} {sn sc bn bc : Nat} {vs : List (Int × Int)} {bs : List Int} (h : IsO w c sa sn sc ba bn bc vs bs) (hs : sn ≤ 8796093021952) (hb : bn ≤ 140737488351232) :
    Calls Try.prog 4 #[.agg #[.int .i64 c, .slice sa sn sc, .slice ba bn bc]] w fun e w' => e = .returned (.bool true) ∧ Below w.heap.size w w' := by
  cases hok : okO c vs bn with
  | false => exact puts_no h (by omega) (by omega) hok
  | true => exact puts_yes h (by omega) (by omega) hok
end Go.Proofs.Ytjfaflmmanjjbaa
