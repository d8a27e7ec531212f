/- The document's Put. -/
import Derived.Test.YtkpngpongbpfgaaPutN
import Derived.Test.YtkpngpongbpfgaaOper
import Derived.Deep.CutBlock
import Derived.WalkMore
namespace Go.Proofs.Ytkpngpongbpfgaa
open Go.RowKit
set_option maxRecDepth 100000
set_option maxHeartbeats 4000000 in
theorem rputN_any {w : World} (p neg : Bool) (x y : Nat) (hx : x < 18446744073709551616) (hy : y < 18446744073709551616) {ja : Option Addr} {jn jc : Nat} {xs : List Int} (h : IsB w ja jn jc xs) (hl : jn ≤ 140737488351300) :
    Calls Try.prog 18 #[.agg #[.bool p, .bool neg, .slice ja jn jc, .float .f64 x, .float .f64 y]] w fun e w' => PutNP w p neg xs x y e w' := by
  have hsz := h.size
  have E1 := newF w (numR p neg (.slice ja jn jc) x y)
  have B1 : Below w.heap.size w (w.alloc (numR p neg (.slice ja jn jc) x y)) := box_belowF
  have I1 := h.below B1
  unfold numR at E1 B1 I1
  go_enter Try.func18, Try.ntmps18
  go_wp2_with fail
  generalize w.alloc (.cells #[.bool p, .bool neg, .slice ja jn jc, .float .f64 x, .float .f64 y] 27) = w1 at *
  replace E1 : w1.heap[w.heap.size]? = some (numR p neg (.slice ja jn jc) x y) := E1
  refine (rrightN_any p neg x y I1).mono ?_
  rintro e w2 ⟨rfl, B2⟩
  replace E1 := (B2.block _ (lt_of_blockF E1)).trans E1
  replace I1 := I1.below B2
  replace B1 := below_sizeF B1 (Nat.le_refl _) B2
  clear B2
  obtain ⟨x0, x1, x2, x3, x4, xf⟩ := numR_cells E1
  cases hR : rightN p neg xs x y with
  | false =>
    go_wp2
    go_ret2
    exact ⟨.inl ⟨hR, rfl⟩, B1⟩
  | true =>
    cases p with
    | true =>
      go_upto_region 4 with fail
      refine wp_region_inv' (fun A D a w' => ∃ v10 v11 v12 v13 v14 v15 v16 v2 v3 nb pa pn pc qa qn qc, a = (((((((((A.put (some 10) v10).put (some 11) v11).put (some 12) v12).put (some 13) v13).put (some 14) v14).put (some 15) v15).put (some 16) v16).put (some 2) v2).put (some 3) v3) ∧ Below w2.heap.size w2 w' ∧ (D 0 → v10 = .slice (some ⟨nb, 0, none⟩) 1 1) ∧ (D 1 → v11 = .pointer (some ⟨w.heap.size, 3, none⟩)) ∧ (D 2 → v12 = .float .f64 x) ∧ (D 3 → v13 = .slice pa pn pc) ∧ (D 4 → v14 = .pointer (some ⟨w.heap.size, 4, none⟩)) ∧ (D 5 → v15 = .float .f64 y) ∧ (D 6 → v16 = .slice qa qn qc) ∧ (D 7 → v2 = .slice qa qn qc) ∧ (D 8 → v3 = .int .i64 0) ∧ (D 0 → w2.heap.size ≤ nb) ∧ (D 6 → OwnB w' w2.heap.size (.slice qa qn qc) ([2] ++ bytesN 8 x ++ bytesN 8 y)) ∧ (D 0 → ¬ D 3 → OwnB w' nb (.slice (some ⟨nb, 0, none⟩) 1 1) [2] ∧ nb ≤ w'.heap.size) ∧ (D 3 → ¬ D 6 → OwnB w' nb (.slice pa pn pc) ([2] ++ bytesN 8 x) ∧ nb ≤ w'.heap.size)) (by kernel_rfl) (by kernel_rfl) ?mono ?start ?step ?done
      case mono =>
        rintro D D' a w' hD ⟨v10, v11, v12, v13, v14, v15, v16, v2, v3, nb, pa, pn, pc, qa, qn, qc, ha, hB, e0, e1, e2, e3, e4, e5, e6, e7, e8, hnb, hO3, hO1, hO2⟩
        exact ⟨v10, v11, v12, v13, v14, v15, v16, v2, v3, nb, pa, pn, pc, qa, qn, qc, ha, hB, fun h => e0 ((hD 0).2 h), fun h => e1 ((hD 1).2 h), fun h => e2 ((hD 2).2 h), fun h => e3 ((hD 3).2 h), fun h => e4 ((hD 4).2 h), fun h => e5 ((hD 5).2 h), fun h => e6 ((hD 6).2 h), fun h => e7 ((hD 7).2 h), fun h => e8 ((hD 8).2 h), fun h => hnb ((hD 0).2 h), fun h => hO3 ((hD 6).2 h), fun h h' => hO1 ((hD 0).2 h) (fun k => h' ((hD 3).1 k)), fun h h' => hO2 ((hD 3).2 h) (fun k => h' ((hD 6).1 k))⟩
      case start => exact ⟨undef, undef, undef, undef, undef, undef, undef, .slice none 0 0, .int .i64 0, 0, none, 0, 0, none, 0, 0, by kernel_rfl, (Below.refl _ _).drew, fun h => h.elim, fun h => h.elim, fun h => h.elim, fun h => h.elim, fun h => h.elim, fun h => h.elim, fun h => h.elim, fun h => h.elim, fun h => h.elim, fun h => h.elim, fun h => h.elim, fun h _ => h.elim, fun h _ => h.elim⟩
      case step =>
        intro i o ho D a w' hI hn hcl hd
        obtain ⟨v10, v11, v12, v13, v14, v15, v16, v2, v3, nb, pa, pn, pc, qa, qn, qc, ha, hB, e0, e1, e2, e3, e4, e5, e6, e7, e8, hnb, hO3, hO1, hO2⟩ := hI
        match i, ho with
        | 0, ho =>
          cases Option.some.inj ho
          refine wp_value (w' := w'.alloc (.cells #[.int .u8 2] 5)) (v := .slice (some ⟨w'.heap.size, 0, none⟩) 1 1) (by simp [execOp, go_sem]) ?_
          exact ⟨(.slice (some ⟨w'.heap.size, 0, none⟩) 1 1), v11, v12, v13, v14, v15, v16, v2, v3, w'.heap.size, pa, pn, pc, qa, qn, qc, by rw [ha]; kernel_rfl, hB.alloc hB.size _, fun _ => rfl, fun h => e1 (h.resolve_left (by decide)), fun h => e2 (h.resolve_left (by decide)), fun h => e3 (h.resolve_left (by decide)), fun h => e4 (h.resolve_left (by decide)), fun h => e5 (h.resolve_left (by decide)), fun h => e6 (h.resolve_left (by decide)), fun h => e7 (h.resolve_left (by decide)), fun h => e8 (h.resolve_left (by decide)), fun _ => hB.size, fun h => (hO3 (h.resolve_left (by decide))).alloc _, fun _ _ => ⟨ownB_lit _ 2 (by decide), by simp⟩, fun h _ => absurd (hcl 3 _ rfl (h.resolve_left (by decide)) ⟨0, .data⟩ (by simp) rfl) hn⟩
        | 1, ho =>
          cases Option.some.inj ho
          have ev : a.tmps[1]?.getD undef = .pointer (some ⟨w.heap.size, 0, none⟩) := by rw [ha]; kernel_rfl
          refine wp_value (w' := w') (v := .pointer (some ⟨w.heap.size, 3, none⟩)) (by simp [execOp, ev, go_sem]) ?_
          exact ⟨v10, (.pointer (some ⟨w.heap.size, 3, none⟩)), v12, v13, v14, v15, v16, v2, v3, nb, pa, pn, pc, qa, qn, qc, by rw [ha]; kernel_rfl, hB, fun h => e0 (h.resolve_left (by decide)), fun _ => rfl, fun h => e2 (h.resolve_left (by decide)), fun h => e3 (h.resolve_left (by decide)), fun h => e4 (h.resolve_left (by decide)), fun h => e5 (h.resolve_left (by decide)), fun h => e6 (h.resolve_left (by decide)), fun h => e7 (h.resolve_left (by decide)), fun h => e8 (h.resolve_left (by decide)), fun h => hnb (h.resolve_left (by decide)), fun h => hO3 (h.resolve_left (by decide)), fun h h' => hO1 (h.resolve_left (by decide)) (fun k => h' (.inr k)), fun h h' => hO2 (h.resolve_left (by decide)) (fun k => h' (.inr k))⟩
        | 2, ho =>
          cases Option.some.inj ho
          have ev : a.tmps[11]?.getD undef = .pointer (some ⟨w.heap.size, 3, none⟩) := by rw [ha, e1 (hd ⟨1, .data⟩ (by simp) rfl)]; kernel_rfl
          obtain ⟨z0, z1, z2, z3, z4, zf⟩ := numR_cells ((hB.block _ (lt_of_blockF E1)).trans E1)
          clear z0 z1 z2 zf
          refine wp_value (w' := w') (v := .float .f64 x) (by simp [execOp, ev, go_sem, z3]) ?_
          exact ⟨v10, v11, (.float .f64 x), v13, v14, v15, v16, v2, v3, nb, pa, pn, pc, qa, qn, qc, by rw [ha]; kernel_rfl, hB, fun h => e0 (h.resolve_left (by decide)), fun h => e1 (h.resolve_left (by decide)), fun _ => rfl, fun h => e3 (h.resolve_left (by decide)), fun h => e4 (h.resolve_left (by decide)), fun h => e5 (h.resolve_left (by decide)), fun h => e6 (h.resolve_left (by decide)), fun h => e7 (h.resolve_left (by decide)), fun h => e8 (h.resolve_left (by decide)), fun h => hnb (h.resolve_left (by decide)), fun h => hO3 (h.resolve_left (by decide)), fun h h' => hO1 (h.resolve_left (by decide)) (fun k => h' (.inr k)), fun h h' => hO2 (h.resolve_left (by decide)) (fun k => h' (.inr k))⟩
        | 3, ho =>
          cases Option.some.inj ho
          have ev : a.tmps[10]?.getD undef = .slice (some ⟨nb, 0, none⟩) 1 1 := by rw [ha, e0 (hd ⟨0, .data⟩ (by simp) rfl)]; kernel_rfl
          have ev' : a.tmps[12]?.getD undef = .float .f64 x := by rw [ha, e2 (hd ⟨2, .data⟩ (by simp) rfl)]; kernel_rfl
          refine wp_enter (f := 39) (args := #[.slice (some ⟨nb, 0, none⟩) 1 1, .float .f64 x]) (by simp [execOp, ev, ev', go_sem]) ?_
          refine (eight_any x hx (hO1 (hd ⟨0, .data⟩ (by simp) rfl) hn).1 (hO1 (hd ⟨0, .data⟩ (by simp) rfl) hn).2 (by simp)).mono ?_
          rintro e w6 ⟨v5, rfl, O5, HB⟩
          refine ⟨_, rfl, ?_⟩
          obtain ⟨pa', pn', pc', rfl, -⟩ := O5.shapeN
          exact ⟨v10, v11, v12, (.slice pa' pn' pc'), v14, v15, v16, v2, v3, nb, pa', pn', pc', qa, qn, qc, by rw [ha]; kernel_rfl, hB.trans (HB.mono (hnb (hd ⟨0, .data⟩ (by simp) rfl))), fun h => e0 (h.resolve_left (by decide)), fun h => e1 (h.resolve_left (by decide)), fun h => e2 (h.resolve_left (by decide)), fun _ => rfl, fun h => e4 (h.resolve_left (by decide)), fun h => e5 (h.resolve_left (by decide)), fun h => e6 (h.resolve_left (by decide)), fun h => e7 (h.resolve_left (by decide)), fun h => e8 (h.resolve_left (by decide)), fun h => hnb (h.resolve_left (by decide)), fun h => absurd (hcl 6 _ rfl (h.resolve_left (by decide)) ⟨3, .data⟩ (by simp) rfl) hn, fun _ h' => absurd (.inl rfl) h', fun _ _ => ⟨O5, Nat.le_trans (hO1 (hd ⟨0, .data⟩ (by simp) rfl) hn).2 HB.size⟩⟩
        | 4, ho =>
          cases Option.some.inj ho
          have ev : a.tmps[1]?.getD undef = .pointer (some ⟨w.heap.size, 0, none⟩) := by rw [ha]; kernel_rfl
          refine wp_value (w' := w') (v := .pointer (some ⟨w.heap.size, 4, none⟩)) (by simp [execOp, ev, go_sem]) ?_
          exact ⟨v10, v11, v12, v13, (.pointer (some ⟨w.heap.size, 4, none⟩)), v15, v16, v2, v3, nb, pa, pn, pc, qa, qn, qc, by rw [ha]; kernel_rfl, hB, fun h => e0 (h.resolve_left (by decide)), fun h => e1 (h.resolve_left (by decide)), fun h => e2 (h.resolve_left (by decide)), fun h => e3 (h.resolve_left (by decide)), fun _ => rfl, fun h => e5 (h.resolve_left (by decide)), fun h => e6 (h.resolve_left (by decide)), fun h => e7 (h.resolve_left (by decide)), fun h => e8 (h.resolve_left (by decide)), fun h => hnb (h.resolve_left (by decide)), fun h => hO3 (h.resolve_left (by decide)), fun h h' => hO1 (h.resolve_left (by decide)) (fun k => h' (.inr k)), fun h h' => hO2 (h.resolve_left (by decide)) (fun k => h' (.inr k))⟩
        | 5, ho =>
          cases Option.some.inj ho
          have ev : a.tmps[14]?.getD undef = .pointer (some ⟨w.heap.size, 4, none⟩) := by rw [ha, e4 (hd ⟨4, .data⟩ (by simp) rfl)]; kernel_rfl
          obtain ⟨z0, z1, z2, z3, z4, zf⟩ := numR_cells ((hB.block _ (lt_of_blockF E1)).trans E1)
          clear z0 z1 z2 zf
          refine wp_value (w' := w') (v := .float .f64 y) (by simp [execOp, ev, go_sem, z4]) ?_
          exact ⟨v10, v11, v12, v13, v14, (.float .f64 y), v16, v2, v3, nb, pa, pn, pc, qa, qn, qc, by rw [ha]; kernel_rfl, hB, fun h => e0 (h.resolve_left (by decide)), fun h => e1 (h.resolve_left (by decide)), fun h => e2 (h.resolve_left (by decide)), fun h => e3 (h.resolve_left (by decide)), fun h => e4 (h.resolve_left (by decide)), fun _ => rfl, fun h => e6 (h.resolve_left (by decide)), fun h => e7 (h.resolve_left (by decide)), fun h => e8 (h.resolve_left (by decide)), fun h => hnb (h.resolve_left (by decide)), fun h => hO3 (h.resolve_left (by decide)), fun h h' => hO1 (h.resolve_left (by decide)) (fun k => h' (.inr k)), fun h h' => hO2 (h.resolve_left (by decide)) (fun k => h' (.inr k))⟩
        | 6, ho =>
          cases Option.some.inj ho
          have ev : a.tmps[13]?.getD undef = .slice pa pn pc := by rw [ha, e3 (hd ⟨3, .data⟩ (by simp) rfl)]; kernel_rfl
          have ev' : a.tmps[15]?.getD undef = .float .f64 y := by rw [ha, e5 (hd ⟨5, .data⟩ (by simp) rfl)]; kernel_rfl
          refine wp_enter (f := 39) (args := #[.slice pa pn pc, .float .f64 y]) (by simp [execOp, ev, ev', go_sem]) ?_
          refine (eight_any y hy (hO2 (hd ⟨3, .data⟩ (by simp) rfl) hn).1 (hO2 (hd ⟨3, .data⟩ (by simp) rfl) hn).2 (by simp [bytesN_len])).mono ?_
          rintro e w6 ⟨v5, rfl, O5, HB⟩
          refine ⟨_, rfl, ?_⟩
          obtain ⟨qa', qn', qc', rfl, -⟩ := O5.shapeN
          have hD0 : D 0 := hcl 3 _ rfl (hd ⟨3, .data⟩ (by simp) rfl) ⟨0, .data⟩ (by simp) rfl
          exact ⟨v10, v11, v12, v13, v14, v15, (.slice qa' qn' qc'), v2, v3, nb, pa, pn, pc, qa', qn', qc', by rw [ha]; kernel_rfl, hB.trans (HB.mono (hnb hD0)), fun h => e0 (h.resolve_left (by decide)), fun h => e1 (h.resolve_left (by decide)), fun h => e2 (h.resolve_left (by decide)), fun h => e3 (h.resolve_left (by decide)), fun h => e4 (h.resolve_left (by decide)), fun h => e5 (h.resolve_left (by decide)), fun _ => rfl, fun h => absurd (h.resolve_left (by decide)) (fun h => hn (hcl 7 _ rfl h ⟨6, .data⟩ (by simp) rfl)), fun h => e8 (h.resolve_left (by decide)), fun h => hnb (h.resolve_left (by decide)), fun _ => OwnB.monoN O5 (hnb hD0), fun _ h' => absurd (.inr (hd ⟨3, .data⟩ (by simp) rfl)) h', fun _ h' => absurd (.inl rfl) h'⟩
        | 7, ho =>
          cases Option.some.inj ho
          have ev : a.tmps[16]?.getD undef = .slice qa qn qc := by rw [ha, e6 (hd ⟨6, .data⟩ (by simp) rfl)]; kernel_rfl
          refine wp_value (w' := w') (v := .slice qa qn qc) (by simp [execOp, ev, go_sem]) ?_
          exact ⟨v10, v11, v12, v13, v14, v15, v16, (.slice qa qn qc), v3, nb, pa, pn, pc, qa, qn, qc, by rw [ha]; kernel_rfl, hB, fun h => e0 (h.resolve_left (by decide)), fun h => e1 (h.resolve_left (by decide)), fun h => e2 (h.resolve_left (by decide)), fun h => e3 (h.resolve_left (by decide)), fun h => e4 (h.resolve_left (by decide)), fun h => e5 (h.resolve_left (by decide)), fun h => e6 (h.resolve_left (by decide)), fun _ => rfl, fun h => e8 (h.resolve_left (by decide)), fun h => hnb (h.resolve_left (by decide)), fun h => hO3 (h.resolve_left (by decide)), fun h h' => hO1 (h.resolve_left (by decide)) (fun k => h' (.inr k)), fun h h' => hO2 (h.resolve_left (by decide)) (fun k => h' (.inr k))⟩
        | 8, ho =>
          cases Option.some.inj ho
          refine wp_value (w' := w') (v := .int .i64 0) (by simp [execOp, go_sem]) ?_
          exact ⟨v10, v11, v12, v13, v14, v15, v16, v2, (.int .i64 0), nb, pa, pn, pc, qa, qn, qc, by rw [ha]; kernel_rfl, hB, fun h => e0 (h.resolve_left (by decide)), fun h => e1 (h.resolve_left (by decide)), fun h => e2 (h.resolve_left (by decide)), fun h => e3 (h.resolve_left (by decide)), fun h => e4 (h.resolve_left (by decide)), fun h => e5 (h.resolve_left (by decide)), fun h => e6 (h.resolve_left (by decide)), fun h => e7 (h.resolve_left (by decide)), fun _ => rfl, fun h => hnb (h.resolve_left (by decide)), fun h => hO3 (h.resolve_left (by decide)), fun h h' => hO1 (h.resolve_left (by decide)) (fun k => h' (.inr k)), fun h h' => hO2 (h.resolve_left (by decide)) (fun k => h' (.inr k))⟩
        | i + 9, ho => simp at ho
      case done =>
        rintro D a w' ⟨v10, v11, v12, v13, v14, v15, v16, v2, v3, nb, pa, pn, pc, qa, qn, qc, ha, hB, e0, e1, e2, e3, e4, e5, e6, e7, e8, hnb, hO3, hO1, hO2⟩ hall
        have hO := hO3 (hall 6 (by decide))
        obtain rfl := e0 (hall 0 (by decide))
        obtain rfl := e1 (hall 1 (by decide))
        obtain rfl := e2 (hall 2 (by decide))
        obtain rfl := e3 (hall 3 (by decide))
        obtain rfl := e4 (hall 4 (by decide))
        obtain rfl := e5 (hall 5 (by decide))
        obtain rfl := e6 (hall 6 (by decide))
        obtain rfl := e7 (hall 7 (by decide))
        obtain rfl := e8 (hall 8 (by decide))
        clear hO1 hO2 hO3 hnb hall e0 e1 e2 e3 e4 e5 e6 e7 e8
        rw [ha]
        clear ha
        simp only [Act.put, List.setIfInBounds_toArray, List.set_cons_zero, List.set_cons_succ]
        have B7 := B1.trans (hB.mono B1.size)
        go_wp2
        go_ret2
        refine ⟨.inr ⟨hR, _, _, _, rfl, ?_⟩, B7⟩
        have := hO.monoN B1.size
        simpa [putN] using this
    | false =>
      have hw2 : w.heap.size ≤ w2.heap.size := B1.size
      cases neg with
      | true =>
        have L3 := newF w2 (.cells #[.int .u8 0] 5)
        have O3 := ownB_lit w2 1 (by decide)
        have I3 := I1.below (box_belowF (o := .cells #[.int .u8 1] 5))
        obtain ⟨u0, u1, u2, u3, u4, uf⟩ := numR_cells (oldF E1 (.cells #[.int .u8 1] 5))
        obtain ⟨t0, t1, t2, t3, t4, tf⟩ := numR_cells (oldF E1 (.cells #[.int .u8 0] 5))
        have B3 : Below w.heap.size w (w2.alloc (.cells #[.int .u8 1] 5)) := below_sizeF B1 (Nat.le_refl _) box_belowF
        have l0 : (w2.alloc (.cells #[.int .u8 0] 5)).cell? ⟨w2.heap.size, 0, none⟩ = some (.int .u8 0) := by rw [cell_of_row _ _ _ _ _ _ L3]; rfl
        have lf : (w2.alloc (.cells #[.int .u8 0] 5)).frozen? ⟨w2.heap.size, 0, none⟩ = false := frozen_of_row _ _ _ _ _ L3
        go_wp2_with (at_builtin; refine app_ownN _ rfl _ _ rfl w2.heap.size _ [1] rfl O3 _ _ _ _ rfl I3 (by simp; omega) (by omega) (by simp) ?_)
        intro a5 n5 c5 w5 O5 B5
        have B7 := B3.trans (B5.mono hw2)
        have O7 := O5.monoN hw2
        go_wp2
        go_ret2
        exact ⟨.inr ⟨hR, _, _, _, rfl, by simpa [putN] using O7⟩, B7⟩
      | false =>
        have O3 := ownB_lit w2 0 (by decide)
        have I3 := I1.below (box_belowF (o := .cells #[.int .u8 0] 5))
        obtain ⟨u0, u1, u2, u3, u4, uf⟩ := numR_cells (oldF E1 (.cells #[.int .u8 0] 5))
        have B3 : Below w.heap.size w (w2.alloc (.cells #[.int .u8 0] 5)) := below_sizeF B1 (Nat.le_refl _) box_belowF
        go_wp2_with (at_builtin; refine app_ownN _ rfl _ _ rfl w2.heap.size _ [0] rfl O3 _ _ _ _ rfl I3 (by simp; omega) (by omega) (by simp) ?_)
        intro a5 n5 c5 w5 O5 B5
        have B7 := B3.trans (B5.mono hw2)
        have O7 := O5.monoN hw2
        go_wp2
        go_ret2
        exact ⟨.inr ⟨hR, _, _, _, rfl, by simpa [putN] using O7⟩, B7⟩
end Go.Proofs.Ytkpngpongbpfgaa
