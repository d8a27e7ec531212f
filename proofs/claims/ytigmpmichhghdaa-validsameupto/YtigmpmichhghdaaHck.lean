/- History.Check. -/
import Derived.Test.YtigmpmichhghdaaAdd
namespace Go.Proofs.Ytigmpmichhghdaa
open Go.RowKit
set_option maxRecDepth 100000
set_option maxHeartbeats 4000000 in
theorem hahead_any {w : World} {S T : Nat → Prop} {bh : Nat} {f : Int → List Int} {ks : List Int} {ad : Option Int} {m : Tm} (H : Hist w S T bh f ks ad) (hrise : ∀ o, RiseI (f o)) (hlen : ∀ o, (f o).length ≤ 900000000) (hin : m.In w) (hmr : m.rn ≤ 1048576) (hmw : m.wn ≤ 1048576) :
    Calls Try.prog 35 #[.pointer (some ⟨bh, 0, none⟩), .agg #[.int .i64 (Tm.base m), .int .i64 (Tm.com m), .slice (Tm.ra m) (Tm.rn m) (Tm.rc m), .slice (Tm.wa m) (Tm.wn m) (Tm.wc m)]] w fun e w' => e = .returned (wayV (aheadR f m.base m.rs m.ws (fun _ => true))) ∧ Below w.heap.size w w' := by
  have eg28 : ∀ args w, (callFunc 28 args).run Try.prog w = .ok (.enter 28 args) w := enters_of Try.func28 (by kernel_rfl) rfl
  have B1 : Below w.heap.size w (w.alloc (txB m 31)) := box_below
  have E1 : (w.alloc (txB m 31)).heap[w.heap.size]? = some (txB m 31) := new1 _ _
  have H1 := H.below B1
  have hin1 := hin.below B1
  obtain ⟨y0, y1, y2, y3, _⟩ := tx_cells E1
  have htl := lt_of_block E1
  obtain ⟨P1, _, _, _, mv, ka, kn, kc, EH1, _, _⟩ := H1
  have hbl := lt_of_block EH1
  obtain ⟨_, _, _, _, q4, q5, _⟩ := his_cells EH1
  go_enter Try.func35, Try.ntmps35
  go_upto_region 1 with fail
  unfold txB at B1 E1 hin1 y0 y1 y2 y3 htl P1 EH1 hbl q4 q5
  generalize w.alloc (.cells #[.int .i64 m.base, .int .i64 m.com, .slice m.ra m.rn m.rc, .slice m.wa m.wn m.wc] 31) = w1 at *
  refine wp_region_inv' (fun A D a w' => ∃ v5 v6 v7 v8 v9 v10 v11, a = (((((((A.put (some 5) v5).put (some 6) v6).put (some 7) v7).put (some 8) v8).put (some 9) v9).put (some 10) v10).put (some 11) v11) ∧ Below w1.heap.size w1 w' ∧ (D 0 → v5 = .pointer (some ⟨bh, 0, none⟩)) ∧ (D 1 → v6 = .pointer (some ⟨bh, 0, none⟩)) ∧ (D 2 → v7 = .pointer (some ⟨bh, 4, none⟩)) ∧ (D 3 → v8 = .agg #[.bool false, .int .i64 0]) ∧ (D 4 → v9 = .pointer (some ⟨w.heap.size, 0, none⟩)) ∧ (D 5 → v10 = .int .i64 (Tm.base m)) ∧ (D 6 → v11 = .bool false)) (by kernel_rfl) (by kernel_rfl) ?mono ?start ?step ?done
  case mono =>
    rintro D D' a w' hD ⟨v5, v6, v7, v8, v9, v10, v11, ha, hB, e0, e1, e2, e3, e4, e5, e6⟩
    exact ⟨v5, v6, v7, v8, v9, v10, v11, ha, hB, fun h => e0 ((hD 0).2 h), fun h => e1 ((hD 1).2 h), fun h => e2 ((hD 2).2 h), fun h => e3 ((hD 3).2 h), fun h => e4 ((hD 4).2 h), fun h => e5 ((hD 5).2 h), fun h => e6 ((hD 6).2 h)⟩
  case start => exact ⟨undef, undef, undef, undef, undef, undef, undef, by kernel_rfl, (Below.refl _ _).drew, fun h => h.elim, fun h => h.elim, fun h => h.elim, fun h => h.elim, fun h => h.elim, fun h => h.elim, fun h => h.elim⟩
  case step =>
    intro i o ho D a w' hI hn hcl hd
    obtain ⟨v5, v6, v7, v8, v9, v10, v11, ha, hB, e0, e1, e2, e3, e4, e5, e6⟩ := hI
    match i, ho with
    | 0, ho =>
      cases Option.some.inj ho
      have ev : a.tmps[0]?.getD undef = .pointer (some ⟨bh, 0, none⟩) := by rw [ha]; kernel_rfl
      refine wp_value (w' := w') (v := .pointer (some ⟨bh, 0, none⟩)) (by simp [execOp, ev, go_sem]) ?_
      exact ⟨(.pointer (some ⟨bh, 0, none⟩)), v6, v7, v8, v9, v10, v11, by rw [ha]; kernel_rfl, hB, fun _ => rfl, fun h => e1 (h.resolve_left (by decide)), fun h => e2 (h.resolve_left (by decide)), fun h => e3 (h.resolve_left (by decide)), fun h => e4 (h.resolve_left (by decide)), fun h => e5 (h.resolve_left (by decide)), fun h => e6 (h.resolve_left (by decide))⟩
    | 1, ho =>
      cases Option.some.inj ho
      have ev : a.tmps[5]?.getD undef = .pointer (some ⟨bh, 0, none⟩) := by rw [ha, e0 (hd ⟨0, .data⟩ (by simp) rfl)]; kernel_rfl
      refine wp_value (w' := w') (v := .pointer (some ⟨bh, 0, none⟩)) (by simp [execOp, ev, go_sem]) ?_
      exact ⟨v5, (.pointer (some ⟨bh, 0, none⟩)), v7, v8, v9, v10, v11, by rw [ha]; kernel_rfl, hB, fun h => e0 (h.resolve_left (by decide)), fun _ => rfl, fun h => e2 (h.resolve_left (by decide)), fun h => e3 (h.resolve_left (by decide)), fun h => e4 (h.resolve_left (by decide)), fun h => e5 (h.resolve_left (by decide)), fun h => e6 (h.resolve_left (by decide))⟩
    | 2, ho =>
      cases Option.some.inj ho
      have ev : a.tmps[6]?.getD undef = .pointer (some ⟨bh, 0, none⟩) := by rw [ha, e1 (hd ⟨1, .data⟩ (by simp) rfl)]; kernel_rfl
      refine wp_value (w' := w') (v := .pointer (some ⟨bh, 4, none⟩)) (by simp [execOp, ev, go_sem]) ?_
      exact ⟨v5, v6, (.pointer (some ⟨bh, 4, none⟩)), v8, v9, v10, v11, by rw [ha]; kernel_rfl, hB, fun h => e0 (h.resolve_left (by decide)), fun h => e1 (h.resolve_left (by decide)), fun _ => rfl, fun h => e3 (h.resolve_left (by decide)), fun h => e4 (h.resolve_left (by decide)), fun h => e5 (h.resolve_left (by decide)), fun h => e6 (h.resolve_left (by decide))⟩
    | 3, ho =>
      cases Option.some.inj ho
      have ev : a.tmps[7]?.getD undef = .pointer (some ⟨bh, 4, none⟩) := by rw [ha, e2 (hd ⟨2, .data⟩ (by simp) rfl)]; kernel_rfl
      have z2 := (hB.cell (p := ⟨bh, 4, none⟩) hbl).trans q4
      have z3 := (hB.cell (p := ⟨bh, 5, none⟩) hbl).trans q5
      refine wp_value (w' := w') (v := .agg #[.bool false, .int .i64 0]) (by simp [execOp, ev, go_sem, z2, z3]) ?_
      exact ⟨v5, v6, v7, (.agg #[.bool false, .int .i64 0]), v9, v10, v11, by rw [ha]; kernel_rfl, hB, fun h => e0 (h.resolve_left (by decide)), fun h => e1 (h.resolve_left (by decide)), fun h => e2 (h.resolve_left (by decide)), fun _ => rfl, fun h => e4 (h.resolve_left (by decide)), fun h => e5 (h.resolve_left (by decide)), fun h => e6 (h.resolve_left (by decide))⟩
    | 4, ho =>
      cases Option.some.inj ho
      have ev : a.tmps[3]?.getD undef = .pointer (some ⟨w.heap.size, 0, none⟩) := by rw [ha]; kernel_rfl
      refine wp_value (w' := w') (v := .pointer (some ⟨w.heap.size, 0, none⟩)) (by simp [execOp, ev, go_sem]) ?_
      exact ⟨v5, v6, v7, v8, (.pointer (some ⟨w.heap.size, 0, none⟩)), v10, v11, by rw [ha]; kernel_rfl, hB, fun h => e0 (h.resolve_left (by decide)), fun h => e1 (h.resolve_left (by decide)), fun h => e2 (h.resolve_left (by decide)), fun h => e3 (h.resolve_left (by decide)), fun _ => rfl, fun h => e5 (h.resolve_left (by decide)), fun h => e6 (h.resolve_left (by decide))⟩
    | 5, ho =>
      cases Option.some.inj ho
      have ev : a.tmps[9]?.getD undef = .pointer (some ⟨w.heap.size, 0, none⟩) := by rw [ha, e4 (hd ⟨4, .data⟩ (by simp) rfl)]; kernel_rfl
      have z1 := (hB.cell (p := ⟨w.heap.size, 0, none⟩) htl).trans y0
      refine wp_value (w' := w') (v := .int .i64 (Tm.base m)) (by simp [execOp, ev, go_sem, z1]) ?_
      exact ⟨v5, v6, v7, v8, v9, (.int .i64 (Tm.base m)), v11, by rw [ha]; kernel_rfl, hB, fun h => e0 (h.resolve_left (by decide)), fun h => e1 (h.resolve_left (by decide)), fun h => e2 (h.resolve_left (by decide)), fun h => e3 (h.resolve_left (by decide)), fun h => e4 (h.resolve_left (by decide)), fun _ => rfl, fun h => e6 (h.resolve_left (by decide))⟩
    | 6, ho =>
      cases Option.some.inj ho
      have ev : a.tmps[8]?.getD undef = .agg #[.bool false, .int .i64 0] := by rw [ha, e3 (hd ⟨3, .data⟩ (by simp) rfl)]; kernel_rfl
      have ev' : a.tmps[10]?.getD undef = .int .i64 (Tm.base m) := by rw [ha, e5 (hd ⟨5, .data⟩ (by simp) rfl)]; kernel_rfl
      have hbw := habove_any 0 m.base w'
      refine wp_enter (f := 44) (args := #[.agg #[.bool false, .int .i64 0], .int .i64 (Tm.base m)]) (by simp [execOp, ev, ev', go_sem]) ?_
      refine (hbw).mono ?_
      rintro e w6 ⟨rfl, B6⟩
      refine ⟨_, rfl, ?_⟩
      exact ⟨v5, v6, v7, v8, v9, v10, (.bool false), by rw [ha]; kernel_rfl, below_size hB hB.size B6, fun h => e0 (h.resolve_left (by decide)), fun h => e1 (h.resolve_left (by decide)), fun h => e2 (h.resolve_left (by decide)), fun h => e3 (h.resolve_left (by decide)), fun h => e4 (h.resolve_left (by decide)), fun h => e5 (h.resolve_left (by decide)), fun _ => rfl⟩
    | i + 7, ho => simp at ho
  case done =>
    rintro D a w' ⟨v5, v6, v7, v8, v9, v10, v11, ha, hB, e0, e1, e2, e3, e4, e5, e6⟩ hall
    obtain rfl := e0 (hall 0 (by decide))
    obtain rfl := e1 (hall 1 (by decide))
    obtain rfl := e2 (hall 2 (by decide))
    obtain rfl := e3 (hall 3 (by decide))
    obtain rfl := e4 (hall 4 (by decide))
    obtain rfl := e5 (hall 5 (by decide))
    obtain rfl := e6 (hall 6 (by decide))
    clear hall e0 e1 e2 e3 e4 e5 e6
    rw [ha]
    clear ha
    simp only [Act.put, List.setIfInBounds_toArray, List.set_cons_zero, List.set_cons_succ]
    have E2 := (hB.block _ htl).trans E1
    have P2 := P1.below hB
    have hin2 := hin1.below hB
    have B2 := B1.trans (hB.mono B1.size)
    clear q4 q5 y0 y1 y2 y3 B1 E1 hin1 P1 EH1 htl hbl hB
    obtain ⟨y0, y1, y2, y3, _⟩ := tx_cells (m := m) (t := 31) E2
    have htl2 := lt_of_block E2
    go_upto_region 3 with fail
    generalize w' = w2 at *
    refine wp_region_inv' (fun A D a w' => ∃ v14 v15 v16 v17 v18 v4, a = ((((((A.put (some 14) v14).put (some 15) v15).put (some 16) v16).put (some 17) v17).put (some 18) v18).put (some 4) v4) ∧ Below w2.heap.size w2 w' ∧ (D 0 → v14 = .pointer (some ⟨bh, 0, none⟩)) ∧ (D 1 → v15 = .pointer (some ⟨bh, 0, none⟩)) ∧ (D 2 → v16 = .pointer (some ⟨bh, 0, none⟩)) ∧ (D 3 → v17 = .agg #[.int .i64 (Tm.base m), .int .i64 (Tm.com m), .slice (Tm.ra m) (Tm.rn m) (Tm.rc m), .slice (Tm.wa m) (Tm.wn m) (Tm.wc m)]) ∧ (D 4 → v18 = wayV (aheadR f m.base m.rs m.ws (fun _ => true))) ∧ (D 5 → v4 = wayV (aheadR f m.base m.rs m.ws (fun _ => true)))) (by kernel_rfl) (by kernel_rfl) ?mono ?start ?step ?done
    case mono =>
      rintro D D' a w' hD ⟨v14, v15, v16, v17, v18, v4, ha, hB, e0, e1, e2, e3, e4, e5⟩
      exact ⟨v14, v15, v16, v17, v18, v4, ha, hB, fun h => e0 ((hD 0).2 h), fun h => e1 ((hD 1).2 h), fun h => e2 ((hD 2).2 h), fun h => e3 ((hD 3).2 h), fun h => e4 ((hD 4).2 h), fun h => e5 ((hD 5).2 h)⟩
    case start => exact ⟨undef, undef, undef, undef, undef, .nilIface, by kernel_rfl, (Below.refl _ _).drew, fun h => h.elim, fun h => h.elim, fun h => h.elim, fun h => h.elim, fun h => h.elim, fun h => h.elim⟩
    case step =>
      intro i o ho D a w' hI hn hcl hd
      obtain ⟨v14, v15, v16, v17, v18, v4, ha, hB, e0, e1, e2, e3, e4, e5⟩ := hI
      match i, ho with
      | 0, ho =>
        cases Option.some.inj ho
        have ev : a.tmps[0]?.getD undef = .pointer (some ⟨bh, 0, none⟩) := by rw [ha]; kernel_rfl
        refine wp_value (w' := w') (v := .pointer (some ⟨bh, 0, none⟩)) (by simp [execOp, ev, go_sem]) ?_
        exact ⟨(.pointer (some ⟨bh, 0, none⟩)), v15, v16, v17, v18, v4, by rw [ha]; kernel_rfl, hB, fun _ => rfl, fun h => e1 (h.resolve_left (by decide)), fun h => e2 (h.resolve_left (by decide)), fun h => e3 (h.resolve_left (by decide)), fun h => e4 (h.resolve_left (by decide)), fun h => e5 (h.resolve_left (by decide))⟩
      | 1, ho =>
        cases Option.some.inj ho
        have ev : a.tmps[14]?.getD undef = .pointer (some ⟨bh, 0, none⟩) := by rw [ha, e0 (hd ⟨0, .data⟩ (by simp) rfl)]; kernel_rfl
        refine wp_value (w' := w') (v := .pointer (some ⟨bh, 0, none⟩)) (by simp [execOp, ev, go_sem]) ?_
        exact ⟨v14, (.pointer (some ⟨bh, 0, none⟩)), v16, v17, v18, v4, by rw [ha]; kernel_rfl, hB, fun h => e0 (h.resolve_left (by decide)), fun _ => rfl, fun h => e2 (h.resolve_left (by decide)), fun h => e3 (h.resolve_left (by decide)), fun h => e4 (h.resolve_left (by decide)), fun h => e5 (h.resolve_left (by decide))⟩
      | 2, ho =>
        cases Option.some.inj ho
        have ev : a.tmps[15]?.getD undef = .pointer (some ⟨bh, 0, none⟩) := by rw [ha, e1 (hd ⟨1, .data⟩ (by simp) rfl)]; kernel_rfl
        refine wp_value (w' := w') (v := .pointer (some ⟨bh, 0, none⟩)) (by simp [execOp, ev, go_sem]) ?_
        exact ⟨v14, v15, (.pointer (some ⟨bh, 0, none⟩)), v17, v18, v4, by rw [ha]; kernel_rfl, hB, fun h => e0 (h.resolve_left (by decide)), fun h => e1 (h.resolve_left (by decide)), fun _ => rfl, fun h => e3 (h.resolve_left (by decide)), fun h => e4 (h.resolve_left (by decide)), fun h => e5 (h.resolve_left (by decide))⟩
      | 3, ho =>
        cases Option.some.inj ho
        have ev : a.tmps[3]?.getD undef = .pointer (some ⟨w.heap.size, 0, none⟩) := by rw [ha]; kernel_rfl
        have z0 := (hB.cell (p := ⟨w.heap.size, 0, none⟩) htl2).trans y0
        have z1 := (hB.cell (p := ⟨w.heap.size, 1, none⟩) htl2).trans y1
        have z2 := (hB.cell (p := ⟨w.heap.size, 2, none⟩) htl2).trans y2
        have z3 := (hB.cell (p := ⟨w.heap.size, 3, none⟩) htl2).trans y3
        refine wp_value (w' := w') (v := .agg #[.int .i64 (Tm.base m), .int .i64 (Tm.com m), .slice (Tm.ra m) (Tm.rn m) (Tm.rc m), .slice (Tm.wa m) (Tm.wn m) (Tm.wc m)]) (by simp [execOp, ev, go_sem, z0, z1, z2, z3]) ?_
        exact ⟨v14, v15, v16, (.agg #[.int .i64 (Tm.base m), .int .i64 (Tm.com m), .slice (Tm.ra m) (Tm.rn m) (Tm.rc m), .slice (Tm.wa m) (Tm.wn m) (Tm.wc m)]), v18, v4, by rw [ha]; kernel_rfl, hB, fun h => e0 (h.resolve_left (by decide)), fun h => e1 (h.resolve_left (by decide)), fun h => e2 (h.resolve_left (by decide)), fun _ => rfl, fun h => e4 (h.resolve_left (by decide)), fun h => e5 (h.resolve_left (by decide))⟩
      | 4, ho =>
        cases Option.some.inj ho
        have ev : a.tmps[16]?.getD undef = .pointer (some ⟨bh, 0, none⟩) := by rw [ha, e2 (hd ⟨2, .data⟩ (by simp) rfl)]; kernel_rfl
        have ev' : a.tmps[17]?.getD undef = .agg #[.int .i64 (Tm.base m), .int .i64 (Tm.com m), .slice (Tm.ra m) (Tm.rn m) (Tm.rc m), .slice (Tm.wa m) (Tm.wn m) (Tm.wc m)] := by rw [ha, e3 (hd ⟨3, .data⟩ (by simp) rfl)]; kernel_rfl
        refine wp_enter (f := 26) (args := #[.pointer (some ⟨bh, 0, none⟩), .agg #[.int .i64 (Tm.base m), .int .i64 (Tm.com m), .slice (Tm.ra m) (Tm.rn m) (Tm.rc m), .slice (Tm.wa m) (Tm.wn m) (Tm.wc m)], .func (.func 28) #[] #[]]) (by simp [execOp, ev, ev', go_sem]) ?_
        refine (ahead_any (m := m) (g := 28) (lb := #[]) (cnt := fun _ => true) (P2.below hB) hrise hlen (hin2.below hB) hmr hmw eg28 (fun W x _ => (always_any x W).mono (fun e w' h => ⟨h.1, h.2 ▸ Below.refl _ _⟩))).mono ?_
        rintro e w6 ⟨rfl, B6⟩
        refine ⟨_, rfl, ?_⟩
        exact ⟨v14, v15, v16, v17, (wayV (aheadR f m.base m.rs m.ws (fun _ => true))), v4, by rw [ha]; kernel_rfl, below_size hB hB.size B6, fun h => e0 (h.resolve_left (by decide)), fun h => e1 (h.resolve_left (by decide)), fun h => e2 (h.resolve_left (by decide)), fun h => e3 (h.resolve_left (by decide)), fun _ => rfl, fun h => e5 (h.resolve_left (by decide))⟩
      | 5, ho =>
        cases Option.some.inj ho
        have ev : a.tmps[18]?.getD undef = wayV (aheadR f m.base m.rs m.ws (fun _ => true)) := by rw [ha, e4 (hd ⟨4, .data⟩ (by simp) rfl)]; kernel_rfl
        refine wp_value (w' := w') (v := wayV (aheadR f m.base m.rs m.ws (fun _ => true))) (by simp [execOp, ev, go_sem]) ?_
        exact ⟨v14, v15, v16, v17, v18, (wayV (aheadR f m.base m.rs m.ws (fun _ => true))), by rw [ha]; kernel_rfl, hB, fun h => e0 (h.resolve_left (by decide)), fun h => e1 (h.resolve_left (by decide)), fun h => e2 (h.resolve_left (by decide)), fun h => e3 (h.resolve_left (by decide)), fun h => e4 (h.resolve_left (by decide)), fun _ => rfl⟩
      | i + 6, ho => simp at ho
    case done =>
      rintro D a w' ⟨v14, v15, v16, v17, v18, v4, ha, hB, e0, e1, e2, e3, e4, e5⟩ hall
      obtain rfl := e0 (hall 0 (by decide))
      obtain rfl := e1 (hall 1 (by decide))
      obtain rfl := e2 (hall 2 (by decide))
      obtain rfl := e3 (hall 3 (by decide))
      obtain rfl := e4 (hall 4 (by decide))
      obtain rfl := e5 (hall 5 (by decide))
      clear hall e0 e1 e2 e3 e4 e5
      rw [ha]
      clear ha
      simp only [Act.put, List.setIfInBounds_toArray, List.set_cons_zero, List.set_cons_succ]
      have B3 := B2.trans (hB.mono B2.size)
      clear hB y0 y1 y2 y3 P2 hin2 E2
      go_wp2
      go_ret
      exact ⟨rfl, B3⟩
set_option maxHeartbeats 4000000 in
theorem hcheck_any {w : World} {S T : Nat → Prop} {bh : Nat} {f : Int → List Int} {ks : List Int} {ad : Option Int} {m : Tm} (H : Hist w S T bh f ks ad) (hrise : ∀ o, RiseI (f o)) (hlen : ∀ o, (f o).length ≤ 900000000) (hin : m.In w) (hmr : m.rn ≤ 1048576) (hmw : m.wn ≤ 1048576) :
    Calls Try.prog 23 #[.pointer (some ⟨bh, 0, none⟩), .agg #[.int .i64 (Tm.base m), .int .i64 (Tm.com m), .slice (Tm.ra m) (Tm.rn m) (Tm.rc m), .slice (Tm.wa m) (Tm.wn m) (Tm.wc m)]] w fun e w' => e = .returned (chkV (aheadR f m.base m.rs m.ws (fun _ => true))) ∧ Below w.heap.size w w' := by
  have B1 : Below w.heap.size w (w.alloc (txB m 31)) := box_below
  have E1 : (w.alloc (txB m 31)).heap[w.heap.size]? = some (txB m 31) := new1 _ _
  have hah := hahead_any (H.below B1) hrise hlen (hin.below B1) hmr hmw
  obtain ⟨y0, y1, y2, y3, _⟩ := tx_cells E1
  unfold txB at B1 E1 y0 y1 y2 y3 hah
  obtain ⟨r, hr⟩ : ∃ r, Hid (aheadR f m.base m.rs m.ws (fun _ => true) = r) := ⟨_, rfl⟩
  rw [hr.out] at hah ⊢
  unfold chkV
  go_enter Try.func23, Try.ntmps23
  go_wp2_with fail
  refine hah.mono ?_
  rintro e w3 ⟨rfl, B2⟩
  have B3 := below_size B1 B1.size B2
  have htd := told_any r w3
  clear hah y0 y1 y2 y3
  go_wp2_with fail
  refine htd.mono ?_
  rintro e w4 ⟨rfl, B4⟩
  have B5 := below_size B3 B3.size B4
  go_wp2
  refine bodyPost_ret (results_tmp2 rfl _ _ _) rfl ?_
  exact ⟨rfl, B5⟩
end Go.Proofs.Ytigmpmichhghdaa
