/- The document's All. -/
import Derived.Test.YtajdelinfkodbaaDoo
import Derived.Laws.Tables
namespace Go.Proofs.Ytajdelinfkodbaa
open Go.RowKit
set_option maxRecDepth 100000
theorem OwnD.mono {w : World} {base base' : Nat} {v : Value} {xs : List Ch} (h : OwnD w base v xs) (hb : base' ≤ base) : OwnD w base' v xs := by
  obtain ⟨ss, h1, h2, h3, h4⟩ := h
  exact ⟨ss, own_mono h1 hb, h2, fun s hs => (h3 s hs).same (fun g hg => Nat.le_trans hb hg) (fun _ _ _ => rfl), h4⟩
theorem OwnD.below {w w' : World} {base : Nat} {v : Value} {xs : List Ch} (h : OwnD w base v xs) (hb : Below w.heap.size w w') : OwnD w' base v xs := by
  obtain ⟨ss, h1, h2, h3, h4⟩ := h
  exact ⟨ss, own_below h1 hb, h2, fun s hs => (h3 s hs).same (fun _ h => h) (fun g hg _ => hb.block g hg), h4⟩
theorem Try.results32 : Try.f32.results = #[.cell 2 29] := by kernel_rfl
set_option maxHeartbeats 8000000 in
theorem rall_any {w : World} {U : Nat → Prop} {b k : Nat} {u : RTf} (h : RTb w U b u k) (hOK : OkW u) (hk : k ≤ 1000) : Calls Try.prog 32 #[.pointer (some ⟨b, 0, none⟩)] w (TakP w u.end_ (liveU u u.end_)) := by
  have E2 : (w.alloc (recB 0 (.slice none 0 0) 29)).heap[w.heap.size]? = some (recB 0 (.slice none 0 0) 29) := new1 _ _
  have B1 : Below w.heap.size w (w.alloc (recB 0 (.slice none 0 0) 29)) := box_below
  have h1 := h.below B1
  obtain ⟨bv, lv, wv, X1, _⟩ := h1.blk
  have hbl := h.lt b h.own
  clear h
  unfold recB at E2 B1 h1 X1
  go_enter Try.func32, Try.ntmps32
  go_upto_region 1 with fail
  generalize w.alloc (.cells #[.int .i64 0, .slice none 0 0] 29) = w1 at *
  obtain ⟨b2, hb2⟩ : ∃ q, Hid (q = w.heap.size) := ⟨_, rfl⟩
  rw [← hb2.out] at E2 ⊢
  refine wp_region_inv' (fun A D a w' => ∃ v3 v4 v5 v6 v7 v8 v9 v10 v11 v12 v13 v14 sa sn sc va vn vc, a = ((((((((((((A.put (some 3) v3).put (some 4) v4).put (some 5) v5).put (some 6) v6).put (some 7) v7).put (some 8) v8).put (some 9) v9).put (some 10) v10).put (some 11) v11).put (some 12) v12).put (some 13) v13).put (some 14) v14) ∧ (D 12 ∨ Below w1.heap.size w1 w') ∧ (D 0 → v3 = .pointer (some ⟨b, 0, none⟩)) ∧ (D 1 → v4 = .pointer (some ⟨b, 0, none⟩)) ∧ (D 2 → v5 = .pointer (some ⟨b, 1, none⟩)) ∧ (D 3 → v6 = .int .i64 u.end_) ∧ (D 4 → v7 = .pointer (some ⟨b, 0, none⟩)) ∧ (D 5 → v8 = .pointer (some ⟨b, 0, none⟩)) ∧ (D 6 → v9 = .pointer (some ⟨b, 0, none⟩)) ∧ (D 7 → v10 = .pointer (some ⟨b, 1, none⟩)) ∧ (D 8 → v11 = .int .i64 u.end_) ∧ (D 9 → v12 = .slice sa sn sc) ∧ (D 10 → v13 = .slice va vn vc) ∧ (D 11 → v14 = .agg #[.int .i64 u.end_, .slice va vn vc]) ∧ (D 12 → ∃ w6 : World, Below w1.heap.size w1 w6 ∧ OwnD w6 w1.heap.size (.slice va vn vc) (liveU u u.end_) ∧ w' = w6.setRow b2 #[.int .i64 u.end_, .slice va vn vc]) ∧ (D 9 → ¬ D 12 → ∃ T' : Nat → Prop, ChT w' T' (.slice sa sn sc) (stateU u u.end_)) ∧ (D 10 → ¬ D 12 → OwnD w' w1.heap.size (.slice va vn vc) (liveU u u.end_))) (by kernel_rfl) (by kernel_rfl) ?mono ?start ?step ?done
  case mono =>
    rintro D D' a w' hD ⟨v3, v4, v5, v6, v7, v8, v9, v10, v11, v12, v13, v14, sa, sn, sc, va, vn, vc, ha, hB, e0, e1, e2, e3, e4, e5, e6, e7, e8, e9, e10, e11, hQ, hS, hV⟩
    exact ⟨v3, v4, v5, v6, v7, v8, v9, v10, v11, v12, v13, v14, sa, sn, sc, va, vn, vc, ha, hB.imp_left (hD 12).1, fun h => e0 ((hD 0).2 h), fun h => e1 ((hD 1).2 h), fun h => e2 ((hD 2).2 h), fun h => e3 ((hD 3).2 h), fun h => e4 ((hD 4).2 h), fun h => e5 ((hD 5).2 h), fun h => e6 ((hD 6).2 h), fun h => e7 ((hD 7).2 h), fun h => e8 ((hD 8).2 h), fun h => e9 ((hD 9).2 h), fun h => e10 ((hD 10).2 h), fun h => e11 ((hD 11).2 h), fun h => hQ ((hD 12).2 h), fun h h' => hS ((hD 9).2 h) (fun k => h' ((hD 12).1 k)), fun h h' => hV ((hD 10).2 h) (fun k => h' ((hD 12).1 k))⟩
  case start => exact ⟨undef, undef, undef, undef, undef, undef, undef, undef, undef, undef, undef, undef, none, 0, 0, none, 0, 0, by kernel_rfl, .inr ((Below.refl _ _).drew), fun h => h.elim, fun h => h.elim, fun h => h.elim, fun h => h.elim, fun h => h.elim, fun h => h.elim, fun h => h.elim, fun h => h.elim, fun h => h.elim, fun h => h.elim, fun h => h.elim, fun h => h.elim, fun h => h.elim, fun h _ => h.elim, fun h _ => h.elim⟩
  case step =>
    intro i o ho D a w' hI hn hcl hd
    obtain ⟨v3, v4, v5, v6, v7, v8, v9, v10, v11, v12, v13, v14, sa, sn, sc, va, vn, vc, ha, hB, e0, e1, e2, e3, e4, e5, e6, e7, e8, e9, e10, e11, hQ, hS, hV⟩ := hI
    match i, ho with
    | 0, ho =>
      cases Option.some.inj ho
      have ev : a.tmps[0]?.getD undef = .pointer (some ⟨b, 0, none⟩) := by rw [ha]; kernel_rfl
      refine wp_value (w' := w') (v := .pointer (some ⟨b, 0, none⟩)) (by simp [execOp, ev, go_sem]) ?_
      exact ⟨(.pointer (some ⟨b, 0, none⟩)), v4, v5, v6, v7, v8, v9, v10, v11, v12, v13, v14, sa, sn, sc, va, vn, vc, by rw [ha]; kernel_rfl, hB.imp_left .inr, fun _ => rfl, fun h => e1 (h.resolve_left (by decide)), fun h => e2 (h.resolve_left (by decide)), fun h => e3 (h.resolve_left (by decide)), fun h => e4 (h.resolve_left (by decide)), fun h => e5 (h.resolve_left (by decide)), fun h => e6 (h.resolve_left (by decide)), fun h => e7 (h.resolve_left (by decide)), fun h => e8 (h.resolve_left (by decide)), fun h => e9 (h.resolve_left (by decide)), fun h => e10 (h.resolve_left (by decide)), fun h => e11 (h.resolve_left (by decide)), fun h => hQ (h.resolve_left (by decide)), fun h h' => hS (h.resolve_left (by decide)) (fun k => h' (.inr k)), fun h h' => hV (h.resolve_left (by decide)) (fun k => h' (.inr k))⟩
    | 1, ho =>
      cases Option.some.inj ho
      have ev : a.tmps[3]?.getD undef = .pointer (some ⟨b, 0, none⟩) := by rw [ha, e0 (hd ⟨0, .data⟩ (by simp) rfl)]; kernel_rfl
      refine wp_value (w' := w') (v := .pointer (some ⟨b, 0, none⟩)) (by simp [execOp, ev, go_sem]) ?_
      exact ⟨v3, (.pointer (some ⟨b, 0, none⟩)), v5, v6, v7, v8, v9, v10, v11, v12, v13, v14, sa, sn, sc, va, vn, vc, by rw [ha]; kernel_rfl, hB.imp_left .inr, fun h => e0 (h.resolve_left (by decide)), fun _ => rfl, fun h => e2 (h.resolve_left (by decide)), fun h => e3 (h.resolve_left (by decide)), fun h => e4 (h.resolve_left (by decide)), fun h => e5 (h.resolve_left (by decide)), fun h => e6 (h.resolve_left (by decide)), fun h => e7 (h.resolve_left (by decide)), fun h => e8 (h.resolve_left (by decide)), fun h => e9 (h.resolve_left (by decide)), fun h => e10 (h.resolve_left (by decide)), fun h => e11 (h.resolve_left (by decide)), fun h => hQ (h.resolve_left (by decide)), fun h h' => hS (h.resolve_left (by decide)) (fun k => h' (.inr k)), fun h h' => hV (h.resolve_left (by decide)) (fun k => h' (.inr k))⟩
    | 2, ho =>
      cases Option.some.inj ho
      have ev : a.tmps[4]?.getD undef = .pointer (some ⟨b, 0, none⟩) := by rw [ha, e1 (hd ⟨1, .data⟩ (by simp) rfl)]; kernel_rfl
      refine wp_value (w' := w') (v := .pointer (some ⟨b, 1, none⟩)) (by simp [execOp, ev, go_sem]) ?_
      exact ⟨v3, v4, (.pointer (some ⟨b, 1, none⟩)), v6, v7, v8, v9, v10, v11, v12, v13, v14, sa, sn, sc, va, vn, vc, by rw [ha]; kernel_rfl, hB.imp_left .inr, fun h => e0 (h.resolve_left (by decide)), fun h => e1 (h.resolve_left (by decide)), fun _ => rfl, fun h => e3 (h.resolve_left (by decide)), fun h => e4 (h.resolve_left (by decide)), fun h => e5 (h.resolve_left (by decide)), fun h => e6 (h.resolve_left (by decide)), fun h => e7 (h.resolve_left (by decide)), fun h => e8 (h.resolve_left (by decide)), fun h => e9 (h.resolve_left (by decide)), fun h => e10 (h.resolve_left (by decide)), fun h => e11 (h.resolve_left (by decide)), fun h => hQ (h.resolve_left (by decide)), fun h h' => hS (h.resolve_left (by decide)) (fun k => h' (.inr k)), fun h h' => hV (h.resolve_left (by decide)) (fun k => h' (.inr k))⟩
    | 3, ho =>
      cases Option.some.inj ho
      have ev : a.tmps[5]?.getD undef = .pointer (some ⟨b, 1, none⟩) := by rw [ha, e2 (hd ⟨2, .data⟩ (by simp) rfl)]; kernel_rfl
      have hb := hB.resolve_left (fun h => (fun h => hn (hcl 11 _ rfl h ⟨3, .data⟩ (by simp) rfl)) (hcl 12 _ rfl h ⟨11, .data⟩ (by simp) rfl))
      have hcc := (rt_cells ((hb.block b (lt_of_block X1)).trans X1)).2.1
      refine wp_value (w' := w') (v := .int .i64 u.end_) (by simp [execOp, ev, go_sem, hcc]) ?_
      exact ⟨v3, v4, v5, (.int .i64 u.end_), v7, v8, v9, v10, v11, v12, v13, v14, sa, sn, sc, va, vn, vc, by rw [ha]; kernel_rfl, hB.imp_left .inr, fun h => e0 (h.resolve_left (by decide)), fun h => e1 (h.resolve_left (by decide)), fun h => e2 (h.resolve_left (by decide)), fun _ => rfl, fun h => e4 (h.resolve_left (by decide)), fun h => e5 (h.resolve_left (by decide)), fun h => e6 (h.resolve_left (by decide)), fun h => e7 (h.resolve_left (by decide)), fun h => e8 (h.resolve_left (by decide)), fun h => e9 (h.resolve_left (by decide)), fun h => e10 (h.resolve_left (by decide)), fun h => e11 (h.resolve_left (by decide)), fun h => hQ (h.resolve_left (by decide)), fun h h' => hS (h.resolve_left (by decide)) (fun k => h' (.inr k)), fun h h' => hV (h.resolve_left (by decide)) (fun k => h' (.inr k))⟩
    | 4, ho =>
      cases Option.some.inj ho
      have ev : a.tmps[0]?.getD undef = .pointer (some ⟨b, 0, none⟩) := by rw [ha]; kernel_rfl
      refine wp_value (w' := w') (v := .pointer (some ⟨b, 0, none⟩)) (by simp [execOp, ev, go_sem]) ?_
      exact ⟨v3, v4, v5, v6, (.pointer (some ⟨b, 0, none⟩)), v8, v9, v10, v11, v12, v13, v14, sa, sn, sc, va, vn, vc, by rw [ha]; kernel_rfl, hB.imp_left .inr, fun h => e0 (h.resolve_left (by decide)), fun h => e1 (h.resolve_left (by decide)), fun h => e2 (h.resolve_left (by decide)), fun h => e3 (h.resolve_left (by decide)), fun _ => rfl, fun h => e5 (h.resolve_left (by decide)), fun h => e6 (h.resolve_left (by decide)), fun h => e7 (h.resolve_left (by decide)), fun h => e8 (h.resolve_left (by decide)), fun h => e9 (h.resolve_left (by decide)), fun h => e10 (h.resolve_left (by decide)), fun h => e11 (h.resolve_left (by decide)), fun h => hQ (h.resolve_left (by decide)), fun h h' => hS (h.resolve_left (by decide)) (fun k => h' (.inr k)), fun h h' => hV (h.resolve_left (by decide)) (fun k => h' (.inr k))⟩
    | 5, ho =>
      cases Option.some.inj ho
      have ev : a.tmps[0]?.getD undef = .pointer (some ⟨b, 0, none⟩) := by rw [ha]; kernel_rfl
      refine wp_value (w' := w') (v := .pointer (some ⟨b, 0, none⟩)) (by simp [execOp, ev, go_sem]) ?_
      exact ⟨v3, v4, v5, v6, v7, (.pointer (some ⟨b, 0, none⟩)), v9, v10, v11, v12, v13, v14, sa, sn, sc, va, vn, vc, by rw [ha]; kernel_rfl, hB.imp_left .inr, fun h => e0 (h.resolve_left (by decide)), fun h => e1 (h.resolve_left (by decide)), fun h => e2 (h.resolve_left (by decide)), fun h => e3 (h.resolve_left (by decide)), fun h => e4 (h.resolve_left (by decide)), fun _ => rfl, fun h => e6 (h.resolve_left (by decide)), fun h => e7 (h.resolve_left (by decide)), fun h => e8 (h.resolve_left (by decide)), fun h => e9 (h.resolve_left (by decide)), fun h => e10 (h.resolve_left (by decide)), fun h => e11 (h.resolve_left (by decide)), fun h => hQ (h.resolve_left (by decide)), fun h h' => hS (h.resolve_left (by decide)) (fun k => h' (.inr k)), fun h h' => hV (h.resolve_left (by decide)) (fun k => h' (.inr k))⟩
    | 6, ho =>
      cases Option.some.inj ho
      have ev : a.tmps[8]?.getD undef = .pointer (some ⟨b, 0, none⟩) := by rw [ha, e5 (hd ⟨5, .data⟩ (by simp) rfl)]; kernel_rfl
      refine wp_value (w' := w') (v := .pointer (some ⟨b, 0, none⟩)) (by simp [execOp, ev, go_sem]) ?_
      exact ⟨v3, v4, v5, v6, v7, v8, (.pointer (some ⟨b, 0, none⟩)), v10, v11, v12, v13, v14, sa, sn, sc, va, vn, vc, by rw [ha]; kernel_rfl, hB.imp_left .inr, fun h => e0 (h.resolve_left (by decide)), fun h => e1 (h.resolve_left (by decide)), fun h => e2 (h.resolve_left (by decide)), fun h => e3 (h.resolve_left (by decide)), fun h => e4 (h.resolve_left (by decide)), fun h => e5 (h.resolve_left (by decide)), fun _ => rfl, fun h => e7 (h.resolve_left (by decide)), fun h => e8 (h.resolve_left (by decide)), fun h => e9 (h.resolve_left (by decide)), fun h => e10 (h.resolve_left (by decide)), fun h => e11 (h.resolve_left (by decide)), fun h => hQ (h.resolve_left (by decide)), fun h h' => hS (h.resolve_left (by decide)) (fun k => h' (.inr k)), fun h h' => hV (h.resolve_left (by decide)) (fun k => h' (.inr k))⟩
    | 7, ho =>
      cases Option.some.inj ho
      have ev : a.tmps[9]?.getD undef = .pointer (some ⟨b, 0, none⟩) := by rw [ha, e6 (hd ⟨6, .data⟩ (by simp) rfl)]; kernel_rfl
      refine wp_value (w' := w') (v := .pointer (some ⟨b, 1, none⟩)) (by simp [execOp, ev, go_sem]) ?_
      exact ⟨v3, v4, v5, v6, v7, v8, v9, (.pointer (some ⟨b, 1, none⟩)), v11, v12, v13, v14, sa, sn, sc, va, vn, vc, by rw [ha]; kernel_rfl, hB.imp_left .inr, fun h => e0 (h.resolve_left (by decide)), fun h => e1 (h.resolve_left (by decide)), fun h => e2 (h.resolve_left (by decide)), fun h => e3 (h.resolve_left (by decide)), fun h => e4 (h.resolve_left (by decide)), fun h => e5 (h.resolve_left (by decide)), fun h => e6 (h.resolve_left (by decide)), fun _ => rfl, fun h => e8 (h.resolve_left (by decide)), fun h => e9 (h.resolve_left (by decide)), fun h => e10 (h.resolve_left (by decide)), fun h => e11 (h.resolve_left (by decide)), fun h => hQ (h.resolve_left (by decide)), fun h h' => hS (h.resolve_left (by decide)) (fun k => h' (.inr k)), fun h h' => hV (h.resolve_left (by decide)) (fun k => h' (.inr k))⟩
    | 8, ho =>
      cases Option.some.inj ho
      have ev : a.tmps[10]?.getD undef = .pointer (some ⟨b, 1, none⟩) := by rw [ha, e7 (hd ⟨7, .data⟩ (by simp) rfl)]; kernel_rfl
      have hb := hB.resolve_left (fun h => (fun h => (fun h => (fun h => hn (hcl 9 _ rfl h ⟨8, .data⟩ (by simp) rfl)) (hcl 10 _ rfl h ⟨9, .data⟩ (by simp) rfl)) (hcl 11 _ rfl h ⟨10, .data⟩ (by simp) rfl)) (hcl 12 _ rfl h ⟨11, .data⟩ (by simp) rfl))
      have hcc := (rt_cells ((hb.block b (lt_of_block X1)).trans X1)).2.1
      refine wp_value (w' := w') (v := .int .i64 u.end_) (by simp [execOp, ev, go_sem, hcc]) ?_
      exact ⟨v3, v4, v5, v6, v7, v8, v9, v10, (.int .i64 u.end_), v12, v13, v14, sa, sn, sc, va, vn, vc, by rw [ha]; kernel_rfl, hB.imp_left .inr, fun h => e0 (h.resolve_left (by decide)), fun h => e1 (h.resolve_left (by decide)), fun h => e2 (h.resolve_left (by decide)), fun h => e3 (h.resolve_left (by decide)), fun h => e4 (h.resolve_left (by decide)), fun h => e5 (h.resolve_left (by decide)), fun h => e6 (h.resolve_left (by decide)), fun h => e7 (h.resolve_left (by decide)), fun _ => rfl, fun h => e9 (h.resolve_left (by decide)), fun h => e10 (h.resolve_left (by decide)), fun h => e11 (h.resolve_left (by decide)), fun h => hQ (h.resolve_left (by decide)), fun h h' => hS (h.resolve_left (by decide)) (fun k => h' (.inr k)), fun h h' => hV (h.resolve_left (by decide)) (fun k => h' (.inr k))⟩
    | 9, ho =>
      cases Option.some.inj ho
      have ev : a.tmps[7]?.getD undef = .pointer (some ⟨b, 0, none⟩) := by rw [ha, e4 (hd ⟨4, .data⟩ (by simp) rfl)]; kernel_rfl
      have ev' : a.tmps[11]?.getD undef = .int .i64 u.end_ := by rw [ha, e8 (hd ⟨8, .data⟩ (by simp) rfl)]; kernel_rfl
      have hb := hB.resolve_left (fun h => (fun h => (fun h => hn (hcl 10 _ rfl h ⟨9, .data⟩ (by simp) rfl)) (hcl 11 _ rfl h ⟨10, .data⟩ (by simp) rfl)) (hcl 12 _ rfl h ⟨11, .data⟩ (by simp) rfl))
      refine wp_enter (f := 43) (args := #[.pointer (some ⟨b, 0, none⟩), .int .i64 u.end_]) (by simp [execOp, ev, ev', go_sem]) ?_
      refine (state_any (h1.below hb) hOK.v hk u.end_).mono ?_
      rintro e w6 ⟨sa', sn', sc', T', rfl, p1, p2, HB⟩
      refine ⟨_, rfl, ?_⟩
      exact ⟨v3, v4, v5, v6, v7, v8, v9, v10, v11, (.slice sa' sn' sc'), v13, v14, sa', sn', sc', va, vn, vc, by rw [ha]; kernel_rfl, hB.imp .inr (fun h => below_size h h.size HB), fun h => e0 (h.resolve_left (by decide)), fun h => e1 (h.resolve_left (by decide)), fun h => e2 (h.resolve_left (by decide)), fun h => e3 (h.resolve_left (by decide)), fun h => e4 (h.resolve_left (by decide)), fun h => e5 (h.resolve_left (by decide)), fun h => e6 (h.resolve_left (by decide)), fun h => e7 (h.resolve_left (by decide)), fun h => e8 (h.resolve_left (by decide)), fun _ => rfl, fun h => e10 (h.resolve_left (by decide)), fun h => e11 (h.resolve_left (by decide)), fun h => absurd (h.resolve_left (by decide)) (fun h => (fun h => (fun h => hn (hcl 10 _ rfl h ⟨9, .data⟩ (by simp) rfl)) (hcl 11 _ rfl h ⟨10, .data⟩ (by simp) rfl)) (hcl 12 _ rfl h ⟨11, .data⟩ (by simp) rfl)), fun _ _ => ⟨T', p1⟩, fun h _ => absurd (h.resolve_left (by decide)) (fun h => hn (hcl 10 _ rfl h ⟨9, .data⟩ (by simp) rfl))⟩
    | 10, ho =>
      cases Option.some.inj ho
      have ev : a.tmps[12]?.getD undef = .slice sa sn sc := by rw [ha, e9 (hd ⟨9, .data⟩ (by simp) rfl)]; kernel_rfl
      have hb := hB.resolve_left (fun h => (fun h => hn (hcl 11 _ rfl h ⟨10, .data⟩ (by simp) rfl)) (hcl 12 _ rfl h ⟨11, .data⟩ (by simp) rfl))
      obtain ⟨T', hC⟩ := hS (hd ⟨9, .data⟩ (by simp) rfl) (fun h => (fun h => hn (hcl 11 _ rfl h ⟨10, .data⟩ (by simp) rfl)) (hcl 12 _ rfl h ⟨11, .data⟩ (by simp) rfl))
      refine wp_enter (f := 50) (args := #[.slice sa sn sc]) (by simp [execOp, ev, go_sem]) ?_
      refine (live_any hC (hOK.st u.end_) (by have := hOK.few u.end_; omega)).mono ?_
      rintro e w6 ⟨va', vn', vc', rfl, _, p1, HB⟩
      refine ⟨_, rfl, ?_⟩
      exact ⟨v3, v4, v5, v6, v7, v8, v9, v10, v11, v12, (.slice va' vn' vc'), v14, sa, sn, sc, va', vn', vc', by rw [ha]; kernel_rfl, hB.imp .inr (fun h => below_size h h.size HB), fun h => e0 (h.resolve_left (by decide)), fun h => e1 (h.resolve_left (by decide)), fun h => e2 (h.resolve_left (by decide)), fun h => e3 (h.resolve_left (by decide)), fun h => e4 (h.resolve_left (by decide)), fun h => e5 (h.resolve_left (by decide)), fun h => e6 (h.resolve_left (by decide)), fun h => e7 (h.resolve_left (by decide)), fun h => e8 (h.resolve_left (by decide)), fun h => e9 (h.resolve_left (by decide)), fun _ => rfl, fun h => absurd (h.resolve_left (by decide)) (fun h => hn (hcl 11 _ rfl h ⟨10, .data⟩ (by simp) rfl)), fun h => absurd (h.resolve_left (by decide)) (fun h => (fun h => hn (hcl 11 _ rfl h ⟨10, .data⟩ (by simp) rfl)) (hcl 12 _ rfl h ⟨11, .data⟩ (by simp) rfl)), fun h h' => (hS (h.resolve_left (by decide)) (fun k => h' (.inr k))).imp (fun T q => q.same (fun _ h => h) (fun g hg _ => HB.block g hg)), fun _ _ => p1.mono hb.size⟩
    | 11, ho =>
      cases Option.some.inj ho
      have ev : a.tmps[6]?.getD undef = .int .i64 u.end_ := by rw [ha, e3 (hd ⟨3, .data⟩ (by simp) rfl)]; kernel_rfl
      have ev' : a.tmps[13]?.getD undef = .slice va vn vc := by rw [ha, e10 (hd ⟨10, .data⟩ (by simp) rfl)]; kernel_rfl
      refine wp_value (w' := w') (v := .agg #[.int .i64 u.end_, .slice va vn vc]) (by simp [execOp, ev, ev', go_sem]) ?_
      exact ⟨v3, v4, v5, v6, v7, v8, v9, v10, v11, v12, v13, (.agg #[.int .i64 u.end_, .slice va vn vc]), sa, sn, sc, va, vn, vc, by rw [ha]; kernel_rfl, hB.imp_left .inr, fun h => e0 (h.resolve_left (by decide)), fun h => e1 (h.resolve_left (by decide)), fun h => e2 (h.resolve_left (by decide)), fun h => e3 (h.resolve_left (by decide)), fun h => e4 (h.resolve_left (by decide)), fun h => e5 (h.resolve_left (by decide)), fun h => e6 (h.resolve_left (by decide)), fun h => e7 (h.resolve_left (by decide)), fun h => e8 (h.resolve_left (by decide)), fun h => e9 (h.resolve_left (by decide)), fun h => e10 (h.resolve_left (by decide)), fun _ => rfl, fun h => hQ (h.resolve_left (by decide)), fun h h' => hS (h.resolve_left (by decide)) (fun k => h' (.inr k)), fun h h' => hV (h.resolve_left (by decide)) (fun k => h' (.inr k))⟩
    | 12, ho =>
      cases Option.some.inj ho
      have ev : a.tmps[2]?.getD undef = .pointer (some ⟨b2, 0, none⟩) := by rw [ha]; kernel_rfl
      have ev' : a.tmps[14]?.getD undef = .agg #[.int .i64 u.end_, .slice va vn vc] := by rw [ha, e11 (hd ⟨11, .data⟩ (by simp) rfl)]; kernel_rfl
      have hb := hB.resolve_left hn
      have hL := hV (hcl 11 _ rfl (hd ⟨11, .data⟩ (by simp) rfl) ⟨10, .data⟩ (by simp) rfl) hn
      refine wp_store_row 29 (.tmp 2) (.tmp 14) rfl b2 #[.int .i64 u.end_, .slice va vn vc] (by simpa [Act.eval] using ev) (by simpa [Act.eval] using ev') 29 _ ((hb.block b2 (lt_of_block E2)).trans E2) (by kernel_rfl) rfl (by simp [Value.oneCell']) ?_
      exact ⟨v3, v4, v5, v6, v7, v8, v9, v10, v11, v12, v13, v14, sa, sn, sc, va, vn, vc, by rw [ha]; kernel_rfl, .inl (.inl rfl), fun h => e0 (h.resolve_left (by decide)), fun h => e1 (h.resolve_left (by decide)), fun h => e2 (h.resolve_left (by decide)), fun h => e3 (h.resolve_left (by decide)), fun h => e4 (h.resolve_left (by decide)), fun h => e5 (h.resolve_left (by decide)), fun h => e6 (h.resolve_left (by decide)), fun h => e7 (h.resolve_left (by decide)), fun h => e8 (h.resolve_left (by decide)), fun h => e9 (h.resolve_left (by decide)), fun h => e10 (h.resolve_left (by decide)), fun h => e11 (h.resolve_left (by decide)), fun _ => ⟨w', hb, hL, rfl⟩, fun _ h' => absurd (.inl rfl) h', fun _ h' => absurd (.inl rfl) h'⟩
    | i + 13, ho => simp at ho
  case done =>
    rintro D a w' ⟨v3, v4, v5, v6, v7, v8, v9, v10, v11, v12, v13, v14, sa, sn, sc, va, vn, vc, ha, hB, e0, e1, e2, e3, e4, e5, e6, e7, e8, e9, e10, e11, hQ, hS, hV⟩ hall
    obtain rfl := e0 (hall 0 (by decide))
    obtain rfl := e1 (hall 1 (by decide))
    obtain rfl := e2 (hall 2 (by decide))
    obtain rfl := e3 (hall 3 (by decide))
    obtain rfl := e4 (hall 4 (by decide))
    obtain rfl := e5 (hall 5 (by decide))
    obtain rfl := e6 (hall 6 (by decide))
    obtain rfl := e7 (hall 7 (by decide))
    obtain rfl := e8 (hall 8 (by decide))
    obtain rfl := e9 (hall 9 (by decide))
    obtain rfl := e10 (hall 10 (by decide))
    obtain rfl := e11 (hall 11 (by decide))
    obtain ⟨w6, p1, p2, rfl⟩ := hQ (hall 12 (by decide))
    clear hB hS hV hQ hall e0 e1 e2 e3 e4 e5 e6 e7 e8 e9 e10 e11
    rw [ha]
    clear ha
    simp only [Act.put, List.setIfInBounds_toArray, List.set_cons_zero, List.set_cons_succ]
    have F2 : w6.heap[b2]? = some (recB 0 (.slice none 0 0) 29) := (p1.block b2 (lt_of_block E2)).trans E2
    have E9 : (w6.setRow b2 #[.int .i64 u.end_, .slice va vn vc]).heap[b2]? = some (recB u.end_ (.slice va vn vc) 29) := setRow_heap w6 b2 _ _ 29 _ F2
    have B9 : Below w.heap.size w (w6.setRow b2 #[.int .i64 u.end_, .slice va vn vc]) := by
      have q := below_size B1 B1.size p1
      exact ⟨q.os, q.tape, q.output, by rw [setRow_size]; exact q.size, fun g hg => (setRow_other w6 b2 g _ (by have := hb2.out; omega)).trans (q.block g hg)⟩
    have O9 : OwnC (w6.setRow b2 #[.int .i64 u.end_, .slice va vn vc]) w.heap.size 73 (.slice va vn vc) (liveU u u.end_) := by
      obtain ⟨ss, o1, o2, o3, o4⟩ := p2
      have kp : ∀ g, w1.heap.size ≤ g → (w6.setRow b2 #[.int .i64 u.end_, .slice va vn vc]).heap[g]? = w6.heap[g]? := fun g hg => setRow_other w6 b2 g _ (by have := lt_of_block E2; omega)
      refine ⟨ss, own_mono (own_same o1 (fun g hg => kp g (own_block o1 hg).1)) B1.size, o2, fun s hs => (o3 s hs).el.same' (fun g hg => kp g ((o3 s hs).v g hg)) (fun g hg => kp g ((o3 s hs).b g hg)), o4⟩
    clear p1 p2 F2
    generalize w6.setRow b2 #[.int .i64 u.end_, .slice va vn vc] = w9 at *
    go_wp2
    exact bodyPost_ret (v := .agg #[.int .i64 u.end_, .slice va vn vc]) (results_cell Try.results32 rfl (load29 E9)) rfl ⟨va, vn, vc, rfl, O9, B9⟩
end Go.Proofs.Ytajdelinfkodbaa
