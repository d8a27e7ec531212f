/- The law ViewRight. -/
import Derived.Test.YteomolihandfnaaOpv
namespace Go.Proofs.Yteomolihandfnaa
open Go.RowKit
set_option maxRecDepth 100000
theorem okV_okW {k n : Int} (h : okV k n = true) : okW k n = true := by
  unfold okW
  split
  · rename_i e
    rw [e, okV4] at h
    unfold okC at h
    unfold okR2
    simp at h ⊢
    omega
  · exact h
theorem okO_okWO {c : Int} {vs : List (Int × Int)} {n : Nat} (h : okO c vs n = true) : okWO c vs n = true := by
  unfold okO at h
  unfold okWO
  simp only [Bool.and_eq_true] at h ⊢
  refine ⟨⟨⟨?_, h.1.1.2⟩, h.1.2⟩, ?_⟩
  · have h1 := h.1.1.1
    unfold okC at h1
    unfold okR2
    simp at h1 ⊢
    omega
  · have h2 := h.2
    unfold okVs at h2
    unfold okWs
    rw [List.all_eq_true] at h2 ⊢
    exact fun x hx => okV_okW (h2 x hx)
theorem val_cells {w : World} {b : Nat} {x y : Int} (h : w.heap[b]? = some (.cells #[.int .i64 x, .int .i64 y] 23 (0, 0))) : w.cell? ⟨b, 0, none⟩ = some (.int .i64 x) ∧ w.cell? ⟨b, 1, none⟩ = some (.int .i64 y) := by
  refine ⟨?_, ?_⟩ <;> (rw [cell_of_row w b _ _ _ _ h]; rfl)
set_option maxHeartbeats 16000000 in
theorem viewRight_true {w : World} (k n c : Int) {sa ba : Option Addr} {sn sc bn bc : Nat} {vs : List (Int × Int)} (hv0 : IsV w sa sn sc vs) (hbn : bn ≤ maxLen) :
    Calls Try.prog 3 #[.agg #[.int .i64 k, .int .i64 n], .agg #[.int .i64 c, .slice sa sn sc, .slice ba bn bc]] w fun e w' => e = .returned (.bool true) ∧ Below w.heap.size w w' := by
  have E2 := old1 (new1 w (.cells #[.int .i64 k, .int .i64 n] 23 (0, 0))) (.cells #[.int .i64 c, .slice sa sn sc, .slice ba bn bc] 27 (0, 0))
  have E3 := new2 w (.cells #[.int .i64 k, .int .i64 n] 23 (0, 0)) (.cells #[.int .i64 c, .slice sa sn sc, .slice ba bn bc] 27 (0, 0))
  have B1 : Below w.heap.size w ((w.alloc (.cells #[.int .i64 k, .int .i64 n] 23 (0, 0))).alloc (.cells #[.int .i64 c, .slice sa sn sc, .slice ba bn bc] 27 (0, 0))) := below_size box_below box_below.size box_below
  have hv := hv0.below B1
  go_enter Try.func3, Try.ntmps3
  go_upto_region 1 with fail
  generalize (w.alloc (.cells #[.int .i64 k, .int .i64 n] 23)).alloc (.cells #[.int .i64 c, .slice sa sn sc, .slice ba bn bc] 27) = wq at *
  generalize w.heap.size + 1 = b3 at *
  obtain ⟨b2, hb2⟩ : ∃ q, q = w.heap.size := ⟨_, rfl⟩
  rw [← hb2] at E2 ⊢
  clear hb2
  obtain ⟨x0, x1⟩ := val_cells E2
  obtain ⟨y0, y1, y2, yf⟩ := obj_cells (c := c) (v1 := .slice sa sn sc) (v2 := .slice ba bn bc) E3
  refine wp_region_inv2' (fun A D a w' => ∃ v5 v6 v7 v8 v9 v10 v11 v12 v13 v14 v15 v16, a = ((((((((((((A.put (some 5) v5).put (some 6) v6).put (some 7) v7).put (some 8) v8).put (some 9) v9).put (some 10) v10).put (some 11) v11).put (some 12) v12).put (some 13) v13).put (some 14) v14).put (some 15) v15).put (some 16) v16) ∧ Below wq.heap.size wq w' ∧ (D 0 → v5 = .agg #[.int .i64 k, .int .i64 n]) ∧ (D 1 → v6 = .bool (okW k n)) ∧ (D 2 → v7 = .agg #[.int .i64 k, .int .i64 n]) ∧ (D 3 → v8 = .bool (okW k n)) ∧ (D 4 → v9 = .bool false) ∧ (D 5 → v10 = .bool false) ∧ (D 6 → v11 = .agg #[.int .i64 c, .slice sa sn sc, .slice ba bn bc]) ∧ (D 7 → v12 = .bool (okWO c vs bn)) ∧ (D 8 → v13 = .agg #[.int .i64 c, .slice sa sn sc, .slice ba bn bc]) ∧ (D 9 → v14 = .bool (okWO c vs bn)) ∧ (D 10 → v15 = .bool false) ∧ (D 11 → v16 = .bool false)) (by kernel_rfl) (by kernel_rfl) ?mono ?start ?step ?done
  case mono =>
    rintro D D' a w' hD ⟨v5, v6, v7, v8, v9, v10, v11, v12, v13, v14, v15, v16, ha, hB, e0, e1, e2, e3, e4, e5, e6, e7, e8, e9, e10, e11⟩
    exact ⟨v5, v6, v7, v8, v9, v10, v11, v12, v13, v14, v15, v16, ha, hB, fun h => e0 ((hD 0).2 h), fun h => e1 ((hD 1).2 h), fun h => e2 ((hD 2).2 h), fun h => e3 ((hD 3).2 h), fun h => e4 ((hD 4).2 h), fun h => e5 ((hD 5).2 h), fun h => e6 ((hD 6).2 h), fun h => e7 ((hD 7).2 h), fun h => e8 ((hD 8).2 h), fun h => e9 ((hD 9).2 h), fun h => e10 ((hD 10).2 h), fun h => e11 ((hD 11).2 h)⟩
  case start => exact ⟨undef, undef, undef, undef, undef, undef, undef, undef, undef, undef, undef, undef, by kernel_rfl, (Below.refl _ _).drew, fun h => h.elim, fun h => h.elim, fun h => h.elim, fun h => h.elim, fun h => h.elim, fun h => h.elim, fun h => h.elim, fun h => h.elim, fun h => h.elim, fun h => h.elim, fun h => h.elim, fun h => h.elim⟩
  case step =>
    intro i o ho D a w' hI hn hcl hd
    obtain ⟨v5, v6, v7, v8, v9, v10, v11, v12, v13, v14, v15, v16, ha, hB, e0, e1, e2, e3, e4, e5, e6, e7, e8, e9, e10, e11⟩ := hI
    match i, ho with
    | 0, ho =>
      cases Option.some.inj ho
      refine ⟨rfl, ?_⟩
      have ev : a.tmps[2]?.getD undef = .pointer (some ⟨b2, 0, none⟩) := by rw [ha]; kernel_rfl
      have q0 := (hB.cell (p := ⟨b2, 0, none⟩) (lt_of_cell x0)).trans x0
      have q1 := (hB.cell (p := ⟨b2, 1, none⟩) (lt_of_cell x1)).trans x1
      refine wp_value (w' := w') (v := .agg #[.int .i64 k, .int .i64 n]) (by simp [execOp, ev, go_sem, q0, q1]) ?_
      exact ⟨(.agg #[.int .i64 k, .int .i64 n]), v6, v7, v8, v9, v10, v11, v12, v13, v14, v15, v16, by rw [ha]; kernel_rfl, hB, fun _ => rfl, fun h => e1 (h.resolve_left (by decide)), fun h => e2 (h.resolve_left (by decide)), fun h => e3 (h.resolve_left (by decide)), fun h => e4 (h.resolve_left (by decide)), fun h => e5 (h.resolve_left (by decide)), fun h => e6 (h.resolve_left (by decide)), fun h => e7 (h.resolve_left (by decide)), fun h => e8 (h.resolve_left (by decide)), fun h => e9 (h.resolve_left (by decide)), fun h => e10 (h.resolve_left (by decide)), fun h => e11 (h.resolve_left (by decide))⟩
    | 1, ho =>
      cases Option.some.inj ho
      refine ⟨rfl, ?_⟩
      have ev : a.tmps[5]?.getD undef = .agg #[.int .i64 k, .int .i64 n] := by rw [ha, e0 (hd ⟨0, .data⟩ (by simp) rfl)]; kernel_rfl
      refine wp_enter (f := 8) (args := #[.agg #[.int .i64 k, .int .i64 n]]) (by simp [execOp, ev, go_sem]) ?_
      refine (vright_any k n w').mono ?_
      rintro e w6 ⟨rfl, HB⟩
      refine ⟨_, rfl, ?_⟩
      exact ⟨v5, (.bool (okW k n)), v7, v8, v9, v10, v11, v12, v13, v14, v15, v16, by rw [ha]; kernel_rfl, below_size hB hB.size HB, fun h => e0 (h.resolve_left (by decide)), fun _ => rfl, fun h => e2 (h.resolve_left (by decide)), fun h => e3 (h.resolve_left (by decide)), fun h => e4 (h.resolve_left (by decide)), fun h => e5 (h.resolve_left (by decide)), fun h => e6 (h.resolve_left (by decide)), fun h => e7 (h.resolve_left (by decide)), fun h => e8 (h.resolve_left (by decide)), fun h => e9 (h.resolve_left (by decide)), fun h => e10 (h.resolve_left (by decide)), fun h => e11 (h.resolve_left (by decide))⟩
    | 2, ho =>
      cases Option.some.inj ho
      refine ⟨rfl, ?_⟩
      have ev : a.tmps[2]?.getD undef = .pointer (some ⟨b2, 0, none⟩) := by rw [ha]; kernel_rfl
      have q0 := (hB.cell (p := ⟨b2, 0, none⟩) (lt_of_cell x0)).trans x0
      have q1 := (hB.cell (p := ⟨b2, 1, none⟩) (lt_of_cell x1)).trans x1
      refine wp_value (w' := w') (v := .agg #[.int .i64 k, .int .i64 n]) (by simp [execOp, ev, go_sem, q0, q1]) ?_
      exact ⟨v5, v6, (.agg #[.int .i64 k, .int .i64 n]), v8, v9, v10, v11, v12, v13, v14, v15, v16, by rw [ha]; kernel_rfl, hB, fun h => e0 (h.resolve_left (by decide)), fun h => e1 (h.resolve_left (by decide)), fun _ => rfl, fun h => e3 (h.resolve_left (by decide)), fun h => e4 (h.resolve_left (by decide)), fun h => e5 (h.resolve_left (by decide)), fun h => e6 (h.resolve_left (by decide)), fun h => e7 (h.resolve_left (by decide)), fun h => e8 (h.resolve_left (by decide)), fun h => e9 (h.resolve_left (by decide)), fun h => e10 (h.resolve_left (by decide)), fun h => e11 (h.resolve_left (by decide))⟩
    | 3, ho =>
      cases Option.some.inj ho
      refine ⟨rfl, ?_⟩
      have ev : a.tmps[7]?.getD undef = .agg #[.int .i64 k, .int .i64 n] := by rw [ha, e2 (hd ⟨2, .data⟩ (by simp) rfl)]; kernel_rfl
      refine wp_enter (f := 9) (args := #[.agg #[.int .i64 k, .int .i64 n]]) (by simp [execOp, ev, go_sem]) ?_
      refine (vrright_any k n w').mono ?_
      rintro e w6 ⟨rfl, HB⟩
      refine ⟨_, rfl, ?_⟩
      exact ⟨v5, v6, v7, (.bool (okW k n)), v9, v10, v11, v12, v13, v14, v15, v16, by rw [ha]; kernel_rfl, below_size hB hB.size HB, fun h => e0 (h.resolve_left (by decide)), fun h => e1 (h.resolve_left (by decide)), fun h => e2 (h.resolve_left (by decide)), fun _ => rfl, fun h => e4 (h.resolve_left (by decide)), fun h => e5 (h.resolve_left (by decide)), fun h => e6 (h.resolve_left (by decide)), fun h => e7 (h.resolve_left (by decide)), fun h => e8 (h.resolve_left (by decide)), fun h => e9 (h.resolve_left (by decide)), fun h => e10 (h.resolve_left (by decide)), fun h => e11 (h.resolve_left (by decide))⟩
    | 4, ho =>
      cases Option.some.inj ho
      refine ⟨rfl, ?_⟩
      have ev : a.tmps[6]?.getD undef = .bool (okW k n) := by rw [ha, e1 (hd ⟨1, .data⟩ (by simp) rfl)]; kernel_rfl
      have ev' : a.tmps[8]?.getD undef = .bool (okW k n) := by rw [ha, e3 (hd ⟨3, .data⟩ (by simp) rfl)]; kernel_rfl
      refine wp_value (w' := w') (v := .bool false) (by simp [execOp, ev, ev', go_sem]) ?_
      exact ⟨v5, v6, v7, v8, (.bool false), v10, v11, v12, v13, v14, v15, v16, by rw [ha]; kernel_rfl, hB, fun h => e0 (h.resolve_left (by decide)), fun h => e1 (h.resolve_left (by decide)), fun h => e2 (h.resolve_left (by decide)), fun h => e3 (h.resolve_left (by decide)), fun _ => rfl, fun h => e5 (h.resolve_left (by decide)), fun h => e6 (h.resolve_left (by decide)), fun h => e7 (h.resolve_left (by decide)), fun h => e8 (h.resolve_left (by decide)), fun h => e9 (h.resolve_left (by decide)), fun h => e10 (h.resolve_left (by decide)), fun h => e11 (h.resolve_left (by decide))⟩
    | 5, ho =>
      cases Option.some.inj ho
      refine ⟨rfl, ?_⟩
      have ev : a.tmps[9]?.getD undef = .bool false := by rw [ha, e4 (hd ⟨4, .data⟩ (by simp) rfl)]; kernel_rfl
      refine wp_value (w' := w') (v := .bool false) (by simp [execOp, ev, go_sem]) ?_
      exact ⟨v5, v6, v7, v8, v9, (.bool false), v11, v12, v13, v14, v15, v16, by rw [ha]; kernel_rfl, hB, fun h => e0 (h.resolve_left (by decide)), fun h => e1 (h.resolve_left (by decide)), fun h => e2 (h.resolve_left (by decide)), fun h => e3 (h.resolve_left (by decide)), fun h => e4 (h.resolve_left (by decide)), fun _ => rfl, fun h => e6 (h.resolve_left (by decide)), fun h => e7 (h.resolve_left (by decide)), fun h => e8 (h.resolve_left (by decide)), fun h => e9 (h.resolve_left (by decide)), fun h => e10 (h.resolve_left (by decide)), fun h => e11 (h.resolve_left (by decide))⟩
    | 6, ho =>
      cases Option.some.inj ho
      refine ⟨by rw [ha, e5 (hd ⟨5, .guard⟩ (by simp) rfl)]; kernel_rfl, ?_⟩
      have ev : a.tmps[3]?.getD undef = .pointer (some ⟨b3, 0, none⟩) := by rw [ha]; kernel_rfl
      have q0 := (hB.cell (p := ⟨b3, 0, none⟩) (lt_of_cell y0)).trans y0
      have q1 := (hB.cell (p := ⟨b3, 1, none⟩) (lt_of_cell y1)).trans y1
      have q2 := (hB.cell (p := ⟨b3, 2, none⟩) (lt_of_cell y2)).trans y2
      refine wp_value (w' := w') (v := .agg #[.int .i64 c, .slice sa sn sc, .slice ba bn bc]) (by simp [execOp, ev, go_sem, q0, q1, q2]) ?_
      exact ⟨v5, v6, v7, v8, v9, v10, (.agg #[.int .i64 c, .slice sa sn sc, .slice ba bn bc]), v12, v13, v14, v15, v16, by rw [ha]; kernel_rfl, hB, fun h => e0 (h.resolve_left (by decide)), fun h => e1 (h.resolve_left (by decide)), fun h => e2 (h.resolve_left (by decide)), fun h => e3 (h.resolve_left (by decide)), fun h => e4 (h.resolve_left (by decide)), fun h => e5 (h.resolve_left (by decide)), fun _ => rfl, fun h => e7 (h.resolve_left (by decide)), fun h => e8 (h.resolve_left (by decide)), fun h => e9 (h.resolve_left (by decide)), fun h => e10 (h.resolve_left (by decide)), fun h => e11 (h.resolve_left (by decide))⟩
    | 7, ho =>
      cases Option.some.inj ho
      refine ⟨by rw [ha, e5 (hd ⟨5, .guard⟩ (by simp) rfl)]; kernel_rfl, ?_⟩
      have ev : a.tmps[11]?.getD undef = .agg #[.int .i64 c, .slice sa sn sc, .slice ba bn bc] := by rw [ha, e6 (hd ⟨6, .data⟩ (by simp) rfl)]; kernel_rfl
      refine wp_enter (f := 10) (args := #[.agg #[.int .i64 c, .slice sa sn sc, .slice ba bn bc]]) (by simp [execOp, ev, go_sem]) ?_
      refine (vrightObj_any c (hv.below hB) hbn).mono ?_
      rintro e w6 ⟨rfl, HB⟩
      refine ⟨_, rfl, ?_⟩
      exact ⟨v5, v6, v7, v8, v9, v10, v11, (.bool (okWO c vs bn)), v13, v14, v15, v16, by rw [ha]; kernel_rfl, below_size hB hB.size HB, fun h => e0 (h.resolve_left (by decide)), fun h => e1 (h.resolve_left (by decide)), fun h => e2 (h.resolve_left (by decide)), fun h => e3 (h.resolve_left (by decide)), fun h => e4 (h.resolve_left (by decide)), fun h => e5 (h.resolve_left (by decide)), fun h => e6 (h.resolve_left (by decide)), fun _ => rfl, fun h => e8 (h.resolve_left (by decide)), fun h => e9 (h.resolve_left (by decide)), fun h => e10 (h.resolve_left (by decide)), fun h => e11 (h.resolve_left (by decide))⟩
    | 8, ho =>
      cases Option.some.inj ho
      refine ⟨by rw [ha, e5 (hd ⟨5, .guard⟩ (by simp) rfl)]; kernel_rfl, ?_⟩
      have ev : a.tmps[3]?.getD undef = .pointer (some ⟨b3, 0, none⟩) := by rw [ha]; kernel_rfl
      have q0 := (hB.cell (p := ⟨b3, 0, none⟩) (lt_of_cell y0)).trans y0
      have q1 := (hB.cell (p := ⟨b3, 1, none⟩) (lt_of_cell y1)).trans y1
      have q2 := (hB.cell (p := ⟨b3, 2, none⟩) (lt_of_cell y2)).trans y2
      refine wp_value (w' := w') (v := .agg #[.int .i64 c, .slice sa sn sc, .slice ba bn bc]) (by simp [execOp, ev, go_sem, q0, q1, q2]) ?_
      exact ⟨v5, v6, v7, v8, v9, v10, v11, v12, (.agg #[.int .i64 c, .slice sa sn sc, .slice ba bn bc]), v14, v15, v16, by rw [ha]; kernel_rfl, hB, fun h => e0 (h.resolve_left (by decide)), fun h => e1 (h.resolve_left (by decide)), fun h => e2 (h.resolve_left (by decide)), fun h => e3 (h.resolve_left (by decide)), fun h => e4 (h.resolve_left (by decide)), fun h => e5 (h.resolve_left (by decide)), fun h => e6 (h.resolve_left (by decide)), fun h => e7 (h.resolve_left (by decide)), fun _ => rfl, fun h => e9 (h.resolve_left (by decide)), fun h => e10 (h.resolve_left (by decide)), fun h => e11 (h.resolve_left (by decide))⟩
    | 9, ho =>
      cases Option.some.inj ho
      refine ⟨by rw [ha, e5 (hd ⟨5, .guard⟩ (by simp) rfl)]; kernel_rfl, ?_⟩
      have ev : a.tmps[13]?.getD undef = .agg #[.int .i64 c, .slice sa sn sc, .slice ba bn bc] := by rw [ha, e8 (hd ⟨8, .data⟩ (by simp) rfl)]; kernel_rfl
      refine wp_enter (f := 11) (args := #[.agg #[.int .i64 c, .slice sa sn sc, .slice ba bn bc]]) (by simp [execOp, ev, go_sem]) ?_
      refine (vrrightObj_any c (hv.below hB) hbn).mono ?_
      rintro e w6 ⟨rfl, HB⟩
      refine ⟨_, rfl, ?_⟩
      exact ⟨v5, v6, v7, v8, v9, v10, v11, v12, v13, (.bool (okWO c vs bn)), v15, v16, by rw [ha]; kernel_rfl, below_size hB hB.size HB, fun h => e0 (h.resolve_left (by decide)), fun h => e1 (h.resolve_left (by decide)), fun h => e2 (h.resolve_left (by decide)), fun h => e3 (h.resolve_left (by decide)), fun h => e4 (h.resolve_left (by decide)), fun h => e5 (h.resolve_left (by decide)), fun h => e6 (h.resolve_left (by decide)), fun h => e7 (h.resolve_left (by decide)), fun h => e8 (h.resolve_left (by decide)), fun _ => rfl, fun h => e10 (h.resolve_left (by decide)), fun h => e11 (h.resolve_left (by decide))⟩
    | 10, ho =>
      cases Option.some.inj ho
      refine ⟨by rw [ha, e5 (hd ⟨5, .guard⟩ (by simp) rfl)]; kernel_rfl, ?_⟩
      have ev : a.tmps[12]?.getD undef = .bool (okWO c vs bn) := by rw [ha, e7 (hd ⟨7, .data⟩ (by simp) rfl)]; kernel_rfl
      have ev' : a.tmps[14]?.getD undef = .bool (okWO c vs bn) := by rw [ha, e9 (hd ⟨9, .data⟩ (by simp) rfl)]; kernel_rfl
      refine wp_value (w' := w') (v := .bool false) (by simp [execOp, ev, ev', go_sem]) ?_
      exact ⟨v5, v6, v7, v8, v9, v10, v11, v12, v13, v14, (.bool false), v16, by rw [ha]; kernel_rfl, hB, fun h => e0 (h.resolve_left (by decide)), fun h => e1 (h.resolve_left (by decide)), fun h => e2 (h.resolve_left (by decide)), fun h => e3 (h.resolve_left (by decide)), fun h => e4 (h.resolve_left (by decide)), fun h => e5 (h.resolve_left (by decide)), fun h => e6 (h.resolve_left (by decide)), fun h => e7 (h.resolve_left (by decide)), fun h => e8 (h.resolve_left (by decide)), fun h => e9 (h.resolve_left (by decide)), fun _ => rfl, fun h => e11 (h.resolve_left (by decide))⟩
    | 11, ho =>
      cases Option.some.inj ho
      refine ⟨rfl, ?_⟩
      have ev : a.tmps[10]?.getD undef = .bool false := by rw [ha, e5 (hd ⟨5, .data⟩ (by simp) rfl)]; kernel_rfl
      have ev' : a.tmps[15]?.getD undef = .bool false := by rw [ha, e10 (hd ⟨10, .data⟩ (by simp) rfl)]; kernel_rfl
      refine wp_value (w' := w') (v := .bool false) (by simp [execOp, ev, ev', go_sem]) ?_
      exact ⟨v5, v6, v7, v8, v9, v10, v11, v12, v13, v14, v15, (.bool false), by rw [ha]; kernel_rfl, hB, fun h => e0 (h.resolve_left (by decide)), fun h => e1 (h.resolve_left (by decide)), fun h => e2 (h.resolve_left (by decide)), fun h => e3 (h.resolve_left (by decide)), fun h => e4 (h.resolve_left (by decide)), fun h => e5 (h.resolve_left (by decide)), fun h => e6 (h.resolve_left (by decide)), fun h => e7 (h.resolve_left (by decide)), fun h => e8 (h.resolve_left (by decide)), fun h => e9 (h.resolve_left (by decide)), fun h => e10 (h.resolve_left (by decide)), fun _ => rfl⟩
    | i + 12, ho => simp at ho
  case done =>
    rintro D a w' ⟨v5, v6, v7, v8, v9, v10, v11, v12, v13, v14, v15, v16, ha, hB, e0, e1, e2, e3, e4, e5, e6, e7, e8, e9, e10, e11⟩ hall
    obtain rfl := e0 (hall 0 (by decide))
    obtain rfl := e1 (hall 1 (by decide))
    obtain rfl := e2 (hall 2 (by decide))
    obtain rfl := e3 (hall 3 (by decide))
    obtain rfl := e4 (hall 4 (by decide))
    obtain rfl := e5 (hall 5 (by decide))
    obtain rfl := e6 (hall 6 (by decide))
    obtain rfl := e7 (hall 7 (by decide))
    obtain rfl := e8 (hall 8 (by decide))
    obtain rfl := e9 (hall 9 (by decide))
    obtain rfl := e10 (hall 10 (by decide))
    obtain rfl := e11 (hall 11 (by decide))
    clear hall e0 e1 e2 e3 e4 e5 e6 e7 e8 e9 e10 e11
    rw [ha]
    clear ha
    simp only [Act.put, List.setIfInBounds_toArray, List.set_cons_zero, List.set_cons_succ]
    have F2 := (hB.block b2 (lt_of_block E2)).trans E2
    have F3 := (hB.block b3 (lt_of_block E3)).trans E3
    have hv2 := hv.below hB
    have BB := below_size B1 B1.size hB
    clear x0 x1 y0 y1 y2 yf hv hB E2 E3 B1 hv0
    obtain ⟨x0, x1⟩ := val_cells F2
    obtain ⟨y0, y1, y2, yf⟩ := obj_cells (c := c) (v1 := .slice sa sn sc) (v2 := .slice ba bn bc) F3
    go_wp2_with fail
    refine (rright_any k n _).mono ?_
    rintro e wn ⟨rfl, HB⟩
    have F2 := (HB.block b2 (lt_of_block F2)).trans F2
    have F3 := (HB.block b3 (lt_of_block F3)).trans F3
    have hv2 := hv2.below HB
    have BB := below_size BB BB.size HB
    clear x0 x1 y0 y1 y2 yf HB
    obtain ⟨x0, x1⟩ := val_cells F2
    obtain ⟨y0, y1, y2, yf⟩ := obj_cells (c := c) (v1 := .slice sa sn sc) (v2 := .slice ba bn bc) F3
    cases hV : okV k n with
    | true =>
      have hW := okV_okW hV
      go_wp2_with fail
      refine (vright_any k n _).mono ?_
      rintro e wn ⟨rfl, HB⟩
      have F2 := (HB.block b2 (lt_of_block F2)).trans F2
      have F3 := (HB.block b3 (lt_of_block F3)).trans F3
      have hv2 := hv2.below HB
      have BB := below_size BB BB.size HB
      clear x0 x1 y0 y1 y2 yf HB
      obtain ⟨x0, x1⟩ := val_cells F2
      obtain ⟨y0, y1, y2, yf⟩ := obj_cells (c := c) (v1 := .slice sa sn sc) (v2 := .slice ba bn bc) F3
      rw [hW]
      go_wp2_with fail
      refine (rrightObj_any c hv2 hbn).mono ?_
      rintro e wn ⟨rfl, HB⟩
      have F2 := (HB.block b2 (lt_of_block F2)).trans F2
      have F3 := (HB.block b3 (lt_of_block F3)).trans F3
      have hv2 := hv2.below HB
      have BB := below_size BB BB.size HB
      clear x0 x1 y0 y1 y2 yf HB
      obtain ⟨x0, x1⟩ := val_cells F2
      obtain ⟨y0, y1, y2, yf⟩ := obj_cells (c := c) (v1 := .slice sa sn sc) (v2 := .slice ba bn bc) F3
      cases hO : okO c vs bn with
      | true =>
        have hWO := okO_okWO hO
        go_wp2_with fail
        refine (vrightObj_any c hv2 hbn).mono ?_
        rintro e wn ⟨rfl, HB⟩
        have F2 := (HB.block b2 (lt_of_block F2)).trans F2
        have F3 := (HB.block b3 (lt_of_block F3)).trans F3
        have hv2 := hv2.below HB
        have BB := below_size BB BB.size HB
        clear x0 x1 y0 y1 y2 yf HB
        obtain ⟨x0, x1⟩ := val_cells F2
        obtain ⟨y0, y1, y2, yf⟩ := obj_cells (c := c) (v1 := .slice sa sn sc) (v2 := .slice ba bn bc) F3
        rw [hWO]
        go_wp2_with fail
        refine (known_true _).mono ?_
        rintro e wk ⟨rfl, HB⟩
        have BB := below_size BB BB.size HB
        go_wp2
        go_ret
        exact ⟨rfl, BB⟩
      | false =>
        go_wp2_with fail
        refine (known_true _).mono ?_
        rintro e wk ⟨rfl, HB⟩
        have BB := below_size BB BB.size HB
        go_wp2
        go_ret
        exact ⟨rfl, BB⟩
    | false =>
      go_wp2_with fail
      refine (rrightObj_any c hv2 hbn).mono ?_
      rintro e wn ⟨rfl, HB⟩
      have F2 := (HB.block b2 (lt_of_block F2)).trans F2
      have F3 := (HB.block b3 (lt_of_block F3)).trans F3
      have hv2 := hv2.below HB
      have BB := below_size BB BB.size HB
      clear x0 x1 y0 y1 y2 yf HB
      obtain ⟨x0, x1⟩ := val_cells F2
      obtain ⟨y0, y1, y2, yf⟩ := obj_cells (c := c) (v1 := .slice sa sn sc) (v2 := .slice ba bn bc) F3
      cases hO : okO c vs bn with
      | true =>
        have hWO := okO_okWO hO
        go_wp2_with fail
        refine (vrightObj_any c hv2 hbn).mono ?_
        rintro e wn ⟨rfl, HB⟩
        have F2 := (HB.block b2 (lt_of_block F2)).trans F2
        have F3 := (HB.block b3 (lt_of_block F3)).trans F3
        have hv2 := hv2.below HB
        have BB := below_size BB BB.size HB
        clear x0 x1 y0 y1 y2 yf HB
        obtain ⟨x0, x1⟩ := val_cells F2
        obtain ⟨y0, y1, y2, yf⟩ := obj_cells (c := c) (v1 := .slice sa sn sc) (v2 := .slice ba bn bc) F3
        rw [hWO]
        go_wp2_with fail
        refine (known_true _).mono ?_
        rintro e wk ⟨rfl, HB⟩
        have BB := below_size BB BB.size HB
        go_wp2
        go_ret
        exact ⟨rfl, BB⟩
      | false =>
        go_wp2_with fail
        refine (known_true _).mono ?_
        rintro e wk ⟨rfl, HB⟩
        have BB := below_size BB BB.size HB
        go_wp2
        go_ret
        exact ⟨rfl, BB⟩
end Go.Proofs.Yteomolihandfnaa
