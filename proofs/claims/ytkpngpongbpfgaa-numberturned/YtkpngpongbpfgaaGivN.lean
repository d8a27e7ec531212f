/- A number as the program has it, and as the document has it. -/
import Derived.Test.YtkpngpongbpfgaaRGetM
import Derived.Test.YtkpngpongbpfgaaPairN
namespace Go.Proofs.Ytkpngpongbpfgaa
open Go.RowKit
set_option maxRecDepth 100000
theorem Try.results8 : Try.f8.results = #[.cell 2 31] := by kernel_rfl
theorem Try.results12 : Try.f12.results = #[.cell 2 27] := by kernel_rfl
set_option maxHeartbeats 4000000 in
theorem given_N {w : World} (p neg : Bool) (x y : Nat) {ja : Option Addr} {jn jc : Nat} {xs : List Int} (h : IsB w ja jn jc xs) (hl : jn ≤ 140737488351232) : Calls Try.prog 8 #[.agg #[.bool p, .bool neg, .slice ja jn jc, .float .f64 x, .float .f64 y]] w fun e w' => ∃ gb, e = .returned (.agg #[.bool p, .bool neg, .slice (some ⟨gb, 0, none⟩) jn (jn + 8), .complex .f64 x y]) ∧ IsB w' (some ⟨gb, 0, none⟩) (jn + 8) (jn + 8) (xs ++ pad) ∧ Below w.heap.size w w' := by
  have E1 := oldF (newF w (numR p neg (.slice ja jn jc) x y)) (numP false false (.slice none 0 0) 0 0)
  have F1 := newF (w.alloc (numR p neg (.slice ja jn jc) x y)) (numP false false (.slice none 0 0) 0 0)
  have B2 : Below w.heap.size w ((w.alloc (numR p neg (.slice ja jn jc) x y)).alloc (numP false false (.slice none 0 0) 0 0)) := below_sizeF box_belowF (Nat.le_refl _) box_belowF
  rw [size1] at F1
  have I2 := h.below B2
  have hsc := stC_run
  unfold numR numP at E1 F1 B2 I2
  go_enter Try.func8, Try.ntmps8
  go_upto_region 1 with fail
  generalize (w.alloc (.cells #[.bool p, .bool neg, .slice ja jn jc, .float .f64 x, .float .f64 y] 27)).alloc (.cells #[.bool false, .bool false, .slice none 0 0, .complex .f64 0 0] 31) = w2 at *
  have hb2 : w.heap.size ≤ w.heap.size + 1 := by omega
  generalize w.heap.size + 1 = b2 at *
  replace E1 : w2.heap[w.heap.size]? = some (numR p neg (.slice ja jn jc) x y) := E1
  replace F1 : w2.heap[b2]? = some (numP false false (.slice none 0 0) 0 0) := F1
  refine wp_region_inv' (fun A D a w' => ∃ v3 v4 v5 v6 v7 v8 v9 v10 v11 v12 v13 v14 v15 v16 v17 v18 gb, a = ((((((((((((((((A.put (some 3) v3).put (some 4) v4).put (some 5) v5).put (some 6) v6).put (some 7) v7).put (some 8) v8).put (some 9) v9).put (some 10) v10).put (some 11) v11).put (some 12) v12).put (some 13) v13).put (some 14) v14).put (some 15) v15).put (some 16) v16).put (some 17) v17).put (some 18) v18) ∧ (D 16 ∨ Below w2.heap.size w2 w') ∧ (D 16 → ∃ w9, Below w2.heap.size w2 w9 ∧ (IsB w9 (some ⟨gb, 0, none⟩) (jn + 8) (jn + 8) (xs ++ pad) ∧ w2.heap.size ≤ gb) ∧ w' = stP w9 b2 p neg (.slice (some ⟨gb, 0, none⟩) jn (jn + 8)) x y) ∧ (D 0 → v3 = .pointer (some ⟨w.heap.size, 0, none⟩)) ∧ (D 1 → v4 = .bool p) ∧ (D 2 → v5 = .pointer (some ⟨w.heap.size, 1, none⟩)) ∧ (D 3 → v6 = .pointer (some ⟨w.heap.size, 1, none⟩)) ∧ (D 4 → v7 = .bool neg) ∧ (D 5 → v8 = .pointer (some ⟨w.heap.size, 1, none⟩)) ∧ (D 6 → v9 = .pointer (some ⟨w.heap.size, 2, none⟩)) ∧ (D 7 → v10 = .slice ja jn jc) ∧ (D 8 → v11 = .slice (some ⟨gb, 0, none⟩) jn (jn + 8)) ∧ (D 9 → v12 = .agg #[.bool neg, .slice (some ⟨gb, 0, none⟩) jn (jn + 8)]) ∧ (D 10 → v13 = .pointer (some ⟨w.heap.size, 3, none⟩)) ∧ (D 11 → v14 = .float .f64 x) ∧ (D 12 → v15 = .pointer (some ⟨w.heap.size, 4, none⟩)) ∧ (D 13 → v16 = .float .f64 y) ∧ (D 14 → v17 = .complex .f64 x y) ∧ (D 15 → v18 = .agg #[.bool p, .bool neg, .slice (some ⟨gb, 0, none⟩) jn (jn + 8), .complex .f64 x y]) ∧ (D 8 → ¬ D 16 → IsB w' (some ⟨gb, 0, none⟩) (jn + 8) (jn + 8) (xs ++ pad) ∧ w2.heap.size ≤ gb)) (by kernel_rfl) (by kernel_rfl) ?mono ?start ?step ?done
  case mono =>
    rintro D D' a w' hD ⟨v3, v4, v5, v6, v7, v8, v9, v10, v11, v12, v13, v14, v15, v16, v17, v18, gb, ha, hB, hQ, e0, e1, e2, e3, e4, e5, e6, e7, e8, e9, e10, e11, e12, e13, e14, e15, hL⟩
    exact ⟨v3, v4, v5, v6, v7, v8, v9, v10, v11, v12, v13, v14, v15, v16, v17, v18, gb, ha, hB.imp_left (hD 16).1, fun h => hQ ((hD 16).2 h), fun h => e0 ((hD 0).2 h), fun h => e1 ((hD 1).2 h), fun h => e2 ((hD 2).2 h), fun h => e3 ((hD 3).2 h), fun h => e4 ((hD 4).2 h), fun h => e5 ((hD 5).2 h), fun h => e6 ((hD 6).2 h), fun h => e7 ((hD 7).2 h), fun h => e8 ((hD 8).2 h), fun h => e9 ((hD 9).2 h), fun h => e10 ((hD 10).2 h), fun h => e11 ((hD 11).2 h), fun h => e12 ((hD 12).2 h), fun h => e13 ((hD 13).2 h), fun h => e14 ((hD 14).2 h), fun h => e15 ((hD 15).2 h), fun h h' => hL ((hD 8).2 h) (fun k => h' ((hD 16).1 k))⟩
  case start => exact ⟨undef, undef, undef, undef, undef, undef, undef, undef, undef, undef, undef, undef, undef, undef, undef, undef, 0, by kernel_rfl, .inr ((Below.refl _ _).drew), fun h => h.elim, fun h => h.elim, fun h => h.elim, fun h => h.elim, fun h => h.elim, fun h => h.elim, fun h => h.elim, fun h => h.elim, fun h => h.elim, fun h => h.elim, fun h => h.elim, fun h => h.elim, fun h => h.elim, fun h => h.elim, fun h => h.elim, fun h => h.elim, fun h => h.elim, fun h _ => h.elim⟩
  case step =>
    intro i o ho D a w' hI hn hcl hd
    obtain ⟨v3, v4, v5, v6, v7, v8, v9, v10, v11, v12, v13, v14, v15, v16, v17, v18, gb, ha, hB, hQ, e0, e1, e2, e3, e4, e5, e6, e7, e8, e9, e10, e11, e12, e13, e14, e15, hL⟩ := hI
    match i, ho with
    | 0, ho =>
      cases Option.some.inj ho
      have ev : a.tmps[1]?.getD undef = .pointer (some ⟨w.heap.size, 0, none⟩) := by rw [ha]; kernel_rfl
      refine wp_value (w' := w') (v := .pointer (some ⟨w.heap.size, 0, none⟩)) (by simp [execOp, ev, go_sem]) ?_
      exact ⟨(.pointer (some ⟨w.heap.size, 0, none⟩)), v4, v5, v6, v7, v8, v9, v10, v11, v12, v13, v14, v15, v16, v17, v18, gb, by rw [ha]; kernel_rfl, hB.imp_left .inr, fun h => hQ (h.resolve_left (by decide)), fun _ => rfl, fun h => e1 (h.resolve_left (by decide)), fun h => e2 (h.resolve_left (by decide)), fun h => e3 (h.resolve_left (by decide)), fun h => e4 (h.resolve_left (by decide)), fun h => e5 (h.resolve_left (by decide)), fun h => e6 (h.resolve_left (by decide)), fun h => e7 (h.resolve_left (by decide)), fun h => e8 (h.resolve_left (by decide)), fun h => e9 (h.resolve_left (by decide)), fun h => e10 (h.resolve_left (by decide)), fun h => e11 (h.resolve_left (by decide)), fun h => e12 (h.resolve_left (by decide)), fun h => e13 (h.resolve_left (by decide)), fun h => e14 (h.resolve_left (by decide)), fun h => e15 (h.resolve_left (by decide)), fun h h' => hL (h.resolve_left (by decide)) (fun k => h' (.inr k))⟩
    | 1, ho =>
      cases Option.some.inj ho
      have ev : a.tmps[3]?.getD undef = .pointer (some ⟨w.heap.size, 0, none⟩) := by rw [ha, e0 (hd ⟨0, .data⟩ (by simp) rfl)]; kernel_rfl
      obtain ⟨z0, _, _, _, _, _⟩ := numR_cells (((hB.resolve_left (fun h => (fun h => hn (hcl 15 _ rfl h ⟨1, .data⟩ (by simp) rfl)) (hcl 16 _ rfl h ⟨15, .data⟩ (by simp) rfl))).block _ (lt_of_blockF E1)).trans E1)
      refine wp_value (w' := w') (v := .bool p) (by simp [execOp, ev, go_sem, z0]) ?_
      exact ⟨v3, (.bool p), v5, v6, v7, v8, v9, v10, v11, v12, v13, v14, v15, v16, v17, v18, gb, by rw [ha]; kernel_rfl, hB.imp_left .inr, fun h => hQ (h.resolve_left (by decide)), fun h => e0 (h.resolve_left (by decide)), fun _ => rfl, fun h => e2 (h.resolve_left (by decide)), fun h => e3 (h.resolve_left (by decide)), fun h => e4 (h.resolve_left (by decide)), fun h => e5 (h.resolve_left (by decide)), fun h => e6 (h.resolve_left (by decide)), fun h => e7 (h.resolve_left (by decide)), fun h => e8 (h.resolve_left (by decide)), fun h => e9 (h.resolve_left (by decide)), fun h => e10 (h.resolve_left (by decide)), fun h => e11 (h.resolve_left (by decide)), fun h => e12 (h.resolve_left (by decide)), fun h => e13 (h.resolve_left (by decide)), fun h => e14 (h.resolve_left (by decide)), fun h => e15 (h.resolve_left (by decide)), fun h h' => hL (h.resolve_left (by decide)) (fun k => h' (.inr k))⟩
    | 2, ho =>
      cases Option.some.inj ho
      have ev : a.tmps[1]?.getD undef = .pointer (some ⟨w.heap.size, 0, none⟩) := by rw [ha]; kernel_rfl
      refine wp_value (w' := w') (v := .pointer (some ⟨w.heap.size, 1, none⟩)) (by simp [execOp, ev, go_sem]) ?_
      exact ⟨v3, v4, (.pointer (some ⟨w.heap.size, 1, none⟩)), v6, v7, v8, v9, v10, v11, v12, v13, v14, v15, v16, v17, v18, gb, by rw [ha]; kernel_rfl, hB.imp_left .inr, fun h => hQ (h.resolve_left (by decide)), fun h => e0 (h.resolve_left (by decide)), fun h => e1 (h.resolve_left (by decide)), fun _ => rfl, fun h => e3 (h.resolve_left (by decide)), fun h => e4 (h.resolve_left (by decide)), fun h => e5 (h.resolve_left (by decide)), fun h => e6 (h.resolve_left (by decide)), fun h => e7 (h.resolve_left (by decide)), fun h => e8 (h.resolve_left (by decide)), fun h => e9 (h.resolve_left (by decide)), fun h => e10 (h.resolve_left (by decide)), fun h => e11 (h.resolve_left (by decide)), fun h => e12 (h.resolve_left (by decide)), fun h => e13 (h.resolve_left (by decide)), fun h => e14 (h.resolve_left (by decide)), fun h => e15 (h.resolve_left (by decide)), fun h h' => hL (h.resolve_left (by decide)) (fun k => h' (.inr k))⟩
    | 3, ho =>
      cases Option.some.inj ho
      have ev : a.tmps[5]?.getD undef = .pointer (some ⟨w.heap.size, 1, none⟩) := by rw [ha, e2 (hd ⟨2, .data⟩ (by simp) rfl)]; kernel_rfl
      refine wp_value (w' := w') (v := .pointer (some ⟨w.heap.size, 1, none⟩)) (by simp [execOp, ev, go_sem]) ?_
      exact ⟨v3, v4, v5, (.pointer (some ⟨w.heap.size, 1, none⟩)), v7, v8, v9, v10, v11, v12, v13, v14, v15, v16, v17, v18, gb, by rw [ha]; kernel_rfl, hB.imp_left .inr, fun h => hQ (h.resolve_left (by decide)), fun h => e0 (h.resolve_left (by decide)), fun h => e1 (h.resolve_left (by decide)), fun h => e2 (h.resolve_left (by decide)), fun _ => rfl, fun h => e4 (h.resolve_left (by decide)), fun h => e5 (h.resolve_left (by decide)), fun h => e6 (h.resolve_left (by decide)), fun h => e7 (h.resolve_left (by decide)), fun h => e8 (h.resolve_left (by decide)), fun h => e9 (h.resolve_left (by decide)), fun h => e10 (h.resolve_left (by decide)), fun h => e11 (h.resolve_left (by decide)), fun h => e12 (h.resolve_left (by decide)), fun h => e13 (h.resolve_left (by decide)), fun h => e14 (h.resolve_left (by decide)), fun h => e15 (h.resolve_left (by decide)), fun h h' => hL (h.resolve_left (by decide)) (fun k => h' (.inr k))⟩
    | 4, ho =>
      cases Option.some.inj ho
      have ev : a.tmps[6]?.getD undef = .pointer (some ⟨w.heap.size, 1, none⟩) := by rw [ha, e3 (hd ⟨3, .data⟩ (by simp) rfl)]; kernel_rfl
      obtain ⟨_, z1, _, _, _, _⟩ := numR_cells (((hB.resolve_left (fun h => (fun h => (fun h => hn (hcl 9 _ rfl h ⟨4, .data⟩ (by simp) rfl)) (hcl 15 _ rfl h ⟨9, .data⟩ (by simp) rfl)) (hcl 16 _ rfl h ⟨15, .data⟩ (by simp) rfl))).block _ (lt_of_blockF E1)).trans E1)
      refine wp_value (w' := w') (v := .bool neg) (by simp [execOp, ev, go_sem, z1]) ?_
      exact ⟨v3, v4, v5, v6, (.bool neg), v8, v9, v10, v11, v12, v13, v14, v15, v16, v17, v18, gb, by rw [ha]; kernel_rfl, hB.imp_left .inr, fun h => hQ (h.resolve_left (by decide)), fun h => e0 (h.resolve_left (by decide)), fun h => e1 (h.resolve_left (by decide)), fun h => e2 (h.resolve_left (by decide)), fun h => e3 (h.resolve_left (by decide)), fun _ => rfl, fun h => e5 (h.resolve_left (by decide)), fun h => e6 (h.resolve_left (by decide)), fun h => e7 (h.resolve_left (by decide)), fun h => e8 (h.resolve_left (by decide)), fun h => e9 (h.resolve_left (by decide)), fun h => e10 (h.resolve_left (by decide)), fun h => e11 (h.resolve_left (by decide)), fun h => e12 (h.resolve_left (by decide)), fun h => e13 (h.resolve_left (by decide)), fun h => e14 (h.resolve_left (by decide)), fun h => e15 (h.resolve_left (by decide)), fun h h' => hL (h.resolve_left (by decide)) (fun k => h' (.inr k))⟩
    | 5, ho =>
      cases Option.some.inj ho
      have ev : a.tmps[1]?.getD undef = .pointer (some ⟨w.heap.size, 0, none⟩) := by rw [ha]; kernel_rfl
      refine wp_value (w' := w') (v := .pointer (some ⟨w.heap.size, 1, none⟩)) (by simp [execOp, ev, go_sem]) ?_
      exact ⟨v3, v4, v5, v6, v7, (.pointer (some ⟨w.heap.size, 1, none⟩)), v9, v10, v11, v12, v13, v14, v15, v16, v17, v18, gb, by rw [ha]; kernel_rfl, hB.imp_left .inr, fun h => hQ (h.resolve_left (by decide)), fun h => e0 (h.resolve_left (by decide)), fun h => e1 (h.resolve_left (by decide)), fun h => e2 (h.resolve_left (by decide)), fun h => e3 (h.resolve_left (by decide)), fun h => e4 (h.resolve_left (by decide)), fun _ => rfl, fun h => e6 (h.resolve_left (by decide)), fun h => e7 (h.resolve_left (by decide)), fun h => e8 (h.resolve_left (by decide)), fun h => e9 (h.resolve_left (by decide)), fun h => e10 (h.resolve_left (by decide)), fun h => e11 (h.resolve_left (by decide)), fun h => e12 (h.resolve_left (by decide)), fun h => e13 (h.resolve_left (by decide)), fun h => e14 (h.resolve_left (by decide)), fun h => e15 (h.resolve_left (by decide)), fun h h' => hL (h.resolve_left (by decide)) (fun k => h' (.inr k))⟩
    | 6, ho =>
      cases Option.some.inj ho
      have ev : a.tmps[8]?.getD undef = .pointer (some ⟨w.heap.size, 1, none⟩) := by rw [ha, e5 (hd ⟨5, .data⟩ (by simp) rfl)]; kernel_rfl
      refine wp_value (w' := w') (v := .pointer (some ⟨w.heap.size, 2, none⟩)) (by simp [execOp, ev, go_sem]) ?_
      exact ⟨v3, v4, v5, v6, v7, v8, (.pointer (some ⟨w.heap.size, 2, none⟩)), v10, v11, v12, v13, v14, v15, v16, v17, v18, gb, by rw [ha]; kernel_rfl, hB.imp_left .inr, fun h => hQ (h.resolve_left (by decide)), fun h => e0 (h.resolve_left (by decide)), fun h => e1 (h.resolve_left (by decide)), fun h => e2 (h.resolve_left (by decide)), fun h => e3 (h.resolve_left (by decide)), fun h => e4 (h.resolve_left (by decide)), fun h => e5 (h.resolve_left (by decide)), fun _ => rfl, fun h => e7 (h.resolve_left (by decide)), fun h => e8 (h.resolve_left (by decide)), fun h => e9 (h.resolve_left (by decide)), fun h => e10 (h.resolve_left (by decide)), fun h => e11 (h.resolve_left (by decide)), fun h => e12 (h.resolve_left (by decide)), fun h => e13 (h.resolve_left (by decide)), fun h => e14 (h.resolve_left (by decide)), fun h => e15 (h.resolve_left (by decide)), fun h h' => hL (h.resolve_left (by decide)) (fun k => h' (.inr k))⟩
    | 7, ho =>
      cases Option.some.inj ho
      have ev : a.tmps[9]?.getD undef = .pointer (some ⟨w.heap.size, 2, none⟩) := by rw [ha, e6 (hd ⟨6, .data⟩ (by simp) rfl)]; kernel_rfl
      obtain ⟨_, _, z2, _, _, _⟩ := numR_cells (((hB.resolve_left (fun h => (fun h => (fun h => (fun h => hn (hcl 8 _ rfl h ⟨7, .data⟩ (by simp) rfl)) (hcl 9 _ rfl h ⟨8, .data⟩ (by simp) rfl)) (hcl 15 _ rfl h ⟨9, .data⟩ (by simp) rfl)) (hcl 16 _ rfl h ⟨15, .data⟩ (by simp) rfl))).block _ (lt_of_blockF E1)).trans E1)
      refine wp_value (w' := w') (v := .slice ja jn jc) (by simp [execOp, ev, go_sem, z2]) ?_
      exact ⟨v3, v4, v5, v6, v7, v8, v9, (.slice ja jn jc), v11, v12, v13, v14, v15, v16, v17, v18, gb, by rw [ha]; kernel_rfl, hB.imp_left .inr, fun h => hQ (h.resolve_left (by decide)), fun h => e0 (h.resolve_left (by decide)), fun h => e1 (h.resolve_left (by decide)), fun h => e2 (h.resolve_left (by decide)), fun h => e3 (h.resolve_left (by decide)), fun h => e4 (h.resolve_left (by decide)), fun h => e5 (h.resolve_left (by decide)), fun h => e6 (h.resolve_left (by decide)), fun _ => rfl, fun h => e8 (h.resolve_left (by decide)), fun h => e9 (h.resolve_left (by decide)), fun h => e10 (h.resolve_left (by decide)), fun h => e11 (h.resolve_left (by decide)), fun h => e12 (h.resolve_left (by decide)), fun h => e13 (h.resolve_left (by decide)), fun h => e14 (h.resolve_left (by decide)), fun h => e15 (h.resolve_left (by decide)), fun h h' => hL (h.resolve_left (by decide)) (fun k => h' (.inr k))⟩
    | 8, ho =>
      cases Option.some.inj ho
      have ev : a.tmps[10]?.getD undef = .slice ja jn jc := by rw [ha, e7 (hd ⟨7, .data⟩ (by simp) rfl)]; kernel_rfl
      have hB8 := hB.resolve_left (fun h => (fun h => (fun h => hn (hcl 9 _ rfl h ⟨8, .data⟩ (by simp) rfl)) (hcl 15 _ rfl h ⟨9, .data⟩ (by simp) rfl)) (hcl 16 _ rfl h ⟨15, .data⟩ (by simp) rfl))
      refine wp_enter (f := 16) (args := #[.slice ja jn jc]) (by simp [execOp, ev, go_sem]) ?_
      refine (lent_any (I2.below hB8) hl).mono ?_
      rintro e w6 ⟨rfl, IL, HB⟩
      refine ⟨_, rfl, ?_⟩
      exact ⟨v3, v4, v5, v6, v7, v8, v9, v10, (.slice (some ⟨w'.heap.size, 0, none⟩) jn (jn + 8)), v12, v13, v14, v15, v16, v17, v18, w'.heap.size, by rw [ha]; kernel_rfl, .inr (below_sizeF (hB.resolve_left (fun h => (fun h => (fun h => hn (hcl 9 _ rfl h ⟨8, .data⟩ (by simp) rfl)) (hcl 15 _ rfl h ⟨9, .data⟩ (by simp) rfl)) (hcl 16 _ rfl h ⟨15, .data⟩ (by simp) rfl))) (Nat.le_refl _) HB), fun h => absurd (h.resolve_left (by decide)) (fun h => (fun h => (fun h => hn (hcl 9 _ rfl h ⟨8, .data⟩ (by simp) rfl)) (hcl 15 _ rfl h ⟨9, .data⟩ (by simp) rfl)) (hcl 16 _ rfl h ⟨15, .data⟩ (by simp) rfl)), fun h => e0 (h.resolve_left (by decide)), fun h => e1 (h.resolve_left (by decide)), fun h => e2 (h.resolve_left (by decide)), fun h => e3 (h.resolve_left (by decide)), fun h => e4 (h.resolve_left (by decide)), fun h => e5 (h.resolve_left (by decide)), fun h => e6 (h.resolve_left (by decide)), fun h => e7 (h.resolve_left (by decide)), fun _ => rfl, fun h => absurd (h.resolve_left (by decide)) (fun h => hn (hcl 9 _ rfl h ⟨8, .data⟩ (by simp) rfl)), fun h => e10 (h.resolve_left (by decide)), fun h => e11 (h.resolve_left (by decide)), fun h => e12 (h.resolve_left (by decide)), fun h => e13 (h.resolve_left (by decide)), fun h => e14 (h.resolve_left (by decide)), fun h => absurd (h.resolve_left (by decide)) (fun h => (fun h => hn (hcl 9 _ rfl h ⟨8, .data⟩ (by simp) rfl)) (hcl 15 _ rfl h ⟨9, .data⟩ (by simp) rfl)), fun _ _ => ⟨IL, hB8.size⟩⟩
    | 9, ho =>
      cases Option.some.inj ho
      have ev : a.tmps[7]?.getD undef = .bool neg := by rw [ha, e4 (hd ⟨4, .data⟩ (by simp) rfl)]; kernel_rfl
      have ev' : a.tmps[11]?.getD undef = .slice (some ⟨gb, 0, none⟩) jn (jn + 8) := by rw [ha, e8 (hd ⟨8, .data⟩ (by simp) rfl)]; kernel_rfl
      refine wp_value (w' := w') (v := .agg #[.bool neg, .slice (some ⟨gb, 0, none⟩) jn (jn + 8)]) (by simp [execOp, ev, ev', go_sem]) ?_
      exact ⟨v3, v4, v5, v6, v7, v8, v9, v10, v11, (.agg #[.bool neg, .slice (some ⟨gb, 0, none⟩) jn (jn + 8)]), v13, v14, v15, v16, v17, v18, gb, by rw [ha]; kernel_rfl, hB.imp_left .inr, fun h => hQ (h.resolve_left (by decide)), fun h => e0 (h.resolve_left (by decide)), fun h => e1 (h.resolve_left (by decide)), fun h => e2 (h.resolve_left (by decide)), fun h => e3 (h.resolve_left (by decide)), fun h => e4 (h.resolve_left (by decide)), fun h => e5 (h.resolve_left (by decide)), fun h => e6 (h.resolve_left (by decide)), fun h => e7 (h.resolve_left (by decide)), fun h => e8 (h.resolve_left (by decide)), fun _ => rfl, fun h => e10 (h.resolve_left (by decide)), fun h => e11 (h.resolve_left (by decide)), fun h => e12 (h.resolve_left (by decide)), fun h => e13 (h.resolve_left (by decide)), fun h => e14 (h.resolve_left (by decide)), fun h => e15 (h.resolve_left (by decide)), fun h h' => hL (h.resolve_left (by decide)) (fun k => h' (.inr k))⟩
    | 10, ho =>
      cases Option.some.inj ho
      have ev : a.tmps[1]?.getD undef = .pointer (some ⟨w.heap.size, 0, none⟩) := by rw [ha]; kernel_rfl
      refine wp_value (w' := w') (v := .pointer (some ⟨w.heap.size, 3, none⟩)) (by simp [execOp, ev, go_sem]) ?_
      exact ⟨v3, v4, v5, v6, v7, v8, v9, v10, v11, v12, (.pointer (some ⟨w.heap.size, 3, none⟩)), v14, v15, v16, v17, v18, gb, by rw [ha]; kernel_rfl, hB.imp_left .inr, fun h => hQ (h.resolve_left (by decide)), fun h => e0 (h.resolve_left (by decide)), fun h => e1 (h.resolve_left (by decide)), fun h => e2 (h.resolve_left (by decide)), fun h => e3 (h.resolve_left (by decide)), fun h => e4 (h.resolve_left (by decide)), fun h => e5 (h.resolve_left (by decide)), fun h => e6 (h.resolve_left (by decide)), fun h => e7 (h.resolve_left (by decide)), fun h => e8 (h.resolve_left (by decide)), fun h => e9 (h.resolve_left (by decide)), fun _ => rfl, fun h => e11 (h.resolve_left (by decide)), fun h => e12 (h.resolve_left (by decide)), fun h => e13 (h.resolve_left (by decide)), fun h => e14 (h.resolve_left (by decide)), fun h => e15 (h.resolve_left (by decide)), fun h h' => hL (h.resolve_left (by decide)) (fun k => h' (.inr k))⟩
    | 11, ho =>
      cases Option.some.inj ho
      have ev : a.tmps[13]?.getD undef = .pointer (some ⟨w.heap.size, 3, none⟩) := by rw [ha, e10 (hd ⟨10, .data⟩ (by simp) rfl)]; kernel_rfl
      obtain ⟨_, _, _, z3, _, _⟩ := numR_cells (((hB.resolve_left (fun h => (fun h => (fun h => hn (hcl 14 _ rfl h ⟨11, .data⟩ (by simp) rfl)) (hcl 15 _ rfl h ⟨14, .data⟩ (by simp) rfl)) (hcl 16 _ rfl h ⟨15, .data⟩ (by simp) rfl))).block _ (lt_of_blockF E1)).trans E1)
      refine wp_value (w' := w') (v := .float .f64 x) (by simp [execOp, ev, go_sem, z3]) ?_
      exact ⟨v3, v4, v5, v6, v7, v8, v9, v10, v11, v12, v13, (.float .f64 x), v15, v16, v17, v18, gb, by rw [ha]; kernel_rfl, hB.imp_left .inr, fun h => hQ (h.resolve_left (by decide)), fun h => e0 (h.resolve_left (by decide)), fun h => e1 (h.resolve_left (by decide)), fun h => e2 (h.resolve_left (by decide)), fun h => e3 (h.resolve_left (by decide)), fun h => e4 (h.resolve_left (by decide)), fun h => e5 (h.resolve_left (by decide)), fun h => e6 (h.resolve_left (by decide)), fun h => e7 (h.resolve_left (by decide)), fun h => e8 (h.resolve_left (by decide)), fun h => e9 (h.resolve_left (by decide)), fun h => e10 (h.resolve_left (by decide)), fun _ => rfl, fun h => e12 (h.resolve_left (by decide)), fun h => e13 (h.resolve_left (by decide)), fun h => e14 (h.resolve_left (by decide)), fun h => e15 (h.resolve_left (by decide)), fun h h' => hL (h.resolve_left (by decide)) (fun k => h' (.inr k))⟩
    | 12, ho =>
      cases Option.some.inj ho
      have ev : a.tmps[1]?.getD undef = .pointer (some ⟨w.heap.size, 0, none⟩) := by rw [ha]; kernel_rfl
      refine wp_value (w' := w') (v := .pointer (some ⟨w.heap.size, 4, none⟩)) (by simp [execOp, ev, go_sem]) ?_
      exact ⟨v3, v4, v5, v6, v7, v8, v9, v10, v11, v12, v13, v14, (.pointer (some ⟨w.heap.size, 4, none⟩)), v16, v17, v18, gb, by rw [ha]; kernel_rfl, hB.imp_left .inr, fun h => hQ (h.resolve_left (by decide)), fun h => e0 (h.resolve_left (by decide)), fun h => e1 (h.resolve_left (by decide)), fun h => e2 (h.resolve_left (by decide)), fun h => e3 (h.resolve_left (by decide)), fun h => e4 (h.resolve_left (by decide)), fun h => e5 (h.resolve_left (by decide)), fun h => e6 (h.resolve_left (by decide)), fun h => e7 (h.resolve_left (by decide)), fun h => e8 (h.resolve_left (by decide)), fun h => e9 (h.resolve_left (by decide)), fun h => e10 (h.resolve_left (by decide)), fun h => e11 (h.resolve_left (by decide)), fun _ => rfl, fun h => e13 (h.resolve_left (by decide)), fun h => e14 (h.resolve_left (by decide)), fun h => e15 (h.resolve_left (by decide)), fun h h' => hL (h.resolve_left (by decide)) (fun k => h' (.inr k))⟩
    | 13, ho =>
      cases Option.some.inj ho
      have ev : a.tmps[15]?.getD undef = .pointer (some ⟨w.heap.size, 4, none⟩) := by rw [ha, e12 (hd ⟨12, .data⟩ (by simp) rfl)]; kernel_rfl
      obtain ⟨_, _, _, _, z4, _⟩ := numR_cells (((hB.resolve_left (fun h => (fun h => (fun h => hn (hcl 14 _ rfl h ⟨13, .data⟩ (by simp) rfl)) (hcl 15 _ rfl h ⟨14, .data⟩ (by simp) rfl)) (hcl 16 _ rfl h ⟨15, .data⟩ (by simp) rfl))).block _ (lt_of_blockF E1)).trans E1)
      refine wp_value (w' := w') (v := .float .f64 y) (by simp [execOp, ev, go_sem, z4]) ?_
      exact ⟨v3, v4, v5, v6, v7, v8, v9, v10, v11, v12, v13, v14, v15, (.float .f64 y), v17, v18, gb, by rw [ha]; kernel_rfl, hB.imp_left .inr, fun h => hQ (h.resolve_left (by decide)), fun h => e0 (h.resolve_left (by decide)), fun h => e1 (h.resolve_left (by decide)), fun h => e2 (h.resolve_left (by decide)), fun h => e3 (h.resolve_left (by decide)), fun h => e4 (h.resolve_left (by decide)), fun h => e5 (h.resolve_left (by decide)), fun h => e6 (h.resolve_left (by decide)), fun h => e7 (h.resolve_left (by decide)), fun h => e8 (h.resolve_left (by decide)), fun h => e9 (h.resolve_left (by decide)), fun h => e10 (h.resolve_left (by decide)), fun h => e11 (h.resolve_left (by decide)), fun h => e12 (h.resolve_left (by decide)), fun _ => rfl, fun h => e14 (h.resolve_left (by decide)), fun h => e15 (h.resolve_left (by decide)), fun h h' => hL (h.resolve_left (by decide)) (fun k => h' (.inr k))⟩
    | 14, ho =>
      cases Option.some.inj ho
      have ev : a.tmps[14]?.getD undef = .float .f64 x := by rw [ha, e11 (hd ⟨11, .data⟩ (by simp) rfl)]; kernel_rfl
      have ev' : a.tmps[16]?.getD undef = .float .f64 y := by rw [ha, e13 (hd ⟨13, .data⟩ (by simp) rfl)]; kernel_rfl
      refine wp_value (w' := w') (v := .complex .f64 x y) (by simp [execOp, ev, ev', go_sem]) ?_
      exact ⟨v3, v4, v5, v6, v7, v8, v9, v10, v11, v12, v13, v14, v15, v16, (.complex .f64 x y), v18, gb, by rw [ha]; kernel_rfl, hB.imp_left .inr, fun h => hQ (h.resolve_left (by decide)), fun h => e0 (h.resolve_left (by decide)), fun h => e1 (h.resolve_left (by decide)), fun h => e2 (h.resolve_left (by decide)), fun h => e3 (h.resolve_left (by decide)), fun h => e4 (h.resolve_left (by decide)), fun h => e5 (h.resolve_left (by decide)), fun h => e6 (h.resolve_left (by decide)), fun h => e7 (h.resolve_left (by decide)), fun h => e8 (h.resolve_left (by decide)), fun h => e9 (h.resolve_left (by decide)), fun h => e10 (h.resolve_left (by decide)), fun h => e11 (h.resolve_left (by decide)), fun h => e12 (h.resolve_left (by decide)), fun h => e13 (h.resolve_left (by decide)), fun _ => rfl, fun h => e15 (h.resolve_left (by decide)), fun h h' => hL (h.resolve_left (by decide)) (fun k => h' (.inr k))⟩
    | 15, ho =>
      cases Option.some.inj ho
      have ev : a.tmps[4]?.getD undef = .bool p := by rw [ha, e1 (hd ⟨1, .data⟩ (by simp) rfl)]; kernel_rfl
      have ev' : a.tmps[12]?.getD undef = .agg #[.bool neg, .slice (some ⟨gb, 0, none⟩) jn (jn + 8)] := by rw [ha, e9 (hd ⟨9, .data⟩ (by simp) rfl)]; kernel_rfl
      have ev'' : a.tmps[17]?.getD undef = .complex .f64 x y := by rw [ha, e14 (hd ⟨14, .data⟩ (by simp) rfl)]; kernel_rfl
      refine wp_value (w' := w') (v := .agg #[.bool p, .bool neg, .slice (some ⟨gb, 0, none⟩) jn (jn + 8), .complex .f64 x y]) (by simp [execOp, ev, ev', ev'', go_sem]) ?_
      exact ⟨v3, v4, v5, v6, v7, v8, v9, v10, v11, v12, v13, v14, v15, v16, v17, (.agg #[.bool p, .bool neg, .slice (some ⟨gb, 0, none⟩) jn (jn + 8), .complex .f64 x y]), gb, by rw [ha]; kernel_rfl, hB.imp_left .inr, fun h => hQ (h.resolve_left (by decide)), fun h => e0 (h.resolve_left (by decide)), fun h => e1 (h.resolve_left (by decide)), fun h => e2 (h.resolve_left (by decide)), fun h => e3 (h.resolve_left (by decide)), fun h => e4 (h.resolve_left (by decide)), fun h => e5 (h.resolve_left (by decide)), fun h => e6 (h.resolve_left (by decide)), fun h => e7 (h.resolve_left (by decide)), fun h => e8 (h.resolve_left (by decide)), fun h => e9 (h.resolve_left (by decide)), fun h => e10 (h.resolve_left (by decide)), fun h => e11 (h.resolve_left (by decide)), fun h => e12 (h.resolve_left (by decide)), fun h => e13 (h.resolve_left (by decide)), fun h => e14 (h.resolve_left (by decide)), fun _ => rfl, fun h h' => hL (h.resolve_left (by decide)) (fun k => h' (.inr k))⟩
    | 16, ho =>
      cases Option.some.inj ho
      have ev : a.tmps[2]?.getD undef = .pointer (some ⟨b2, 0, none⟩) := by rw [ha]; kernel_rfl
      have ev' : a.tmps[18]?.getD undef = .agg #[.bool p, .bool neg, .slice (some ⟨gb, 0, none⟩) jn (jn + 8), .complex .f64 x y] := by rw [ha, e15 (hd ⟨15, .data⟩ (by simp) rfl)]; kernel_rfl
      have hB9 := hB.resolve_left hn
      obtain ⟨z0, z1, z2, z3, zf⟩ := numP_cells ((hB9.block _ (lt_of_blockF F1)).trans F1)
      have hD8 : D 8 := hcl 9 _ rfl (hcl 15 _ rfl (hd ⟨15, .data⟩ (by simp) rfl) ⟨9, .data⟩ (by simp) rfl) ⟨8, .data⟩ (by simp) rfl
      refine wp_skip (w' := stP w' b2 p neg (.slice (some ⟨gb, 0, none⟩) jn (jn + 8)) x y) (by simp [execOp, ev, ev', go_sem, z0, z1, z2, z3, zf, hsc, stP]) ?_
      exact ⟨v3, v4, v5, v6, v7, v8, v9, v10, v11, v12, v13, v14, v15, v16, v17, v18, gb, by rw [ha]; kernel_rfl, .inl (.inl rfl), fun _ => ⟨w', hB9, hL hD8 hn, rfl⟩, fun h => e0 (h.resolve_left (by decide)), fun h => e1 (h.resolve_left (by decide)), fun h => e2 (h.resolve_left (by decide)), fun h => e3 (h.resolve_left (by decide)), fun h => e4 (h.resolve_left (by decide)), fun h => e5 (h.resolve_left (by decide)), fun h => e6 (h.resolve_left (by decide)), fun h => e7 (h.resolve_left (by decide)), fun h => e8 (h.resolve_left (by decide)), fun h => e9 (h.resolve_left (by decide)), fun h => e10 (h.resolve_left (by decide)), fun h => e11 (h.resolve_left (by decide)), fun h => e12 (h.resolve_left (by decide)), fun h => e13 (h.resolve_left (by decide)), fun h => e14 (h.resolve_left (by decide)), fun h => e15 (h.resolve_left (by decide)), fun _ h' => absurd (.inl rfl) h'⟩
    | i + 17, ho => simp at ho
  case done =>
    rintro D a w' ⟨v3, v4, v5, v6, v7, v8, v9, v10, v11, v12, v13, v14, v15, v16, v17, v18, gb, ha, hB, hQ, e0, e1, e2, e3, e4, e5, e6, e7, e8, e9, e10, e11, e12, e13, e14, e15, hL⟩ hall
    obtain ⟨w9, B9, ⟨IL, hgb⟩, hq⟩ := hQ (hall 16 (by decide))
    obtain rfl := e0 (hall 0 (by decide))
    obtain rfl := e1 (hall 1 (by decide))
    obtain rfl := e2 (hall 2 (by decide))
    obtain rfl := e3 (hall 3 (by decide))
    obtain rfl := e4 (hall 4 (by decide))
    obtain rfl := e5 (hall 5 (by decide))
    obtain rfl := e6 (hall 6 (by decide))
    obtain rfl := e7 (hall 7 (by decide))
    obtain rfl := e8 (hall 8 (by decide))
    obtain rfl := e9 (hall 9 (by decide))
    obtain rfl := e10 (hall 10 (by decide))
    obtain rfl := e11 (hall 11 (by decide))
    obtain rfl := e12 (hall 12 (by decide))
    obtain rfl := e13 (hall 13 (by decide))
    obtain rfl := e14 (hall 14 (by decide))
    obtain rfl := e15 (hall 15 (by decide))
    subst hq
    clear hB hQ hL hall e0 e1 e2 e3 e4 e5 e6 e7 e8 e9 e10 e11 e12 e13 e14 e15
    rw [ha]
    clear ha
    simp only [Act.put, List.setIfInBounds_toArray, List.set_cons_zero, List.set_cons_succ]
    go_wp2
    have E9 := stP_blk ((B9.block _ (lt_of_blockF F1)).trans F1) p neg (.slice (some ⟨gb, 0, none⟩) jn (jn + 8)) x y
    have BF := stP_below (below_sizeF B2 (Nat.le_refl _) B9) hb2 p neg (.slice (some ⟨gb, 0, none⟩) jn (jn + 8)) x y
    refine bodyPost_ret (v := .agg #[.bool p, .bool neg, .slice (some ⟨gb, 0, none⟩) jn (jn + 8), .complex .f64 x y]) (results_oneN Try.results8 rfl (load31 E9)) rfl ⟨gb, rfl, IL.keepN fun g' off' hg => stP_other ?_ _ _ _ _ _, BF⟩
    simp only [Option.some.injEq, Addr.mk.injEq, and_true] at hg
    have := lt_of_blockF F1
    omega
theorem taken_N {w : World} (p neg : Bool) (v : Value) (x y : Nat) (hv : ∃ a n c, v = .slice a n c) : Calls Try.prog 12 #[.agg #[.bool p, .bool neg, v, .complex .f64 x y]] w fun e w' => e = .returned (.agg #[.bool p, .bool neg, v, .float .f64 x, .float .f64 y]) ∧ Below w.heap.size w w' := by
  obtain ⟨ja, jn, jc, rfl⟩ := hv
  have E1 := oldF (newF w (numP p neg (.slice ja jn jc) x y)) (numR false false (.slice none 0 0) 0 0)
  have F1 := newF (w.alloc (numP p neg (.slice ja jn jc) x y)) (numR false false (.slice none 0 0) 0 0)
  have B2 : Below w.heap.size w ((w.alloc (numP p neg (.slice ja jn jc) x y)).alloc (numR false false (.slice none 0 0) 0 0)) := below_sizeF box_belowF (Nat.le_refl _) box_belowF
  rw [size1] at F1
  have hsf := stF_run
  unfold numR numP at E1 F1 B2
  go_enter Try.func12, Try.ntmps12
  go_upto_region 1 with fail
  generalize (w.alloc (.cells #[.bool p, .bool neg, .slice ja jn jc, .complex .f64 x y] 31)).alloc (.cells #[.bool false, .bool false, .slice none 0 0, .float .f64 0, .float .f64 0] 27) = w2 at *
  have hb2 : w.heap.size ≤ w.heap.size + 1 := by omega
  generalize w.heap.size + 1 = b2 at *
  replace E1 : w2.heap[w.heap.size]? = some (numP p neg (.slice ja jn jc) x y) := E1
  replace F1 : w2.heap[b2]? = some (numR false false (.slice none 0 0) 0 0) := F1
  obtain ⟨x0, x1, x2, x3, xf⟩ := numP_cells E1
  obtain ⟨z0, z1, z2, z3, z4, zf⟩ := numR_cells F1
  have E9 := stF_blk F1 p neg (.slice ja jn jc) x y
  go_wp2
  exact bodyPost_ret (v := .agg #[.bool p, .bool neg, .slice ja jn jc, .float .f64 x, .float .f64 y]) (results_oneN Try.results12 rfl (load27 E9)) rfl ⟨rfl, stF_below B2 hb2 _ _ _ _ _⟩
theorem bits_self (x : Nat) : bitsB x x = true := by
  unfold bitsB
  cases nanB x <;> simp
set_option maxHeartbeats 2000000 in
theorem sameN_true {w : World} (p neg : Bool) (x y : Nat) {ja ka : Option Addr} {jn jc kn kc : Nat} {xs : List Int} (h1 : IsB w ja jn jc xs) (h2 : IsB w ka kn kc xs) : Calls Try.prog 11 #[.agg #[.bool p, .bool neg, .slice ja jn jc, .float .f64 x, .float .f64 y], .agg #[.bool p, .bool neg, .slice ka kn kc, .float .f64 x, .float .f64 y]] w fun e w' => e = .returned (.bool true) ∧ Below w.heap.size w w' := by
  have E1 := oldF (newF w (numR p neg (.slice ja jn jc) x y)) (numR p neg (.slice ka kn kc) x y)
  have F1 := newF (w.alloc (numR p neg (.slice ja jn jc) x y)) (numR p neg (.slice ka kn kc) x y)
  have B2 : Below w.heap.size w ((w.alloc (numR p neg (.slice ja jn jc) x y)).alloc (numR p neg (.slice ka kn kc) x y)) := below_sizeF box_belowF (Nat.le_refl _) box_belowF
  rw [size1] at F1
  have I1 := h1.below B2
  have I2 := h2.below B2
  have hpp : (p == p) = true := by simp
  unfold numR at E1 F1 B2 I1 I2
  go_enter Try.func11, Try.ntmps11
  go_wp2_with fail
  generalize (w.alloc (.cells #[.bool p, .bool neg, .slice ja jn jc, .float .f64 x, .float .f64 y] 27)).alloc (.cells #[.bool p, .bool neg, .slice ka kn kc, .float .f64 x, .float .f64 y] 27) = w2 at *
  generalize w.heap.size + 1 = b2 at *
  replace E1 : w2.heap[w.heap.size]? = some (numR p neg (.slice ja jn jc) x y) := E1
  replace F1 : w2.heap[b2]? = some (numR p neg (.slice ka kn kc) x y) := F1
  refine (same_true neg I1 I2).mono ?_
  rintro e w3 ⟨rfl, B3⟩
  replace E1 := (B3.block _ (lt_of_blockF E1)).trans E1
  replace F1 := (B3.block _ (lt_of_blockF F1)).trans F1
  replace B2 := below_sizeF B2 (Nat.le_refl _) B3
  clear B3
  obtain ⟨x0, x1, x2, x3, x4, xf⟩ := numR_cells E1
  obtain ⟨z0, z1, z2, z3, z4, zf⟩ := numR_cells F1
  go_wp2_with fail
  refine (alike_any p p neg neg (.slice ja jn jc) (.slice ka kn kc) x y x y _).mono ?_
  rintro e w4 ⟨rfl, B4⟩
  rw [bits_self, bits_self]
  go_wp2
  go_ret
  exact ⟨rfl, below_sizeF B2 (Nat.le_refl _) B4⟩
end Go.Proofs.Ytkpngpongbpfgaa
