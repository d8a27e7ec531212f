/- rc.greater; slices.IndexFunc of the first that is greater. -/
import Derived.Test.YtkkilenokpoaoaaCmp
namespace Go.Proofs.Ytkkilenokpoaoaa
open Go.RowKit
set_option maxRecDepth 100000
/-- Is the one greater, by kind, then by number? -/
def gtV (x y : Int × Int) : Bool := decide (y.1 < x.1 ∨ x.1 = y.1 ∧ y.2 < x.2)
theorem gt_or {xk xn yk yn : Int} : decide (0 < orZ (cmpZ xk yk) (cmpZ xn yn)) = gtV (xk, xn) (yk, yn) := by
  unfold gtV
  rw [decide_eq_decide]
  unfold orZ cmpZ
  simp only
  split <;> (repeat' split) <;> omega
theorem vcells {w : World} {b : Nat} {x y : Int} (h : w.heap[b]? = some (.cells #[.int .i64 x, .int .i64 y] 60 (0, 0))) : w.cell? ⟨b, 0, none⟩ = some (.int .i64 x) ∧ w.cell? ⟨b, 1, none⟩ = some (.int .i64 y) := by
  refine ⟨?_, ?_⟩ <;> (rw [cell_of_row w b _ _ _ _ h]; rfl)
set_option maxHeartbeats 4000000 in
theorem greater_any (xk xn yk yn : Int) (w : World) :
    Calls Try.prog 74 #[.agg #[.int .i64 xk, .int .i64 xn], .agg #[.int .i64 yk, .int .i64 yn]] w fun e w' => e = .returned (.bool (gtV (xk, xn) (yk, yn))) ∧ Below w.heap.size w w' := by
  have B2 : Below w.heap.size w ((w.alloc (.cells #[.int .i64 xk, .int .i64 xn] 60)).alloc (.cells #[.int .i64 yk, .int .i64 yn] 60)) := below_size box_below box_below.size box_below
  have E2 := old1 (new1 w (.cells #[.int .i64 xk, .int .i64 xn] 60)) (.cells #[.int .i64 yk, .int .i64 yn] 60)
  have E3 := new2 w (.cells #[.int .i64 xk, .int .i64 xn] 60) (.cells #[.int .i64 yk, .int .i64 yn] 60)
  obtain ⟨x0, x1⟩ : _ ∧ _ := vcells E2
  obtain ⟨y0, y1⟩ : _ ∧ _ := vcells E3
  go_enter Try.func74, Try.ntmps74
  go_upto_region 1 with fail
  clear E2 E3
  generalize (w.alloc (.cells #[.int .i64 xk, .int .i64 xn] 60)).alloc (.cells #[.int .i64 yk, .int .i64 yn] 60) = w2 at *
  generalize w.heap.size + 1 = b3 at *
  obtain ⟨b2, hb2⟩ : ∃ b, b = w.heap.size := ⟨_, rfl⟩
  rw [← hb2] at x0 x1 ⊢
  have B2' := B2
  rw [← hb2] at B2'
  refine wp_region_inv' (fun A D a w' => ∃ v5 v6 v7 v8 v9 v10 v11 v12 v13 v14 v15 v16 v17 v4 nb, a = ((((((((((((((A.put (some 5) v5).put (some 6) v6).put (some 7) v7).put (some 8) v8).put (some 9) v9).put (some 10) v10).put (some 11) v11).put (some 12) v12).put (some 13) v13).put (some 14) v14).put (some 15) v15).put (some 16) v16).put (some 17) v17).put (some 4) v4) ∧ Below w2.heap.size w2 w' ∧ (D 0 → v5 = .pointer (some ⟨b2, 0, none⟩)) ∧ (D 1 → v6 = .int .i64 xk) ∧ (D 2 → v7 = .pointer (some ⟨b3, 0, none⟩)) ∧ (D 3 → v8 = .int .i64 yk) ∧ (D 4 → v9 = .int .i64 (cmpZ xk yk)) ∧ (D 5 → v10 = .pointer (some ⟨b2, 1, none⟩)) ∧ (D 6 → v11 = .int .i64 xn) ∧ (D 7 → v12 = .pointer (some ⟨b3, 1, none⟩)) ∧ (D 8 → v13 = .int .i64 yn) ∧ (D 9 → v14 = .int .i64 (cmpZ xn yn)) ∧ (D 10 → v15 = .slice (some ⟨nb, 0, none⟩) 2 2) ∧ (D 11 → v16 = .int .i64 (orZ (cmpZ xk yk) (cmpZ xn yn))) ∧ (D 12 → v17 = .bool (decide (0 < orZ (cmpZ xk yk) (cmpZ xn yn)))) ∧ (D 13 → v4 = .bool (decide (0 < orZ (cmpZ xk yk) (cmpZ xn yn)))) ∧ (D 10 → w'.cell? ⟨nb, 0, none⟩ = some (.int .i64 (cmpZ xk yk)) ∧ w'.cell? ⟨nb, 1, none⟩ = some (.int .i64 (cmpZ xn yn)))) (by kernel_rfl) (by kernel_rfl) ?mono ?start ?step ?done
  case mono =>
    rintro D D' a w' hD ⟨v5, v6, v7, v8, v9, v10, v11, v12, v13, v14, v15, v16, v17, v4, nb, ha, hB, e0, e1, e2, e3, e4, e5, e6, e7, e8, e9, e10, e11, e12, e13, hL⟩
    exact ⟨v5, v6, v7, v8, v9, v10, v11, v12, v13, v14, v15, v16, v17, v4, nb, ha, hB, fun h => e0 ((hD 0).2 h), fun h => e1 ((hD 1).2 h), fun h => e2 ((hD 2).2 h), fun h => e3 ((hD 3).2 h), fun h => e4 ((hD 4).2 h), fun h => e5 ((hD 5).2 h), fun h => e6 ((hD 6).2 h), fun h => e7 ((hD 7).2 h), fun h => e8 ((hD 8).2 h), fun h => e9 ((hD 9).2 h), fun h => e10 ((hD 10).2 h), fun h => e11 ((hD 11).2 h), fun h => e12 ((hD 12).2 h), fun h => e13 ((hD 13).2 h), fun h => hL ((hD 10).2 h)⟩
  case start => exact ⟨undef, undef, undef, undef, undef, undef, undef, undef, undef, undef, undef, undef, undef, .bool false, 0, by kernel_rfl, (Below.refl _ _).drew, fun h => h.elim, fun h => h.elim, fun h => h.elim, fun h => h.elim, fun h => h.elim, fun h => h.elim, fun h => h.elim, fun h => h.elim, fun h => h.elim, fun h => h.elim, fun h => h.elim, fun h => h.elim, fun h => h.elim, fun h => h.elim, fun h => h.elim⟩
  case step =>
    intro i o ho D a w' hI hn hcl hd
    obtain ⟨v5, v6, v7, v8, v9, v10, v11, v12, v13, v14, v15, v16, v17, v4, nb, ha, hB, e0, e1, e2, e3, e4, e5, e6, e7, e8, e9, e10, e11, e12, e13, hL⟩ := hI
    match i, ho with
    | 0, ho =>
      cases Option.some.inj ho
      have ev : a.tmps[2]?.getD undef = .pointer (some ⟨b2, 0, none⟩) := by rw [ha]; kernel_rfl
      refine wp_value (w' := w') (v := .pointer (some ⟨b2, 0, none⟩)) (by simp [execOp, ev, go_sem]) ?_
      exact ⟨(.pointer (some ⟨b2, 0, none⟩)), v6, v7, v8, v9, v10, v11, v12, v13, v14, v15, v16, v17, v4, nb, by rw [ha]; kernel_rfl, hB, fun _ => rfl, fun h => e1 (h.resolve_left (by decide)), fun h => e2 (h.resolve_left (by decide)), fun h => e3 (h.resolve_left (by decide)), fun h => e4 (h.resolve_left (by decide)), fun h => e5 (h.resolve_left (by decide)), fun h => e6 (h.resolve_left (by decide)), fun h => e7 (h.resolve_left (by decide)), fun h => e8 (h.resolve_left (by decide)), fun h => e9 (h.resolve_left (by decide)), fun h => e10 (h.resolve_left (by decide)), fun h => e11 (h.resolve_left (by decide)), fun h => e12 (h.resolve_left (by decide)), fun h => e13 (h.resolve_left (by decide)), fun h => hL (h.resolve_left (by decide))⟩
    | 1, ho =>
      cases Option.some.inj ho
      have ev : a.tmps[5]?.getD undef = .pointer (some ⟨b2, 0, none⟩) := by rw [ha, e0 (hd ⟨0, .data⟩ (by simp) rfl)]; kernel_rfl
      have hc := (hB.cell (p := ⟨b2, 0, none⟩) (lt_of_cell x0)).trans x0
      refine wp_value (w' := w') (v := .int .i64 xk) (by simp [execOp, ev, go_sem, hc]) ?_
      exact ⟨v5, (.int .i64 xk), v7, v8, v9, v10, v11, v12, v13, v14, v15, v16, v17, v4, nb, by rw [ha]; kernel_rfl, hB, fun h => e0 (h.resolve_left (by decide)), fun _ => rfl, fun h => e2 (h.resolve_left (by decide)), fun h => e3 (h.resolve_left (by decide)), fun h => e4 (h.resolve_left (by decide)), fun h => e5 (h.resolve_left (by decide)), fun h => e6 (h.resolve_left (by decide)), fun h => e7 (h.resolve_left (by decide)), fun h => e8 (h.resolve_left (by decide)), fun h => e9 (h.resolve_left (by decide)), fun h => e10 (h.resolve_left (by decide)), fun h => e11 (h.resolve_left (by decide)), fun h => e12 (h.resolve_left (by decide)), fun h => e13 (h.resolve_left (by decide)), fun h => hL (h.resolve_left (by decide))⟩
    | 2, ho =>
      cases Option.some.inj ho
      have ev : a.tmps[3]?.getD undef = .pointer (some ⟨b3, 0, none⟩) := by rw [ha]; kernel_rfl
      refine wp_value (w' := w') (v := .pointer (some ⟨b3, 0, none⟩)) (by simp [execOp, ev, go_sem]) ?_
      exact ⟨v5, v6, (.pointer (some ⟨b3, 0, none⟩)), v8, v9, v10, v11, v12, v13, v14, v15, v16, v17, v4, nb, by rw [ha]; kernel_rfl, hB, fun h => e0 (h.resolve_left (by decide)), fun h => e1 (h.resolve_left (by decide)), fun _ => rfl, fun h => e3 (h.resolve_left (by decide)), fun h => e4 (h.resolve_left (by decide)), fun h => e5 (h.resolve_left (by decide)), fun h => e6 (h.resolve_left (by decide)), fun h => e7 (h.resolve_left (by decide)), fun h => e8 (h.resolve_left (by decide)), fun h => e9 (h.resolve_left (by decide)), fun h => e10 (h.resolve_left (by decide)), fun h => e11 (h.resolve_left (by decide)), fun h => e12 (h.resolve_left (by decide)), fun h => e13 (h.resolve_left (by decide)), fun h => hL (h.resolve_left (by decide))⟩
    | 3, ho =>
      cases Option.some.inj ho
      have ev : a.tmps[7]?.getD undef = .pointer (some ⟨b3, 0, none⟩) := by rw [ha, e2 (hd ⟨2, .data⟩ (by simp) rfl)]; kernel_rfl
      have hc := (hB.cell (p := ⟨b3, 0, none⟩) (lt_of_cell y0)).trans y0
      refine wp_value (w' := w') (v := .int .i64 yk) (by simp [execOp, ev, go_sem, hc]) ?_
      exact ⟨v5, v6, v7, (.int .i64 yk), v9, v10, v11, v12, v13, v14, v15, v16, v17, v4, nb, by rw [ha]; kernel_rfl, hB, fun h => e0 (h.resolve_left (by decide)), fun h => e1 (h.resolve_left (by decide)), fun h => e2 (h.resolve_left (by decide)), fun _ => rfl, fun h => e4 (h.resolve_left (by decide)), fun h => e5 (h.resolve_left (by decide)), fun h => e6 (h.resolve_left (by decide)), fun h => e7 (h.resolve_left (by decide)), fun h => e8 (h.resolve_left (by decide)), fun h => e9 (h.resolve_left (by decide)), fun h => e10 (h.resolve_left (by decide)), fun h => e11 (h.resolve_left (by decide)), fun h => e12 (h.resolve_left (by decide)), fun h => e13 (h.resolve_left (by decide)), fun h => hL (h.resolve_left (by decide))⟩
    | 4, ho =>
      cases Option.some.inj ho
      have ev : a.tmps[6]?.getD undef = .int .i64 xk := by rw [ha, e1 (hd ⟨1, .data⟩ (by simp) rfl)]; kernel_rfl
      have ev' : a.tmps[8]?.getD undef = .int .i64 yk := by rw [ha, e3 (hd ⟨3, .data⟩ (by simp) rfl)]; kernel_rfl
      refine wp_enter (f := 90) (args := #[.int .i64 xk, .int .i64 yk]) (by simp [execOp, ev, ev', go_sem]) ?_
      refine (cmp90 xk yk w').mono ?_
      rintro e w6 ⟨rfl, rfl⟩
      refine ⟨_, rfl, ?_⟩
      exact ⟨v5, v6, v7, v8, (.int .i64 (cmpZ xk yk)), v10, v11, v12, v13, v14, v15, v16, v17, v4, nb, by rw [ha]; kernel_rfl, hB, fun h => e0 (h.resolve_left (by decide)), fun h => e1 (h.resolve_left (by decide)), fun h => e2 (h.resolve_left (by decide)), fun h => e3 (h.resolve_left (by decide)), fun _ => rfl, fun h => e5 (h.resolve_left (by decide)), fun h => e6 (h.resolve_left (by decide)), fun h => e7 (h.resolve_left (by decide)), fun h => e8 (h.resolve_left (by decide)), fun h => e9 (h.resolve_left (by decide)), fun h => e10 (h.resolve_left (by decide)), fun h => e11 (h.resolve_left (by decide)), fun h => e12 (h.resolve_left (by decide)), fun h => e13 (h.resolve_left (by decide)), fun h => hL (h.resolve_left (by decide))⟩
    | 5, ho =>
      cases Option.some.inj ho
      have ev : a.tmps[2]?.getD undef = .pointer (some ⟨b2, 0, none⟩) := by rw [ha]; kernel_rfl
      refine wp_value (w' := w') (v := .pointer (some ⟨b2, 1, none⟩)) (by simp [execOp, ev, go_sem]) ?_
      exact ⟨v5, v6, v7, v8, v9, (.pointer (some ⟨b2, 1, none⟩)), v11, v12, v13, v14, v15, v16, v17, v4, nb, by rw [ha]; kernel_rfl, hB, fun h => e0 (h.resolve_left (by decide)), fun h => e1 (h.resolve_left (by decide)), fun h => e2 (h.resolve_left (by decide)), fun h => e3 (h.resolve_left (by decide)), fun h => e4 (h.resolve_left (by decide)), fun _ => rfl, fun h => e6 (h.resolve_left (by decide)), fun h => e7 (h.resolve_left (by decide)), fun h => e8 (h.resolve_left (by decide)), fun h => e9 (h.resolve_left (by decide)), fun h => e10 (h.resolve_left (by decide)), fun h => e11 (h.resolve_left (by decide)), fun h => e12 (h.resolve_left (by decide)), fun h => e13 (h.resolve_left (by decide)), fun h => hL (h.resolve_left (by decide))⟩
    | 6, ho =>
      cases Option.some.inj ho
      have ev : a.tmps[10]?.getD undef = .pointer (some ⟨b2, 1, none⟩) := by rw [ha, e5 (hd ⟨5, .data⟩ (by simp) rfl)]; kernel_rfl
      have hc := (hB.cell (p := ⟨b2, 1, none⟩) (lt_of_cell x1)).trans x1
      refine wp_value (w' := w') (v := .int .i64 xn) (by simp [execOp, ev, go_sem, hc]) ?_
      exact ⟨v5, v6, v7, v8, v9, v10, (.int .i64 xn), v12, v13, v14, v15, v16, v17, v4, nb, by rw [ha]; kernel_rfl, hB, fun h => e0 (h.resolve_left (by decide)), fun h => e1 (h.resolve_left (by decide)), fun h => e2 (h.resolve_left (by decide)), fun h => e3 (h.resolve_left (by decide)), fun h => e4 (h.resolve_left (by decide)), fun h => e5 (h.resolve_left (by decide)), fun _ => rfl, fun h => e7 (h.resolve_left (by decide)), fun h => e8 (h.resolve_left (by decide)), fun h => e9 (h.resolve_left (by decide)), fun h => e10 (h.resolve_left (by decide)), fun h => e11 (h.resolve_left (by decide)), fun h => e12 (h.resolve_left (by decide)), fun h => e13 (h.resolve_left (by decide)), fun h => hL (h.resolve_left (by decide))⟩
    | 7, ho =>
      cases Option.some.inj ho
      have ev : a.tmps[3]?.getD undef = .pointer (some ⟨b3, 0, none⟩) := by rw [ha]; kernel_rfl
      refine wp_value (w' := w') (v := .pointer (some ⟨b3, 1, none⟩)) (by simp [execOp, ev, go_sem]) ?_
      exact ⟨v5, v6, v7, v8, v9, v10, v11, (.pointer (some ⟨b3, 1, none⟩)), v13, v14, v15, v16, v17, v4, nb, by rw [ha]; kernel_rfl, hB, fun h => e0 (h.resolve_left (by decide)), fun h => e1 (h.resolve_left (by decide)), fun h => e2 (h.resolve_left (by decide)), fun h => e3 (h.resolve_left (by decide)), fun h => e4 (h.resolve_left (by decide)), fun h => e5 (h.resolve_left (by decide)), fun h => e6 (h.resolve_left (by decide)), fun _ => rfl, fun h => e8 (h.resolve_left (by decide)), fun h => e9 (h.resolve_left (by decide)), fun h => e10 (h.resolve_left (by decide)), fun h => e11 (h.resolve_left (by decide)), fun h => e12 (h.resolve_left (by decide)), fun h => e13 (h.resolve_left (by decide)), fun h => hL (h.resolve_left (by decide))⟩
    | 8, ho =>
      cases Option.some.inj ho
      have ev : a.tmps[12]?.getD undef = .pointer (some ⟨b3, 1, none⟩) := by rw [ha, e7 (hd ⟨7, .data⟩ (by simp) rfl)]; kernel_rfl
      have hc := (hB.cell (p := ⟨b3, 1, none⟩) (lt_of_cell y1)).trans y1
      refine wp_value (w' := w') (v := .int .i64 yn) (by simp [execOp, ev, go_sem, hc]) ?_
      exact ⟨v5, v6, v7, v8, v9, v10, v11, v12, (.int .i64 yn), v14, v15, v16, v17, v4, nb, by rw [ha]; kernel_rfl, hB, fun h => e0 (h.resolve_left (by decide)), fun h => e1 (h.resolve_left (by decide)), fun h => e2 (h.resolve_left (by decide)), fun h => e3 (h.resolve_left (by decide)), fun h => e4 (h.resolve_left (by decide)), fun h => e5 (h.resolve_left (by decide)), fun h => e6 (h.resolve_left (by decide)), fun h => e7 (h.resolve_left (by decide)), fun _ => rfl, fun h => e9 (h.resolve_left (by decide)), fun h => e10 (h.resolve_left (by decide)), fun h => e11 (h.resolve_left (by decide)), fun h => e12 (h.resolve_left (by decide)), fun h => e13 (h.resolve_left (by decide)), fun h => hL (h.resolve_left (by decide))⟩
    | 9, ho =>
      cases Option.some.inj ho
      have ev : a.tmps[11]?.getD undef = .int .i64 xn := by rw [ha, e6 (hd ⟨6, .data⟩ (by simp) rfl)]; kernel_rfl
      have ev' : a.tmps[13]?.getD undef = .int .i64 yn := by rw [ha, e8 (hd ⟨8, .data⟩ (by simp) rfl)]; kernel_rfl
      refine wp_enter (f := 91) (args := #[.int .i64 xn, .int .i64 yn]) (by simp [execOp, ev, ev', go_sem]) ?_
      refine (cmp91 xn yn w').mono ?_
      rintro e w6 ⟨rfl, rfl⟩
      refine ⟨_, rfl, ?_⟩
      exact ⟨v5, v6, v7, v8, v9, v10, v11, v12, v13, (.int .i64 (cmpZ xn yn)), v15, v16, v17, v4, nb, by rw [ha]; kernel_rfl, hB, fun h => e0 (h.resolve_left (by decide)), fun h => e1 (h.resolve_left (by decide)), fun h => e2 (h.resolve_left (by decide)), fun h => e3 (h.resolve_left (by decide)), fun h => e4 (h.resolve_left (by decide)), fun h => e5 (h.resolve_left (by decide)), fun h => e6 (h.resolve_left (by decide)), fun h => e7 (h.resolve_left (by decide)), fun h => e8 (h.resolve_left (by decide)), fun _ => rfl, fun h => e10 (h.resolve_left (by decide)), fun h => e11 (h.resolve_left (by decide)), fun h => e12 (h.resolve_left (by decide)), fun h => e13 (h.resolve_left (by decide)), fun h => hL (h.resolve_left (by decide))⟩
    | 10, ho =>
      cases Option.some.inj ho
      have ev : a.tmps[9]?.getD undef = .int .i64 (cmpZ xk yk) := by rw [ha, e4 (hd ⟨4, .data⟩ (by simp) rfl)]; kernel_rfl
      have ev' : a.tmps[14]?.getD undef = .int .i64 (cmpZ xn yn) := by rw [ha, e9 (hd ⟨9, .data⟩ (by simp) rfl)]; kernel_rfl
      refine wp_value (w' := w'.alloc (.cells #[.int .i64 (cmpZ xk yk), .int .i64 (cmpZ xn yn)] 3)) (v := .slice (some ⟨w'.heap.size, 0, none⟩) 2 2) (by simp [execOp, ev, ev', go_sem]) ?_
      exact ⟨v5, v6, v7, v8, v9, v10, v11, v12, v13, v14, (.slice (some ⟨w'.heap.size, 0, none⟩) 2 2), v16, v17, v4, w'.heap.size, by rw [ha]; kernel_rfl, below_size hB hB.size box_below, fun h => e0 (h.resolve_left (by decide)), fun h => e1 (h.resolve_left (by decide)), fun h => e2 (h.resolve_left (by decide)), fun h => e3 (h.resolve_left (by decide)), fun h => e4 (h.resolve_left (by decide)), fun h => e5 (h.resolve_left (by decide)), fun h => e6 (h.resolve_left (by decide)), fun h => e7 (h.resolve_left (by decide)), fun h => e8 (h.resolve_left (by decide)), fun h => e9 (h.resolve_left (by decide)), fun _ => rfl, fun h => e11 (h.resolve_left (by decide)), fun h => e12 (h.resolve_left (by decide)), fun h => e13 (h.resolve_left (by decide)), fun _ => ⟨by simp, by simp⟩⟩
    | 11, ho =>
      cases Option.some.inj ho
      have ev : a.tmps[15]?.getD undef = .slice (some ⟨nb, 0, none⟩) 2 2 := by rw [ha, e10 (hd ⟨10, .data⟩ (by simp) rfl)]; kernel_rfl
      refine wp_enter (f := 89) (args := #[.slice (some ⟨nb, 0, none⟩) 2 2]) (by simp [execOp, ev, go_sem]) ?_
      refine (or89 _ _ nb w' (hL (hd ⟨10, .data⟩ (by simp) rfl)).1 (hL (hd ⟨10, .data⟩ (by simp) rfl)).2).mono ?_
      rintro e w6 ⟨rfl, rfl⟩
      refine ⟨_, rfl, ?_⟩
      exact ⟨v5, v6, v7, v8, v9, v10, v11, v12, v13, v14, v15, (.int .i64 (orZ (cmpZ xk yk) (cmpZ xn yn))), v17, v4, nb, by rw [ha]; kernel_rfl, hB, fun h => e0 (h.resolve_left (by decide)), fun h => e1 (h.resolve_left (by decide)), fun h => e2 (h.resolve_left (by decide)), fun h => e3 (h.resolve_left (by decide)), fun h => e4 (h.resolve_left (by decide)), fun h => e5 (h.resolve_left (by decide)), fun h => e6 (h.resolve_left (by decide)), fun h => e7 (h.resolve_left (by decide)), fun h => e8 (h.resolve_left (by decide)), fun h => e9 (h.resolve_left (by decide)), fun h => e10 (h.resolve_left (by decide)), fun _ => rfl, fun h => e12 (h.resolve_left (by decide)), fun h => e13 (h.resolve_left (by decide)), fun h => hL (h.resolve_left (by decide))⟩
    | 12, ho =>
      cases Option.some.inj ho
      have ev : a.tmps[16]?.getD undef = .int .i64 (orZ (cmpZ xk yk) (cmpZ xn yn)) := by rw [ha, e11 (hd ⟨11, .data⟩ (by simp) rfl)]; kernel_rfl
      refine wp_value (w' := w') (v := .bool (decide (0 < orZ (cmpZ xk yk) (cmpZ xn yn)))) (by simp [execOp, ev, go_sem]) ?_
      exact ⟨v5, v6, v7, v8, v9, v10, v11, v12, v13, v14, v15, v16, (.bool (decide (0 < orZ (cmpZ xk yk) (cmpZ xn yn)))), v4, nb, by rw [ha]; kernel_rfl, hB, fun h => e0 (h.resolve_left (by decide)), fun h => e1 (h.resolve_left (by decide)), fun h => e2 (h.resolve_left (by decide)), fun h => e3 (h.resolve_left (by decide)), fun h => e4 (h.resolve_left (by decide)), fun h => e5 (h.resolve_left (by decide)), fun h => e6 (h.resolve_left (by decide)), fun h => e7 (h.resolve_left (by decide)), fun h => e8 (h.resolve_left (by decide)), fun h => e9 (h.resolve_left (by decide)), fun h => e10 (h.resolve_left (by decide)), fun h => e11 (h.resolve_left (by decide)), fun _ => rfl, fun h => e13 (h.resolve_left (by decide)), fun h => hL (h.resolve_left (by decide))⟩
    | 13, ho =>
      cases Option.some.inj ho
      have ev : a.tmps[17]?.getD undef = .bool (decide (0 < orZ (cmpZ xk yk) (cmpZ xn yn))) := by rw [ha, e12 (hd ⟨12, .data⟩ (by simp) rfl)]; kernel_rfl
      refine wp_value (w' := w') (v := .bool (decide (0 < orZ (cmpZ xk yk) (cmpZ xn yn)))) (by simp [execOp, ev, go_sem]) ?_
      exact ⟨v5, v6, v7, v8, v9, v10, v11, v12, v13, v14, v15, v16, v17, (.bool (decide (0 < orZ (cmpZ xk yk) (cmpZ xn yn)))), nb, by rw [ha]; kernel_rfl, hB, fun h => e0 (h.resolve_left (by decide)), fun h => e1 (h.resolve_left (by decide)), fun h => e2 (h.resolve_left (by decide)), fun h => e3 (h.resolve_left (by decide)), fun h => e4 (h.resolve_left (by decide)), fun h => e5 (h.resolve_left (by decide)), fun h => e6 (h.resolve_left (by decide)), fun h => e7 (h.resolve_left (by decide)), fun h => e8 (h.resolve_left (by decide)), fun h => e9 (h.resolve_left (by decide)), fun h => e10 (h.resolve_left (by decide)), fun h => e11 (h.resolve_left (by decide)), fun h => e12 (h.resolve_left (by decide)), fun _ => rfl, fun h => hL (h.resolve_left (by decide))⟩
    | i + 14, ho => simp at ho
  case done =>
    rintro D a w' ⟨v5, v6, v7, v8, v9, v10, v11, v12, v13, v14, v15, v16, v17, v4, nb, ha, hB, e0, e1, e2, e3, e4, e5, e6, e7, e8, e9, e10, e11, e12, e13, hL⟩ hall
    obtain rfl := e0 (hall 0 (by decide))
    obtain rfl := e1 (hall 1 (by decide))
    obtain rfl := e2 (hall 2 (by decide))
    obtain rfl := e3 (hall 3 (by decide))
    obtain rfl := e4 (hall 4 (by decide))
    obtain rfl := e5 (hall 5 (by decide))
    obtain rfl := e6 (hall 6 (by decide))
    obtain rfl := e7 (hall 7 (by decide))
    obtain rfl := e8 (hall 8 (by decide))
    obtain rfl := e9 (hall 9 (by decide))
    obtain rfl := e10 (hall 10 (by decide))
    obtain rfl := e11 (hall 11 (by decide))
    obtain rfl := e12 (hall 12 (by decide))
    obtain rfl := e13 (hall 13 (by decide))
    clear hL hall e0 e1 e2 e3 e4 e5 e6 e7 e8 e9 e10 e11 e12 e13
    rw [ha]
    clear ha
    simp only [Act.put, List.setIfInBounds_toArray, List.set_cons_zero, List.set_cons_succ]
    go_wp2
    go_ret
    subst hb2
    exact ⟨by rw [← gt_or]; rfl, below_size B2 B2.size hB⟩
set_option maxHeartbeats 1000000 in
theorem closure_any (xk xn yk yn : Int) (b : Nat) (w : World) (h0 : w.cell? ⟨b, 0, none⟩ = some (.int .i64 yk)) (h1 : w.cell? ⟨b, 1, none⟩ = some (.int .i64 yn)) :
    Calls Try.prog 73 #[.agg #[.int .i64 xk, .int .i64 xn], .pointer (some ⟨b, 0, none⟩)] w fun e w' => e = .returned (.bool (gtV (xk, xn) (yk, yn))) ∧ Below w.heap.size w w' := by
  have B1 : Below w.heap.size w (w.alloc (.cells #[.int .i64 xk, .int .i64 xn] 60)) := box_below
  have c0 := (B1.cell (p := ⟨b, 0, none⟩) (lt_of_cell h0)).trans h0
  have c1 := (B1.cell (p := ⟨b, 1, none⟩) (lt_of_cell h1)).trans h1
  go_enter Try.func73, Try.ntmps73
  go_wp2_with fail
  refine (greater_any _ _ _ _ _).mono ?_
  rintro e w' ⟨rfl, B2⟩
  go_wp2
  go_ret
  exact ⟨rfl, below_size B1 B1.size B2⟩
/-- Where the first greater one stands, from a place on; -1: nowhere. -/
def gIdx : List (Int × Int) → Nat → Int × Int → Int
  | [], _, _ => -1
  | v :: t, i, x => if gtV v x = true then (i : Int) else gIdx t (i + 1) x
theorem gIdx_hit {vs : List (Int × Int)} {k : Nat} {v x : Int × Int} (h : vs[k]? = some v) (hg : gtV v x = true) : gIdx (vs.drop k) k x = (k : Int) := by
  obtain ⟨hk, e⟩ := List.getElem?_eq_some_iff.1 h
  rw [List.drop_eq_getElem_cons hk, e, gIdx, if_pos hg]
theorem gIdx_miss {vs : List (Int × Int)} {k : Nat} {v x : Int × Int} (h : vs[k]? = some v) (hg : ¬ gtV v x = true) : gIdx (vs.drop k) k x = gIdx (vs.drop (k + 1)) (k + 1) x := by
  obtain ⟨hk, e⟩ := List.getElem?_eq_some_iff.1 h
  rw [List.drop_eq_getElem_cons hk, e, gIdx, if_neg hg]
set_option maxHeartbeats 2000000 in
theorem indexf_any {w : World} {a : Option Addr} {n c b : Nat} {vs : List (Int × Int)} (yk yn : Int) (hv : IsV w a n c vs) (h0 : w.cell? ⟨b, 0, none⟩ = some (.int .i64 yk)) (h1 : w.cell? ⟨b, 1, none⟩ = some (.int .i64 yn)) :
    Calls Try.prog 72 #[.slice a n c, .func (.func 73) #[] #[.pointer (some ⟨b, 0, none⟩)]] w fun e w' => e = .returned (.int .i64 (gIdx vs 0 (yk, yn))) ∧ Below w.heap.size w w' := by
  have s1 := hv.size
  have m1 := hv.most
  have r1 := hv.room
  unfold maxLen at m1
  obtain ⟨R, hR⟩ : ∃ R, Hid (gIdx vs 0 (yk, yn) = R) := ⟨_, rfl⟩
  rw [hR.out]
  go_enter Try.func72, Try.ntmps72
  go_wp2
  go_loopw [8] (fun iv wr => ∃ (k : Nat), k ≤ n ∧ iv = .int .i64 (k : Int) ∧ Below w.heap.size w wr ∧ gIdx (vs.drop k) k (yk, yn) = R) (fun iv _ => n - (intOf iv).toNat)
  case atStart => exact ⟨0, by omega, rfl, Below.refl _ _, by simpa using hR.out⟩
  case round =>
    obtain ⟨k, hk, rfl, hB, hok⟩ := hrel
    replace hok : Hid (gIdx (vs.drop k) k (yk, yn) = R) := hok
    by_cases hlt : k < n
    · obtain ⟨b1, off, x1, y1, rfl, hb1, c1, d1, e1, _, _⟩ := (hv.below hB).at_ k hlt
      have hki : (k : Int) < (n : Int) := by omega
      have q0 := (hB.cell (p := ⟨b, 0, none⟩) (lt_of_cell h0)).trans h0
      have q1 := (hB.cell (p := ⟨b, 1, none⟩) (lt_of_cell h1)).trans h1
      go_wp2_with fail
      refine (closure_any x1 y1 yk yn b wr q0 q1).mono ?_
      rintro e w' ⟨rfl, B2⟩
      have B3 := below_size hB hB.size B2
      clear q0 q1 c1 d1 hB B2
      by_cases hg : gtV (x1, y1) (yk, yn) = true
      · have hRk : Hid (R = (k : Int)) := by rw [gIdx_hit e1.out hg] at hok; exact hok.out.symm
        rw [hg]
        go_wp2
        go_ret
        exact ⟨by rw [hRk.out]; rfl, B3⟩
      · have hne : Hid (gIdx (vs.drop (k + 1)) (k + 1) (yk, yn) = R) := by rw [← gIdx_miss e1.out hg]; exact hok
        rw [Bool.not_eq_true] at hg
        rw [hg]
        go_wp2
        go_roundw
        case rel => exact ⟨k + 1, by omega, by go_num, B3, hne.out⟩
        case measure => simp [intOf]; omega
    · have hok' : Hid (-1 = R) := by
        have e := hok.out
        rw [List.drop_of_length_le (by omega)] at e
        exact e
      go_wp2
      go_ret
      exact ⟨by rw [← hok'.out]; rfl, hB⟩
end Go.Proofs.Ytkkilenokpoaoaa
