/- A number and itself: the law's walk. -/
import Derived.Test.YtkpngpongbpfgaaDoE
import Derived.Test.YtkpngpongbpfgaaGivN
import Derived.Test.YtkpngpongbpfgaaKnN
namespace Go.Proofs.Ytkpngpongbpfgaa
open Go.RowKit
set_option maxRecDepth 100000
theorem order_nan {x z : Nat} (h : nanB x = true) : FloatKind.f64.format.order x z ≠ some .eq := by
  unfold nanB at h
  unfold Ieee.Format.order at h ⊢
  cases hr : FloatKind.f64.format.read x with
  | nan s f => simp [Ieee.Datum.order]
  | infinity s => rw [hr] at h; simp [Ieee.Datum.order] at h
  | number s m i => rw [hr] at h; simp [Ieee.Datum.order] at h
theorem order_self {x : Nat} : (FloatKind.f64.format.order x x == some .eq) = !(nanB x) := by
  unfold nanB
  cases h : (FloatKind.f64.format.order x x == some .eq) <;> simp_all [bne]
theorem sub_self {n : Bool} {xs : List Int} {x y : Nat} (h : rightN false n xs x y = true) : addE n xs n (!n) xs = 0 ∧ addM n xs n (!n) xs = [] := by
  unfold rightN at h
  rw [if_neg (by decide), Bool.and_eq_true, Bool.and_eq_true] at h
  have hr := h.1.1
  have hs : sumMag n (!n) (val8 xs) (val8 xs) = 0 := by
    unfold sumMag
    rw [if_neg (by cases n <;> decide), if_neg (by omega)]
    omega
  unfold addE addM
  rw [hr, hs]
  exact ⟨rfl, rfl⟩
theorem eq_self {p n : Bool} {xs : List Int} {x y : Nat} (h : rightN p n xs x y = true) : eqN p n xs x y p n xs x y = !(nanB x || nanB y) := by
  unfold rightN at h
  unfold eqN
  cases p with
  | true =>
    rw [if_neg (by decide)]
    show (if (0 : Int) ≠ 0 then false else if (0 : Int) ≠ 0 then false else (FloatKind.f64.format.order x x == some .eq) && (FloatKind.f64.format.order y y == some .eq)) = _
    rw [if_neg (by simp), if_neg (by simp), order_self, order_self]
    cases nanB x <;> cases nanB y <;> rfl
  | false =>
    rw [if_pos ⟨rfl, rfl⟩]
    rw [if_neg (by decide), Bool.and_eq_true, Bool.and_eq_true, decide_eq_true_eq, decide_eq_true_eq] at h
    obtain ⟨⟨h1, rfl⟩, rfl⟩ := h
    rw [nan_zero]
    unfold cmpI
    rw [h1]
    cases n <;> simp [sgn]
theorem eq_nan {p n p2 n2 : Bool} {xs ys : List Int} {x y x2 y2 : Nat} (h : rightN p n xs x y = true) (hn : nanB x = true ∨ nanB y = true) : p = true ∧ eqN p n xs x y p2 n2 ys x2 y2 = false := by
  unfold rightN at h
  cases p with
  | false =>
    rw [if_neg (by decide), Bool.and_eq_true, Bool.and_eq_true, decide_eq_true_eq, decide_eq_true_eq] at h
    obtain ⟨⟨h1, rfl⟩, rfl⟩ := h
    rw [nan_zero] at hn
    simp at hn
  | true =>
    refine ⟨rfl, ?_⟩
    unfold eqN
    rw [if_neg (by simp)]
    show (if (0 : Int) ≠ 0 then false else if acE p2 n2 ys ≠ 0 then false else (FloatKind.f64.format.order x (acX p2 n2 ys x2) == some .eq) && (FloatKind.f64.format.order y (acY p2 y2) == some .eq)) = _
    rw [if_neg (by simp)]
    split
    · rfl
    · rcases hn with hn | hn
      · have := order_nan (z := acX p2 n2 ys x2) hn
        simp [this]
      · have := order_nan (z := acY p2 y2) hn
        simp [this]
set_option maxHeartbeats 8000000 in
theorem own_law {w : World} (p1 n1 p2 n2 : Bool) (x1 y1 x2 y2 : Nat) {ja ka : Option Addr} {jn jc kn kc : Nat} {xs ys : List Int} (h1 : IsB w ja jn jc xs) (h2 : IsB w ka kn kc ys) (hjl : jn ≤ 140737488351232) (hkl : kn ≤ 140737488351232) :
    Calls Try.prog 6 #[.agg #[.bool p1, .bool n1, .slice ja jn jc, .float .f64 x1, .float .f64 y1], .agg #[.bool p2, .bool n2, .slice ka kn kc, .float .f64 x2, .float .f64 y2]] w fun e w' => e = .returned (.bool true) ∧ Below w.heap.size w w' := by
  have hxs := h1.size
  have hys := h2.size
  have E2 := oldF (newF w (numR p1 n1 (.slice ja jn jc) x1 y1)) (numR p2 n2 (.slice ka kn kc) x2 y2)
  have E3 := newF (w.alloc (numR p1 n1 (.slice ja jn jc) x1 y1)) (numR p2 n2 (.slice ka kn kc) x2 y2)
  have B1 : Below w.heap.size w ((w.alloc (numR p1 n1 (.slice ja jn jc) x1 y1)).alloc (numR p2 n2 (.slice ka kn kc) x2 y2)) := below_sizeF box_belowF (Nat.le_refl _) box_belowF
  rw [size1] at E3
  have IJ := h1.below B1
  have IK := h2.below B1
  unfold numR at E2 E3 B1 IJ IK
  have hsc := stC_run
  go_enter Try.func6, Try.ntmps6
  go_wp2_with fail
  generalize (w.alloc (.cells #[.bool p1, .bool n1, .slice ja jn jc, .float .f64 x1, .float .f64 y1] 27)).alloc (.cells #[.bool p2, .bool n2, .slice ka kn kc, .float .f64 x2, .float .f64 y2] 27) = w1 at *
  generalize w.heap.size + 1 = b3 at *
  obtain ⟨b2, hb2⟩ : ∃ b, b = w.heap.size := ⟨_, rfl⟩
  rw [← hb2] at E2 ⊢
  clear hb2
  replace E2 : w1.heap[b2]? = some (numR p1 n1 (.slice ja jn jc) x1 y1) := E2
  replace E3 : w1.heap[b3]? = some (numR p2 n2 (.slice ka kn kc) x2 y2) := E3
  refine (given_N p1 n1 x1 y1 IJ hjl).mono ?_
  rintro e w2 ⟨gb, rfl, IG, B2⟩
  have E5 := newF w2 (numP p1 n1 (.slice (some ⟨gb, 0, none⟩) jn (jn + 8)) x1 y1)
  replace E2 := oldF ((B2.block _ (lt_of_blockF E2)).trans E2) (numP p1 n1 (.slice (some ⟨gb, 0, none⟩) jn (jn + 8)) x1 y1)
  replace E3 := oldF ((B2.block _ (lt_of_blockF E3)).trans E3) (numP p1 n1 (.slice (some ⟨gb, 0, none⟩) jn (jn + 8)) x1 y1)
  replace IK := (IK.below B2).below (box_belowF (o := numP p1 n1 (.slice (some ⟨gb, 0, none⟩) jn (jn + 8)) x1 y1))
  replace IG := IG.below (box_belowF (o := numP p1 n1 (.slice (some ⟨gb, 0, none⟩) jn (jn + 8)) x1 y1))
  replace B1 := below_sizeF (below_sizeF B1 (Nat.le_refl _) B2) (Nat.le_refl _) (box_belowF (o := numP p1 n1 (.slice (some ⟨gb, 0, none⟩) jn (jn + 8)) x1 y1))
  clear B2 IJ
  unfold numP at E5 E2 E3 IK IG B1
  go_wp2_with fail
  generalize w2.alloc (.cells #[.bool p1, .bool n1, .slice (some ⟨gb, 0, none⟩) jn (jn + 8), .complex .f64 x1 y1] 31) = w3 at *
  generalize w2.heap.size = b5 at *
  replace E5 : w3.heap[b5]? = some (numP p1 n1 (.slice (some ⟨gb, 0, none⟩) jn (jn + 8)) x1 y1) := E5
  replace E2 : w3.heap[b2]? = some (numR p1 n1 (.slice ja jn jc) x1 y1) := E2
  replace E3 : w3.heap[b3]? = some (numR p2 n2 (.slice ka kn kc) x2 y2) := E3
  have IA : IsB w3 (some ⟨gb, 0, none⟩) jn (jn + 8) xs := IG.front (ys := pad) hxs
  clear IG
  refine (rightN_any p1 n1 x1 y1 IA).mono ?_
  rintro e w4 ⟨rfl, B2⟩
  replace E2 := (B2.block _ (lt_of_blockF E2)).trans E2
  replace E3 := (B2.block _ (lt_of_blockF E3)).trans E3
  replace E5 := (B2.block _ (lt_of_blockF E5)).trans E5
  replace IA := IA.below B2
  replace IK := IK.below B2
  replace B1 := below_sizeF B1 (Nat.le_refl _) B2
  clear B2
  cases r1 : rightN p1 n1 xs x1 y1 with
  | false =>
    go_wp2_with fail
    refine (known_true _).mono ?_
    rintro e w9 ⟨rfl, B9⟩
    go_wp2
    go_ret
    exact ⟨rfl, below_sizeF B1 (Nat.le_refl _) B9⟩
  | true =>
  obtain ⟨z0, z1, z2, z3, z4, zf⟩ := numR_cells E3
  go_wp2_with fail
  clear z0 z1 z2 z3 z4 zf
  refine (given_N p2 n2 x2 y2 IK hkl).mono ?_
  rintro e w5 ⟨gk, rfl, IG, B2⟩
  replace E2 := (B2.block _ (lt_of_blockF E2)).trans E2
  replace E3 := (B2.block _ (lt_of_blockF E3)).trans E3
  replace E5 := (B2.block _ (lt_of_blockF E5)).trans E5
  replace IA := IA.below B2
  replace IK := IK.below B2
  replace B1 := below_sizeF B1 (Nat.le_refl _) B2
  clear B2
  have IU : IsB w5 (some ⟨gk, 0, none⟩) kn (kn + 8) ys := IG.front (ys := pad) hys
  clear IG
  go_wp2_with fail
  refine (rightN_any p2 n2 x2 y2 IU).mono ?_
  rintro e w5' ⟨rfl, B2⟩
  replace E2 := (B2.block _ (lt_of_blockF E2)).trans E2
  replace E3 := (B2.block _ (lt_of_blockF E3)).trans E3
  replace E5 := (B2.block _ (lt_of_blockF E5)).trans E5
  replace IA := IA.below B2
  replace IK := IK.below B2
  replace B1 := below_sizeF B1 (Nat.le_refl _) B2
  clear B2 IU
  cases r2 : rightN p2 n2 ys x2 y2 with
  | false =>
    go_wp2_with fail
    refine (known_true _).mono ?_
    rintro e w9 ⟨rfl, B9⟩
    go_wp2
    go_ret
    exact ⟨rfl, below_sizeF B1 (Nat.le_refl _) B9⟩
  | true =>
    obtain ⟨q1, hq1⟩ : ∃ q, Hid (eqN p1 n1 xs x1 y1 p1 n1 xs x1 y1 = q) := ⟨_, rfl⟩
    obtain ⟨q2, hq2⟩ : ∃ q, Hid (eqN p1 n1 xs x1 y1 p2 n2 ys x2 y2 = q) := ⟨_, rfl⟩
    have hnan : nanB x1 = true ∨ nanB y1 = true → p1 = true ∧ q1 = false ∧ q2 = false := fun hn => by
      obtain ⟨h3, h4⟩ := eq_nan (p2 := p2) (n2 := n2) (ys := ys) (x2 := x2) (y2 := y2) r1 hn
      rw [hq2.out] at h4
      have h5 := eq_self r1
      rw [hq1.out] at h5
      refine ⟨h3, ?_, h4⟩
      rw [h5]
      rcases hn with hn | hn <;> simp [hn]
    have hnot : nanB x1 = false → nanB y1 = false → q1 = true := fun ha hb => by
      have h5 := eq_self r1
      rw [hq1.out, ha, hb] at h5
      exact h5
    have C6 : ∀ (w' : World) (gc : Nat), IsB w' (some ⟨gb, 0, none⟩) jn (jn + 8) xs → IsB w' (some ⟨gc, 0, none⟩) kn (kn + 8) ys → Calls Try.prog 9 #[.int .i64 6, .agg #[.bool p1, .bool n1, .slice (some ⟨gb, 0, none⟩) jn (jn + 8), .complex .f64 x1 y1], .agg #[.bool p2, .bool n2, .slice (some ⟨gc, 0, none⟩) kn (kn + 8), .complex .f64 x2 y2]] w' fun e w'' => e = .returned (.tuple #[.agg #[.bool false, .bool false, .slice none 0 0, .complex .f64 0 0], .bool q2, .int .i64 0]) ∧ Below w'.heap.size w' w'' := fun w' gc ha hb => by
      have h := does_equal p1 n1 p2 n2 x1 y1 x2 y2 ha hb r1 r2
      rw [hq2.out] at h
      exact h
    obtain ⟨u0, u1, u2, u3, uf⟩ := numP_cells E5
    go_wp2_with fail
    clear u0 u1 u2 u3 uf
    refine (does_equal p1 n1 p1 n1 x1 y1 x1 y1 IA IA r1 r1).mono ?_
    rintro e w5b ⟨rfl, B2⟩
    rw [hq1.out]
    replace E2 := oldF ((B2.block _ (lt_of_blockF E2)).trans E2) (numP false false (.slice none 0 0) 0 0)
    replace E3 := oldF ((B2.block _ (lt_of_blockF E3)).trans E3) (numP false false (.slice none 0 0) 0 0)
    replace E5 := oldF ((B2.block _ (lt_of_blockF E5)).trans E5) (numP false false (.slice none 0 0) 0 0)
    replace IA := (IA.below B2).below (box_belowF (o := numP false false (.slice none 0 0) 0 0))
    replace IK := (IK.below B2).below (box_belowF (o := numP false false (.slice none 0 0) 0 0))
    have B6 := below_sizeF (below_sizeF B1 (Nat.le_refl _) B2) (Nat.le_refl _) (box_belowF (o := numP false false (.slice none 0 0) 0 0))
    clear B2 B1
    unfold numP at E2 E3 E5 IA IK B6
    go_upto_region 5 with fail
    generalize w5b.alloc (.cells #[.bool false, .bool false, .slice none 0 0, .complex .f64 0 0] 31) = w6 at *
    generalize w5b.heap.size = b6 at *
    replace E2 : w6.heap[b2]? = some (numR p1 n1 (.slice ja jn jc) x1 y1) := E2
    replace E3 : w6.heap[b3]? = some (numR p2 n2 (.slice ka kn kc) x2 y2) := E3
    replace E5 : w6.heap[b5]? = some (numP p1 n1 (.slice (some ⟨gb, 0, none⟩) jn (jn + 8)) x1 y1) := E5
    refine wp_region_inv' (fun A D a w' => ∃ v36 v37 v38 v39 v35 v40 v41 v42 v9 v10 v11 gc nb, a = (((((((((((A.put (some 36) v36).put (some 37) v37).put (some 38) v38).put (some 39) v39).put (some 35) v35).put (some 40) v40).put (some 41) v41).put (some 42) v42).put (some 9) v9).put (some 10) v10).put (some 11) v11) ∧ Below w6.heap.size w6 w' ∧ (D 0 → v36 = .agg #[.bool p1, .bool n1, .slice (some ⟨gb, 0, none⟩) jn (jn + 8), .complex .f64 x1 y1]) ∧ (D 1 → v37 = .agg #[.bool p2, .bool n2, .slice ka kn kc, .float .f64 x2, .float .f64 y2]) ∧ (D 2 → v38 = .agg #[.bool p2, .bool n2, .slice (some ⟨gc, 0, none⟩) kn (kn + 8), .complex .f64 x2 y2]) ∧ (D 3 → v39 = .tuple #[.agg #[.bool false, .bool false, .slice none 0 0, .complex .f64 0 0], .bool q2, .int .i64 0]) ∧ (D 4 → v35 = .tuple #[.agg #[.bool false, .bool false, .slice none 0 0, .complex .f64 0 0], .bool q2, .int .i64 0]) ∧ (D 5 → v40 = .agg #[.bool false, .bool false, .slice none 0 0, .complex .f64 0 0]) ∧ (D 6 → v41 = .bool q2) ∧ (D 7 → v42 = .int .i64 0) ∧ (D 8 → v9 = .pointer (some ⟨nb, 0, none⟩)) ∧ (D 10 → v10 = .bool q2) ∧ (D 11 → v11 = .int .i64 0) ∧ (D 2 → ¬ D 3 → IsB w' (some ⟨gc, 0, none⟩) (kn + 8) (kn + 8) (ys ++ pad)) ∧ (D 8 → ¬ D 9 → w'.heap[nb]? = some (numP false false (.slice none 0 0) 0 0) ∧ w6.heap.size ≤ nb)) (by kernel_rfl) (by kernel_rfl) ?mono ?start ?step ?done
    case mono =>
      rintro D D' a w' hD ⟨v36, v37, v38, v39, v35, v40, v41, v42, v9, v10, v11, gc, nb, ha, hB, e0, e1, e2, e3, e4, e5, e6, e7, e8, e10, e11, hL, hN⟩
      exact ⟨v36, v37, v38, v39, v35, v40, v41, v42, v9, v10, v11, gc, nb, ha, hB, fun h => e0 ((hD 0).2 h), fun h => e1 ((hD 1).2 h), fun h => e2 ((hD 2).2 h), fun h => e3 ((hD 3).2 h), fun h => e4 ((hD 4).2 h), fun h => e5 ((hD 5).2 h), fun h => e6 ((hD 6).2 h), fun h => e7 ((hD 7).2 h), fun h => e8 ((hD 8).2 h), fun h => e10 ((hD 10).2 h), fun h => e11 ((hD 11).2 h), fun h h' => hL ((hD 2).2 h) (fun k => h' ((hD 3).1 k)), fun h h' => hN ((hD 8).2 h) (fun k => h' ((hD 9).1 k))⟩
    case start => exact ⟨undef, undef, undef, undef, undef, undef, undef, undef, undef, undef, undef, 0, 0, by kernel_rfl, (Below.refl _ _).drew, fun h => h.elim, fun h => h.elim, fun h => h.elim, fun h => h.elim, fun h => h.elim, fun h => h.elim, fun h => h.elim, fun h => h.elim, fun h => h.elim, fun h => h.elim, fun h => h.elim, fun h _ => h.elim, fun h _ => h.elim⟩
    case step =>
      intro i o ho D a w' hI hn hcl hd
      obtain ⟨v36, v37, v38, v39, v35, v40, v41, v42, v9, v10, v11, gc, nb, ha, hB, e0, e1, e2, e3, e4, e5, e6, e7, e8, e10, e11, hL, hN⟩ := hI
      match i, ho with
      | 0, ho =>
        cases Option.some.inj ho
        have ev : a.tmps[5]?.getD undef = .pointer (some ⟨b5, 0, none⟩) := by rw [ha]; kernel_rfl
        obtain ⟨z0, z1, z2, z3, _⟩ := numP_cells ((hB.block _ (lt_of_blockF E5)).trans E5)
        refine wp_value (w' := w') (v := .agg #[.bool p1, .bool n1, .slice (some ⟨gb, 0, none⟩) jn (jn + 8), .complex .f64 x1 y1]) (by simp [execOp, ev, go_sem, z0, z1, z2, z3]) ?_
        exact ⟨(.agg #[.bool p1, .bool n1, .slice (some ⟨gb, 0, none⟩) jn (jn + 8), .complex .f64 x1 y1]), v37, v38, v39, v35, v40, v41, v42, v9, v10, v11, gc, nb, by rw [ha]; kernel_rfl, hB, fun _ => rfl, fun h => e1 (h.resolve_left (by decide)), fun h => e2 (h.resolve_left (by decide)), fun h => e3 (h.resolve_left (by decide)), fun h => e4 (h.resolve_left (by decide)), fun h => e5 (h.resolve_left (by decide)), fun h => e6 (h.resolve_left (by decide)), fun h => e7 (h.resolve_left (by decide)), fun h => e8 (h.resolve_left (by decide)), fun h => e10 (h.resolve_left (by decide)), fun h => e11 (h.resolve_left (by decide)), fun h h' => hL (h.resolve_left (by decide)) (fun k => h' (.inr k)), fun h h' => hN (h.resolve_left (by decide)) (fun k => h' (.inr k))⟩
      | 1, ho =>
        cases Option.some.inj ho
        have ev : a.tmps[3]?.getD undef = .pointer (some ⟨b3, 0, none⟩) := by rw [ha]; kernel_rfl
        obtain ⟨z0, z1, z2, z3, z4, _⟩ := numR_cells ((hB.block _ (lt_of_blockF E3)).trans E3)
        refine wp_value (w' := w') (v := .agg #[.bool p2, .bool n2, .slice ka kn kc, .float .f64 x2, .float .f64 y2]) (by simp [execOp, ev, go_sem, z0, z1, z2, z3, z4]) ?_
        exact ⟨v36, (.agg #[.bool p2, .bool n2, .slice ka kn kc, .float .f64 x2, .float .f64 y2]), v38, v39, v35, v40, v41, v42, v9, v10, v11, gc, nb, by rw [ha]; kernel_rfl, hB, fun h => e0 (h.resolve_left (by decide)), fun _ => rfl, fun h => e2 (h.resolve_left (by decide)), fun h => e3 (h.resolve_left (by decide)), fun h => e4 (h.resolve_left (by decide)), fun h => e5 (h.resolve_left (by decide)), fun h => e6 (h.resolve_left (by decide)), fun h => e7 (h.resolve_left (by decide)), fun h => e8 (h.resolve_left (by decide)), fun h => e10 (h.resolve_left (by decide)), fun h => e11 (h.resolve_left (by decide)), fun h h' => hL (h.resolve_left (by decide)) (fun k => h' (.inr k)), fun h h' => hN (h.resolve_left (by decide)) (fun k => h' (.inr k))⟩
      | 2, ho =>
        cases Option.some.inj ho
        have ev : a.tmps[37]?.getD undef = .agg #[.bool p2, .bool n2, .slice ka kn kc, .float .f64 x2, .float .f64 y2] := by rw [ha, e1 (hd ⟨1, .data⟩ (by simp) rfl)]; kernel_rfl
        refine wp_enter (f := 8) (args := #[.agg #[.bool p2, .bool n2, .slice ka kn kc, .float .f64 x2, .float .f64 y2]]) (by simp [execOp, ev, go_sem]) ?_
        refine (given_N p2 n2 x2 y2 (IK.below hB) hkl).mono ?_
        rintro e w6 ⟨gc', rfl, IG2, HB⟩
        refine ⟨_, rfl, ?_⟩
        exact ⟨v36, v37, (.agg #[.bool p2, .bool n2, .slice (some ⟨gc', 0, none⟩) kn (kn + 8), .complex .f64 x2 y2]), v39, v35, v40, v41, v42, v9, v10, v11, gc', nb, by rw [ha]; kernel_rfl, below_sizeF hB (Nat.le_refl _) HB, fun h => e0 (h.resolve_left (by decide)), fun h => e1 (h.resolve_left (by decide)), fun _ => rfl, fun h => e3 (h.resolve_left (by decide)), fun h => e4 (h.resolve_left (by decide)), fun h => e5 (h.resolve_left (by decide)), fun h => e6 (h.resolve_left (by decide)), fun h => e7 (h.resolve_left (by decide)), fun h => e8 (h.resolve_left (by decide)), fun h => e10 (h.resolve_left (by decide)), fun h => e11 (h.resolve_left (by decide)), fun _ _ => IG2, fun h h' => ⟨(HB.block _ (lt_of_blockF (hN (h.resolve_left (by decide)) (fun k => h' (.inr k))).1)).trans (hN (h.resolve_left (by decide)) (fun k => h' (.inr k))).1, (hN (h.resolve_left (by decide)) (fun k => h' (.inr k))).2⟩⟩
      | 3, ho =>
        cases Option.some.inj ho
        have ev : a.tmps[36]?.getD undef = .agg #[.bool p1, .bool n1, .slice (some ⟨gb, 0, none⟩) jn (jn + 8), .complex .f64 x1 y1] := by rw [ha, e0 (hd ⟨0, .data⟩ (by simp) rfl)]; kernel_rfl
        have ev' : a.tmps[38]?.getD undef = .agg #[.bool p2, .bool n2, .slice (some ⟨gc, 0, none⟩) kn (kn + 8), .complex .f64 x2 y2] := by rw [ha, e2 (hd ⟨2, .data⟩ (by simp) rfl)]; kernel_rfl
        refine wp_enter (f := 9) (args := #[.int .i64 6, .agg #[.bool p1, .bool n1, .slice (some ⟨gb, 0, none⟩) jn (jn + 8), .complex .f64 x1 y1], .agg #[.bool p2, .bool n2, .slice (some ⟨gc, 0, none⟩) kn (kn + 8), .complex .f64 x2 y2]]) (by simp [execOp, ev, ev', go_sem]) ?_
        refine (C6 w' gc (IA.below hB) ((hL (hd ⟨2, .data⟩ (by simp) rfl) hn).front (ys := pad) hys)).mono ?_
        rintro e w6 ⟨rfl, HB⟩
        refine ⟨_, rfl, ?_⟩
        exact ⟨v36, v37, v38, (.tuple #[.agg #[.bool false, .bool false, .slice none 0 0, .complex .f64 0 0], .bool q2, .int .i64 0]), v35, v40, v41, v42, v9, v10, v11, gc, nb, by rw [ha]; kernel_rfl, below_sizeF hB (Nat.le_refl _) HB, fun h => e0 (h.resolve_left (by decide)), fun h => e1 (h.resolve_left (by decide)), fun h => e2 (h.resolve_left (by decide)), fun _ => rfl, fun h => e4 (h.resolve_left (by decide)), fun h => e5 (h.resolve_left (by decide)), fun h => e6 (h.resolve_left (by decide)), fun h => e7 (h.resolve_left (by decide)), fun h => e8 (h.resolve_left (by decide)), fun h => e10 (h.resolve_left (by decide)), fun h => e11 (h.resolve_left (by decide)), fun _ h' => absurd (.inl rfl) h', fun h h' => ⟨(HB.block _ (lt_of_blockF (hN (h.resolve_left (by decide)) (fun k => h' (.inr k))).1)).trans (hN (h.resolve_left (by decide)) (fun k => h' (.inr k))).1, (hN (h.resolve_left (by decide)) (fun k => h' (.inr k))).2⟩⟩
      | 4, ho =>
        cases Option.some.inj ho
        have ev : a.tmps[39]?.getD undef = .tuple #[.agg #[.bool false, .bool false, .slice none 0 0, .complex .f64 0 0], .bool q2, .int .i64 0] := by rw [ha, e3 (hd ⟨3, .data⟩ (by simp) rfl)]; kernel_rfl
        refine wp_value (w' := w') (v := .tuple #[.agg #[.bool false, .bool false, .slice none 0 0, .complex .f64 0 0], .bool q2, .int .i64 0]) (by simp [execOp, ev, go_sem]) ?_
        exact ⟨v36, v37, v38, v39, (.tuple #[.agg #[.bool false, .bool false, .slice none 0 0, .complex .f64 0 0], .bool q2, .int .i64 0]), v40, v41, v42, v9, v10, v11, gc, nb, by rw [ha]; kernel_rfl, hB, fun h => e0 (h.resolve_left (by decide)), fun h => e1 (h.resolve_left (by decide)), fun h => e2 (h.resolve_left (by decide)), fun h => e3 (h.resolve_left (by decide)), fun _ => rfl, fun h => e5 (h.resolve_left (by decide)), fun h => e6 (h.resolve_left (by decide)), fun h => e7 (h.resolve_left (by decide)), fun h => e8 (h.resolve_left (by decide)), fun h => e10 (h.resolve_left (by decide)), fun h => e11 (h.resolve_left (by decide)), fun h h' => hL (h.resolve_left (by decide)) (fun k => h' (.inr k)), fun h h' => hN (h.resolve_left (by decide)) (fun k => h' (.inr k))⟩
      | 5, ho =>
        cases Option.some.inj ho
        have ev : a.tmps[35]?.getD undef = .tuple #[.agg #[.bool false, .bool false, .slice none 0 0, .complex .f64 0 0], .bool q2, .int .i64 0] := by rw [ha, e4 (hd ⟨4, .data⟩ (by simp) rfl)]; kernel_rfl
        refine wp_value (w' := w') (v := .agg #[.bool false, .bool false, .slice none 0 0, .complex .f64 0 0]) (by simp [execOp, ev, go_sem]) ?_
        exact ⟨v36, v37, v38, v39, v35, (.agg #[.bool false, .bool false, .slice none 0 0, .complex .f64 0 0]), v41, v42, v9, v10, v11, gc, nb, by rw [ha]; kernel_rfl, hB, fun h => e0 (h.resolve_left (by decide)), fun h => e1 (h.resolve_left (by decide)), fun h => e2 (h.resolve_left (by decide)), fun h => e3 (h.resolve_left (by decide)), fun h => e4 (h.resolve_left (by decide)), fun _ => rfl, fun h => e6 (h.resolve_left (by decide)), fun h => e7 (h.resolve_left (by decide)), fun h => e8 (h.resolve_left (by decide)), fun h => e10 (h.resolve_left (by decide)), fun h => e11 (h.resolve_left (by decide)), fun h h' => hL (h.resolve_left (by decide)) (fun k => h' (.inr k)), fun h h' => hN (h.resolve_left (by decide)) (fun k => h' (.inr k))⟩
      | 6, ho =>
        cases Option.some.inj ho
        have ev : a.tmps[35]?.getD undef = .tuple #[.agg #[.bool false, .bool false, .slice none 0 0, .complex .f64 0 0], .bool q2, .int .i64 0] := by rw [ha, e4 (hd ⟨4, .data⟩ (by simp) rfl)]; kernel_rfl
        refine wp_value (w' := w') (v := .bool q2) (by simp [execOp, ev, go_sem]) ?_
        exact ⟨v36, v37, v38, v39, v35, v40, (.bool q2), v42, v9, v10, v11, gc, nb, by rw [ha]; kernel_rfl, hB, fun h => e0 (h.resolve_left (by decide)), fun h => e1 (h.resolve_left (by decide)), fun h => e2 (h.resolve_left (by decide)), fun h => e3 (h.resolve_left (by decide)), fun h => e4 (h.resolve_left (by decide)), fun h => e5 (h.resolve_left (by decide)), fun _ => rfl, fun h => e7 (h.resolve_left (by decide)), fun h => e8 (h.resolve_left (by decide)), fun h => e10 (h.resolve_left (by decide)), fun h => e11 (h.resolve_left (by decide)), fun h h' => hL (h.resolve_left (by decide)) (fun k => h' (.inr k)), fun h h' => hN (h.resolve_left (by decide)) (fun k => h' (.inr k))⟩
      | 7, ho =>
        cases Option.some.inj ho
        have ev : a.tmps[35]?.getD undef = .tuple #[.agg #[.bool false, .bool false, .slice none 0 0, .complex .f64 0 0], .bool q2, .int .i64 0] := by rw [ha, e4 (hd ⟨4, .data⟩ (by simp) rfl)]; kernel_rfl
        refine wp_value (w' := w') (v := .int .i64 0) (by simp [execOp, ev, go_sem]) ?_
        exact ⟨v36, v37, v38, v39, v35, v40, v41, (.int .i64 0), v9, v10, v11, gc, nb, by rw [ha]; kernel_rfl, hB, fun h => e0 (h.resolve_left (by decide)), fun h => e1 (h.resolve_left (by decide)), fun h => e2 (h.resolve_left (by decide)), fun h => e3 (h.resolve_left (by decide)), fun h => e4 (h.resolve_left (by decide)), fun h => e5 (h.resolve_left (by decide)), fun h => e6 (h.resolve_left (by decide)), fun _ => rfl, fun h => e8 (h.resolve_left (by decide)), fun h => e10 (h.resolve_left (by decide)), fun h => e11 (h.resolve_left (by decide)), fun h h' => hL (h.resolve_left (by decide)) (fun k => h' (.inr k)), fun h h' => hN (h.resolve_left (by decide)) (fun k => h' (.inr k))⟩
      | 8, ho =>
        cases Option.some.inj ho
        refine wp_value (w' := w'.alloc (.cells #[.bool false, .bool false, .slice none 0 0, .complex .f64 0 0] 31)) (v := .pointer (some ⟨w'.heap.size, 0, none⟩)) (by simp [execOp, go_sem]) ?_
        exact ⟨v36, v37, v38, v39, v35, v40, v41, v42, (.pointer (some ⟨w'.heap.size, 0, none⟩)), v10, v11, gc, w'.heap.size, by rw [ha]; kernel_rfl, hB.alloc hB.size _, fun h => e0 (h.resolve_left (by decide)), fun h => e1 (h.resolve_left (by decide)), fun h => e2 (h.resolve_left (by decide)), fun h => e3 (h.resolve_left (by decide)), fun h => e4 (h.resolve_left (by decide)), fun h => e5 (h.resolve_left (by decide)), fun h => e6 (h.resolve_left (by decide)), fun h => e7 (h.resolve_left (by decide)), fun _ => rfl, fun h => e10 (h.resolve_left (by decide)), fun h => e11 (h.resolve_left (by decide)), fun h h' => (hL (h.resolve_left (by decide)) (fun k => h' (.inr k))).below box_belowF, fun _ _ => ⟨newF _ _, hB.size⟩⟩
      | 9, ho =>
        cases Option.some.inj ho
        have ev : a.tmps[9]?.getD undef = .pointer (some ⟨nb, 0, none⟩) := by rw [ha, e8 (hd ⟨8, .data⟩ (by simp) rfl)]; kernel_rfl
        have ev' : a.tmps[40]?.getD undef = .agg #[.bool false, .bool false, .slice none 0 0, .complex .f64 0 0] := by rw [ha, e5 (hd ⟨5, .data⟩ (by simp) rfl)]; kernel_rfl
        obtain ⟨N9, hnb⟩ := hN (hd ⟨8, .data⟩ (by simp) rfl) hn
        obtain ⟨z0, z1, z2, z3, zf⟩ := numP_cells N9
        have hD3 : D 3 := hcl 4 _ rfl (hcl 5 _ rfl (hd ⟨5, .data⟩ (by simp) rfl) ⟨4, .data⟩ (by simp) rfl) ⟨3, .data⟩ (by simp) rfl
        refine wp_skip (w' := stP w' nb false false (.slice none 0 0) 0 0) (by simp [execOp, ev, ev', go_sem, z0, z1, z2, z3, zf, hsc, stP]) ?_
        exact ⟨v36, v37, v38, v39, v35, v40, v41, v42, v9, v10, v11, gc, nb, by rw [ha]; kernel_rfl, stP_below hB hnb _ _ _ _ _, fun h => e0 (h.resolve_left (by decide)), fun h => e1 (h.resolve_left (by decide)), fun h => e2 (h.resolve_left (by decide)), fun h => e3 (h.resolve_left (by decide)), fun h => e4 (h.resolve_left (by decide)), fun h => e5 (h.resolve_left (by decide)), fun h => e6 (h.resolve_left (by decide)), fun h => e7 (h.resolve_left (by decide)), fun h => e8 (h.resolve_left (by decide)), fun h => e10 (h.resolve_left (by decide)), fun h => e11 (h.resolve_left (by decide)), fun _ h' => absurd (.inr hD3) h', fun _ h' => absurd (.inl rfl) h'⟩
      | 10, ho =>
        cases Option.some.inj ho
        have ev : a.tmps[41]?.getD undef = .bool q2 := by rw [ha, e6 (hd ⟨6, .data⟩ (by simp) rfl)]; kernel_rfl
        refine wp_value (w' := w') (v := .bool q2) (by simp [execOp, ev, go_sem]) ?_
        exact ⟨v36, v37, v38, v39, v35, v40, v41, v42, v9, (.bool q2), v11, gc, nb, by rw [ha]; kernel_rfl, hB, fun h => e0 (h.resolve_left (by decide)), fun h => e1 (h.resolve_left (by decide)), fun h => e2 (h.resolve_left (by decide)), fun h => e3 (h.resolve_left (by decide)), fun h => e4 (h.resolve_left (by decide)), fun h => e5 (h.resolve_left (by decide)), fun h => e6 (h.resolve_left (by decide)), fun h => e7 (h.resolve_left (by decide)), fun h => e8 (h.resolve_left (by decide)), fun _ => rfl, fun h => e11 (h.resolve_left (by decide)), fun h h' => hL (h.resolve_left (by decide)) (fun k => h' (.inr k)), fun h h' => hN (h.resolve_left (by decide)) (fun k => h' (.inr k))⟩
      | 11, ho =>
        cases Option.some.inj ho
        have ev : a.tmps[42]?.getD undef = .int .i64 0 := by rw [ha, e7 (hd ⟨7, .data⟩ (by simp) rfl)]; kernel_rfl
        refine wp_value (w' := w') (v := .int .i64 0) (by simp [execOp, ev, go_sem]) ?_
        exact ⟨v36, v37, v38, v39, v35, v40, v41, v42, v9, v10, (.int .i64 0), gc, nb, by rw [ha]; kernel_rfl, hB, fun h => e0 (h.resolve_left (by decide)), fun h => e1 (h.resolve_left (by decide)), fun h => e2 (h.resolve_left (by decide)), fun h => e3 (h.resolve_left (by decide)), fun h => e4 (h.resolve_left (by decide)), fun h => e5 (h.resolve_left (by decide)), fun h => e6 (h.resolve_left (by decide)), fun h => e7 (h.resolve_left (by decide)), fun h => e8 (h.resolve_left (by decide)), fun h => e10 (h.resolve_left (by decide)), fun _ => rfl, fun h h' => hL (h.resolve_left (by decide)) (fun k => h' (.inr k)), fun h h' => hN (h.resolve_left (by decide)) (fun k => h' (.inr k))⟩
      | i + 12, ho => simp at ho
    case done =>
      rintro D a w' ⟨v36, v37, v38, v39, v35, v40, v41, v42, v9, v10, v11, gc, nb, ha, hB, e0, e1, e2, e3, e4, e5, e6, e7, e8, e10, e11, hL, hN⟩ hall
      obtain rfl := e0 (hall 0 (by decide))
      obtain rfl := e1 (hall 1 (by decide))
      obtain rfl := e2 (hall 2 (by decide))
      obtain rfl := e3 (hall 3 (by decide))
      obtain rfl := e4 (hall 4 (by decide))
      obtain rfl := e5 (hall 5 (by decide))
      obtain rfl := e6 (hall 6 (by decide))
      obtain rfl := e7 (hall 7 (by decide))
      obtain rfl := e8 (hall 8 (by decide))
      obtain rfl := e10 (hall 10 (by decide))
      obtain rfl := e11 (hall 11 (by decide))
      clear hL hN hall e0 e1 e2 e3 e4 e5 e6 e7 e8 e10 e11
      rw [ha]
      clear ha
      simp only [Act.put, List.setIfInBounds_toArray, List.set_cons_zero, List.set_cons_succ]
      have B7 := below_sizeF B6 (Nat.le_refl _) hB
      have E21 := (hB.block _ (lt_of_blockF E2)).trans E2
      have E51 := (hB.block _ (lt_of_blockF E5)).trans E5
      have IA1 := IA.below hB
      clear hB E2 E5 IA IK E3 B6
      obtain ⟨z0, z1, z2, z3, z4, zf⟩ := numR_cells E21
      obtain ⟨u0, u1, u2, u3, uf⟩ := numP_cells E51
      cases hnx : nanB x1 with
      | true =>
        obtain ⟨rfl, hq1, hq2⟩ := hnan (.inl hnx)
        have hx1 : (FloatKind.f64.format.order x1 x1 != some .eq) = true := hnx
        subst hq1 hq2
        go_wp2_with fail
        refine (known_true _).mono ?_
        rintro e w9 ⟨rfl, B9⟩
        go_wp2
        go_ret
        exact ⟨rfl, below_sizeF B7 (Nat.le_refl _) B9⟩
      | false =>
        have hx1 : (FloatKind.f64.format.order x1 x1 != some .eq) = false := hnx
        cases hny : nanB y1 with
        | true =>
          obtain ⟨rfl, hq1, hq2⟩ := hnan (.inr hny)
          have hy1 : (FloatKind.f64.format.order y1 y1 != some .eq) = true := hny
          subst hq1 hq2
          go_wp2_with fail
          refine (known_true _).mono ?_
          rintro e w9 ⟨rfl, B9⟩
          go_wp2
          go_ret
          exact ⟨rfl, below_sizeF B7 (Nat.le_refl _) B9⟩
        | false =>
          have hy1 : (FloatKind.f64.format.order y1 y1 != some .eq) = false := hny
          have hq1 := hnot hnx hny
          subst hq1
          cases p1 with
          | true =>
            go_wp2_with fail
            refine (known_true _).mono ?_
            rintro e w9 ⟨rfl, B9⟩
            go_wp2
            go_ret
            exact ⟨rfl, below_sizeF B7 (Nat.le_refl _) B9⟩
          | false =>
            obtain ⟨m1, m2⟩ := sub_self r1
            go_wp2_with fail
            refine (does_minus n1 n1 x1 y1 x1 y1 IA1 IA1 r1 r1).mono ?_
            rintro e w9 ⟨va, vn, vc, rfl, OV, B9⟩
            rw [m1]
            rw [m2] at OV
            obtain ⟨a', n', c', e', hn'⟩ := OV.shapeN
            simp only [Value.slice.injEq] at e'
            obtain ⟨rfl, rfl, rfl⟩ := e'
            simp only [List.length_nil] at hn'
            subst hn'
            replace B9 := below_sizeF B7 (Nat.le_refl _) (below_sizeF B9 (Nat.le_refl _) (box_belowF (o := numP false (addB n1 xs n1 (!n1) xs) (.slice va 0 vc) 0 0)))
            have E13 := newF w9 (numP false (addB n1 xs n1 (!n1) xs) (.slice va 0 vc) 0 0)
            generalize addB n1 xs n1 (!n1) xs = sb at *
            clear B7 OV
            unfold numP at E13 B9
            go_upto_region 12 with fail
            generalize w9.alloc (.cells #[.bool false, .bool sb, .slice va 0 vc, .complex .f64 0 0] 31) = w10 at *
            generalize w9.heap.size = b13 at *
            replace E13 : w10.heap[b13]? = some (numP false sb (.slice va 0 vc) 0 0) := E13
            obtain ⟨s0, s1, s2, s3, sf⟩ := numP_cells E13
            go_wp2_with fail
            refine (known_true _).mono ?_
            rintro e w11 ⟨rfl, B11⟩
            go_wp2
            go_ret
            exact ⟨rfl, below_sizeF B9 (Nat.le_refl _) B11⟩
end Go.Proofs.Ytkpngpongbpfgaa
