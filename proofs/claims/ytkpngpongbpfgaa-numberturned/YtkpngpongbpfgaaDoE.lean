/- Do: equal, and less of two whole numbers. -/
import Derived.Test.YtkpngpongbpfgaaEqN
import Derived.Test.YtkpngpongbpfgaaAddSub
import Derived.Test.YtkpngpongbpfgaaDoN
import Derived.Test.YtkpngpongbpfgaaGetN
namespace Go.Proofs.Ytkpngpongbpfgaa
open Go.RowKit
set_option maxRecDepth 100000
set_option maxHeartbeats 4000000 in
theorem does_equal {w : World} (p1 n1 p2 n2 : Bool) (x1 y1 x2 y2 : Nat) {ja ka : Option Addr} {jn jc kn kc : Nat} {xs ys : List Int} (h1 : IsB w ja jn jc xs) (h2 : IsB w ka kn kc ys) (r1 : rightN p1 n1 xs x1 y1 = true) (r2 : rightN p2 n2 ys x2 y2 = true) : Calls Try.prog 9 #[.int .i64 6, .agg #[.bool p1, .bool n1, .slice ja jn jc, .complex .f64 x1 y1], .agg #[.bool p2, .bool n2, .slice ka kn kc, .complex .f64 x2 y2]] w fun e w' => e = .returned (.tuple #[.agg #[.bool false, .bool false, .slice none 0 0, .complex .f64 0 0], .bool (eqN p1 n1 xs x1 y1 p2 n2 ys x2 y2), .int .i64 0]) ∧ Below w.heap.size w w' := by
  have E1 := oldF (oldF (newF w (numP p1 n1 (.slice ja jn jc) x1 y1)) (numP p2 n2 (.slice ka kn kc) x2 y2)) (numP false false (.slice none 0 0) 0 0)
  have E2 := oldF (newF (w.alloc (numP p1 n1 (.slice ja jn jc) x1 y1)) (numP p2 n2 (.slice ka kn kc) x2 y2)) (numP false false (.slice none 0 0) 0 0)
  have E3 := newF ((w.alloc (numP p1 n1 (.slice ja jn jc) x1 y1)).alloc (numP p2 n2 (.slice ka kn kc) x2 y2)) (numP false false (.slice none 0 0) 0 0)
  have B3 : Below w.heap.size w (((w.alloc (numP p1 n1 (.slice ja jn jc) x1 y1)).alloc (numP p2 n2 (.slice ka kn kc) x2 y2)).alloc (numP false false (.slice none 0 0) 0 0)) := below_sizeF (below_sizeF box_belowF (Nat.le_refl _) box_belowF) (Nat.le_refl _) box_belowF
  rw [size1] at E2
  rw [size1, size1] at E3
  have I1 := h1.below B3
  have I2 := h2.below B3
  unfold numP at E1 E2 E3 B3 I1 I2
  have hsc := stC_run
  go_enter Try.func9, Try.ntmps9
  go_wp2_with fail
  generalize ((w.alloc (.cells #[.bool p1, .bool n1, .slice ja jn jc, .complex .f64 x1 y1] 31)).alloc (.cells #[.bool p2, .bool n2, .slice ka kn kc, .complex .f64 x2 y2] 31)).alloc (.cells #[.bool false, .bool false, .slice none 0 0, .complex .f64 0 0] 31) = w1 at *
  replace E1 : w1.heap[w.heap.size]? = some (numP p1 n1 (.slice ja jn jc) x1 y1) := E1
  replace E2 : w1.heap[w.heap.size + 1]? = some (numP p2 n2 (.slice ka kn kc) x2 y2) := E2
  replace E3 : w1.heap[w.heap.size + 1 + 1]? = some (numP false false (.slice none 0 0) 0 0) := E3
  have hr5 : w.heap.size ≤ w.heap.size + 1 + 1 := by omega
  generalize w.heap.size + 1 + 1 = b3 at *
  generalize w.heap.size + 1 = b2 at *
  refine (rightN_any p1 n1 x1 y1 I1).mono ?_
  rintro e w2 ⟨rfl, B2⟩
  rw [r1]
  replace E1 := (B2.block _ (lt_of_blockF E1)).trans E1
  replace E2 := (B2.block _ (lt_of_blockF E2)).trans E2
  replace E3 := (B2.block _ (lt_of_blockF E3)).trans E3
  replace I1 := I1.below B2
  replace I2 := I2.below B2
  replace B3 := below_sizeF B3 (Nat.le_refl _) B2
  clear B2
  obtain ⟨v0, v1, v2, v3, vf⟩ := numP_cells E2
  go_wp2_with fail
  refine (rightN_any p2 n2 x2 y2 I2).mono ?_
  rintro e w3 ⟨rfl, B2⟩
  rw [r2]
  replace E1 := (B2.block _ (lt_of_blockF E1)).trans E1
  replace E2 := (B2.block _ (lt_of_blockF E2)).trans E2
  replace E3 := (B2.block _ (lt_of_blockF E3)).trans E3
  replace I1 := I1.below B2
  replace I2 := I2.below B2
  replace B3 := below_sizeF B3 (Nat.le_refl _) B2
  clear B2 v0 v1 v2 v3 vf
  obtain ⟨u0, u1, u2, u3, uf⟩ := numP_cells E1
  obtain ⟨v0, v1, v2, v3, vf⟩ := numP_cells E2
  cases p1 <;> cases p2
  · go_wp2_with fail
    refine (equal_any false n1 false n2 x1 y1 x2 y2 I1 I2).mono ?_
    rintro e w4 ⟨rfl, B2⟩
    replace E3 := (B2.block _ (lt_of_blockF E3)).trans E3
    replace B3 := below_sizeF B3 (Nat.le_refl _) B2
    clear B2 u0 u1 u2 u3 uf v0 v1 v2 v3 vf E1 E2
    obtain ⟨z0, z1, z2, z3, zf⟩ := numP_cells E3
    go_wp2
    clear z0 z1 z2 z3 zf
    have E9 := stP_blk E3 false false (.slice none 0 0) 0 0
    exact bodyPost_ret (v := .tuple #[.agg #[.bool false, .bool false, .slice none 0 0, .complex .f64 0 0], .bool (eqN false n1 xs x1 y1 false n2 ys x2 y2), .int .i64 0]) (results_threeN Try.results9 rfl (load31 E9) rfl rfl) rfl ⟨rfl, stP_below B3 hr5 _ _ _ _ _⟩
  · go_wp2_with fail
    refine (equal_any false n1 true n2 x1 y1 x2 y2 I1 I2).mono ?_
    rintro e w4 ⟨rfl, B2⟩
    replace E3 := (B2.block _ (lt_of_blockF E3)).trans E3
    replace B3 := below_sizeF B3 (Nat.le_refl _) B2
    clear B2 u0 u1 u2 u3 uf v0 v1 v2 v3 vf E1 E2
    obtain ⟨z0, z1, z2, z3, zf⟩ := numP_cells E3
    go_wp2
    clear z0 z1 z2 z3 zf
    have E9 := stP_blk E3 false false (.slice none 0 0) 0 0
    exact bodyPost_ret (v := .tuple #[.agg #[.bool false, .bool false, .slice none 0 0, .complex .f64 0 0], .bool (eqN false n1 xs x1 y1 true n2 ys x2 y2), .int .i64 0]) (results_threeN Try.results9 rfl (load31 E9) rfl rfl) rfl ⟨rfl, stP_below B3 hr5 _ _ _ _ _⟩
  · go_wp2_with fail
    refine (equal_any true n1 false n2 x1 y1 x2 y2 I1 I2).mono ?_
    rintro e w4 ⟨rfl, B2⟩
    replace E3 := (B2.block _ (lt_of_blockF E3)).trans E3
    replace B3 := below_sizeF B3 (Nat.le_refl _) B2
    clear B2 u0 u1 u2 u3 uf v0 v1 v2 v3 vf E1 E2
    obtain ⟨z0, z1, z2, z3, zf⟩ := numP_cells E3
    go_wp2
    clear z0 z1 z2 z3 zf
    have E9 := stP_blk E3 false false (.slice none 0 0) 0 0
    exact bodyPost_ret (v := .tuple #[.agg #[.bool false, .bool false, .slice none 0 0, .complex .f64 0 0], .bool (eqN true n1 xs x1 y1 false n2 ys x2 y2), .int .i64 0]) (results_threeN Try.results9 rfl (load31 E9) rfl rfl) rfl ⟨rfl, stP_below B3 hr5 _ _ _ _ _⟩
  · go_wp2_with fail
    refine (equal_any true n1 true n2 x1 y1 x2 y2 I1 I2).mono ?_
    rintro e w4 ⟨rfl, B2⟩
    replace E3 := (B2.block _ (lt_of_blockF E3)).trans E3
    replace B3 := below_sizeF B3 (Nat.le_refl _) B2
    clear B2 u0 u1 u2 u3 uf v0 v1 v2 v3 vf E1 E2
    obtain ⟨z0, z1, z2, z3, zf⟩ := numP_cells E3
    go_wp2
    clear z0 z1 z2 z3 zf
    have E9 := stP_blk E3 false false (.slice none 0 0) 0 0
    exact bodyPost_ret (v := .tuple #[.agg #[.bool false, .bool false, .slice none 0 0, .complex .f64 0 0], .bool (eqN true n1 xs x1 y1 true n2 ys x2 y2), .int .i64 0]) (results_threeN Try.results9 rfl (load31 E9) rfl rfl) rfl ⟨rfl, stP_below B3 hr5 _ _ _ _ _⟩
theorem Try.results24 : Try.f24.results = #[.cell 6 31, .tmp 7] := by kernel_rfl
theorem intB_frozen {w : World} {b : Nat} {m : Bool} {v : Value} (h : w.heap[b]? = some (intB m v)) : ∀ i, w.frozen? ⟨b, i, none⟩ = false := fun i => by
  unfold intB at h
  exact frozen_of_row w b i _ _ h
set_option maxHeartbeats 4000000 in
theorem whole_sub {w : World} (n1 n2 : Bool) {ja ka : Option Addr} {jn jc kn kc : Nat} {xs ys : List Int} (h1 : IsB w ja jn jc xs) (h2 : IsB w ka kn kc ys) : Calls Try.prog 24 #[.int .i64 1, .agg #[.bool n1, .slice ja jn jc], .agg #[.bool n2, .slice ka kn kc]] w fun e w' => ∃ a n c, e = .returned (.tuple #[.agg #[.bool false, .bool (addB n1 xs n2 (!n2) ys), .slice a n c, .complex .f64 0 0], .int .i64 (addE n1 xs n2 (!n2) ys)]) ∧ OwnB w' w.heap.size (.slice a n c) (addM n1 xs n2 (!n2) ys) ∧ Below w.heap.size w w' := by
  obtain ⟨sb, hsb⟩ : ∃ q, Hid (addB n1 xs n2 (!n2) ys = q) := ⟨_, rfl⟩
  obtain ⟨se, hse⟩ : ∃ q, Hid (addE n1 xs n2 (!n2) ys = q) := ⟨_, rfl⟩
  obtain ⟨sm, hsm⟩ : ∃ q, Hid (addM n1 xs n2 (!n2) ys = q) := ⟨_, rfl⟩
  rw [hsb.out, hse.out, hsm.out]
  have E1 := oldF (oldF (oldF (newF w (intB n1 (.slice ja jn jc))) (intB n2 (.slice ka kn kc))) (numP false false (.slice none 0 0) 0 0)) (intB false (.slice none 0 0))
  have E2 := oldF (oldF (newF (w.alloc (intB n1 (.slice ja jn jc))) (intB n2 (.slice ka kn kc))) (numP false false (.slice none 0 0) 0 0)) (intB false (.slice none 0 0))
  have E3 := oldF (newF ((w.alloc (intB n1 (.slice ja jn jc))).alloc (intB n2 (.slice ka kn kc))) (numP false false (.slice none 0 0) 0 0)) (intB false (.slice none 0 0))
  have E4 := newF (((w.alloc (intB n1 (.slice ja jn jc))).alloc (intB n2 (.slice ka kn kc))).alloc (numP false false (.slice none 0 0) 0 0)) (intB false (.slice none 0 0))
  have B4 : Below w.heap.size w ((((w.alloc (intB n1 (.slice ja jn jc))).alloc (intB n2 (.slice ka kn kc))).alloc (numP false false (.slice none 0 0) 0 0)).alloc (intB false (.slice none 0 0))) := below_sizeF (below_sizeF (below_sizeF box_belowF (Nat.le_refl _) box_belowF) (Nat.le_refl _) box_belowF) (Nat.le_refl _) box_belowF
  rw [size1] at E2
  rw [size1, size1] at E3
  rw [size1, size1, size1] at E4
  have I1 := h1.below B4
  have I2 := h2.below B4
  unfold intB numP at E1 E2 E3 E4 B4 I1 I2
  have hsc := stC_run
  go_enter Try.func24, Try.ntmps24
  go_wp2_with fail
  generalize (((w.alloc (.cells #[.bool n1, .slice ja jn jc] 28)).alloc (.cells #[.bool n2, .slice ka kn kc] 28)).alloc (.cells #[.bool false, .bool false, .slice none 0 0, .complex .f64 0 0] 31)).alloc (.cells #[.bool false, .slice none 0 0] 28) = w1 at *
  replace E3 : w1.heap[w.heap.size + 1 + 1]? = some (numP false false (.slice none 0 0) 0 0) := E3
  replace E4 : w1.heap[w.heap.size + 1 + 1 + 1]? = some (intB false (.slice none 0 0)) := E4
  have hr5 : w.heap.size ≤ w.heap.size + 1 + 1 := by omega
  have hr6 : w.heap.size ≤ w.heap.size + 1 + 1 + 1 := by omega
  have hr7 : w.heap.size + 1 + 1 ≠ w.heap.size + 1 + 1 + 1 := by omega
  generalize w.heap.size + 1 + 1 + 1 = b4 at *
  generalize w.heap.size + 1 + 1 = b3 at *
  refine (sub_any n1 n2 I1 I2).mono ?_
  rintro e w2 ⟨v, rfl, O2, B2⟩
  obtain ⟨va, vn, vc, rfl, -⟩ := O2.shapeN
  rw [hsb.out, hse.out]
  rw [hsm.out] at O2
  have hb3 := lt_of_blockF E3
  have hb4 := lt_of_blockF E4
  have hlo := own_ltN O2
  have hw1 : w.heap.size ≤ w1.heap.size := B4.size
  replace E3 := (B2.block _ hb3).trans E3
  replace E4 := (B2.block _ hb4).trans E4
  replace B4 := below_sizeF B4 (Nat.le_refl _) B2
  clear B2 E1 E2 I1 I2
  have E5 := intB_set (m' := sb) (v' := .slice va vn vc) E4
  have F5 := (heap_setCell_other (w2.setCell ⟨b4, 0, none⟩ (.bool sb)) ⟨b4, 1, none⟩ b3 (.slice va vn vc) hr7).trans ((heap_setCell_other w2 ⟨b4, 0, none⟩ b3 (.bool sb) hr7).trans E3)
  have B5 : Below w.heap.size w ((w2.setCell ⟨b4, 0, none⟩ (.bool sb)).setCell ⟨b4, 1, none⟩ (.slice va vn vc)) := below_setCell (below_setCell B4 hr6) hr6
  have O5 := O2.keepN (w' := (w2.setCell ⟨b4, 0, none⟩ (.bool sb)).setCell ⟨b4, 1, none⟩ (.slice va vn vc)) (fun g hg => by
    have hg1 : g ≠ b4 := by have := hlo g hg; omega
    exact (heap_setCell_other (w2.setCell ⟨b4, 0, none⟩ (.bool sb)) ⟨b4, 1, none⟩ g (.slice va vn vc) hg1).trans (heap_setCell_other w2 ⟨b4, 0, none⟩ g (.bool sb) hg1))
  obtain ⟨q0, q1⟩ := intB_cells E4
  have qf := intB_frozen E4
  obtain ⟨s0, s1⟩ := intB_cells E5
  obtain ⟨z0, z1, z2, z3, zf⟩ := numP_cells F5
  have E9 := stP_blk F5 false sb (.slice va vn vc) 0 0
  go_wp2
  refine bodyPost_ret (v := .tuple #[.agg #[.bool false, .bool sb, .slice va vn vc, .complex .f64 0 0], .int .i64 se]) (results_twoN Try.results24 rfl (load31 E9) rfl) rfl ⟨va, vn, vc, rfl, OwnB.monoN (O5.keepN fun g hg => stP_other ?_ _ _ _ _ _) hw1, stP_below B5 hr5 _ _ _ _ _⟩
  have := hlo g hg
  omega
set_option maxHeartbeats 4000000 in
theorem does_minus {w : World} (n1 n2 : Bool) (x1 y1 x2 y2 : Nat) {ja ka : Option Addr} {jn jc kn kc : Nat} {xs ys : List Int} (h1 : IsB w ja jn jc xs) (h2 : IsB w ka kn kc ys) (r1 : rightN false n1 xs x1 y1 = true) (r2 : rightN false n2 ys x2 y2 = true) : Calls Try.prog 9 #[.int .i64 1, .agg #[.bool false, .bool n1, .slice ja jn jc, .complex .f64 x1 y1], .agg #[.bool false, .bool n2, .slice ka kn kc, .complex .f64 x2 y2]] w fun e w' => ∃ a n c, e = .returned (.tuple #[.agg #[.bool false, .bool (addB n1 xs n2 (!n2) ys), .slice a n c, .complex .f64 0 0], .bool false, .int .i64 (addE n1 xs n2 (!n2) ys)]) ∧ OwnB w' w.heap.size (.slice a n c) (addM n1 xs n2 (!n2) ys) ∧ Below w.heap.size w w' := by
  obtain ⟨sb, hsb⟩ : ∃ q, Hid (addB n1 xs n2 (!n2) ys = q) := ⟨_, rfl⟩
  obtain ⟨se, hse⟩ : ∃ q, Hid (addE n1 xs n2 (!n2) ys = q) := ⟨_, rfl⟩
  obtain ⟨sm, hsm⟩ : ∃ q, Hid (addM n1 xs n2 (!n2) ys = q) := ⟨_, rfl⟩
  rw [hsb.out, hse.out, hsm.out]
  have E1 := oldF (oldF (newF w (numP false n1 (.slice ja jn jc) x1 y1)) (numP false n2 (.slice ka kn kc) x2 y2)) (numP false false (.slice none 0 0) 0 0)
  have E2 := oldF (newF (w.alloc (numP false n1 (.slice ja jn jc) x1 y1)) (numP false n2 (.slice ka kn kc) x2 y2)) (numP false false (.slice none 0 0) 0 0)
  have E3 := newF ((w.alloc (numP false n1 (.slice ja jn jc) x1 y1)).alloc (numP false n2 (.slice ka kn kc) x2 y2)) (numP false false (.slice none 0 0) 0 0)
  have B3 : Below w.heap.size w (((w.alloc (numP false n1 (.slice ja jn jc) x1 y1)).alloc (numP false n2 (.slice ka kn kc) x2 y2)).alloc (numP false false (.slice none 0 0) 0 0)) := below_sizeF (below_sizeF box_belowF (Nat.le_refl _) box_belowF) (Nat.le_refl _) box_belowF
  rw [size1] at E2
  rw [size1, size1] at E3
  have I1 := h1.below B3
  have I2 := h2.below B3
  unfold numP at E1 E2 E3 B3 I1 I2
  have hsc := stC_run
  go_enter Try.func9, Try.ntmps9
  go_wp2_with fail
  generalize ((w.alloc (.cells #[.bool false, .bool n1, .slice ja jn jc, .complex .f64 x1 y1] 31)).alloc (.cells #[.bool false, .bool n2, .slice ka kn kc, .complex .f64 x2 y2] 31)).alloc (.cells #[.bool false, .bool false, .slice none 0 0, .complex .f64 0 0] 31) = w1 at *
  replace E1 : w1.heap[w.heap.size]? = some (numP false n1 (.slice ja jn jc) x1 y1) := E1
  replace E2 : w1.heap[w.heap.size + 1]? = some (numP false n2 (.slice ka kn kc) x2 y2) := E2
  replace E3 : w1.heap[w.heap.size + 1 + 1]? = some (numP false false (.slice none 0 0) 0 0) := E3
  have hr5 : w.heap.size ≤ w.heap.size + 1 + 1 := by omega
  generalize w.heap.size + 1 + 1 = b3 at *
  generalize w.heap.size + 1 = b2 at *
  refine (rightN_any false n1 x1 y1 I1).mono ?_
  rintro e w2 ⟨rfl, B2⟩
  rw [r1]
  replace E1 := (B2.block _ (lt_of_blockF E1)).trans E1
  replace E2 := (B2.block _ (lt_of_blockF E2)).trans E2
  replace E3 := (B2.block _ (lt_of_blockF E3)).trans E3
  replace I1 := I1.below B2
  replace I2 := I2.below B2
  replace B3 := below_sizeF B3 (Nat.le_refl _) B2
  clear B2
  obtain ⟨v0, v1, v2, v3, vf⟩ := numP_cells E2
  go_wp2_with fail
  refine (rightN_any false n2 x2 y2 I2).mono ?_
  rintro e w3 ⟨rfl, B2⟩
  rw [r2]
  replace E1 := (B2.block _ (lt_of_blockF E1)).trans E1
  replace E2 := (B2.block _ (lt_of_blockF E2)).trans E2
  replace E3 := (B2.block _ (lt_of_blockF E3)).trans E3
  replace I1 := I1.below B2
  replace I2 := I2.below B2
  replace B3 := below_sizeF B3 (Nat.le_refl _) B2
  clear B2 v0 v1 v2 v3 vf
  obtain ⟨u0, u1, u2, u3, uf⟩ := numP_cells E1
  obtain ⟨v0, v1, v2, v3, vf⟩ := numP_cells E2
  go_wp2_with fail
  refine (whole_sub n1 n2 I1 I2).mono ?_
  rintro e w4 ⟨va, vn, vc, rfl, O4, B2⟩
  rw [hsb.out, hse.out]
  rw [hsm.out] at O4
  have hlo := own_ltN O4
  have hb3 := lt_of_blockF E3
  have hw3 : w.heap.size ≤ w3.heap.size := B3.size
  replace E3 := oldF ((B2.block _ hb3).trans E3) (numP false sb (.slice va vn vc) 0 0)
  replace B3 := below_sizeF (below_sizeF B3 (Nat.le_refl _) B2) (Nat.le_refl _) (box_belowF (o := numP false sb (.slice va vn vc) 0 0))
  replace O4 := O4.below (box_belowF (o := numP false sb (.slice va vn vc) 0 0))
  clear B2 u0 u1 u2 u3 uf v0 v1 v2 v3 vf E1 E2
  unfold numP at E3 B3 O4
  obtain ⟨z0, z1, z2, z3, zf⟩ := numP_cells (p := false) (m := false) (v := .slice none 0 0) (x := 0) (y := 0) E3
  have E9 := stP_blk (p0 := false) (m0 := false) (v0 := .slice none 0 0) (x0 := 0) (y0 := 0) E3 false sb (.slice va vn vc) 0 0
  go_wp2
  refine bodyPost_ret (v := .tuple #[.agg #[.bool false, .bool sb, .slice va vn vc, .complex .f64 0 0], .bool false, .int .i64 se]) (results_threeN Try.results9 rfl (load31 E9) rfl rfl) rfl ⟨va, vn, vc, rfl, OwnB.monoN (O4.keepN fun g hg => stP_other ?_ _ _ _ _ _) hw3, stP_below B3 hr5 _ _ _ _ _⟩
  have := hlo g hg
  omega
end Go.Proofs.Ytkpngpongbpfgaa
