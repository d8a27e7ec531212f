/- Do: sums and products of any two. -/
import Derived.Test.YtkpngpongbpfgaaDoC
namespace Go.Proofs.Ytkpngpongbpfgaa
open Go.RowKit
set_option maxRecDepth 100000
set_option maxHeartbeats 4000000 in
theorem does_no {w : World} (op : Int) (p1 n1 p2 n2 : Bool) (x1 y1 x2 y2 : Nat) {ja ka : Option Addr} {jn jc kn kc : Nat} {xs ys : List Int} (h1 : IsB w ja jn jc xs) (h2 : IsB w ka kn kc ys) (hr : (rightN p1 n1 xs x1 y1 && rightN p2 n2 ys x2 y2) = false) : Calls Try.prog 9 #[.int .i64 op, .agg #[.bool p1, .bool n1, .slice ja jn jc, .complex .f64 x1 y1], .agg #[.bool p2, .bool n2, .slice ka kn kc, .complex .f64 x2 y2]] w fun e w' => e = .returned (.tuple #[.agg #[.bool false, .bool false, .slice none 0 0, .complex .f64 0 0], .bool false, .int .i64 1]) ∧ Below w.heap.size w w' := by
  have E1 := oldF (oldF (newF w (numP p1 n1 (.slice ja jn jc) x1 y1)) (numP p2 n2 (.slice ka kn kc) x2 y2)) (numP false false (.slice none 0 0) 0 0)
  have E2 := oldF (newF (w.alloc (numP p1 n1 (.slice ja jn jc) x1 y1)) (numP p2 n2 (.slice ka kn kc) x2 y2)) (numP false false (.slice none 0 0) 0 0)
  have E3 := newF ((w.alloc (numP p1 n1 (.slice ja jn jc) x1 y1)).alloc (numP p2 n2 (.slice ka kn kc) x2 y2)) (numP false false (.slice none 0 0) 0 0)
  have B3 : Below w.heap.size w (((w.alloc (numP p1 n1 (.slice ja jn jc) x1 y1)).alloc (numP p2 n2 (.slice ka kn kc) x2 y2)).alloc (numP false false (.slice none 0 0) 0 0)) := below_sizeF (below_sizeF box_belowF (Nat.le_refl _) box_belowF) (Nat.le_refl _) box_belowF
  rw [size1] at E2
  rw [size1, size1] at E3
  have I1 := h1.below B3
  have I2 := h2.below B3
  unfold numP at E1 E2 E3 B3 I1 I2
  have hsc := stC_run
  go_enter Try.func9, Try.ntmps9
  go_wp2_with fail
  generalize ((w.alloc (.cells #[.bool p1, .bool n1, .slice ja jn jc, .complex .f64 x1 y1] 31)).alloc (.cells #[.bool p2, .bool n2, .slice ka kn kc, .complex .f64 x2 y2] 31)).alloc (.cells #[.bool false, .bool false, .slice none 0 0, .complex .f64 0 0] 31) = w1 at *
  replace E1 : w1.heap[w.heap.size]? = some (numP p1 n1 (.slice ja jn jc) x1 y1) := E1
  replace E2 : w1.heap[w.heap.size + 1]? = some (numP p2 n2 (.slice ka kn kc) x2 y2) := E2
  replace E3 : w1.heap[w.heap.size + 1 + 1]? = some (numP false false (.slice none 0 0) 0 0) := E3
  have hr5 : w.heap.size ≤ w.heap.size + 1 + 1 := by omega
  generalize w.heap.size + 1 + 1 = b3 at *
  generalize w.heap.size + 1 = b2 at *
  refine (rightN_any p1 n1 x1 y1 I1).mono ?_
  rintro e w2 ⟨rfl, B2⟩
  replace E1 := (B2.block _ (lt_of_blockF E1)).trans E1
  replace E2 := (B2.block _ (lt_of_blockF E2)).trans E2
  replace E3 := (B2.block _ (lt_of_blockF E3)).trans E3
  replace I1 := I1.below B2
  replace I2 := I2.below B2
  replace B3 := below_sizeF B3 (Nat.le_refl _) B2
  clear B2
  cases r1 : rightN p1 n1 xs x1 y1 with
  | false =>
    clear hr r1
    obtain ⟨z0, z1, z2, z3, zf⟩ := numP_cells E3
    go_wp2
    clear z0 z1 z2 z3 zf
    have E9 := stP_blk (p0 := false) (m0 := false) (v0 := .slice none 0 0) (x0 := 0) (y0 := 0) E3 false false (.slice none 0 0) (0) (0)
    exact bodyPost_ret (v := .tuple #[.agg #[.bool false, .bool false, .slice none 0 0, .complex .f64 (0) (0)], .bool false, .int .i64 1]) (results_threeN Try.results9 rfl (load31 E9) rfl rfl) rfl ⟨rfl, stP_below B3 hr5 _ _ _ _ _⟩
  | true =>
    rw [r1, Bool.true_and] at hr
    clear r1
    obtain ⟨v0, v1, v2, v3, vf⟩ := numP_cells E2
    go_wp2_with fail
    clear v0 v1 v2 v3 vf
    refine (rightN_any p2 n2 x2 y2 I2).mono ?_
    rintro e w3 ⟨rfl, B2⟩
    rw [hr]
    clear hr
    replace E3 := (B2.block _ (lt_of_blockF E3)).trans E3
    replace B3 := below_sizeF B3 (Nat.le_refl _) B2
    obtain ⟨z0, z1, z2, z3, zf⟩ := numP_cells E3
    go_wp2
    clear z0 z1 z2 z3 zf
    have E9 := stP_blk (p0 := false) (m0 := false) (v0 := .slice none 0 0) (x0 := 0) (y0 := 0) E3 false false (.slice none 0 0) (0) (0)
    exact bodyPost_ret (v := .tuple #[.agg #[.bool false, .bool false, .slice none 0 0, .complex .f64 (0) (0)], .bool false, .int .i64 1]) (results_threeN Try.results9 rfl (load31 E9) rfl rfl) rfl ⟨rfl, stP_below B3 hr5 _ _ _ _ _⟩
set_option maxHeartbeats 4000000 in
theorem does_timesC {w : World} (p1 n1 p2 n2 : Bool) (x1 y1 x2 y2 : Nat) {ja ka : Option Addr} {jn jc kn kc : Nat} {xs ys : List Int} (h1 : IsB w ja jn jc xs) (h2 : IsB w ka kn kc ys) (r1 : rightN p1 n1 xs x1 y1 = true) (r2 : rightN p2 n2 ys x2 y2 = true) (hp : (!p1 && !p2) = false) : Calls Try.prog 9 #[.int .i64 2, .agg #[.bool p1, .bool n1, .slice ja jn jc, .complex .f64 x1 y1], .agg #[.bool p2, .bool n2, .slice ka kn kc, .complex .f64 x2 y2]] w fun e w' => ∃ q r i se, e = .returned (.tuple #[.agg #[.bool q, .bool false, .slice none 0 0, .complex .f64 r i], .bool false, .int .i64 se]) ∧ ResC TimesR (acE p1 n1 xs) (acE p2 n2 ys) (acX p1 n1 xs x1) (acY p1 y1) (acX p2 n2 ys x2) (acY p2 y2) q r i se ∧ Below w.heap.size w w' := by
  have E1 := oldF (oldF (newF w (numP p1 n1 (.slice ja jn jc) x1 y1)) (numP p2 n2 (.slice ka kn kc) x2 y2)) (numP false false (.slice none 0 0) 0 0)
  have E2 := oldF (newF (w.alloc (numP p1 n1 (.slice ja jn jc) x1 y1)) (numP p2 n2 (.slice ka kn kc) x2 y2)) (numP false false (.slice none 0 0) 0 0)
  have E3 := newF ((w.alloc (numP p1 n1 (.slice ja jn jc) x1 y1)).alloc (numP p2 n2 (.slice ka kn kc) x2 y2)) (numP false false (.slice none 0 0) 0 0)
  have B3 : Below w.heap.size w (((w.alloc (numP p1 n1 (.slice ja jn jc) x1 y1)).alloc (numP p2 n2 (.slice ka kn kc) x2 y2)).alloc (numP false false (.slice none 0 0) 0 0)) := below_sizeF (below_sizeF box_belowF (Nat.le_refl _) box_belowF) (Nat.le_refl _) box_belowF
  rw [size1] at E2
  rw [size1, size1] at E3
  have I1 := h1.below B3
  have I2 := h2.below B3
  unfold numP at E1 E2 E3 B3 I1 I2
  have hsc := stC_run
  go_enter Try.func9, Try.ntmps9
  go_wp2_with fail
  generalize ((w.alloc (.cells #[.bool p1, .bool n1, .slice ja jn jc, .complex .f64 x1 y1] 31)).alloc (.cells #[.bool p2, .bool n2, .slice ka kn kc, .complex .f64 x2 y2] 31)).alloc (.cells #[.bool false, .bool false, .slice none 0 0, .complex .f64 0 0] 31) = w1 at *
  replace E1 : w1.heap[w.heap.size]? = some (numP p1 n1 (.slice ja jn jc) x1 y1) := E1
  replace E2 : w1.heap[w.heap.size + 1]? = some (numP p2 n2 (.slice ka kn kc) x2 y2) := E2
  replace E3 : w1.heap[w.heap.size + 1 + 1]? = some (numP false false (.slice none 0 0) 0 0) := E3
  have hr5 : w.heap.size ≤ w.heap.size + 1 + 1 := by omega
  generalize w.heap.size + 1 + 1 = b3 at *
  generalize w.heap.size + 1 = b2 at *
  refine (rightN_any p1 n1 x1 y1 I1).mono ?_
  rintro e w2 ⟨rfl, B2⟩
  rw [r1]
  replace E1 := (B2.block _ (lt_of_blockF E1)).trans E1
  replace E2 := (B2.block _ (lt_of_blockF E2)).trans E2
  replace E3 := (B2.block _ (lt_of_blockF E3)).trans E3
  replace I1 := I1.below B2
  replace I2 := I2.below B2
  replace B3 := below_sizeF B3 (Nat.le_refl _) B2
  clear B2
  obtain ⟨v0, v1, v2, v3, vf⟩ := numP_cells E2
  go_wp2_with fail
  clear v0 v1 v2 v3 vf
  refine (rightN_any p2 n2 x2 y2 I2).mono ?_
  rintro e w3 ⟨rfl, B2⟩
  rw [r2]
  replace E1 := (B2.block _ (lt_of_blockF E1)).trans E1
  replace E2 := (B2.block _ (lt_of_blockF E2)).trans E2
  replace E3 := (B2.block _ (lt_of_blockF E3)).trans E3
  replace I1 := I1.below B2
  replace I2 := I2.below B2
  replace B3 := below_sizeF B3 (Nat.le_refl _) B2
  clear B2
  clear r1 r2
  have hdo := doC_times p1 n1 p2 n2 x1 y1 x2 y2 I1 I2
  clear I1 I2 h1 h2
  obtain ⟨u0, u1, u2, u3, uf⟩ := numP_cells E1
  obtain ⟨v0, v1, v2, v3, vf⟩ := numP_cells E2
  cases p1 <;> cases p2
  · cases hp
  · go_wp2_with fail
    refine hdo.mono ?_
    rintro e w4 ⟨q, r, i, se, rfl, HR, B2⟩
    replace E3 := oldF ((B2.block _ (lt_of_blockF E3)).trans E3) (numP q false (.slice none 0 0) r i)
    replace B3 := below_sizeF (below_sizeF B3 (Nat.le_refl _) B2) (Nat.le_refl _) (box_belowF (o := numP q false (.slice none 0 0) r i))
    clear B2 u0 u1 u2 u3 uf v0 v1 v2 v3 vf E1 E2 hdo
    unfold numP at E3 B3
    obtain ⟨z0, z1, z2, z3, zf⟩ := numP_cells (p := false) (m := false) (v := .slice none 0 0) (x := 0) (y := 0) E3
    go_wp2
    clear z0 z1 z2 z3 zf
    have E9 := stP_blk (p0 := false) (m0 := false) (v0 := .slice none 0 0) (x0 := 0) (y0 := 0) E3 q false (.slice none 0 0) (r) (i)
    exact bodyPost_ret (v := .tuple #[.agg #[.bool q, .bool false, .slice none 0 0, .complex .f64 (r) (i)], .bool false, .int .i64 se]) (results_threeN Try.results9 rfl (load31 E9) rfl rfl) rfl ⟨_, _, _, _, rfl, HR, stP_below B3 hr5 _ _ _ _ _⟩
  · go_wp2_with fail
    refine hdo.mono ?_
    rintro e w4 ⟨q, r, i, se, rfl, HR, B2⟩
    replace E3 := oldF ((B2.block _ (lt_of_blockF E3)).trans E3) (numP q false (.slice none 0 0) r i)
    replace B3 := below_sizeF (below_sizeF B3 (Nat.le_refl _) B2) (Nat.le_refl _) (box_belowF (o := numP q false (.slice none 0 0) r i))
    clear B2 u0 u1 u2 u3 uf v0 v1 v2 v3 vf E1 E2 hdo
    unfold numP at E3 B3
    obtain ⟨z0, z1, z2, z3, zf⟩ := numP_cells (p := false) (m := false) (v := .slice none 0 0) (x := 0) (y := 0) E3
    go_wp2
    clear z0 z1 z2 z3 zf
    have E9 := stP_blk (p0 := false) (m0 := false) (v0 := .slice none 0 0) (x0 := 0) (y0 := 0) E3 q false (.slice none 0 0) (r) (i)
    exact bodyPost_ret (v := .tuple #[.agg #[.bool q, .bool false, .slice none 0 0, .complex .f64 (r) (i)], .bool false, .int .i64 se]) (results_threeN Try.results9 rfl (load31 E9) rfl rfl) rfl ⟨_, _, _, _, rfl, HR, stP_below B3 hr5 _ _ _ _ _⟩
  · go_wp2_with fail
    refine hdo.mono ?_
    rintro e w4 ⟨q, r, i, se, rfl, HR, B2⟩
    replace E3 := oldF ((B2.block _ (lt_of_blockF E3)).trans E3) (numP q false (.slice none 0 0) r i)
    replace B3 := below_sizeF (below_sizeF B3 (Nat.le_refl _) B2) (Nat.le_refl _) (box_belowF (o := numP q false (.slice none 0 0) r i))
    clear B2 u0 u1 u2 u3 uf v0 v1 v2 v3 vf E1 E2 hdo
    unfold numP at E3 B3
    obtain ⟨z0, z1, z2, z3, zf⟩ := numP_cells (p := false) (m := false) (v := .slice none 0 0) (x := 0) (y := 0) E3
    go_wp2
    clear z0 z1 z2 z3 zf
    have E9 := stP_blk (p0 := false) (m0 := false) (v0 := .slice none 0 0) (x0 := 0) (y0 := 0) E3 q false (.slice none 0 0) (r) (i)
    exact bodyPost_ret (v := .tuple #[.agg #[.bool q, .bool false, .slice none 0 0, .complex .f64 (r) (i)], .bool false, .int .i64 se]) (results_threeN Try.results9 rfl (load31 E9) rfl rfl) rfl ⟨_, _, _, _, rfl, HR, stP_below B3 hr5 _ _ _ _ _⟩
set_option maxHeartbeats 4000000 in
theorem does_plusC {w : World} (p1 n1 p2 n2 : Bool) (x1 y1 x2 y2 : Nat) {ja ka : Option Addr} {jn jc kn kc : Nat} {xs ys : List Int} (h1 : IsB w ja jn jc xs) (h2 : IsB w ka kn kc ys) (r1 : rightN p1 n1 xs x1 y1 = true) (r2 : rightN p2 n2 ys x2 y2 = true) (hp : (!p1 && !p2) = false) : Calls Try.prog 9 #[.int .i64 0, .agg #[.bool p1, .bool n1, .slice ja jn jc, .complex .f64 x1 y1], .agg #[.bool p2, .bool n2, .slice ka kn kc, .complex .f64 x2 y2]] w fun e w' => ∃ q r i se, e = .returned (.tuple #[.agg #[.bool q, .bool false, .slice none 0 0, .complex .f64 r i], .bool false, .int .i64 se]) ∧ ResC (SumR .add) (acE p1 n1 xs) (acE p2 n2 ys) (acX p1 n1 xs x1) (acY p1 y1) (acX p2 n2 ys x2) (acY p2 y2) q r i se ∧ Below w.heap.size w w' := by
  have E1 := oldF (oldF (newF w (numP p1 n1 (.slice ja jn jc) x1 y1)) (numP p2 n2 (.slice ka kn kc) x2 y2)) (numP false false (.slice none 0 0) 0 0)
  have E2 := oldF (newF (w.alloc (numP p1 n1 (.slice ja jn jc) x1 y1)) (numP p2 n2 (.slice ka kn kc) x2 y2)) (numP false false (.slice none 0 0) 0 0)
  have E3 := newF ((w.alloc (numP p1 n1 (.slice ja jn jc) x1 y1)).alloc (numP p2 n2 (.slice ka kn kc) x2 y2)) (numP false false (.slice none 0 0) 0 0)
  have B3 : Below w.heap.size w (((w.alloc (numP p1 n1 (.slice ja jn jc) x1 y1)).alloc (numP p2 n2 (.slice ka kn kc) x2 y2)).alloc (numP false false (.slice none 0 0) 0 0)) := below_sizeF (below_sizeF box_belowF (Nat.le_refl _) box_belowF) (Nat.le_refl _) box_belowF
  rw [size1] at E2
  rw [size1, size1] at E3
  have I1 := h1.below B3
  have I2 := h2.below B3
  unfold numP at E1 E2 E3 B3 I1 I2
  have hsc := stC_run
  go_enter Try.func9, Try.ntmps9
  go_wp2_with fail
  generalize ((w.alloc (.cells #[.bool p1, .bool n1, .slice ja jn jc, .complex .f64 x1 y1] 31)).alloc (.cells #[.bool p2, .bool n2, .slice ka kn kc, .complex .f64 x2 y2] 31)).alloc (.cells #[.bool false, .bool false, .slice none 0 0, .complex .f64 0 0] 31) = w1 at *
  replace E1 : w1.heap[w.heap.size]? = some (numP p1 n1 (.slice ja jn jc) x1 y1) := E1
  replace E2 : w1.heap[w.heap.size + 1]? = some (numP p2 n2 (.slice ka kn kc) x2 y2) := E2
  replace E3 : w1.heap[w.heap.size + 1 + 1]? = some (numP false false (.slice none 0 0) 0 0) := E3
  have hr5 : w.heap.size ≤ w.heap.size + 1 + 1 := by omega
  generalize w.heap.size + 1 + 1 = b3 at *
  generalize w.heap.size + 1 = b2 at *
  refine (rightN_any p1 n1 x1 y1 I1).mono ?_
  rintro e w2 ⟨rfl, B2⟩
  rw [r1]
  replace E1 := (B2.block _ (lt_of_blockF E1)).trans E1
  replace E2 := (B2.block _ (lt_of_blockF E2)).trans E2
  replace E3 := (B2.block _ (lt_of_blockF E3)).trans E3
  replace I1 := I1.below B2
  replace I2 := I2.below B2
  replace B3 := below_sizeF B3 (Nat.le_refl _) B2
  clear B2
  obtain ⟨v0, v1, v2, v3, vf⟩ := numP_cells E2
  go_wp2_with fail
  clear v0 v1 v2 v3 vf
  refine (rightN_any p2 n2 x2 y2 I2).mono ?_
  rintro e w3 ⟨rfl, B2⟩
  rw [r2]
  replace E1 := (B2.block _ (lt_of_blockF E1)).trans E1
  replace E2 := (B2.block _ (lt_of_blockF E2)).trans E2
  replace E3 := (B2.block _ (lt_of_blockF E3)).trans E3
  replace I1 := I1.below B2
  replace I2 := I2.below B2
  replace B3 := below_sizeF B3 (Nat.le_refl _) B2
  clear B2
  clear r1 r2
  have hdo := doC_plus p1 n1 p2 n2 x1 y1 x2 y2 I1 I2
  clear I1 I2 h1 h2
  obtain ⟨u0, u1, u2, u3, uf⟩ := numP_cells E1
  obtain ⟨v0, v1, v2, v3, vf⟩ := numP_cells E2
  cases p1 <;> cases p2
  · cases hp
  · go_wp2_with fail
    refine hdo.mono ?_
    rintro e w4 ⟨q, r, i, se, rfl, HR, B2⟩
    replace E3 := oldF ((B2.block _ (lt_of_blockF E3)).trans E3) (numP q false (.slice none 0 0) r i)
    replace B3 := below_sizeF (below_sizeF B3 (Nat.le_refl _) B2) (Nat.le_refl _) (box_belowF (o := numP q false (.slice none 0 0) r i))
    clear B2 u0 u1 u2 u3 uf v0 v1 v2 v3 vf E1 E2 hdo
    unfold numP at E3 B3
    obtain ⟨z0, z1, z2, z3, zf⟩ := numP_cells (p := false) (m := false) (v := .slice none 0 0) (x := 0) (y := 0) E3
    go_wp2
    clear z0 z1 z2 z3 zf
    have E9 := stP_blk (p0 := false) (m0 := false) (v0 := .slice none 0 0) (x0 := 0) (y0 := 0) E3 q false (.slice none 0 0) (r) (i)
    exact bodyPost_ret (v := .tuple #[.agg #[.bool q, .bool false, .slice none 0 0, .complex .f64 (r) (i)], .bool false, .int .i64 se]) (results_threeN Try.results9 rfl (load31 E9) rfl rfl) rfl ⟨_, _, _, _, rfl, HR, stP_below B3 hr5 _ _ _ _ _⟩
  · go_wp2_with fail
    refine hdo.mono ?_
    rintro e w4 ⟨q, r, i, se, rfl, HR, B2⟩
    replace E3 := oldF ((B2.block _ (lt_of_blockF E3)).trans E3) (numP q false (.slice none 0 0) r i)
    replace B3 := below_sizeF (below_sizeF B3 (Nat.le_refl _) B2) (Nat.le_refl _) (box_belowF (o := numP q false (.slice none 0 0) r i))
    clear B2 u0 u1 u2 u3 uf v0 v1 v2 v3 vf E1 E2 hdo
    unfold numP at E3 B3
    obtain ⟨z0, z1, z2, z3, zf⟩ := numP_cells (p := false) (m := false) (v := .slice none 0 0) (x := 0) (y := 0) E3
    go_wp2
    clear z0 z1 z2 z3 zf
    have E9 := stP_blk (p0 := false) (m0 := false) (v0 := .slice none 0 0) (x0 := 0) (y0 := 0) E3 q false (.slice none 0 0) (r) (i)
    exact bodyPost_ret (v := .tuple #[.agg #[.bool q, .bool false, .slice none 0 0, .complex .f64 (r) (i)], .bool false, .int .i64 se]) (results_threeN Try.results9 rfl (load31 E9) rfl rfl) rfl ⟨_, _, _, _, rfl, HR, stP_below B3 hr5 _ _ _ _ _⟩
  · go_wp2_with fail
    refine hdo.mono ?_
    rintro e w4 ⟨q, r, i, se, rfl, HR, B2⟩
    replace E3 := oldF ((B2.block _ (lt_of_blockF E3)).trans E3) (numP q false (.slice none 0 0) r i)
    replace B3 := below_sizeF (below_sizeF B3 (Nat.le_refl _) B2) (Nat.le_refl _) (box_belowF (o := numP q false (.slice none 0 0) r i))
    clear B2 u0 u1 u2 u3 uf v0 v1 v2 v3 vf E1 E2 hdo
    unfold numP at E3 B3
    obtain ⟨z0, z1, z2, z3, zf⟩ := numP_cells (p := false) (m := false) (v := .slice none 0 0) (x := 0) (y := 0) E3
    go_wp2
    clear z0 z1 z2 z3 zf
    have E9 := stP_blk (p0 := false) (m0 := false) (v0 := .slice none 0 0) (x0 := 0) (y0 := 0) E3 q false (.slice none 0 0) (r) (i)
    exact bodyPost_ret (v := .tuple #[.agg #[.bool q, .bool false, .slice none 0 0, .complex .f64 (r) (i)], .bool false, .int .i64 se]) (results_threeN Try.results9 rfl (load31 E9) rfl rfl) rfl ⟨_, _, _, _, rfl, HR, stP_below B3 hr5 _ _ _ _ _⟩
end Go.Proofs.Ytkpngpongbpfgaa
