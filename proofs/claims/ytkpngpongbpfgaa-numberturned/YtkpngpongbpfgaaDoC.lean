/- Do: sums and products where one at least is complex. -/
import Derived.Test.YtkpngpongbpfgaaCsm
import Derived.Test.YtkpngpongbpfgaaDoP
namespace Go.Proofs.Ytkpngpongbpfgaa
open Go.RowKit
set_option maxRecDepth 100000
theorem acE_two (p neg : Bool) (xs : List Int) : acE p neg xs = 0 ∨ acE p neg xs = 24 := by
  unfold acE
  split
  · exact .inl rfl
  · split
    · exact .inl rfl
    · exact .inr rfl
/-- What comes of two where one at least is complex. -/
def ResC (R : Nat → Nat → Nat → Nat → Nat → Nat → Prop) (e1 e2 : Int) (a b c d : Nat) (q : Bool) (r i : Nat) (e : Int) : Prop :=
  (e1 = 0 ∧ e2 = 0 ∧ q = true ∧ e = 0 ∧ R a b c d r i) ∨ ((e1 ≠ 0 ∨ e2 ≠ 0) ∧ q = false ∧ e = 24 ∧ r = 0 ∧ i = 0)
set_option maxHeartbeats 4000000 in
theorem doC_times {w : World} (p1 n1 p2 n2 : Bool) (x1 y1 x2 y2 : Nat) {ja ka : Option Addr} {jn jc kn kc : Nat} {xs ys : List Int} (h1 : IsB w ja jn jc xs) (h2 : IsB w ka kn kc ys) : Calls Try.prog 25 #[.int .i64 2, .agg #[.bool p1, .bool n1, .slice ja jn jc, .complex .f64 x1 y1], .agg #[.bool p2, .bool n2, .slice ka kn kc, .complex .f64 x2 y2]] w fun e w' => ∃ q r i se, e = .returned (.tuple #[.agg #[.bool q, .bool false, .slice none 0 0, .complex .f64 r i], .int .i64 se]) ∧ ResC TimesR (acE p1 n1 xs) (acE p2 n2 ys) (acX p1 n1 xs x1) (acY p1 y1) (acX p2 n2 ys x2) (acY p2 y2) q r i se ∧ Below w.heap.size w w' := by
  obtain ⟨ex, hex⟩ : ∃ q, Hid (acE p1 n1 xs = q) := ⟨_, rfl⟩
  obtain ⟨ey, hey⟩ : ∃ q, Hid (acE p2 n2 ys = q) := ⟨_, rfl⟩
  obtain ⟨a, ha⟩ : ∃ q, Hid (acX p1 n1 xs x1 = q) := ⟨_, rfl⟩
  obtain ⟨b, hb⟩ : ∃ q, Hid (acY p1 y1 = q) := ⟨_, rfl⟩
  obtain ⟨c, hc⟩ : ∃ q, Hid (acX p2 n2 ys x2 = q) := ⟨_, rfl⟩
  obtain ⟨d, hd⟩ : ∃ q, Hid (acY p2 y2 = q) := ⟨_, rfl⟩
  have hx2 := acE_two p1 n1 xs
  have hy2 := acE_two p2 n2 ys
  rw [hex.out] at hx2
  rw [hey.out] at hy2
  rw [hex.out, hey.out, ha.out, hb.out, hc.out, hd.out]
  have E1 := oldF (oldF (newF w (numP p1 n1 (.slice ja jn jc) x1 y1)) (numP p2 n2 (.slice ka kn kc) x2 y2)) (numP false false (.slice none 0 0) 0 0)
  have E2 := oldF (newF (w.alloc (numP p1 n1 (.slice ja jn jc) x1 y1)) (numP p2 n2 (.slice ka kn kc) x2 y2)) (numP false false (.slice none 0 0) 0 0)
  have E3 := newF ((w.alloc (numP p1 n1 (.slice ja jn jc) x1 y1)).alloc (numP p2 n2 (.slice ka kn kc) x2 y2)) (numP false false (.slice none 0 0) 0 0)
  have B3 : Below w.heap.size w (((w.alloc (numP p1 n1 (.slice ja jn jc) x1 y1)).alloc (numP p2 n2 (.slice ka kn kc) x2 y2)).alloc (numP false false (.slice none 0 0) 0 0)) := below_sizeF (below_sizeF box_belowF (Nat.le_refl _) box_belowF) (Nat.le_refl _) box_belowF
  rw [size1] at E2
  rw [size1, size1] at E3
  have I1 := h1.below B3
  have I2 := h2.below B3
  unfold numP at E1 E2 E3 B3 I1 I2
  have hsc := stC_run
  go_enter Try.func25, Try.ntmps25
  go_wp2_with fail
  generalize ((w.alloc (.cells #[.bool p1, .bool n1, .slice ja jn jc, .complex .f64 x1 y1] 31)).alloc (.cells #[.bool p2, .bool n2, .slice ka kn kc, .complex .f64 x2 y2] 31)).alloc (.cells #[.bool false, .bool false, .slice none 0 0, .complex .f64 0 0] 31) = w1 at *
  replace E1 : w1.heap[w.heap.size]? = some (numP p1 n1 (.slice ja jn jc) x1 y1) := E1
  replace E2 : w1.heap[w.heap.size + 1]? = some (numP p2 n2 (.slice ka kn kc) x2 y2) := E2
  replace E3 : w1.heap[w.heap.size + 1 + 1]? = some (numP false false (.slice none 0 0) 0 0) := E3
  have hr5 : w.heap.size ≤ w.heap.size + 1 + 1 := by omega
  generalize w.heap.size + 1 + 1 = b3 at *
  generalize w.heap.size + 1 = b2 at *
  refine (asAny p1 n1 x1 y1 I1).mono ?_
  rintro e w2 ⟨rfl, B2⟩
  rw [hex.out, ha.out, hb.out]
  replace E2 := (B2.block _ (lt_of_blockF E2)).trans E2
  replace E3 := (B2.block _ (lt_of_blockF E3)).trans E3
  replace I2 := I2.below B2
  replace B3 := below_sizeF B3 (Nat.le_refl _) B2
  clear B2
  clear E1 I1
  rcases hx2 with rfl | rfl
  case inr =>
    obtain ⟨z0, z1, z2, z3, zf⟩ := numP_cells E3
    go_wp2
    clear z0 z1 z2 z3 zf
    have E9 := stP_blk E3 false false (.slice none 0 0) (0) (0)
    exact bodyPost_ret (v := .tuple #[.agg #[.bool false, .bool false, .slice none 0 0, .complex .f64 (0) (0)], .int .i64 24]) (results_twoN Try.results25 rfl (load31 E9) rfl) rfl ⟨_, _, _, _, rfl, .inr ⟨.inl (by decide), rfl, rfl, rfl, rfl⟩, stP_below B3 hr5 _ _ _ _ _⟩
  obtain ⟨v0, v1, v2, v3, vf⟩ := numP_cells E2
  go_wp2_with fail
  clear v0 v1 v2 v3 vf
  refine (asAny p2 n2 x2 y2 I2).mono ?_
  rintro e w3 ⟨rfl, B2⟩
  rw [hey.out, hc.out, hd.out]
  replace E3 := (B2.block _ (lt_of_blockF E3)).trans E3
  replace B3 := below_sizeF B3 (Nat.le_refl _) B2
  clear B2
  clear E2 I2
  rcases hy2 with rfl | rfl
  case inr =>
    obtain ⟨z0, z1, z2, z3, zf⟩ := numP_cells E3
    go_wp2
    clear z0 z1 z2 z3 zf
    have E9 := stP_blk E3 false false (.slice none 0 0) (0) (0)
    exact bodyPost_ret (v := .tuple #[.agg #[.bool false, .bool false, .slice none 0 0, .complex .f64 (0) (0)], .int .i64 24]) (results_twoN Try.results25 rfl (load31 E9) rfl) rfl ⟨_, _, _, _, rfl, .inr ⟨.inr (by decide), rfl, rfl, rfl, rfl⟩, stP_below B3 hr5 _ _ _ _ _⟩
  go_wp2_with fail
  refine (times_gen a b c d w3).mono ?_
  rintro e w4 ⟨r, i, rfl, HR, B2⟩
  replace E3 := (B2.block _ (lt_of_blockF E3)).trans E3
  replace B3 := below_sizeF B3 (Nat.le_refl _) B2
  clear B2
  obtain ⟨z0, z1, z2, z3, zf⟩ := numP_cells E3
  go_wp2
  clear z0 z1 z2 z3 zf
  have E9 := stP_blk E3 true false (.slice none 0 0) (r) (i)
  exact bodyPost_ret (v := .tuple #[.agg #[.bool true, .bool false, .slice none 0 0, .complex .f64 (r) (i)], .int .i64 0]) (results_twoN Try.results25 rfl (load31 E9) rfl) rfl ⟨_, _, _, _, rfl, .inl ⟨rfl, rfl, rfl, rfl, HR⟩, stP_below B3 hr5 _ _ _ _ _⟩
set_option maxHeartbeats 4000000 in
theorem doC_plus {w : World} (p1 n1 p2 n2 : Bool) (x1 y1 x2 y2 : Nat) {ja ka : Option Addr} {jn jc kn kc : Nat} {xs ys : List Int} (h1 : IsB w ja jn jc xs) (h2 : IsB w ka kn kc ys) : Calls Try.prog 25 #[.int .i64 0, .agg #[.bool p1, .bool n1, .slice ja jn jc, .complex .f64 x1 y1], .agg #[.bool p2, .bool n2, .slice ka kn kc, .complex .f64 x2 y2]] w fun e w' => ∃ q r i se, e = .returned (.tuple #[.agg #[.bool q, .bool false, .slice none 0 0, .complex .f64 r i], .int .i64 se]) ∧ ResC (SumR .add) (acE p1 n1 xs) (acE p2 n2 ys) (acX p1 n1 xs x1) (acY p1 y1) (acX p2 n2 ys x2) (acY p2 y2) q r i se ∧ Below w.heap.size w w' := by
  obtain ⟨ex, hex⟩ : ∃ q, Hid (acE p1 n1 xs = q) := ⟨_, rfl⟩
  obtain ⟨ey, hey⟩ : ∃ q, Hid (acE p2 n2 ys = q) := ⟨_, rfl⟩
  obtain ⟨a, ha⟩ : ∃ q, Hid (acX p1 n1 xs x1 = q) := ⟨_, rfl⟩
  obtain ⟨b, hb⟩ : ∃ q, Hid (acY p1 y1 = q) := ⟨_, rfl⟩
  obtain ⟨c, hc⟩ : ∃ q, Hid (acX p2 n2 ys x2 = q) := ⟨_, rfl⟩
  obtain ⟨d, hd⟩ : ∃ q, Hid (acY p2 y2 = q) := ⟨_, rfl⟩
  have hx2 := acE_two p1 n1 xs
  have hy2 := acE_two p2 n2 ys
  rw [hex.out] at hx2
  rw [hey.out] at hy2
  rw [hex.out, hey.out, ha.out, hb.out, hc.out, hd.out]
  have E1 := oldF (oldF (newF w (numP p1 n1 (.slice ja jn jc) x1 y1)) (numP p2 n2 (.slice ka kn kc) x2 y2)) (numP false false (.slice none 0 0) 0 0)
  have E2 := oldF (newF (w.alloc (numP p1 n1 (.slice ja jn jc) x1 y1)) (numP p2 n2 (.slice ka kn kc) x2 y2)) (numP false false (.slice none 0 0) 0 0)
  have E3 := newF ((w.alloc (numP p1 n1 (.slice ja jn jc) x1 y1)).alloc (numP p2 n2 (.slice ka kn kc) x2 y2)) (numP false false (.slice none 0 0) 0 0)
  have B3 : Below w.heap.size w (((w.alloc (numP p1 n1 (.slice ja jn jc) x1 y1)).alloc (numP p2 n2 (.slice ka kn kc) x2 y2)).alloc (numP false false (.slice none 0 0) 0 0)) := below_sizeF (below_sizeF box_belowF (Nat.le_refl _) box_belowF) (Nat.le_refl _) box_belowF
  rw [size1] at E2
  rw [size1, size1] at E3
  have I1 := h1.below B3
  have I2 := h2.below B3
  unfold numP at E1 E2 E3 B3 I1 I2
  have hsc := stC_run
  go_enter Try.func25, Try.ntmps25
  go_wp2_with fail
  generalize ((w.alloc (.cells #[.bool p1, .bool n1, .slice ja jn jc, .complex .f64 x1 y1] 31)).alloc (.cells #[.bool p2, .bool n2, .slice ka kn kc, .complex .f64 x2 y2] 31)).alloc (.cells #[.bool false, .bool false, .slice none 0 0, .complex .f64 0 0] 31) = w1 at *
  replace E1 : w1.heap[w.heap.size]? = some (numP p1 n1 (.slice ja jn jc) x1 y1) := E1
  replace E2 : w1.heap[w.heap.size + 1]? = some (numP p2 n2 (.slice ka kn kc) x2 y2) := E2
  replace E3 : w1.heap[w.heap.size + 1 + 1]? = some (numP false false (.slice none 0 0) 0 0) := E3
  have hr5 : w.heap.size ≤ w.heap.size + 1 + 1 := by omega
  generalize w.heap.size + 1 + 1 = b3 at *
  generalize w.heap.size + 1 = b2 at *
  refine (asAny p1 n1 x1 y1 I1).mono ?_
  rintro e w2 ⟨rfl, B2⟩
  rw [hex.out, ha.out, hb.out]
  replace E2 := (B2.block _ (lt_of_blockF E2)).trans E2
  replace E3 := (B2.block _ (lt_of_blockF E3)).trans E3
  replace I2 := I2.below B2
  replace B3 := below_sizeF B3 (Nat.le_refl _) B2
  clear B2
  clear E1 I1
  rcases hx2 with rfl | rfl
  case inr =>
    obtain ⟨z0, z1, z2, z3, zf⟩ := numP_cells E3
    go_wp2
    clear z0 z1 z2 z3 zf
    have E9 := stP_blk E3 false false (.slice none 0 0) (0) (0)
    exact bodyPost_ret (v := .tuple #[.agg #[.bool false, .bool false, .slice none 0 0, .complex .f64 (0) (0)], .int .i64 24]) (results_twoN Try.results25 rfl (load31 E9) rfl) rfl ⟨_, _, _, _, rfl, .inr ⟨.inl (by decide), rfl, rfl, rfl, rfl⟩, stP_below B3 hr5 _ _ _ _ _⟩
  obtain ⟨v0, v1, v2, v3, vf⟩ := numP_cells E2
  go_wp2_with fail
  clear v0 v1 v2 v3 vf
  refine (asAny p2 n2 x2 y2 I2).mono ?_
  rintro e w3 ⟨rfl, B2⟩
  rw [hey.out, hc.out, hd.out]
  replace E3 := (B2.block _ (lt_of_blockF E3)).trans E3
  replace B3 := below_sizeF B3 (Nat.le_refl _) B2
  clear B2
  clear E2 I2
  rcases hy2 with rfl | rfl
  case inr =>
    obtain ⟨z0, z1, z2, z3, zf⟩ := numP_cells E3
    go_wp2
    clear z0 z1 z2 z3 zf
    have E9 := stP_blk E3 false false (.slice none 0 0) (0) (0)
    exact bodyPost_ret (v := .tuple #[.agg #[.bool false, .bool false, .slice none 0 0, .complex .f64 (0) (0)], .int .i64 24]) (results_twoN Try.results25 rfl (load31 E9) rfl) rfl ⟨_, _, _, _, rfl, .inr ⟨.inr (by decide), rfl, rfl, rfl, rfl⟩, stP_below B3 hr5 _ _ _ _ _⟩
  obtain ⟨r, i, w4, hcs, HR, B2⟩ : ∃ r i w4, (binOp .add 29 (.complex .f64 a b) (.complex .f64 c d)).run Try.prog w3 = .ok (.complex .f64 r i) w4 ∧ SumR .add a b c d r i ∧ Below w3.heap.size w3 w4 := ⟨_, _, _, run_csum .add (by simp) 29 a b c d w3, ⟨flV_FR _ _ _ _, flV_FR _ _ _ _⟩, flW_below (flW_below (Below.refl _ _))⟩
  replace E3 := (B2.block _ (lt_of_blockF E3)).trans E3
  replace B3 := below_sizeF B3 (Nat.le_refl _) B2
  clear B2
  obtain ⟨z0, z1, z2, z3, zf⟩ := numP_cells E3
  go_wp2
  clear z0 z1 z2 z3 zf
  have E9 := stP_blk E3 true false (.slice none 0 0) (r) (i)
  exact bodyPost_ret (v := .tuple #[.agg #[.bool true, .bool false, .slice none 0 0, .complex .f64 (r) (i)], .int .i64 0]) (results_twoN Try.results25 rfl (load31 E9) rfl) rfl ⟨_, _, _, _, rfl, .inl ⟨rfl, rfl, rfl, rfl, HR⟩, stP_below B3 hr5 _ _ _ _ _⟩
end Go.Proofs.Ytkpngpongbpfgaa
