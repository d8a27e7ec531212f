/- Products and quotients of two complex numbers, and the fixed calls. -/
import Derived.Test.YtkpngpongbpfgaaPairN
namespace Go.Proofs.Ytkpngpongbpfgaa
open Go.RowKit
set_option maxRecDepth 100000
theorem asPair {w : World} (m : Bool) (v : Value) (x y : Nat) : Calls Try.prog 53 #[.agg #[.bool true, .bool m, v, .complex .f64 x y]] w fun e w' => e = .returned (.tuple #[.complex .f64 x y, .int .i64 0]) ∧ Below w.heap.size w w' := by
  have B1 : Below w.heap.size w (w.alloc (numP true m v x y)) := box_belowF
  unfold numP at B1
  go_enter Try.func53, Try.ntmps53
  go_wp2
  go_ret2
  exact ⟨rfl, B1⟩
theorem Try.results25 : Try.f25.results = #[.cell 6 31, .tmp 7] := by kernel_rfl
theorem Try.results9 : Try.f9.results = #[.cell 6 31, .tmp 7, .tmp 8] := by kernel_rfl
set_option maxHeartbeats 2000000 in
theorem doTimes {w : World} {a b c d r i : Nat} (h : TimesTo a b c d r i) : Calls Try.prog 25 #[.int .i64 2, .agg #[.bool true, .bool false, .slice none 0 0, .complex .f64 a b], .agg #[.bool true, .bool false, .slice none 0 0, .complex .f64 c d]] w fun e w' => e = .returned (.tuple #[.agg #[.bool true, .bool false, .slice none 0 0, .complex .f64 r i], .int .i64 0]) ∧ Below w.heap.size w w' := by
  have E2 := oldF (newF (w.alloc (numP true false (.slice none 0 0) a b)) (numP true false (.slice none 0 0) c d)) (numP false false (.slice none 0 0) 0 0)
  have E3 := newF ((w.alloc (numP true false (.slice none 0 0) a b)).alloc (numP true false (.slice none 0 0) c d)) (numP false false (.slice none 0 0) 0 0)
  have B3 : Below w.heap.size w (((w.alloc (numP true false (.slice none 0 0) a b)).alloc (numP true false (.slice none 0 0) c d)).alloc (numP false false (.slice none 0 0) 0 0)) := below_sizeF (below_sizeF box_belowF (Nat.le_refl _) box_belowF) (Nat.le_refl _) box_belowF
  rw [size1] at E2
  rw [size1, size1] at E3
  unfold numP at E2 E3 B3
  have hsc := stC_run
  go_enter Try.func25, Try.ntmps25
  go_wp2_with fail
  generalize ((w.alloc (.cells #[.bool true, .bool false, .slice none 0 0, .complex .f64 a b] 31)).alloc (.cells #[.bool true, .bool false, .slice none 0 0, .complex .f64 c d] 31)).alloc (.cells #[.bool false, .bool false, .slice none 0 0, .complex .f64 0 0] 31) = w1 at *
  replace E2 : w1.heap[w.heap.size + 1]? = some (numP true false (.slice none 0 0) c d) := E2
  replace E3 : w1.heap[w.heap.size + 1 + 1]? = some (numP false false (.slice none 0 0) 0 0) := E3
  have hr5 : w.heap.size ≤ w.heap.size + 1 + 1 := by omega
  generalize w.heap.size + 1 + 1 = b3 at *
  generalize w.heap.size + 1 = b2 at *
  refine (asPair false (.slice none 0 0) a b).mono ?_
  rintro e w2 ⟨rfl, B2⟩
  replace E2 := (B2.block _ (lt_of_blockF E2)).trans E2
  replace E3 := (B2.block _ (lt_of_blockF E3)).trans E3
  replace B3 := below_sizeF B3 (Nat.le_refl _) B2
  clear B2
  obtain ⟨y0, y1, y2, y3, yf⟩ := numP_cells E2
  go_wp2_with fail
  refine (asPair false (.slice none 0 0) c d).mono ?_
  rintro e w3 ⟨rfl, B2⟩
  replace E3 := (B2.block _ (lt_of_blockF E3)).trans E3
  replace B3 := below_sizeF B3 (Nat.le_refl _) B2
  clear B2 E2 y0 y1 y2 y3 yf
  go_wp2_with fail
  refine (times_any h w3).mono ?_
  rintro e w4 ⟨rfl, rfl⟩
  obtain ⟨z0, z1, z2, z3, zf⟩ := numP_cells E3
  go_wp2
  clear z0 z1 z2 z3 zf
  have E9 := stP_blk E3 true false (.slice none 0 0) r i
  exact bodyPost_ret (v := .tuple #[.agg #[.bool true, .bool false, .slice none 0 0, .complex .f64 r i], .int .i64 0]) (results_twoN Try.results25 rfl (load31 E9) rfl) rfl ⟨rfl, stP_below B3 hr5 _ _ _ _ _⟩
set_option maxHeartbeats 2000000 in
theorem doOver {w : World} {a b c d r i : Nat} (h : OverTo a b c d r i) (hz : ((FloatKind.f64.format.order c 0 == some .eq) && (FloatKind.f64.format.order d 0 == some .eq)) = false) : Calls Try.prog 25 #[.int .i64 3, .agg #[.bool true, .bool false, .slice none 0 0, .complex .f64 a b], .agg #[.bool true, .bool false, .slice none 0 0, .complex .f64 c d]] w fun e w' => e = .returned (.tuple #[.agg #[.bool true, .bool false, .slice none 0 0, .complex .f64 r i], .int .i64 0]) ∧ Below w.heap.size w w' := by
  have E2 := oldF (newF (w.alloc (numP true false (.slice none 0 0) a b)) (numP true false (.slice none 0 0) c d)) (numP false false (.slice none 0 0) 0 0)
  have E3 := newF ((w.alloc (numP true false (.slice none 0 0) a b)).alloc (numP true false (.slice none 0 0) c d)) (numP false false (.slice none 0 0) 0 0)
  have B3 : Below w.heap.size w (((w.alloc (numP true false (.slice none 0 0) a b)).alloc (numP true false (.slice none 0 0) c d)).alloc (numP false false (.slice none 0 0) 0 0)) := below_sizeF (below_sizeF box_belowF (Nat.le_refl _) box_belowF) (Nat.le_refl _) box_belowF
  rw [size1] at E2
  rw [size1, size1] at E3
  unfold numP at E2 E3 B3
  have hsc := stC_run
  go_enter Try.func25, Try.ntmps25
  go_wp2_with fail
  generalize ((w.alloc (.cells #[.bool true, .bool false, .slice none 0 0, .complex .f64 a b] 31)).alloc (.cells #[.bool true, .bool false, .slice none 0 0, .complex .f64 c d] 31)).alloc (.cells #[.bool false, .bool false, .slice none 0 0, .complex .f64 0 0] 31) = w1 at *
  replace E2 : w1.heap[w.heap.size + 1]? = some (numP true false (.slice none 0 0) c d) := E2
  replace E3 : w1.heap[w.heap.size + 1 + 1]? = some (numP false false (.slice none 0 0) 0 0) := E3
  have hr5 : w.heap.size ≤ w.heap.size + 1 + 1 := by omega
  generalize w.heap.size + 1 + 1 = b3 at *
  generalize w.heap.size + 1 = b2 at *
  refine (asPair false (.slice none 0 0) a b).mono ?_
  rintro e w2 ⟨rfl, B2⟩
  replace E2 := (B2.block _ (lt_of_blockF E2)).trans E2
  replace E3 := (B2.block _ (lt_of_blockF E3)).trans E3
  replace B3 := below_sizeF B3 (Nat.le_refl _) B2
  clear B2
  obtain ⟨y0, y1, y2, y3, yf⟩ := numP_cells E2
  go_wp2_with fail
  refine (asPair false (.slice none 0 0) c d).mono ?_
  rintro e w3 ⟨rfl, B2⟩
  replace E3 := (B2.block _ (lt_of_blockF E3)).trans E3
  replace B3 := below_sizeF B3 (Nat.le_refl _) B2
  clear B2 E2 y0 y1 y2 y3 yf
  go_wp2_with fail
  refine (over_any h w3).mono ?_
  rintro e w4 ⟨rfl, rfl⟩
  obtain ⟨z0, z1, z2, z3, zf⟩ := numP_cells E3
  go_wp2
  clear z0 z1 z2 z3 zf
  have E9 := stP_blk E3 true false (.slice none 0 0) r i
  exact bodyPost_ret (v := .tuple #[.agg #[.bool true, .bool false, .slice none 0 0, .complex .f64 r i], .int .i64 0]) (results_twoN Try.results25 rfl (load31 E9) rfl) rfl ⟨rfl, stP_below B3 hr5 _ _ _ _ _⟩
set_option maxHeartbeats 2000000 in
theorem does_times {w : World} {a b c d r i : Nat} (h : TimesTo a b c d r i) : Calls Try.prog 9 #[.int .i64 2, .agg #[.bool true, .bool false, .slice none 0 0, .complex .f64 a b], .agg #[.bool true, .bool false, .slice none 0 0, .complex .f64 c d]] w fun e w' => e = .returned (.tuple #[.agg #[.bool true, .bool false, .slice none 0 0, .complex .f64 r i], .bool false, .int .i64 0]) ∧ Below w.heap.size w w' := by
  have E1 := oldF (oldF (newF w (numP true false (.slice none 0 0) a b)) (numP true false (.slice none 0 0) c d)) (numP false false (.slice none 0 0) 0 0)
  have E2 := oldF (newF (w.alloc (numP true false (.slice none 0 0) a b)) (numP true false (.slice none 0 0) c d)) (numP false false (.slice none 0 0) 0 0)
  have E3 := newF ((w.alloc (numP true false (.slice none 0 0) a b)).alloc (numP true false (.slice none 0 0) c d)) (numP false false (.slice none 0 0) 0 0)
  have B3 : Below w.heap.size w (((w.alloc (numP true false (.slice none 0 0) a b)).alloc (numP true false (.slice none 0 0) c d)).alloc (numP false false (.slice none 0 0) 0 0)) := below_sizeF (below_sizeF box_belowF (Nat.le_refl _) box_belowF) (Nat.le_refl _) box_belowF
  rw [size1] at E2
  rw [size1, size1] at E3
  unfold numP at E1 E2 E3 B3
  have hsc := stC_run
  have nilB : ∀ w : World, IsB w none 0 0 [] := fun w => ⟨rfl, Nat.le_refl _, by decide, fun _ => rfl, by simp, fun h => absurd h (by decide)⟩
  go_enter Try.func9, Try.ntmps9
  go_wp2_with fail
  generalize ((w.alloc (.cells #[.bool true, .bool false, .slice none 0 0, .complex .f64 a b] 31)).alloc (.cells #[.bool true, .bool false, .slice none 0 0, .complex .f64 c d] 31)).alloc (.cells #[.bool false, .bool false, .slice none 0 0, .complex .f64 0 0] 31) = w1 at *
  replace E1 : w1.heap[w.heap.size]? = some (numP true false (.slice none 0 0) a b) := E1
  replace E2 : w1.heap[w.heap.size + 1]? = some (numP true false (.slice none 0 0) c d) := E2
  replace E3 : w1.heap[w.heap.size + 1 + 1]? = some (numP false false (.slice none 0 0) 0 0) := E3
  have hr5 : w.heap.size ≤ w.heap.size + 1 + 1 := by omega
  generalize w.heap.size + 1 + 1 = b3 at *
  generalize w.heap.size + 1 = b2 at *
  refine (rightN_any true false a b (nilB _)).mono ?_
  rintro e w2 ⟨rfl, B2⟩
  rw [show rightN true false [] a b = true from rfl]
  replace E1 := (B2.block _ (lt_of_blockF E1)).trans E1
  replace E2 := (B2.block _ (lt_of_blockF E2)).trans E2
  replace E3 := (B2.block _ (lt_of_blockF E3)).trans E3
  replace B3 := below_sizeF B3 (Nat.le_refl _) B2
  clear B2
  obtain ⟨y0, y1, y2, y3, yf⟩ := numP_cells E2
  go_wp2_with fail
  refine (rightN_any true false c d (nilB _)).mono ?_
  rintro e w3 ⟨rfl, B2⟩
  rw [show rightN true false [] c d = true from rfl]
  replace E1 := (B2.block _ (lt_of_blockF E1)).trans E1
  replace E2 := (B2.block _ (lt_of_blockF E2)).trans E2
  replace E3 := (B2.block _ (lt_of_blockF E3)).trans E3
  replace B3 := below_sizeF B3 (Nat.le_refl _) B2
  clear B2 y0 y1 y2 y3 yf
  obtain ⟨x0, x1, x2, x3, xf⟩ := numP_cells E1
  obtain ⟨y0, y1, y2, y3, yf⟩ := numP_cells E2
  go_wp2_with fail
  refine (doTimes h).mono ?_
  rintro e w4 ⟨rfl, B2⟩
  replace E3 := oldF ((B2.block _ (lt_of_blockF E3)).trans E3) (numP true false (.slice none 0 0) r i)
  replace B3 := below_sizeF (below_sizeF B3 (Nat.le_refl _) B2) (Nat.le_refl _) (box_belowF (o := numP true false (.slice none 0 0) r i))
  clear B2 x0 x1 x2 x3 xf y0 y1 y2 y3 yf E1 E2
  unfold numP at E3 B3
  obtain ⟨z0, z1, z2, z3, zf⟩ := numP_cells (p := false) (m := false) (v := .slice none 0 0) (x := 0) (y := 0) E3
  go_wp2
  clear z0 z1 z2 z3 zf
  have E9 := stP_blk (p0 := false) (m0 := false) (v0 := .slice none 0 0) (x0 := 0) (y0 := 0) E3 true false (.slice none 0 0) r i
  exact bodyPost_ret (v := .tuple #[.agg #[.bool true, .bool false, .slice none 0 0, .complex .f64 r i], .bool false, .int .i64 0]) (results_threeN Try.results9 rfl (load31 E9) rfl rfl) rfl ⟨rfl, stP_below B3 hr5 _ _ _ _ _⟩
set_option maxHeartbeats 2000000 in
theorem does_over {w : World} {a b c d r i : Nat} (h : OverTo a b c d r i) (hz : ((FloatKind.f64.format.order c 0 == some .eq) && (FloatKind.f64.format.order d 0 == some .eq)) = false) : Calls Try.prog 9 #[.int .i64 3, .agg #[.bool true, .bool false, .slice none 0 0, .complex .f64 a b], .agg #[.bool true, .bool false, .slice none 0 0, .complex .f64 c d]] w fun e w' => e = .returned (.tuple #[.agg #[.bool true, .bool false, .slice none 0 0, .complex .f64 r i], .bool false, .int .i64 0]) ∧ Below w.heap.size w w' := by
  have E1 := oldF (oldF (newF w (numP true false (.slice none 0 0) a b)) (numP true false (.slice none 0 0) c d)) (numP false false (.slice none 0 0) 0 0)
  have E2 := oldF (newF (w.alloc (numP true false (.slice none 0 0) a b)) (numP true false (.slice none 0 0) c d)) (numP false false (.slice none 0 0) 0 0)
  have E3 := newF ((w.alloc (numP true false (.slice none 0 0) a b)).alloc (numP true false (.slice none 0 0) c d)) (numP false false (.slice none 0 0) 0 0)
  have B3 : Below w.heap.size w (((w.alloc (numP true false (.slice none 0 0) a b)).alloc (numP true false (.slice none 0 0) c d)).alloc (numP false false (.slice none 0 0) 0 0)) := below_sizeF (below_sizeF box_belowF (Nat.le_refl _) box_belowF) (Nat.le_refl _) box_belowF
  rw [size1] at E2
  rw [size1, size1] at E3
  unfold numP at E1 E2 E3 B3
  have hsc := stC_run
  have nilB : ∀ w : World, IsB w none 0 0 [] := fun w => ⟨rfl, Nat.le_refl _, by decide, fun _ => rfl, by simp, fun h => absurd h (by decide)⟩
  go_enter Try.func9, Try.ntmps9
  go_wp2_with fail
  generalize ((w.alloc (.cells #[.bool true, .bool false, .slice none 0 0, .complex .f64 a b] 31)).alloc (.cells #[.bool true, .bool false, .slice none 0 0, .complex .f64 c d] 31)).alloc (.cells #[.bool false, .bool false, .slice none 0 0, .complex .f64 0 0] 31) = w1 at *
  replace E1 : w1.heap[w.heap.size]? = some (numP true false (.slice none 0 0) a b) := E1
  replace E2 : w1.heap[w.heap.size + 1]? = some (numP true false (.slice none 0 0) c d) := E2
  replace E3 : w1.heap[w.heap.size + 1 + 1]? = some (numP false false (.slice none 0 0) 0 0) := E3
  have hr5 : w.heap.size ≤ w.heap.size + 1 + 1 := by omega
  generalize w.heap.size + 1 + 1 = b3 at *
  generalize w.heap.size + 1 = b2 at *
  refine (rightN_any true false a b (nilB _)).mono ?_
  rintro e w2 ⟨rfl, B2⟩
  rw [show rightN true false [] a b = true from rfl]
  replace E1 := (B2.block _ (lt_of_blockF E1)).trans E1
  replace E2 := (B2.block _ (lt_of_blockF E2)).trans E2
  replace E3 := (B2.block _ (lt_of_blockF E3)).trans E3
  replace B3 := below_sizeF B3 (Nat.le_refl _) B2
  clear B2
  obtain ⟨y0, y1, y2, y3, yf⟩ := numP_cells E2
  go_wp2_with fail
  refine (rightN_any true false c d (nilB _)).mono ?_
  rintro e w3 ⟨rfl, B2⟩
  rw [show rightN true false [] c d = true from rfl]
  replace E1 := (B2.block _ (lt_of_blockF E1)).trans E1
  replace E2 := (B2.block _ (lt_of_blockF E2)).trans E2
  replace E3 := (B2.block _ (lt_of_blockF E3)).trans E3
  replace B3 := below_sizeF B3 (Nat.le_refl _) B2
  clear B2 y0 y1 y2 y3 yf
  obtain ⟨x0, x1, x2, x3, xf⟩ := numP_cells E1
  obtain ⟨y0, y1, y2, y3, yf⟩ := numP_cells E2
  go_wp2_with fail
  refine (doOver h hz).mono ?_
  rintro e w4 ⟨rfl, B2⟩
  replace E3 := oldF ((B2.block _ (lt_of_blockF E3)).trans E3) (numP true false (.slice none 0 0) r i)
  replace B3 := below_sizeF (below_sizeF B3 (Nat.le_refl _) B2) (Nat.le_refl _) (box_belowF (o := numP true false (.slice none 0 0) r i))
  clear B2 x0 x1 x2 x3 xf y0 y1 y2 y3 yf E1 E2
  unfold numP at E3 B3
  obtain ⟨z0, z1, z2, z3, zf⟩ := numP_cells (p := false) (m := false) (v := .slice none 0 0) (x := 0) (y := 0) E3
  go_wp2
  clear z0 z1 z2 z3 zf
  have E9 := stP_blk (p0 := false) (m0 := false) (v0 := .slice none 0 0) (x0 := 0) (y0 := 0) E3 true false (.slice none 0 0) r i
  exact bodyPost_ret (v := .tuple #[.agg #[.bool true, .bool false, .slice none 0 0, .complex .f64 r i], .bool false, .int .i64 0]) (results_threeN Try.results9 rfl (load31 E9) rfl rfl) rfl ⟨rfl, stP_below B3 hr5 _ _ _ _ _⟩
end Go.Proofs.Ytkpngpongbpfgaa
