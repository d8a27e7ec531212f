/- A complex number times a whole one. -/
import Derived.Test.YtkpngpongbpfgaaEqN
import Derived.Test.YtkpngpongbpfgaaDoN
namespace Go.Proofs.Ytkpngpongbpfgaa
open Go.RowKit
set_option maxRecDepth 100000
set_option maxHeartbeats 2000000 in
theorem doTimesW {w : World} {a b c d r i : Nat} (h : TimesTo a b c d r i) (ng : Bool) {ka : Option Addr} {kn kc : Nat} {ys : List Int} (hk : IsB w ka kn kc ys) (hs : smallB ng ys = true) (hc : floatOfInt .f64 (smallI ng ys) = c) (hd : d = 0) : Calls Try.prog 25 #[.int .i64 2, .agg #[.bool true, .bool false, .slice none 0 0, .complex .f64 a b], .agg #[.bool false, .bool ng, .slice ka kn kc, .complex .f64 0 0]] w fun e w' => e = .returned (.tuple #[.agg #[.bool true, .bool false, .slice none 0 0, .complex .f64 r i], .int .i64 0]) ∧ Below w.heap.size w w' := by
  have E2 := oldF (newF (w.alloc (numP true false (.slice none 0 0) a b)) (numP false ng (.slice ka kn kc) 0 0)) (numP false false (.slice none 0 0) 0 0)
  have E3 := newF ((w.alloc (numP true false (.slice none 0 0) a b)).alloc (numP false ng (.slice ka kn kc) 0 0)) (numP false false (.slice none 0 0) 0 0)
  have B3 : Below w.heap.size w (((w.alloc (numP true false (.slice none 0 0) a b)).alloc (numP false ng (.slice ka kn kc) 0 0)).alloc (numP false false (.slice none 0 0) 0 0)) := below_sizeF (below_sizeF box_belowF (Nat.le_refl _) box_belowF) (Nat.le_refl _) box_belowF
  rw [size1] at E2
  rw [size1, size1] at E3
  have I2 := hk.below B3
  unfold numP at E2 E3 B3 I2
  have hsc := stC_run
  have hA : ∀ w' : World, IsB w' ka kn kc ys → Calls Try.prog 53 #[.agg #[.bool false, .bool ng, .slice ka kn kc, .complex .f64 0 0]] w' fun e w'' => e = .returned (.tuple #[.complex .f64 c d, .int .i64 0]) ∧ Below w'.heap.size w' w'' := fun w' h => by
    have := asAny false ng 0 0 h
    rw [show acX false ng ys 0 = c by unfold acX; rw [if_neg (by decide), if_pos hs, hc], show acY false 0 = d by rw [hd]; rfl, show acE false ng ys = 0 by unfold acE; rw [if_neg (by decide), if_pos hs]] at this
    exact this
  clear hc hd hs
  go_enter Try.func25, Try.ntmps25
  go_wp2_with fail
  generalize ((w.alloc (.cells #[.bool true, .bool false, .slice none 0 0, .complex .f64 a b] 31)).alloc (.cells #[.bool false, .bool ng, .slice ka kn kc, .complex .f64 0 0] 31)).alloc (.cells #[.bool false, .bool false, .slice none 0 0, .complex .f64 0 0] 31) = w1 at *
  replace E2 : w1.heap[w.heap.size + 1]? = some (numP false ng (.slice ka kn kc) 0 0) := E2
  replace E3 : w1.heap[w.heap.size + 1 + 1]? = some (numP false false (.slice none 0 0) 0 0) := E3
  have hr5 : w.heap.size ≤ w.heap.size + 1 + 1 := by omega
  generalize w.heap.size + 1 + 1 = b3 at *
  generalize w.heap.size + 1 = b2 at *
  refine (asPair false (.slice none 0 0) a b).mono ?_
  rintro e w2 ⟨rfl, B2⟩
  replace E2 := (B2.block _ (lt_of_blockF E2)).trans E2
  replace E3 := (B2.block _ (lt_of_blockF E3)).trans E3
  replace B3 := below_sizeF B3 (Nat.le_refl _) B2
  replace I2 := I2.below B2
  clear B2
  obtain ⟨y0, y1, y2, y3, yf⟩ := numP_cells E2
  go_wp2_with fail
  refine (hA _ I2).mono ?_
  rintro e w3 ⟨rfl, B2⟩
  replace E3 := (B2.block _ (lt_of_blockF E3)).trans E3
  replace B3 := below_sizeF B3 (Nat.le_refl _) B2
  clear B2 E2 y0 y1 y2 y3 yf
  go_wp2_with fail
  refine (times_any h w3).mono ?_
  rintro e w4 ⟨rfl, rfl⟩
  obtain ⟨z0, z1, z2, z3, zf⟩ := numP_cells E3
  go_wp2
  clear z0 z1 z2 z3 zf
  have E9 := stP_blk E3 true false (.slice none 0 0) r i
  exact bodyPost_ret (v := .tuple #[.agg #[.bool true, .bool false, .slice none 0 0, .complex .f64 r i], .int .i64 0]) (results_twoN Try.results25 rfl (load31 E9) rfl) rfl ⟨rfl, stP_below B3 hr5 _ _ _ _ _⟩
set_option maxHeartbeats 2000000 in
theorem does_timesW {w : World} {a b c d r i : Nat} (h : TimesTo a b c d r i) (ng : Bool) {ka : Option Addr} {kn kc : Nat} {ys : List Int} (hk : IsB w ka kn kc ys) (hr : rightB ng ys = true) (hs : smallB ng ys = true) (hc : floatOfInt .f64 (smallI ng ys) = c) (hd : d = 0) : Calls Try.prog 9 #[.int .i64 2, .agg #[.bool true, .bool false, .slice none 0 0, .complex .f64 a b], .agg #[.bool false, .bool ng, .slice ka kn kc, .complex .f64 0 0]] w fun e w' => e = .returned (.tuple #[.agg #[.bool true, .bool false, .slice none 0 0, .complex .f64 r i], .bool false, .int .i64 0]) ∧ Below w.heap.size w w' := by
  have E1 := oldF (oldF (newF w (numP true false (.slice none 0 0) a b)) (numP false ng (.slice ka kn kc) 0 0)) (numP false false (.slice none 0 0) 0 0)
  have E2 := oldF (newF (w.alloc (numP true false (.slice none 0 0) a b)) (numP false ng (.slice ka kn kc) 0 0)) (numP false false (.slice none 0 0) 0 0)
  have E3 := newF ((w.alloc (numP true false (.slice none 0 0) a b)).alloc (numP false ng (.slice ka kn kc) 0 0)) (numP false false (.slice none 0 0) 0 0)
  have B3 : Below w.heap.size w (((w.alloc (numP true false (.slice none 0 0) a b)).alloc (numP false ng (.slice ka kn kc) 0 0)).alloc (numP false false (.slice none 0 0) 0 0)) := below_sizeF (below_sizeF box_belowF (Nat.le_refl _) box_belowF) (Nat.le_refl _) box_belowF
  rw [size1] at E2
  rw [size1, size1] at E3
  have I2 := hk.below B3
  unfold numP at E1 E2 E3 B3 I2
  have hsc := stC_run
  have nilB : ∀ w : World, IsB w none 0 0 [] := fun w => ⟨rfl, Nat.le_refl _, by decide, fun _ => rfl, by simp, fun h => absurd h (by decide)⟩
  have hW : ∀ w' : World, IsB w' ka kn kc ys → Calls Try.prog 25 #[.int .i64 2, .agg #[.bool true, .bool false, .slice none 0 0, .complex .f64 a b], .agg #[.bool false, .bool ng, .slice ka kn kc, .complex .f64 0 0]] w' fun e w'' => e = .returned (.tuple #[.agg #[.bool true, .bool false, .slice none 0 0, .complex .f64 r i], .int .i64 0]) ∧ Below w'.heap.size w' w'' := fun w' h' => doTimesW h ng h' hs hc hd
  clear hc hd hs
  go_enter Try.func9, Try.ntmps9
  go_wp2_with fail
  generalize ((w.alloc (.cells #[.bool true, .bool false, .slice none 0 0, .complex .f64 a b] 31)).alloc (.cells #[.bool false, .bool ng, .slice ka kn kc, .complex .f64 0 0] 31)).alloc (.cells #[.bool false, .bool false, .slice none 0 0, .complex .f64 0 0] 31) = w1 at *
  replace E1 : w1.heap[w.heap.size]? = some (numP true false (.slice none 0 0) a b) := E1
  replace E2 : w1.heap[w.heap.size + 1]? = some (numP false ng (.slice ka kn kc) 0 0) := E2
  replace E3 : w1.heap[w.heap.size + 1 + 1]? = some (numP false false (.slice none 0 0) 0 0) := E3
  have hr5 : w.heap.size ≤ w.heap.size + 1 + 1 := by omega
  generalize w.heap.size + 1 + 1 = b3 at *
  generalize w.heap.size + 1 = b2 at *
  refine (rightN_any true false a b (nilB _)).mono ?_
  rintro e w2 ⟨rfl, B2⟩
  rw [show rightN true false [] a b = true from rfl]
  replace E1 := (B2.block _ (lt_of_blockF E1)).trans E1
  replace E2 := (B2.block _ (lt_of_blockF E2)).trans E2
  replace E3 := (B2.block _ (lt_of_blockF E3)).trans E3
  replace B3 := below_sizeF B3 (Nat.le_refl _) B2
  replace I2 := I2.below B2
  clear B2
  obtain ⟨y0, y1, y2, y3, yf⟩ := numP_cells E2
  go_wp2_with fail
  refine (rightN_any false ng 0 0 I2).mono ?_
  rintro e w3 ⟨rfl, B2⟩
  rw [show rightN false ng ys 0 0 = true by unfold rightN; rw [if_neg (by decide), hr]; rfl]
  replace E1 := (B2.block _ (lt_of_blockF E1)).trans E1
  replace E2 := (B2.block _ (lt_of_blockF E2)).trans E2
  replace E3 := (B2.block _ (lt_of_blockF E3)).trans E3
  replace B3 := below_sizeF B3 (Nat.le_refl _) B2
  replace I2 := I2.below B2
  clear B2 y0 y1 y2 y3 yf
  obtain ⟨x0, x1, x2, x3, xf⟩ := numP_cells E1
  obtain ⟨y0, y1, y2, y3, yf⟩ := numP_cells E2
  go_wp2_with fail
  refine (hW _ I2).mono ?_
  rintro e w4 ⟨rfl, B2⟩
  replace E3 := oldF ((B2.block _ (lt_of_blockF E3)).trans E3) (numP true false (.slice none 0 0) r i)
  replace B3 := below_sizeF (below_sizeF B3 (Nat.le_refl _) B2) (Nat.le_refl _) (box_belowF (o := numP true false (.slice none 0 0) r i))
  clear B2 x0 x1 x2 x3 xf y0 y1 y2 y3 yf E1 E2
  unfold numP at E3 B3
  obtain ⟨z0, z1, z2, z3, zf⟩ := numP_cells (p := false) (m := false) (v := .slice none 0 0) (x := 0) (y := 0) E3
  go_wp2
  clear z0 z1 z2 z3 zf
  have E9 := stP_blk (p0 := false) (m0 := false) (v0 := .slice none 0 0) (x0 := 0) (y0 := 0) E3 true false (.slice none 0 0) r i
  exact bodyPost_ret (v := .tuple #[.agg #[.bool true, .bool false, .slice none 0 0, .complex .f64 r i], .bool false, .int .i64 0]) (results_threeN Try.results9 rfl (load31 E9) rfl rfl) rfl ⟨rfl, stP_below B3 hr5 _ _ _ _ _⟩
end Go.Proofs.Ytkpngpongbpfgaa
