/- Pair, and what is done with two complex numbers. -/
import Derived.Test.YtkpngpongbpfgaaRightN
namespace Go.Proofs.Ytkpngpongbpfgaa
open Go.RowKit
set_option maxRecDepth 100000
/-- A whole number in a block. -/
def intB (m : Bool) (v : Value) : Obj := .cells #[.bool m, v] 28 (0, 0)
theorem intB_cells {w : World} {b : Nat} {m : Bool} {v : Value} (h : w.heap[b]? = some (intB m v)) : w.cell? ⟨b, 0, none⟩ = some (.bool m) ∧ w.cell? ⟨b, 1, none⟩ = some v := by
  unfold intB at h
  refine ⟨?_, ?_⟩ <;> (rw [cell_of_row w b _ _ _ _ h]; rfl)
theorem load28 {w : World} {b : Nat} {m : Bool} {v : Value} (h : w.heap[b]? = some (intB m v)) : (loadVar 28 ⟨b, 0, none⟩).run Try.prog w = .ok (.agg #[.bool m, v]) w := by
  obtain ⟨h0, h1⟩ := intB_cells h
  have hr := run_loadCells_list (P := Try.prog) w ⟨b, 0, none⟩ [.bool m, v] (fun i u hi => by
    rw [addr_addN]
    match i, hi with
    | 0, hi => simp at hi; subst hi; exact h0
    | 1, hi => simp at hi; subst hi; exact h1
    | _ + 2, hi => simp at hi)
  have hagg : (isAgg 28).run Try.prog w = .ok true w := by simp [isAgg, run_underlying Try.underlying28]
  have hr' : (loadCells ⟨b, 0, none⟩ 2).run Try.prog w = .ok #[.bool m, v] w := hr
  simp [loadVar, hagg, hr']
theorem intB_set {w : World} {b : Nat} {m m' : Bool} {v v' : Value} (h : w.heap[b]? = some (intB m v)) : ((w.setCell ⟨b, 0, none⟩ (.bool m')).setCell ⟨b, 1, none⟩ v').heap[b]? = some (intB m' v') := by
  have h1 : (w.setCell ⟨b, 0, none⟩ (.bool m')).heap[b]? = some (intB m' v) := by
    unfold intB at h ⊢
    rw [heap_setCell_same w b 0 _ _ _ h]
    simp
  unfold intB at h1 ⊢
  rw [heap_setCell_same _ b 1 _ _ _ h1]
  simp
theorem IsB.keepN {w w' : World} {a : Option Addr} {len cap : Nat} {xs : List Int} (h : IsB w a len cap xs) (hk : ∀ b off, a = some ⟨b, off, none⟩ → w'.heap[b]? = w.heap[b]?) : IsB w' a len cap xs :=
  ⟨h.size, h.room, h.most, h.nil0, h.byte, fun h0 => by
    obtain ⟨g, off, ha, hc⟩ := h.cells h0
    exact ⟨g, off, ha, fun i hi => (World.cell?_of_block (a := ⟨g, off + i, none⟩) (hk g off ha)).trans (hc i hi)⟩⟩
theorem Try.results23 : Try.f23.results = #[.cell 2 28] := by kernel_rfl
theorem small_of (n : Int) (w : World) (h0 : -9223372036854775808 ≤ n) (h1 : n ≤ 9223372036854775807) :
    Calls Try.prog 23 #[.int .i64 n] w fun e w' => ∃ a l c, e = .returned (.agg #[.bool (decide (n < 0)), .slice a l c]) ∧ IsB w' a l c (mag n.natAbs) ∧ Below w.heap.size w w' := by
  have E1 := newF w (intB false (.slice none 0 0))
  have B1 : Below w.heap.size w (w.alloc (intB false (.slice none 0 0))) := box_belowF
  unfold intB at E1 B1
  go_enter Try.func23, Try.ntmps23
  go_wp2_with fail
  generalize w.alloc (.cells #[.bool false, .slice none 0 0] 28) = w1 at *
  replace E1 : w1.heap[w.heap.size]? = some (intB false (.slice none 0 0)) := E1
  have hl := lt_of_blockF E1
  refine (of_any n w1 h0 h1).mono ?_
  rintro e w2 ⟨v, rfl, O, B2⟩
  obtain ⟨hO, a, c, rfl, I⟩ := O
  have E2 := (B2.block _ hl).trans E1
  have B3 := below_sizeF B1 (Nat.le_refl _) B2
  have hgt : ∀ g, (Value.slice a (mag n.natAbs).length c).ownBlock = some g → w1.heap.size ≤ g := fun g hg => (hO.lt g hg).1
  clear B2 B1 hO
  obtain ⟨z0, z1⟩ := intB_cells E2
  have zf : ∀ i, w2.frozen? ⟨w.heap.size, i, none⟩ = false := fun i => by unfold intB at E2; exact frozen_of_row w2 _ i _ _ E2
  go_wp2
  clear z0 z1 zf
  have E9 := intB_set (m' := decide (n < 0)) (v' := .slice a (mag n.natAbs).length c) E2
  refine bodyPost_ret (results_oneN Try.results23 rfl (load28 E9)) rfl ⟨_, _, _, rfl, I.keepN fun b off ha => ?_, below_setCell (below_setCell B3 (Nat.le_refl _)) (Nat.le_refl _)⟩
  have hne : b ≠ w.heap.size := by
    subst ha
    have := hgt b rfl
    omega
  exact (heap_setCell_other _ ⟨w.heap.size, 1, none⟩ b _ hne).trans (heap_setCell_other _ ⟨w.heap.size, 0, none⟩ b _ hne)
theorem Try.results22 : Try.f22.results = #[.cell 4 31, .tmp 5] := by kernel_rfl
set_option maxHeartbeats 2000000 in
theorem pair_ok {w : World} (m n : Bool) {ja ka : Option Addr} {jn jc kn kc : Nat} {xs ys : List Int} (h1 : IsB w ja jn jc xs) (h2 : IsB w ka kn kc ys) (r1 : rightB m xs = true) (r2 : rightB n ys = true) (s1 : smallB m xs = true) (s2 : smallB n ys = true) :
    Calls Try.prog 22 #[.agg #[.bool m, .slice ja jn jc], .agg #[.bool n, .slice ka kn kc]] w fun e w' => e = .returned (.tuple #[.agg #[.bool true, .bool false, .slice none 0 0, .complex .f64 (floatOfInt .f64 (smallI m xs)) (floatOfInt .f64 (smallI n ys))], .int .i64 0]) ∧ Below w.heap.size w w' := by
  have E1 := oldF (oldF (newF w (intB m (.slice ja jn jc))) (intB n (.slice ka kn kc))) (numP false false (.slice none 0 0) 0 0)
  have E2 := oldF (newF (w.alloc (intB m (.slice ja jn jc))) (intB n (.slice ka kn kc))) (numP false false (.slice none 0 0) 0 0)
  have E3 := newF ((w.alloc (intB m (.slice ja jn jc))).alloc (intB n (.slice ka kn kc))) (numP false false (.slice none 0 0) 0 0)
  have B3 : Below w.heap.size w (((w.alloc (intB m (.slice ja jn jc))).alloc (intB n (.slice ka kn kc))).alloc (numP false false (.slice none 0 0) 0 0)) := below_sizeF (below_sizeF box_belowF (Nat.le_refl _) box_belowF) (Nat.le_refl _) box_belowF
  rw [size1] at E2
  rw [size1, size1] at E3
  have I1 := h1.below B3
  have I2 := h2.below B3
  unfold intB numP at E1 E2 E3 B3 I1 I2
  go_enter Try.func22, Try.ntmps22
  go_wp2_with fail
  generalize ((w.alloc (.cells #[.bool m, .slice ja jn jc] 28)).alloc (.cells #[.bool n, .slice ka kn kc] 28)).alloc (.cells #[.bool false, .bool false, .slice none 0 0, .complex .f64 0 0] 31) = w1 at *
  replace E1 : w1.heap[w.heap.size]? = some (intB m (.slice ja jn jc)) := E1
  replace E2 : w1.heap[w.heap.size + 1]? = some (intB n (.slice ka kn kc)) := E2
  replace E3 : w1.heap[w.heap.size + 1 + 1]? = some (numP false false (.slice none 0 0) 0 0) := E3
  have hr5 : w.heap.size ≤ w.heap.size + 1 + 1 := by omega
  generalize w.heap.size + 1 + 1 = b3 at *
  generalize w.heap.size + 1 = b2 at *
  refine (right_any m I1).mono ?_
  rintro e w2 ⟨rfl, B2⟩
  rw [r1]
  replace E1 := (B2.block _ (lt_of_blockF E1)).trans E1
  replace E2 := (B2.block _ (lt_of_blockF E2)).trans E2
  replace E3 := (B2.block _ (lt_of_blockF E3)).trans E3
  replace I1 := I1.below B2
  replace I2 := I2.below B2
  replace B3 := below_sizeF B3 (Nat.le_refl _) B2
  clear B2
  obtain ⟨x0, x1⟩ := intB_cells E1
  obtain ⟨y0, y1⟩ := intB_cells E2
  go_wp2_with fail
  refine (right_any n I2).mono ?_
  rintro e w3 ⟨rfl, B2⟩
  rw [r2]
  replace E1 := (B2.block _ (lt_of_blockF E1)).trans E1
  replace E2 := (B2.block _ (lt_of_blockF E2)).trans E2
  replace E3 := (B2.block _ (lt_of_blockF E3)).trans E3
  replace I1 := I1.below B2
  replace I2 := I2.below B2
  replace B3 := below_sizeF B3 (Nat.le_refl _) B2
  clear B2 x0 x1 y0 y1
  obtain ⟨x0, x1⟩ := intB_cells E1
  go_wp2_with fail
  refine (small_any m I1).mono ?_
  rintro e w4 ⟨rfl, B2⟩
  rw [s1]
  replace E2 := (B2.block _ (lt_of_blockF E2)).trans E2
  replace E3 := (B2.block _ (lt_of_blockF E3)).trans E3
  replace I2 := I2.below B2
  replace B3 := below_sizeF B3 (Nat.le_refl _) B2
  clear B2 x0 x1 E1 I1
  obtain ⟨y0, y1⟩ := intB_cells E2
  go_wp2_with fail
  refine (small_any n I2).mono ?_
  rintro e w5 ⟨rfl, B2⟩
  rw [s2]
  replace E3 := (B2.block _ (lt_of_blockF E3)).trans E3
  replace B3 := below_sizeF B3 (Nat.le_refl _) B2
  clear B2 y0 y1 E2 I2
  obtain ⟨z0, z1, z2, z3, zf⟩ := numP_cells E3
  have hcv := fun (w : World) (n : Int) => run_convert_int_float (P := Try.prog) w 2 25 .i64 .f64 n (by kernel_rfl) Try.underlying25
  have hsc := stC_run
  go_wp2
  clear z0 z1 z2 z3 zf
  have E9 := stP_blk E3 true false (.slice none 0 0) (floatOfInt .f64 (smallI m xs)) (floatOfInt .f64 (smallI n ys))
  exact bodyPost_ret (v := .tuple #[.agg #[.bool true, .bool false, .slice none 0 0, .complex .f64 (floatOfInt .f64 (smallI m xs)) (floatOfInt .f64 (smallI n ys))], .int .i64 0]) (results_twoN Try.results22 rfl (load31 E9) rfl) rfl ⟨rfl, stP_below B3 hr5 _ _ _ _ _⟩
end Go.Proofs.Ytkpngpongbpfgaa
