/- The document's Get. -/
import Derived.Test.YtkpngpongbpfgaaGetN
import Derived.StillTailTactics
namespace Go.Proofs.Ytkpngpongbpfgaa
open Go.RowKit
set_option maxRecDepth 100000
def stF (w : World) (b : Nat) (p m : Bool) (v : Value) (x y : Nat) : World := ((((w.setCell ⟨b, 0, none⟩ (.bool p)).setCell ⟨b, 1, none⟩ (.bool m)).setCell ⟨b, 2, none⟩ v).setCell ⟨b, 3, none⟩ (.float .f64 x)).setCell ⟨b, 4, none⟩ (.float .f64 y)
theorem stF_blk {w : World} {b : Nat} {p0 m0 : Bool} {v0 : Value} {x0 y0 : Nat} (h : w.heap[b]? = some (numR p0 m0 v0 x0 y0)) (p m : Bool) (v : Value) (x y : Nat) : (stF w b p m v x y).heap[b]? = some (numR p m v x y) := by
  have h1 : (w.setCell ⟨b, 0, none⟩ (.bool p)).heap[b]? = some (numR p m0 v0 x0 y0) := by
    unfold numR at h ⊢
    rw [heap_setCell_same w b 0 _ _ _ h]
    simp
  have h2 : ((w.setCell ⟨b, 0, none⟩ (.bool p)).setCell ⟨b, 1, none⟩ (.bool m)).heap[b]? = some (numR p m v0 x0 y0) := by
    unfold numR at h1 ⊢
    rw [heap_setCell_same _ b 1 _ _ _ h1]
    simp
  have h3 : (((w.setCell ⟨b, 0, none⟩ (.bool p)).setCell ⟨b, 1, none⟩ (.bool m)).setCell ⟨b, 2, none⟩ v).heap[b]? = some (numR p m v x0 y0) := by
    unfold numR at h2 ⊢
    rw [heap_setCell_same _ b 2 _ _ _ h2]
    simp
  have h4 : ((((w.setCell ⟨b, 0, none⟩ (.bool p)).setCell ⟨b, 1, none⟩ (.bool m)).setCell ⟨b, 2, none⟩ v).setCell ⟨b, 3, none⟩ (.float .f64 x)).heap[b]? = some (numR p m v x y0) := by
    unfold numR at h3 ⊢
    rw [heap_setCell_same _ b 3 _ _ _ h3]
    simp
  unfold stF
  unfold numR at h4 ⊢
  rw [heap_setCell_same _ b 4 _ _ _ h4]
  simp
theorem stF_other {w : World} {b g : Nat} (h : g ≠ b) (p m : Bool) (v : Value) (x y : Nat) : (stF w b p m v x y).heap[g]? = w.heap[g]? :=
  (heap_setCell_other _ ⟨b, 4, none⟩ g _ h).trans ((heap_setCell_other _ ⟨b, 3, none⟩ g _ h).trans ((heap_setCell_other _ ⟨b, 2, none⟩ g _ h).trans ((heap_setCell_other _ ⟨b, 1, none⟩ g _ h).trans (heap_setCell_other _ ⟨b, 0, none⟩ g _ h))))
theorem stF_below {B b : Nat} {w w' : World} (h : Below B w w') (hb : B ≤ b) (p m : Bool) (v : Value) (x y : Nat) : Below B w (stF w' b p m v x y) := below_setCell (below_setCell (below_setCell (below_setCell (below_setCell h hb) hb) hb) hb) hb
theorem load27 {w : World} {b : Nat} {p m : Bool} {v : Value} {x y : Nat} (h : w.heap[b]? = some (numR p m v x y)) : (loadVar 27 ⟨b, 0, none⟩).run Try.prog w = .ok (.agg #[.bool p, .bool m, v, .float .f64 x, .float .f64 y]) w := by
  obtain ⟨h0, h1, h2, h3, h4, _⟩ := numR_cells h
  have hr := run_loadCells_list (P := Try.prog) w ⟨b, 0, none⟩ [.bool p, .bool m, v, .float .f64 x, .float .f64 y] (fun i u hi => by
    rw [addr_addN]
    match i, hi with
    | 0, hi => simp at hi; subst hi; exact h0
    | 1, hi => simp at hi; subst hi; exact h1
    | 2, hi => simp at hi; subst hi; exact h2
    | 3, hi => simp at hi; subst hi; exact h3
    | 4, hi => simp at hi; subst hi; exact h4
    | _ + 5, hi => simp at hi)
  have hagg : (isAgg 27).run Try.prog w = .ok true w := by simp [isAgg, run_underlying Try.underlying27]
  have hr' : (loadCells ⟨b, 0, none⟩ 5).run Try.prog w = .ok #[.bool p, .bool m, v, .float .f64 x, .float .f64 y] w := hr
  simp [loadVar, hagg, hr']
theorem Try.results42 : Try.f42.results = #[.cell 4 27] := by kernel_rfl
theorem of_anyR (x y : Nat) (w : World) : Calls Try.prog 42 #[.float .f64 x, .float .f64 y] w fun e w' => e = .returned (.agg #[.bool true, .bool false, .slice none 0 0, .float .f64 x, .float .f64 y]) ∧ Below w.heap.size w w' := by
  have E1 := newF w (numR false false (.slice none 0 0) 0 0)
  have B1 : Below w.heap.size w (w.alloc (numR false false (.slice none 0 0) 0 0)) := box_belowF
  have hsc := stF_run
  unfold numR at E1 B1
  go_enter Try.func42, Try.ntmps42
  go_upto_region 1 with fail
  generalize w.alloc (.cells #[.bool false, .bool false, .slice none 0 0, .float .f64 0, .float .f64 0] 27) = w1 at *
  replace E1 : w1.heap[w.heap.size]? = some (numR false false (.slice none 0 0) 0 0) := E1
  obtain ⟨z0, z1, z2, z3, z4, zf⟩ := numR_cells E1
  have E9 := stF_blk E1 true false (.slice none 0 0) x y
  go_wp2
  exact bodyPost_ret (v := .agg #[.bool true, .bool false, .slice none 0 0, .float .f64 x, .float .f64 y]) (results_oneN Try.results42 rfl (load27 E9)) rfl ⟨rfl, stF_below B1 (Nat.le_refl _) _ _ _ _ _⟩
end Go.Proofs.Ytkpngpongbpfgaa
