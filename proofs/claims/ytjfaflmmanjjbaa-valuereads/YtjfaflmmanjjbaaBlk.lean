/- Blocks: what a call owns, what a store leaves alone; an object's block. -/
import Derived.Test.YtjfaflmmanjjbaaCopy
namespace Go.Proofs.Ytjfaflmmanjjbaa
open Go.RowKit
set_option maxRecDepth 100000
theorem own_block {w : World} {n₀ e sz n : Nat} {v : Value} {xs : List Value} (h : w.ownsRow n₀ e sz v n xs) {g : Nat} (hg : v.ownBlock = some g) : n₀ ≤ g ∧ ∃ cur, w.heap[g]? = some (.cells cur e (0, 0)) := by
  rcases h.2 with ⟨rfl, _⟩ | ⟨g', cap, cur, rfl, hb, hh, _⟩
  · simp [Value.ownBlock] at hg
  · simp [Value.ownBlock] at hg
    subst hg
    exact ⟨hb, cur, hh⟩
theorem cells_ty {c c' : Array Value} {t t' : Nat} (h : some (Obj.cells c t (0, 0)) = some (Obj.cells c' t' (0, 0))) : t = t' := by
  simp at h
  exact h.2
theorem own_same {w w' : World} {n₀ e sz n : Nat} {v : Value} {xs : List Value} (h : w.ownsRow n₀ e sz v n xs) (hk : ∀ g, v.ownBlock = some g → w'.heap[g]? = w.heap[g]?) : w'.ownsRow n₀ e sz v n xs := by
  obtain ⟨h1, h2⟩ := h
  refine ⟨h1, ?_⟩
  rcases h2 with ⟨rfl, h3⟩ | ⟨g', cap, cur, rfl, hb, hh, h4⟩
  · exact .inl ⟨rfl, h3⟩
  · exact .inr ⟨g', cap, cur, rfl, hb, (hk g' rfl).trans hh, h4⟩
theorem own_ne {w : World} {n₀ e sz n b t : Nat} {v : Value} {xs : List Value} {c : Array Value} (h : w.ownsRow n₀ e sz v n xs) (hb : w.heap[b]? = some (.cells c t (0, 0))) (ht : t ≠ e) : v.ownBlock ≠ some b := by
  intro hv
  obtain ⟨_, cur, hh⟩ := own_block h hv
  rw [hh] at hb
  exact ht (cells_ty hb).symm
theorem own_setCell {w : World} {n₀ e sz n b t i : Nat} {v x : Value} {xs : List Value} {c : Array Value} (h : w.ownsRow n₀ e sz v n xs) (hb : w.heap[b]? = some (.cells c t (0, 0))) (ht : t ≠ e) : (w.setCell ⟨b, i, none⟩ x).ownsRow n₀ e sz v n xs :=
  own_same h (fun g hg => heap_setCell_other _ _ _ _ (fun e' => own_ne h hb ht (by rw [hg, e'])))
theorem below_setCell {B b i : Nat} {w w' : World} {x : Value} (h : Below B w w') (hb : B ≤ b) : Below B w (w'.setCell ⟨b, i, none⟩ x) :=
  ⟨h.os, h.tape, h.output, by simpa using h.size, fun j hj => (heap_setCell_other _ _ _ _ (by show j ≠ b; omega)).trans (h.block j hj)⟩
/-- An object's block. -/
def objB (c : Int) (v1 v2 : Value) : Obj := .cells #[.int .i64 c, v1, v2] 27 (0, 0)
theorem obj_cells {w : World} {b : Nat} {c : Int} {v1 v2 : Value} (h : w.heap[b]? = some (objB c v1 v2)) : w.cell? ⟨b, 0, none⟩ = some (.int .i64 c) ∧ w.cell? ⟨b, 1, none⟩ = some v1 ∧ w.cell? ⟨b, 2, none⟩ = some v2 ∧ ∀ i, w.frozen? ⟨b, i, none⟩ = false := by
  unfold objB at h
  refine ⟨?_, ?_, ?_, fun i => frozen_of_row w b i _ _ h⟩ <;> (rw [cell_of_row w b _ _ _ _ h]; rfl)
theorem obj_set1 {w : World} {b : Nat} {c : Int} {v1 v2 : Value} (h : w.heap[b]? = some (objB c v1 v2)) (v : Value) : (w.setCell ⟨b, 1, none⟩ v).heap[b]? = some (objB c v v2) := by
  unfold objB at h ⊢
  rw [heap_setCell_same w b 1 _ _ _ h]
  simp
theorem obj_set2 {w : World} {b : Nat} {c : Int} {v1 v2 : Value} (h : w.heap[b]? = some (objB c v1 v2)) (v : Value) : (w.setCell ⟨b, 2, none⟩ v).heap[b]? = some (objB c v1 v) := by
  unfold objB at h ⊢
  rw [heap_setCell_same w b 2 _ _ _ h]
  simp
theorem load27 {w : World} {b off : Nat} {v0 v1 v2 : Value} (h0 : w.cell? ⟨b, off, none⟩ = some v0) (h1 : w.cell? ⟨b, off + 1, none⟩ = some v1) (h2 : w.cell? ⟨b, off + 2, none⟩ = some v2) : (loadVar 27 ⟨b, off, none⟩).run Try.prog w = .ok (.agg #[v0, v1, v2]) w := by
  have hr := run_loadCells_list (P := Try.prog) w ⟨b, off, none⟩ [v0, v1, v2] (fun i v hi => by
    rw [addr_add]
    match i, hi with
    | 0, hi => simp at hi; subst hi; exact h0
    | 1, hi => simp at hi; subst hi; exact h1
    | 2, hi => simp at hi; subst hi; exact h2
    | _ + 3, hi => simp at hi)
  have hagg : (isAgg 27).run Try.prog w = .ok true w := by simp [isAgg, run_underlying Try.underlying27]
  have hr' : (loadCells ⟨b, off, none⟩ 3).run Try.prog w = .ok #[v0, v1, v2] w := hr
  simp [loadVar, hagg, hr']
theorem results_cell {P : Program} {fn : Func} {tmps : Array Value} {a t : Nat} {ad : Addr} {w : World} {v : Value} (hf : fn.results = #[.cell a t]) (ha : tmps[a]?.getD undef = .pointer (some ad)) (hl : (loadVar t ad).run P w = .ok v w) : (results fn tmps).run P w = .ok v w := by
  unfold results
  rw [hf]
  simp [ha, asAddr, hl]
/-- An object stored whole. -/
def stO (w : World) (b : Nat) (c : Int) (v1 v2 : Value) : World := ((w.setCell ⟨b, 0, none⟩ (.int .i64 c)).setCell ⟨b, 1, none⟩ v1).setCell ⟨b, 2, none⟩ v2
theorem obj_set0 {w : World} {b : Nat} {c : Int} {v1 v2 : Value} (h : w.heap[b]? = some (objB c v1 v2)) (d : Int) : (w.setCell ⟨b, 0, none⟩ (.int .i64 d)).heap[b]? = some (objB d v1 v2) := by
  unfold objB at h ⊢
  rw [heap_setCell_same w b 0 _ _ _ h]
  simp
theorem stO_blk {w : World} {b : Nat} {c0 : Int} {u1 u2 : Value} (h : w.heap[b]? = some (objB c0 u1 u2)) (c : Int) (v1 v2 : Value) : (stO w b c v1 v2).heap[b]? = some (objB c v1 v2) := obj_set2 (obj_set1 (obj_set0 h c) v1) v2
theorem stO_other {w : World} {b g : Nat} (h : g ≠ b) (c : Int) (v1 v2 : Value) : (stO w b c v1 v2).heap[g]? = w.heap[g]? :=
  (heap_setCell_other _ ⟨b, 2, none⟩ g v2 h).trans ((heap_setCell_other _ ⟨b, 1, none⟩ g v1 h).trans (heap_setCell_other _ ⟨b, 0, none⟩ g _ h))
theorem stO_own {w : World} {n₀ e sz n b : Nat} {v : Value} {xs : List Value} (h : w.ownsRow n₀ e sz v n xs) {c0 : Int} {u1 u2 : Value} (hb : w.heap[b]? = some (objB c0 u1 u2)) (ht : 27 ≠ e) (c : Int) (v1 v2 : Value) : (stO w b c v1 v2).ownsRow n₀ e sz v n xs :=
  own_same h (fun g hg => stO_other (fun e' => own_ne h hb ht (by rw [hg, e'])) c v1 v2)
theorem stO_below {B b : Nat} {w w' : World} (h : Below B w w') (hb : B ≤ b) (c : Int) (v1 v2 : Value) : Below B w (stO w' b c v1 v2) := below_setCell (below_setCell (below_setCell h hb) hb) hb
end Go.Proofs.Ytjfaflmmanjjbaa
