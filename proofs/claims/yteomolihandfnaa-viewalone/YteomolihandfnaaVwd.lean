/- A view in memory: New, Base, Read. -/
import Derived.Test.YteomolihandfnaaBth
namespace Go.Proofs.Yteomolihandfnaa
open Go.RowKit
set_option maxRecDepth 100000
structure Ob where
  cls : Int
  vs : List (Int × Int)
  bs : List Int
structure Vw where
  base : Int
  reads : Int → Bool
  own : Int → Option Ob
  made : Int
def viewB (tb : Nat) (base : Int) (rm om : Option Nat) (made : Int) : Obj := .cells #[.pointer (some ⟨tb, 0, none⟩), .int .i64 base, .map rm, .map om, .int .i64 made] 83 (0, 0)
theorem view_cells {w : World} {b tb : Nat} {base made : Int} {rm om : Option Nat} (h : w.heap[b]? = some (viewB tb base rm om made)) : w.cell? ⟨b, 0, none⟩ = some (.pointer (some ⟨tb, 0, none⟩)) ∧ w.cell? ⟨b, 1, none⟩ = some (.int .i64 base) ∧ w.cell? ⟨b, 2, none⟩ = some (.map rm) ∧ w.cell? ⟨b, 3, none⟩ = some (.map om) ∧ w.cell? ⟨b, 4, none⟩ = some (.int .i64 made) := by
  unfold viewB at h
  refine ⟨?_, ?_, ?_, ?_, ?_⟩ <;> rw [cell_of_row w b _ _ _ _ h] <;> rfl
theorem view_frozen {w : World} {b tb : Nat} {base made : Int} {rm om : Option Nat} (h : w.heap[b]? = some (viewB tb base rm om made)) (k : Nat) : w.frozen? ⟨b, k, none⟩ = false := by
  unfold World.frozen?
  unfold viewB at h
  rw [h]
  rfl
theorem view_set2 {w : World} {b tb : Nat} {base made : Int} {rm om : Option Nat} (h : w.heap[b]? = some (viewB tb base rm om made)) (rm' : Option Nat) : (w.setCell ⟨b, 2, none⟩ (.map rm')).heap[b]? = some (viewB tb base rm' om made) := by
  unfold viewB at h ⊢
  rw [heap_setCell_same w _ 2 _ _ _ h]
  simp
theorem view_set3 {w : World} {b tb : Nat} {base made : Int} {rm om : Option Nat} (h : w.heap[b]? = some (viewB tb base rm om made)) (om' : Option Nat) : (w.setCell ⟨b, 3, none⟩ (.map om')).heap[b]? = some (viewB tb base rm om' made) := by
  unfold viewB at h ⊢
  rw [heap_setCell_same w _ 3 _ _ _ h]
  simp
theorem view_set4 {w : World} {b tb : Nat} {base made : Int} {rm om : Option Nat} (h : w.heap[b]? = some (viewB tb base rm om made)) (made' : Int) : (w.setCell ⟨b, 4, none⟩ (.int .i64 made')).heap[b]? = some (viewB tb base rm om made') := by
  unfold viewB at h ⊢
  rw [heap_setCell_same w _ 4 _ _ _ h]
  simp
/-- The map of what was read. -/
def RdM (w : World) (V : Nat → Prop) (rm : Option Nat) (rd : Int → Bool) : Prop := match rm with
  | none => ∀ k, rd k = false
  | some mb => ∃ F, IsMap w mb F ∧ V mb ∧ ∀ k, rd k = (F k).isSome
/-- An object that stands in the map of one's own. -/
def ObV (w : World) (Q : Nat → Prop) (v : Value) (o : Ob) : Prop := ∃ sa sn sc ba bn bc, v = .agg #[.int .i64 o.cls, .slice sa sn sc, .slice ba bn bc] ∧ OwnV w 0 (.slice sa sn sc) o.vs ∧ OwnB w 0 (.slice ba bn bc) o.bs ∧ InT Q (.slice sa sn sc) ∧ InT Q (.slice ba bn bc)
def OwF (w : World) (Q : Nat → Prop) (F : Int → Option Value) (ow : Int → Option Ob) : Prop := ∀ k, match F k with
  | none => ow k = none
  | some v => ∃ o, ow k = some o ∧ ObV w Q v o
def OwM (w : World) (V Q : Nat → Prop) (om : Option Nat) (ow : Int → Option Ob) : Prop := match om with
  | none => ∀ k, ow k = none
  | some mb => ∃ F, IsMap w mb F ∧ V mb ∧ OwF w Q F ow
/-- What holds of an object in a view. -/
def ObG (o : Ob) : Prop := okWO o.cls o.vs o.bs.length = true
structure Vb (w : World) (V Q : Nat → Prop) (b tb : Nat) (v : Vw) : Prop where
  blk : ∃ rm om, w.heap[b]? = some (viewB tb v.base rm om v.made) ∧ RdM w V rm v.reads ∧ OwM w V Q om v.own ∧ ∀ mb, rm = some mb → om ≠ some mb
  own : V b
  lt : ∀ g, V g ∨ Q g → g < w.heap.size
  dis : ∀ g, Q g → ¬ V g
  ty : ∀ g cur e, V g → w.heap[g]? = some (Obj.cells cur e (0, 0)) → e = 83
  made0 : 0 ≤ v.made ∧ v.made ≤ 4096
  good : ∀ k o, v.own k = some o → ObG o
theorem ObV.same {w w' : World} {Q Q' : Nat → Prop} {v : Value} {o : Ob} (h : ObV w Q v o) (hQ : ∀ g, Q g → Q' g) (hk : ∀ g, Q g → w'.heap[g]? = w.heap[g]?) : ObV w' Q' v o := by
  obtain ⟨sa, sn, sc, ba, bn, bc, e, h1, h2, h3, h4⟩ := h
  exact ⟨sa, sn, sc, ba, bn, bc, e, h1.same (fun g hg => hk g (h3 g hg)), h2.same (fun g hg => hk g (h4 g hg)), fun g hg => hQ g (h3 g hg), fun g hg => hQ g (h4 g hg)⟩
theorem OwF.same {w w' : World} {Q Q' : Nat → Prop} {F : Int → Option Value} {ow : Int → Option Ob} (h : OwF w Q F ow) (hQ : ∀ g, Q g → Q' g) (hk : ∀ g, Q g → w'.heap[g]? = w.heap[g]?) : OwF w' Q' F ow := by
  intro k
  have := h k
  cases hF : F k with
  | none => rw [hF] at this; exact this
  | some v =>
    rw [hF] at this
    obtain ⟨o, h1, h2⟩ := this
    exact ⟨o, h1, h2.same hQ hk⟩
theorem RdM.same {w w' : World} {V V' : Nat → Prop} {rm : Option Nat} {rd : Int → Bool} (h : RdM w V rm rd) (hV : ∀ g, V g → V' g) (hk : ∀ mb, rm = some mb → w'.heap[mb]? = w.heap[mb]?) : RdM w' V' rm rd := by
  cases rm with
  | none => exact h
  | some mb =>
    obtain ⟨F, h1, h2, h3⟩ := h
    exact ⟨F, h1.same (hk mb rfl), hV mb h2, h3⟩
theorem OwM.same {w w' : World} {V V' Q Q' : Nat → Prop} {om : Option Nat} {ow : Int → Option Ob} (h : OwM w V Q om ow) (hV : ∀ g, V g → V' g) (hQ : ∀ g, Q g → Q' g) (hk : ∀ mb, om = some mb → w'.heap[mb]? = w.heap[mb]?) (hq : ∀ g, Q g → w'.heap[g]? = w.heap[g]?) : OwM w' V' Q' om ow := by
  cases om with
  | none => exact h
  | some mb =>
    obtain ⟨F, h1, h2, h3⟩ := h
    exact ⟨F, h1.same (hk mb rfl), hV mb h2, h3.same hQ hq⟩
theorem RdM.in_ {w : World} {V : Nat → Prop} {rm : Option Nat} {rd : Int → Bool} (h : RdM w V rm rd) {mb : Nat} (e : rm = some mb) : V mb ∧ ∃ es c, w.heap[mb]? = some (.map es c) := by
  subst e
  obtain ⟨F, ⟨L, c, hb, _⟩, h2, _⟩ := h
  exact ⟨h2, _, c, hb⟩
theorem OwM.in_ {w : World} {V Q : Nat → Prop} {om : Option Nat} {ow : Int → Option Ob} (h : OwM w V Q om ow) {mb : Nat} (e : om = some mb) : V mb ∧ ∃ es c, w.heap[mb]? = some (.map es c) := by
  subst e
  obtain ⟨F, ⟨L, c, hb, _⟩, h2, _⟩ := h
  exact ⟨h2, _, c, hb⟩
theorem Vb.same {w w' : World} {V Q : Nat → Prop} {b tb : Nat} {v : Vw} (h : Vb w V Q b tb v) (hsz : w.heap.size ≤ w'.heap.size) (hk : ∀ g, V g ∨ Q g → w'.heap[g]? = w.heap[g]?) : Vb w' V Q b tb v := by
  obtain ⟨rm, om, h1, h2, h3, h4⟩ := h.blk
  refine ⟨⟨rm, om, (hk b (.inl h.own)).trans h1, h2.same (fun _ h => h) (fun mb e => hk mb (.inl (h2.in_ e).1)), h3.same (fun _ h => h) (fun _ h => h) (fun mb e => hk mb (.inl (h3.in_ e).1)) (fun g hg => hk g (.inr hg)), h4⟩, h.own, fun g hg => Nat.lt_of_lt_of_le (h.lt g hg) hsz, h.dis, fun g cur e hg hh => h.ty g cur e hg (by rw [← hk g (.inl hg)]; exact hh), h.made0, h.good⟩
theorem Vb.below {w w' : World} {V Q : Nat → Prop} {b tb : Nat} {v : Vw} (h : Vb w V Q b tb v) (hb : Below w.heap.size w w') : Vb w' V Q b tb v := h.same hb.size (fun g hg => hb.block g (h.lt g hg))
def vw0 (c : Int) : Vw := ⟨c, fun _ => false, fun _ => none, 0⟩
theorem vnew_any {w : World} {b : Nat} {f l : Int} {mv : Option Nat} (h : w.heap[b]? = some (tabB f l mv)) : Calls Try.prog 16 #[.pointer (some ⟨b, 0, none⟩)] w fun e w' => e = .returned (.pointer (some ⟨w.heap.size, 0, none⟩)) ∧ w' = w.alloc (viewB b l none none 0) := by
  go_enter Try.func16, Try.ntmps16
  go_wp2_with fail
  refine (last_any h).mono ?_
  rintro e w' ⟨rfl, rfl⟩
  go_wp2
  go_ret
  exact ⟨rfl, rfl⟩
theorem Vb.new (w : World) (b : Nat) (c : Int) : Vb (w.alloc (viewB b c none none 0)) (fun g => g = w.heap.size) (fun _ => False) w.heap.size b (vw0 c) := by
  refine ⟨⟨none, none, new1 _ _, fun _ => rfl, fun _ => rfl, fun _ h => by cases h⟩, rfl, fun g hg => ?_, fun g hg => hg.elim, fun g cur e hg hh => ?_, by simp [vw0], fun k o h => by simp [vw0] at h⟩
  · rcases hg with hg | hg
    · rw [hg]; simp
    · exact hg.elim
  · rw [hg, new1] at hh
    unfold viewB at hh
    cases hh
    rfl
theorem vbase_any {w : World} {b tb : Nat} {base made : Int} {rm om : Option Nat} (h : w.heap[b]? = some (viewB tb base rm om made)) : Calls Try.prog 30 #[.pointer (some ⟨b, 0, none⟩)] w fun e w' => e = .returned (.int .i64 base) ∧ w = w' := by
  obtain ⟨x0, x1, x2, x3, x4⟩ := view_cells h
  go_enter Try.func30, Try.ntmps30
  go_wp2
  go_ret
  exact ⟨rfl, rfl⟩
/-- What was read, with one more. -/
def readV (v : Vw) (k : Int) : Vw := if 1 ≤ k ∧ k ≤ 4096 then ⟨v.base, fun i => v.reads i || decide (i = k), v.own, v.made⟩ else v
end Go.Proofs.Yteomolihandfnaa
