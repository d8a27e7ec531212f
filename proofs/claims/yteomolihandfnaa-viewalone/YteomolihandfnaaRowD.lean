/- Records in blocks. -/
import Derived.Test.YteomolihandfnaaRowC
namespace Go.Proofs.Yteomolihandfnaa
open Go.RowKit 
set_option maxRecDepth 100000
theorem Gr.of {base : Nat} {w w' : World} (h : Below w.heap.size w w') (hb : base ≤ w.heap.size) : Gr base w w' := ⟨h.mono hb, fun g _ _ _ hg => (h.block g (lt_of_block hg)).trans hg⟩
theorem But.of {b : Nat} {w w' : World} (h : Below w.heap.size w w') : But b w w' := ⟨h.os, h.tape, h.output, h.size, fun i hi _ => h.block i hi⟩
theorem But.set {b i : Nat} {w : World} {x : Value} : But b w (w.setCell ⟨b, i, none⟩ x) := ⟨rfl, rfl, rfl, by simp, fun j _ hj => heap_setCell_other _ _ _ _ hj⟩
theorem eval_some {a : Act} {k : Nat} {v : Value} (h : a.tmps[k]? = some v) : a.eval (.tmp k) = v := by simp [Act.eval, h]
set_option maxRecDepth 100000
theorem rec_frozen {w : World} {b t : Nat} {c : Int} {v : Value} (h : w.heap[b]? = some (recB c v t)) : ∀ i, w.frozen? ⟨b, i, none⟩ = false := fun i => by
  unfold World.frozen?
  rw [h]
  rfl
theorem rec_set1 {w : World} {b t : Nat} {c : Int} {v : Value} (h : w.heap[b]? = some (recB c v t)) (v' : Value) : (w.setCell ⟨b, 1, none⟩ v').heap[b]? = some (recB c v' t) := by
  unfold recB at h ⊢
  rw [heap_setCell_same w b 1 _ _ _ h]
  simp
theorem lit_cells {w : World} {y : Cs} {t : Nat} : ∀ (j : Nat) (v : Value), y.cells[j]? = some v → (w.alloc (.cells #[.int .i64 y.x.oop, .bool y.x.gone, .int .i64 y.x.cls, .slice y.sa y.sn y.sc, .slice y.ba y.bn y.bc] t)).cell? ⟨w.heap.size, j, none⟩ = some v := by
  intro j v hj
  have h := heap_alloc_new w (.cells #[.int .i64 y.x.oop, .bool y.x.gone, .int .i64 y.x.cls, .slice y.sa y.sn y.sc, .slice y.ba y.bn y.bc] t)
  rw [cell_of_row _ _ _ _ _ _ h]
  match j, hj with
  | 0, hj => exact hj
  | 1, hj => exact hj
  | 2, hj => exact hj
  | 3, hj => exact hj
  | 4, hj => exact hj
  | j + 5, hj => simp [Cs.cells] at hj
/-- All blocks below a number are as they were, but one. -/
structure FrN (N b : Nat) (w w' : World) : Prop where
  os : w'.os = w.os
  tape : w'.tape = w.tape
  output : w'.output = w.output
  size : w.heap.size ≤ w'.heap.size
  block : ∀ i, i < N → i ≠ b → w'.heap[i]? = w.heap[i]?
theorem FrN.refl (N b : Nat) (w : World) : FrN N b w w := ⟨rfl, rfl, rfl, Nat.le_refl _, fun _ _ _ => rfl⟩
theorem FrN.trans {N b : Nat} {w w1 w2 : World} (h : FrN N b w w1) (k : FrN N b w1 w2) : FrN N b w w2 := ⟨k.os.trans h.os, k.tape.trans h.tape, k.output.trans h.output, Nat.le_trans h.size k.size, fun i hi hb => (k.block i hi hb).trans (h.block i hi hb)⟩
theorem FrN.of {N b : Nat} {w w' : World} (h : Below N w w') : FrN N b w w' := ⟨h.os, h.tape, h.output, h.size, fun i hi _ => h.block i hi⟩
theorem FrN.set {N b i : Nat} {w : World} {x : Value} : FrN N b w (w.setCell ⟨b, i, none⟩ x) := ⟨rfl, rfl, rfl, by simp, fun j _ hj => heap_setCell_other _ _ _ _ hj⟩
theorem FrN.below {N M b : Nat} {w0 w w' : World} (k : FrN N b w w') (B : Below M w0 w) (hM : M ≤ N) (hb : M ≤ b) : Below M w0 w' :=
  B.trans ⟨k.os, k.tape, k.output, k.size, fun i hi => k.block i (by omega) (by omega)⟩
theorem OwnC.set {w : World} {base e b i t : Nat} {v x : Value} {xs : List Ch} {c : Array Value} (h : OwnC w base e v xs) (hb : w.heap[b]? = some (.cells c t (0, 0))) (h1 : t ≠ e) (h2 : t ≠ 23) (h3 : t ≠ 5) : OwnC (w.setCell ⟨b, i, none⟩ x) base e v xs := by
  obtain ⟨ss, k1, k2, k3, k4⟩ := h
  refine ⟨ss, own_setCell k1 hb h1, k2, fun s hs => (k3 s hs).same fun g cur e' he hg => heap_setCell_other _ _ _ _ ?_, k4⟩
  rintro rfl
  rw [hb] at hg
  have := cells_ty hg
  omega
end Go.Proofs.Yteomolihandfnaa
