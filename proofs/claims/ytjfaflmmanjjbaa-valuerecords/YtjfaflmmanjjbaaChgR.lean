/- The reader: changes. -/
import Derived.Test.YtjfaflmmanjjbaaTaken
import Derived.Test.YtjfaflmmanjjbaaGet
namespace Go.Proofs.Ytjfaflmmanjjbaa
open Go.RowKit
set_option maxRecDepth 100000
/-- One change read. -/
def chR (s : Option (List Int)) : Ch × Option (List Int) :=
  if (oR (nR 4096 s).2).1 = 0 then (⟨((nR 4096 s).1 : Int), false, (objR (oR (nR 4096 s).2).2).1, (objR (oR (nR 4096 s).2).2).2.1, (objR (oR (nR 4096 s).2).2).2.2.1⟩, (objR (oR (nR 4096 s).2).2).2.2.2)
  else if (oR (nR 4096 s).2).1 = 1 then (⟨((nR 4096 s).1 : Int), true, 0, [], []⟩, (oR (nR 4096 s).2).2)
  else (⟨((nR 4096 s).1 : Int), false, 0, [], []⟩, none)
def chsR : Nat → Option (List Int) → List Ch × Option (List Int)
  | 0, s => ([], s)
  | n + 1, s => if (chR s).2 = none then ([], none) else ((chR s).1 :: (chsR n (chR s).2).1, (chsR n (chR s).2).2)
theorem chsR_stop {n : Nat} {s : Option (List Int)} {p : Ch} (h : chR s = (p, none)) : chsR (n + 1) s = ([], none) := by
  simp [chsR, h]
theorem chsR_go {n : Nat} {s : Option (List Int)} {p : Ch} {t : List Int} (h : chR s = (p, some t)) : chsR (n + 1) s = (p :: (chsR n (some t)).1, (chsR n (some t)).2) := by
  simp [chsR, h]
theorem tR_len (s : Option (List Int)) : lenS (tR s).2 ≤ lenS s := by
  unfold tR
  split
  · simp [lenS]
  · simp [lenS]
theorem objR_len (s : Option (List Int)) : lenS (objR s).2.2.2 ≤ lenS s := by
  have h1 := tR_len (slotsR (nR 256 (nR 4096 s).2).1 (nR 256 (nR 4096 s).2).2).2
  have h2 := slotsR_len (nR 256 (nR 4096 s).2).1 (nR 256 (nR 4096 s).2).2
  have h3 := nR_len 256 (nR 4096 s).2
  have h4 := nR_len 4096 s
  unfold objR
  dsimp only
  generalize lenS (tR (slotsR (nR 256 (nR 4096 s).2).1 (nR 256 (nR 4096 s).2).2).2).2 = a at *
  generalize lenS (slotsR (nR 256 (nR 4096 s).2).1 (nR 256 (nR 4096 s).2).2).2 = c at *
  exact Nat.le_trans h1 (Nat.le_trans h2 (Nat.le_trans h3 h4))
theorem OwnC.keep {w w' : World} {base e : Nat} {v : Value} {xs : List Ch} (h : OwnC w base e v xs) (hv : ∀ g, v.ownBlock = some g → w'.heap[g]? = w.heap[g]?) (hk : ∀ (g : Nat) (cur : Array Value) (e' : Nat), (e' = 23 ∨ e' = 5) → w.heap[g]? = some (Obj.cells cur e' (0, 0)) → w'.heap[g]? = w.heap[g]?) : OwnC w' base e v xs := by
  obtain ⟨ss, k1, k2, k3, k4⟩ := h
  exact ⟨ss, own_same k1 hv, k2, fun s hs => (k3 s hs).same hk, k4⟩
theorem OwnC.lt {w : World} {base e : Nat} {v : Value} {xs : List Ch} (h : OwnC w base e v xs) : ∀ g, v.ownBlock = some g → base ≤ g ∧ g < w.heap.size := fun g hg => by
  obtain ⟨ss, k1, _⟩ := h
  obtain ⟨h1, cur, hh⟩ := own_block k1 hg
  exact ⟨h1, lt_of_block hh⟩
theorem OwnC.but {w w' : World} {base e b t : Nat} {v : Value} {xs : List Ch} {c : Array Value} (h : OwnC w base e v xs) (K : But b w w') (hb : w.heap[b]? = some (.cells c t (0, 0))) (h1 : b < base) (h2 : t ≠ 23) (h3 : t ≠ 5) : OwnC w' base e v xs :=
  h.keep (fun g hg => K.block g (h.lt g hg).2 (by have := (h.lt g hg).1; omega)) fun g cur e' he hg => K.block g (lt_of_block hg) (by
    rintro rfl
    rw [hb] at hg
    have := cells_ty hg
    omega)
/-- A store into a block of another kind, that is not the row's own. -/
theorem OwnC.put {w : World} {base e b i t : Nat} {v x : Value} {xs : List Ch} {c : Array Value} (h : OwnC w base e v xs) (hb : w.heap[b]? = some (.cells c t (0, 0))) (h1 : ∀ g, v.ownBlock = some g → g ≠ b) (h2 : t ≠ 23) (h3 : t ≠ 5) : OwnC (w.setCell ⟨b, i, none⟩ x) base e v xs :=
  h.keep (fun g hg => heap_setCell_other _ _ _ _ (h1 g hg)) fun g cur e' he hg => heap_setCell_other _ _ _ _ (by
    rintro rfl
    rw [hb] at hg
    have := cells_ty hg
    omega)
/-- append of one change. -/
theorem app_chL {ops : Array Oper} {rest : List Oper} {o : Oper} {a : Act} {Q : Exit → Act → World → Prop} (w : World) (hgd : o.guard = none) (s x : Operand)
    (ho : o.op = .call { callee := .builtin .append, args := #[s, x], argTypes := #[50, 50] })
    (base : Nat) (v : Value) (xs : List Ch) (hs : a.eval s = v) (hown : OwnC w base 77 v xs)
    (b : Nat) (y : Cs) (hx : a.eval x = .slice (some ⟨b, 0, none⟩) 1 1) (hc : ∀ j v, y.cells[j]? = some v → w.cell? ⟨b, j, none⟩ = some v) (hy : El w y) (hyo : -9223372036854775808 ≤ y.x.oop ∧ y.x.oop ≤ 9223372036854775807)
    (h47 : xs.length ≤ 1954687338265) (hbase : base ≤ w.heap.size)
    (h : ∀ a' n' c' w', OwnC w' base 77 (.slice a' n' c') (xs ++ [y.x]) → Below base w w' → wpList Try.prog ops Q rest (a.put o.dst (.slice a' n' c')) w') : wpList Try.prog ops Q (o :: rest) a w := by
  obtain ⟨i0, hi, hz0, hz1, hz2⟩ := info_parts Try.info77
  obtain ⟨ss, h1, h2, h3, h4⟩ := hown
  have hl : ss.length = xs.length := by rw [← h2, List.length_map]
  refine wpList_append_own w hgd s x 50 ho base 77 i0 (.agg #[.int .i64 0, .bool false, .int .i64 0, .slice none 0 0, .slice none 0 0]) 5 72 Try.underlying50 hi hz0 hz1 hz2 rfl (by decide) _ ss.length _ hs h1 ⟨b, 0, none⟩ 1 1 (flatC [y]) hx rfl (cell_at rfl hc) (flatC_one _) (by unfold maxLen; omega) (by omega) hbase ?_
  intro v' w' hown' hgrow _
  rw [← flatC_app] at hown'
  have hown2 : w'.ownsRow base 77 5 v' (ss ++ [y]).length (flatC (ss ++ [y])) := by rw [List.length_append]; exact hown'
  obtain ⟨a', n', c', hv⟩ : ∃ a n c, v' = .slice a n c := by
    rcases hown2.2 with ⟨rfl, h0⟩ | ⟨g, cap, cur, rfl, _⟩
    · exact ⟨none, 0, 0, rfl⟩
    · exact ⟨_, _, _, rfl⟩
  subst hv
  have hsame : ∀ s : Cs, El w s → El w' s := fun s hs => hs.same fun g cur e' he hg => hgrow.block g (lt_of_block hg) (fun k => own_ne h1 hg (by rcases he with rfl | rfl <;> omega) k.symm)
  refine h a' n' c' w' ⟨ss ++ [y], hown2, by rw [List.map_append, h2]; rfl, fun s hs => ?_, fun z hz => ?_⟩ ((Below.refl _ _).grown hgrow hbase (fun j hj => (h1.lt j hj).1))
  · rcases List.mem_append.1 hs with hs | hs
    · exact hsame s (h3 s hs)
    · rw [List.mem_singleton] at hs
      subst hs
      exact hsame _ hy
  · rcases List.mem_append.1 hz with hz | hz
    · exact h4 z hz
    · rw [List.mem_singleton] at hz
      subst hz
      exact hyo
/-- A change's block. -/
def chO (o : Int) (g : Bool) (c : Int) (v1 v2 : Value) : Obj := .cells #[.int .i64 o, .bool g, .int .i64 c, v1, v2] 77 (0, 0)
theorem chO_cells {w : World} {b : Nat} {o c : Int} {g : Bool} {v1 v2 : Value} (h : w.heap[b]? = some (chO o g c v1 v2)) : w.cell? ⟨b, 0, none⟩ = some (.int .i64 o) ∧ w.cell? ⟨b, 1, none⟩ = some (.bool g) ∧ w.cell? ⟨b, 2, none⟩ = some (.int .i64 c) ∧ w.cell? ⟨b, 3, none⟩ = some v1 ∧ w.cell? ⟨b, 4, none⟩ = some v2 ∧ ∀ i, w.frozen? ⟨b, i, none⟩ = false := by
  unfold chO at h
  refine ⟨?_, ?_, ?_, ?_, ?_, fun i => frozen_of_row w b i _ _ h⟩ <;> (rw [cell_of_row w b _ _ _ _ h]; rfl)
theorem chO_set1 {w : World} {b : Nat} {o c : Int} {g : Bool} {v1 v2 : Value} (h : w.heap[b]? = some (chO o g c v1 v2)) (g' : Bool) : (w.setCell ⟨b, 1, none⟩ (.bool g')).heap[b]? = some (chO o g' c v1 v2) := by
  unfold chO at h ⊢
  rw [heap_setCell_same w b 1 _ _ _ h]
  simp
/-- An object stored into a change. -/
def stC (w : World) (b : Nat) (c : Int) (v1 v2 : Value) : World := ((w.setCell ⟨b, 2, none⟩ (.int .i64 c)).setCell ⟨b, 3, none⟩ v1).setCell ⟨b, 4, none⟩ v2
theorem stC_blk {w : World} {b : Nat} {o c0 : Int} {g : Bool} {u1 u2 : Value} (h : w.heap[b]? = some (chO o g c0 u1 u2)) (c : Int) (v1 v2 : Value) : (stC w b c v1 v2).heap[b]? = some (chO o g c v1 v2) := by
  have h1 : (w.setCell ⟨b, 2, none⟩ (.int .i64 c)).heap[b]? = some (chO o g c u1 u2) := by
    unfold chO at h ⊢
    rw [heap_setCell_same w b 2 _ _ _ h]
    simp
  have h2 : ((w.setCell ⟨b, 2, none⟩ (.int .i64 c)).setCell ⟨b, 3, none⟩ v1).heap[b]? = some (chO o g c v1 u2) := by
    unfold chO at h1 ⊢
    rw [heap_setCell_same _ b 3 _ _ _ h1]
    simp
  unfold stC chO at *
  rw [heap_setCell_same _ b 4 _ _ _ h2]
  simp
theorem stC_other {w : World} {b g : Nat} (h : g ≠ b) (c : Int) (v1 v2 : Value) : (stC w b c v1 v2).heap[g]? = w.heap[g]? :=
  (heap_setCell_other _ ⟨b, 4, none⟩ g v2 h).trans ((heap_setCell_other _ ⟨b, 3, none⟩ g v1 h).trans (heap_setCell_other _ ⟨b, 2, none⟩ g _ h))
theorem stC_below {B b : Nat} {w w' : World} (h : Below B w w') (hb : B ≤ b) (c : Int) (v1 v2 : Value) : Below B w (stC w' b c v1 v2) := below_setCell (below_setCell (below_setCell h hb) hb) hb
end Go.Proofs.Ytjfaflmmanjjbaa
