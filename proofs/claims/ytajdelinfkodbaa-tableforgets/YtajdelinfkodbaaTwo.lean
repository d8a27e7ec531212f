/- A table beside another that is new. -/
import Derived.Test.YtajdelinfkodbaaAlm
namespace Go.Proofs.Ytajdelinfkodbaa
open Go.RowKit
set_option maxRecDepth 100000
theorem Tb.fresh {w : World} {b : Nat} (h : w.heap[b]? = some (tabB 0 0 none)) : Tb w (fun g => g = b) (fun _ => False) b tab0 := by
  refine ⟨⟨none, h, fun _ => rfl⟩, rfl, ⟨fun g hg => by rw [hg]; exact lt_of_block' h, fun g hg => hg.elim, fun g hg => hg.elim, fun g cur e hg hh => ?_⟩, ⟨fun k => by simp [tab0], fun k i j x y _ hx => by simp [tab0] at hx, fun k x hx => by simp [tab0] at hx, fun k hk => by simp [tab0] at hk⟩, by decide⟩
  rw [hg, h] at hh
  unfold tabB at hh
  cases hh
  exact .inl rfl
/-- A table that was made since a world, and a new one beside it. -/
def Hd2 (W0 : World) (b : Nat) (t : Tab) (bu : Nat) (w : World) : Prop := ∃ S R, Tb w S R b t ∧ (∀ g, S g → W0.heap.size ≤ g) ∧ Below W0.heap.size W0 w ∧ ¬ S bu ∧ ¬ R bu ∧ w.heap[bu]? = some (tabB 0 0 none)
theorem Hd2.hd {W0 w : World} {b bu : Nat} {t : Tab} (h : Hd2 W0 b t bu w) : Hd W0 b t w := by
  obtain ⟨S, R, h1, h2, h3, _⟩ := h
  exact ⟨S, R, h1, h2, h3⟩
theorem Hd2.below {W0 w w' : World} {b bu : Nat} {t : Tab} (h : Hd2 W0 b t bu w) (hb : Below w.heap.size w w') : Hd2 W0 b t bu w' := by
  obtain ⟨S, R, h1, h2, h3, h4, h5, h6⟩ := h
  exact ⟨S, R, h1.below hb, h2, below_size h3 h3.size hb, h4, h5, (hb.block bu (lt_of_block' h6)).trans h6⟩
theorem Hd2.new (w : World) : Hd2 w w.heap.size tab0 (w.alloc (tabB 0 0 none)).heap.size ((w.alloc (tabB 0 0 none)).alloc (tabB 0 0 none)) := by
  refine ⟨_, _, (Tb.new w).below box_below, fun _ hg => Nat.le_of_eq hg.symm, below_size box_below box_below.size box_below, fun e => ?_, fun e => e, new1 _ _⟩
  simp at e
theorem hd2_apply {W0 w : World} {b bu : Nat} {t : Tab} (h : Hd2 W0 b t bu w) (c : Int) {ra : Option Addr} {n cap base : Nat} {xs : List Ch} (hr : OwnC w base 51 (.slice ra n cap) xs) :
    Calls Try.prog 11 #[.pointer (some ⟨b, 0, none⟩), .agg #[.int .i64 c, .slice ra n cap]] w fun e w' => e = .returned (.int .i64 (applyE t c xs)) ∧ Hd2 W0 b (applyT t c xs) bu w' := by
  obtain ⟨S, R, h1, h2, h3, h4, h5, h6⟩ := h
  have lb := lt_of_block' h6
  refine (apply_any h1 c hr).mono ?_
  rintro e w' ⟨rfl, S', R', k1, k2, k3, k4⟩
  refine ⟨rfl, S', R', k1, fun g hg => ?_, k4.below h3 h3.size h2, fun hg => ?_, fun hg => ?_, (k4.block bu lb h4).trans h6⟩
  · rcases k2.new g hg with q | ⟨q, _⟩
    · exact h2 g q
    · exact Nat.le_trans h3.size q
  · rcases k2.new bu hg with q | ⟨q, _⟩
    · exact h4 q
    · omega
  · rcases k3.new bu hg with q | ⟨q, _⟩
    · exact h5 q
    · omega
/-- The new one takes a commit. -/
theorem hd2_other {W0 w : World} {b bu : Nat} {t : Tab} (h : Hd2 W0 b t bu w) (hu : W0.heap.size ≤ bu) (c : Int) {ra : Option Addr} {n cap base : Nat} {xs : List Ch} (hr : OwnC w base 51 (.slice ra n cap) xs) :
    Calls Try.prog 11 #[.pointer (some ⟨bu, 0, none⟩), .agg #[.int .i64 c, .slice ra n cap]] w fun e w' => e = .returned (.int .i64 (applyE tab0 c xs)) ∧ Hd W0 b t w' ∧ Hd W0 bu (applyT tab0 c xs) w' := by
  obtain ⟨S, R, h1, h2, h3, h4, h5, h6⟩ := h
  refine (apply_any (Tb.fresh h6) c hr).mono ?_
  rintro e w' ⟨rfl, S', R', k1, k2, k3, k4⟩
  have hB : Below W0.heap.size W0 w' := k4.below h3 h3.size (fun g hg => by rw [hg]; exact hu)
  refine ⟨rfl, ⟨S, R, h1.same k4.size (fun g hg => k4.block g (h1.sets.lt hg) (fun e => ?_)), h2, hB⟩, ⟨S', R', k1, fun g hg => ?_, hB⟩⟩
  · subst e
    exact hg.elim h4 h5
  · rcases k2.new g hg with q | ⟨q, _⟩
    · rw [q]; exact hu
    · exact Nat.le_trans h3.size q
theorem hd_all {W0 w : World} {b : Nat} {t : Tab} (h : Hd W0 b t w) : Calls Try.prog 26 #[.pointer (some ⟨b, 0, none⟩)] w (GivP w t.last (allL t)) := by
  obtain ⟨S, R, h1, _⟩ := h
  exact all_any h1
theorem allL_len (t : Tab) : (allL t).length ≤ 4096 := by
  unfold allL liveK
  rw [List.length_map]
  exact Nat.le_trans (List.length_filter_le _ _) (by simp)
end Go.Proofs.Ytajdelinfkodbaa
