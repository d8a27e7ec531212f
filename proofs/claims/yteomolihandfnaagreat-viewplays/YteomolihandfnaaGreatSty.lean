/- What stands behind a commit stays. -/
import Derived.Test.YteomolihandfnaaGreatOpn
namespace Go.Proofs.YteomolihandfnaaGreat
open Go.RowKit
set_option maxRecDepth 100000
/-- A table later on. -/
structure Aft (t t' : Tab) : Prop where
  first : t'.first = t.first
  last : t.last ≤ t'.last
  at_ : ∀ k c, c ≤ t.last → atC (t'.m k).vs c = atC (t.m k).vs c
theorem Aft.refl (t : Tab) : Aft t t := ⟨rfl, Int.le_refl _, fun _ _ _ => rfl⟩
theorem Aft.trans {t u v : Tab} (h : Aft t u) (k : Aft u v) : Aft t v := ⟨k.first.trans h.first, Int.le_trans h.last k.last, fun q c hc => (k.at_ q c (Int.le_trans hc h.last)).trans (h.at_ q c hc)⟩
theorem withL_filter (c c0 : Int) (x : Ch) (xs : List Ch) (h : c0 < c) : (withL c x xs).filter (fun y => decide (y.oop ≤ c0)) = xs.filter (fun y => decide (y.oop ≤ c0)) := by
  unfold withL
  split
  · rw [List.filter_append]
    simp
    omega
  · rfl
theorem applM_filter (c c0 : Int) (h : c0 < c) (k : Int) : ∀ (xs : List Ch) (m : Int → Past), ((applM c xs m) k).vs.filter (fun y => decide (y.oop ≤ c0)) = (m k).vs.filter (fun y => decide (y.oop ≤ c0))
  | [], _ => rfl
  | x :: r, m => by
    simp only [applM]
    rw [applM_filter c c0 h k r]
    unfold putM
    split
    · exact withL_filter c c0 x _ h
    · rfl
theorem aft_apply (t : Tab) (c : Int) (xs : List Ch) : Aft t (applyT t c xs) := by
  unfold applyT
  split
  · rename_i h
    have hc : t.last < c := by
      unfold applyE at h
      split at h
      · cases h
      · split at h
        · cases h
        · omega
    refine ⟨rfl, Int.le_of_lt hc, fun k c0 h0 => ?_⟩
    unfold atC
    rw [applM_filter c c0 (Int.lt_of_le_of_lt h0 hc) k]
  · exact Aft.refl t
/-- A table that was made since a world. -/
def Hd (W0 : World) (b : Nat) (t : Tab) (w : World) : Prop := ∃ S R, Tb w S R b t ∧ (∀ g, S g → W0.heap.size ≤ g) ∧ Below W0.heap.size W0 w
/-- All rows but a table's are kept. -/
structure KpT (w w' : World) : Prop where
  size : w.heap.size ≤ w'.heap.size
  keep : ∀ (g : Nat) (cur : Array Value) (e : Nat), w.heap[g]? = some (Obj.cells cur e (0, 0)) → e ≠ 95 → e ≠ 123 → w'.heap[g]? = w.heap[g]?
theorem KpT.refl (w : World) : KpT w w := ⟨Nat.le_refl _, fun _ _ _ _ _ _ => rfl⟩
theorem KpT.trans {u v w : World} (h : KpT u v) (k : KpT v w) : KpT u w := ⟨Nat.le_trans h.size k.size, fun g cur e hg h1 h2 => (k.keep g cur e ((h.keep g cur e hg h1 h2).trans hg) h1 h2).trans (h.keep g cur e hg h1 h2)⟩
theorem KpT.below {w w' : World} (h : Below w.heap.size w w') : KpT w w' := ⟨h.size, fun g _ _ hg _ _ => h.block g (lt_of_block hg)⟩
theorem KpT.own {w w' : World} (h : KpT w w') {base e sz n : Nat} {v : Value} {xs : List Value} (ho : w.ownsRow base e sz v n xs) (h1 : e ≠ 95) (h2 : e ≠ 123) : w'.ownsRow base e sz v n xs := own_same ho fun g hg => by
  obtain ⟨_, cur, hh⟩ := own_block ho hg
  exact h.keep g cur e hh h1 h2
theorem KpT.ownV {w w' : World} (h : KpT w w') {base : Nat} {v : Value} {vs : List (Int × Int)} (ho : OwnV w base v vs) : OwnV w' base v vs := ho.same fun g hg => by
  obtain ⟨_, cur, hh⟩ := own_block ho.1 hg
  exact h.keep g cur _ hh (by decide) (by decide)
theorem KpT.ownB {w w' : World} (h : KpT w w') {base : Nat} {v : Value} {vs : List Int} (ho : OwnB w base v vs) : OwnB w' base v vs := ho.same fun g hg => by
  obtain ⟨_, cur, hh⟩ := own_block ho.1 hg
  exact h.keep g cur _ hh (by decide) (by decide)
theorem Hd.belowW {W0 w : World} {b : Nat} {t : Tab} (h : Hd W0 b t w) : Below W0.heap.size W0 w := by
  obtain ⟨_, _, _, _, h3⟩ := h
  exact h3
theorem Hd.sz {W0 w : World} {b : Nat} {t : Tab} (h : Hd W0 b t w) : W0.heap.size ≤ w.heap.size := h.belowW.size
theorem Hd.below {W0 w w' : World} {b : Nat} {t : Tab} (h : Hd W0 b t w) (hb : Below w.heap.size w w') : Hd W0 b t w' := by
  obtain ⟨S, R, h1, h2, h3⟩ := h
  exact ⟨S, R, h1.below hb, h2, below_size h3 h3.size hb⟩
theorem Hd.new (w : World) : Hd w w.heap.size tab0 (w.alloc (tabB 0 0 none)) := ⟨_, _, Tb.new w, fun _ hg => Nat.le_of_eq hg.symm, box_below⟩
theorem hd_apply {W0 w : World} {b : Nat} {t : Tab} (h : Hd W0 b t w) (c : Int) {ra : Option Addr} {n cap base : Nat} {xs : List Ch} (hr : OwnC w base 96 (.slice ra n cap) xs) :
    Calls Tryz.prog 21 #[.pointer (some ⟨b, 0, none⟩), .agg #[.int .i64 c, .slice ra n cap]] w fun e w' => e = .returned (.int .i64 (applyE t c xs)) ∧ Hd W0 b (applyT t c xs) w' ∧ KpT w w' := by
  obtain ⟨S, R, h1, h2, h3⟩ := h
  refine (apply_any h1 c hr).mono ?_
  rintro e w' ⟨rfl, S', R', k1, k2, k3, k4⟩
  refine ⟨rfl, ⟨S', R', k1, fun g hg => ?_, k4.below h3 h3.size h2⟩, ⟨k4.size, fun g cur e hg h5 h6 => k4.block g (lt_of_block hg) (fun hS => ?_)⟩⟩
  · rcases k2.new g hg with q | ⟨q, _⟩
    · exact h2 g q
    · exact Nat.le_trans h3.size q
  · rcases h1.sets.ty g cur e hS hg with q | q
    · exact h5 q
    · exact h6 q
/-- A record of the list. -/
theorem IsRs.at_ {W : World} {a : Option Addr} {len cap : Nat} {ms : List Rm} (h : IsRs W a len cap ms) (k : Nat) (hk : k < len) {w : World} (hb : Below W.heap.size W w) : ∃ (b off : Nat) (m : Rm), a = some ⟨b, off, none⟩ ∧ b < w.heap.size ∧ w.cell? ⟨b, off + k * 2, none⟩ = some (.int .i64 m.com) ∧ w.cell? ⟨b, off + k * 2 + 1, none⟩ = some (.slice m.a m.n m.cap) ∧ IsC w m.a m.n m.cap m.xs ∧ m.n ≤ 1954687338264 ∧ (∀ x ∈ m.xs, x.vs.length ≤ 8796093022208 ∧ x.bs.length ≤ 140737488355328) := by
  obtain ⟨b, off, e, hc⟩ := h.cells (by omega)
  have hm : ms[k]? = some (ms[k]'(by rw [h.size]; exact hk)) := List.getElem?_eq_getElem _
  obtain ⟨c0, c1⟩ := hc k _ hm
  have hi := h.ins _ (List.mem_of_getElem? hm)
  have lb := lt_of_cell c0
  exact ⟨b, off, _, e, Nat.lt_of_lt_of_le lb hb.size, (hb.cell lb).trans c0, (hb.cell lb).trans c1, hi.chs.below hb, hi.few, hi.part⟩
theorem hd_at {W0 w : World} {b : Nat} {t : Tab} (h : Hd W0 b t w) (c k : Int) : Calls Tryz.prog 41 #[.pointer (some ⟨b, 0, none⟩), .int .i64 c, .int .i64 k] w fun e w' => AtQ w t c k e w' := by
  obtain ⟨S, R, h1, _⟩ := h
  exact atT_any h1 c k
theorem hd_last {W0 w : World} {b : Nat} {t : Tab} (h : Hd W0 b t w) : Calls Tryz.prog 38 #[.pointer (some ⟨b, 0, none⟩)] w fun e w' => e = .returned (.int .i64 t.last) ∧ w = w' := by
  obtain ⟨S, R, h1, _⟩ := h
  obtain ⟨mv, hb, _⟩ := h1.blk
  exact last_any hb
end Go.Proofs.YteomolihandfnaaGreat
