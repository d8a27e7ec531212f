/- What stands behind a commit stays. -/
import Derived.Test.YtajdelinfkodbaaKno
import Derived.Test.YtajdelinfkodbaaOpn
namespace Go.Proofs.Ytajdelinfkodbaa
open Go.RowKit
set_option maxRecDepth 100000
/-- A table later on. -/
structure Aft (t t' : Tab) : Prop where
  first : t'.first = t.first
  last : t.last ≤ t'.last
  at_ : ∀ k c, c ≤ t.last → atC (t'.m k).vs c = atC (t.m k).vs c
theorem Aft.refl (t : Tab) : Aft t t := ⟨rfl, Int.le_refl _, fun _ _ _ => rfl⟩
theorem Aft.trans {t u v : Tab} (h : Aft t u) (k : Aft u v) : Aft t v := ⟨k.first.trans h.first, Int.le_trans h.last k.last, fun q c hc => (k.at_ q c (Int.le_trans hc h.last)).trans (h.at_ q c hc)⟩
theorem withL_filter (c c0 : Int) (x : Ch) (xs : List Ch) (h : c0 < c) : (withL c x xs).filter (fun y => decide (y.oop ≤ c0)) = xs.filter (fun y => decide (y.oop ≤ c0)) := by
  unfold withL
  split
  · rw [List.filter_append]
    simp
    omega
  · rfl
theorem applM_filter (c c0 : Int) (h : c0 < c) (k : Int) : ∀ (xs : List Ch) (m : Int → Past), ((applM c xs m) k).vs.filter (fun y => decide (y.oop ≤ c0)) = (m k).vs.filter (fun y => decide (y.oop ≤ c0))
  | [], _ => rfl
  | x :: r, m => by
    simp only [applM]
    rw [applM_filter c c0 h k r]
    unfold putM
    split
    · exact withL_filter c c0 x _ h
    · rfl
theorem Aft.both {t t' : Tab} (h : Aft t t') {c : Int} (h1 : t.first ≤ c) (h2 : c ≤ t.last) : (∀ k, atO t' c k = atO t c k) ∧ (∀ k, atE t' c k = atE t c k) ∧ oopsL t' c = oopsL t c := by
  have e1 : t.first ≤ c ∧ c ≤ t.last := ⟨h1, h2⟩
  have e2 : t'.first ≤ c ∧ c ≤ t'.last := ⟨by rw [h.first]; exact h1, Int.le_trans h2 h.last⟩
  refine ⟨fun k => ?_, fun k => ?_, ?_⟩
  · unfold atO
    rw [if_pos e1, if_pos e2, h.at_ k c h2]
  · unfold atE
    rw [if_pos e1, if_pos e2, h.at_ k c h2]
  · unfold oopsL liveK
    rw [if_pos e1, if_pos e2]
    exact List.filter_congr (fun k _ => by rw [h.at_ k c h2])
/-- A table that was made since a world. -/
def Hd (W0 : World) (b : Nat) (t : Tab) (w : World) : Prop := ∃ S R, Tb w S R b t ∧ (∀ g, S g → W0.heap.size ≤ g) ∧ Below W0.heap.size W0 w
/-- All rows but a table's are kept. -/
structure KpT (w w' : World) : Prop where
  size : w.heap.size ≤ w'.heap.size
  keep : ∀ (g : Nat) (cur : Array Value) (e : Nat), w.heap[g]? = some (Obj.cells cur e (0, 0)) → e ≠ 72 → e ≠ 104 → w'.heap[g]? = w.heap[g]?
theorem KpT.refl (w : World) : KpT w w := ⟨Nat.le_refl _, fun _ _ _ _ _ _ => rfl⟩
theorem KpT.trans {u v w : World} (h : KpT u v) (k : KpT v w) : KpT u w := ⟨Nat.le_trans h.size k.size, fun g cur e hg h1 h2 => (k.keep g cur e ((h.keep g cur e hg h1 h2).trans hg) h1 h2).trans (h.keep g cur e hg h1 h2)⟩
theorem KpT.below {w w' : World} (h : Below w.heap.size w w') : KpT w w' := ⟨h.size, fun g _ _ hg _ _ => h.block g (lt_of_block hg)⟩
theorem KpT.own {w w' : World} (h : KpT w w') {base e sz n : Nat} {v : Value} {xs : List Value} (ho : w.ownsRow base e sz v n xs) (h1 : e ≠ 72) (h2 : e ≠ 104) : w'.ownsRow base e sz v n xs := own_same ho fun g hg => by
  obtain ⟨_, cur, hh⟩ := own_block ho hg
  exact h.keep g cur e hh h1 h2
theorem Hd.belowW {W0 w : World} {b : Nat} {t : Tab} (h : Hd W0 b t w) : Below W0.heap.size W0 w := by
  obtain ⟨_, _, _, _, h3⟩ := h
  exact h3
theorem Hd.sz {W0 w : World} {b : Nat} {t : Tab} (h : Hd W0 b t w) : W0.heap.size ≤ w.heap.size := h.belowW.size
theorem Hd.below {W0 w w' : World} {b : Nat} {t : Tab} (h : Hd W0 b t w) (hb : Below w.heap.size w w') : Hd W0 b t w' := by
  obtain ⟨S, R, h1, h2, h3⟩ := h
  exact ⟨S, R, h1.below hb, h2, below_size h3 h3.size hb⟩
theorem Hd.new (w : World) : Hd w w.heap.size tab0 (w.alloc (tabB 0 0 none)) := ⟨_, _, Tb.new w, fun _ hg => Nat.le_of_eq hg.symm, box_below⟩
/-- A record of the list. -/
theorem IsRs.at_ {W : World} {a : Option Addr} {len cap : Nat} {ms : List Rm} (h : IsRs W a len cap ms) (k : Nat) (hk : k < len) {w : World} (hb : Below W.heap.size W w) : ∃ (b off : Nat) (m : Rm), a = some ⟨b, off, none⟩ ∧ b < w.heap.size ∧ w.cell? ⟨b, off + k * 2, none⟩ = some (.int .i64 m.com) ∧ w.cell? ⟨b, off + k * 2 + 1, none⟩ = some (.slice m.a m.n m.cap) ∧ IsC w m.a m.n m.cap m.xs ∧ m.n ≤ 1954687338264 ∧ (∀ x ∈ m.xs, x.vs.length ≤ 8796093022208 ∧ x.bs.length ≤ 140737488355328) := by
  obtain ⟨b, off, e, hc⟩ := h.cells (by omega)
  have hm : ms[k]? = some (ms[k]'(by rw [h.size]; exact hk)) := List.getElem?_eq_getElem _
  obtain ⟨c0, c1⟩ := hc k _ hm
  have hi := h.ins _ (List.mem_of_getElem? hm)
  have lb := lt_of_cell c0
  exact ⟨b, off, _, e, Nat.lt_of_lt_of_le lb hb.size, (hb.cell lb).trans c0, (hb.cell lb).trans c1, hi.chs.below hb, hi.few, hi.part⟩
end Go.Proofs.Ytajdelinfkodbaa
namespace Go.Proofs.Ytajdelinfkodbaa
open Go.RowKit
set_option maxRecDepth 100000
theorem liveK_rise (t : Tab) (c : Int) : (liveK t c).Pairwise (· < ·) := by
  unfold liveK
  refine List.Pairwise.filter _ ?_
  rw [List.pairwise_map]
  exact List.Pairwise.imp (fun {a b} h => by omega) List.pairwise_lt_range
end Go.Proofs.Ytajdelinfkodbaa
namespace Go.Proofs.Ytajdelinfkodbaa
open Go.RowKit
set_option maxRecDepth 100000
/-- A table that was made since a world, and a new one beside it. -/
def Hd2 (W0 : World) (b : Nat) (t : Tab) (bu : Nat) (w : World) : Prop := ∃ S R, Tb w S R b t ∧ (∀ g, S g → W0.heap.size ≤ g) ∧ Below W0.heap.size W0 w ∧ ¬ S bu ∧ ¬ R bu ∧ w.heap[bu]? = some (tabB 0 0 none)
theorem Hd2.hd {W0 w : World} {b bu : Nat} {t : Tab} (h : Hd2 W0 b t bu w) : Hd W0 b t w := by
  obtain ⟨S, R, h1, h2, h3, _⟩ := h
  exact ⟨S, R, h1, h2, h3⟩
theorem Hd2.below {W0 w w' : World} {b bu : Nat} {t : Tab} (h : Hd2 W0 b t bu w) (hb : Below w.heap.size w w') : Hd2 W0 b t bu w' := by
  obtain ⟨S, R, h1, h2, h3, h4, h5, h6⟩ := h
  exact ⟨S, R, h1.below hb, h2, below_size h3 h3.size hb, h4, h5, (hb.block bu (lt_of_block' h6)).trans h6⟩
theorem Hd2.new (w : World) : Hd2 w w.heap.size tab0 (w.alloc (tabB 0 0 none)).heap.size ((w.alloc (tabB 0 0 none)).alloc (tabB 0 0 none)) := by
  refine ⟨_, _, (Tb.new w).below box_below, fun _ hg => Nat.le_of_eq hg.symm, below_size box_below box_below.size box_below, fun e => ?_, fun e => e, new1 _ _⟩
  simp at e
end Go.Proofs.Ytajdelinfkodbaa
namespace Go.Proofs.Ytajdelinfkodbaa
open Go.RowKit
set_option maxRecDepth 100000
theorem rise_pair {xs : List Ch} (h : RiseC xs) : xs.Pairwise (fun x y => x.oop < y.oop) := by
  rw [List.pairwise_iff_getElem]
  intro i j hi hj hij
  exact h i j _ _ hij (List.getElem?_eq_getElem hi) (List.getElem?_eq_getElem hj)
theorem filter_none {d : Int} {x : Ch} (hx : ¬ x.oop ≤ d) : ∀ {r : List Ch}, (∀ y ∈ r, x.oop < y.oop) → r.filter (fun y => decide (y.oop ≤ d)) = []
  | r, h => by
    rw [List.filter_eq_nil_iff]
    intro y hy
    have := h y hy
    simp
    omega
theorem filter_drop (d : Int) : ∀ (xs : List Ch) (k : Nat), xs.Pairwise (fun x y => x.oop < y.oop) → (xs.drop k).filter (fun y => decide (y.oop ≤ d)) = (xs.filter (fun y => decide (y.oop ≤ d))).drop k
  | [], k, _ => by simp
  | x :: r, 0, _ => rfl
  | x :: r, k + 1, h => by
    rw [List.pairwise_cons] at h
    rw [List.drop_succ_cons]
    by_cases hx : x.oop ≤ d
    · rw [List.filter_cons_of_pos (by simpa using hx), List.drop_succ_cons]
      exact filter_drop d r k h.2
    · rw [List.filter_cons_of_neg (by simpa using hx), filter_none hx h.1, List.drop_nil]
      exact filter_none hx (fun y hy => h.1 y (List.mem_of_mem_drop hy))
theorem filter_take (d : Int) : ∀ (xs : List Ch), xs.Pairwise (fun x y => x.oop < y.oop) → xs.filter (fun y => decide (y.oop ≤ d)) = xs.take (xs.filter (fun y => decide (y.oop ≤ d))).length
  | [], _ => rfl
  | x :: r, h => by
    rw [List.pairwise_cons] at h
    by_cases hx : x.oop ≤ d
    · rw [List.filter_cons_of_pos (by simpa using hx), List.length_cons, List.take_succ_cons, ← filter_take d r h.2]
    · rw [List.filter_cons_of_neg (by simpa using hx), filter_none hx h.1]
      rfl
theorem filter_le {c d : Int} (h : c ≤ d) : ∀ (xs : List Ch), (xs.filter (fun y => decide (y.oop ≤ c))).length ≤ (xs.filter (fun y => decide (y.oop ≤ d))).length
  | [] => Nat.le_refl _
  | x :: r => by
    have := filter_le h r
    by_cases h1 : x.oop ≤ c
    · rw [List.filter_cons_of_pos (by simpa using h1), List.filter_cons_of_pos (by simp; omega)]
      simp
      exact this
    · rw [List.filter_cons_of_neg (by simpa using h1)]
      by_cases h2 : x.oop ≤ d
      · rw [List.filter_cons_of_pos (by simpa using h2), List.length_cons]
        omega
      · rw [List.filter_cons_of_neg (by simpa using h2)]
        exact this
theorem from_at {xs : List Ch} (hr : RiseC xs) {c d : Int} (h : c ≤ d) : atC (fromL c xs) d = atC xs d := by
  have hp := rise_pair hr
  have hle := filter_le h xs
  have ht := filter_take d xs hp
  unfold atC fromL
  rw [filter_drop d xs _ hp, List.getLast?_drop]
  by_cases hm : (xs.filter (fun y => decide (y.oop ≤ d))).length ≤ cutN c xs
  · rw [if_pos hm]
    have hlast : (xs.filter (fun y => decide (y.oop ≤ d))).getLast? = if (xs.filter (fun y => decide (y.oop ≤ d))).length = 0 then none else xs[(xs.filter (fun y => decide (y.oop ≤ d))).length - 1]? := by
      by_cases h0 : (xs.filter (fun y => decide (y.oop ≤ d))).length = 0
      · rw [if_pos h0, List.eq_nil_of_length_eq_zero h0]
        rfl
      · rw [if_neg h0, List.getLast?_eq_getElem?]
        conv => lhs; rw [ht]
        rw [List.length_take, List.getElem?_take]
        have hl := List.length_filter_le (fun y : Ch => decide (y.oop ≤ d)) xs
        rw [Nat.min_eq_left hl, if_pos (by omega)]
    rw [hlast]
    generalize (xs.filter (fun y => decide (y.oop ≤ d))).length = m at *
    unfold cutN at hm
    generalize (xs.filter (fun y => decide (y.oop ≤ c))).length = n at *
    by_cases h0 : m = 0
    · rw [if_pos h0]
    · rw [if_neg h0]
      cases hx : xs[n - 1]? with
      | none =>
        rw [hx] at hm
        simp at hm
        omega
      | some x =>
        rw [hx] at hm
        by_cases hg : x.gone = true
        · simp only [hg, if_true] at hm
          have e : m - 1 = n - 1 := by omega
          rw [e, hx]
          simp [hg]
        · simp only [hg] at hm
          simp at hm
          omega
  · rw [if_neg hm]
end Go.Proofs.Ytajdelinfkodbaa
