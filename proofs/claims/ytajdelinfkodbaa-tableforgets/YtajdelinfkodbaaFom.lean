/- What stands behind a commit that is not forgotten stays: the mathematics. -/
import Derived.Test.YtajdelinfkodbaaTwo
namespace Go.Proofs.Ytajdelinfkodbaa
open Go.RowKit
set_option maxRecDepth 100000
theorem rise_pair {xs : List Ch} (h : RiseC xs) : xs.Pairwise (fun x y => x.oop < y.oop) := by
  rw [List.pairwise_iff_getElem]
  intro i j hi hj hij
  exact h i j _ _ hij (List.getElem?_eq_getElem hi) (List.getElem?_eq_getElem hj)
theorem filter_none {d : Int} {x : Ch} (hx : ¬ x.oop ≤ d) : ∀ {r : List Ch}, (∀ y ∈ r, x.oop < y.oop) → r.filter (fun y => decide (y.oop ≤ d)) = []
  | r, h => by
    rw [List.filter_eq_nil_iff]
    intro y hy
    have := h y hy
    simp
    omega
theorem filter_drop (d : Int) : ∀ (xs : List Ch) (k : Nat), xs.Pairwise (fun x y => x.oop < y.oop) → (xs.drop k).filter (fun y => decide (y.oop ≤ d)) = (xs.filter (fun y => decide (y.oop ≤ d))).drop k
  | [], k, _ => by simp
  | x :: r, 0, _ => rfl
  | x :: r, k + 1, h => by
    rw [List.pairwise_cons] at h
    rw [List.drop_succ_cons]
    by_cases hx : x.oop ≤ d
    · rw [List.filter_cons_of_pos (by simpa using hx), List.drop_succ_cons]
      exact filter_drop d r k h.2
    · rw [List.filter_cons_of_neg (by simpa using hx), filter_none hx h.1, List.drop_nil]
      exact filter_none hx (fun y hy => h.1 y (List.mem_of_mem_drop hy))
theorem filter_take (d : Int) : ∀ (xs : List Ch), xs.Pairwise (fun x y => x.oop < y.oop) → xs.filter (fun y => decide (y.oop ≤ d)) = xs.take (xs.filter (fun y => decide (y.oop ≤ d))).length
  | [], _ => rfl
  | x :: r, h => by
    rw [List.pairwise_cons] at h
    by_cases hx : x.oop ≤ d
    · rw [List.filter_cons_of_pos (by simpa using hx), List.length_cons, List.take_succ_cons, ← filter_take d r h.2]
    · rw [List.filter_cons_of_neg (by simpa using hx), filter_none hx h.1]
      rfl
theorem filter_le {c d : Int} (h : c ≤ d) : ∀ (xs : List Ch), (xs.filter (fun y => decide (y.oop ≤ c))).length ≤ (xs.filter (fun y => decide (y.oop ≤ d))).length
  | [] => Nat.le_refl _
  | x :: r => by
    have := filter_le h r
    by_cases h1 : x.oop ≤ c
    · rw [List.filter_cons_of_pos (by simpa using h1), List.filter_cons_of_pos (by simp; omega)]
      simp
      exact this
    · rw [List.filter_cons_of_neg (by simpa using h1)]
      by_cases h2 : x.oop ≤ d
      · rw [List.filter_cons_of_pos (by simpa using h2), List.length_cons]
        omega
      · rw [List.filter_cons_of_neg (by simpa using h2)]
        exact this
theorem from_at {xs : List Ch} (hr : RiseC xs) {c d : Int} (h : c ≤ d) : atC (fromL c xs) d = atC xs d := by
  have hp := rise_pair hr
  have hle := filter_le h xs
  have ht := filter_take d xs hp
  unfold atC fromL
  rw [filter_drop d xs _ hp, List.getLast?_drop]
  by_cases hm : (xs.filter (fun y => decide (y.oop ≤ d))).length ≤ cutN c xs
  · rw [if_pos hm]
    have hlast : (xs.filter (fun y => decide (y.oop ≤ d))).getLast? = if (xs.filter (fun y => decide (y.oop ≤ d))).length = 0 then none else xs[(xs.filter (fun y => decide (y.oop ≤ d))).length - 1]? := by
      by_cases h0 : (xs.filter (fun y => decide (y.oop ≤ d))).length = 0
      · rw [if_pos h0, List.eq_nil_of_length_eq_zero h0]
        rfl
      · rw [if_neg h0, List.getLast?_eq_getElem?]
        conv => lhs; rw [ht]
        rw [List.length_take, List.getElem?_take]
        have hl := List.length_filter_le (fun y : Ch => decide (y.oop ≤ d)) xs
        rw [Nat.min_eq_left hl, if_pos (by omega)]
    rw [hlast]
    generalize (xs.filter (fun y => decide (y.oop ≤ d))).length = m at *
    unfold cutN at hm
    generalize (xs.filter (fun y => decide (y.oop ≤ c))).length = n at *
    by_cases h0 : m = 0
    · rw [if_pos h0]
    · rw [if_neg h0]
      cases hx : xs[n - 1]? with
      | none =>
        rw [hx] at hm
        simp at hm
        omega
      | some x =>
        rw [hx] at hm
        by_cases hg : x.gone = true
        · simp only [hg, if_true] at hm
          have e : m - 1 = n - 1 := by omega
          rw [e, hx]
          simp [hg]
        · simp only [hg] at hm
          simp at hm
          omega
  · rw [if_neg hm]
/-- What stays of a table that forgot. -/
theorem forget_same {t : Tab} (h : Fine t) {c d : Int} (hc : t.first ≤ c ∧ c ≤ t.last) (hd : c ≤ d) : (∀ k, atO (forgetT t c) d k = atO t d k ∧ atE (forgetT t c) d k = atE t d k) ∧ oopsL (forgetT t c) d = oopsL t d := by
  have e : forgetT t c = ⟨c, t.last, forgM c t.m⟩ := by unfold forgetT; rw [if_pos hc]
  rw [e]
  have ha : ∀ k, atC ((forgM c t.m) k).vs d = atC (t.m k).vs d := fun k => from_at (h.good.rise k) hd
  have hi : (c ≤ d ∧ d ≤ t.last) ↔ (t.first ≤ d ∧ d ≤ t.last) := by omega
  refine ⟨fun k => ⟨?_, ?_⟩, ?_⟩
  · unfold atO
    simp only [ha k, hi]
  · unfold atE
    simp only [ha k, hi]
  · unfold oopsL liveK
    simp only [ha, hi]
end Go.Proofs.Ytajdelinfkodbaa
