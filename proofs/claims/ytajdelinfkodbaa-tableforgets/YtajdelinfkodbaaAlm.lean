/- A new table with all has the same behind the last commit: the mathematics. -/
import Derived.Test.YtajdelinfkodbaaAll
import Derived.Test.YtajdelinfkodbaaSty
namespace Go.Proofs.Ytajdelinfkodbaa
open Go.RowKit
set_option maxRecDepth 100000
theorem liveK_rise (t : Tab) (c : Int) : (liveK t c).Pairwise (· < ·) := by
  unfold liveK
  refine List.Pairwise.filter _ ?_
  rw [List.pairwise_map]
  exact List.Pairwise.imp (fun {a b} h => by omega) List.pairwise_lt_range
theorem liveK_mem {t : Tab} {c k : Int} (h : k ∈ liveK t c) : (1 ≤ k ∧ k ≤ 4096) ∧ ∃ y, atC (t.m k).vs c = some y := by
  unfold liveK at h
  simp only [List.mem_filter, List.mem_map, List.mem_range] at h
  obtain ⟨⟨i, hi, he⟩, h2⟩ := h
  exact ⟨by omega, Option.isSome_iff_exists.1 h2⟩
theorem mem_liveK {t : Tab} {c k : Int} (h : 1 ≤ k ∧ k ≤ 4096) {y : Ch} (hy : atC (t.m k).vs c = some y) : k ∈ liveK t c := by
  unfold liveK
  simp only [List.mem_filter, List.mem_map, List.mem_range]
  exact ⟨⟨(k - 1).toNat, by omega, by omega⟩, by rw [hy]; rfl⟩
theorem chK_oop (t : Tab) (c k : Int) : (chK t c k).oop = k ∧ (chK t c k).gone = false := by
  unfold chK
  split <;> exact ⟨rfl, rfl⟩
theorem applM_keys (c : Int) (f : Int → Ch) (hf : ∀ k, (f k).oop = k) (k : Int) : ∀ (ks : List Int) (m : Int → Past), ks.Pairwise (· < ·) → (applM c (ks.map f) m) k = if k ∈ ks then ⟨c, withL c (f k) (m k).vs⟩ else m k
  | [], m, _ => by simp [applM]
  | q :: r, m, h => by
    rw [List.pairwise_cons] at h
    simp only [List.map_cons, applM]
    rw [applM_keys c f hf k r _ h.2]
    by_cases hk : k = q
    · subst hk
      have hn : k ∉ r := fun hm => by have := h.1 k hm; omega
      rw [if_neg hn, if_pos List.mem_cons_self]
      unfold putM
      rw [if_pos (hf k).symm]
    · have hp : putM c (f q) m k = m k := by
        unfold putM
        rw [if_neg (by rw [hf q]; exact hk)]
      rw [hp]
      by_cases hm : k ∈ r
      · rw [if_pos hm, if_pos (List.mem_cons_of_mem _ hm)]
      · rw [if_neg hm, if_neg (by simp [hk, hm])]
theorem okL_keys (f : Int → Ch) (hf : ∀ k, (f k).oop = k) : ∀ (ks : List Int) (l : Int), (∀ k ∈ ks, l < k) → ks.Pairwise (· < ·) → (∀ k ∈ ks, k ≤ 4096 ∧ okCh (f k).gone (f k).cls (f k).vs (f k).bs = true) → okL l (ks.map f) = true
  | [], _, _, _, _ => rfl
  | q :: r, l, h1, h2, h3 => by
    rw [List.pairwise_cons] at h2
    simp only [List.map_cons, okL, hf q]
    have := h3 q List.mem_cons_self
    rw [okL_keys f hf r q h2.1 h2.2 (fun k hk => h3 k (List.mem_cons_of_mem _ hk))]
    simp [h1 q List.mem_cons_self, this.1, this.2]
/-- A table's words. -/
structure Fine (t : Tab) : Prop where
  good : GoodM t.m t.last
  first0 : 0 ≤ t.first ∧ t.first ≤ t.last ∧ t.last ≤ 1099511627776
theorem Hd.fine {W0 w : World} {b : Nat} {t : Tab} (h : Hd W0 b t w) : Fine t := by
  obtain ⟨S, R, h1, _⟩ := h
  exact ⟨h1.good, h1.first0⟩
theorem Fine.empty {t : Tab} (h : Fine t) {k : Int} (hk : (t.m k).chg = 0 ∨ t.last = 0) : (t.m k).vs = [] := by
  cases hv : (t.m k).vs with
  | nil => rfl
  | cons x r =>
    have h1 := h.good.ver k x (by rw [hv]; exact List.mem_cons_self)
    have h2 := h.good.chg k
    omega
theorem Fine.all0 {t : Tab} (h : Fine t) (h0 : t.last = 0) : allL t = [] := by
  have : liveK t t.last = [] := by
    rw [List.eq_nil_iff_forall_not_mem]
    intro k hk
    obtain ⟨_, y, hy⟩ := liveK_mem hk
    rw [h.empty (.inr h0)] at hy
    simp [atC] at hy
  unfold allL
  rw [this]
  rfl
theorem Fine.okAll {t : Tab} (h : Fine t) (h0 : t.last ≠ 0) : applyE tab0 t.last (allL t) = 0 := by
  have h1 := h.first0
  have hlen : (allL t).length ≤ 4096 := by
    unfold allL liveK
    rw [List.length_map]
    exact Nat.le_trans (List.length_filter_le _ _) (by simp)
  have hok : okL 0 (allL t) = true := by
    refine okL_keys _ (fun k => (chK_oop t _ k).1) _ 0 (fun k hk => by have := (liveK_mem hk).1; omega) (liveK_rise _ _) (fun k hk => ?_)
    obtain ⟨q1, y, hy⟩ := liveK_mem hk
    refine ⟨q1.2, ?_⟩
    obtain ⟨m1, _, m3⟩ := atC_mem hy
    have h2 := (h.good.ver k y m1).2.2
    unfold chK
    rw [hy]
    rw [m3] at h2
    exact h2
  have hr : okR t.last (allL t) = true := by
    unfold okR
    simp [hlen, hok]
    omega
  unfold applyE
  rw [hr, if_neg (by decide), if_neg (by show ¬ t.last ≤ 0; omega)]
/-- The new table. -/
def newT (t : Tab) : Tab := applyT tab0 t.last (allL t)
theorem newT_last {t : Tab} (h : Fine t) (h0 : t.last ≠ 0) : (newT t).last = t.last ∧ (newT t).first = 0 := by
  unfold newT applyT
  rw [if_pos (h.okAll h0)]
  exact ⟨rfl, rfl⟩
theorem newT_at {t : Tab} (h : Fine t) (h0 : t.last ≠ 0) (k : Int) : atC ((newT t).m k).vs t.last = (atC (t.m k).vs t.last).map (fun y => ⟨t.last, false, y.cls, y.vs, y.bs⟩) := by
  have e : (newT t).m = applM t.last (allL t) tab0.m := by
    unfold newT applyT
    rw [if_pos (h.okAll h0)]
  rw [e]
  unfold allL
  rw [applM_keys t.last _ (fun k => (chK_oop t _ k).1) k _ _ (liveK_rise _ _)]
  cases hy : atC (t.m k).vs t.last with
  | none =>
    rw [if_neg (fun hk => by obtain ⟨_, y, hy'⟩ := liveK_mem hk; rw [hy] at hy'; cases hy')]
    rfl
  | some y =>
    have hk : 1 ≤ k ∧ k ≤ 4096 := by
      refine h.good.dom k (fun hc => ?_)
      rw [h.empty (.inl hc)] at hy
      simp [atC] at hy
    rw [if_pos (mem_liveK hk hy)]
    have e2 : chK t t.last k = ⟨k, false, y.cls, y.vs, y.bs⟩ := by unfold chK; rw [hy]
    rw [e2]
    simp [withL, tab0, atC]
theorem newT_all {t : Tab} (h : Fine t) (h0 : t.last ≠ 0) : (∀ k, clsO (atO (newT t) t.last k) = clsO (atO t t.last k) ∧ vsO (atO (newT t) t.last k) = vsO (atO t t.last k) ∧ bsO (atO (newT t) t.last k) = bsO (atO t t.last k) ∧ atE (newT t) t.last k = atE t t.last k) ∧ oopsL (newT t) t.last = oopsL t t.last ∧ allL (newT t) = allL t := by
  obtain ⟨l1, l2⟩ := newT_last h h0
  have f0 := h.first0
  have e1 : t.first ≤ t.last ∧ t.last ≤ t.last := ⟨f0.2.1, Int.le_refl _⟩
  have e2 : (newT t).first ≤ t.last ∧ t.last ≤ (newT t).last := ⟨by rw [l2]; omega, by rw [l1]; exact Int.le_refl _⟩
  have live : liveK (newT t) t.last = liveK t t.last := by
    unfold liveK
    refine List.filter_congr (fun k _ => ?_)
    rw [newT_at h h0 k]
    simp
  refine ⟨fun k => ?_, ?_, ?_⟩
  · unfold atO atE
    rw [if_pos e1, if_pos e2, if_pos e1, if_pos e2, newT_at h h0 k]
    cases atC (t.m k).vs t.last <;> simp [clsO, vsO, bsO]
  · unfold oopsL
    rw [if_pos e1, if_pos e2, live]
  · unfold allL
    rw [l1, live]
    refine List.map_congr_left (fun k _ => ?_)
    unfold chK
    rw [newT_at h h0 k]
    cases atC (t.m k).vs t.last <;> rfl
end Go.Proofs.Ytajdelinfkodbaa
