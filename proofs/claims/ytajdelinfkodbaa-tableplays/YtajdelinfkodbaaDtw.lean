/- A table and the document's: all that they tell is the same. -/
import Derived.Test.YtajdelinfkodbaaDfr
import Derived.Test.YtajdelinfkodbaaRap
import Derived.Test.YtajdelinfkodbaaDat
namespace Go.Proofs.Ytajdelinfkodbaa
open Go.RowKit
set_option maxRecDepth 100000
theorem keys_one : ∀ {a b : List Int}, a.Pairwise (fun x y => x < y) → b.Pairwise (fun x y => x < y) → (∀ k, k ∈ a ↔ k ∈ b) → a = b
  | [], [], _, _, _ => rfl
  | [], y :: s, _, _, h => by have := (h y).2 (by simp); simp at this
  | x :: r, [], _, _, h => by have := (h x).1 (by simp); simp at this
  | x :: r, y :: s, h1, h2, h => by
    rw [List.pairwise_cons] at h1 h2
    have e : x = y := by
      have m1 := (h x).1 (by simp)
      have m2 := (h y).2 (by simp)
      rcases List.mem_cons.1 m1 with e | m1
      · exact e
      · rcases List.mem_cons.1 m2 with e | m2
        · exact e.symm
        · have a1 := h2.1 x m1
          have a2 := h1.1 y m2
          omega
    subst e
    congr 1
    refine keys_one h1.2 h2.2 (fun k => ?_)
    have hk := h k
    simp only [List.mem_cons] at hk
    constructor
    · intro hm
      have := h1.1 k hm
      rcases hk.1 (.inr hm) with e | q
      · omega
      · exact q
    · intro hm
      have := h2.1 k hm
      rcases hk.2 (.inr hm) with e | q
      · omega
      · exact q
/-- All that both say of one another. -/
structure RelP (t : Tab) (u : RTf) : Prop where
  rel : RelF t u
  alt : ∀ k, AltC t.first (t.m k).vs
  oks : ∀ r ∈ u.recs, okR r.1 r.2 = true
  ok : OkW u
theorem RelP.new : RelP tab0 rtab0 := ⟨⟨rfl, rfl, OkW.new.v.ok, fun c k _ _ => rfl, fun _ => rfl⟩, fun _ => AltC.nil _, by simp [rtab0], OkW.new⟩
theorem okR_okL {c : Int} {xs : List Ch} (h : okR c xs = true) : okL 0 xs = true := by simp only [okR, Bool.and_eq_true] at h; exact h.2
theorem RelP.appE {t : Tab} {u : RTf} (h : RelP t u) (c : Int) (xs : List Ch) : applyE t c xs = rapplyE u c xs := by unfold applyE rapplyE; rw [h.rel.last]
theorem RelP.apply {t : Tab} {u : RTf} (h : RelP t u) (hg : GoodM t.m t.last) (h0 : 0 ≤ t.first ∧ t.first ≤ t.last) (c : Int) (xs : List Ch) : RelP (applyT t c xs) (rapplyT u c xs) := by
  unfold applyT rapplyT
  rw [h.appE]
  by_cases he : rapplyE u c xs = 0
  · rw [if_pos he, if_pos he]
    have hok : okR c xs = true := by
      unfold rapplyE at he
      cases hq : okR c xs with
      | true => rfl
      | false => rw [hq] at he; simp at he
    have hc : u.end_ < c := by
      unfold rapplyE at he
      rw [hok] at he
      simp at he
      exact he
    have hl := h.rel.last
    refine ⟨h.rel.apply hg h0.2 hok (by omega), fun k => (h.alt k).appl (by omega) k xs t.m, fun r hr => ?_, h.ok.app hc (okR_okL hok)⟩
    rcases List.mem_append.1 hr with q | q
    · exact h.oks r q
    · rw [List.mem_singleton] at q; rw [q]; exact hok
  · rw [if_neg he, if_neg he]
    exact h
theorem RelF.forget {t : Tab} {u : RTf} (h : RelF t u) (hg : GoodM t.m t.last) {c : Int} (hc : t.first ≤ c ∧ c ≤ t.last) : RelF ⟨c, t.last, forgM c t.m⟩ (forgU u c) := by
  have h1 := h.first
  have h2 := h.last
  refine ⟨rfl, h2, forgU_ok h.ok (by omega), fun d k hd hd2 => ?_, fun k => h.chg k⟩
  show toOb (atC (fromL c (t.m k).vs) d) = _
  rw [from_at (hg.rise k) hd, forgU_at h.ok hd]
  exact h.at_ d k (by change c ≤ d at hd; omega) hd2
theorem RelP.forE {t : Tab} {u : RTf} (h : RelP t u) (c : Int) : forgetE t c = rforgetE u c := by unfold forgetE rforgetE; rw [h.rel.last, h.rel.first]
theorem RelP.forget {t : Tab} {u : RTf} (h : RelP t u) (hg : GoodM t.m t.last) (c : Int) : RelP (forgetT t c) (rforgetT u c) := by
  unfold forgetT rforgetT
  rw [h.rel.last, h.rel.first]
  by_cases hc : u.from_ ≤ c ∧ c ≤ u.end_
  · rw [if_pos hc, if_pos hc]
    have hc' : t.first ≤ c ∧ c ≤ t.last := by rw [h.rel.last, h.rel.first]; exact hc
    have q := h.rel.forget hg hc'
    rw [h.rel.last] at q
    exact ⟨q, fun k => (h.alt k).from_ (hg.rise k), fun r hr => h.oks r (List.mem_filter.1 hr).1, h.ok.forg hc⟩
  · rw [if_neg hc, if_neg hc]
    exact h
theorem clsO_ob (o : Option Ch) : clsO o = oCl (toOb o) := by cases o <;> rfl
theorem vsO_ob (o : Option Ch) : vsO o = oVs (toOb o) := by cases o <;> rfl
theorem bsO_ob (o : Option Ch) : bsO o = oBs (toOb o) := by cases o <;> rfl
theorem RelP.at_ {t : Tab} {u : RTf} (h : RelP t u) (c k : Int) : toOb (atO t c k) = ratO u c k ∧ atE t c k = ratE u c k := by
  unfold atO atE ratO ratE
  rw [h.rel.first, h.rel.last]
  by_cases hc : u.from_ ≤ c ∧ c ≤ u.end_
  · rw [if_pos hc, if_pos hc, if_pos hc, if_pos hc]
    have e := h.rel.at_ c k (by rw [h.rel.first]; exact hc.1) (by rw [h.rel.last]; exact hc.2)
    refine ⟨e, ?_⟩
    rw [← e]
    cases atC (t.m k).vs c <;> rfl
  · rw [if_neg hc, if_neg hc, if_neg hc, if_neg hc]
    exact ⟨rfl, rfl⟩
theorem liveK_iff {t : Tab} (hg : GoodM t.m t.last) {c k : Int} : k ∈ liveK t c ↔ atC (t.m k).vs c ≠ none := by
  unfold liveK
  rw [List.mem_filter]
  constructor
  · rintro ⟨_, h⟩ e
    rw [e] at h
    cases h
  · intro hn
    cases he : atC (t.m k).vs c with
    | none => exact absurd he hn
    | some x =>
      refine ⟨?_, rfl⟩
      have hx := (atC_mem he).1
      have h1 := hg.ver k x hx
      have h2 := hg.dom k (by omega)
      rw [List.mem_map]
      exact ⟨(k - 1).toNat, by rw [List.mem_range]; omega, by omega⟩
theorem RelP.oopsIn {t : Tab} {u : RTf} (h : RelP t u) (hg : GoodM t.m t.last) {c : Int} (hc : u.from_ ≤ c ∧ c ≤ u.end_) : liveK t c = (liveU u c).map Ch.oop := by
  refine keys_one (liveK_rise t c) ?_ (fun k => ?_)
  · rw [List.pairwise_map]
    exact liveU_rise h.ok.v.ok c
  · rw [liveK_iff hg, List.mem_map]
    have e := h.rel.at_ c k (by rw [h.rel.first]; exact hc.1) (by rw [h.rel.last]; exact hc.2)
    have hm := liveU_mem h.ok.v.ok (c := c) (k := k)
    rw [← e] at hm
    constructor
    · intro hn
      refine hm.2 ?_
      cases hq : atC (t.m k).vs c with
      | none => exact absurd hq hn
      | some x => simp [toOb]
    · intro hx hn
      have := hm.1 hx
      rw [hn] at this
      exact this rfl
theorem RelP.oops {t : Tab} {u : RTf} (h : RelP t u) (hg : GoodM t.m t.last) (c : Int) : oopsL t c = roopsL u c := by
  unfold oopsL roopsL
  rw [h.rel.first, h.rel.last]
  by_cases hc : u.from_ ≤ c ∧ c ≤ u.end_
  · rw [if_pos hc, if_pos hc]; exact h.oopsIn hg hc
  · rw [if_neg hc, if_neg hc]
theorem RelP.all {t : Tab} {u : RTf} (h : RelP t u) (hg : GoodM t.m t.last) : allL t = liveU u u.end_ := by
  have hc : u.from_ ≤ u.end_ ∧ u.end_ ≤ u.end_ := ⟨h.ok.v.ok.fe, Int.le_refl _⟩
  unfold allL
  rw [h.rel.last, h.oopsIn hg hc, List.map_map]
  have : ∀ x ∈ liveU u u.end_, chK t u.end_ x.oop = x := fun x hx => by
    have e := h.rel.at_ u.end_ x.oop (by rw [h.rel.first]; exact hc.1) (by rw [h.rel.last]; exact hc.2)
    rw [liveU_at h.ok.v.ok hx] at e
    have hgx : x.gone = false := by
      have := (List.mem_filter.1 hx).2
      simpa using this
    unfold chK
    cases hq : atC (t.m x.oop).vs u.end_ with
    | none => rw [hq] at e; cases e
    | some y =>
      rw [hq] at e
      simp only [toOb, obC, Option.some.injEq, Ob.mk.injEq] at e
      obtain ⟨e1, e2, e3⟩ := e
      simp only
      rw [e1, e2, e3, ← hgx]
  conv => rhs; rw [← List.map_id (liveU u u.end_)]
  exact List.map_congr_left this
theorem rdL_live {xs : List Ch} {n : Nat} : rdL (liveL xs) n = true ↔ ∃ x ∈ xs, x.gone = false ∧ x.oop = (n : Int) := by
  unfold rdL liveL
  rw [List.any_eq_true]
  constructor
  · rintro ⟨x, hx, he⟩
    obtain ⟨h1, h2⟩ := List.mem_filter.1 hx
    exact ⟨x, h1, by simpa using h2, by simpa using he⟩
  · rintro ⟨x, hx, hg, he⟩
    exact ⟨x, List.mem_filter.2 ⟨hx, by simp [hg]⟩, by simpa using he⟩
theorem taken_b {u : RTf} {n : Nat} : takenB u n = true ↔ TakenU u (n : Int) := by
  unfold takenB TakenU
  rw [Bool.or_eq_true, rdL_live, List.any_eq_true]
  constructor
  · rintro (h | ⟨r, hr, h⟩)
    · exact .inl h
    · exact .inr ⟨r, hr, rdL_live.1 h⟩
  · rintro (h | ⟨r, hr, h⟩)
    · exact .inl h
    · exact .inr ⟨r, hr, rdL_live.2 h⟩
theorem RelP.free {t : Tab} {u : RTf} (h : RelP t u) (hg : GoodM t.m t.last) : fr3 (freeP t) = fr3 (rfreeP u) := by
  unfold fr3 frK
  congr 1
  refine List.filter_congr (fun k hk => ?_)
  obtain ⟨i, _, rfl⟩ := List.mem_map.1 hk
  unfold freeP rfreeP
  have e1 : ((i : Int) + 1).toNat = i + 1 := by omega
  have e2 : (((i + 1 : Nat) : Int)) = (i : Int) + 1 := by omega
  have q := h.rel.free hg h.alt (fun r hr => okR_okL (h.oks r hr)) ((i : Int) + 1)
  rw [e1]
  have q2 := taken_b (u := u) (n := i + 1)
  rw [e2] at q2
  cases hb : takenB u (i + 1) with
  | true =>
    have hT := q2.1 hb
    have : ¬ (t.m ((i : Int) + 1)).vs.length = 0 := fun hn => q.1 (List.eq_nil_of_length_eq_zero hn) hT
    simp [this]
  | false =>
    have hT : ¬ TakenU u ((i : Int) + 1) := fun hn => by rw [q2.2 hn] at hb; cases hb
    have : (t.m ((i : Int) + 1)).vs = [] := q.2 hT
    simp [this]
end Go.Proofs.Ytajdelinfkodbaa
