/- The document's table, what is forgotten too: mathematics alone. -/
import Derived.Test.YtajdelinfkodbaaFom
namespace Go.Proofs.Ytajdelinfkodbaa
open Go.RowKit
set_option maxRecDepth 100000
set_option maxRecDepth 100000
structure Ob where
  cls : Int
  vs : List (Int × Int)
  bs : List Int
def toOb : Option Ch → Option Ob | none => none | some x => some ⟨x.cls, x.vs, x.bs⟩
def stepR (k : Int) (acc : Option Ob) (r : Int × List Ch) : Option Ob := match r.2.find? (fun x => decide (x.oop = k)) with
  | none => acc
  | some x => if x.gone = true then none else some ⟨x.cls, x.vs, x.bs⟩
def liveOb (vs : List Ch) : Option Ob := match vs.getLast? with
  | none => none
  | some x => if x.gone = true then none else some ⟨x.cls, x.vs, x.bs⟩
theorem live_with (c : Int) (x : Ch) (vs : List Ch) : liveOb (withL c x vs) = if x.gone = true then none else some ⟨x.cls, x.vs, x.bs⟩ := by
  unfold withL
  by_cases h : (!x.gone || thereC vs) = true
  · rw [if_pos h]
    unfold liveOb
    rw [List.getLast?_append]
    rfl
  · rw [if_neg h]
    simp only [Bool.or_eq_true, Bool.not_eq_true', not_or, Bool.not_eq_false, Bool.not_eq_true] at h
    obtain ⟨h1, h2⟩ := h
    rw [if_pos h1]
    unfold thereC at h2
    unfold liveOb
    cases hv : vs.getLast? with
    | none => rfl
    | some y => rw [hv] at h2; simp at h2; simp [h2]
theorem okL_gt : ∀ {l : Int} {xs : List Ch}, okL l xs = true → ∀ x ∈ xs, l < x.oop
  | _, [], _, x, hx => by simp at hx
  | l, y :: t, h, x, hx => by
    simp only [okL, Bool.and_eq_true, decide_eq_true_eq] at h
    rcases List.mem_cons.1 hx with rfl | hx
    · exact h.1.1.1
    · have := okL_gt h.2 x hx
      omega
theorem live_appl (c k : Int) : ∀ {l : Int} (xs : List Ch) (m : Int → Past), okL l xs = true → liveOb ((applM c xs m) k).vs = stepR k (liveOb (m k).vs) (c, xs)
  | _, [], m, _ => rfl
  | l, x :: r, m, h => by
    simp only [okL, Bool.and_eq_true, decide_eq_true_eq] at h
    show liveOb ((applM c r (putM c x m)) k).vs = _
    rw [live_appl c k r (putM c x m) h.2]
    by_cases hk : x.oop = k
    · have hn : r.find? (fun x => decide (x.oop = k)) = none := List.find?_eq_none.2 (fun y hy => by have := okL_gt h.2 y hy; simp; omega)
      unfold stepR
      simp only [hn]
      rw [List.find?_cons_of_pos (by simpa using hk)]
      show liveOb (putM c x m k).vs = _
      unfold putM
      rw [if_pos hk.symm]
      exact live_with c x _
    · unfold stepR
      simp only
      rw [List.find?_cons_of_neg (by simpa using hk)]
      unfold putM
      rw [if_neg (fun e => hk e.symm)]
set_option maxRecDepth 100000
def obC (x : Ch) : Ob := ⟨x.cls, x.vs, x.bs⟩
/-- A list of changes with one more, as it is gone through. -/
def setF (k : Int) (n : Ch) : Bool → List Ch → List Ch
  | i, [] => if i = true then [] else [n]
  | i, x :: r => (if i = false ∧ k ≤ x.oop then [n] else []) ++ (if x.oop ≠ k then [x] else []) ++ setF k n (i || decide (k ≤ x.oop)) r
theorem setF_in {k : Int} {n : Ch} : ∀ {l : List Ch}, setF k n true l = l.filter (fun x => decide (x.oop ≠ k))
  | [] => rfl
  | x :: r => by
    simp only [setF, Bool.true_or]
    rw [setF_in (l := r), List.filter_cons]
    by_cases e : x.oop = k <;> simp [e]
theorem setF_mem {k : Int} {n : Ch} : ∀ {l : List Ch} (y : Ch), y ∈ setF k n false l ↔ y = n ∨ (y ∈ l ∧ y.oop ≠ k)
  | [], y => by simp [setF]
  | x :: r, y => by
    simp only [setF, Bool.false_or]
    by_cases hk : k ≤ x.oop
    · rw [decide_eq_true hk, setF_in]
      by_cases e : x.oop = k
      · simp [e]
        constructor
        · rintro (h | h)
          · exact .inl h
          · exact .inr ⟨.inr h.1, h.2⟩
        · rintro (h | ⟨h | h, h2⟩)
          · exact .inl h
          · subst h; exact absurd e h2
          · exact .inr ⟨h, h2⟩
      · simp [hk, e]
        constructor
        · rintro (h | h | h)
          · exact .inl h
          · exact .inr ⟨.inl h, by subst h; exact e⟩
          · exact .inr ⟨.inr h.1, h.2⟩
        · rintro (h | ⟨h | h, h2⟩)
          · exact .inl h
          · exact .inr (.inl h)
          · exact .inr (.inr ⟨h, h2⟩)
    · have e : x.oop ≠ k := by omega
      rw [decide_eq_false hk]
      rw [if_neg (fun q => hk q.2), if_pos e, List.nil_append, List.singleton_append, List.mem_cons, setF_mem y, List.mem_cons]
      constructor
      · rintro (h | h | h)
        · exact .inr ⟨.inl h, by subst h; exact e⟩
        · exact .inl h
        · exact .inr ⟨.inr h.1, h.2⟩
      · rintro (h | ⟨h | h, h2⟩)
        · exact .inr (.inl h)
        · exact .inl h
        · exact .inr (.inr ⟨h, h2⟩)
theorem setF_rise {k : Int} {n : Ch} (hn : n.oop = k) : ∀ {l : List Ch}, l.Pairwise (fun x y => x.oop < y.oop) → (setF k n false l).Pairwise (fun x y => x.oop < y.oop)
  | [], _ => by simp [setF]
  | x :: r, h => by
    rw [List.pairwise_cons] at h
    simp only [setF, Bool.false_or]
    by_cases hk : k ≤ x.oop
    · rw [decide_eq_true hk, setF_in]
      have hf : (r.filter (fun x => decide (x.oop ≠ k))).Pairwise (fun x y => x.oop < y.oop) := h.2.filter _
      by_cases e : x.oop = k
      · rw [if_pos ⟨trivial, hk⟩, if_neg (fun q => q e), List.append_nil, List.singleton_append, List.pairwise_cons]
        exact ⟨fun y hy => by rw [hn, ← e]; exact h.1 y (List.mem_filter.1 hy).1, hf⟩
      · rw [if_pos ⟨trivial, hk⟩, if_pos e, List.singleton_append, List.cons_append, List.cons_append, List.nil_append, List.pairwise_cons, List.pairwise_cons]
        refine ⟨fun y hy => ?_, fun y hy => h.1 y (List.mem_filter.1 hy).1, hf⟩
        rcases List.mem_cons.1 hy with rfl | hy
        · rw [hn]; omega
        · have := h.1 y (List.mem_filter.1 hy).1
          rw [hn]; omega
    · have e : x.oop ≠ k := by omega
      rw [decide_eq_false hk]
      rw [if_neg (fun q => hk q.2), if_pos e, List.nil_append, List.singleton_append, List.pairwise_cons]
      refine ⟨fun y hy => ?_, setF_rise hn h.2⟩
      rcases (setF_mem y).1 hy with rfl | hy
      · omega
      · exact h.1 y hy.1
/-- The records up to a commit. -/
def upTo (l : List (Int × List Ch)) (c : Int) : List (Int × List Ch) := l.filter (fun r => decide (r.1 ≤ c))
set_option maxRecDepth 100000
/-- A change put among others. -/
def putL (l : List Ch) (c : Ch) : List Ch := setF c.oop c false l
theorem setF_find_other {k : Int} {n : Ch} (hn : n.oop = k) {q : Int} (hq : q ≠ k) : ∀ (l : List Ch) (i : Bool), (setF k n i l).find? (fun x => decide (x.oop = q)) = l.find? (fun x => decide (x.oop = q))
  | [], i => by cases i <;> simp [setF, hn, Ne.symm hq]
  | x :: r, i => by
    simp only [setF, List.find?_append]
    rw [setF_find_other hn hq r]
    have h1 : (if i = false ∧ k ≤ x.oop then [n] else []).find? (fun x => decide (x.oop = q)) = none := by
      split
      · simp [hn, Ne.symm hq]
      · rfl
    rw [h1]
    by_cases e : x.oop = k
    · rw [if_neg (fun h => h e)]
      have : ¬ x.oop = q := fun h => hq (h.symm.trans e)
      simp [this]
    · rw [if_pos e]
      by_cases e2 : x.oop = q <;> simp [e2]
theorem setF_find_self {k : Int} {n : Ch} (hn : n.oop = k) : ∀ (l : List Ch), (setF k n false l).find? (fun x => decide (x.oop = k)) = some n
  | [] => by simp [setF, hn]
  | x :: r => by
    simp only [setF, Bool.false_or]
    by_cases hk : k ≤ x.oop
    · rw [if_pos ⟨trivial, hk⟩]
      simp [hn]
    · have e : x.oop ≠ k := by omega
      rw [if_neg (fun h => hk h.2), if_pos e, decide_eq_false hk]
      simp only [List.nil_append, List.singleton_append]
      rw [List.find?_cons_of_neg (by simpa using e)]
      exact setF_find_self hn r
theorem putL_find (l : List Ch) (c : Ch) (q : Int) : (putL l c).find? (fun x => decide (x.oop = q)) = if q = c.oop then some c else l.find? (fun x => decide (x.oop = q)) := by
  unfold putL
  by_cases e : q = c.oop
  · rw [if_pos e, e]; exact setF_find_self rfl l
  · rw [if_neg e]; exact setF_find_other rfl e l false
theorem foldl_find : ∀ (xs : List Ch) (b : List Ch) (q : Int), (xs.foldl putL b).find? (fun x => decide (x.oop = q)) = (xs.reverse.find? (fun x => decide (x.oop = q))).or (b.find? (fun x => decide (x.oop = q)))
  | [], b, q => by simp
  | x :: r, b, q => by
    rw [List.foldl_cons, foldl_find r, putL_find, List.reverse_cons, List.find?_append]
    by_cases e : q = x.oop
    · cases h : r.reverse.find? (fun x => decide (x.oop = q)) <;> simp [e]
    · have e' : ¬ x.oop = q := fun h => e h.symm
      cases h : r.reverse.find? (fun x => decide (x.oop = q)) <;> simp [e, e']
/-- All changes of some records, one behind the other. -/
def flatR2 (rs : List (Int × List Ch)) : List Ch := rs.flatMap (fun r => r.2)
def stL (b : List Ch) (rs : List (Int × List Ch)) : List Ch := (flatR2 rs).foldl putL b
theorem stL_cons (b : List Ch) (r : Int × List Ch) (rs : List (Int × List Ch)) : stL b (r :: rs) = stL (r.2.foldl putL b) rs := by
  unfold stL flatR2
  rw [List.flatMap_cons, List.foldl_append]
theorem stL_snoc (b : List Ch) (r : Int × List Ch) (rs : List (Int × List Ch)) : stL b (rs ++ [r]) = r.2.foldl putL (stL b rs) := by
  unfold stL flatR2
  rw [List.flatMap_append, List.foldl_append]
  simp
theorem stL_app (b : List Ch) (rs qs : List (Int × List Ch)) : stL b (rs ++ qs) = stL (stL b rs) qs := by
  unfold stL flatR2
  rw [List.flatMap_append, List.foldl_append]
theorem stL_find (b : List Ch) (rs : List (Int × List Ch)) (q : Int) : (stL b rs).find? (fun x => decide (x.oop = q)) = ((flatR2 rs).reverse.find? (fun x => decide (x.oop = q))).or (b.find? (fun x => decide (x.oop = q))) := foldl_find _ _ _
theorem foldl_rise : ∀ (xs : List Ch) {b : List Ch}, b.Pairwise (fun x y => x.oop < y.oop) → (xs.foldl putL b).Pairwise (fun x y => x.oop < y.oop)
  | [], _, h => h
  | _ :: r, _, h => foldl_rise r (setF_rise rfl h)
theorem stL_rise {b : List Ch} (h : b.Pairwise (fun x y => x.oop < y.oop)) (rs : List (Int × List Ch)) : (stL b rs).Pairwise (fun x y => x.oop < y.oop) := foldl_rise _ h
/-- The document's table. -/
structure RTf where
  from_ : Int
  end_ : Int
  base : List Ch
  recs : List (Int × List Ch)
  ws : List (Int × Int)
def stateU (u : RTf) (c : Int) : List Ch := stL u.base (upTo u.recs c)
/-- What stands behind a commit, by the document. -/
def chU (u : RTf) (c k : Int) : Option Ch := (stateU u c).find? (fun x => decide (x.oop = k))
def atU (u : RTf) (c k : Int) : Option Ob := match chU u c k with
  | none => none
  | some x => if x.gone = true then none else some (obC x)
theorem chU_eq (u : RTf) (c k : Int) : chU u c k = ((flatR2 (upTo u.recs c)).reverse.find? (fun x => decide (x.oop = k))).or (u.base.find? (fun x => decide (x.oop = k))) := stL_find _ _ _
/-- What is well in the document's table. -/
structure OkU (u : RTf) : Prop where
  rb : u.base.Pairwise (fun x y => x.oop < y.oop)
  rr : u.recs.Pairwise (fun r s => r.1 < s.1)
  lo : ∀ r ∈ u.recs, u.from_ < r.1
  hi : ∀ r ∈ u.recs, r.1 ≤ u.end_
  fe : u.from_ ≤ u.end_
def forgU (u : RTf) (c : Int) : RTf := ⟨c, u.end_, stateU u c, u.recs.filter (fun r => decide (c < r.1)), u.ws⟩
def appU (u : RTf) (c : Int) (xs : List Ch) : RTf := ⟨u.from_, c, u.base, u.recs ++ [(c, xs)], u.ws ++ xs.map (fun x => (x.oop, c))⟩
theorem upToAll {l : List (Int × List Ch)} {c : Int} (h : ∀ r ∈ l, r.1 ≤ c) : upTo l c = l := List.filter_eq_self.2 (fun r hr => by simpa using h r hr)
theorem stateU_rise {u : RTf} (h : OkU u) (c : Int) : (stateU u c).Pairwise (fun x y => x.oop < y.oop) := stL_rise h.rb _
theorem upTo_split {rs : List (Int × List Ch)} (h : rs.Pairwise (fun r s => r.1 < s.1)) {c d : Int} (hcd : c ≤ d) : upTo rs d = upTo rs c ++ upTo (rs.filter (fun r => decide (c < r.1))) d := by
  unfold upTo
  induction rs with
  | nil => rfl
  | cons r t ih =>
    rw [List.pairwise_cons] at h
    by_cases hc : r.1 ≤ c
    · have h2 : ¬ c < r.1 := by omega
      have h3 : r.1 ≤ d := by omega
      rw [List.filter_cons_of_pos (by simpa using h3), List.filter_cons_of_pos (l := t) (p := fun r : Int × List Ch => decide (r.1 ≤ c)) (by simpa using hc), List.filter_cons_of_neg (p := fun r : Int × List Ch => decide (c < r.1)) (by simpa using h2), List.cons_append, ih h.2]
    · have h2 : c < r.1 := by omega
      have hnil : t.filter (fun r => decide (r.1 ≤ c)) = [] := by
        rw [List.filter_eq_nil_iff]
        intro s hs
        have := h.1 s hs
        simp
        omega
      have hall : t.filter (fun r => decide (c < r.1)) = t := by
        rw [List.filter_eq_self]
        intro s hs
        have := h.1 s hs
        simp
        omega
      rw [List.filter_cons_of_neg (l := t) (p := fun r : Int × List Ch => decide (r.1 ≤ c)) (by simpa using hc), hnil, List.filter_cons_of_pos (p := fun r : Int × List Ch => decide (c < r.1)) (by simpa using h2), hall, List.nil_append]
/-- What is not forgotten stays. -/
theorem forgU_state {u : RTf} (h : OkU u) {c d : Int} (hcd : c ≤ d) : stateU (forgU u c) d = stateU u d := by
  unfold stateU forgU
  simp only
  rw [upTo_split h.rr hcd, stL_app]
  rfl
theorem forgU_at {u : RTf} (h : OkU u) {c d : Int} (hcd : c ≤ d) (k : Int) : atU (forgU u c) d k = atU u d k := by
  unfold atU chU
  rw [forgU_state h hcd]
theorem forgU_ok {u : RTf} (h : OkU u) {c : Int} (hc : u.from_ ≤ c ∧ c ≤ u.end_) : OkU (forgU u c) := by
  refine ⟨stL_rise h.rb _, h.rr.filter _, fun r hr => ?_, fun r hr => h.hi r (List.mem_filter.1 hr).1, hc.2⟩
  have := (List.mem_filter.1 hr).2
  show c < r.1
  simpa using this
theorem appU_ok {u : RTf} (h : OkU u) {c : Int} (hc : u.end_ < c) (xs : List Ch) : OkU (appU u c xs) := by
  have hfe := h.fe
  refine ⟨h.rb, ?_, fun r hr => ?_, fun r hr => ?_, by show u.from_ ≤ c; omega⟩
  · show (u.recs ++ [(c, xs)]).Pairwise _
    rw [List.pairwise_append]
    refine ⟨h.rr, List.pairwise_singleton _ _, fun r hr s hs => ?_⟩
    rw [List.mem_singleton] at hs
    subst hs
    have := h.hi r hr
    show r.1 < c
    omega
  · rcases List.mem_append.1 hr with q | q
    · exact h.lo r q
    · rw [List.mem_singleton] at q
      subst q
      show u.from_ < c
      omega
  · rcases List.mem_append.1 hr with q | q
    · have := h.hi r q
      show r.1 ≤ c
      omega
    · rw [List.mem_singleton] at q
      subst q
      exact Int.le_refl _
/-- What stood behind a commit stays behind a new one. -/
theorem appU_state {u : RTf} {c : Int} {xs : List Ch} {d : Int} (hd : d < c) : stateU (appU u c xs) d = stateU u d := by
  unfold stateU appU upTo
  simp only
  rw [List.filter_append, List.filter_cons_of_neg (by simp; omega)]
  simp
theorem appU_new {u : RTf} (h : OkU u) {c : Int} (xs : List Ch) {d : Int} (hd : u.end_ ≤ d) (hc : c ≤ d) : stateU (appU u c xs) d = xs.foldl putL (stateU u u.end_) := by
  have e1 : upTo u.recs d = u.recs := upToAll (fun r hr => by have := h.hi r hr; omega)
  have e2 : upTo u.recs u.end_ = u.recs := upToAll (fun r hr => h.hi r hr)
  unfold stateU appU
  simp only
  rw [e2]
  have : upTo (u.recs ++ [(c, xs)]) d = u.recs ++ [(c, xs)] := by
    unfold upTo at *
    rw [List.filter_append, e1, List.filter_cons_of_pos (by simpa using hc)]
    rfl
  rw [this, stL_snoc]
/-- Objects behind a commit, rising. -/
def liveU (u : RTf) (c : Int) : List Ch := (stateU u c).filter (fun x => !x.gone)
theorem liveU_rise {u : RTf} (h : OkU u) (c : Int) : (liveU u c).Pairwise (fun x y => x.oop < y.oop) := (stL_rise h.rb _).filter _
theorem find_of_mem {l : List Ch} (h : l.Pairwise (fun x y => x.oop < y.oop)) {x : Ch} (hx : x ∈ l) : l.find? (fun y => decide (y.oop = x.oop)) = some x := by
  induction l with
  | nil => cases hx
  | cons y r ih =>
    rw [List.pairwise_cons] at h
    rcases List.mem_cons.1 hx with rfl | hx
    · simp
    · have := h.1 x hx
      rw [List.find?_cons_of_neg (by simp; omega)]
      exact ih h.2 hx
theorem liveU_mem {u : RTf} (h : OkU u) {c k : Int} : (∃ x ∈ liveU u c, x.oop = k) ↔ atU u c k ≠ none := by
  unfold atU chU liveU
  constructor
  · rintro ⟨x, hx, rfl⟩
    obtain ⟨h1, h2⟩ := List.mem_filter.1 hx
    rw [find_of_mem (stateU_rise h c) h1]
    simp at h2
    simp [h2]
  · intro hn
    cases hf : (stateU u c).find? (fun x => decide (x.oop = k)) with
    | none => simp [hf] at hn
    | some x =>
      have hx := List.mem_of_find?_eq_some hf
      have hk : x.oop = k := by have := List.find?_some hf; simpa using this
      refine ⟨x, List.mem_filter.2 ⟨hx, ?_⟩, hk⟩
      cases hg : x.gone with
      | false => rfl
      | true => simp [hf, hg] at hn
theorem liveU_at {u : RTf} (h : OkU u) {c : Int} {x : Ch} (hx : x ∈ liveU u c) : atU u c x.oop = some (obC x) := by
  obtain ⟨h1, h2⟩ := List.mem_filter.1 hx
  unfold atU chU
  rw [find_of_mem (stateU_rise h c) h1]
  simp at h2
  simp [h2]
/-- Which commit changed an oop last. -/
def whenU (u : RTf) (k : Int) : Int := match u.ws.reverse.find? (fun q => decide (q.1 = k)) with
  | none => 0
  | some q => q.2
set_option maxRecDepth 100000
theorem atC_live {vs : List Ch} {c : Int} (h : ∀ x ∈ vs, x.oop ≤ c) : toOb (atC vs c) = liveOb vs := by
  unfold atC liveOb
  rw [List.filter_eq_self.2 (fun x hx => by simpa using h x hx)]
  cases hv : vs.getLast? with
  | none => rfl
  | some x =>
    simp only
    split <;> rfl
theorem atC_filter {vs ws : List Ch} {c : Int} (h : vs.filter (fun y => decide (y.oop ≤ c)) = ws.filter (fun y => decide (y.oop ≤ c))) : atC vs c = atC ws c := by
  unfold atC
  rw [h]
/-- They say the same. -/
structure RelF (t : Tab) (u : RTf) : Prop where
  first : t.first = u.from_
  last : t.last = u.end_
  ok : OkU u
  at_ : ∀ c k, t.first ≤ c → c ≤ t.last → toOb (atC (t.m k).vs c) = atU u c k
  chg : ∀ k, (t.m k).chg = whenU u k
theorem okL_find : ∀ {l : Int} {xs : List Ch} (k : Int), okL l xs = true → xs.reverse.find? (fun x => decide (x.oop = k)) = xs.find? (fun x => decide (x.oop = k))
  | _, [], _, _ => rfl
  | l, x :: r, k, h => by
    simp only [okL, Bool.and_eq_true, decide_eq_true_eq] at h
    rw [List.reverse_cons, List.find?_append, okL_find k h.2]
    by_cases e : x.oop = k
    · have hn : r.find? (fun x => decide (x.oop = k)) = none := List.find?_eq_none.2 (fun y hy => by have := okL_gt h.2 y hy; simp; omega)
      rw [hn]
      simp [e]
    · cases hf : r.find? (fun x => decide (x.oop = k)) <;> simp [e, hf]
theorem stateU_end {u : RTf} (h : OkU u) {d : Int} (hd : u.end_ ≤ d) : stateU u d = stateU u u.end_ := by
  unfold stateU
  rw [upToAll (fun r hr => by have := h.hi r hr; omega), upToAll (fun r hr => h.hi r hr)]
theorem appl_chg (c k : Int) : ∀ {l : Int} (xs : List Ch) (m : Int → Past), okL l xs = true → ((applM c xs m) k).chg = match xs.find? (fun x => decide (x.oop = k)) with | none => (m k).chg | some _ => c
  | _, [], _, _ => rfl
  | l, x :: r, m, h => by
    simp only [okL, Bool.and_eq_true, decide_eq_true_eq] at h
    show ((applM c r (putM c x m)) k).chg = _
    rw [appl_chg c k r (putM c x m) h.2]
    by_cases e : x.oop = k
    · have hn : r.find? (fun x => decide (x.oop = k)) = none := List.find?_eq_none.2 (fun y hy => by have := okL_gt h.2 y hy; simp; omega)
      rw [hn, List.find?_cons_of_pos (by simpa using e)]
      simp [putM, e]
    · rw [List.find?_cons_of_neg (by simpa using e)]
      have : putM c x m k = m k := by unfold putM; rw [if_neg (fun q => e q.symm)]
      rw [this]
theorem when_app (u : RTf) (c k : Int) {l : Int} (xs : List Ch) (h : okL l xs = true) : whenU (appU u c xs) k = match xs.find? (fun x => decide (x.oop = k)) with | none => whenU u k | some _ => c := by
  unfold whenU appU
  simp only
  rw [List.reverse_append, List.find?_append, ← List.map_reverse, List.find?_map]
  have e : xs.reverse.find? ((fun q : Int × Int => decide (q.1 = k)) ∘ fun x : Ch => (x.oop, c)) = xs.find? (fun x => decide (x.oop = k)) := by rw [← okL_find k h]; rfl
  rw [e]
  cases hf : xs.find? (fun x => decide (x.oop = k)) with
  | none => simp
  | some x => simp
theorem RelF.apply {t : Tab} {u : RTf} (h : RelF t u) (hg : GoodM t.m t.last) (hfl : t.first ≤ t.last) {c : Int} {xs : List Ch} (hok : okR c xs = true) (hc : t.last < c) : RelF ⟨t.first, c, applM c xs t.m⟩ (appU u c xs) := by
  have hx : okL 0 xs = true := by simp only [okR, Bool.and_eq_true] at hok; exact hok.2
  have hv : ∀ k x, x ∈ (t.m k).vs → x.oop ≤ t.last := fun k x q => by have q1 := hg.ver k x q; have q2 := hg.chg k; omega
  have hle := h.last
  refine ⟨h.first, rfl, appU_ok h.ok (by omega) xs, fun d k h1 h2 => ?_, fun k => ?_⟩
  · show toOb (atC ((applM c xs t.m) k).vs d) = _
    change t.first ≤ d at h1
    change d ≤ c at h2
    rcases Int.lt_or_le d c with hd | hd
    · rw [atC_filter (applM_filter c d hd k xs t.m)]
      have e : atU (appU u c xs) d k = atU u d k := by unfold atU chU; rw [appU_state hd]
      rw [e]
      rcases Int.lt_or_le t.last d with hl | hl
      · have e2 : atU u d k = atU u t.last k := by unfold atU chU; rw [stateU_end h.ok (by omega), hle]
        rw [e2, ← h.at_ t.last k hfl (Int.le_refl _), atC_live (fun x q => by have := hv k x q; omega), atC_live (hv k)]
      · exact h.at_ d k h1 hl
    · obtain rfl : d = c := by omega
      have hnew : ∀ x ∈ ((applM d xs t.m) k).vs, x.oop ≤ d := fun x q => by
        have hG := hg.applK (xs := xs) (c := d) (by have := hg.chg k; omega) hc hx xs.length
        rw [List.take_length] at hG
        have q1 := hG.ver k x q
        have q2 := hG.chg k
        omega
      rw [atC_live hnew, live_appl d k xs t.m hx, ← atC_live (hv k), h.at_ t.last k hfl (Int.le_refl _)]
      unfold atU chU
      rw [appU_new h.ok xs (by omega) (Int.le_refl _), foldl_find, okL_find k hx, hle]
      unfold stepR
      simp only
      cases hf : xs.find? (fun x => decide (x.oop = k)) with
      | none => simp
      | some x =>
        simp only [Option.some_or]
        split <;> rfl
  · show ((applM c xs t.m) k).chg = _
    rw [appl_chg c k xs t.m hx, when_app u c k xs hx, h.chg k]
/-- Versions: the first is an object, no two that are gone stand side by side, the second is behind the first commit. -/
structure AltC (f : Int) (vs : List Ch) : Prop where
  head : ∀ x, vs[0]? = some x → x.gone = false
  next : ∀ i x y, vs[i]? = some x → vs[i + 1]? = some y → x.gone = true → y.gone = false
  snd : ∀ y, vs[1]? = some y → f < y.oop
theorem AltC.nil (f : Int) : AltC f [] := ⟨fun x h => by simp at h, fun i x y h => by simp at h, fun y h => by simp at h⟩
theorem AltC.with_ {f c : Int} {vs : List Ch} (h : AltC f vs) (hc : f < c) (x : Ch) : AltC f (withL c x vs) := by
  unfold withL
  split
  · rename_i hx
    refine ⟨fun z hz => ?_, fun i z y hz hy hg => ?_, fun y hy => ?_⟩
    · cases vs with
      | nil =>
        simp at hz
        subst hz
        simpa [thereC] using hx
      | cons a r => simp at hz; exact h.head z (by simpa using hz)
    · rcases Nat.lt_or_ge (i + 1) vs.length with hl | hl
      · rw [List.getElem?_append_left (by omega)] at hz
        rw [List.getElem?_append_left hl] at hy
        exact h.next i z y hz hy hg
      · have hlen := (List.getElem?_eq_some_iff.1 hy).1
        rw [List.length_append, List.length_singleton] at hlen
        have e : i + 1 = vs.length := by omega
        rw [List.getElem?_append_right hl, e, Nat.sub_self] at hy
        simp at hy
        subst hy
        rw [List.getElem?_append_left (by omega)] at hz
        cases hgx : x.gone with
        | false => rfl
        | true =>
          rw [hgx] at hx
          simp only [Bool.not_true, Bool.false_or] at hx
          unfold thereC at hx
          have : vs.getLast? = some z := by rw [List.getLast?_eq_getElem?, show vs.length - 1 = i by omega]; exact hz
          rw [this] at hx
          simp [hg] at hx
    · rcases Nat.lt_or_ge 1 vs.length with hl | hl
      · rw [List.getElem?_append_left hl] at hy
        exact h.snd y hy
      · have hlen := (List.getElem?_eq_some_iff.1 hy).1
        rw [List.length_append, List.length_singleton] at hlen
        rw [List.getElem?_append_right hl, show 1 - vs.length = 0 by omega] at hy
        simp at hy
        subst hy
        exact hc
  · exact h
theorem AltC.appl {f c : Int} (hc : f < c) (k : Int) : ∀ (xs : List Ch) (m : Int → Past), AltC f (m k).vs → AltC f ((applM c xs m) k).vs
  | [], _, h => h
  | x :: r, m, h => by
    refine AltC.appl hc k r (putM c x m) ?_
    unfold putM
    split
    · exact h.with_ hc x
    · exact h
theorem rise_pair' {xs : List Ch} (h : RiseC xs) : xs.Pairwise (fun x y => x.oop < y.oop) := by
  rw [List.pairwise_iff_getElem]
  intro i j hi hj hij
  exact h i j _ _ hij (List.getElem?_eq_getElem hi) (List.getElem?_eq_getElem hj)
theorem filter_take' (d : Int) : ∀ (xs : List Ch), xs.Pairwise (fun x y => x.oop < y.oop) → xs.filter (fun y => decide (y.oop ≤ d)) = xs.take (xs.filter (fun y => decide (y.oop ≤ d))).length
  | [], _ => rfl
  | x :: r, h => by
    rw [List.pairwise_cons] at h
    by_cases hx : x.oop ≤ d
    · rw [List.filter_cons_of_pos (by simpa using hx), List.length_cons, List.take_succ_cons, ← filter_take' d r h.2]
    · have hn : r.filter (fun y => decide (y.oop ≤ d)) = [] := by
        rw [List.filter_eq_nil_iff]
        intro y hy
        have := h.1 y hy
        simp
        omega
      rw [List.filter_cons_of_neg (by simpa using hx), hn]
      rfl
/-- Where the versions up to a commit stand. -/
theorem idx_le {vs : List Ch} (h : RiseC vs) {c : Int} {i : Nat} {y : Ch} (hy : vs[i]? = some y) : i < (vs.filter (fun x => decide (x.oop ≤ c))).length ↔ y.oop ≤ c := by
  have ht := filter_take' c vs (rise_pair' h)
  constructor
  · intro hi
    have : y ∈ vs.filter (fun x => decide (x.oop ≤ c)) := by
      rw [ht]
      exact List.mem_of_getElem? (by rw [List.getElem?_take, if_pos hi]; exact hy)
    have := (List.mem_filter.1 this).2
    simpa using this
  · intro hle
    have hm : y ∈ vs.filter (fun x => decide (x.oop ≤ c)) := List.mem_filter.2 ⟨List.mem_of_getElem? hy, by simpa using hle⟩
    rw [ht] at hm
    obtain ⟨j, hj⟩ := List.mem_iff_getElem?.1 hm
    rw [List.getElem?_take] at hj
    split at hj
    · rename_i hjn
      rcases Nat.lt_or_ge i (vs.filter (fun x => decide (x.oop ≤ c))).length with q | q
      · exact q
      · have := h j i y y (by omega) hj hy
        omega
    · cases hj
theorem AltC.from_ {f c : Int} {vs : List Ch} (h : AltC f vs) (hr : RiseC vs) : AltC c (fromL c vs) := by
  have hlen : (vs.filter (fun x => decide (x.oop ≤ c))).length ≤ vs.length := List.length_filter_le _ _
  have hgt : ∀ i y, vs[i]? = some y → (vs.filter (fun x => decide (x.oop ≤ c))).length ≤ i → c < y.oop := fun i y hy hi => by
    rcases Int.lt_or_le c y.oop with q | q
    · exact q
    · have := (idx_le hr hy).2 q
      omega
  unfold fromL cutN
  obtain ⟨n, hn⟩ : ∃ n, n = (vs.filter (fun x => decide (x.oop ≤ c))).length := ⟨_, rfl⟩
  rw [← hn] at hlen hgt ⊢
  cases hx : vs[n - 1]? with
  | none =>
    have : vs.length = 0 := by
      have := List.getElem?_eq_none_iff.1 hx
      omega
    rw [List.eq_nil_of_length_eq_zero this]
    simp only [List.drop_nil]
    exact AltC.nil c
  | some x =>
    simp only
    split
    · rename_i hg
      have h0 : n ≠ 0 := fun e => by
        rw [e] at hx
        have := h.head x hx
        rw [hg] at this
        cases this
      rw [show n - 1 + 1 = n by omega]
      refine ⟨fun z hz => ?_, fun i a b ha hb => ?_, fun y hy => ?_⟩
      · rw [List.getElem?_drop] at hz
        exact h.next (n - 1) x z hx (by rw [show n - 1 + 1 = n + 0 by omega]; exact hz) hg
      · rw [List.getElem?_drop] at ha hb
        exact h.next (n + i) a b ha (by rw [show n + i + 1 = n + (i + 1) by omega]; exact hb)
      · rw [List.getElem?_drop] at hy
        exact hgt (n + 1) y hy (by omega)
    · rename_i hg
      refine ⟨fun z hz => ?_, fun i a b ha hb => ?_, fun y hy => ?_⟩
      · rw [List.getElem?_drop, Nat.add_zero, hx] at hz
        cases hz
        simpa using hg
      · rw [List.getElem?_drop] at ha hb
        exact h.next (n - 1 + i) a b ha (by rw [show n - 1 + i + 1 = n - 1 + (i + 1) by omega]; exact hb)
      · rw [List.getElem?_drop] at hy
        exact hgt (n - 1 + 1) y hy (by omega)
/-- An oop that has versions is an object behind some commit that may be asked. -/
theorem AltC.shows {f l : Int} {vs : List Ch} (h : AltC f vs) (hr : RiseC vs) (hfl : f ≤ l) (hl : ∀ x ∈ vs, x.oop ≤ l) (hne : vs ≠ []) : ∃ c, f ≤ c ∧ c ≤ l ∧ atC vs c ≠ none := by
  obtain ⟨x, hx⟩ : ∃ x, vs[0]? = some x := by
    cases vs with
    | nil => exact absurd rfl hne
    | cons x r => exact ⟨x, rfl⟩
  have hxl := hl x (List.mem_of_getElem? hx)
  refine ⟨max f x.oop, by omega, by omega, ?_⟩
  have h0 := (idx_le (c := max f x.oop) hr hx).2 (by omega)
  have h1 : (vs.filter (fun y => decide (y.oop ≤ max f x.oop))).length ≤ 1 := by
    rcases Nat.lt_or_ge 1 (vs.filter (fun y => decide (y.oop ≤ max f x.oop))).length with q | q
    · have hlen : (vs.filter (fun y => decide (y.oop ≤ max f x.oop))).length ≤ vs.length := List.length_filter_le _ _
      obtain ⟨y, hy⟩ : ∃ y, vs[1]? = some y := ⟨_, List.getElem?_eq_getElem (by omega)⟩
      have a1 := (idx_le (c := max f x.oop) hr hy).1 q
      have a2 := h.snd y hy
      have a3 := hr 0 1 x y (by omega) hx hy
      omega
    · exact q
  have e1 : (vs.filter (fun y => decide (y.oop ≤ max f x.oop))).length = 1 := by omega
  have ht := filter_take' (max f x.oop) vs (rise_pair' hr)
  rw [e1] at ht
  unfold atC
  rw [ht]
  have : vs.take 1 = [x] := by
    cases vs with
    | nil => simp at hx
    | cons a r => simp at hx; simp [hx]
  rw [this]
  simp [h.head x hx]
/-- Is an oop taken, by the document. -/
def TakenU (u : RTf) (k : Int) : Prop := (∃ x ∈ u.base, x.gone = false ∧ x.oop = k) ∨ ∃ r ∈ u.recs, ∃ x ∈ r.2, x.gone = false ∧ x.oop = k
theorem taken_iff {u : RTf} (h : OkU u) (hok : ∀ r ∈ u.recs, okL 0 r.2 = true) (k : Int) : TakenU u k ↔ ∃ c, u.from_ ≤ c ∧ c ≤ u.end_ ∧ atU u c k ≠ none := by
  constructor
  · rintro (⟨x, hx, hg, rfl⟩ | ⟨r, hr, x, hx, hg, rfl⟩)
    · refine ⟨u.from_, Int.le_refl _, h.fe, ?_⟩
      have e : upTo u.recs u.from_ = [] := by
        unfold upTo
        rw [List.filter_eq_nil_iff]
        intro r hr
        have := h.lo r hr
        simp
        omega
      unfold atU chU stateU
      rw [e]
      show (match (stL u.base []).find? _ with | none => none | some x => if x.gone = true then none else some (obC x)) ≠ none
      have : stL u.base [] = u.base := rfl
      rw [this, find_of_mem h.rb hx]
      simp [hg]
    · refine ⟨r.1, by have := h.lo r hr; omega, h.hi r hr, ?_⟩
      obtain ⟨a, b, hab⟩ := List.append_of_mem hr
      have hrr := h.rr
      rw [hab, List.pairwise_append] at hrr
      obtain ⟨_, p2, p3⟩ := hrr
      rw [List.pairwise_cons] at p2
      have e : upTo u.recs r.1 = a ++ [r] := by
        unfold upTo
        rw [hab, List.filter_append, List.filter_cons_of_pos (by simp)]
        have e1 : a.filter (fun q => decide (q.1 ≤ r.1)) = a := List.filter_eq_self.2 (fun q hq => by have := p3 q hq r (by simp); simp; omega)
        have e2 : b.filter (fun q => decide (q.1 ≤ r.1)) = [] := List.filter_eq_nil_iff.2 (fun q hq => by have := p2.1 q hq; simp; omega)
        rw [e1, e2]
      unfold atU chU stateU
      rw [e, stL_snoc, foldl_find, okL_find _ (hok r hr)]
      have hf : r.2.find? (fun y => decide (y.oop = x.oop)) = some x := by
        refine find_of_mem ?_ hx
        have : ∀ {l : Int} {xs : List Ch}, okL l xs = true → xs.Pairwise (fun x y => x.oop < y.oop) := by
          intro l xs
          induction xs generalizing l with
          | nil => intro _; exact List.Pairwise.nil
          | cons y t ih =>
            intro q
            simp only [okL, Bool.and_eq_true, decide_eq_true_eq] at q
            exact List.pairwise_cons.2 ⟨okL_gt q.2, ih q.2⟩
        exact this (hok r hr)
      rw [hf]
      simp [hg]
  · rintro ⟨c, h1, h2, h3⟩
    unfold atU at h3
    rw [chU_eq] at h3
    cases hf : (flatR2 (upTo u.recs c)).reverse.find? (fun x => decide (x.oop = k)) with
    | some x =>
      rw [hf] at h3
      simp only [Option.some_or] at h3
      have hx := List.mem_of_find?_eq_some hf
      have hk : x.oop = k := by have := List.find?_some hf; simpa using this
      rw [List.mem_reverse] at hx
      unfold flatR2 at hx
      obtain ⟨r, hr, hxr⟩ := List.mem_flatMap.1 hx
      refine .inr ⟨r, (List.mem_filter.1 hr).1, x, hxr, ?_, hk⟩
      cases hg : x.gone with
      | false => rfl
      | true => simp [hg] at h3
    | none =>
      rw [hf] at h3
      simp only [Option.none_or] at h3
      cases hb : u.base.find? (fun x => decide (x.oop = k)) with
      | none => rw [hb] at h3; simp at h3
      | some x =>
        rw [hb] at h3
        have hx := List.mem_of_find?_eq_some hb
        have hk : x.oop = k := by have := List.find?_some hb; simpa using this
        refine .inl ⟨x, hx, ?_, hk⟩
        cases hg : x.gone with
        | false => rfl
        | true => simp [hg] at h3
/-- Free oops are the same. -/
theorem RelF.free {t : Tab} {u : RTf} (h : RelF t u) (hg : GoodM t.m t.last) (ha : ∀ k, AltC t.first (t.m k).vs) (hok : ∀ r ∈ u.recs, okL 0 r.2 = true) (k : Int) : (t.m k).vs = [] ↔ ¬ TakenU u k := by
  rw [taken_iff h.ok hok k]
  have hfe := h.ok.fe
  constructor
  · rintro he ⟨c, h1, h2, h3⟩
    rw [← h.at_ c k (by rw [h.first]; exact h1) (by rw [h.last]; exact h2), he] at h3
    exact h3 rfl
  · intro hn
    refine Classical.byContradiction fun hne => hn ?_
    obtain ⟨c, h1, h2, h3⟩ := (ha k).shows (hg.rise k) (l := t.last) (by rw [h.first, h.last]; exact hfe) (fun x hx => by have q1 := hg.ver k x hx; have q2 := hg.chg k; omega) hne
    refine ⟨c, by rw [← h.first]; exact h1, by rw [← h.last]; exact h2, ?_⟩
    rw [← h.at_ c k h1 h2]
    cases he : atC (t.m k).vs c with
    | none => exact absurd he h3
    | some x => simp [toOb]
end Go.Proofs.Ytajdelinfkodbaa
