/- What a view and the document's view have in common. -/
import Derived.Test.YteomolihandfnaaGreatDvw
import Derived.Test.YteomolihandfnaaGreatVop
namespace Go.Proofs.YteomolihandfnaaGreat
open Go.RowKit
set_option maxRecDepth 100000
def obC (x : Ch) : Ob := ⟨x.cls, x.vs, x.bs⟩
def chO (k : Int) (o : Ob) : Ch := ⟨k, false, o.cls, o.vs, o.bs⟩
structure VR (v : Vw) (r : Dv) : Prop where
  c : r.c = v.base
  n : r.n = v.made
  m0 : 0 ≤ v.made ∧ v.made ≤ 4096
  rise : r.l.Pairwise (fun x y => x.oop < y.oop)
  mem : ∀ x ∈ r.l, x.gone = false ∧ v.own x.oop = some (obC x)
  all : ∀ k o, v.own k = some o → ∃ x ∈ r.l, x.oop = k
  rd : ∀ i : Nat, i < 4097 → r.rd i = v.reads i
  ky : KyV v
  nw : ∀ k, 4096 < k → (v.own k ≠ none ↔ k ≤ 4096 + v.made)
def dv0 (c : Int) : Dv := ⟨c, [], fun _ => false, 0⟩
theorem VR.new (c : Int) : VR (vw0 c) (dv0 c) := ⟨rfl, rfl, by simp [vw0], List.Pairwise.nil, by simp [dv0], fun k o h => by simp [vw0] at h, fun _ _ => rfl, KyV.new c, fun k hk => ⟨fun h => absurd rfl h, fun h => by simp [vw0] at h; omega⟩⟩
theorem VR.read {v : Vw} {r : Dv} (h : VR v r) (k : Int) : VR (readV v k) (dreadV r k) := by
  have hy := h.ky.read k
  unfold readV dreadV at *
  split
  · rename_i hk
    rw [if_pos hk] at hy
    refine ⟨h.c, h.n, h.m0, h.rise, h.mem, h.all, fun i hi => ?_, hy, h.nw⟩
    show (r.rd i || decide (i = k.toNat)) = (v.reads (i : Int) || decide ((i : Int) = k))
    rw [h.rd i hi]
    congr 1
    by_cases e : (i : Int) = k
    · rw [decide_eq_true e, decide_eq_true (by omega)]
    · rw [decide_eq_false e, decide_eq_false (by omega)]
  · exact h
/-- A list of changes with one more, as it is gone through. -/
def setF (k : Int) (n : Ch) : Bool → List Ch → List Ch
  | i, [] => if i = true then [] else [n]
  | i, x :: r => (if i = false ∧ k ≤ x.oop then [n] else []) ++ (if x.oop ≠ k then [x] else []) ++ setF k n (i || decide (k ≤ x.oop)) r
def setL (l : List Ch) (k : Int) (o : Ob) : List Ch := setF k (chO k o) false l
theorem setF_in {k : Int} {n : Ch} : ∀ {l : List Ch}, setF k n true l = l.filter (fun x => decide (x.oop ≠ k))
  | [] => rfl
  | x :: r => by
    simp only [setF, Bool.true_or]
    rw [setF_in (l := r), List.filter_cons]
    by_cases e : x.oop = k <;> simp [e]
theorem setF_mem {k : Int} {n : Ch} : ∀ {l : List Ch} (y : Ch), y ∈ setF k n false l ↔ y = n ∨ (y ∈ l ∧ y.oop ≠ k)
  | [], y => by simp [setF]
  | x :: r, y => by
    simp only [setF, Bool.false_or]
    by_cases hk : k ≤ x.oop
    · rw [decide_eq_true hk, setF_in]
      by_cases e : x.oop = k
      · simp [e]
        constructor
        · rintro (h | h)
          · exact .inl h
          · exact .inr ⟨.inr h.1, h.2⟩
        · rintro (h | ⟨h | h, h2⟩)
          · exact .inl h
          · subst h; exact absurd e h2
          · exact .inr ⟨h, h2⟩
      · simp [hk, e]
        constructor
        · rintro (h | h | h)
          · exact .inl h
          · exact .inr ⟨.inl h, by subst h; exact e⟩
          · exact .inr ⟨.inr h.1, h.2⟩
        · rintro (h | ⟨h | h, h2⟩)
          · exact .inl h
          · exact .inr (.inl h)
          · exact .inr (.inr ⟨h, h2⟩)
    · have e : x.oop ≠ k := by omega
      rw [decide_eq_false hk]
      rw [if_neg (fun q => hk q.2), if_pos e, List.nil_append, List.singleton_append, List.mem_cons, setF_mem y, List.mem_cons]
      constructor
      · rintro (h | h | h)
        · exact .inr ⟨.inl h, by subst h; exact e⟩
        · exact .inl h
        · exact .inr ⟨.inr h.1, h.2⟩
      · rintro (h | ⟨h | h, h2⟩)
        · exact .inr (.inl h)
        · exact .inl h
        · exact .inr (.inr ⟨h, h2⟩)
theorem setF_rise {k : Int} {n : Ch} (hn : n.oop = k) : ∀ {l : List Ch}, l.Pairwise (fun x y => x.oop < y.oop) → (setF k n false l).Pairwise (fun x y => x.oop < y.oop)
  | [], _ => by simp [setF]
  | x :: r, h => by
    rw [List.pairwise_cons] at h
    simp only [setF, Bool.false_or]
    by_cases hk : k ≤ x.oop
    · rw [decide_eq_true hk, setF_in]
      have hf : (r.filter (fun x => decide (x.oop ≠ k))).Pairwise (fun x y => x.oop < y.oop) := h.2.filter _
      by_cases e : x.oop = k
      · rw [if_pos ⟨trivial, hk⟩, if_neg (fun q => q e), List.append_nil, List.singleton_append, List.pairwise_cons]
        exact ⟨fun y hy => by rw [hn, ← e]; exact h.1 y (List.mem_filter.1 hy).1, hf⟩
      · rw [if_pos ⟨trivial, hk⟩, if_pos e, List.singleton_append, List.cons_append, List.cons_append, List.nil_append, List.pairwise_cons, List.pairwise_cons]
        refine ⟨fun y hy => ?_, fun y hy => h.1 y (List.mem_filter.1 hy).1, hf⟩
        rcases List.mem_cons.1 hy with rfl | hy
        · rw [hn]; omega
        · have := h.1 y (List.mem_filter.1 hy).1
          rw [hn]; omega
    · have e : x.oop ≠ k := by omega
      rw [decide_eq_false hk]
      rw [if_neg (fun q => hk q.2), if_pos e, List.nil_append, List.singleton_append, List.pairwise_cons]
      refine ⟨fun y hy => ?_, setF_rise hn h.2⟩
      rcases (setF_mem y).1 hy with rfl | hy
      · omega
      · exact h.1 y hy.1
theorem setF_len {k : Int} {n : Ch} : ∀ {l : List Ch} {i : Bool}, (setF k n i l).length ≤ l.length + 1
  | [], i => by cases i <;> simp [setF]
  | x :: r, true => by
    rw [setF_in]
    exact Nat.le_succ_of_le (List.length_filter_le _ _)
  | x :: r, false => by
    simp only [setF, Bool.false_or]
    by_cases hk : k ≤ x.oop
    · rw [decide_eq_true hk, setF_in]
      have := List.length_filter_le (fun x : Ch => decide (x.oop ≠ k)) r
      by_cases e : x.oop = k
      · simp [e]; simp at this; omega
      · simp [hk, e]; simp at this; omega
    · have e : x.oop ≠ k := by omega
      rw [decide_eq_false hk]
      have := setF_len (k := k) (n := n) (l := r) (i := false)
      simp [hk, e]; omega
def dkeep (r : Dv) (k : Int) (o : Ob) : Dv := ⟨r.c, setL r.l k o, r.rd, r.n⟩
theorem VR.keep {v : Vw} {r : Dv} (h : VR v r) {k : Int} (o : Ob) (hk : 1 ≤ k ∧ k ≤ 8192) (hn : 4096 < k → k ≤ 4096 + v.made) : VR (keepV v k o) (dkeep r k o) := by
  refine ⟨h.c, h.n, h.m0, setF_rise (k := k) (n := chO k o) rfl h.rise, fun x hx => ?_, fun i q hq => ?_, h.rd, h.ky.keep o hk, fun i hi => ?_⟩
  · rcases (setF_mem x).1 hx with rfl | ⟨hx, hne⟩
    · exact ⟨rfl, by simp [keepV, chO, obC]⟩
    · refine ⟨(h.mem x hx).1, ?_⟩
      show (if x.oop = k then some o else v.own x.oop) = _
      rw [if_neg hne]
      exact (h.mem x hx).2
  · change (if i = k then some o else v.own i) = some q at hq
    by_cases e : i = k
    · exact ⟨chO k o, (setF_mem _).2 (.inl rfl), e.symm⟩
    · rw [if_neg e] at hq
      obtain ⟨x, hx, hxi⟩ := h.all i q hq
      exact ⟨x, (setF_mem _).2 (.inr ⟨hx, by omega⟩), hxi⟩
  · show (if i = k then some o else v.own i) ≠ none ↔ _
    by_cases e : i = k
    · rw [if_pos e]
      subst e
      exact ⟨fun _ => hn hi, fun _ => by simp⟩
    · rw [if_neg e]
      exact h.nw i hi
/-- The records up to a commit. -/
def upTo (l : List (Int × List Ch)) (c : Int) : List (Int × List Ch) := l.filter (fun r => decide (r.1 ≤ c))
/-- What the document's view shows. -/
def dpk (r : Dv) (u : RTab) (k : Int) : Option Ob := match r.l.find? (fun x => decide (x.oop = k)) with
  | some x => some (obC x)
  | none => rAt (upTo u.recs r.c) k
theorem VR.peek {v : Vw} {r : Dv} (h : VR v r) {t : Tab} {u : RTab} (ha : ∀ k, toOb (atO t v.base k) = rAt (upTo u.recs v.base) k) (k : Int) : dpk r u k = peekR v t k := by
  unfold dpk peekR
  cases hf : r.l.find? (fun x => decide (x.oop = k)) with
  | some x =>
    have hx := List.mem_of_find?_eq_some hf
    have hk : x.oop = k := by have := List.find?_some hf; simpa using this
    rw [← hk, (h.mem x hx).2]
  | none =>
    have hn : v.own k = none := by
      cases ho : v.own k with
      | none => rfl
      | some o =>
        obtain ⟨x, hx, e⟩ := h.all k o ho
        have := List.find?_eq_none.1 hf x hx
        simp [e] at this
    rw [hn, h.c, ha k]
def dputV (r : Dv) (u : RTab) (k : Int) (o : Ob) : Dv := if (dpk r u k).isSome = true ∧ fitsE o.cls o.vs o.bs.length = 0 then dkeep r k o else r
def dmakeV (r : Dv) (o : Ob) : Dv := if fitsE o.cls o.vs o.bs.length = 0 ∧ r.n < 4096 then dkeep ⟨r.c, r.l, r.rd, r.n + 1⟩ (4096 + (r.n + 1)) o else r
theorem VR.put {v : Vw} {r : Dv} (h : VR v r) {w : World} {S R : Nat → Prop} {b : Nat} {t : Tab} (ht : Tb w S R b t) {u : RTab} (ha : ∀ k, toOb (atO t v.base k) = rAt (upTo u.recs v.base) k) (k : Int) (o : Ob) : VR (putV v t k o) (dputV r u k o) := by
  have hp := h.peek ha k
  unfold putV dputV putE
  rw [hp]
  cases hq : peekR v t k with
  | none => simpa using h
  | some q =>
    by_cases hf : fitsE o.cls o.vs o.bs.length = 0
    · simp only [hf, Option.isSome_some, and_self, if_true]
      refine h.keep o ?_ ?_
      · unfold peekR at hq
        cases ho : v.own k with
        | some z => exact h.ky.ow k (by rw [ho]; simp)
        | none =>
          rw [ho] at hq
          have hat : atO t v.base k ≠ none := fun e => by simp [e, toOb] at hq
          unfold atO at hat
          split at hat
          · have := ht.dom (atC_ne hat); omega
          · exact absurd rfl hat
      · intro hk
        refine (h.nw k hk).1 (fun ho => ?_)
        unfold peekR at hq
        rw [ho] at hq
        have hat : atO t v.base k ≠ none := fun e => by simp [e, toOb] at hq
        unfold atO at hat
        split at hat
        · have := ht.dom (atC_ne hat); omega
        · exact absurd rfl hat
    · simp only [hf, and_false, if_false]
      exact h
theorem VR.make {v : Vw} {r : Dv} (h : VR v r) (o : Ob) : VR (makeV v o) (dmakeV r o) := by
  unfold makeV dmakeV
  rw [h.n]
  by_cases hf : fitsE o.cls o.vs o.bs.length = 0 ∧ v.made < 4096
  · rw [if_pos hf, if_pos hf]
    have hm := h.m0
    have hy : KyV (keepV ⟨v.base, v.reads, v.own, v.made + 1⟩ (4096 + (v.made + 1)) o) := KyV.keep (v := ⟨v.base, v.reads, v.own, v.made + 1⟩) ⟨h.ky.rd, h.ky.ow⟩ o (by omega)
    have hno : ∀ k, 4096 + v.made < k → v.own k = none := fun k hk => Classical.byContradiction fun q => by
      have := (h.nw k (by omega)).1 q
      omega
    refine ⟨h.c, rfl, by show 0 ≤ v.made + 1 ∧ v.made + 1 ≤ 4096; omega, setF_rise (k := 4096 + (v.made + 1)) (n := chO (4096 + (v.made + 1)) o) rfl h.rise, fun x hx => ?_, fun i q hq => ?_, h.rd, hy, fun i hi => ?_⟩
    · rcases (setF_mem x).1 hx with rfl | ⟨hx, hne⟩
      · exact ⟨rfl, by simp [keepV, chO, obC]⟩
      · refine ⟨(h.mem x hx).1, ?_⟩
        show (if x.oop = 4096 + (v.made + 1) then some o else v.own x.oop) = _
        rw [if_neg hne]
        exact (h.mem x hx).2
    · change (if i = 4096 + (v.made + 1) then some o else v.own i) = some q at hq
      by_cases e : i = 4096 + (v.made + 1)
      · exact ⟨chO (4096 + (v.made + 1)) o, (setF_mem _).2 (.inl rfl), e.symm⟩
      · rw [if_neg e] at hq
        obtain ⟨x, hx, hxi⟩ := h.all i q hq
        exact ⟨x, (setF_mem _).2 (.inr ⟨hx, by omega⟩), hxi⟩
    · show (if i = 4096 + (v.made + 1) then some o else v.own i) ≠ none ↔ i ≤ 4096 + (v.made + 1)
      by_cases e : i = 4096 + (v.made + 1)
      · rw [if_pos e]
        exact ⟨fun _ => by omega, fun _ => by simp⟩
      · rw [if_neg e, h.nw i hi]
        omega
  · rw [if_neg hf, if_neg hf]
    exact h
/-- What is changed, by the document. -/
def chgL (r : Dv) : List Ch := r.l.filter (fun x => decide (x.oop ≤ 4096))
def newL (r : Dv) : List Int := (List.range r.n.toNat).map (fun i : Nat => 4096 + ((i : Int) + 1))
def rdL (r : Dv) : List Int := ((List.range 4097).filter r.rd).map (fun i : Nat => (i : Int))
theorem VR.mem_own {v : Vw} {r : Dv} (h : VR v r) (k : Int) : k ∈ ownK v ↔ v.own k ≠ none := by
  unfold ownK
  rw [mem8 (p := fun k => (v.own k).isSome) (fun k hk => h.ky.ow k (fun e => by rw [e] at hk; simp at hk))]
  cases v.own k <;> simp
theorem VR.oops {v : Vw} {r : Dv} (h : VR v r) (x y k : Int) : k ∈ oopsL v x y ↔ v.own k ≠ none ∧ x ≤ k ∧ k ≤ y := by
  unfold oopsL
  rw [List.mem_filter, h.mem_own]
  simp [inP]
theorem oops_rise (v : Vw) (x y : Int) : (oopsL v x y).Pairwise (fun a b => a < b) := List.Pairwise.filter _ (rise8 _)
theorem VR.chg_own {v : Vw} {r : Dv} (h : VR v r) : ∀ x ∈ chgL r, x = chO x.oop ((v.own x.oop).getD ⟨0, [], []⟩) := fun x hx => by
  obtain ⟨h1, h2⟩ := h.mem x (List.mem_filter.1 hx).1
  rw [h2]
  show x = ⟨x.oop, false, x.cls, x.vs, x.bs⟩
  rw [← h1]
theorem VR.writes {v : Vw} {r : Dv} (h : VR v r) : (chgL r).map Ch.oop = oopsL v 1 4096 := by
  refine keys_one (List.pairwise_map.2 (h.rise.filter _)) (oops_rise v 1 4096) (fun k => ?_)
  rw [h.oops, List.mem_map]
  constructor
  · rintro ⟨x, hx, rfl⟩
    obtain ⟨h1, h2⟩ := List.mem_filter.1 hx
    have h3 := (h.mem x h1).2
    have h4 : v.own x.oop ≠ none := by rw [h3]; simp
    exact ⟨h4, (h.ky.ow _ h4).1, by simpa using h2⟩
  · rintro ⟨h1, h2, h3⟩
    cases ho : v.own k with
    | none => exact absurd ho h1
    | some o =>
      obtain ⟨x, hx, e⟩ := h.all k o ho
      exact ⟨x, List.mem_filter.2 ⟨hx, by simp; omega⟩, e⟩
theorem VR.changed {v : Vw} {r : Dv} (h : VR v r) : chgL r = (oopsL v 1 4096).map (fun k => chO k ((v.own k).getD ⟨0, [], []⟩)) := by
  rw [← h.writes, List.map_map]
  have : ∀ l : List Ch, (∀ x ∈ l, x = chO x.oop ((v.own x.oop).getD ⟨0, [], []⟩)) → l = l.map ((fun k => chO k ((v.own k).getD ⟨0, [], []⟩)) ∘ Ch.oop) := fun l hl => by
    induction l with
    | nil => rfl
    | cons x r ih =>
      rw [List.map_cons, ← ih (fun y hy => hl y (by simp [hy]))]
      congr 1
      exact hl x (by simp)
  exact this _ h.chg_own
theorem VR.news {v : Vw} {r : Dv} (h : VR v r) : newL r = oopsL v 4097 8192 := by
  refine keys_one (List.pairwise_map.2 (List.Pairwise.imp (fun {a b} (h : a < b) => by omega) List.pairwise_lt_range)) (oops_rise v 4097 8192) (fun k => ?_)
  have hm := h.m0
  rw [h.oops, newL, List.mem_map, h.n]
  constructor
  · rintro ⟨i, hi, rfl⟩
    rw [List.mem_range] at hi
    exact ⟨(h.nw _ (by omega)).2 (by omega), by omega, by omega⟩
  · rintro ⟨h1, h2, h3⟩
    have := (h.nw k (by omega)).1 h1
    exact ⟨(k - 4097).toNat, List.mem_range.2 (by omega), by omega⟩
theorem VR.reads {v : Vw} {r : Dv} (h : VR v r) : rdL r = rdK v := by
  refine keys_one (List.pairwise_map.2 (List.Pairwise.imp (fun {a b} (h : a < b) => by omega) (List.Pairwise.filter _ List.pairwise_lt_range))) (rise8 _) (fun k => ?_)
  have hd : ∀ k, v.reads k = true → 1 ≤ k ∧ k ≤ 8192 := fun k hk => by have := h.ky.rd k hk; omega
  show _ ↔ k ∈ rdK v
  unfold rdK
  rw [mem8 hd, rdL, List.mem_map]
  constructor
  · rintro ⟨i, hi, rfl⟩
    obtain ⟨h1, h2⟩ := List.mem_filter.1 hi
    rw [List.mem_range] at h1
    rw [← h.rd i h1]
    exact h2
  · intro hk
    have := h.ky.rd k hk
    refine ⟨k.toNat, List.mem_filter.2 ⟨List.mem_range.2 (by omega), ?_⟩, by omega⟩
    rw [h.rd _ (by omega)]
    rw [show ((k.toNat : Nat) : Int) = k by omega]
    exact hk
end Go.Proofs.YteomolihandfnaaGreat
