/- The names of a tree: what they are, as plain functions. -/
import Derived.Test.YtoghhjljmhdioaaTreM
namespace Go.Proofs.Ytoghhjljmhdioaa
/-- A name that is used. -/
structure Us where
  pos : Nat
  name : List Int
  kind : Int
  depth : Nat
  index : Nat
  write : Bool
def selfT : List Int := [115, 101, 108, 102]
def superT : List Int := [115, 117, 112, 101, 114]
/-- What nobody else can be called: kind and index. -/
def fixR (t : List Int) : Option (Int × Nat) :=
  if t = selfT then some (0, 0) else if t = superT then some (1, 0) else if t = nilT then some (2, 0) else if t = falseT then some (2, 1) else if t = trueT then some (2, 2) else none
/-- The first place of a name. -/
def idxR : List (List Int) → List Int → Option Nat
  | [], _ => none
  | x :: r, t => if x = t then some 0 else (idxR r t).map (· + 1)
theorem idxR_app : ∀ (l : List (List Int)) (t m : List Int), t ≠ m → idxR (l ++ [m]) t = idxR l t
  | [], t, m, h => by simp [idxR, Ne.symm h]
  | x :: r, t, m, h => by simp only [List.cons_append, idxR, idxR_app r t m h]
theorem idxR_some : ∀ {l : List (List Int)} {t : List Int} {i : Nat}, idxR l t = some i → i < l.length ∧ l[i]? = some t ∧ ∀ j, j < i → l[j]? ≠ some t
  | [], t, i, h => by simp [idxR] at h
  | x :: r, t, i, h => by
    unfold idxR at h
    by_cases hx : x = t
    · simp only [hx, if_true, Option.some.injEq] at h
      subst h
      exact ⟨by simp, by simp [hx], fun j hj => by omega⟩
    · simp only [hx, if_false, Option.map_eq_some_iff] at h
      obtain ⟨k, hk, rfl⟩ := h
      obtain ⟨a, b, c⟩ := idxR_some hk
      refine ⟨by simp; omega, by simpa using b, fun j hj => ?_⟩
      cases j with
      | zero => simpa using hx
      | succ j => simpa using c j (by omega)
theorem idxR_none : ∀ {l : List (List Int)} {t : List Int}, idxR l t = none → t ∉ l
  | [], t, h => by simp
  | x :: r, t, h => by
    unfold idxR at h
    by_cases hx : x = t
    · simp [hx] at h
    · simp only [hx, if_false, Option.map_eq_none_iff] at h
      have := idxR_none h
      simp only [List.mem_cons, not_or]
      exact ⟨fun e => hx e.symm, this⟩
/-- The first place, by what stands ahead of it. -/
theorem idxR_of : ∀ {l : List (List Int)} {t : List Int} {i : Nat}, l[i]? = some t → (∀ j, j < i → l[j]? ≠ some t) → idxR l t = some i
  | [], t, i, h, _ => by simp at h
  | x :: r, t, 0, h, _ => by
    simp only [List.getElem?_cons_zero, Option.some.injEq] at h
    simp [idxR, h]
  | x :: r, t, i + 1, h, k => by
    have hx : x ≠ t := by simpa using k 0 (by omega)
    have := idxR_of (l := r) (t := t) (i := i) (by simpa using h) fun j hj => by simpa using k (j + 1) (by omega)
    simp [idxR, hx, this]
theorem idxR_no : ∀ {l : List (List Int)} {t : List Int}, (∀ j, j < l.length → l[j]? ≠ some t) → idxR l t = none
  | [], t, _ => rfl
  | x :: r, t, k => by
    have hx : x ≠ t := by simpa using k 0 (by simp)
    have := idxR_no (l := r) (t := t) fun j hj => by simpa using k (j + 1) (by simpa using hj)
    simp [idxR, hx, this]
/-- Names, one unit. -/
def sndR (l : List (List Int)) : Bool := (List.range l.length).all fun i => (fixR (l.getD i [])).isNone && (idxR (l.take i) (l.getD i [])).isNone
/-- The units that a part stands in, the innermost first: their names, how many are arguments. -/
abbrev Ev := List (List (List Int) × Nat)
def tmpR : Ev → List Int → Nat → Option (Nat × Nat)
  | [], _, _ => none
  | (l, _) :: r, t, d => match idxR l t with
    | some i => some (d, i)
    | none => tmpR r t (d + 1)
def upR : List Int → Bool
  | [] => false
  | c :: _ => decide (65 ≤ c) && decide (c ≤ 90)
/-- What none of the units has. -/
def outR (sl : List (List Int)) (t : List Int) : Option (Int × Nat × Nat) := match idxR sl t with
  | some i => some (4, 0, i)
  | none => if upR t then some (5, 0, 0) else none
def namR (sl : List (List Int)) (E : Ev) (t : List Int) : Option (Int × Nat × Nat) := match fixR t with
  | some (k, i) => some (k, 0, i)
  | none => match tmpR E t 0 with
    | some (d, i) => some (3, d, i)
    | none => outR sl t
def argR (E : Ev) (d i : Nat) : Bool := decide (i < (E.getD d ([], 0)).2)
/-- The uses of a Var, of a Set's own name. -/
def varR (sl : List (List Int)) (E : Ev) (rc : Bool) (t : List Int) (p : Nat) : Except Nat (List Us) := match namR sl E t with
  | some (kd, d, i) => if kd = 1 ∧ rc = false then .error p else .ok [⟨p, t, kd, d, i, false⟩]
  | none => .error p
def setR (sl : List (List Int)) (E : Ev) (t : List Int) (p : Nat) : Except Nat (List Us) := match namR sl E t with
  | some (kd, d, i) => if kd = 4 ∨ (kd = 3 ∧ argR E d i = false) then .ok [⟨p, t, kd, d, i, true⟩] else .error p
  | none => .error p
mutual
/-- A part within units: its uses, or the place of what can not be. -/
def prtR (sl : List (List Int)) (E : Ev) (rc : Bool) : Nd → Except Nat (List Us)
  | .mk k t p n l kids =>
    if k = 5 then varR sl E rc t p
    else if k = 6 then (setR sl E t p).bind fun a => (prsR sl E false kids).bind fun b => .ok (a ++ b)
    else if k = 10 then (if sndR l then prsR sl ((l, n) :: E) false kids else .error p)
    else prsR sl E (decide (k = 7) || decide (k = 8)) kids
def prsR (sl : List (List Int)) (E : Ev) (rc : Bool) : List Nd → Except Nat (List Us)
  | [] => .ok []
  | x :: r => (prtR sl E rc x).bind fun a => (prsR sl E false r).bind fun b => .ok (a ++ b)
end
/-- A unit within units. -/
def untR (sl : List (List Int)) (E : Ev) (x : Nd) : Except Nat (List Us) := if sndR x.names then prsR sl ((x.names, x.n) :: E) false x.kids else .error x.pos
theorem bind_ok {α β : Type} {x : Except Nat α} {f : α → Except Nat β} {b : β} (h : x.bind f = .ok b) : ∃ a, x = .ok a ∧ f a = .ok b := by
  cases x with
  | error e => cases h
  | ok a => exact ⟨a, rfl, h⟩
theorem namR_more {sl : List (List Int)} {E : Ev} {t m : List Int} (h : t ≠ m) : namR (sl ++ [m]) E t = namR sl E t := by
  unfold namR outR
  rw [idxR_app sl t m h]
/-- Slots that nobody uses come behind the others. -/
theorem varR_more {sl : List (List Int)} {E : Ev} {rc : Bool} {t m : List Int} {p : Nat} {us : List Us} (h : varR sl E rc t p = .ok us) (hu : ∀ u ∈ us, u.name ≠ m) : varR (sl ++ [m]) E rc t p = .ok us := by
  have ht : t ≠ m := by
    unfold varR at h
    split at h
    · split at h
      · cases h
      · cases h
        exact hu _ (List.mem_singleton.2 rfl)
    · cases h
  unfold varR at h ⊢
  rw [namR_more ht]
  exact h
theorem setR_more {sl : List (List Int)} {E : Ev} {t m : List Int} {p : Nat} {us : List Us} (h : setR sl E t p = .ok us) (hu : ∀ u ∈ us, u.name ≠ m) : setR (sl ++ [m]) E t p = .ok us := by
  have ht : t ≠ m := by
    unfold setR at h
    split at h
    · split at h
      · cases h
        exact hu _ (List.mem_singleton.2 rfl)
      · cases h
    · cases h
  unfold setR at h ⊢
  rw [namR_more ht]
  exact h
mutual
theorem prtR_more {sl : List (List Int)} {m : List Int} : ∀ (x : Nd) {E : Ev} {rc : Bool} {us : List Us}, prtR sl E rc x = .ok us → (∀ u ∈ us, u.name ≠ m) → prtR (sl ++ [m]) E rc x = .ok us
  | .mk k t p n l kids, E, rc, us, h, hu => by
    unfold prtR at h ⊢
    by_cases h5 : k = 5
    · rw [if_pos h5] at h ⊢
      exact varR_more h hu
    rw [if_neg h5] at h ⊢
    by_cases h6 : k = 6
    · rw [if_pos h6] at h ⊢
      obtain ⟨a, ha, h⟩ := bind_ok h
      obtain ⟨b, hb, h⟩ := bind_ok h
      cases h
      rw [setR_more ha fun u hm => hu u (List.mem_append_left _ hm)]
      show (prsR (sl ++ [m]) E false kids).bind _ = _
      rw [prsR_more kids hb fun u hm => hu u (List.mem_append_right _ hm)]
      rfl
    rw [if_neg h6] at h ⊢
    by_cases h10 : k = 10
    · rw [if_pos h10] at h ⊢
      by_cases hs : sndR l = true
      · rw [if_pos hs] at h ⊢
        exact prsR_more kids h hu
      · rw [if_neg hs] at h
        cases h
    rw [if_neg h10] at h ⊢
    exact prsR_more kids h hu
theorem prsR_more {sl : List (List Int)} {m : List Int} : ∀ (l : List Nd) {E : Ev} {rc : Bool} {us : List Us}, prsR sl E rc l = .ok us → (∀ u ∈ us, u.name ≠ m) → prsR (sl ++ [m]) E rc l = .ok us
  | [], E, rc, us, h, hu => by
    unfold prsR at h ⊢
    exact h
  | x :: r, E, rc, us, h, hu => by
    unfold prsR at h ⊢
    obtain ⟨a, ha, h⟩ := bind_ok h
    obtain ⟨b, hb, h⟩ := bind_ok h
    cases h
    rw [prtR_more x ha fun u hm => hu u (List.mem_append_left _ hm)]
    show (prsR (sl ++ [m]) E false r).bind _ = _
    rw [prsR_more r hb fun u hm => hu u (List.mem_append_right _ hm)]
    rfl
end
theorem untR_more {sl : List (List Int)} {m : List Int} {E : Ev} {x : Nd} {us : List Us} (h : untR sl E x = .ok us) (hu : ∀ u ∈ us, u.name ≠ m) : untR (sl ++ [m]) E x = .ok us := by
  unfold untR at h ⊢
  by_cases hs : sndR x.names = true
  · rw [if_pos hs] at h ⊢
    exact prsR_more _ h hu
  · rw [if_neg hs] at h
    cases h
end Go.Proofs.Ytoghhjljmhdioaa
