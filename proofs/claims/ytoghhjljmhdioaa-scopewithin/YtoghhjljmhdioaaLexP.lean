/- Where words stand. -/
import Derived.Test.YtoghhjljmhdioaaLexM
namespace Go.Proofs.Ytoghhjljmhdioaa
theorem drop_at {ss : List Int} {p : Nat} (h : p < ss.length) : ss.drop p = ss.getD p 0 :: ss.drop (p + 1) := by
  rw [List.drop_eq_getElem_cons h]
  simp [h]
/-- One step of reading words. -/
theorem lex_cases (rd : List Int → Bool) (ss : List Int) (p : Nat) (hp : p ≤ ss.length) :
    (p = ss.length ∧ lexR rd p (ss.drop p) = .ok [⟨0, [], p⟩]) ∨
    (p < ss.length ∧ blB (ss.getD p 0) = true ∧ lexR rd p (ss.drop p) = lexR rd (p + 1) (ss.drop (p + 1))) ∨
    (p < ss.length ∧ ss.getD p 0 = 34 ∧ ∃ j, (ss.drop (p + 1)).idxOf? 34 = some j ∧ p + j + 2 ≤ ss.length ∧ lexR rd p (ss.drop p) = lexR rd (p + j + 2) (ss.drop (p + j + 2))) ∨
    (p < ss.length ∧ blB (ss.getD p 0) = false ∧ ss.getD p 0 ≠ 34 ∧ ∃ k t n, word rd (ss.drop p) = some (k, t, n) ∧ 0 < n ∧ p + n ≤ ss.length ∧ 0 < k ∧ k ≤ 17 ∧ lexR rd p (ss.drop p) = (lexR rd (p + n) (ss.drop (p + n))).map fun l => ⟨k, t, p⟩ :: l) ∨
    (p < ss.length ∧ lexR rd p (ss.drop p) = .error p) := by
  by_cases h : p < ss.length
  · have hd := drop_at h
    cases hb : blB (ss.getD p 0) with
    | true => exact .inr (.inl ⟨h, rfl, by rw [hd, lexR_blank _ _ _ hb]⟩)
    | false =>
      by_cases h34 : ss.getD p 0 = 34
      · cases hi : (ss.drop (p + 1)).idxOf? 34 with
        | none =>
          refine .inr (.inr (.inr (.inr ⟨h, ?_⟩)))
          rw [hd, h34, lexR_open _ _ _ hi]
        | some j =>
          have hj : j < (ss.drop (p + 1)).length := (List.findIdx?_eq_some_iff_getElem.1 hi).1
          rw [List.length_drop] at hj
          refine .inr (.inr (.inl ⟨h, h34, j, rfl, by omega, ?_⟩))
          rw [hd, h34, lexR_note _ _ _ hi, List.drop_drop, show p + 1 + (j + 1) = p + j + 2 by omega]
      · cases hw : word rd (ss.drop p) with
        | none =>
          refine .inr (.inr (.inr (.inr ⟨h, ?_⟩)))
          rw [hd] at hw ⊢
          rw [lexR_none _ _ hb h34 hw]
        | some x =>
          obtain ⟨k, t, n⟩ := x
          have hl := word_len (by rw [hd]; simp) hw
          rw [List.length_drop] at hl
          refine .inr (.inr (.inr (.inl ⟨h, rfl, h34, k, t, n, rfl, hl.1, by omega, hl.2.2.1, hl.2.2.2, ?_⟩)))
          rw [hd] at hw
          conv => lhs; rw [hd]
          rw [lexR_word _ _ hb h34 hw, ← hd, List.drop_drop]
  · have e : p = ss.length := by omega
    exact .inl ⟨e, by rw [List.drop_of_length_le (by omega), lexR_nil]⟩
theorem word_text {rd : List Int → Bool} {r t : List Int} {k : Int} {n : Nat} (h : word rd r = some (k, t, n)) (h5 : k ≠ 5) (h6 : k ≠ 6) : t = r.take n := by
  unfold word at h
  simp only at h
  split at h
  · split at h <;> (simp only [Option.some.injEq, Prod.mk.injEq] at h; obtain ⟨rfl, rfl, rfl⟩ := h; rfl)
  · split at h
    · split at h
      · simp only [Option.some.injEq, Prod.mk.injEq] at h; obtain ⟨rfl, rfl, rfl⟩ := h; rfl
      · cases h
    · split at h
      · cases hq : qtW r with
        | none => rw [hq] at h; cases h
        | some x =>
          rw [hq] at h
          simp only [Option.map_some, Option.some.injEq, Prod.mk.injEq] at h
          exact absurd h.1.symm h5
      · split at h
        · split at h
          · simp only [Option.some.injEq, Prod.mk.injEq] at h; obtain ⟨rfl, rfl, rfl⟩ := h; rfl
          · split at h
            · cases hq : qtW (r.drop 1) with
              | none => rw [hq] at h; cases h
              | some x =>
                rw [hq] at h
                simp only [Option.map_some, Option.some.injEq, Prod.mk.injEq] at h
                exact absurd h.1.symm h6
            · split at h
              · cases h
              · simp only [Option.some.injEq, Prod.mk.injEq] at h
                exact absurd h.1.symm h6
        · split at h
          · simp only [Option.some.injEq, Prod.mk.injEq] at h; obtain ⟨rfl, rfl, rfl⟩ := h; rfl
          · split at h
            · split at h <;> (simp only [Option.some.injEq, Prod.mk.injEq] at h; obtain ⟨rfl, rfl, rfl⟩ := h; rfl)
            · obtain ⟨i, hm, h⟩ := Option.map_eq_some_iff.1 h
              simp only [Prod.mk.injEq] at h
              obtain ⟨rfl, rfl, rfl⟩ := h
              rfl
/-- A word stands at its place. -/
def Own (ss : List Int) (t : Tk) : Prop := t.kind ≠ 5 → t.kind ≠ 6 → ∃ n, 0 < n ∧ t.pos + n ≤ ss.length ∧ t.text = (ss.drop t.pos).take n
/-- Words stand one behind the other, from a place on. -/
def Pl (ss : List Int) : Nat → List Tk → Prop
  | _, [] => False
  | p, t :: r => (r = [] ∧ t.kind = 0 ∧ t.text = [] ∧ t.pos = ss.length ∧ p ≤ ss.length) ∨ (r ≠ [] ∧ p ≤ t.pos ∧ t.pos < ss.length ∧ 0 < t.kind ∧ t.kind ≤ 17 ∧ Own ss t ∧ Pl ss (t.pos + 1) r)
theorem Pl.mono {ss : List Int} {p q : Nat} {ts : List Tk} (h : Pl ss q ts) (hpq : p ≤ q) : Pl ss p ts := by
  cases ts with
  | nil => exact h
  | cons t r =>
    rcases h with ⟨h1, h2, h3, h4, h5⟩ | ⟨h1, h2, h3⟩
    · exact .inl ⟨h1, h2, h3, h4, by omega⟩
    · exact .inr ⟨h1, by omega, h3⟩
theorem placed (rd : List Int → Bool) (ss : List Int) (n : Nat) : ∀ (p : Nat) (ts : List Tk), ss.length - p ≤ n → p ≤ ss.length → lexR rd p (ss.drop p) = .ok ts → Pl ss p ts := by
  induction n with
  | zero =>
    intro p ts hn hp h
    have e : p = ss.length := by omega
    subst e
    rw [List.drop_length, lexR_nil] at h
    cases h
    exact .inl ⟨rfl, rfl, rfl, rfl, Nat.le_refl _⟩
  | succ n ih =>
    intro p ts hn hp h
    rcases lex_cases rd ss p hp with ⟨e, h1⟩ | ⟨hlt, hb, h1⟩ | ⟨hlt, h34, j, hi, hj, h1⟩ | ⟨hlt, hb, h34, k, t, m, hw, hm, hml, hk, hk2, h1⟩ | ⟨hlt, h1⟩
    · rw [h1] at h
      cases h
      exact .inl ⟨rfl, rfl, rfl, e, hp⟩
    · rw [h1] at h
      exact (ih (p + 1) ts (by omega) (by omega) h).mono (by omega)
    · rw [h1] at h
      exact (ih (p + j + 2) ts (by omega) (by omega) h).mono (by omega)
    · rw [h1] at h
      cases hl : lexR rd (p + m) (ss.drop (p + m)) with
      | error q => rw [hl] at h; cases h
      | ok l =>
        rw [hl] at h
        cases h
        have hp2 := ih (p + m) l (by omega) (by omega) hl
        refine .inr ⟨?_, Nat.le_refl _, hlt, hk, hk2, fun h5 h6 => ⟨m, hm, hml, ?_⟩, hp2.mono (by show p + 1 ≤ p + m; omega)⟩
        · intro e; rw [e] at hp2; exact hp2
        · exact word_text hw h5 h6
    · rw [h1] at h; cases h
/-- The i-th of them. -/
theorem Pl.at_ {ss : List Int} {ts : List Tk} (d : Tk) : ∀ {p : Nat} (_ : Pl ss p ts) (i : Nat), i < ts.length → (p : Int) ≤ (ts.getD i d).pos ∧ (ts.getD i d).pos ≤ ss.length ∧ ((ts.getD i d).kind = 0 ↔ i + 1 = ts.length) ∧ (0 ≤ (ts.getD i d).kind ∧ (ts.getD i d).kind ≤ 17) ∧ ((ts.getD i d).kind ≠ 0 → Own ss (ts.getD i d)) ∧ (i + 1 = ts.length → (ts.getD i d).pos = ss.length) ∧ (i + 1 < ts.length → (ts.getD i d).pos < (ts.getD (i + 1) d).pos) := by
  induction ts with
  | nil => intro p h i hi; exact absurd hi (by simp)
  | cons t r ih =>
    intro p h i hi
    rcases h with ⟨rfl, h2, h3, h4, h5⟩ | ⟨h1, h2, h3, h4, h5, h6, h7⟩
    · cases i with
      | zero => exact ⟨by show (p : Int) ≤ (t.pos : Int); omega, by show t.pos ≤ _; omega, ⟨fun _ => rfl, fun _ => h2⟩, ⟨by show 0 ≤ t.kind; omega, by show t.kind ≤ 17; omega⟩, fun h => absurd h2 h, fun _ => h4, fun h => absurd h (by simp)⟩
      | succ i => exact absurd hi (by simp)
    · have hr : 0 < r.length := List.length_pos_iff.2 h1
      cases i with
      | zero =>
        refine ⟨by show (p : Int) ≤ (t.pos : Int); omega, by show t.pos ≤ _; omega, ⟨fun h => ?_, fun h => ?_⟩, ⟨by show 0 ≤ t.kind; omega, h5⟩, fun _ => h6, fun h => ?_, fun _ => ?_⟩
        · have : t.kind = 0 := h; omega
        · simp only [List.length_cons] at h; omega
        · simp only [List.length_cons] at h; omega
        · have := (ih h7 0 hr).1
          show t.pos < (r.getD 0 d).pos
          omega
      | succ i =>
        simp only [List.length_cons] at hi
        obtain ⟨a1, a2, a3, a4, a5, a6, a7⟩ := ih h7 i (by omega)
        refine ⟨by show (p : Int) ≤ ((r.getD i d).pos : Int); omega, a2, ?_, a4, a5, ?_, ?_⟩
        · rw [List.length_cons]; exact ⟨fun h => by have := a3.1 h; omega, fun h => a3.2 (by omega)⟩
        · rw [List.length_cons]; exact fun h => a6 (by omega)
        · rw [List.length_cons]; exact fun h => a7 (by omega)
theorem Pl.pos {ss : List Int} {p : Nat} {ts : List Tk} (h : Pl ss p ts) : 0 < ts.length := by
  cases ts with
  | nil => exact absurd h id
  | cons t r => simp
theorem Pl.len {ss : List Int} {ts : List Tk} : ∀ {p : Nat}, Pl ss p ts → p + ts.length ≤ ss.length + 1 := by
  induction ts with
  | nil => intro p h; exact absurd h id
  | cons t r ih =>
    intro p h
    rcases h with ⟨rfl, h2, h3, h4, h5⟩ | ⟨h1, h2, h3, h4, h5, h6, h7⟩
    · simp; omega
    · have := ih h7
      simp only [List.length_cons]
      omega
end Go.Proofs.Ytoghhjljmhdioaa
