/- What stands ahead of a word. -/
import Derived.Test.YtlhmeipbcioncaaDoorLexL
namespace Go.Proofs.YtlhmeipbcioncaaDoor
theorem idx_take (r : List Int) (c : Int) (k m : Nat) (h : r.idxOf? c = some k) (hm : k < m) : (r.take m).idxOf? c = some k := by
  induction r generalizing k m with
  | nil => cases h
  | cons d r ih =>
    obtain ⟨m, rfl⟩ : ∃ q, m = q + 1 := ⟨m - 1, by omega⟩
    rw [List.take_succ_cons, List.idxOf?_cons]
    rw [List.idxOf?_cons] at h
    split at h
    · rename_i hd; rw [if_pos hd]; exact h
    · rename_i hd
      rw [if_neg hd]
      obtain ⟨j, hj, he⟩ := Option.map_eq_some_iff.1 h
      rw [ih j m hj (by omega)]
      simpa using he
theorem take_getD (ss : List Int) (P j : Nat) : (ss.take P).getD j 0 = if j < P then ss.getD j 0 else 0 := by
  simp only [List.getD_eq_getElem?_getD, List.getElem?_take]
  split <;> rfl
/-- Places of words are no less than where reading began. -/
theorem pos_ge {rd : List Int → Bool} {ss : List Int} {p : Nat} {ts : List Tk} (hp : p ≤ ss.length) (h : lexR rd p (ss.drop p) = .ok ts) (k : Nat) (hk : k < ts.length) : p ≤ (ts.getD k tk0).pos ∧ (ts.getD k tk0).pos ≤ ss.length := by
  have := (placed rd ss ss.length p ts (by omega) hp h).at_ tk0 k hk
  omega
theorem assign_at {rd : List Int → Bool} {ss : List Int} {q : Nat} {l : List Tk} (hq : q < ss.length) (h1 : ss.getD q 0 = 58) (h2 : ss.getD (q + 1) 0 = 61) (h : lexR rd q (ss.drop q) = .ok l) (k : Nat) (hk : k < l.length) : (l.getD k tk0).pos ≠ q + 1 := by
  have hw : word rd (ss.drop q) = some (7, (ss.drop q).take 2, 2) := by
    unfold word lone
    simp only [getD_drop, Nat.add_zero, h1, h2]
    rfl
  rcases lex_cases rd ss q (by omega) with ⟨e, h1'⟩ | ⟨hlt, hb, h1'⟩ | ⟨hlt, h34, j, hi, hj, h1'⟩ | ⟨hlt, hb, h34, k', t, m, hw', hm, hml, hk', hk2, h1'⟩ | ⟨hlt, h1'⟩
  · omega
  · rw [h1] at hb; exact absurd hb (by decide)
  · rw [h1] at h34; exact absurd h34 (by decide)
  · rw [hw] at hw'
    simp only [Option.some.injEq, Prod.mk.injEq] at hw'
    obtain ⟨rfl, rfl, rfl⟩ := hw'
    rw [h1'] at h
    cases hl : lexR rd (q + 2) (ss.drop (q + 2)) with
    | error z => rw [hl] at h; cases h
    | ok l' =>
      rw [hl] at h
      cases h
      cases k with
      | zero => show q ≠ q + 1; omega
      | succ k =>
        have := (pos_ge hml hl k (by simp only [List.length_cons] at hk; omega)).1
        show (l'.getD k tk0).pos ≠ q + 1
        omega
  · rw [h1'] at h; cases h
theorem lex_cut (rd : List Int → Bool) (ss : List Int) (n : Nat) : ∀ (p : Nat) (ts : List Tk) (k : Nat), ss.length - p ≤ n → p ≤ ss.length → lexR rd p (ss.drop p) = .ok ts → k < ts.length → lexR rd p ((ss.take (ts.getD k tk0).pos).drop p) = .ok (ts.take k ++ [⟨0, [], (ts.getD k tk0).pos⟩]) := by
  induction n with
  | zero =>
    intro p ts k hn hp h hk
    have e : p = ss.length := by omega
    subst e
    rw [List.drop_length, lexR_nil] at h
    cases h
    have : k = 0 := by simp at hk; exact hk
    subst this
    show lexR rd _ ((ss.take ss.length).drop ss.length) = _
    rw [List.take_length, List.drop_length, lexR_nil]
    rfl
  | succ n ih =>
    intro p ts k hn hp h hk
    have hpg := pos_ge hp h k hk
    rcases lex_cases rd ss p hp with ⟨e, h1⟩ | ⟨hlt, hb, h1⟩ | ⟨hlt, h34, j, hi, hj, h1⟩ | ⟨hlt, hb, h34, k', t, m, hw, hm, hml, hk', hk2, h1⟩ | ⟨hlt, h1⟩
    · rw [h1] at h
      cases h
      have : k = 0 := by simp at hk; exact hk
      subst this
      show lexR rd p ((ss.take p).drop p) = _
      rw [e, List.take_length, List.drop_length, lexR_nil]
      rfl
    · rw [h1] at h
      have hg := pos_ge (by omega) h k hk
      have := ih (p + 1) ts k (by omega) (by omega) h hk
      generalize (ts.getD k tk0).pos = P at *
      rw [drop_at (show p < (ss.take P).length by rw [List.length_take]; omega), lexR_blank _ _ _ (by rw [take_getD, if_pos (by omega)]; exact hb)]
      exact this
    · rw [h1] at h
      have hg := pos_ge (by omega) h k hk
      have := ih (p + j + 2) ts k (by omega) (by omega) h hk
      generalize (ts.getD k tk0).pos = P at *
      have e34 : (ss.take P).getD p 0 = 34 := by rw [take_getD, if_pos (by omega)]; exact h34
      have hi2 : ((ss.take P).drop (p + 1)).idxOf? 34 = some j := by
        rw [List.drop_take]
        exact idx_take _ _ _ _ hi (by omega)
      rw [drop_at (show p < (ss.take P).length by rw [List.length_take]; omega), e34, lexR_note _ _ _ hi2, List.drop_drop, show p + 1 + (j + 1) = p + j + 2 by omega]
      exact this
    · rw [h1] at h
      cases hl : lexR rd (p + m) (ss.drop (p + m)) with
      | error z => rw [hl] at h; cases h
      | ok l =>
        rw [hl] at h
        cases h
        cases k with
        | zero =>
          show lexR rd p ((ss.take p).drop p) = _
          rw [List.drop_of_length_le (by rw [List.length_take]; omega), lexR_nil]
          rfl
        | succ k =>
          have hk3 : k < l.length := by simp only [List.length_cons] at hk; omega
          have hg := pos_ge hml hl k hk3
          have hih := ih (p + m) l k (by omega) hml hl hk3
          show lexR rd p ((ss.take (l.getD k tk0).pos).drop p) = .ok (⟨k', t, p⟩ :: l.take k ++ [⟨0, [], (l.getD k tk0).pos⟩])
          have hne1 : p + m < ss.length → ss.getD (p + m) 0 = 58 → ss.getD (p + m + 1) 0 = 61 → (l.getD k tk0).pos ≠ p + m + 1 := fun a b c => assign_at a b c hl k hk3
          generalize (l.getD k tk0).pos = P at *
          have hw2 : word rd ((ss.take P).drop p) = some (k', t, m) := by
            refine word_loc (by rw [drop_at hlt]; simp) hw ⟨by rw [List.length_drop, List.length_take]; omega, by rw [List.length_drop]; omega, fun j hj => ?_, ?_⟩
            · rw [getD_drop, getD_drop, take_getD, if_pos (by omega)]
            · rw [getD_drop, getD_drop, getD_drop, getD_drop, take_getD, take_getD]
              by_cases hP : P = p + m
              · left; left; rw [if_neg (by omega)]
              · right
                rw [if_pos (by omega)]
                refine ⟨rfl, fun h58 => ?_⟩
                by_cases hP2 : P = p + m + 1
                · rw [if_neg (by omega)]
                  refine ⟨fun h => absurd h (by decide), fun h61 => absurd hP2 (hne1 (by omega) h58 h61)⟩
                · rw [if_pos (by omega)]
          have hb2 : blB ((ss.take P).getD p 0) = false := by rw [take_getD, if_pos (by omega)]; exact hb
          have h342 : (ss.take P).getD p 0 ≠ 34 := by rw [take_getD, if_pos (by omega)]; exact h34
          have hd := drop_at (show p < (ss.take P).length by rw [List.length_take]; omega)
          rw [hd] at hw2 ⊢
          rw [lexR_word _ _ hb2 h342 hw2, ← hd, List.drop_drop, hih]
          rfl
    · rw [h1] at h; cases h
end Go.Proofs.YtlhmeipbcioncaaDoor
