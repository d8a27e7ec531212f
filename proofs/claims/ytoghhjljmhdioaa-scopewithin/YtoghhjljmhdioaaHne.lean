/- Who went on behind a receiver has made a part with parts. -/
import Derived.Test.YtoghhjljmhdioaaTreM
namespace Go.Proofs.Ytoghhjljmhdioaa
theorem sentN_kids (r m : Nd) : (sentN r m).kids ≠ [] := by simp [sentN, Nd.kids]
theorem unaOf_kids {W : List Tk} (f : Nat) : ∀ {i d : Nat} {x y : Nd} {k : Nat}, runW W f (.unaOf i d x) = some (.ok y k) → (y = x ∧ k = i) ∨ y.kids ≠ [] := by
  induction f with
  | zero => intro i d x y k e; cases e
  | succ f ih =>
    intro i d x y k e
    simp only [runW, stepW] at e
    split at e
    · rcases ih e with ⟨rfl, _⟩ | h
      · exact Or.inr (sentN_kids _ _)
      · exact Or.inr h
    · cases e; exact Or.inl ⟨rfl, rfl⟩
theorem binOf_kids {W : List Tk} (f : Nat) : ∀ {i d : Nat} {x y : Nd} {k : Nat}, runW W f (.binOf i d x) = some (.ok y k) → (y = x ∧ k = i) ∨ y.kids ≠ [] := by
  induction f with
  | zero => intro i d x y k e; cases e
  | succ f ih =>
    intro i d x y k e
    simp only [runW, stepW] at e
    split at e
    · cases h1 : runW W f (.una (i + 1) d) with
      | none => rw [h1] at e; cases e
      | some r =>
        rw [h1] at e
        cases r with
        | er j c => cases e
        | ok a j =>
          have e2 : runW W f (.binOf j d (sentN x (msgN (txW W i) (psW W i) [a]))) = some (.ok y k) := e
          rcases ih e2 with ⟨rfl, _⟩ | h
          · exact Or.inr (sentN_kids _ _)
          · exact Or.inr h
    · cases e; exact Or.inl ⟨rfl, rfl⟩
theorem keyOf_kids {W : List Tk} {i d k : Nat} {x y : Nd} (h : Reads W (.keyOf i d x) (.ok y k)) (hk : k ≠ i) : y.kids ≠ [] := by
  obtain ⟨f, e⟩ := h
  cases f with
  | zero => cases e
  | succ f =>
    simp only [runW, stepW] at e
    cases h1 : runW W f (.unaOf i d x) with
    | none => rw [h1] at e; cases e
    | some r =>
      rw [h1] at e
      cases r with
      | er j c => cases e
      | ok z j =>
        replace e : ((runW W f (.binOf j d z)).bind fun r => r.bind fun z k => if kdW W k = 2 then (runW W f (.keys k d (msgN [] (psW W k) []))).bind fun r => r.bind fun m l => some (.ok (sentN z m) l) else some (.ok z k)) = some (.ok y k) := e
        cases h2 : runW W f (.binOf j d z) with
        | none => rw [h2] at e; cases e
        | some r =>
          rw [h2] at e
          cases r with
          | er j c => cases e
          | ok z2 l =>
            replace e : (if kdW W l = 2 then (runW W f (.keys l d (msgN [] (psW W l) []))).bind fun r => r.bind fun m l => some (.ok (sentN z2 m) l) else some (.ok z2 l)) = some (.ok y k) := e
            split at e
            · cases h3 : runW W f (.keys l d (msgN [] (psW W l) [])) with
              | none => rw [h3] at e; cases e
              | some r =>
                rw [h3] at e
                cases r with
                | er j c => cases e
                | ok m l2 => cases e; exact sentN_kids _ _
            · cases e
              rcases binOf_kids f h2 with ⟨rfl, rfl⟩ | h
              · rcases unaOf_kids f h1 with ⟨rfl, rfl⟩ | h
                · exact absurd rfl hk
                · exact h
              · exact h
end Go.Proofs.Ytoghhjljmhdioaa
