/- The document's reader: objects. -/
import Derived.Test.YtjfaflmmanjjbaaScn
namespace Go.Proofs.Ytjfaflmmanjjbaa
open Go.RowKit
set_option maxRecDepth 100000
theorem nR_max {s : Option (List Int)} (h : ∀ x ∈ s.getD [], 0 ≤ x ∧ x < 256) : nR 18446744073709551615 s = uR s := by
  have := uR_lt h
  unfold nR
  exact if_neg (by omega)
theorem bR_none {s : Option (List Int)} {o : Int} (h : bR 4 s = (o, none)) : o = 0 ∧ (slotR s).2 = none := by
  unfold bR at h
  split at h
  · next hx =>
    simp at h
    refine ⟨h.symm, ?_⟩
    have e : oR s = (0, none) := by unfold oR; rw [hx]
    unfold slotR
    rw [e]
    rfl
  · next x t hx =>
    split at h
    · next h4 =>
      simp at h
      refine ⟨h.symm, ?_⟩
      have e : oR s = (x, some t) := by unfold oR; rw [hx]
      unfold slotR
      rw [e]
      dsimp only
      rw [if_neg (by omega), if_neg (by omega), if_neg (by omega)]
    · simp at h
theorem bR_some {s : Option (List Int)} {o : Int} {t : List Int} (h : bR 4 s = (o, some t)) : oR s = (o, some t) ∧ o ≤ 4 := by
  unfold bR at h
  split at h
  · simp at h
  · next x t' hx =>
    split at h
    · simp at h
    · next h4 =>
      simp at h
      obtain ⟨rfl, rfl⟩ := h
      exact ⟨by unfold oR; rw [hx], by omega⟩
/-- Slots that were read so far, in the document's reader. -/
def SInv (N : Nat) (s0 : Option (List Int)) (k : Nat) (vs : List (Int × Int)) (s : Option (List Int)) : Prop :=
  slotsR N s0 = (vs ++ (slotsR (N - k) s).1, (slotsR (N - k) s).2) ∨ (s = none ∧ (slotsR N s0).2 = none)
theorem SInv.step {N : Nat} {s0 : Option (List Int)} {k : Nat} {vs : List (Int × Int)} {s st : Option (List Int)} {P : Int × Int} (h : SInv N s0 k vs s) (hk : k < N) (hne : s ≠ none)
    (hs : (st = none ∧ (slotR s).2 = none) ∨ (∃ t, st = some t ∧ slotR s = (P, some t))) : SInv N s0 (k + 1) (vs ++ [P]) st := by
  rcases h with h | ⟨h, _⟩
  · have e : N - k = (N - (k + 1)) + 1 := by omega
    rw [e] at h
    rcases hs with ⟨rfl, h2⟩ | ⟨t, rfl, h2⟩
    · refine .inr ⟨rfl, ?_⟩
      rw [h]
      simp [slotsR, h2]
    · rw [slotsR_go h2] at h
      exact .inl (by rw [h]; simp)
  · exact absurd h hne
theorem SInv.done {N : Nat} {s0 : Option (List Int)} {vs : List (Int × Int)} {s : Option (List Int)} (h : SInv N s0 N vs s) (hne : s ≠ none) : slotsR N s0 = (vs, s) := by
  rcases h with h | ⟨h, _⟩
  · rw [h]
    simp [slotsR]
  · exact absurd h hne
theorem SInv.bad {N : Nat} {s0 : Option (List Int)} {k : Nat} {vs : List (Int × Int)} (h : SInv N s0 k vs none) : (slotsR N s0).2 = none := by
  rcases h with h | ⟨_, h⟩
  · rw [h]
    cases N - k with
    | zero => rfl
    | succ j => simp [slotsR, slotR, oR]
  · exact h
end Go.Proofs.Ytjfaflmmanjjbaa
