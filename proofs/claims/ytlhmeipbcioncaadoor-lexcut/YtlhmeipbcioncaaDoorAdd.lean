/- addSigned: two numbers together, of which nought may have any sign. -/
import Derived.Test.YtlhmeipbcioncaaDoorSum
import Derived.Test.YtlhmeipbcioncaaDoorLoad
import Derived.Test.YtlhmeipbcioncaaDoorKnown
namespace Go.Proofs.YtlhmeipbcioncaaDoor
open Go.RowKit

/-- What is made of a number that may be too large. -/
def fitB (neg : Bool) (V : Nat) : Bool := neg && decide (V ≠ 0) && decide (blen V ≤ 128)
def fitE (V : Nat) : Int := if blen V ≤ 128 then 0 else 24
def fitM (V : Nat) : List Int := if blen V ≤ 128 then mag V else []
theorem pack_any {b off len cap V : Nat} {ws : List Int} {w : World} (neg : Bool) (h : IsW w (some ⟨b, off, none⟩) len cap ws) (hl : len ≤ 1000) (hv : val32 ws = V) :
    Calls Tryd.prog 68 #[.bool neg, .slice (some ⟨b, off, none⟩) len cap] w fun e w' => ∃ v, e = .returned (.tuple #[.agg #[.bool (fitB neg V), v], .int .i64 (fitE V)]) ∧ OwnB w' w.heap.size v (fitM V) ∧ Below w.heap.size w w' := by
  by_cases hm : blen V ≤ 128
  · refine (pack_fit neg h hl hv hm).mono ?_
    rintro e w' ⟨v, rfl, hO, hb⟩
    refine ⟨v, ?_, ?_, hb⟩
    · unfold fitB fitE; rw [if_pos hm, decide_eq_true hm, Bool.and_true]
    · unfold fitM; rw [if_pos hm]; exact hO
  · subst hv
    have hVl : val32 ws < 4294967296 ^ len := by rw [← h.size]; exact val32_lt ws h.word
    have hb4 : blen (val32 ws) ≤ 4 * len := (blen_le _ _).2 (by rw [Nat.pow_mul]; exact hVl)
    refine (pack_large neg h hl (by omega) (by omega)).mono ?_
    rintro e w' ⟨rfl, hb⟩
    refine ⟨.slice none 0 0, ?_, ?_, hb⟩
    · unfold fitB fitE; rw [if_neg hm, decide_eq_false hm, Bool.and_false]
    · unfold fitM; rw [if_neg hm]; exact ownB_of (n := 0) (World.ownsRow_nil _ _ _ _) (by simp)

/-- The sum of two numbers with signs: its sign, and how far it is from nought. -/
def sumNeg (n1 n2 : Bool) (X Y : Nat) : Bool := if n1 = n2 then n1 else if X < Y then n2 else n1
def sumMag (n1 n2 : Bool) (X Y : Nat) : Nat := if n1 = n2 then X + Y else if X < Y then Y - X else X - Y

end Go.Proofs.YtlhmeipbcioncaaDoor
