/- Two arrays of words, held against each other. -/
import Derived.Test.YtlhmeipbcioncaaDoorDiff
import Derived.ChangeKeysEq
namespace Go.Proofs.YtlhmeipbcioncaaDoor
open Go.RowKit

theorem part_word (xs : List Int) (i : Nat) (hi : i < xs.length) (w : World) : (part 86 (cellsW xs) i).run Tryd.prog w = .ok (.int .u32 (xs.getD i 0)) w := by
  simp [part, cellsW, hi, go_sem]
theorem eqItems_words (d : Nat) (xs ys : List Int) (w : World) : ∀ (is : List Nat), (∀ i ∈ is, i < xs.length ∧ i < ys.length) →
    (Op.eqItems (d + 1) 86 1 (cellsW xs) (cellsW ys) is).run Tryd.prog w = .ok (is.all fun i => xs.getD i 0 == ys.getD i 0) w
  | [], _ => by simp [Op.eqItems]
  | i :: is, h => by
    have hi := h i (by simp)
    have ih := eqItems_words d xs ys w is (fun j hj => h j (by simp [hj]))
    simp only [Op.eqItems, Sem.run_bind, Nat.mul_one, part_word xs i hi.1 w, part_word ys i hi.2 w, Result.andThen_ok, run_equalIn_int w d 86 .u32 .u32 _ _ Tryd.underlying86]
    cases hb : (xs.getD i 0 == ys.getD i 0)
    · rw [List.all_cons, hb, Bool.false_and]; simp
    · simp only [Bool.not_true, Bool.false_eq_true, if_false, ih]
      rw [List.all_cons, hb, Bool.true_and]
end Go.Proofs.YtlhmeipbcioncaaDoor
