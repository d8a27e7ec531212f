/- Two arrays of words, held against each other. -/
import Derived.Test.YtgammgdckneoiacDoorDiff
import Derived.ChangeKeysEq
namespace Go.Proofs.YtgammgdckneoiacDoor
open Go.RowKit

theorem part_word (xs : List Int) (i : Nat) (hi : i < xs.length) (w : World) : (part 48 (cellsW xs) i).run Tryd.prog w = .ok (.int .u32 (xs.getD i 0)) w := by
  simp [part, cellsW, hi, go_sem]
theorem eqItems_words (d : Nat) (xs ys : List Int) (w : World) : ∀ (is : List Nat), (∀ i ∈ is, i < xs.length ∧ i < ys.length) →
    (Op.eqItems (d + 1) 48 1 (cellsW xs) (cellsW ys) is).run Tryd.prog w = .ok (is.all fun i => xs.getD i 0 == ys.getD i 0) w
  | [], _ => by simp [Op.eqItems]
  | i :: is, h => by
    have hi := h i (by simp)
    have ih := eqItems_words d xs ys w is (fun j hj => h j (by simp [hj]))
    simp only [Op.eqItems, Sem.run_bind, Nat.mul_one, part_word xs i hi.1 w, part_word ys i hi.2 w, Result.andThen_ok, run_equalIn_int w d 48 .u32 .u32 _ _ Tryd.underlying48]
    cases hb : (xs.getD i 0 == ys.getD i 0)
    · rw [List.all_cons, hb, Bool.false_and]; simp
    · simp only [Bool.not_true, Bool.false_eq_true, if_false, ih]
      rw [List.all_cons, hb, Bool.true_and]
theorem equal_words (r : Nat) (hr : r < 4294967296 ^ 32) (w : World) : (Op.equal 56 (.agg (cellsW (words 32 r))) (.agg (cellsW (words 32 0)))).run Tryd.prog w = .ok (decide (r = 0)) w := by
  obtain ⟨i, hi⟩ : ∃ i, Tryd.prog.info? 48 = some i := by
    have hs : (Tryd.prog.info? 48).map (·.size) = some 1 := by kernel_rfl
    cases hq : Tryd.prog.info? 48 with
    | none => simp [hq] at hs
    | some i => exact ⟨i, rfl⟩
  have hc : Tryd.prog.cellsOf 48 = 1 := by kernel_rfl
  have hd : ∀ d, d = Op.maxDepth → (Op.equalIn d 56 (.agg (cellsW (words 32 r))) (.agg (cellsW (words 32 0)))).run Tryd.prog w = .ok ((List.range 32).all fun i => (words 32 r).getD i 0 == (words 32 0).getD i 0) w := by
    intro d h
    obtain ⟨k, rfl⟩ : ∃ k, d = k + 1 + 1 := ⟨d - 2, by have : Op.maxDepth = 10000 := rfl; omega⟩
    clear h
    rw [run_equalIn_array w (k + 1) _ _ Tryd.underlying56 hi, hc]
    exact eqItems_words k _ _ w _ (fun i hi => by rw [List.mem_range] at hi; rw [words_len, words_len]; exact ⟨hi, hi⟩)
  have he := hd Op.maxDepth rfl
  suffices key : ((List.range 32).all fun i => (words 32 r).getD i 0 == (words 32 0).getD i 0) = decide (r = 0) by
    rw [key] at he
    exact he
  clear he hd
  by_cases h0 : r = 0
  · subst h0
    rw [decide_eq_true rfl, List.all_eq_true]
    intro i _
    exact beq_self_eq_true _
  · simp only [h0, decide_false]
    rw [Bool.eq_false_iff]
    intro hall
    rw [List.all_eq_true] at hall
    apply h0
    have e : words 32 r = words 32 0 := by
      refine list_ext (n := 32) (words_len _ _) (words_len _ _) fun i hi => ?_
      have := hall i (by simpa using hi)
      rw [beq_iff_eq, List.getD_eq_getElem?_getD, List.getD_eq_getElem?_getD] at this
      rw [words_get _ _ _ hi, words_get _ _ _ hi] at this ⊢
      simpa using this
    have := congrArg val32 e
    rw [val32_words 32 r hr, val32_words 32 0 (Nat.pow_pos (by decide))] at this
    exact this
theorem equal_in (d : Nat) (hd : d = Op.maxDepth) (r : Nat) (hr : r < 4294967296 ^ 32) (w : World) : (Op.equalIn d 56 (.agg (cellsW (words 32 r))) (.agg (cellsW (words 32 0)))).run Tryd.prog w = .ok (decide (r = 0)) w := by
  rw [hd]
  exact equal_words r hr w
end Go.Proofs.YtgammgdckneoiacDoor
