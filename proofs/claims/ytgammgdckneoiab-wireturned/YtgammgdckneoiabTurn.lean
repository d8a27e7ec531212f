/- Plain arithmetic: of bytes of which one is another one the sum is another one. -/
import Derived.Test.YtgammgdckneoiabSum
namespace Go.Proofs.Ytgammgdckneoiab

theorem xor_cancel (a b c : Nat) (h : a ^^^ c = b ^^^ c) : a = b := by
  have := congrArg (· ^^^ c) h
  simpa [Nat.xor_assoc] using this

theorem top_bit (a : Nat) (h : a < 4294967296) : ((a / 2) ^^^ 3988292384).testBit 31 = true ∧ (a / 2).testBit 31 = false := by
  have h1 : (a / 2).testBit 31 = false := Nat.testBit_lt_two_pow (by omega)
  refine ⟨?_, h1⟩
  rw [Nat.testBit_xor, h1]
  decide

theorem cstep_inj (a b : Nat) (ha : a < 4294967296) (hb : b < 4294967296) (h : cstep a = cstep b) : a = b := by
  unfold cstep at h
  have ta := top_bit a ha
  have tb := top_bit b hb
  by_cases pa : a % 2 = 1 <;> by_cases pb : b % 2 = 1
  · rw [if_pos pa, if_pos pb] at h
    have := xor_cancel _ _ _ h
    omega
  · rw [if_pos pa, if_neg pb] at h
    rw [h, tb.2] at ta
    simp at ta
  · rw [if_neg pa, if_pos pb] at h
    rw [← h, ta.2] at tb
    simp at tb
  · rw [if_neg pa, if_neg pb] at h
    omega
theorem cstepN_inj (m a b : Nat) (ha : a < 4294967296) (hb : b < 4294967296) (h : cstepN m a = cstepN m b) : a = b := by
  induction m with
  | zero => exact h
  | succ m ih => exact ih (cstep_inj _ _ (cstepN_lt m a ha) (cstepN_lt m b hb) h)
theorem xor_lt32 (r x : Nat) (h : r < 4294967296) (hx : x < 256) : r ^^^ x < 4294967296 := Nat.xor_lt_two_pow (n := 32) h (by omega)
theorem cbyte_inj_reg (a b x : Nat) (ha : a < 4294967296) (hb : b < 4294967296) (hx : x < 256) (h : cbyte a x = cbyte b x) : a = b :=
  xor_cancel _ _ _ (cstepN_inj 8 _ _ (xor_lt32 a x ha hx) (xor_lt32 b x hb hx) h)
theorem cbyte_inj_byte (r x y : Nat) (hr : r < 4294967296) (hx : x < 256) (hy : y < 256) (h : cbyte r x = cbyte r y) : x = y := by
  have := cstepN_inj 8 _ _ (xor_lt32 r x hr hx) (xor_lt32 r y hr hy) h
  rw [Nat.xor_comm r x, Nat.xor_comm r y] at this
  exact xor_cancel _ _ _ this

theorem fold_inj : ∀ (xs : List Int) (a b : Nat), (∀ x ∈ xs, 0 ≤ x ∧ x < 256) → a < 4294967296 → b < 4294967296 →
    xs.foldl (fun r x => cbyte r x.toNat) a = xs.foldl (fun r x => cbyte r x.toNat) b → a = b
  | [], _, _, _, _, _, h => h
  | x :: xs, a, b, hx, ha, hb, h => by
    have h0 := hx x (by simp)
    rw [List.foldl_cons, List.foldl_cons] at h
    exact cbyte_inj_reg a b x.toNat ha hb (by omega) (fold_inj xs _ _ (fun y hy => hx y (by simp [hy])) (cbyte_lt _ _ ha (by omega)) (cbyte_lt _ _ hb (by omega)) h)
theorem fold_lt : ∀ (xs : List Int) (r : Nat), (∀ x ∈ xs, 0 ≤ x ∧ x < 256) → r < 4294967296 → xs.foldl (fun r x => cbyte r x.toNat) r < 4294967296
  | [], _, _, h => h
  | x :: xs, r, hb, h => by
    rw [List.foldl_cons]
    have := hb x (by simp)
    exact fold_lt xs _ (fun y hy => hb y (by simp [hy])) (cbyte_lt _ _ h (by omega))

/-- One byte turned: another register. -/
theorem fold_set : ∀ (xs : List Int) (r i : Nat) (y : Int), (∀ x ∈ xs, 0 ≤ x ∧ x < 256) → r < 4294967296 → 0 ≤ y → y < 256 → i < xs.length → xs.getD i 0 ≠ y →
    (xs.set i y).foldl (fun r x => cbyte r x.toNat) r ≠ xs.foldl (fun r x => cbyte r x.toNat) r
  | [], _, i, _, _, _, _, _, hi, _ => by simp at hi
  | x :: xs, r, 0, y, hx, hr, h0, h1, _, hne => by
    intro h
    have hx0 := hx x (by simp)
    simp only [List.set_cons_zero, List.foldl_cons] at h
    have hxs : ∀ z ∈ xs, 0 ≤ z ∧ z < 256 := fun z hz => hx z (by simp [hz])
    have e := fold_inj xs _ _ hxs (cbyte_lt r y.toNat hr (by omega)) (cbyte_lt r x.toNat hr (by omega)) h
    have e2 := cbyte_inj_byte r _ _ hr (by omega) (by omega) e
    simp at hne
    omega
  | x :: xs, r, i + 1, y, hx, hr, h0, h1, hi, hne => by
    have hx0 := hx x (by simp)
    simp only [List.set_cons_succ, List.foldl_cons]
    exact fold_set xs _ i y (fun z hz => hx z (by simp [hz])) (cbyte_lt _ _ hr (by omega)) h0 h1 (by simpa using hi) (by simpa using hne)
end Go.Proofs.Ytgammgdckneoiab
