/- Which of two numbers is the lesser one: compare, Cmp, and the document's cmp and Cmp. -/
import Derived.Test.YtlhmeipbcioncaaDoorMade
import Derived.Test.YtlhmeipbcioncaaDoorRight
import Derived.Deep.QuietTactic
namespace Go.Proofs.YtlhmeipbcioncaaDoor
open Go.RowKit

/-- Below (-1), the same (0) or above (1). -/
def sgn (x y : Nat) : Int := if x < y then -1 else if x = y then 0 else 1
/-- No nought stands ahead. -/
def Lead (xs : List Int) : Prop := xs = [] ∨ xs.getD 0 0 ≠ 0

theorem lead_right {neg : Bool} {xs : List Int} (h : rightB neg xs = true) : Lead xs ∧ xs.length ≤ 128 := by
  unfold rightB at h
  split at h
  · rename_i h0
    exact ⟨.inl (List.eq_nil_of_length_eq_zero h0), by omega⟩
  · simp at h
    exact ⟨.inr (by simpa using h.2), h.1⟩
theorem val8_app (a b : List Int) : val8 (a ++ b) = val8 a * 256 ^ b.length + val8 b := by
  unfold val8
  rw [List.foldl_append, val8_acc]
  rfl
theorem lead_le {xs : List Int} (hb : ∀ x ∈ xs, 0 ≤ x ∧ x < 256) (hl : Lead xs) (h0 : 0 < xs.length) : 256 ^ (xs.length - 1) ≤ val8 xs := by
  cases xs with
  | nil => simp at h0
  | cons b r =>
    rcases hl with hl | hl
    · simp at hl
    · have := hb b (by simp)
      simp at hl
      rw [val8_cons, List.length_cons, Nat.add_sub_cancel]
      have : 1 * 256 ^ r.length ≤ b.toNat * 256 ^ r.length := Nat.mul_le_mul_right _ (by omega)
      omega
theorem val8_short {xs ys : List Int} (hx : ∀ x ∈ xs, 0 ≤ x ∧ x < 256) (hy : ∀ x ∈ ys, 0 ≤ x ∧ x < 256) (hl : Lead ys) (h : xs.length < ys.length) : val8 xs < val8 ys := by
  have h1 := val8_lt xs hx
  have h2 := lead_le hy hl (by omega)
  have : 256 ^ xs.length ≤ 256 ^ (ys.length - 1) := Nat.pow_le_pow_right (by decide) (by omega)
  omega
theorem val8_first {xs ys : List Int} (hx : ∀ x ∈ xs, 0 ≤ x ∧ x < 256) (he : xs.length = ys.length) (k c d : Nat) (ht : xs.take k = ys.take k)
    (h1 : xs.take (k + 1) = xs.take k ++ [(c : Int)]) (h2 : ys.take (k + 1) = ys.take k ++ [(d : Int)]) (hcd : c < d) : val8 xs < val8 ys := by
  have e1 : val8 xs = val8 (xs.take (k + 1)) * 256 ^ (xs.drop (k + 1)).length + val8 (xs.drop (k + 1)) := by rw [← val8_app, List.take_append_drop]
  have e2 : val8 ys = val8 (ys.take (k + 1)) * 256 ^ (ys.drop (k + 1)).length + val8 (ys.drop (k + 1)) := by rw [← val8_app, List.take_append_drop]
  have hlt := val8_lt (xs.drop (k + 1)) (fun x h => hx x (List.mem_of_mem_drop h))
  have hl : (ys.drop (k + 1)).length = (xs.drop (k + 1)).length := by simp [he]
  rw [h1, val8_snoc] at e1
  rw [h2, val8_snoc, ← ht, hl] at e2
  generalize 256 ^ (xs.drop (k + 1)).length = P at *
  simp only [Int.toNat_natCast] at e1 e2
  have : (val8 (xs.take k) * 256 + c + 1) * P ≤ (val8 (xs.take k) * 256 + d) * P := Nat.mul_le_mul_right _ (by omega)
  rw [Nat.add_mul _ 1] at this
  omega

/-- What Cmp tells. -/
def cmpI (n1 : Bool) (xs : List Int) (n2 : Bool) (ys : List Int) : Int :=
  if rightB n1 xs && rightB n2 ys then (if n1 != n2 then (if n1 then -1 else 1) else if n1 then sgn (val8 ys) (val8 xs) else sgn (val8 xs) (val8 ys)) else 0

theorem box2 (w : World) (o1 o2 : Obj) : Below w.heap.size w ((w.alloc o1).alloc o2) := (box_below w _).alloc (by simp) _
/-- Two Ints that lie in variables, behind a call. -/
theorem vars2 {w w1 : World} {v0 v1 u0 u1 : Value} {t t' : Nat} (hb : Below ((w.alloc (.cells #[v0, v1] t)).alloc (.cells #[u0, u1] t')).heap.size ((w.alloc (.cells #[v0, v1] t)).alloc (.cells #[u0, u1] t')) w1) :
    w1.heap[w.heap.size]? = some (.cells #[v0, v1] t (0, 0)) ∧ w1.heap[w.heap.size + 1]? = some (.cells #[u0, u1] t' (0, 0)) ∧ Below w.heap.size w w1 := by
  have hs : ((w.alloc (.cells #[v0, v1] t)).alloc (.cells #[u0, u1] t')).heap.size = w.heap.size + 2 := by simp
  refine ⟨(hb.block _ (by omega)).trans ((Below.heap_alloc _ _ _ (by simp)).trans (heap_alloc_new w _)), (hb.block _ (by omega)).trans ?_, (box2 w _ _).trans (hb.mono (by omega))⟩
  have := heap_alloc_new (w.alloc (.cells #[v0, v1] t)) (.cells #[u0, u1] t')
  rwa [show (w.alloc (.cells #[v0, v1] t)).heap.size = w.heap.size + 1 by simp] at this

/-- A number with the sign that tells which is the lesser one. -/
def Tells (n : Int) (x y : Nat) : Prop := (x < y → n < 0) ∧ (x = y → n = 0) ∧ (y < x → 0 < n) ∧ -1000 ≤ n ∧ n ≤ 1000

theorem sgn_tells {n : Int} {x y : Nat} (h : Tells n x y) : sgn x y = if n < 0 then -1 else if 0 < n then 1 else 0 := by
  obtain ⟨a, b, c, _, _⟩ := h
  unfold sgn
  rcases Nat.lt_trichotomy x y with h | h | h
  · rw [if_pos h, if_pos (a h)]
  · have := b h
    rw [if_neg (by omega), if_pos h, if_neg (by omega), if_neg (by omega)]
  · have := c h
    rw [if_neg (by omega), if_neg (by omega), if_neg (by omega), if_pos (by omega)]
theorem sgn_turn (x y : Nat) : sgn x y = -sgn y x := by
  unfold sgn
  rcases Nat.lt_trichotomy x y with h | h | h
  · rw [if_pos h, if_neg (by omega), if_neg (by omega)]
  · subst h; simp
  · rw [if_neg (by omega), if_neg (by omega), if_pos h]; rfl

end Go.Proofs.YtlhmeipbcioncaaDoor
