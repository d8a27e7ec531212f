/- Regions with many operations: what is known of the slots. -/
import Derived.Test.YtkpngpongbpfgaaAnyG
import Derived.Test.YtkpngpongbpfgaaIsB
namespace Go.Proofs.Ytkpngpongbpfgaa
open Go.RowKit
set_option maxRecDepth 100000

theorem known_at {D : Nat → Prop} {A a : Act} {l : List Value} {val : Nat → Value} {s n m : Nat} (ha : a = putAll A s l) (hsz : A.tmps.size = m) (hlen : l.length = n) (hl : ∀ j, j < n → D j → l[j]? = some (val j)) (d : Nat) (hd : d < n) (hD : D d) (hm : s + n ≤ m := by decide) : a.tmps[s + d]? = some (val d) := by
  rw [ha, putAll_in A s d l (by omega) (by omega)]
  exact hl d hd hD
theorem eval_some {a : Act} {k : Nat} {v : Value} (h : a.tmps[k]? = some v) : a.eval (.tmp k) = v := by simp [Act.eval, h]
theorem wanted_of {ops : Array Oper} {o oj : Oper} {j k : Nat} {b : Bool} {tmps : Array Value} (hg : o.guard = some (j, b)) (ho : ops[j]? = some oj) (hd : oj.dst = some k) (hv : tmps[k]? = some (.bool b)) : Region.wanted o (yielded ops tmps) = true := by
  unfold Region.wanted yielded
  rw [hg]
  simp [ho, hd, hv]

theorem cons_of {l : List Value} {n : Nat} (h : l.length = n + 1) : ∃ a t, l = a :: t ∧ t.length = n := by
  cases l with
  | nil => simp at h
  | cons a t => exact ⟨a, t, rfl, by simpa using h⟩
/-- One slot below the row is turned besides. -/
theorem putT_start (A : Act) (s k t : Nat) (u : Value) (h : s + k ≤ A.tmps.size) (ht : t < s) (hu : A.tmps[t]? = some u) : A = (putAll A s ((A.tmps.toList.drop s).take k)).put (some t) u := by
  have e := (putAll_start A s k h).1
  rw [← e]
  show A = { A with tmps := A.tmps.setIfInBounds t u }
  have hlt : t < A.tmps.size := by omega
  have : A.tmps.setIfInBounds t u = A.tmps := by
    apply Array.ext
    · simp
    · intro i h1 h2
      rw [Array.getElem_setIfInBounds]
      split
      · rename_i h3
        subst h3
        rw [Array.getElem?_eq_getElem hlt] at hu
        exact (Option.some.inj hu).symm
      · rfl
  rw [this]
theorem put_swap (A : Act) (t i : Nat) (u v : Value) (h : t ≠ i) : (A.put (some t) u).put (some i) v = (A.put (some i) v).put (some t) u := by
  show ({ A with tmps := (A.tmps.setIfInBounds t u).setIfInBounds i v } : Act) = { A with tmps := (A.tmps.setIfInBounds i v).setIfInBounds t u }
  rw [Array.setIfInBounds_comm _ _ h]
theorem putT_put (A : Act) (s i t : Nat) (l : List Value) (u v : Value) (h : s + l.length ≤ A.tmps.size) (hi : i < l.length) (ht : t < s) : ((putAll A s l).put (some t) u).put (some (s + i)) v = (putAll A s (l.set i v)).put (some t) u := by
  rw [put_swap _ _ _ _ _ (by omega), putAll_put A s i l v h hi]
theorem putT_again (A : Act) (t : Nat) (u v : Value) : (A.put (some t) u).put (some t) v = A.put (some t) v := by
  show ({ A with tmps := (A.tmps.setIfInBounds t u).setIfInBounds t v } : Act) = { A with tmps := A.tmps.setIfInBounds t v }
  rw [Array.setIfInBounds_setIfInBounds]
theorem putT_other (a : Act) (t j : Nat) (u : Value) (h : t ≠ j) : (a.put (some t) u).tmps[j]? = a.tmps[j]? := by
  show (a.tmps.setIfInBounds t u)[j]? = _
  rw [Array.getElem?_setIfInBounds, if_neg h]
theorem known_atT {D : Nat → Prop} {A a : Act} {l : List Value} {val : Nat → Value} {s n m t : Nat} {u : Value} (ha : a = (putAll A s l).put (some t) u) (hsz : A.tmps.size = m) (hlen : l.length = n) (hl : ∀ j, j < n → D j → l[j]? = some (val j)) (d : Nat) (hd : d < n) (hD : D d) (ht : t < s := by decide) (hm : s + n ≤ m := by decide) : a.tmps[s + d]? = some (val d) := by
  rw [ha, putT_other _ _ _ _ (by omega)]
  exact known_at rfl hsz hlen hl d hd hD hm
end Go.Proofs.Ytkpngpongbpfgaa
