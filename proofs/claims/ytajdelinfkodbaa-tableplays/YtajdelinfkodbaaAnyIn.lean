/- Regions that draw their order, inside a fence. -/
import Derived.Test.YtajdelinfkodbaaGvn
import Derived.OrdersIn
import Derived.RangeFuncCalls
namespace Go.Proofs.Ytajdelinfkodbaa
open Go

theorem wpAnyIn_inv {F : Fence} {n : Nat} {P : Program} {ops : Array Oper} {Q : Exit → Act → World → Prop} (hp : plainOps ops = true) (I : (Nat → Prop) → Act → World → Prop)
    (hmono : ∀ D D' a w, (∀ j, D j ↔ D' j) → I D a w → I D' a w)
    (hstep : ∀ (i : Nat) (o : Oper), ops[i]? = some o → ∀ D a w, I D a w → ¬ D i → Closed ops D → (∀ e ∈ o.after, Region.binds .any e = true → D e.on) → o.wpIn F n P a w (I fun j => j = i ∨ D j) Q)
    (hend : ∀ D a w, I D a w → (∀ i, i < ops.size → D i) → Q .normal a w) :
    ∀ (fuel : Nat) (L : Array Bool) (a : Act) (w : World), L.size = ops.size → undone L ≤ fuel → Closed ops (fun j => L.getD j false = true) → I (fun j => L.getD j false = true) a w → wpAnyIn F n P .any ops Q fuel L a w
  | 0, L, a, w, hs, hf, hcl, hI => by
    have hall := undone_zero (show undone L = 0 by omega)
    refine ⟨?_, hend _ a w hI fun i hi => ?_⟩
    · cases hr : Region.ready .any ops L with
      | nil => rfl
      | cons x xs =>
        have hx : x ∈ Region.ready .any ops L := by rw [hr]; simp
        obtain ⟨h1, o, ho, _⟩ := mem_ready.1 hx
        have hx' : x < L.size := by
          rcases Nat.lt_or_ge x L.size with h' | h'
          · exact h'
          · rw [hs] at h'; rw [Array.getElem?_eq_none h'] at ho; cases ho
        rw [hall x hx'] at h1; cases h1
    · have := hall i (by omega)
      simp [show i < L.size by omega] at this ⊢; exact this
  | fuel + 1, L, a, w, hs, hf, hcl, hI => by
    refine ⟨fun hr => hend _ a w hI fun i hi => ready_nil hp hs hr i hi, fun i hi => ?_⟩
    obtain ⟨h1, o, ho, hd⟩ := mem_ready.1 hi
    have hi' : i < L.size := by
      rcases Nat.lt_or_ge i L.size with h' | h'
      · exact h'
      · rw [hs] at h'; rw [Array.getElem?_eq_none h'] at ho; cases ho
    have hn : ¬ L.getD i false = true := by
      simp [hi'] at h1 ⊢; exact h1
    have hst := hstep i o ho _ a w hI hn hcl hd
    unfold wpOpIn
    simp only [ho]
    have hw : Region.wanted o (yielded ops a.tmps) = true := by
      unfold Region.wanted; rw [(plainOps_at hp ho).1]
    rw [if_pos hw]
    have hset : ∀ j, (j = i ∨ L.getD j false = true) ↔ (L.setIfInBounds i true).getD j false = true := fun j => by
      by_cases hj : j = i
      · subst hj; simp [hi']
      · simp [hj, Ne.symm hj]
    refine (Oper.wpIn_mono (fun a' w' hI' => ?_) hst)
    refine wpAnyIn_inv hp I hmono hstep hend fuel _ a' w' (by simp [hs]) (by have := undone_set h1; omega) ?_ (hmono _ _ a' w' hset hI')
    intro j oj hoj hDj e he hb
    rcases (hset j).2 hDj with rfl | hDj
    · rw [ho] at hoj
      cases hoj
      exact (hset _).1 (.inr (hd e he hb))
    · exact (hset _).1 (.inr (hcl j oj hoj hDj e he hb))
/-- THE RULE: what holds behind any operations that are done (D) holds behind one more; behind all of them it gives what is asked. -/
theorem wpIn_region_inv {F : Fence} {n : Nat} {P : Program} {ops : Array Oper} {Q : Exit → Act → World → Prop} {id : Nat} {a : Act} {w : World} (hm : P.follows .mixedOrders = true) (hp : plainOps ops = true) (I : (Nat → Prop) → Act → World → Prop)
    (hmono : ∀ D D' a w, (∀ j, D j ↔ D' j) → I D a w → I D' a w)
    (hstart : I (fun _ => False) a { w with drawn := w.drawn + 1 })
    (hstep : ∀ (i : Nat) (o : Oper), ops[i]? = some o → ∀ D a w, I D a w → ¬ D i → Closed ops D → (∀ e ∈ o.after, Region.binds .any e = true → D e.on) → o.wpIn F n P a w (I fun j => j = i ∨ D j) Q)
    (hend : ∀ D a w, I D a w → (∀ i, i < ops.size → D i) → Q .normal a w) : (Code.region id ops true).wpIn F n P Q a w := by
  refine wpIn_region_any hm (wpAnyIn_inv hp I hmono hstep hend _ _ a _ (by simp) ?_ ?_ (hmono _ _ _ _ (fun j => ?_) hstart))
  · unfold undone
    exact Nat.le_trans (List.length_filter_le _ _) (by simp)
  · intro j oj hoj hDj
    exfalso
    rcases Nat.lt_or_ge j ops.size with h' | h'
    · simp [h'] at hDj
    · simp [h'] at hDj
  · constructor
    · intro h; cases h
    · intro h
      exfalso
      rcases Nat.lt_or_ge j ops.size with h' | h'
      · simp [h'] at h
      · simp [h'] at h
/-- The same, what holds said of the frame at the beginning too. -/
theorem wpIn_region_inv' {F : Fence} {n : Nat} {P : Program} {ops : Array Oper} {Q : Exit → Act → World → Prop} {id : Nat} {a : Act} {w : World} (I : Act → (Nat → Prop) → Act → World → Prop) (hm : P.follows .mixedOrders = true) (hp : plainOps ops = true)
    (hmono : ∀ D D' a' w', (∀ j, D j ↔ D' j) → I a D a' w' → I a D' a' w')
    (hstart : I a (fun _ => False) a { w with drawn := w.drawn + 1 })
    (hstep : ∀ (i : Nat) (o : Oper), ops[i]? = some o → ∀ D a' w', I a D a' w' → ¬ D i → Closed ops D → (∀ e ∈ o.after, Region.binds .any e = true → D e.on) → o.wpIn F n P a' w' (I a fun j => j = i ∨ D j) Q)
    (hend : ∀ D a' w', I a D a' w' → (∀ i, i < ops.size → D i) → Q .normal a' w') : (Code.region id ops true).wpIn F n P Q a w :=
  wpIn_region_inv hm hp (I a) hmono hstart hstep hend

theorem rowsIn_wide' {n : Nat} {P : Program} {row : String} {args : Array Value} {w : World} {R : Value → World → Prop} (h : Rows P row args w R) : RowsIn Fence.wide n P row args w R := fun c cs _ => let ⟨v, w', r, s⟩ := h c cs; ⟨v, w', r, stepsIn_wide.2 s⟩
/-- An operation in a round of the wide fence, as anywhere. -/
theorem roundIn_op {n l : Nat} {P : Program} {o : Oper} {a : Act} {w : World} {K : Act → World → Prop} {Q : Exit → Act → World → Prop} (hd : ∀ c, o.op ≠ .defer c) (h : o.wp P a w K Q) : o.wpIn (Fence.wide.inRound l) n P a w K Q := by
  refine ⟨fun _ _ => trivial, ?_⟩
  rw [Oper.semAt_eq _ _ _ hd]
  unfold Oper.wp at h
  generalize (execOp a.eval o).run P w = r at *
  cases r with
  | ok x w' =>
    cases x <;> simp only [Oper.upon] at h <;> simp only [Oper.uponIn] <;>
      first
        | exact h
        | exact ⟨fun hs => (by cases hs), CallsIn.inRound l (callsIn_wide.2 h)⟩
        | exact ⟨fun hs => (by cases hs), rowsIn_wide' h⟩
        | exact h.elim
  | halt x w' => cases x <;> simp only [Oper.upon] at h <;> simp only [Oper.uponIn] <;> first | exact h | exact h.elim
end Go.Proofs.Ytajdelinfkodbaa
