/- Regions that draw their order, with guards: operations that are left out. -/
import Derived.Test.YtoghhjljmhdioaaAny
namespace Go.Proofs.Ytoghhjljmhdioaa
open Go.RowKit

theorem wanted_not {ops : Array Oper} {o oj : Oper} {j k : Nat} {b : Bool} {v : Value} {tmps : Array Value} (hg : o.guard = some (j, b)) (ho : ops[j]? = some oj) (hd : oj.dst = some k) (hv : tmps[k]? = some v) (hne : v ≠ .bool b) : Region.wanted o (yielded ops tmps) = false := by
  unfold Region.wanted yielded
  rw [hg]
  simp [ho, hd, hv]
  cases v <;> simp_all

theorem wpAny_inv3 {P : Program} {ops : Array Oper} {Q : Exit → Act → World → Prop} (hp : downOps ops = true) (I : (Nat → Prop) → Act → World → Prop)
    (hmono : ∀ D D' a w, (∀ j, D j ↔ D' j) → I D a w → I D' a w)
    (hstep : ∀ (i : Nat) (o : Oper), ops[i]? = some o → ∀ D a w, I D a w → ¬ D i → Closed ops D → (∀ e ∈ o.after, Region.binds .any e = true → D e.on) → (Region.wanted o (yielded ops a.tmps) = true ∧ o.wp P a w (I fun j => j = i ∨ D j) Q) ∨ (Region.wanted o (yielded ops a.tmps) = false ∧ I (fun j => j = i ∨ D j) (a.put o.dst undef) w))
    (hend : ∀ D a w, I D a w → (∀ i, i < ops.size → D i) → Q .normal a w) :
    ∀ (fuel : Nat) (L : Array Bool) (a : Act) (w : World), L.size = ops.size → undone L ≤ fuel → Closed ops (fun j => L.getD j false = true) → I (fun j => L.getD j false = true) a w → wpAny P .any ops Q fuel L a w
  | 0, L, a, w, hs, hf, hcl, hI => by
    have hall := undone_zero (show undone L = 0 by omega)
    refine ⟨?_, hend _ a w hI fun i hi => ?_⟩
    · cases hr : Region.ready .any ops L with
      | nil => rfl
      | cons x xs =>
        have hx : x ∈ Region.ready .any ops L := by rw [hr]; simp
        obtain ⟨h1, o, ho, _⟩ := mem_ready.1 hx
        have hx' : x < L.size := by
          rcases Nat.lt_or_ge x L.size with h' | h'
          · exact h'
          · rw [hs] at h'; rw [Array.getElem?_eq_none h'] at ho; cases ho
        rw [hall x hx'] at h1; cases h1
    · have := hall i (by omega)
      simp [show i < L.size by omega] at this ⊢; exact this
  | fuel + 1, L, a, w, hs, hf, hcl, hI => by
    refine ⟨fun hr => hend _ a w hI fun i hi => ready_nil2 hp hs hr i hi, fun i hi => ?_⟩
    obtain ⟨h1, o, ho, hd⟩ := mem_ready.1 hi
    have hi' : i < L.size := by
      rcases Nat.lt_or_ge i L.size with h' | h'
      · exact h'
      · rw [hs] at h'; rw [Array.getElem?_eq_none h'] at ho; cases ho
    have hn : ¬ L.getD i false = true := by
      simp [hi'] at h1 ⊢; exact h1
    have hst := hstep i o ho _ a w hI hn hcl hd
    have hset : ∀ j, (j = i ∨ L.getD j false = true) ↔ (L.setIfInBounds i true).getD j false = true := fun j => by
      by_cases hj : j = i
      · subst hj; simp [hi']
      · simp [hj, Ne.symm hj]
    have hclose : Closed ops (fun j => (L.setIfInBounds i true).getD j false = true) := by
      intro j oj hoj hDj e he hb
      rcases (hset j).2 hDj with rfl | hDj
      · rw [ho] at hoj
        cases hoj
        exact (hset _).1 (.inr (hd e he hb))
      · exact (hset _).1 (.inr (hcl j oj hoj hDj e he hb))
    unfold wpOp
    simp only [ho]
    rcases hst with hst | hst
    · rw [if_pos hst.1]
      refine .inl (Oper.wp_mono (fun a' w' hI' => ?_) hst.2)
      exact wpAny_inv3 hp I hmono hstep hend fuel _ a' w' (by simp [hs]) (by have := undone_set h1; omega) hclose (hmono _ _ a' w' hset hI')
    · rw [if_neg (by rw [hst.1]; decide)]
      exact wpAny_inv3 hp I hmono hstep hend fuel _ _ w (by simp [hs]) (by have := undone_set h1; omega) hclose (hmono _ _ _ w hset hst.2)
/-- THE RULE, with guards that are decided, and operations that are left out. -/
theorem wp_region_inv3' {P : Program} {ops : Array Oper} {Q : Exit → Act → World → Prop} {id : Nat} {a : Act} {w : World} (I : Act → (Nat → Prop) → Act → World → Prop) (hm : P.follows .mixedOrders = true) (hp : downOps ops = true)
    (hmono : ∀ D D' a' w', (∀ j, D j ↔ D' j) → I a D a' w' → I a D' a' w')
    (hstart : I a (fun _ => False) a { w with drawn := w.drawn + 1 })
    (hstep : ∀ (i : Nat) (o : Oper), ops[i]? = some o → ∀ D a' w', I a D a' w' → ¬ D i → Closed ops D → (∀ e ∈ o.after, Region.binds .any e = true → D e.on) → (Region.wanted o (yielded ops a'.tmps) = true ∧ o.wp P a' w' (I a fun j => j = i ∨ D j) Q) ∨ (Region.wanted o (yielded ops a'.tmps) = false ∧ I a (fun j => j = i ∨ D j) (a'.put o.dst undef) w'))
    (hend : ∀ D a' w', I a D a' w' → (∀ i, i < ops.size → D i) → Q .normal a' w') : (Code.region id ops true).wp P Q a w := by
  refine wp_region_any hm (wpAny_inv3 hp (I a) hmono hstep hend _ _ a _ (by simp) ?_ ?_ (hmono _ _ _ _ (fun j => ?_) hstart))
  · unfold undone
    exact Nat.le_trans (List.length_filter_le _ _) (by simp)
  · intro j oj hoj hDj
    exfalso
    rcases Nat.lt_or_ge j ops.size with h' | h'
    · simp [h'] at hDj
    · simp [h'] at hDj
  · constructor
    · intro h; cases h
    · intro h
      exfalso
      rcases Nat.lt_or_ge j ops.size with h' | h'
      · simp [h'] at h
      · simp [h'] at h
end Go.Proofs.Ytoghhjljmhdioaa
