/- Regions with guards. -/
import Derived.Test.YtkkilenokpoaoaaBase
namespace Go.Proofs.Ytkkilenokpoaoaa
open Go.RowKit 
set_option maxRecDepth 100000
/-- Each operation waits for earlier ones alone. -/
def downOps (ops : Array Oper) : Bool := (List.range ops.size).all fun i => match ops[i]? with
  | none => false
  | some o => o.after.all fun e => !Region.binds .any e || decide (e.on < i)
theorem downOps_at {ops : Array Oper} (h : downOps ops = true) {i : Nat} {o : Oper} (ho : ops[i]? = some o) : ∀ e ∈ o.after, Region.binds .any e = true → e.on < i := by
  unfold downOps at h
  have hi : i < ops.size := by
    rcases Nat.lt_or_ge i ops.size with h' | h'
    · exact h'
    · rw [Array.getElem?_eq_none h'] at ho; cases ho
  have h1 := (List.all_eq_true.1 h) i (List.mem_range.2 hi)
  simp only [ho, Array.all_eq_true_iff_forall_mem, Bool.or_eq_true, Bool.not_eq_true', decide_eq_true_eq] at h1
  intro e he hb
  rcases h1 e he with h2 | h2
  · rw [h2] at hb; cases hb
  · exact h2
theorem ready_nil2 {ops : Array Oper} (hp : downOps ops = true) {L : Array Bool} (hs : L.size = ops.size) (hr : Region.ready .any ops L = []) : ∀ i, i < ops.size → L.getD i false = true := by
  intro i
  induction i using Nat.strongRecOn with
  | ind i ih =>
    intro hi
    rcases hL : L.getD i false with _ | _
    · exfalso
      have hi' : i < L.size := by omega
      have hoi : ops[i]? = some ops[i] := Array.getElem?_eq_getElem hi
      have hm : i ∈ Region.ready .any ops L := by
        refine mem_ready.2 ⟨?_, ops[i], hoi, fun e he hb => ?_⟩
        · simp [hi'] at hL ⊢; exact hL
        · have := downOps_at hp hoi e he hb
          exact ih _ this (by omega)
      rw [hr] at hm
      cases hm
    · rfl
theorem wpAny_inv2 {P : Program} {ops : Array Oper} {Q : Exit → Act → World → Prop} (hp : downOps ops = true) (I : (Nat → Prop) → Act → World → Prop)
    (hmono : ∀ D D' a w, (∀ j, D j ↔ D' j) → I D a w → I D' a w)
    (hstep : ∀ (i : Nat) (o : Oper), ops[i]? = some o → ∀ D a w, I D a w → ¬ D i → Closed ops D → (∀ e ∈ o.after, Region.binds .any e = true → D e.on) → Region.wanted o (yielded ops a.tmps) = true ∧ o.wp P a w (I fun j => j = i ∨ D j) Q)
    (hend : ∀ D a w, I D a w → (∀ i, i < ops.size → D i) → Q .normal a w) :
    ∀ (fuel : Nat) (L : Array Bool) (a : Act) (w : World), L.size = ops.size → undone L ≤ fuel → Closed ops (fun j => L.getD j false = true) → I (fun j => L.getD j false = true) a w → wpAny P .any ops Q fuel L a w
  | 0, L, a, w, hs, hf, hcl, hI => by
    have hall := undone_zero (show undone L = 0 by omega)
    refine ⟨?_, hend _ a w hI fun i hi => ?_⟩
    · cases hr : Region.ready .any ops L with
      | nil => rfl
      | cons x xs =>
        have hx : x ∈ Region.ready .any ops L := by rw [hr]; simp
        obtain ⟨h1, o, ho, _⟩ := mem_ready.1 hx
        have hx' : x < L.size := by
          rcases Nat.lt_or_ge x L.size with h' | h'
          · exact h'
          · rw [hs] at h'; rw [Array.getElem?_eq_none h'] at ho; cases ho
        rw [hall x hx'] at h1; cases h1
    · have := hall i (by omega)
      simp [show i < L.size by omega] at this ⊢; exact this
  | fuel + 1, L, a, w, hs, hf, hcl, hI => by
    refine ⟨fun hr => hend _ a w hI fun i hi => ready_nil2 hp hs hr i hi, fun i hi => ?_⟩
    obtain ⟨h1, o, ho, hd⟩ := mem_ready.1 hi
    have hi' : i < L.size := by
      rcases Nat.lt_or_ge i L.size with h' | h'
      · exact h'
      · rw [hs] at h'; rw [Array.getElem?_eq_none h'] at ho; cases ho
    have hn : ¬ L.getD i false = true := by
      simp [hi'] at h1 ⊢; exact h1
    have hst := hstep i o ho _ a w hI hn hcl hd
    unfold wpOp
    simp only [ho]
    rw [if_pos hst.1]
    have hset : ∀ j, (j = i ∨ L.getD j false = true) ↔ (L.setIfInBounds i true).getD j false = true := fun j => by
      by_cases hj : j = i
      · subst hj; simp [hi']
      · simp [hj, Ne.symm hj]
    refine .inl (Oper.wp_mono (fun a' w' hI' => ?_) hst.2)
    refine wpAny_inv2 hp I hmono hstep hend fuel _ a' w' (by simp [hs]) (by have := undone_set h1; omega) ?_ (hmono _ _ a' w' hset hI')
    intro j oj hoj hDj e he hb
    rcases (hset j).2 hDj with rfl | hDj
    · rw [ho] at hoj
      cases hoj
      exact (hset _).1 (.inr (hd e he hb))
    · exact (hset _).1 (.inr (hcl j oj hoj hDj e he hb))
/-- THE RULE, with guards that are decided: what holds behind any operations that are done (D) holds behind one more; behind all of them it gives what is asked. -/
theorem wp_region_inv2 {P : Program} {ops : Array Oper} {Q : Exit → Act → World → Prop} {id : Nat} {a : Act} {w : World} (hm : P.follows .mixedOrders = true) (hp : downOps ops = true) (I : (Nat → Prop) → Act → World → Prop)
    (hmono : ∀ D D' a w, (∀ j, D j ↔ D' j) → I D a w → I D' a w)
    (hstart : I (fun _ => False) a { w with drawn := w.drawn + 1 })
    (hstep : ∀ (i : Nat) (o : Oper), ops[i]? = some o → ∀ D a w, I D a w → ¬ D i → Closed ops D → (∀ e ∈ o.after, Region.binds .any e = true → D e.on) → Region.wanted o (yielded ops a.tmps) = true ∧ o.wp P a w (I fun j => j = i ∨ D j) Q)
    (hend : ∀ D a w, I D a w → (∀ i, i < ops.size → D i) → Q .normal a w) : (Code.region id ops true).wp P Q a w := by
  refine wp_region_any hm (wpAny_inv2 hp I hmono hstep hend _ _ a _ (by simp) ?_ ?_ (hmono _ _ _ _ (fun j => ?_) hstart))
  · unfold undone
    exact Nat.le_trans (List.length_filter_le _ _) (by simp)
  · intro j oj hoj hDj
    exfalso
    rcases Nat.lt_or_ge j ops.size with h' | h'
    · simp [h'] at hDj
    · simp [h'] at hDj
  · constructor
    · intro h; cases h
    · intro h
      exfalso
      rcases Nat.lt_or_ge j ops.size with h' | h'
      · simp [h'] at h
      · simp [h'] at h
/-- The same, what holds said of the frame at the beginning too. -/
theorem wp_region_inv2' {P : Program} {ops : Array Oper} {Q : Exit → Act → World → Prop} {id : Nat} {a : Act} {w : World} (I : Act → (Nat → Prop) → Act → World → Prop) (hm : P.follows .mixedOrders = true) (hp : downOps ops = true)
    (hmono : ∀ D D' a' w', (∀ j, D j ↔ D' j) → I a D a' w' → I a D' a' w')
    (hstart : I a (fun _ => False) a { w with drawn := w.drawn + 1 })
    (hstep : ∀ (i : Nat) (o : Oper), ops[i]? = some o → ∀ D a' w', I a D a' w' → ¬ D i → Closed ops D → (∀ e ∈ o.after, Region.binds .any e = true → D e.on) → Region.wanted o (yielded ops a'.tmps) = true ∧ o.wp P a' w' (I a fun j => j = i ∨ D j) Q)
    (hend : ∀ D a' w', I a D a' w' → (∀ i, i < ops.size → D i) → Q .normal a' w') : (Code.region id ops true).wp P Q a w :=
  wp_region_inv2 hm hp (I a) hmono hstart hstep hend
theorem eval_some {a : Act} {k : Nat} {v : Value} (h : a.tmps[k]? = some v) : a.eval (.tmp k) = v := by simp [Act.eval, h]
end Go.Proofs.Ytkkilenokpoaoaa
