/- Regions that draw their order. -/
import Derived.Test.YtoghhjljmhdioaaAdd
namespace Go.Proofs.Ytoghhjljmhdioaa
open Go.RowKit 
set_option maxRecDepth 100000
/-- Each operation waits for earlier ones alone. -/
def downOps (ops : Array Oper) : Bool := (List.range ops.size).all fun i => match ops[i]? with
  | none => false
  | some o => o.after.all fun e => !Region.binds .any e || decide (e.on < i)
theorem downOps_at {ops : Array Oper} (h : downOps ops = true) {i : Nat} {o : Oper} (ho : ops[i]? = some o) : ∀ e ∈ o.after, Region.binds .any e = true → e.on < i := by
  unfold downOps at h
  have hi : i < ops.size := by
    rcases Nat.lt_or_ge i ops.size with h' | h'
    · exact h'
    · rw [Array.getElem?_eq_none h'] at ho; cases ho
  have h1 := (List.all_eq_true.1 h) i (List.mem_range.2 hi)
  simp only [ho, Array.all_eq_true_iff_forall_mem, Bool.or_eq_true, Bool.not_eq_true', decide_eq_true_eq] at h1
  intro e he hb
  rcases h1 e he with h2 | h2
  · rw [h2] at hb; cases hb
  · exact h2
theorem ready_nil2 {ops : Array Oper} (hp : downOps ops = true) {L : Array Bool} (hs : L.size = ops.size) (hr : Region.ready .any ops L = []) : ∀ i, i < ops.size → L.getD i false = true := by
  intro i
  induction i using Nat.strongRecOn with
  | ind i ih =>
    intro hi
    rcases hL : L.getD i false with _ | _
    · exfalso
      have hi' : i < L.size := by omega
      have hoi : ops[i]? = some ops[i] := Array.getElem?_eq_getElem hi
      have hm : i ∈ Region.ready .any ops L := by
        refine mem_ready.2 ⟨?_, ops[i], hoi, fun e he hb => ?_⟩
        · simp [hi'] at hL ⊢; exact hL
        · have := downOps_at hp hoi e he hb
          exact ih _ this (by omega)
      rw [hr] at hm
      cases hm
    · rfl
theorem wpAny_inv2 {P : Program} {ops : Array Oper} {Q : Exit → Act → World → Prop} (hp : downOps ops = true) (I : (Nat → Prop) → Act → World → Prop)
    (hmono : ∀ D D' a w, (∀ j, D j ↔ D' j) → I D a w → I D' a w)
    (hstep : ∀ (i : Nat) (o : Oper), ops[i]? = some o → ∀ D a w, I D a w → ¬ D i → Closed ops D → (∀ e ∈ o.after, Region.binds .any e = true → D e.on) → Region.wanted o (yielded ops a.tmps) = true ∧ o.wp P a w (I fun j => j = i ∨ D j) Q)
    (hend : ∀ D a w, I D a w → (∀ i, i < ops.size → D i) → Q .normal a w) :
    ∀ (fuel : Nat) (L : Array Bool) (a : Act) (w : World), L.size = ops.size → undone L ≤ fuel → Closed ops (fun j => L.getD j false = true) → I (fun j => L.getD j false = true) a w → wpAny P .any ops Q fuel L a w
  | 0, L, a, w, hs, hf, hcl, hI => by
    have hall := undone_zero (show undone L = 0 by omega)
    refine ⟨?_, hend _ a w hI fun i hi => ?_⟩
    · cases hr : Region.ready .any ops L with
      | nil => rfl
      | cons x xs =>
        have hx : x ∈ Region.ready .any ops L := by rw [hr]; simp
        obtain ⟨h1, o, ho, _⟩ := mem_ready.1 hx
        have hx' : x < L.size := by
          rcases Nat.lt_or_ge x L.size with h' | h'
          · exact h'
          · rw [hs] at h'; rw [Array.getElem?_eq_none h'] at ho; cases ho
        rw [hall x hx'] at h1; cases h1
    · have := hall i (by omega)
      simp [show i < L.size by omega] at this ⊢; exact this
  | fuel + 1, L, a, w, hs, hf, hcl, hI => by
    refine ⟨fun hr => hend _ a w hI fun i hi => ready_nil2 hp hs hr i hi, fun i hi => ?_⟩
    obtain ⟨h1, o, ho, hd⟩ := mem_ready.1 hi
    have hi' : i < L.size := by
      rcases Nat.lt_or_ge i L.size with h' | h'
      · exact h'
      · rw [hs] at h'; rw [Array.getElem?_eq_none h'] at ho; cases ho
    have hn : ¬ L.getD i false = true := by
      simp [hi'] at h1 ⊢; exact h1
    have hst := hstep i o ho _ a w hI hn hcl hd
    unfold wpOp
    simp only [ho]
    rw [if_pos hst.1]
    have hset : ∀ j, (j = i ∨ L.getD j false = true) ↔ (L.setIfInBounds i true).getD j false = true := fun j => by
      by_cases hj : j = i
      · subst hj; simp [hi']
      · simp [hj, Ne.symm hj]
    refine .inl (Oper.wp_mono (fun a' w' hI' => ?_) hst.2)
    refine wpAny_inv2 hp I hmono hstep hend fuel _ a' w' (by simp [hs]) (by have := undone_set h1; omega) ?_ (hmono _ _ a' w' hset hI')
    intro j oj hoj hDj e he hb
    rcases (hset j).2 hDj with rfl | hDj
    · rw [ho] at hoj
      cases hoj
      exact (hset _).1 (.inr (hd e he hb))
    · exact (hset _).1 (.inr (hcl j oj hoj hDj e he hb))
/-- THE RULE, with guards that are decided: what holds behind any operations that are done (D) holds behind one more; behind all of them it gives what is asked. -/
theorem wp_region_inv2 {P : Program} {ops : Array Oper} {Q : Exit → Act → World → Prop} {id : Nat} {a : Act} {w : World} (hm : P.follows .mixedOrders = true) (hp : downOps ops = true) (I : (Nat → Prop) → Act → World → Prop)
    (hmono : ∀ D D' a w, (∀ j, D j ↔ D' j) → I D a w → I D' a w)
    (hstart : I (fun _ => False) a { w with drawn := w.drawn + 1 })
    (hstep : ∀ (i : Nat) (o : Oper), ops[i]? = some o → ∀ D a w, I D a w → ¬ D i → Closed ops D → (∀ e ∈ o.after, Region.binds .any e = true → D e.on) → Region.wanted o (yielded ops a.tmps) = true ∧ o.wp P a w (I fun j => j = i ∨ D j) Q)
    (hend : ∀ D a w, I D a w → (∀ i, i < ops.size → D i) → Q .normal a w) : (Code.region id ops true).wp P Q a w := by
  refine wp_region_any hm (wpAny_inv2 hp I hmono hstep hend _ _ a _ (by simp) ?_ ?_ (hmono _ _ _ _ (fun j => ?_) hstart))
  · unfold undone
    exact Nat.le_trans (List.length_filter_le _ _) (by simp)
  · intro j oj hoj hDj
    exfalso
    rcases Nat.lt_or_ge j ops.size with h' | h'
    · simp [h'] at hDj
    · simp [h'] at hDj
  · constructor
    · intro h; cases h
    · intro h
      exfalso
      rcases Nat.lt_or_ge j ops.size with h' | h'
      · simp [h'] at h
      · simp [h'] at h
/-- The same, what holds said of the frame at the beginning too. -/
theorem wp_region_inv2' {P : Program} {ops : Array Oper} {Q : Exit → Act → World → Prop} {id : Nat} {a : Act} {w : World} (I : Act → (Nat → Prop) → Act → World → Prop) (hm : P.follows .mixedOrders = true) (hp : downOps ops = true)
    (hmono : ∀ D D' a' w', (∀ j, D j ↔ D' j) → I a D a' w' → I a D' a' w')
    (hstart : I a (fun _ => False) a { w with drawn := w.drawn + 1 })
    (hstep : ∀ (i : Nat) (o : Oper), ops[i]? = some o → ∀ D a' w', I a D a' w' → ¬ D i → Closed ops D → (∀ e ∈ o.after, Region.binds .any e = true → D e.on) → Region.wanted o (yielded ops a'.tmps) = true ∧ o.wp P a' w' (I a fun j => j = i ∨ D j) Q)
    (hend : ∀ D a' w', I a D a' w' → (∀ i, i < ops.size → D i) → Q .normal a' w') : (Code.region id ops true).wp P Q a w :=
  wp_region_inv2 hm hp (I a) hmono hstart hstep hend
/-- A frame with a run of slots, from s on, that hold these values. -/
def putAll (A : Act) (s : Nat) (l : List Value) : Act := { A with tmps := (A.tmps.toList.take s ++ l ++ A.tmps.toList.drop (s + l.length)).toArray }
theorem putAll_start (A : Act) (s k : Nat) (h : s + k ≤ A.tmps.size) : A = putAll A s ((A.tmps.toList.drop s).take k) ∧ ((A.tmps.toList.drop s).take k).length = k := by
  have hl : ((A.tmps.toList.drop s).take k).length = k := by simp; omega
  refine ⟨?_, hl⟩
  unfold putAll
  rw [hl, List.append_assoc, ← List.drop_drop, List.take_append_drop, List.take_append_drop]
theorem putAll_put (A : Act) (s i : Nat) (l : List Value) (v : Value) (h : s + l.length ≤ A.tmps.size) (hi : i < l.length) : (putAll A s l).put (some (s + i)) v = putAll A s (l.set i v) := by
  have hs : (A.tmps.toList.take s).length = s := by simp; omega
  unfold putAll Act.put
  simp only [List.setIfInBounds_toArray, List.length_set]
  congr 2
  rw [List.append_assoc, List.set_append_right _ _ (by rw [hs]; omega), hs, show s + i - s = i by omega, List.set_append_left _ _ hi, List.append_assoc]
theorem putAll_in (A : Act) (s i : Nat) (l : List Value) (h : s + l.length ≤ A.tmps.size) (hi : i < l.length) : (putAll A s l).tmps[s + i]? = l[i]? := by
  have hs : (A.tmps.toList.take s).length = s := by simp; omega
  unfold putAll
  rw [List.getElem?_toArray, List.append_assoc, List.getElem?_append_right (by rw [hs]; omega), hs, show s + i - s = i by omega, List.getElem?_append_left hi]
theorem putAll_low (A : Act) (s t : Nat) (l : List Value) (h : s + l.length ≤ A.tmps.size) (ht : t < s) : (putAll A s l).tmps[t]? = A.tmps[t]? := by
  unfold putAll
  rw [List.getElem?_toArray, List.append_assoc, List.getElem?_append_left (by simp; omega), List.getElem?_take, if_pos ht]
  simp
theorem abstract_act {P : Program} {c : Code} {Q : Exit → Act → World → Prop} {a : Act} {w : World} (h : ∀ A, A = a → c.wp P Q A w) : c.wp P Q a w := h a rfl
/-- One value more. -/
theorem set_known {D : Nat → Prop} {l : List Value} {val : Nat → Value} {n i : Nat} (hl : l.length = n) (hi : i < n) (h : ∀ j, j < n → D j → l[j]? = some (val j)) : ∀ j, j < n → (j = i ∨ D j) → (l.set i (val i))[j]? = some (val j) := by
  intro j hj hD
  rw [List.getElem?_set]
  by_cases e : i = j
  · subst e; rw [if_pos rfl, if_pos (by omega)]
  · rw [if_neg e]
    exact h j hj (hD.resolve_left (fun e' => e e'.symm))
/-- The same, where what is held said of other values changes. -/
theorem set_known' {D : Nat → Prop} {l : List Value} {val val' : Nat → Value} {n i : Nat} (hl : l.length = n) (hi : i < n) (h : ∀ j, j < n → D j → l[j]? = some (val j)) (hv : ∀ j, D j → j ≠ i → val j = val' j) : ∀ j, j < n → (j = i ∨ D j) → (l.set i (val' i))[j]? = some (val' j) := by
  intro j hj hD
  rw [List.getElem?_set]
  by_cases e : i = j
  · subst e; rw [if_pos rfl, if_pos (by omega)]
  · rw [if_neg e]
    have hd := hD.resolve_left (fun e' => e e'.symm)
    rw [h j hj hd, hv j hd (fun e' => e e'.symm)]
set_option maxRecDepth 100000

theorem known_at {D : Nat → Prop} {A a : Act} {l : List Value} {val : Nat → Value} {s n m : Nat} (ha : a = putAll A s l) (hsz : A.tmps.size = m) (hlen : l.length = n) (hl : ∀ j, j < n → D j → l[j]? = some (val j)) (d : Nat) (hd : d < n) (hD : D d) (hm : s + n ≤ m := by decide) : a.tmps[s + d]? = some (val d) := by
  rw [ha, putAll_in A s d l (by omega) (by omega)]
  exact hl d hd hD
theorem wanted_of {ops : Array Oper} {o oj : Oper} {j k : Nat} {b : Bool} {tmps : Array Value} (hg : o.guard = some (j, b)) (ho : ops[j]? = some oj) (hd : oj.dst = some k) (hv : tmps[k]? = some (.bool b)) : Region.wanted o (yielded ops tmps) = true := by
  unfold Region.wanted yielded
  rw [hg]
  simp [ho, hd, hv]
theorem cons_of {l : List Value} {n : Nat} (h : l.length = n + 1) : ∃ a t, l = a :: t ∧ t.length = n := by
  cases l with
  | nil => simp at h
  | cons a t => exact ⟨a, t, rfl, by simpa using h⟩
/-- One slot below the row is turned besides. -/
theorem putT_start (A : Act) (s k t : Nat) (u : Value) (h : s + k ≤ A.tmps.size) (ht : t < s) (hu : A.tmps[t]? = some u) : A = (putAll A s ((A.tmps.toList.drop s).take k)).put (some t) u := by
  have e := (putAll_start A s k h).1
  rw [← e]
  show A = { A with tmps := A.tmps.setIfInBounds t u }
  have hlt : t < A.tmps.size := by omega
  have : A.tmps.setIfInBounds t u = A.tmps := by
    apply Array.ext
    · simp
    · intro i h1 h2
      rw [Array.getElem_setIfInBounds]
      split
      · rename_i h3
        subst h3
        rw [Array.getElem?_eq_getElem hlt] at hu
        exact (Option.some.inj hu).symm
      · rfl
  rw [this]
theorem put_swap (A : Act) (t i : Nat) (u v : Value) (h : t ≠ i) : (A.put (some t) u).put (some i) v = (A.put (some i) v).put (some t) u := by
  show ({ A with tmps := (A.tmps.setIfInBounds t u).setIfInBounds i v } : Act) = { A with tmps := (A.tmps.setIfInBounds i v).setIfInBounds t u }
  rw [Array.setIfInBounds_comm _ _ h]
theorem putT_put (A : Act) (s i t : Nat) (l : List Value) (u v : Value) (h : s + l.length ≤ A.tmps.size) (hi : i < l.length) (ht : t < s) : ((putAll A s l).put (some t) u).put (some (s + i)) v = (putAll A s (l.set i v)).put (some t) u := by
  rw [put_swap _ _ _ _ _ (by omega), putAll_put A s i l v h hi]
theorem putT_again (A : Act) (t : Nat) (u v : Value) : (A.put (some t) u).put (some t) v = A.put (some t) v := by
  show ({ A with tmps := (A.tmps.setIfInBounds t u).setIfInBounds t v } : Act) = { A with tmps := A.tmps.setIfInBounds t v }
  rw [Array.setIfInBounds_setIfInBounds]
theorem putT_other (a : Act) (t j : Nat) (u : Value) (h : t ≠ j) : (a.put (some t) u).tmps[j]? = a.tmps[j]? := by
  show (a.tmps.setIfInBounds t u)[j]? = _
  rw [Array.getElem?_setIfInBounds, if_neg h]
theorem known_atT {D : Nat → Prop} {A a : Act} {l : List Value} {val : Nat → Value} {s n m t : Nat} {u : Value} (ha : a = (putAll A s l).put (some t) u) (hsz : A.tmps.size = m) (hlen : l.length = n) (hl : ∀ j, j < n → D j → l[j]? = some (val j)) (d : Nat) (hd : d < n) (hD : D d) (ht : t < s := by decide) (hm : s + n ≤ m := by decide) : a.tmps[s + d]? = some (val d) := by
  rw [ha, putT_other _ _ _ _ (by omega)]
  exact known_at rfl hsz hlen hl d hd hD hm
end Go.Proofs.Ytoghhjljmhdioaa
