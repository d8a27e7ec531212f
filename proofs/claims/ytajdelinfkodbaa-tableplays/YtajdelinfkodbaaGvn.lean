/- Regions that draw their order. -/
import Derived.Test.YtajdelinfkodbaaRowD
namespace Go.Proofs.Ytajdelinfkodbaa
open Go.RowKit 
set_option maxRecDepth 100000
/-- Each operation waits for earlier ones alone. -/
def downOps (ops : Array Oper) : Bool := (List.range ops.size).all fun i => match ops[i]? with
  | none => false
  | some o => o.after.all fun e => !Region.binds .any e || decide (e.on < i)
theorem downOps_at {ops : Array Oper} (h : downOps ops = true) {i : Nat} {o : Oper} (ho : ops[i]? = some o) : ∀ e ∈ o.after, Region.binds .any e = true → e.on < i := by
  unfold downOps at h
  have hi : i < ops.size := by
    rcases Nat.lt_or_ge i ops.size with h' | h'
    · exact h'
    · rw [Array.getElem?_eq_none h'] at ho; cases ho
  have h1 := (List.all_eq_true.1 h) i (List.mem_range.2 hi)
  simp only [ho, Array.all_eq_true_iff_forall_mem, Bool.or_eq_true, Bool.not_eq_true', decide_eq_true_eq] at h1
  intro e he hb
  rcases h1 e he with h2 | h2
  · rw [h2] at hb; cases hb
  · exact h2
theorem ready_nil2 {ops : Array Oper} (hp : downOps ops = true) {L : Array Bool} (hs : L.size = ops.size) (hr : Region.ready .any ops L = []) : ∀ i, i < ops.size → L.getD i false = true := by
  intro i
  induction i using Nat.strongRecOn with
  | ind i ih =>
    intro hi
    rcases hL : L.getD i false with _ | _
    · exfalso
      have hi' : i < L.size := by omega
      have hoi : ops[i]? = some ops[i] := Array.getElem?_eq_getElem hi
      have hm : i ∈ Region.ready .any ops L := by
        refine mem_ready.2 ⟨?_, ops[i], hoi, fun e he hb => ?_⟩
        · simp [hi'] at hL ⊢; exact hL
        · have := downOps_at hp hoi e he hb
          exact ih _ this (by omega)
      rw [hr] at hm
      cases hm
    · rfl
theorem wpAny_inv2 {P : Program} {ops : Array Oper} {Q : Exit → Act → World → Prop} (hp : downOps ops = true) (I : (Nat → Prop) → Act → World → Prop)
    (hmono : ∀ D D' a w, (∀ j, D j ↔ D' j) → I D a w → I D' a w)
    (hstep : ∀ (i : Nat) (o : Oper), ops[i]? = some o → ∀ D a w, I D a w → ¬ D i → Closed ops D → (∀ e ∈ o.after, Region.binds .any e = true → D e.on) → Region.wanted o (yielded ops a.tmps) = true ∧ o.wp P a w (I fun j => j = i ∨ D j) Q)
    (hend : ∀ D a w, I D a w → (∀ i, i < ops.size → D i) → Q .normal a w) :
    ∀ (fuel : Nat) (L : Array Bool) (a : Act) (w : World), L.size = ops.size → undone L ≤ fuel → Closed ops (fun j => L.getD j false = true) → I (fun j => L.getD j false = true) a w → wpAny P .any ops Q fuel L a w
  | 0, L, a, w, hs, hf, hcl, hI => by
    have hall := undone_zero (show undone L = 0 by omega)
    refine ⟨?_, hend _ a w hI fun i hi => ?_⟩
    · cases hr : Region.ready .any ops L with
      | nil => rfl
      | cons x xs =>
        have hx : x ∈ Region.ready .any ops L := by rw [hr]; simp
        obtain ⟨h1, o, ho, _⟩ := mem_ready.1 hx
        have hx' : x < L.size := by
          rcases Nat.lt_or_ge x L.size with h' | h'
          · exact h'
          · rw [hs] at h'; rw [Array.getElem?_eq_none h'] at ho; cases ho
        rw [hall x hx'] at h1; cases h1
    · have := hall i (by omega)
      simp [show i < L.size by omega] at this ⊢; exact this
  | fuel + 1, L, a, w, hs, hf, hcl, hI => by
    refine ⟨fun hr => hend _ a w hI fun i hi => ready_nil2 hp hs hr i hi, fun i hi => ?_⟩
    obtain ⟨h1, o, ho, hd⟩ := mem_ready.1 hi
    have hi' : i < L.size := by
      rcases Nat.lt_or_ge i L.size with h' | h'
      · exact h'
      · rw [hs] at h'; rw [Array.getElem?_eq_none h'] at ho; cases ho
    have hn : ¬ L.getD i false = true := by
      simp [hi'] at h1 ⊢; exact h1
    have hst := hstep i o ho _ a w hI hn hcl hd
    unfold wpOp
    simp only [ho]
    rw [if_pos hst.1]
    have hset : ∀ j, (j = i ∨ L.getD j false = true) ↔ (L.setIfInBounds i true).getD j false = true := fun j => by
      by_cases hj : j = i
      · subst hj; simp [hi']
      · simp [hj, Ne.symm hj]
    refine .inl (Oper.wp_mono (fun a' w' hI' => ?_) hst.2)
    refine wpAny_inv2 hp I hmono hstep hend fuel _ a' w' (by simp [hs]) (by have := undone_set h1; omega) ?_ (hmono _ _ a' w' hset hI')
    intro j oj hoj hDj e he hb
    rcases (hset j).2 hDj with rfl | hDj
    · rw [ho] at hoj
      cases hoj
      exact (hset _).1 (.inr (hd e he hb))
    · exact (hset _).1 (.inr (hcl j oj hoj hDj e he hb))
/-- THE RULE, with guards that are decided: what holds behind any operations that are done (D) holds behind one more; behind all of them it gives what is asked. -/
theorem wp_region_inv2 {P : Program} {ops : Array Oper} {Q : Exit → Act → World → Prop} {id : Nat} {a : Act} {w : World} (hm : P.follows .mixedOrders = true) (hp : downOps ops = true) (I : (Nat → Prop) → Act → World → Prop)
    (hmono : ∀ D D' a w, (∀ j, D j ↔ D' j) → I D a w → I D' a w)
    (hstart : I (fun _ => False) a { w with drawn := w.drawn + 1 })
    (hstep : ∀ (i : Nat) (o : Oper), ops[i]? = some o → ∀ D a w, I D a w → ¬ D i → Closed ops D → (∀ e ∈ o.after, Region.binds .any e = true → D e.on) → Region.wanted o (yielded ops a.tmps) = true ∧ o.wp P a w (I fun j => j = i ∨ D j) Q)
    (hend : ∀ D a w, I D a w → (∀ i, i < ops.size → D i) → Q .normal a w) : (Code.region id ops true).wp P Q a w := by
  refine wp_region_any hm (wpAny_inv2 hp I hmono hstep hend _ _ a _ (by simp) ?_ ?_ (hmono _ _ _ _ (fun j => ?_) hstart))
  · unfold undone
    exact Nat.le_trans (List.length_filter_le _ _) (by simp)
  · intro j oj hoj hDj
    exfalso
    rcases Nat.lt_or_ge j ops.size with h' | h'
    · simp [h'] at hDj
    · simp [h'] at hDj
  · constructor
    · intro h; cases h
    · intro h
      exfalso
      rcases Nat.lt_or_ge j ops.size with h' | h'
      · simp [h'] at h
      · simp [h'] at h
/-- The same, what holds said of the frame at the beginning too. -/
theorem wp_region_inv2' {P : Program} {ops : Array Oper} {Q : Exit → Act → World → Prop} {id : Nat} {a : Act} {w : World} (I : Act → (Nat → Prop) → Act → World → Prop) (hm : P.follows .mixedOrders = true) (hp : downOps ops = true)
    (hmono : ∀ D D' a' w', (∀ j, D j ↔ D' j) → I a D a' w' → I a D' a' w')
    (hstart : I a (fun _ => False) a { w with drawn := w.drawn + 1 })
    (hstep : ∀ (i : Nat) (o : Oper), ops[i]? = some o → ∀ D a' w', I a D a' w' → ¬ D i → Closed ops D → (∀ e ∈ o.after, Region.binds .any e = true → D e.on) → Region.wanted o (yielded ops a'.tmps) = true ∧ o.wp P a' w' (I a fun j => j = i ∨ D j) Q)
    (hend : ∀ D a' w', I a D a' w' → (∀ i, i < ops.size → D i) → Q .normal a' w') : (Code.region id ops true).wp P Q a w :=
  wp_region_inv2 hm hp (I a) hmono hstart hstep hend
/-- A frame with a run of slots, from s on, that hold these values. -/
def putAll (A : Act) (s : Nat) (l : List Value) : Act := { A with tmps := (A.tmps.toList.take s ++ l ++ A.tmps.toList.drop (s + l.length)).toArray }
theorem putAll_start (A : Act) (s k : Nat) (h : s + k ≤ A.tmps.size) : A = putAll A s ((A.tmps.toList.drop s).take k) ∧ ((A.tmps.toList.drop s).take k).length = k := by
  have hl : ((A.tmps.toList.drop s).take k).length = k := by simp; omega
  refine ⟨?_, hl⟩
  unfold putAll
  rw [hl, List.append_assoc, ← List.drop_drop, List.take_append_drop, List.take_append_drop]
theorem putAll_put (A : Act) (s i : Nat) (l : List Value) (v : Value) (h : s + l.length ≤ A.tmps.size) (hi : i < l.length) : (putAll A s l).put (some (s + i)) v = putAll A s (l.set i v) := by
  have hs : (A.tmps.toList.take s).length = s := by simp; omega
  unfold putAll Act.put
  simp only [List.setIfInBounds_toArray, List.length_set]
  congr 2
  rw [List.append_assoc, List.set_append_right _ _ (by rw [hs]; omega), hs, show s + i - s = i by omega, List.set_append_left _ _ hi, List.append_assoc]
theorem putAll_in (A : Act) (s i : Nat) (l : List Value) (h : s + l.length ≤ A.tmps.size) (hi : i < l.length) : (putAll A s l).tmps[s + i]? = l[i]? := by
  have hs : (A.tmps.toList.take s).length = s := by simp; omega
  unfold putAll
  rw [List.getElem?_toArray, List.append_assoc, List.getElem?_append_right (by rw [hs]; omega), hs, show s + i - s = i by omega, List.getElem?_append_left hi]
theorem putAll_low (A : Act) (s t : Nat) (l : List Value) (h : s + l.length ≤ A.tmps.size) (ht : t < s) : (putAll A s l).tmps[t]? = A.tmps[t]? := by
  unfold putAll
  rw [List.getElem?_toArray, List.append_assoc, List.getElem?_append_left (by simp; omega), List.getElem?_take, if_pos ht]
  simp
theorem abstract_act {P : Program} {c : Code} {Q : Exit → Act → World → Prop} {a : Act} {w : World} (h : ∀ A, A = a → c.wp P Q A w) : c.wp P Q a w := h a rfl
/-- One value more. -/
theorem set_known {D : Nat → Prop} {l : List Value} {val : Nat → Value} {n i : Nat} (hl : l.length = n) (hi : i < n) (h : ∀ j, j < n → D j → l[j]? = some (val j)) : ∀ j, j < n → (j = i ∨ D j) → (l.set i (val i))[j]? = some (val j) := by
  intro j hj hD
  rw [List.getElem?_set]
  by_cases e : i = j
  · subst e; rw [if_pos rfl, if_pos (by omega)]
  · rw [if_neg e]
    exact h j hj (hD.resolve_left (fun e' => e e'.symm))
/-- The same, where what is held said of other values changes. -/
theorem set_known' {D : Nat → Prop} {l : List Value} {val val' : Nat → Value} {n i : Nat} (hl : l.length = n) (hi : i < n) (h : ∀ j, j < n → D j → l[j]? = some (val j)) (hv : ∀ j, D j → j ≠ i → val j = val' j) : ∀ j, j < n → (j = i ∨ D j) → (l.set i (val' i))[j]? = some (val' j) := by
  intro j hj hD
  rw [List.getElem?_set]
  by_cases e : i = j
  · subst e; rw [if_pos rfl, if_pos (by omega)]
  · rw [if_neg e]
    have hd := hD.resolve_left (fun e' => e e'.symm)
    rw [h j hj hd, hv j hd (fun e' => e e'.symm)]
set_option maxRecDepth 100000

theorem known_at {D : Nat → Prop} {A a : Act} {l : List Value} {val : Nat → Value} {s n m : Nat} (ha : a = putAll A s l) (hsz : A.tmps.size = m) (hlen : l.length = n) (hl : ∀ j, j < n → D j → l[j]? = some (val j)) (d : Nat) (hd : d < n) (hD : D d) (hm : s + n ≤ m := by decide) : a.tmps[s + d]? = some (val d) := by
  rw [ha, putAll_in A s d l (by omega) (by omega)]
  exact hl d hd hD
theorem wanted_of {ops : Array Oper} {o oj : Oper} {j k : Nat} {b : Bool} {tmps : Array Value} (hg : o.guard = some (j, b)) (ho : ops[j]? = some oj) (hd : oj.dst = some k) (hv : tmps[k]? = some (.bool b)) : Region.wanted o (yielded ops tmps) = true := by
  unfold Region.wanted yielded
  rw [hg]
  simp [ho, hd, hv]
theorem cons_of {l : List Value} {n : Nat} (h : l.length = n + 1) : ∃ a t, l = a :: t ∧ t.length = n := by
  cases l with
  | nil => simp at h
  | cons a t => exact ⟨a, t, rfl, by simpa using h⟩
end Go.Proofs.Ytajdelinfkodbaa
namespace Go.Proofs.Ytajdelinfkodbaa
open Go.RowKit
set_option maxRecDepth 100000
theorem Try.info51 : (Try.prog.info? 51).map (fun i => (i.zero, i.size, i.bytes)) = some (some (.agg #[.int .i64 0, .bool false, .int .i64 0, .slice none 0 0, .slice none 0 0]), 5, 72) := by kernel_rfl
theorem Try.info73 : (Try.prog.info? 73).map (fun i => (i.zero, i.size, i.bytes)) = some (some (.agg #[.int .i64 0, .bool false, .int .i64 0, .slice none 0 0, .slice none 0 0]), 5, 72) := by kernel_rfl
theorem Try.info104 : (Try.prog.info? 104).map (fun i => (i.zero, i.size, i.bytes)) = some (some (.agg #[.int .i64 0, .bool false, .int .i64 0, .slice none 0 0, .slice none 0 0]), 5, 72) := by kernel_rfl
/-- What the operations yield. -/
def givV (b1 b3 b off k n cap nx cx : Nat) (ax : Option Addr) (oo cc : Int) (g : Bool) (sa ba : Option Addr) (sn sc bn bc : Nat) (ga qa ha1 : Option Addr) (gn gc qn qc nb hn1 hc1 : Nat) (j : Nat) : Value :=
  ([.pointer (some ⟨b3, 1, none⟩),
    .slice ax nx cx,
    .pointer (some ⟨b1, 1, none⟩),
    .slice (some ⟨b, off, none⟩) n cap,
    .int .i64 (k : Int),
    .pointer (some ⟨b, off + k * 5, none⟩),
    .pointer (some ⟨b, off + k * 5, none⟩),
    .int .i64 oo,
    .pointer (some ⟨b1, 1, none⟩),
    .slice (some ⟨b, off, none⟩) n cap,
    .int .i64 (k : Int),
    .pointer (some ⟨b, off + k * 5, none⟩),
    .pointer (some ⟨b, off + k * 5 + 1, none⟩),
    .bool g,
    .pointer (some ⟨b1, 1, none⟩),
    .slice (some ⟨b, off, none⟩) n cap,
    .int .i64 (k : Int),
    .pointer (some ⟨b, off + k * 5, none⟩),
    .pointer (some ⟨b, off + k * 5 + 2, none⟩),
    .agg #[.int .i64 cc, .slice sa sn sc, .slice ba bn bc],
    .agg #[.int .i64 cc, .slice ga gn gc, .slice qa qn qc],
    .agg #[.int .i64 oo, .bool g, .int .i64 cc, .slice ga gn gc, .slice qa qn qc],
    .slice (some ⟨nb, 0, none⟩) 1 1,
    .slice ha1 hn1 hc1,
    .pointer (some ⟨b3, 1, none⟩)] : List Value).getD j undef
theorem givV_list {l : List Value} (hh : l.length = 25) : ∃ v0 v1 v2 v3 v4 v5 v6 v7 v8 v9 v10 v11 v12 v13 v14 v15 v16 v17 v18 v19 v20 v21 v22 v23 v24, l = [v0, v1, v2, v3, v4, v5, v6, v7, v8, v9, v10, v11, v12, v13, v14, v15, v16, v17, v18, v19, v20, v21, v22, v23, v24] := by
  obtain ⟨v0, t0, rfl, h0⟩ := cons_of hh
  obtain ⟨v1, t1, rfl, h1⟩ := cons_of h0
  obtain ⟨v2, t2, rfl, h2⟩ := cons_of h1
  obtain ⟨v3, t3, rfl, h3⟩ := cons_of h2
  obtain ⟨v4, t4, rfl, h4⟩ := cons_of h3
  obtain ⟨v5, t5, rfl, h5⟩ := cons_of h4
  obtain ⟨v6, t6, rfl, h6⟩ := cons_of h5
  obtain ⟨v7, t7, rfl, h7⟩ := cons_of h6
  obtain ⟨v8, t8, rfl, h8⟩ := cons_of h7
  obtain ⟨v9, t9, rfl, h9⟩ := cons_of h8
  obtain ⟨v10, t10, rfl, h10⟩ := cons_of h9
  obtain ⟨v11, t11, rfl, h11⟩ := cons_of h10
  obtain ⟨v12, t12, rfl, h12⟩ := cons_of h11
  obtain ⟨v13, t13, rfl, h13⟩ := cons_of h12
  obtain ⟨v14, t14, rfl, h14⟩ := cons_of h13
  obtain ⟨v15, t15, rfl, h15⟩ := cons_of h14
  obtain ⟨v16, t16, rfl, h16⟩ := cons_of h15
  obtain ⟨v17, t17, rfl, h17⟩ := cons_of h16
  obtain ⟨v18, t18, rfl, h18⟩ := cons_of h17
  obtain ⟨v19, t19, rfl, h19⟩ := cons_of h18
  obtain ⟨v20, t20, rfl, h20⟩ := cons_of h19
  obtain ⟨v21, t21, rfl, h21⟩ := cons_of h20
  obtain ⟨v22, t22, rfl, h22⟩ := cons_of h21
  obtain ⟨v23, t23, rfl, h23⟩ := cons_of h22
  obtain ⟨v24, t24, rfl, h24⟩ := cons_of h23
  obtain rfl := List.eq_nil_of_length_eq_zero h24
  exact ⟨_, _, _, _, _, _, _, _, _, _, _, _, _, _, _, _, _, _, _, _, _, _, _, _, _, rfl⟩
theorem rec_set0 {w : World} {b t : Nat} {c : Int} {v : Value} (h : w.heap[b]? = some (recB c v t)) (c' : Int) : (w.setCell ⟨b, 0, none⟩ (.int .i64 c')).heap[b]? = some (recB c' v t) := by
  unfold recB at h ⊢
  rw [heap_setCell_same w b 0 _ _ _ h]
  simp
theorem rec_set01 {w : World} {b t : Nat} {c : Int} {v : Value} (h : w.heap[b]? = some (recB c v t)) (c' : Int) (v' : Value) : ((w.setCell ⟨b, 0, none⟩ (.int .i64 c')).setCell ⟨b, 1, none⟩ v').heap[b]? = some (recB c' v' t) := rec_set1 (rec_set0 h c') v'
theorem OwnC.mono {w : World} {b b' e : Nat} {v : Value} {xs : List Ch} (h : OwnC w b' e v xs) (hb : b ≤ b') : OwnC w b e v xs := by
  obtain ⟨ss, k1, k2⟩ := h
  exact ⟨ss, own_mono k1 hb, k2⟩
theorem load38 {w : World} {b : Nat} {c : Int} {v : Value} (h : w.heap[b]? = some (recB c v 38)) : (loadVar 38 ⟨b, 0, none⟩).run Try.prog w = .ok (.agg #[.int .i64 c, v]) w := by
  obtain ⟨h0, h1⟩ := rec_cells h
  have hr := run_loadCells_list (P := Try.prog) w ⟨b, 0, none⟩ [.int .i64 c, v] (fun i u hi => by
    rw [addr_add]
    match i, hi with
    | 0, hi => simp at hi; subst hi; exact h0
    | 1, hi => simp at hi; subst hi; exact h1
    | _ + 2, hi => simp at hi)
  have hagg : (isAgg 38).run Try.prog w = .ok true w := by simp [isAgg, run_underlying Try.underlying38]
  have hr' : (loadCells ⟨b, 0, none⟩ 2).run Try.prog w = .ok #[.int .i64 c, v] w := hr
  simp [loadVar, hagg, hr']
theorem Try.results10 : Try.f10.results = #[.cell 2 38] := by kernel_rfl
end Go.Proofs.Ytajdelinfkodbaa
