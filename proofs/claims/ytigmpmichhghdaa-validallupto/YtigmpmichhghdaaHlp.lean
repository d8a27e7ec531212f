/- Helpers that no program is in. -/
import Derived.Test.YtigmpmichhghdaaRows
import Derived.WalkKit
import Derived.WalkSpells
import Derived.WalkLawsBesides
import Derived.Below
import Derived.Laws.AppendOwnNone
import Derived.Lib.AppendZeros
import Derived.Lib.LazyBuf
import Derived.Deep.CutBlock
import Derived.Orders
import Derived.Calls
import Derived.BigQuiet
import Derived.Deep.QuietTactic
import Derived.ChangeKeysEq
import Derived.Deep.LoopGhost
import Derived.WalkMore
import Derived.Deep.DeepAppendRoom
import Derived.Maps.Own
import Derived.Maps.Range
namespace Go.Proofs.Ytigmpmichhghdaa
open Go.RowKit 
set_option maxRecDepth 100000
set_option maxRecDepth 100000
theorem box_below {w : World} {o : Obj} : Below w.heap.size w (w.alloc o) := (Below.refl _ _).alloc (Nat.le_refl _) _
set_option maxRecDepth 100000

/-- What is known of a slice of values that is only read: kinds and numbers. -/
structure IsV (w : World) (a : Option Addr) (len cap : Nat) (vs : List (Int × Int)) : Prop where
  size : vs.length = len
  room : len ≤ cap
  most : cap ≤ maxLen
  nil0 : a = none → cap = 0
  wf : ∀ v ∈ vs, (-9223372036854775808 ≤ v.1 ∧ v.1 ≤ 9223372036854775807) ∧ (-9223372036854775808 ≤ v.2 ∧ v.2 ≤ 9223372036854775807)
  cells : 0 < len → ∃ b off, a = some ⟨b, off, none⟩ ∧ ∀ i, i < len → w.cell? ⟨b, off + i * 2, none⟩ = some (.int .i64 (vs.getD i (0, 0)).1) ∧ w.cell? ⟨b, off + i * 2 + 1, none⟩ = some (.int .i64 (vs.getD i (0, 0)).2)
theorem lt_of_cell {w : World} {b o : Nat} {v : Value} (h : w.cell? ⟨b, o, none⟩ = some v) : b < w.heap.size := block_lt_of_cell h
theorem IsV.below {w w' : World} {a : Option Addr} {len cap : Nat} {vs : List (Int × Int)} (h : IsV w a len cap vs) (hb : Below w.heap.size w w') : IsV w' a len cap vs :=
  ⟨h.size, h.room, h.most, h.nil0, h.wf, fun h0 => by
    obtain ⟨b, off, ha, hc⟩ := h.cells h0
    exact ⟨b, off, ha, fun i hi => ⟨(hb.cell (lt_of_cell (hc i hi).1)).trans (hc i hi).1, (hb.cell (lt_of_cell (hc i hi).2)).trans (hc i hi).2⟩⟩⟩
theorem take_at {α : Type} {l : List α} {x : α} {k : Nat} (h : l[k]? = some x) : l.take (k + 1) = l.take k ++ [x] := by
  obtain ⟨hl, e⟩ := List.getElem?_eq_some_iff.1 h
  rw [List.take_succ_eq_append_getElem hl, e]
theorem below_size {N : Nat} {w w1 w2 : World} (h : Below N w w1) (hN : N ≤ w1.heap.size) (k : Below w1.heap.size w1 w2) : Below N w w2 := h.trans (k.mono hN)
/-- What is known of a slice of bytes that is only read. -/
structure IsB (w : World) (a : Option Addr) (len cap : Nat) (xs : List Int) : Prop where
  size : xs.length = len
  room : len ≤ cap
  most : cap ≤ maxLen
  nil0 : a = none → cap = 0
  byte : ∀ x ∈ xs, 0 ≤ x ∧ x < 256
  cells : 0 < len → ∃ b off, a = some ⟨b, off, none⟩ ∧ ∀ i, i < len → w.cell? ⟨b, off + i, none⟩ = some (.int .u8 (xs.getD i 0))
/-- Old memory that is as it was. -/
theorem IsB.below {w w' : World} {a : Option Addr} {len cap : Nat} {xs : List Int} (h : IsB w a len cap xs) (hb : Below w.heap.size w w') : IsB w' a len cap xs :=
  ⟨h.size, h.room, h.most, h.nil0, h.byte, fun h0 => by
    obtain ⟨b, off, ha, hc⟩ := h.cells h0
    exact ⟨b, off, ha, fun i hi => (hb.cell (block_lt_of_cell (hc i hi))).trans (hc i hi)⟩⟩
theorem IsB.block {w : World} {len cap b off : Nat} {sp : Option Nat} {xs : List Int} (h : IsB w (some ⟨b, off, sp⟩) len cap xs) (h0 : 0 < len) : b < w.heap.size := by
  obtain ⟨b', off', ha, hc⟩ := h.cells h0
  have := block_lt_of_cell (hc 0 h0)
  simp at ha
  simp at this
  omega
/-- What the call owns is such a slice. -/
theorem isB_own {w : World} {base n cap : Nat} {g : Nat} {xs : List Int} (h : w.ownsRow base 5 1 (.slice (some ⟨g, 0, none⟩) n cap) n (xs.map (Value.int .u8))) (hb : ∀ x ∈ xs, 0 ≤ x ∧ x < 256) : IsB w (some ⟨g, 0, none⟩) n cap xs := by
  have hl : xs.length = n := by have := h.1; simpa using this
  have h2 := h.2
  refine ⟨hl, ?_, ?_, by simp, hb, fun _ => ⟨g, 0, rfl, fun i hi => ?_⟩⟩
  · rcases h2 with ⟨h', _⟩ | ⟨g', cap', cur, h', _, _, hnc, _⟩
    · simp at h'
    · simp at h'; omega
  · rcases h2 with ⟨h', _⟩ | ⟨g', cap', cur, h', _, _, _, hcm, _⟩
    · simp at h'
    · simp at h'; omega
  · have := h.cellAt i (by omega)
    rw [Nat.zero_add, this, List.getElem?_map, List.getElem?_eq_getElem (by omega)]
    simp [show i < xs.length by omega]
theorem growBy_le (need : Nat) : ∀ (f c : Nat), c ≤ need + (need + 768) / 4 → Builtin.growBy need f c ≤ need + (need + 768) / 4
  | 0, c, h => by unfold Builtin.growBy; exact h
  | f + 1, c, h => by
    unfold Builtin.growBy
    split
    · exact h
    · exact growBy_le need f (c + (c + 768) / 4) (by omega)
theorem nextcap_le (need old : Nat) (h : old < need) : Builtin.nextslicecap need old ≤ need + (need + 768) / 4 + 512 := by
  unfold Builtin.nextslicecap
  split
  · omega
  · split
    · omega
    · have := growBy_le need 4 old (by omega)
      omega
set_option maxRecDepth 100000
theorem own_mono {w : World} {b b' e n m : Nat} {v : Value} {xs : List Value} (h : w.ownsRow b' e m v n xs) (hb : b ≤ b') : w.ownsRow b e m v n xs := by
  obtain ⟨h1, h2⟩ := h
  refine ⟨h1, ?_⟩
  rcases h2 with h2 | ⟨g, cap, cur, hv, hg, h3⟩
  · exact .inl h2
  · exact .inr ⟨g, cap, cur, hv, Nat.le_trans hb hg, h3⟩
theorem IsB.drewN {w : World} {a : Option Addr} {len cap : Nat} {xs : List Int} (h : IsB w a len cap xs) (k : Nat) : IsB (w.drewN k) a len cap xs :=
  h.below (below_drewN (Below.refl _ _) k)
set_option maxRecDepth 100000

/-- A slice of bytes of the call's own, nil where there are none. -/
def OwnB (w : World) (base : Nat) (v : Value) (xs : List Int) : Prop :=
  w.ownsRow base 5 1 v xs.length (xs.map (Value.int .u8)) ∧ ∃ a cap, v = .slice a xs.length cap ∧ IsB w a xs.length cap xs
theorem ownB_of {w : World} {base n : Nat} {v : Value} {xs : List Int} (h : w.ownsRow base 5 1 v n (xs.map (Value.int .u8))) (hb : ∀ x ∈ xs, 0 ≤ x ∧ x < 256) : OwnB w base v xs := by
  have hl : xs.length = n := by have := h.1; simpa using this
  subst hl
  refine ⟨h, ?_⟩
  rcases h.2 with ⟨rfl, h0⟩ | ⟨g, cap, cur, rfl, _⟩
  · have : xs = [] := List.eq_nil_of_length_eq_zero h0
    subst this
    exact ⟨none, 0, rfl, ⟨rfl, Nat.le_refl _, by decide, fun _ => rfl, by simp, fun h => absurd h (by decide)⟩⟩
  · exact ⟨_, cap, rfl, isB_own h hb⟩
set_option maxRecDepth 100000

theorem own_below {w w' : World} {base e m n : Nat} {v : Value} {xs : List Value} (h : w.ownsRow base e m v n xs) (hb : Below w.heap.size w w') : w'.ownsRow base e m v n xs := by
  obtain ⟨h1, h2⟩ := h
  refine ⟨h1, ?_⟩
  rcases h2 with h2 | ⟨g, cap, cur, hv, hg, hh, h3⟩
  · exact .inl h2
  · exact .inr ⟨g, cap, cur, hv, hg, (hb.block g (lt_of_block hh)).trans hh, h3⟩
theorem IsV.drewN {w : World} {a : Option Addr} {len cap : Nat} {vs : List (Int × Int)} (h : IsV w a len cap vs) (k : Nat) : IsV (w.drewN k) a len cap vs := ⟨h.size, h.room, h.most, h.nil0, h.wf, h.cells⟩
/-- No operation is guarded, and each waits for earlier ones alone. -/
def plainOps (ops : Array Oper) : Bool := (List.range ops.size).all fun i => match ops[i]? with
  | none => false
  | some o => o.guard.isNone && o.after.all fun e => !Region.binds .any e || decide (e.on < i)
theorem plainOps_at {ops : Array Oper} (h : plainOps ops = true) {i : Nat} {o : Oper} (ho : ops[i]? = some o) : o.guard = none ∧ ∀ e ∈ o.after, Region.binds .any e = true → e.on < i := by
  unfold plainOps at h
  have hi : i < ops.size := by
    rcases Nat.lt_or_ge i ops.size with h' | h'
    · exact h'
    · rw [Array.getElem?_eq_none h'] at ho; cases ho
  have h1 := (List.all_eq_true.1 h) i (List.mem_range.2 hi)
  simp only [ho, Bool.and_eq_true, Array.all_eq_true_iff_forall_mem, Bool.or_eq_true, Bool.not_eq_true', decide_eq_true_eq] at h1
  refine ⟨by simpa using h1.1, fun e he hb => ?_⟩
  rcases h1.2 e he with h2 | h2
  · rw [h2] at hb; cases hb
  · exact h2
theorem ready_nil {ops : Array Oper} (hp : plainOps ops = true) {L : Array Bool} (hs : L.size = ops.size) (hr : Region.ready .any ops L = []) : ∀ i, i < ops.size → L.getD i false = true := by
  intro i
  induction i using Nat.strongRecOn with
  | ind i ih =>
    intro hi
    rcases hL : L.getD i false with _ | _
    · exfalso
      have hi' : i < L.size := by omega
      have hoi : ops[i]? = some ops[i] := Array.getElem?_eq_getElem hi
      have hm : i ∈ Region.ready .any ops L := by
        refine mem_ready.2 ⟨?_, ops[i], hoi, fun e he hb => ?_⟩
        · simp [hi'] at hL ⊢; exact hL
        · have := (plainOps_at hp hoi).2 e he hb
          exact ih _ this (by omega)
      rw [hr] at hm
      cases hm
    · rfl
/-- How many are not done. -/
def undone (L : Array Bool) : Nat := (L.toList.filter (· == false)).length
theorem undone_zero {L : Array Bool} (h : undone L = 0) : ∀ i, i < L.size → L.getD i true = true := by
  intro i hi
  unfold undone at h
  have h' : L.toList.filter (· == false) = [] := List.eq_nil_of_length_eq_zero h
  rw [List.filter_eq_nil_iff] at h'
  have := h' L[i] (by simp)
  simp [hi]
  simpa using this
theorem filter_set : ∀ (l : List Bool) (i : Nat), l[i]? = some false → ((l.set i true).filter (· == false)).length + 1 = (l.filter (· == false)).length
  | [], i, h => by simp at h
  | b :: l, 0, h => by
    simp at h
    subst h
    simp
  | b :: l, i + 1, h => by
    have ih := filter_set l i (by simpa using h)
    rw [List.set_cons_succ]
    cases b <;> simp only [List.filter_cons] <;> simp only [beq_self_eq_true, if_true, List.length_cons, Bool.true_eq_false, beq_iff_eq, if_false] <;> omega
theorem undone_set {L : Array Bool} {i : Nat} (h : L.getD i true = false) : undone (L.setIfInBounds i true) + 1 = undone L := by
  unfold undone
  rw [Array.toList_setIfInBounds]
  refine filter_set _ i ?_
  rcases Nat.lt_or_ge i L.size with h' | h'
  · simp [h'] at h ⊢; exact h
  · simp [Array.getElem?_eq_none h'] at h
/-- What is done is closed: whatever it waited for is done too. -/
def Closed (ops : Array Oper) (D : Nat → Prop) : Prop := ∀ (j : Nat) (o : Oper), ops[j]? = some o → D j → ∀ e ∈ o.after, Region.binds .any e = true → D e.on
theorem wpAny_inv {P : Program} {ops : Array Oper} {Q : Exit → Act → World → Prop} (hp : plainOps ops = true) (I : (Nat → Prop) → Act → World → Prop)
    (hmono : ∀ D D' a w, (∀ j, D j ↔ D' j) → I D a w → I D' a w)
    (hstep : ∀ (i : Nat) (o : Oper), ops[i]? = some o → ∀ D a w, I D a w → ¬ D i → Closed ops D → (∀ e ∈ o.after, Region.binds .any e = true → D e.on) → o.wp P a w (I fun j => j = i ∨ D j) Q)
    (hend : ∀ D a w, I D a w → (∀ i, i < ops.size → D i) → Q .normal a w) :
    ∀ (fuel : Nat) (L : Array Bool) (a : Act) (w : World), L.size = ops.size → undone L ≤ fuel → Closed ops (fun j => L.getD j false = true) → I (fun j => L.getD j false = true) a w → wpAny P .any ops Q fuel L a w
  | 0, L, a, w, hs, hf, hcl, hI => by
    have hall := undone_zero (show undone L = 0 by omega)
    refine ⟨?_, hend _ a w hI fun i hi => ?_⟩
    · cases hr : Region.ready .any ops L with
      | nil => rfl
      | cons x xs =>
        have hx : x ∈ Region.ready .any ops L := by rw [hr]; simp
        obtain ⟨h1, o, ho, _⟩ := mem_ready.1 hx
        have hx' : x < L.size := by
          rcases Nat.lt_or_ge x L.size with h' | h'
          · exact h'
          · rw [hs] at h'; rw [Array.getElem?_eq_none h'] at ho; cases ho
        rw [hall x hx'] at h1; cases h1
    · have := hall i (by omega)
      simp [show i < L.size by omega] at this ⊢; exact this
  | fuel + 1, L, a, w, hs, hf, hcl, hI => by
    refine ⟨fun hr => hend _ a w hI fun i hi => ready_nil hp hs hr i hi, fun i hi => ?_⟩
    obtain ⟨h1, o, ho, hd⟩ := mem_ready.1 hi
    have hi' : i < L.size := by
      rcases Nat.lt_or_ge i L.size with h' | h'
      · exact h'
      · rw [hs] at h'; rw [Array.getElem?_eq_none h'] at ho; cases ho
    have hn : ¬ L.getD i false = true := by
      simp [hi'] at h1 ⊢; exact h1
    have hst := hstep i o ho _ a w hI hn hcl hd
    unfold wpOp
    simp only [ho]
    have hw : Region.wanted o (yielded ops a.tmps) = true := by
      unfold Region.wanted; rw [(plainOps_at hp ho).1]
    rw [if_pos hw]
    have hset : ∀ j, (j = i ∨ L.getD j false = true) ↔ (L.setIfInBounds i true).getD j false = true := fun j => by
      by_cases hj : j = i
      · subst hj; simp [hi']
      · simp [hj, Ne.symm hj]
    refine .inl (Oper.wp_mono (fun a' w' hI' => ?_) hst)
    refine wpAny_inv hp I hmono hstep hend fuel _ a' w' (by simp [hs]) (by have := undone_set h1; omega) ?_ (hmono _ _ a' w' hset hI')
    intro j oj hoj hDj e he hb
    rcases (hset j).2 hDj with rfl | hDj
    · rw [ho] at hoj
      cases hoj
      exact (hset _).1 (.inr (hd e he hb))
    · exact (hset _).1 (.inr (hcl j oj hoj hDj e he hb))
/-- THE RULE: what holds behind any operations that are done (D) holds behind one more; behind all of them it gives what is asked. -/
theorem wp_region_inv {P : Program} {ops : Array Oper} {Q : Exit → Act → World → Prop} {id : Nat} {a : Act} {w : World} (hm : P.follows .mixedOrders = true) (hp : plainOps ops = true) (I : (Nat → Prop) → Act → World → Prop)
    (hmono : ∀ D D' a w, (∀ j, D j ↔ D' j) → I D a w → I D' a w)
    (hstart : I (fun _ => False) a { w with drawn := w.drawn + 1 })
    (hstep : ∀ (i : Nat) (o : Oper), ops[i]? = some o → ∀ D a w, I D a w → ¬ D i → Closed ops D → (∀ e ∈ o.after, Region.binds .any e = true → D e.on) → o.wp P a w (I fun j => j = i ∨ D j) Q)
    (hend : ∀ D a w, I D a w → (∀ i, i < ops.size → D i) → Q .normal a w) : (Code.region id ops true).wp P Q a w := by
  refine wp_region_any hm (wpAny_inv hp I hmono hstep hend _ _ a _ (by simp) ?_ ?_ (hmono _ _ _ _ (fun j => ?_) hstart))
  · unfold undone
    exact Nat.le_trans (List.length_filter_le _ _) (by simp)
  · intro j oj hoj hDj
    exfalso
    rcases Nat.lt_or_ge j ops.size with h' | h'
    · simp [h'] at hDj
    · simp [h'] at hDj
  · constructor
    · intro h; cases h
    · intro h
      exfalso
      rcases Nat.lt_or_ge j ops.size with h' | h'
      · simp [h'] at h
      · simp [h'] at h
/-- The same, what holds said of the frame at the beginning too. -/
theorem wp_region_inv' {P : Program} {ops : Array Oper} {Q : Exit → Act → World → Prop} {id : Nat} {a : Act} {w : World} (I : Act → (Nat → Prop) → Act → World → Prop) (hm : P.follows .mixedOrders = true) (hp : plainOps ops = true)
    (hmono : ∀ D D' a' w', (∀ j, D j ↔ D' j) → I a D a' w' → I a D' a' w')
    (hstart : I a (fun _ => False) a { w with drawn := w.drawn + 1 })
    (hstep : ∀ (i : Nat) (o : Oper), ops[i]? = some o → ∀ D a' w', I a D a' w' → ¬ D i → Closed ops D → (∀ e ∈ o.after, Region.binds .any e = true → D e.on) → o.wp P a' w' (I a fun j => j = i ∨ D j) Q)
    (hend : ∀ D a' w', I a D a' w' → (∀ i, i < ops.size → D i) → Q .normal a' w') : (Code.region id ops true).wp P Q a w :=
  wp_region_inv hm hp (I a) hmono hstart hstep hend
theorem addr_add (b off i : Nat) : (⟨b, off, none⟩ : Addr).add i = ⟨b, off + i, none⟩ := by unfold Addr.add; split <;> simp_all
/-- Values as cells. -/
def flatV : List (Int × Int) → List Value
  | [] => []
  | v :: t => .int .i64 v.1 :: .int .i64 v.2 :: flatV t
theorem flatV_len : ∀ vs : List (Int × Int), (flatV vs).length = vs.length * 2
  | [] => rfl
  | v :: t => by simp only [flatV, List.length_cons, flatV_len t]; omega
theorem flatV_at : ∀ (vs : List (Int × Int)) (i : Nat) (v : Int × Int), vs[i]? = some v → (flatV vs)[i * 2]? = some (.int .i64 v.1) ∧ (flatV vs)[i * 2 + 1]? = some (.int .i64 v.2)
  | [], _, _, h => by simp at h
  | u :: t, 0, v, h => by
    simp at h
    subst h
    exact ⟨rfl, rfl⟩
  | u :: t, i + 1, v, h => by
    have := flatV_at t i v (by simpa using h)
    rw [show (i + 1) * 2 = i * 2 + 2 by omega]
    exact this
theorem isV_nil (w : World) : IsV w none 0 0 [] := ⟨rfl, Nat.le_refl _, by decide, fun _ => rfl, by simp, fun h => absurd h (by decide)⟩
def wfVs (vs : List (Int × Int)) : Prop := ∀ v ∈ vs, (-9223372036854775808 ≤ v.1 ∧ v.1 ≤ 9223372036854775807) ∧ (-9223372036854775808 ≤ v.2 ∧ v.2 ≤ 9223372036854775807)
theorem isV_own {w : World} {base n cap : Nat} {g : Nat} {vs : List (Int × Int)} (h : w.ownsRow base 60 2 (.slice (some ⟨g, 0, none⟩) n cap) n (flatV vs)) (hb : wfVs vs) : IsV w (some ⟨g, 0, none⟩) n cap vs := by
  have hl : vs.length = n := by have := h.1; rw [flatV_len] at this; omega
  have h2 := h.2
  refine ⟨hl, ?_, ?_, by simp, hb, fun _ => ⟨g, 0, rfl, fun i hi => ?_⟩⟩
  · rcases h2 with ⟨h', _⟩ | ⟨g', cap', cur, h', _, _, hnc, _⟩
    · simp at h'
    · simp at h'; omega
  · rcases h2 with ⟨h', _⟩ | ⟨g', cap', cur, h', _, _, _, hcm, _⟩
    · simp at h'
    · simp at h'; omega
  · have e : vs[i]? = some (vs.getD i (0, 0)) := by simp [show i < vs.length by omega]
    have hf := flatV_at vs i _ e
    have h3 := World.ownsRow.cells h (g := g) rfl (i * 2) _ hf.1
    have h4 := World.ownsRow.cells h (g := g) rfl (i * 2 + 1) _ hf.2
    rw [addr_add] at h3 h4
    exact ⟨h3, h4⟩
/-- A slice of values of the call's own. -/
def OwnV (w : World) (base : Nat) (v : Value) (vs : List (Int × Int)) : Prop :=
  w.ownsRow base 60 2 v vs.length (flatV vs) ∧ ∃ a cap, v = .slice a vs.length cap ∧ IsV w a vs.length cap vs
theorem ownV_of {w : World} {base n : Nat} {v : Value} {vs : List (Int × Int)} (h : w.ownsRow base 60 2 v n (flatV vs)) (hb : wfVs vs) : OwnV w base v vs := by
  have hl : vs.length = n := by have := h.1; rw [flatV_len] at this; omega
  subst hl
  refine ⟨h, ?_⟩
  rcases h.2 with ⟨rfl, h0⟩ | ⟨g, cap, cur, rfl, _⟩
  · have : vs = [] := List.eq_nil_of_length_eq_zero h0
    subst this
    exact ⟨none, 0, rfl, isV_nil w⟩
  · exact ⟨_, cap, rfl, isV_own h hb⟩
set_option maxRecDepth 100000
theorem own_block {w : World} {n₀ e sz n : Nat} {v : Value} {xs : List Value} (h : w.ownsRow n₀ e sz v n xs) {g : Nat} (hg : v.ownBlock = some g) : n₀ ≤ g ∧ ∃ cur, w.heap[g]? = some (.cells cur e (0, 0)) := by
  rcases h.2 with ⟨rfl, _⟩ | ⟨g', cap, cur, rfl, hb, hh, _⟩
  · simp [Value.ownBlock] at hg
  · simp [Value.ownBlock] at hg
    subst hg
    exact ⟨hb, cur, hh⟩
theorem cells_ty {c c' : Array Value} {t t' : Nat} (h : some (Obj.cells c t (0, 0)) = some (Obj.cells c' t' (0, 0))) : t = t' := by
  simp at h
  exact h.2
theorem own_same {w w' : World} {n₀ e sz n : Nat} {v : Value} {xs : List Value} (h : w.ownsRow n₀ e sz v n xs) (hk : ∀ g, v.ownBlock = some g → w'.heap[g]? = w.heap[g]?) : w'.ownsRow n₀ e sz v n xs := by
  obtain ⟨h1, h2⟩ := h
  refine ⟨h1, ?_⟩
  rcases h2 with ⟨rfl, h3⟩ | ⟨g', cap, cur, rfl, hb, hh, h4⟩
  · exact .inl ⟨rfl, h3⟩
  · exact .inr ⟨g', cap, cur, rfl, hb, (hk g' rfl).trans hh, h4⟩
theorem own_ne {w : World} {n₀ e sz n b t : Nat} {v : Value} {xs : List Value} {c : Array Value} (h : w.ownsRow n₀ e sz v n xs) (hb : w.heap[b]? = some (.cells c t (0, 0))) (ht : t ≠ e) : v.ownBlock ≠ some b := by
  intro hv
  obtain ⟨_, cur, hh⟩ := own_block h hv
  rw [hh] at hb
  exact ht (cells_ty hb).symm
theorem own_setCell {w : World} {n₀ e sz n b t i : Nat} {v x : Value} {xs : List Value} {c : Array Value} (h : w.ownsRow n₀ e sz v n xs) (hb : w.heap[b]? = some (.cells c t (0, 0))) (ht : t ≠ e) : (w.setCell ⟨b, i, none⟩ x).ownsRow n₀ e sz v n xs :=
  own_same h (fun g hg => heap_setCell_other _ _ _ _ (fun e' => own_ne h hb ht (by rw [hg, e'])))
theorem below_setCell {B b i : Nat} {w w' : World} {x : Value} (h : Below B w w') (hb : B ≤ b) : Below B w (w'.setCell ⟨b, i, none⟩ x) :=
  ⟨h.os, h.tape, h.output, by simpa using h.size, fun j hj => (heap_setCell_other _ _ _ _ (by show j ≠ b; omega)).trans (h.block j hj)⟩
theorem results_cell {P : Program} {fn : Func} {tmps : Array Value} {a t : Nat} {ad : Addr} {w : World} {v : Value} (hf : fn.results = #[.cell a t]) (ha : tmps[a]?.getD undef = .pointer (some ad)) (hl : (loadVar t ad).run P w = .ok v w) : (results fn tmps).run P w = .ok v w := by
  unfold results
  rw [hf]
  simp [ha, asAddr, hl]
theorem new1 (w : World) (a : Obj) : (w.alloc a).heap[w.heap.size]? = some a := heap_alloc_new w a
theorem size1 (w : World) (a : Obj) : (w.alloc a).heap.size = w.heap.size + 1 := by simp
theorem old1 {w : World} {b : Nat} {o : Obj} (h : w.heap[b]? = some o) (a : Obj) : (w.alloc a).heap[b]? = some o := (Below.heap_alloc _ _ _ (lt_of_block h)).trans h
theorem new2 (w : World) (a b : Obj) : ((w.alloc a).alloc b).heap[w.heap.size + 1]? = some b := by have := new1 (w.alloc a) b; rwa [size1] at this
theorem new3 (w : World) (a b c : Obj) : (((w.alloc a).alloc b).alloc c).heap[w.heap.size + 1 + 1]? = some c := by have := new2 (w.alloc a) b c; rwa [size1] at this
theorem OwnB.byte {w : World} {base : Nat} {v : Value} {xs : List Int} (h : OwnB w base v xs) : ∀ x ∈ xs, 0 ≤ x ∧ x < 256 := by
  obtain ⟨_, a, c, e, k⟩ := h
  exact k.byte
theorem OwnV.wf {w : World} {base : Nat} {v : Value} {vs : List (Int × Int)} (h : OwnV w base v vs) : wfVs vs := by
  obtain ⟨_, a, c, e, k⟩ := h
  exact k.wf
theorem OwnB.mono {w : World} {b b' : Nat} {v : Value} {xs : List Int} (h : OwnB w b' v xs) (hb : b ≤ b') : OwnB w b v xs := ownB_of (own_mono h.1 hb) h.byte
theorem OwnV.mono {w : World} {b b' : Nat} {v : Value} {vs : List (Int × Int)} (h : OwnV w b' v vs) (hb : b ≤ b') : OwnV w b v vs := ownV_of (own_mono h.1 hb) h.wf
theorem wp_value {P : Program} {o : Oper} {a : Act} {w w' : World} {K : Act → World → Prop} {Q : Exit → Act → World → Prop} {v : Value} (h : (execOp a.eval o).run P w = .ok (.value v) w') (hk : K (a.put o.dst v) w') : o.wp P a w K Q := by
  unfold Oper.wp; rw [h]; exact hk
theorem wp_enter {P : Program} {o : Oper} {a : Act} {w : World} {K : Act → World → Prop} {Q : Exit → Act → World → Prop} {f : FuncId} {args : Array Value} (h : (execOp a.eval o).run P w = .ok (.enter f args) w) (hk : Calls P f args w fun e w' => ∃ v, e = .returned v ∧ K (a.put o.dst v) w') : o.wp P a w K Q := by
  unfold Oper.wp
  rw [h]
  refine hk.mono ?_
  rintro e w' ⟨v, rfl, h⟩
  exact h
theorem wp_skip {P : Program} {o : Oper} {a : Act} {w w' : World} {K : Act → World → Prop} {Q : Exit → Act → World → Prop} (h : (execOp a.eval o).run P w = .ok .skip w') (hk : K (a.put o.dst undef) w') : o.wp P a w K Q := by
  unfold Oper.wp; rw [h]; exact hk
set_option maxRecDepth 100000
/-- An op: the object's number, whether it adds, the value's kind and number. -/
structure Pp where
  oop : Int
  add : Bool
  k : Int
  n : Int
def I64 (x : Int) : Prop := -9223372036854775808 ≤ x ∧ x ≤ 9223372036854775807
def Pp.ok (p : Pp) : Prop := I64 p.oop ∧ I64 p.k ∧ I64 p.n
def Pp.cells (p : Pp) : List Value := [.int .i64 p.oop, .bool p.add, .int .i64 p.k, .int .i64 p.n]
def flatP (ps : List Pp) : List Value := ps.flatMap Pp.cells
/-- An op in memory. -/
def IsPp (w : World) (b off : Nat) (p : Pp) : Prop := w.cell? ⟨b, off, none⟩ = some (.int .i64 p.oop) ∧ w.cell? ⟨b, off + 1, none⟩ = some (.bool p.add) ∧ w.cell? ⟨b, off + 2, none⟩ = some (.int .i64 p.k) ∧ w.cell? ⟨b, off + 3, none⟩ = some (.int .i64 p.n)
/-- A slice of ops that is only read. -/
structure IsP (w : World) (a : Option Addr) (len cap : Nat) (ps : List Pp) : Prop where
  size : ps.length = len
  room : len ≤ cap
  most : cap ≤ maxLen
  nil0 : a = none → cap = 0
  wf : ∀ p ∈ ps, p.ok
  cells : 0 < len → ∃ b off, a = some ⟨b, off, none⟩ ∧ ∀ i p, ps[i]? = some p → IsPp w b (off + i * 4) p
/-- A slice of ops of the call's own. -/
def OwnP (w : World) (base : Nat) (v : Value) (ps : List Pp) : Prop :=
  w.ownsRow base 66 4 v ps.length (flatP ps) ∧ ∃ a cap, v = .slice a ps.length cap ∧ IsP w a ps.length cap ps
theorem below_drewN' {N : Nat} {w w' : World} (h : Below N w w') (q : Nat) : Below N w (w'.drewN q) := ⟨h.os, h.tape, h.output, h.size, h.block⟩
theorem OwnP.wf {w : World} {base : Nat} {v : Value} {ps : List Pp} (h : OwnP w base v ps) : ∀ p ∈ ps, p.ok := by
  obtain ⟨_, _, _, _, k⟩ := h
  exact k.wf
set_option maxRecDepth 100000
theorem okI {n : Int} (h : (Lit.int .i64 n).wf = true) : -9223372036854775808 ≤ n ∧ n ≤ 9223372036854775807 := by
  simp [Lit.wf, IntKind.min, IntKind.max, IntKind.signed, IntKind.bits] at h
  omega
end Go.Proofs.Ytigmpmichhghdaa
