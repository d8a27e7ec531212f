/- Regions that draw their order. -/
import Derived.Test.YtncfmhlikmibaaaGreatDoorAdd
namespace Go.Proofs.YtncfmhlikmibaaaGreatDoor
open Go.RowKit
set_option maxRecDepth 100000
set_option maxHeartbeats 16000000
def Zdf (ops : Array Oper) : Bool := (List.range ops.size).all fun i => match ops[i]? with
 | none => false
 | some o => o.after.all fun e => !Region.binds .any e || decide (e.on < i)
theorem Zoi {ops : Array Oper} (h : Zdf ops = true) {i : Nat} {o : Oper} (ho : ops[i]? = some o) : ∀ e ∈ o.after, Region.binds .any e = true → e.on < i := by
 unfold Zdf at h
 have hi : i < ops.size := by
  rcases Nat.lt_or_ge i ops.size with h' | h'
  ·exact h'
  rw [Array.getElem?_eq_none h'] at ho; cases ho
 have h1 := (List.all_eq_true.1 h) i (List.mem_range.2 hi)
 simp only [ho, Array.all_eq_true_iff_forall_mem, Bool.or_eq_true, Bool.not_eq_true', decide_eq_true_eq] at h1
 intro e he hb
 rcases h1 e he with h2 | h2
 ·rw [h2] at hb; cases hb
 exact h2
theorem Ziu {ops : Array Oper} (hp : Zdf ops = true) {L : Array Bool} (hs : L.size = ops.size) (hr : Region.ready .any ops L = []) : ∀ i, i < ops.size → L.getD i false = true := by
 intro i
 induction i using Nat.strongRecOn with
 | ind i ih =>
  intro hi
  rcases hL : L.getD i false with _ | _
  ·exfalso
   have hi' : i < L.size := by omega
   have hoi : ops[i]? = some ops[i] := Array.getElem?_eq_getElem hi
   have hm : i ∈ Region.ready .any ops L := by
    refine mem_ready.2 ⟨?_, ops[i], hoi, fun e he hb => ?_⟩
    ·simp [hi'] at hL ⊢; exact hL
    have := Zoi hp hoi e he hb
    exact ih _ this (by omega)
   rw [hr] at hm
   cases hm
  rfl
theorem Zin {P : Program} {ops : Array Oper} {Q : Exit → Act → World → Prop} (hp : Zdf ops = true) (I : (Nat → Prop) → Act → World → Prop)
  (hmono : ∀ D D' a w, (∀ j, D j ↔ D' j) → I D a w → I D' a w)
  (hstep : ∀ (i : Nat) (o : Oper), ops[i]? = some o → ∀ D a w, I D a w → ¬ D i → Zcy ops D → (∀ e ∈ o.after, Region.binds .any e = true → D e.on) → Region.wanted o (yielded ops a.tmps) = true ∧ o.wp P a w (I fun j => j = i ∨ D j) Q)
  (hend : ∀ D a w, I D a w → (∀ i, i < ops.size → D i) → Q .normal a w) :
  ∀ (fuel : Nat) (L : Array Bool) (a : Act) (w : World), L.size = ops.size → Zc1 L ≤ fuel → Zcy ops (fun j => L.getD j false = true) → I (fun j => L.getD j false = true) a w → wpAny P .any ops Q fuel L a w
 | 0, L, a, w, hs, hf, hcl, hI => by
  have hall := Zek (show Zc1 L = 0 by omega)
  refine ⟨?_, hend _ a w hI fun i hi => ?_⟩
  ·cases hr : Region.ready .any ops L with
   | nil => rfl
   | cons x xs =>
    have hx : x ∈ Region.ready .any ops L := by rw [hr]; simp
    obtain ⟨h1, o, ho, _⟩ := mem_ready.1 hx
    have hx' : x < L.size := by
     rcases Nat.lt_or_ge x L.size with h' | h'
     ·exact h'
     rw [hs] at h'; rw [Array.getElem?_eq_none h'] at ho; cases ho
    rw [hall x hx'] at h1; cases h1
  have := hall i (by omega)
  simp [show i < L.size by omega] at this ⊢; exact this
 | fuel + 1, L, a, w, hs, hf, hcl, hI => by
  refine ⟨fun hr => hend _ a w hI fun i hi => Ziu hp hs hr i hi, fun i hi => ?_⟩
  obtain ⟨h1, o, ho, hd⟩ := mem_ready.1 hi
  have hi' : i < L.size := by
   rcases Nat.lt_or_ge i L.size with h' | h'
   ·exact h'
   rw [hs] at h'; rw [Array.getElem?_eq_none h'] at ho; cases ho
  have hn : ¬ L.getD i false = true := by
   simp [hi'] at h1 ⊢; exact h1
  have hst := hstep i o ho _ a w hI hn hcl hd
  unfold wpOp
  simp only [ho]
  rw [if_pos hst.1]
  have hset : ∀ j, (j = i ∨ L.getD j false = true) ↔ (L.setIfInBounds i true).getD j false = true := fun j => by
   by_cases hj : j = i
   ·subst hj; simp [hi']
   simp [hj, Ne.symm hj]
  refine .inl (Oper.wp_mono (fun a' w' hI' => ?_) hst.2)
  refine Zin hp I hmono hstep hend fuel _ a' w' (by simp [hs]) (by have := Zd2 h1; omega) ?_ (hmono _ _ a' w' hset hI')
  intro j oj hoj hDj e he hb
  rcases (hset j).2 hDj with rfl | hDj
  ·rw [ho] at hoj
   cases hoj
   exact (hset _).1 (.inr (hd e he hb))
  exact (hset _).1 (.inr (hcl j oj hoj hDj e he hb))
theorem Zie {P : Program} {ops : Array Oper} {Q : Exit → Act → World → Prop} {id : Nat} {a : Act} {w : World} (hm : P.follows .mixedOrders = true) (hp : Zdf ops = true) (I : (Nat → Prop) → Act → World → Prop)
  (hmono : ∀ D D' a w, (∀ j, D j ↔ D' j) → I D a w → I D' a w)
  (hstart : I (fun _ => False) a { w with drawn := w.drawn + 1 })
  (hstep : ∀ (i : Nat) (o : Oper), ops[i]? = some o → ∀ D a w, I D a w → ¬ D i → Zcy ops D → (∀ e ∈ o.after, Region.binds .any e = true → D e.on) → Region.wanted o (yielded ops a.tmps) = true ∧ o.wp P a w (I fun j => j = i ∨ D j) Q)
  (hend : ∀ D a w, I D a w → (∀ i, i < ops.size → D i) → Q .normal a w) : (Code.region id ops true).wp P Q a w := by
 refine wp_region_any hm (Zin hp I hmono hstep hend _ _ a _ (by simp) ?_ ?_ (hmono _ _ _ _ (fun j => ?_) hstart))
 ·unfold Zc1
  exact Nat.le_trans (List.length_filter_le _ _) (by simp)
 ·intro j oj hoj hDj
  exfalso
  rcases Nat.lt_or_ge j ops.size with h' | h'
  ·simp [h'] at hDj
  simp [h'] at hDj
 constructor
 ·intro h; cases h
 intro h
 exfalso
 rcases Nat.lt_or_ge j ops.size with h' | h'
 ·simp [h'] at h
 simp [h'] at h
theorem Zgp {P : Program} {ops : Array Oper} {Q : Exit → Act → World → Prop} {id : Nat} {a : Act} {w : World} (I : Act → (Nat → Prop) → Act → World → Prop) (hm : P.follows .mixedOrders = true) (hp : Zdf ops = true)
  (hmono : ∀ D D' a' w', (∀ j, D j ↔ D' j) → I a D a' w' → I a D' a' w')
  (hstart : I a (fun _ => False) a { w with drawn := w.drawn + 1 })
  (hstep : ∀ (i : Nat) (o : Oper), ops[i]? = some o → ∀ D a' w', I a D a' w' → ¬ D i → Zcy ops D → (∀ e ∈ o.after, Region.binds .any e = true → D e.on) → Region.wanted o (yielded ops a'.tmps) = true ∧ o.wp P a' w' (I a fun j => j = i ∨ D j) Q)
  (hend : ∀ D a' w', I a D a' w' → (∀ i, i < ops.size → D i) → Q .normal a' w') : (Code.region id ops true).wp P Q a w :=
 Zie hm hp (I a) hmono hstart hstep hend
def Zaj (A : Act) (s : Nat) (l : List Value) : Act := { A with tmps := (A.tmps.toList.take s ++ l ++ A.tmps.toList.drop (s + l.length)).toArray }
theorem Zdv (A : Act) (s k : Nat) (h : s + k ≤ A.tmps.size) : A = Zaj A s ((A.tmps.toList.drop s).take k) ∧ ((A.tmps.toList.drop s).take k).length = k := by
 have hl : ((A.tmps.toList.drop s).take k).length = k := by simp; omega
 refine ⟨?_, hl⟩
 unfold Zaj
 rw [hl, List.append_assoc, ← List.drop_drop, List.take_append_drop, List.take_append_drop]
theorem Ziy (A : Act) (s i : Nat) (l : List Value) (v : Value) (h : s + l.length ≤ A.tmps.size) (hi : i < l.length) : (Zaj A s l).put (some (s + i)) v = Zaj A s (l.set i v) := by
 have hs : (A.tmps.toList.take s).length = s := by simp; omega
 unfold Zaj Act.put
 simp only [List.setIfInBounds_toArray, List.length_set]
 congr 2
 rw [List.append_assoc, List.set_append_right _ _ (by rw [hs]; omega), hs, show s + i - s = i by omega, List.set_append_left _ _ hi, List.append_assoc]
theorem Zpy (A : Act) (s i : Nat) (l : List Value) (h : s + l.length ≤ A.tmps.size) (hi : i < l.length) : (Zaj A s l).tmps[s + i]? = l[i]? := by
 have hs : (A.tmps.toList.take s).length = s := by simp; omega
 unfold Zaj
 rw [List.getElem?_toArray, List.append_assoc, List.getElem?_append_right (by rw [hs]; omega), hs, show s + i - s = i by omega, List.getElem?_append_left hi]
theorem Zcs (A : Act) (s t : Nat) (l : List Value) (h : s + l.length ≤ A.tmps.size) (ht : t < s) : (Zaj A s l).tmps[t]? = A.tmps[t]? := by
 unfold Zaj
 rw [List.getElem?_toArray, List.append_assoc, List.getElem?_append_left (by simp; omega), List.getElem?_take, if_pos ht]
 simp
theorem Zah {P : Program} {c : Code} {Q : Exit → Act → World → Prop} {a : Act} {w : World} (h : ∀ A, A = a → c.wp P Q A w) : c.wp P Q a w := h a rfl
theorem Za5 {D : Nat → Prop} {l : List Value} {val : Nat → Value} {n i : Nat} (hl : l.length = n) (hi : i < n) (h : ∀ j, j < n → D j → l[j]? = some (val j)) : ∀ j, j < n → (j = i ∨ D j) → (l.set i (val i))[j]? = some (val j) := by
 intro j hj hD
 rw [List.getElem?_set]
 by_cases e : i = j
 ·subst e; rw [if_pos rfl, if_pos (by omega)]
 rw [if_neg e]
 exact h j hj (hD.resolve_left (fun e' => e e'.symm))
theorem Zai {D : Nat → Prop} {l : List Value} {val val' : Nat → Value} {n i : Nat} (hl : l.length = n) (hi : i < n) (h : ∀ j, j < n → D j → l[j]? = some (val j)) (hv : ∀ j, D j → j ≠ i → val j = val' j) : ∀ j, j < n → (j = i ∨ D j) → (l.set i (val' i))[j]? = some (val' j) := by
 intro j hj hD
 rw [List.getElem?_set]
 by_cases e : i = j
 ·subst e; rw [if_pos rfl, if_pos (by omega)]
 rw [if_neg e]
 have hd := hD.resolve_left (fun e' => e e'.symm)
 rw [h j hj hd, hv j hd (fun e' => e e'.symm)]

theorem Zag {D : Nat → Prop} {A a : Act} {l : List Value} {val : Nat → Value} {s n m : Nat} (ha : a = Zaj A s l) (hsz : A.tmps.size = m) (Lh : l.length = n) (hl : ∀ j, j < n → D j → l[j]? = some (val j)) (d : Nat) (hd : d < n) (hD : D d) (hm : s + n ≤ m := by decide) : a.tmps[s + d]? = some (val d) := by
 rw [ha, Zpy A s d l (by omega) (by omega)]
 exact hl d hd hD
theorem Zaw {ops : Array Oper} {o oj : Oper} {j k : Nat} {b : Bool} {tmps : Array Value} (hg : o.guard = some (j, b)) (ho : ops[j]? = some oj) (hd : oj.dst = some k) (hv : tmps[k]? = some (.bool b)) : Region.wanted o (yielded ops tmps) = true := by
 unfold Region.wanted yielded
 rw [hg]
 simp [ho, hd, hv]
theorem cons_of {l : List Value} {n : Nat} (h : l.length = n + 1) : ∃ a t, l = a :: t ∧ t.length = n := by
 cases l with
 | nil => simp at h
 | cons a t => exact ⟨a, t, rfl, by simpa using h⟩
theorem Zbo (A : Act) (s k t : Nat) (u : Value) (h : s + k ≤ A.tmps.size) (ht : t < s) (hu : A.tmps[t]? = some u) : A = (Zaj A s ((A.tmps.toList.drop s).take k)).put (some t) u := by
 have e := (Zdv A s k h).1
 rw [← e]
 show A = { A with tmps := A.tmps.setIfInBounds t u }
 have hlt : t < A.tmps.size := by omega
 have : A.tmps.setIfInBounds t u = A.tmps := by
  apply Array.ext
  ·simp
  intro i h1 h2
  rw [Array.getElem_setIfInBounds]
  split
  ·rename_i h3
   subst h3
   rw [Array.getElem?_eq_getElem hlt] at hu
   exact (Option.some.inj hu).symm
  rfl
 rw [this]
theorem put_swap (A : Act) (t i : Nat) (u v : Value) (h : t ≠ i) : (A.put (some t) u).put (some i) v = (A.put (some i) v).put (some t) u := by
 show ({ A with tmps := (A.tmps.setIfInBounds t u).setIfInBounds i v } : Act) = { A with tmps := (A.tmps.setIfInBounds i v).setIfInBounds t u }
 rw [Array.setIfInBounds_comm _ _ h]
theorem putT_put (A : Act) (s i t : Nat) (l : List Value) (u v : Value) (h : s + l.length ≤ A.tmps.size) (hi : i < l.length) (ht : t < s) : ((Zaj A s l).put (some t) u).put (some (s + i)) v = (Zaj A s (l.set i v)).put (some t) u := by
 rw [put_swap _ _ _ _ _ (by omega), Ziy A s i l v h hi]
theorem Zbp (A : Act) (t : Nat) (u v : Value) : (A.put (some t) u).put (some t) v = A.put (some t) v := by
 show ({ A with tmps := (A.tmps.setIfInBounds t u).setIfInBounds t v } : Act) = { A with tmps := A.tmps.setIfInBounds t v }
 rw [Array.setIfInBounds_setIfInBounds]
theorem Zix (a : Act) (t j : Nat) (u : Value) (h : t ≠ j) : (a.put (some t) u).tmps[j]? = a.tmps[j]? := by
 show (a.tmps.setIfInBounds t u)[j]? = _
 rw [Array.getElem?_setIfInBounds, if_neg h]
theorem Zbl {D : Nat → Prop} {A a : Act} {l : List Value} {val : Nat → Value} {s n m t : Nat} {u : Value} (ha : a = (Zaj A s l).put (some t) u) (hsz : A.tmps.size = m) (Lh : l.length = n) (hl : ∀ j, j < n → D j → l[j]? = some (val j)) (d : Nat) (hd : d < n) (hD : D d) (ht : t < s := by decide) (hm : s + n ≤ m := by decide) : a.tmps[s + d]? = some (val d) := by
 rw [ha, Zix _ _ _ _ (by omega)]
 exact Zag rfl hsz Lh hl d hd hD hm
theorem yA {α : Type} {n : Nat} {a : α} {l : List α} : (a :: l).take (n + 1) = a :: l.take n := rfl
theorem yB {α : Type} {l : List α} : l.take 0 = [] := rfl
theorem yC {α : Type} {n : Nat} {a : α} {l : List α} : (a :: l).drop (n + 1) = l.drop n := rfl
theorem yD {α : Type} {l : List α} : l.drop 0 = l := rfl
theorem yE {α : Type} {a : α} {l t : List α} : (a :: l) ++ t = a :: (l ++ t) := rfl
theorem yF {α : Type} {t : List α} : [] ++ t = t := rfl
theorem yG {α : Type} {a : α} {l : List α} : (a :: l).length = l.length + 1 := rfl
theorem yH {α : Type} : ([] : List α).length = 0 := rfl
theorem zJ {D P : Nat → Prop} {n k : Nat} (h : ∀ j, j < n → D j → P j) (hk : n ≤ k := by decide) : ∀ j, j < n → (j = k ∨ D j) → P j := fun j hj hd => h j hj (hd.resolve_left (by omega))
theorem zS {A : Act} (s k : Nat) {m : Nat} (h : A.tmps.size = m) (hm : s + k ≤ m := by decide) : A = Zaj A s ((A.tmps.toList.drop s).take k) := (Zdv A s k (by omega)).1
theorem zG {A : Act} (s k : Nat) {m : Nat} (h : A.tmps.size = m) (hm : s + k ≤ m := by decide) : ((A.tmps.toList.drop s).take k).length = k := (Zdv A s k (by omega)).2
theorem zK {n : Nat} {P : Nat → Prop} : ∀ j, j < n → False → P j := fun _ _ h => h.elim
theorem zp {A a : Act} {l : List Value} {v : Value} {s n m : Nat} (k : Nat) (ha : a = Zaj A s l) (Lh : l.length = n) (hsz : A.tmps.size = m) (h1 : s + n ≤ m := by decide) (h2 : k < n := by decide) : a.put (some (s + k)) v = Zaj A s (l.set k v) := by
 rw [ha]
 exact Ziy A s k l v (by omega) (by omega)
theorem zt {A a : Act} {l : List Value} {u v : Value} {s n m t : Nat} (k : Nat) (ha : a = (Zaj A s l).put (some t) u) (Lh : l.length = n) (hsz : A.tmps.size = m) (h1 : s + n ≤ m := by decide) (h2 : k < n := by decide) (h3 : t < s := by decide) : a.put (some (s + k)) v = (Zaj A s (l.set k v)).put (some t) u := by
 rw [ha]
 exact putT_put A s k t l u v (by omega) (by omega) h3
theorem zh {l : List Value} {n i : Nat} {v : Value} (h : l.length = n) : (l.set i v).length = n := (List.length_set ..).trans h
theorem zk {D : Nat → Prop} {l : List Value} {val : Nat → Value} {n i : Nat} (hl : l.length = n) (h : ∀ j, j < n → D j → l[j]? = some (val j)) (hi : i < n := by decide) : ∀ j, j < n → (j = i ∨ D j) → (l.set i (val i))[j]? = some (val j) := Za5 hl hi h
theorem zv {o : Oper} {D : Nat → Prop} {A a : Act} {l : List Value} {val : Nat → Value} {s n m : Nat} (ha : a = Zaj A s l) (hsz : A.tmps.size = m) (Lh : l.length = n) (hl : ∀ j, j < n → D j → l[j]? = some (val j)) (d : Nat) (hd : ∀ e ∈ o.after, Region.binds .any e = true → D e.on) (h1 : d < n := by decide) (hm : ⟨d, .data⟩ ∈ o.after := by simp) (h2 : s + n ≤ m := by decide) : a.tmps[s + d]? = some (val d) := Zag ha hsz Lh hl d h1 (hd _ hm rfl) h2
theorem zu {A a : Act} {l : List Value} {v : Value} {s n m : Nat} (t : Nat) (ha : a = Zaj A s l) (Lh : l.length = n) (hsz : A.tmps.size = m) (h : A.tmps[t]? = some v) (h1 : s + n ≤ m := by decide) (h2 : t < s := by decide) : a.tmps[t]? = some v := by
 rw [ha, Zcs A s t l (by omega) h2]
 exact h
theorem zU {A a : Act} {l : List Value} {u v : Value} {s n m r : Nat} (t : Nat) (ha : a = (Zaj A s l).put (some r) u) (Lh : l.length = n) (hsz : A.tmps.size = m) (h : A.tmps[t]? = some v) (h1 : s + n ≤ m := by decide) (h2 : t < s := by decide) (h3 : r ≠ t := by decide) : a.tmps[t]? = some v := by
 rw [ha, Zix _ _ _ _ h3, Zcs A s t l (by omega) h2]
 exact h
theorem zR2 {P : Program} {ops : Array Oper} {Q : Exit → Act → World → Prop} {id : Nat} {a : Act} {w : World} (I : Act → (Nat → Prop) → Act → World → Prop)
  (hstart : I a (fun _ => False) a { w with drawn := w.drawn + 1 })
  (hstep : ∀ (i : Nat) (o : Oper), ops[i]? = some o → ∀ D a' w', I a D a' w' → ¬ D i → Zcy ops D → (∀ e ∈ o.after, Region.binds .any e = true → D e.on) → Region.wanted o (yielded ops a'.tmps) = true ∧ o.wp P a' w' (I a fun j => j = i ∨ D j) Q)
  (hend : ∀ D a' w', I a D a' w' → (∀ i, i < ops.size → D i) → Q .normal a' w') (hm : P.follows .mixedOrders = true := by kernel_rfl) (hp : Zdf ops = true := by kernel_rfl) : (Code.region id ops true).wp P Q a w :=
 Zgp I hm hp (fun D D' _ _ h => (funext fun j => propext (h j) : D = D') ▸ fun k => k) hstart hstep hend
theorem zw {o : Oper} {D : Nat → Prop} {A a : Act} {l : List Value} {val : Nat → Value} {s n m t : Nat} {u : Value} (ha : a = (Zaj A s l).put (some t) u) (hsz : A.tmps.size = m) (Lh : l.length = n) (hl : ∀ j, j < n → D j → l[j]? = some (val j)) (d : Nat) (hd : ∀ e ∈ o.after, Region.binds .any e = true → D e.on) (h1 : d < n := by decide) (hm : ⟨d, .data⟩ ∈ o.after := by simp) (h3 : t < s := by decide) (h2 : s + n ≤ m := by decide) : a.tmps[s + d]? = some (val d) := Zbl ha hsz Lh hl d h1 (hd _ hm rfl) h3 h2
theorem zL3 {l : List Value} (h : l.length = 3) : ∃ v0 v1 v2, l = [v0, v1, v2] := by
 match l, h with
 | [v0, v1, v2], _ => exact ⟨_, _, _, rfl⟩
theorem zL4 {l : List Value} (h : l.length = 4) : ∃ v0 v1 v2 v3, l = [v0, v1, v2, v3] := by
 match l, h with
 | [v0, v1, v2, v3], _ => exact ⟨_, _, _, _, rfl⟩
theorem zL6 {l : List Value} (h : l.length = 6) : ∃ v0 v1 v2 v3 v4 v5, l = [v0, v1, v2, v3, v4, v5] := by
 match l, h with
 | [v0, v1, v2, v3, v4, v5], _ => exact ⟨_, _, _, _, _, _, rfl⟩
theorem zL7 {l : List Value} (h : l.length = 7) : ∃ v0 v1 v2 v3 v4 v5 v6, l = [v0, v1, v2, v3, v4, v5, v6] := by
 match l, h with
 | [v0, v1, v2, v3, v4, v5, v6], _ => exact ⟨_, _, _, _, _, _, _, rfl⟩
theorem zL8 {l : List Value} (h : l.length = 8) : ∃ v0 v1 v2 v3 v4 v5 v6 v7, l = [v0, v1, v2, v3, v4, v5, v6, v7] := by
 match l, h with
 | [v0, v1, v2, v3, v4, v5, v6, v7], _ => exact ⟨_, _, _, _, _, _, _, _, rfl⟩
theorem zL9 {l : List Value} (h : l.length = 9) : ∃ v0 v1 v2 v3 v4 v5 v6 v7 v8, l = [v0, v1, v2, v3, v4, v5, v6, v7, v8] := by
 match l, h with
 | [v0, v1, v2, v3, v4, v5, v6, v7, v8], _ => exact ⟨_, _, _, _, _, _, _, _, _, rfl⟩
theorem zL10 {l : List Value} (h : l.length = 10) : ∃ v0 v1 v2 v3 v4 v5 v6 v7 v8 v9, l = [v0, v1, v2, v3, v4, v5, v6, v7, v8, v9] := by
 match l, h with
 | [v0, v1, v2, v3, v4, v5, v6, v7, v8, v9], _ => exact ⟨_, _, _, _, _, _, _, _, _, _, rfl⟩
theorem zL11 {l : List Value} (h : l.length = 11) : ∃ v0 v1 v2 v3 v4 v5 v6 v7 v8 v9 v10, l = [v0, v1, v2, v3, v4, v5, v6, v7, v8, v9, v10] := by
 match l, h with
 | [v0, v1, v2, v3, v4, v5, v6, v7, v8, v9, v10], _ => exact ⟨_, _, _, _, _, _, _, _, _, _, _, rfl⟩
theorem zL12 {l : List Value} (h : l.length = 12) : ∃ v0 v1 v2 v3 v4 v5 v6 v7 v8 v9 v10 v11, l = [v0, v1, v2, v3, v4, v5, v6, v7, v8, v9, v10, v11] := by
 match l, h with
 | [v0, v1, v2, v3, v4, v5, v6, v7, v8, v9, v10, v11], _ => exact ⟨_, _, _, _, _, _, _, _, _, _, _, _, rfl⟩
theorem zL13 {l : List Value} (h : l.length = 13) : ∃ v0 v1 v2 v3 v4 v5 v6 v7 v8 v9 v10 v11 v12, l = [v0, v1, v2, v3, v4, v5, v6, v7, v8, v9, v10, v11, v12] := by
 match l, h with
 | [v0, v1, v2, v3, v4, v5, v6, v7, v8, v9, v10, v11, v12], _ => exact ⟨_, _, _, _, _, _, _, _, _, _, _, _, _, rfl⟩
theorem zL14 {l : List Value} (h : l.length = 14) : ∃ v0 v1 v2 v3 v4 v5 v6 v7 v8 v9 v10 v11 v12 v13, l = [v0, v1, v2, v3, v4, v5, v6, v7, v8, v9, v10, v11, v12, v13] := by
 match l, h with
 | [v0, v1, v2, v3, v4, v5, v6, v7, v8, v9, v10, v11, v12, v13], _ => exact ⟨_, _, _, _, _, _, _, _, _, _, _, _, _, _, rfl⟩
theorem zL17 {l : List Value} (h : l.length = 17) : ∃ v0 v1 v2 v3 v4 v5 v6 v7 v8 v9 v10 v11 v12 v13 v14 v15 v16, l = [v0, v1, v2, v3, v4, v5, v6, v7, v8, v9, v10, v11, v12, v13, v14, v15, v16] := by
 match l, h with
 | [v0, v1, v2, v3, v4, v5, v6, v7, v8, v9, v10, v11, v12, v13, v14, v15, v16], _ => exact ⟨_, _, _, _, _, _, _, _, _, _, _, _, _, _, _, _, _, rfl⟩
end Go.Proofs.YtncfmhlikmibaaaGreatDoor
