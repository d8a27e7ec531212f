/- maps.Clone of a table's pasts, and a past with no room behind. -/
import Derived.Test.YtajdelinfkodbaaFom
import Derived.Shelf.SlMaps.Clone
import Derived.Maps.RangeWalk
namespace Go.Proofs.Ytajdelinfkodbaa
open Go.RowKit
set_option maxRecDepth 100000
set_option maxHeartbeats 1000000 in
theorem clone_map (b : Nat) (es : Array MapEntry) (clock : Nat) (w : World) (hb : w.heap[b]? = some (.map es clock)) :
    Calls Try.prog 44 #[.map (some b)] w fun e w' => e = .returned (.map (some w.heap.size)) ∧ w' = w.alloc (.map es clock) := by
  have hq := fun w => run_eql_map_nil_sl (P := Try.prog) w 70 _ _ (some b) Try.underlying70
  go_enter Try.func44, Try.ntmps44
  go_wp2
  rw [run_callFunc_extern (show Try.prog.funcs[60]? = _ from rfl) (by kernel_rfl) (by kernel_rfl) (by kernel_rfl) (e := Extern.MapsClone.clone) (by kernel_rfl), run_maps_clone_sl w 70 hb]
  simp only [Result.andThen]
  rw [Oper.upon_value]
  go_wp2
  rw [run_typeAssert_map_sl _ 70 20 _ _ _ Try.underlying70]
  simp only [Result.andThen]
  rw [Oper.upon_value]
  go_wp2
  go_ret
  exact ⟨rfl, rfl⟩
theorem clone_isMap {w : World} {b : Nat} {f : Int → Option Value} (h : IsMap w b f) : Calls Try.prog 44 #[.map (some b)] w fun e w' => e = .returned (.map (some w.heap.size)) ∧ IsMap w' w.heap.size f ∧ Below w.heap.size w w' := by
  obtain ⟨L, clock, hb, h1, h2, h3, h4⟩ := h
  refine (clone_map b _ clock w hb).mono ?_
  rintro e w' ⟨rfl, rfl⟩
  exact ⟨rfl, ⟨L, clock, new1 _ _, h1, h2, h3, h4⟩, box_below⟩
theorem clone_nilMap (w : World) : Calls Try.prog 44 #[.map none] w fun e w' => e = .returned (.map none) ∧ w = w' := by
  have hq := fun w => run_eql_map_nil_sl (P := Try.prog) w 70 _ _ none Try.underlying70
  go_enter Try.func44, Try.ntmps44
  go_wp2
  go_ret
  exact ⟨rfl, rfl⟩
set_option maxHeartbeats 1000000 in
theorem clip_any (va : Option Addr) (vn vc : Nat) (w : World) (hn : vn ≤ vc) : Calls Try.prog 61 #[.slice va vn vc] w fun e w' => e = .returned (.slice va vn vn) ∧ w = w' := by
  have h1 : (0 : Int) ≤ (vn : Int) := by omega
  have h2 : (vn : Int) ≤ (vc : Int) := by omega
  go_enter Try.func61, Try.ntmps61
  go_wp2
  go_ret
  exact ⟨rfl, rfl⟩
theorem Try.results45 : Try.f45.results = #[.cell 2 78] := by kernel_rfl
set_option maxHeartbeats 1000000 in
theorem cut_any (c : Int) (va : Option Addr) (vn vc : Nat) (w : World) (hn : vn ≤ vc) : Calls Try.prog 45 #[.agg #[.int .i64 c, .slice va vn vc]] w fun e w' => e = .returned (.agg #[.int .i64 c, .slice va vn vn]) ∧ Below w.heap.size w w' := by
  go_enter Try.func45, Try.ntmps45
  go_wp2_with fail
  refine (clip_any va vn vc _ hn).mono ?_
  rintro e w' ⟨rfl, rfl⟩
  go_wp2
  exact bodyPost_ret (v := .agg #[.int .i64 c, .slice va vn vn]) (results_cell Try.results45 rfl (load78 (new2 _ _ _))) rfl ⟨rfl, below_size box_below box_below.size box_below⟩
end Go.Proofs.Ytajdelinfkodbaa
namespace Go.Proofs.Ytajdelinfkodbaa
open Go.RowKit
open Go.ChangeMaps (setBlock)
open Go.MapKept (heap_set)
set_option maxRecDepth 100000
/-- Block r goes over the map of block b; left: which keys are to come. -/
def Rg (w : World) (b r : Nat) (f : Int → Option Value) (left : Int → Bool) (cnt : Nat) : Prop :=
  ∃ (L : List (Int × Value × Nat)) (clock since : Nat) (seen : Array Nat) (c0 : Nat), w.heap[b]? = some (.map (L.map ent).toArray clock) ∧ ((L.map (·.1)).Nodup ∧ (∀ k, f k = lk L k) ∧ (∀ p ∈ L, p.2.2 < clock) ∧ (L.map (·.2.2)).Nodup) ∧
    w.heap[r]? = some (.mapIter (some b) since seen c0) ∧ (∀ p ∈ L, p.2.2 < since) ∧ (leftOf (L.map ent).toArray seen).size = cnt ∧ (∀ p ∈ L, left p.1 = !seen.contains p.2.2) ∧ since ≤ c0 ∧ since ≤ clock
theorem Rg.map {w : World} {b r : Nat} {f : Int → Option Value} {left : Int → Bool} {cnt : Nat} (h : Rg w b r f left cnt) : IsMap w b f := by
  obtain ⟨L, clock, since, seen, c0, hb, hq, _⟩ := h
  exact ⟨L, clock, hb, hq⟩
theorem Rg.lt {w : World} {b r : Nat} {f : Int → Option Value} {left : Int → Bool} {cnt : Nat} (h : Rg w b r f left cnt) : r < w.heap.size := by
  obtain ⟨L, clock, since, seen, c0, hb, hq, hr, _⟩ := h
  exact (Array.getElem?_eq_some_iff.1 hr).1
theorem Rg.same {w w' : World} {b r : Nat} {f : Int → Option Value} {left : Int → Bool} {cnt : Nat} (h : Rg w b r f left cnt) (h1 : w'.heap[b]? = w.heap[b]?) (h2 : w'.heap[r]? = w.heap[r]?) : Rg w' b r f left cnt := by
  obtain ⟨L, clock, since, seen, c0, hb, hq, hr, hrest⟩ := h
  exact ⟨L, clock, since, seen, c0, h1.trans hb, hq, h2.trans hr, hrest⟩
theorem Rg.left_eq {w : World} {b r : Nat} {f : Int → Option Value} {left : Int → Bool} {cnt : Nat} (h : Rg w b r f left cnt) : w.rangeLeft b r = cnt := by
  obtain ⟨L, clock, since, seen, c0, hb, hq, hr, _, hc, _⟩ := h
  simp only [World.rangeLeft, hb, hr]
  exact hc
theorem nodup_inj {α β : Type} {f : α → β} : ∀ {L : List α}, (L.map f).Nodup → ∀ {x y : α}, x ∈ L → y ∈ L → f x = f y → x = y
  | [], _, _, _, h, _, _ => by cases h
  | z :: r, hn, x, y, hx, hy, e => by
    rw [List.map_cons, List.nodup_cons] at hn
    rcases List.mem_cons.1 hx with rfl | hx'
    · rcases List.mem_cons.1 hy with rfl | hy'
      · rfl
      · exact absurd (List.mem_map.2 ⟨y, hy', e.symm⟩) hn.1
    · rcases List.mem_cons.1 hy with rfl | hy'
      · exact absurd (List.mem_map.2 ⟨x, hx', e⟩) hn.1
      · exact nodup_inj hn.2 hx' hy' e
theorem lk_mem_some {L : List (Int × Value × Nat)} (hn : (L.map (·.1)).Nodup) {p : Int × Value × Nat} (hp : p ∈ L) : lk L p.1 = some p.2.1 := by
  induction L with
  | nil => cases hp
  | cons q r ih =>
    rw [List.map_cons, List.nodup_cons] at hn
    rcases List.mem_cons.1 hp with rfl | hp
    · unfold lk
      simp
    · have hne : q.1 ≠ p.1 := fun e => hn.1 (e ▸ List.mem_map.2 ⟨p, hp, rfl⟩)
      unfold lk
      simp only [hne, if_false]
      exact ih hn.2 hp
theorem lk_of_some {L : List (Int × Value × Nat)} {k : Int} {v : Value} (h : lk L k = some v) : ∃ p ∈ L, p.1 = k ∧ p.2.1 = v := by
  induction L with
  | nil => cases h
  | cons q r ih =>
    unfold lk at h
    by_cases e : q.1 = k
    · simp only [e, if_true] at h
      exact ⟨q, by simp, e, by simpa using h⟩
    · simp only [e, if_false] at h
      obtain ⟨p, hp, h1⟩ := ih h
      exact ⟨p, by simp [hp], h1⟩
theorem IsMap.ranged {w : World} {b : Nat} {f : Int → Option Value} (h : IsMap w b f) {t k e : TypeId} (ht : Try.prog.underlying t = some (.map k e)) :
    ∃ w' cnt, (Instr.range t (.map (some b))).run Try.prog w = .ok (.pointer (some ⟨w.heap.size, 0, none⟩)) w' ∧ Rg w' b w.heap.size f (fun _ => true) cnt ∧ Below w.heap.size w w' ∧ w'.heap.size = w.heap.size + 1 := by
  have hlt := h.lt
  obtain ⟨L, clock, hb, h1, h2, h3, h4⟩ := h
  exact ⟨_, _, run_range_map w t k e b _ clock ht hb, ⟨L, clock, clock, #[], clock, ((MapKept.heap_alloc w _).2 b hlt).trans hb, ⟨h1, h2, h3, h4⟩, (MapKept.heap_alloc w _).1, h3, rfl, fun p hp => by simp, Nat.le_refl _, Nat.le_refl _⟩, box_below, by simp⟩
/-- The step. -/
theorem Rg.next {w : World} {b r : Nat} {f : Int → Option Value} {left : Int → Bool} {cnt : Nat} (h : Rg w b r f left cnt) (ty : TypeId) :
    ((∀ k, f k ≠ none → left k = false) ∧ (Instr.next (.pointer (some ⟨r, 0, none⟩)) false ty).run Try.prog w = .ok (.tuple #[.bool false]) w) ∨
    ∃ k v w' cnt', f k = some v ∧ (Instr.next (.pointer (some ⟨r, 0, none⟩)) false ty).run Try.prog w = .ok (.tuple #[.bool true, .int .i64 k, v]) w' ∧ Rg w' b r f (fun x => left x && !decide (x = k)) cnt' ∧ cnt' < cnt ∧ w.grownBy w' (some r) ∧ w'.heap.size = w.heap.size ∧ (Instr.entry (.pointer (some ⟨r, 0, none⟩))).run Try.prog w' = .ok (.tuple #[.int .i64 k, v]) w' := by
  obtain ⟨L, clock, since, seen, c0, hb, ⟨q1, q2, q3, q4⟩, hr, hold, rfl, hl, hsc, hsk⟩ := h
  have hold' : ∀ x ∈ ((L.map ent).toArray).toList, x.born < since := by
    intro x hx
    rw [List.toList_toArray] at hx
    obtain ⟨p, hp, rfl⟩ := List.mem_map.1 hx
    exact hold p hp
  have hne : r ≠ b := fun e => by rw [e, hb] at hr; cases hr
  rcases run_next_at (P := Try.prog) w ty r b since c0 seen _ clock hr hb hold' hsc with ⟨h0, hrun⟩ | ⟨e, he, w1, hal, hrun⟩
  · refine .inl ⟨fun k hk => ?_, hrun⟩
    rw [q2 k] at hk
    obtain ⟨v, hv⟩ := Option.ne_none_iff_exists'.1 hk
    obtain ⟨p, hp, rfl, _⟩ := lk_of_some hv
    have := all_seen _ seen h0 (ent p) (by rw [List.toList_toArray]; exact List.mem_map.2 ⟨p, hp, rfl⟩)
    rw [hl p hp]
    simpa [ent] using this
  · obtain ⟨hem, hes⟩ := mem_left he
    rw [List.toList_toArray] at hem
    obtain ⟨p, hp, rfl⟩ := List.mem_map.1 hem
    have hr1 : w1.heap[r]? = some (.mapIter (some b) since seen c0) := by rcases hal with rfl | rfl <;> exact hr
    have hb1 : w1.heap[b]? = some (.map (L.map ent).toArray clock) := by rcases hal with rfl | rfl <;> exact hb
    have hset := heap_set (o' := .mapIter (some b) since (seen.push (ent p).born) clock) hr1
    have hb' : (setBlock w1 r (.mapIter (some b) since (seen.push (ent p).born) clock)).heap[b]? = some (.map (L.map ent).toArray clock) := (hset.2 b (fun e1 => hne e1.symm)).trans hb1
    have hbn : ((((L.map ent).toArray).toList).map (·.born)).Nodup := by
      rw [List.toList_toArray, List.map_map]
      exact q4
    refine .inr ⟨p.1, p.2.1, _, _, (q2 _).trans (lk_mem_some q1 hp), hrun, ⟨L, clock, since, seen.push (ent p).born, clock, hb', ⟨q1, q2, q3, q4⟩, hset.1, hold, rfl, fun x hx => ?_, hsk, hsk⟩, left_shrinks _ seen (ent p) he, ?_, ?_, ?_⟩
    · show (left x.1 && !decide (x.1 = p.1)) = _
      rw [hl x hx, contains_push]
      have hiff : decide (x.1 = p.1) = (x.2.2 == (ent p).born) := by
        by_cases e1 : x.1 = p.1
        · have : x = p := nodup_inj q1 hx hp e1
          subst this
          simp [ent]
        · have e2 : ¬ x.2.2 = p.2.2 := fun e2 => e1 (by rw [nodup_inj q4 hx hp e2])
          simp [ent, e1, e2]
      rw [hiff]
      cases seen.contains x.2.2 <;> cases (x.2.2 == (ent p).born) <;> rfl
    · rcases hal with rfl | rfl <;> exact ⟨rfl, rfl, rfl, by simp [setBlock], fun i _ hi => hset.2 i (fun e1 => hi (by rw [e1]))⟩
    · rcases hal with rfl | rfl <;> simp [setBlock]
    · exact run_entry_at _ r b since seen _ clock (ent p) hset.1 hb' (by rw [List.toList_toArray]; exact hem) hbn
section
variable (w : World) {ops : Array Oper} {rest : List Oper} {o : Oper} {a : Act} {Q : Exit → Act → World → Prop}
theorem wpList_range_i (hg : o.guard = none) (m : Operand) (t : TypeId) (hop : o.op = Op.range t m) (k e : TypeId) (ht : Try.prog.underlying t = some (.map k e)) (b : Nat) (f : Int → Option Value)
    (hm : a.eval m = .map (some b)) (hown : IsMap w b f)
    (hK : ∀ w' cnt, Rg w' b w.heap.size f (fun _ => true) cnt → Below w.heap.size w w' → w'.heap.size = w.heap.size + 1 → wpList Try.prog ops Q rest (a.put o.dst (.pointer (some ⟨w.heap.size, 0, none⟩))) w') :
    wpList Try.prog ops Q (o :: rest) a w := by
  refine wpList_plain hg fun K' hK' => ?_
  obtain ⟨w', cnt, hrun, r1, r2, r3⟩ := hown.ranged ht
  unfold Oper.wp
  simp [execOp, hop, hm, hrun, Result.andThen]
  exact hK' _ _ (hK w' cnt r1 r2 r3)
theorem wpList_next_i (hg : o.guard = none) (it : Operand) (hop : o.op = Op.next it false) (b r : Nat) (f : Int → Option Value) (left : Int → Bool) (cnt : Nat) (hit : a.eval it = .pointer (some ⟨r, 0, none⟩)) (h : Rg w b r f left cnt)
    (hDone : (∀ k, f k ≠ none → left k = false) → wpList Try.prog ops Q rest (a.put o.dst (.tuple #[.bool false])) w)
    (hMore : ∀ (k : Int) (v : Value) (w' : World) (cnt' : Nat), f k = some v → Rg w' b r f (fun x => left x && !decide (x = k)) cnt' → cnt' < cnt → w.grownBy w' (some r) → w'.heap.size = w.heap.size → (Instr.entry (.pointer (some ⟨r, 0, none⟩))).run Try.prog w' = .ok (.tuple #[.int .i64 k, v]) w' → wpList Try.prog ops Q rest (a.put o.dst (.tuple #[.bool true, .int .i64 k, v])) w') :
    wpList Try.prog ops Q (o :: rest) a w := by
  refine wpList_plain hg fun K' hK' => ?_
  unfold Oper.wp
  rcases h.next o.type with ⟨h0, hrun⟩ | ⟨k, v, w', cnt', hv, hrun, hrg, hlt, hgr, hsz, hen⟩
  · simp [execOp, hop, hit, hrun, Result.andThen]
    exact hK' _ _ (hDone h0)
  · simp [execOp, hop, hit, hrun, Result.andThen]
    exact hK' _ _ (hMore k v w' cnt' hv hrg hlt hgr hsz hen)
end
end Go.Proofs.Ytajdelinfkodbaa
namespace Go.Proofs.Ytajdelinfkodbaa
open Go.RowKit
set_option maxRecDepth 100000
/-- What the copy's map has while the old one is gone through. -/
structure Clp (F G : Int → Option Value) (left : Int → Bool) : Prop where
  no : ∀ k, F k = none → G k = none
  yes : ∀ k, left k = true → G k = F k
  cut : ∀ k c a n cap, F k = some (.agg #[c, .slice a n cap]) → left k = false → G k = some (.agg #[c, .slice a n n])
theorem Clp.start (F : Int → Option Value) : Clp F F (fun _ => true) := ⟨fun _ h => h, fun _ _ => rfl, fun _ _ _ _ _ _ h => by cases h⟩
theorem agg2s {c c' : Value} {a a' : Option Addr} {n n' p p' : Nat} (h : some (Value.agg #[c, .slice a n p]) = some (Value.agg #[c', .slice a' n' p'])) : c = c' ∧ a = a' ∧ n = n' ∧ p = p' := by
  obtain ⟨h1, h2⟩ := agg2 (Option.some.inj h)
  cases h2
  exact ⟨h1, rfl, rfl, rfl⟩
theorem Clp.step {F G : Int → Option Value} {left : Int → Bool} (h : Clp F G left) {k : Int} {c : Value} {a : Option Addr} {n cap : Nat} (hk : F k = some (.agg #[c, .slice a n cap])) : Clp F (fun i => if i = k then some (.agg #[c, .slice a n n]) else G i) (fun x => left x && !decide (x = k)) := by
  refine ⟨fun i hi => ?_, fun i hi => ?_, fun i c' a' n' cap' hi hl => ?_⟩
  · show (if i = k then _ else G i) = none
    rw [if_neg (fun e => by rw [e, hk] at hi; cases hi)]
    exact h.no i hi
  · simp only [Bool.and_eq_true, Bool.not_eq_true', decide_eq_false_iff_not] at hi
    show (if i = k then _ else G i) = _
    rw [if_neg hi.2]
    exact h.yes i hi.1
  · show (if i = k then _ else G i) = _
    by_cases e : i = k
    · rw [if_pos e]
      rw [e, hk] at hi
      obtain ⟨rfl, rfl, rfl, _⟩ := agg2s hi
      rfl
    · rw [if_neg e]
      refine h.cut i c' a' n' cap' hi ?_
      simpa [e] using hl
theorem tab_nil {w' : World} {N bu : Nat} {R2 : Nat → Prop} {t : Tab} (hg : GoodM t.m t.last) (h0 : 0 ≤ t.first ∧ t.first ≤ t.last ∧ t.last ≤ 1099511627776) (hm : ∀ k, t.m k = ⟨0, []⟩) (hR : ∀ g, R2 g → g < N) (hN : N ≤ bu) (hblk : w'.heap[bu]? = some (tabB t.first t.last none)) : Tb w' (fun g => g = bu) R2 bu t := by
  have lb := lt_of_block' hblk
  refine ⟨⟨none, hblk, hm⟩, rfl, ⟨fun g hg => by rw [hg]; exact lb, fun g hg => by have := hR g hg; omega, fun g hg e => by have := hR g hg; omega, fun g cur e hg hh => ?_⟩, hg, h0⟩
  rw [hg, hblk] at hh
  unfold tabB at hh
  cases hh
  exact .inl rfl
end Go.Proofs.Ytajdelinfkodbaa
