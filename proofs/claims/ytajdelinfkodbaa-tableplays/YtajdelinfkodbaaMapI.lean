/- Maps of ints as functions: what a look-up tells, what a store and a delete leave. -/
import Derived.Maps.Own
import Derived.Maps.Range
namespace Go.Proofs.Ytajdelinfkodbaa
open Go.RowKit Go.ChangeMaps

/-- An entry of a map of ints. -/
def ent (p : Int × Value × Nat) : MapEntry := ⟨.int .i64 p.1, p.2.1, p.2.2⟩
/-- What stands under a key. -/
def lk : List (Int × Value × Nat) → Int → Option Value
  | [], _ => none
  | p :: r, k => if p.1 = k then some p.2.1 else lk r k
theorem find_ent (k : Int) : ∀ (L : List (Int × Value × Nat)) (i : Nat), Instr.findNow (.int .i64) (.int .i64 k) (L.map ent) i = some ((L.findIdx? (fun p => decide (p.1 = k))).map fun j => (i + j, ((lk L k).getD undef)))
  | [], i => rfl
  | p :: r, i => by
    show (match Instr.sameNow (.int .i64) (.int .i64 k) (ent p).key with | some true => _ | some false => _ | none => _) = _
    by_cases h : p.1 = k
    · have h1 : Instr.sameNow (.int .i64) (.int .i64 k) (ent p).key = some true := by simp [Instr.sameNow, ent, h]
      rw [h1]
      simp [List.findIdx?_cons, h, lk, ent]
    · have h1 : Instr.sameNow (.int .i64) (.int .i64 k) (ent p).key = some false := by simp [Instr.sameNow, ent]; omega
      rw [h1]
      show Instr.findNow _ _ (r.map ent) (i + 1) = _
      rw [find_ent k r (i + 1)]
      simp only [List.findIdx?_cons, h, decide_false, lk, if_false]
      congr 1
      cases r.findIdx? (fun p => decide (p.1 = k)) with
      | none => rfl
      | some j => simp; omega
theorem lk_none {k : Int} : ∀ {L : List (Int × Value × Nat)}, L.findIdx? (fun p => decide (p.1 = k)) = none ↔ lk L k = none
  | [] => by simp [lk]
  | p :: r => by
    by_cases h : p.1 = k
    · simp [List.findIdx?_cons, h, lk]
    · simp only [List.findIdx?_cons, h, decide_false, lk, if_false]
      rw [← lk_none (k := k) (L := r)]
      cases r.findIdx? (fun p => decide (p.1 = k)) <;> simp
theorem lk_some {k : Int} {L : List (Int × Value × Nat)} {j : Nat} (h : L.findIdx? (fun p => decide (p.1 = k)) = some j) : ∃ v b, L[j]? = some (k, v, b) ∧ lk L k = some v := by
  induction L generalizing j with
  | nil => simp at h
  | cons p r ih =>
    by_cases hp : p.1 = k
    · simp [List.findIdx?_cons, hp] at h
      subst h
      exact ⟨p.2.1, p.2.2, by simp [← hp], by simp [lk, hp]⟩
    · simp only [List.findIdx?_cons, hp, decide_false] at h
      cases hr : r.findIdx? (fun p => decide (p.1 = k)) with
      | none => rw [hr] at h; simp at h
      | some i =>
        rw [hr] at h
        simp at h
        subst h
        obtain ⟨v, b, h1, h2⟩ := ih hr
        exact ⟨v, b, by simpa using h1, by simpa [lk, hp] using h2⟩

/-- A map of ints, as a function. -/
def IsMap (w : World) (b : Nat) (f : Int → Option Value) : Prop :=
  ∃ (L : List (Int × Value × Nat)) (clock : Nat), w.heap[b]? = some (.map (L.map ent).toArray clock) ∧ (L.map (·.1)).Nodup ∧ (∀ k, f k = lk L k) ∧ (∀ p ∈ L, p.2.2 < clock) ∧ (L.map (·.2.2)).Nodup

theorem IsMap.lt {w : World} {b : Nat} {f : Int → Option Value} (h : IsMap w b f) : b < w.heap.size := by
  obtain ⟨L, c, hb, _⟩ := h
  exact (Array.getElem?_eq_some_iff.1 hb).1
theorem IsMap.made (w : World) : IsMap (w.alloc (.map #[] 0)) w.heap.size (fun _ => none) := ⟨[], 0, (MapKept.heap_alloc w _).1, by simp, fun _ => rfl, by simp, by simp⟩
theorem IsMap.same {w w' : World} {b : Nat} {f : Int → Option Value} (h : IsMap w b f) (e : w'.heap[b]? = w.heap[b]?) : IsMap w' b f := by
  obtain ⟨L, c, hb, hn, hf, hq⟩ := h
  exact ⟨L, c, e.trans hb, hn, hf, hq⟩
theorem IsMap.ext {w : World} {b : Nat} {f g : Int → Option Value} (h : IsMap w b f) (e : ∀ k, g k = f k) : IsMap w b g := by
  obtain ⟨L, c, hb, hn, hf, hq⟩ := h
  exact ⟨L, c, hb, hn, fun k => (e k).trans (hf k), hq⟩

theorem run_findKey {P : Program} {w : World} {kt : TypeId} (hk : P.underlying kt = some (.int .i64)) (k : Int) (L : List (Int × Value × Nat)) :
    (Instr.findKey kt (.int .i64 k) (L.map ent)).run P w = .ok ((L.findIdx? (fun p => decide (p.1 = k))).map fun j => (j, ((lk L k).getD undef))) w := by
  have h := find_ent k L 0
  simp only [Nat.zero_add] at h
  simp [Instr.findKey, run_underlying hk, h, Result.andThen]
theorem run_checkKey {P : Program} {w : World} {kt : TypeId} (hk : P.underlying kt = some (.int .i64)) (e : Bool) (k : Int) : (Instr.checkKey e 10000 kt (.int .i64 k)).run P w = .ok () w := by
  unfold Instr.checkKey
  simp [run_underlying hk, Result.andThen]

/-- A look-up. -/
theorem IsMap.lookup {P : Program} {w : World} {b : Nat} {f : Int → Option Value} (h : IsMap w b f) {t kt et : TypeId} (ht : P.underlying t = some (.map kt et)) (hk : P.underlying kt = some (.int .i64)) {z : Value} (hz : (zeroValue et).run P w = .ok z w) (k : Int) :
    (Instr.lookup t (.map (some b)) (.int .i64 k) false).run P w = .ok ((f k).getD z) w := by
  obtain ⟨L, c, hb, hn, hf, _⟩ := h
  rw [hf]
  cases hi : L.findIdx? (fun p => decide (p.1 = k)) with
  | none =>
    rw [lk_none.1 hi]
    simp [Instr.lookup, run_underlying ht, MapKept.run_getObj_map hb, run_checkKey hk, run_findKey hk, hi, hz, Result.andThen]
  | some j =>
    obtain ⟨v, _, _, hv⟩ := lk_some hi
    simp [Instr.lookup, run_underlying ht, MapKept.run_getObj_map hb, run_checkKey hk, run_findKey hk, hi, hv, Result.andThen]

theorem lk_append (k : Int) (p : Int × Value × Nat) : ∀ (L : List (Int × Value × Nat)), lk (L ++ [p]) k = (lk L k).or (if p.1 = k then some p.2.1 else none)
  | [] => by simp [lk]
  | q :: r => by
    by_cases h : q.1 = k
    · simp [lk, h]
    · simp [lk, h, lk_append k p r]
theorem lk_mem {k : Int} {L : List (Int × Value × Nat)} (h : lk L k = none) : k ∉ L.map (·.1) := by
  induction L with
  | nil => simp
  | cons p r ih =>
    unfold lk at h
    by_cases hp : p.1 = k
    · rw [if_pos hp] at h; cases h
    · rw [if_neg hp] at h
      simp only [List.map_cons, List.mem_cons, not_or]
      exact ⟨fun e => hp e.symm, ih h⟩
theorem lk_in {k : Int} {v : Value} {L : List (Int × Value × Nat)} (h : lk L k = some v) : k ∈ L.map (·.1) := by
  induction L with
  | nil => cases h
  | cons p r ih =>
    unfold lk at h
    by_cases hp : p.1 = k
    · simp [hp]
    · rw [if_neg hp] at h
      exact List.mem_cons_of_mem _ (ih h)
theorem lk_modify {k : Int} (v : Value) {L : List (Int × Value × Nat)} {j : Nat} {x : Int × Value × Nat} (hj : L[j]? = some x) (hx : x.1 = k) (hn : (L.map (·.1)).Nodup) : ∀ i, lk (L.modify j fun p => (p.1, v, p.2.2)) i = if i = k then some v else lk L i := by
  induction L generalizing j with
  | nil => simp at hj
  | cons p r ih =>
    intro i
    simp only [List.map_cons, List.nodup_cons] at hn
    cases j with
    | zero =>
      simp at hj
      subst hj
      simp only [List.modify_zero_cons, lk, hx]
      by_cases h : i = k
      · subst h; simp
      · rw [if_neg (fun e => h e.symm), if_neg h, if_neg (fun e => h e.symm)]
    | succ j =>
      simp at hj
      have hne : p.1 ≠ k := fun e => hn.1 (by rw [e, ← hx]; exact List.mem_map_of_mem (List.mem_of_getElem? hj))
      simp only [List.modify_succ_cons, lk]
      by_cases h : p.1 = i
      · rw [if_pos h, if_pos h, if_neg (fun e => hne (h.trans e))]
      · rw [if_neg h, if_neg h, ih hj hn.2 i]
theorem ent_push (L : List (Int × Value × Nat)) (k : Int) (v : Value) (c : Nat) : ((L.map ent).toArray.push ⟨.int .i64 k, v, c⟩) = ((L ++ [(k, v, c)]).map ent).toArray := by simp [ent]
/-- A store. -/
theorem IsMap.update {P : Program} {w : World} {b : Nat} {f : Int → Option Value} (h : IsMap w b f) {t kt et : TypeId} (ht : P.underlying t = some (.map kt et)) (hk : P.underlying kt = some (.int .i64)) (k : Int) (v : Value) :
    ∃ w', (Instr.mapUpdate t (.map (some b)) (.int .i64 k) v).run P w = .ok () w' ∧ IsMap w' b (fun i => if i = k then some v else f i) ∧ w.grownBy w' (some b) := by
  obtain ⟨L, c, hb, hn, hf, hq1, hq2⟩ := h
  have hgrow : ∀ o, w.grownBy (setBlock w b o) (some b) := fun o => ⟨rfl, rfl, rfl, by simp [setBlock], fun i _ hi => heap_setBlock_other hb _ (fun e => hi (by rw [e]))⟩
  cases hi : L.findIdx? (fun p => decide (p.1 = k)) with
  | none =>
    have hl := lk_none.1 hi
    refine ⟨setBlock w b (.map ((L ++ [(k, v, c)]).map ent).toArray (c + 1)), ?_, ⟨L ++ [(k, v, c)], c + 1, heap_setBlock_same hb _, ?_, fun i => ?_, ?_, ?_⟩, hgrow _⟩
    · rw [← ent_push]
      simp [Instr.mapUpdate, run_underlying ht, MapKept.run_getObj_map hb, run_checkKey hk, run_findKey hk, hi, MapKept.run_setObj_map _ hb, Result.andThen, setBlock]
    · rw [List.map_append, List.nodup_append]
      refine ⟨hn, by simp, fun a ha b hb => ?_⟩
      simp at hb
      subst hb
      exact fun e => lk_mem hl (e ▸ ha)
    · rw [lk_append]
      show (if i = k then some v else f i) = _
      rw [hf]
      by_cases e : i = k
      · subst e; rw [hl]; simp
      · have e2 : ¬ k = i := fun e' => e e'.symm
        simp [e, e2]
    · intro p hp
      rcases List.mem_append.1 hp with hp | hp
      · exact Nat.lt_succ_of_lt (hq1 p hp)
      · rw [List.mem_singleton] at hp; subst hp; exact Nat.lt_succ_self _
    · rw [List.map_append, List.nodup_append]
      refine ⟨hq2, by simp, fun a ha b hb => ?_⟩
      simp at hb
      subst hb
      obtain ⟨p, hp, rfl⟩ := List.mem_map.1 ha
      exact Nat.ne_of_lt (hq1 p hp)
  | some j =>
    obtain ⟨v0, b0, hj, hl⟩ := lk_some hi
    have hjs : j < L.length := (List.getElem?_eq_some_iff.1 hj).1
    refine ⟨setBlock w b (.map ((L.modify j fun p => (p.1, v, p.2.2)).map ent).toArray c), ?_, ⟨_, c, heap_setBlock_same hb _, ?_, fun i => ?_, ?_, ?_⟩, hgrow _⟩
    · have hkey : (((L.map ent).toArray[j]?).map (·.key)).getD (.int .i64 k) = .int .i64 k := by simp [hj, ent]
      have hst : (Instr.keyThatStays (.int .i64 k) (.int .i64 k)).run P w = .ok (.int .i64 k) w := by simp [Instr.keyThatStays, Instr.sameBits]
      have hm : ((L.modify j fun p => (p.1, v, p.2.2)).map ent).toArray = (L.map ent).toArray.modify j fun e => { e with key := .int .i64 k, val := v } := by
        apply Array.ext'
        rw [Array.toList_modify]
        apply List.ext_getElem?
        intro m
        simp only [List.getElem?_map, List.getElem?_modify]
        by_cases e : j = m
        · subst e
          simp [hj, ent]
        · simp [e]
      rw [hm]
      simp only [Instr.mapUpdate]
      simp [run_underlying ht, MapKept.run_getObj_map hb, run_checkKey hk, run_findKey hk, hi, hj, ent, hst, MapKept.run_setObj_map _ hb, Result.andThen, setBlock]
    · have : (L.modify j fun p => (p.1, v, p.2.2)).map (·.1) = L.map (·.1) := by
        apply List.ext_getElem?
        intro m
        simp only [List.getElem?_map, List.getElem?_modify]
        by_cases e : j = m
        · subst e; simp [hj]
        · simp [e]
      rw [this]
      exact hn
    · rw [lk_modify v hj rfl hn]
      show (if i = k then some v else f i) = _
      rw [hf]
    · intro p hp
      obtain ⟨m, hm⟩ := List.mem_iff_getElem?.1 hp
      rw [List.getElem?_modify] at hm
      by_cases e : j = m
      · subst e
        rw [hj] at hm
        simp at hm
        subst hm
        exact hq1 (k, v0, b0) (List.mem_of_getElem? hj)
      · simp [e] at hm
        exact hq1 p (List.mem_of_getElem? hm)
    · have : (L.modify j fun p => (p.1, v, p.2.2)).map (·.2.2) = L.map (·.2.2) := by
        apply List.ext_getElem?
        intro m
        simp only [List.getElem?_map, List.getElem?_modify]
        by_cases e : j = m
        · subst e; simp [hj]
        · simp [e]
      rw [this]
      exact hq2

end Go.Proofs.Ytajdelinfkodbaa
