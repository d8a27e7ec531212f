/- What All answers; Serial finds nothing in it. -/
import Derived.Test.YtigmpmichhghdaaTkn
namespace Go.Proofs.Ytigmpmichhghdaa
open Go.RowKit
set_option maxRecDepth 100000
/-- One more transaction. -/
def stepA (s : List Tx × Int) (t : Tx) : List Tx × Int :=
  if t.base < 0 ∨ 1099511627776 < t.base ∨ chkR s.1 t.base t.rs t.ws ≠ none then s else (s.1 ++ [⟨t.base, max s.2 t.base + 1, t.rs, t.ws⟩], max s.2 t.base + 1)
def allA (ds : List Tx) : List Tx × Int := ds.foldl stepA ([], 0)
theorem allA_snoc (ds : List Tx) (t : Tx) : allA (ds ++ [t]) = stepA (allA ds) t := by unfold allA; rw [List.foldl_append]; rfl
theorem stepA_no {s : List Tx × Int} {t : Tx} (h : t.base < 0 ∨ 1099511627776 < t.base ∨ chkR s.1 t.base t.rs t.ws ≠ none) : stepA s t = s := if_pos h
theorem stepA_yes {s : List Tx × Int} {t : Tx} (h : ¬ (t.base < 0 ∨ 1099511627776 < t.base ∨ chkR s.1 t.base t.rs t.ws ≠ none)) : stepA s t = (s.1 ++ [⟨t.base, max s.2 t.base + 1, t.rs, t.ws⟩], max s.2 t.base + 1) := if_neg h
theorem clB_any {ds : List Tx} {base : Int} {top : Option Int} {o : Int} : clB ds base top o = true ↔ ∃ d ∈ ds, base < d.com ∧ (∀ t, top = some t → d.com < t) ∧ o ∈ d.ws := by
  unfold clB
  rw [List.any_eq_true]
  constructor
  · rintro ⟨d, hd, h⟩
    simp only [Bool.and_eq_true, decide_eq_true_eq] at h
    refine ⟨d, hd, h.1.1, fun t ht => ?_, h.2⟩
    subst ht
    simpa using h.1.2
  · rintro ⟨d, hd, h1, h2, h3⟩
    refine ⟨d, hd, ?_⟩
    cases top with
    | none => simp [h1, h3]
    | some t => simp [h1, h3, h2 t rfl]
theorem leastO_nil {l : List Int} (h : leastO l = none) : l = [] := by cases l with
  | nil => rfl
  | cons x r => simp [leastO] at h
theorem serR_none {ds : List Tx} {t : Tx} : serR ds t = none ↔ ∀ o ∈ t.rs ++ t.ws, clB ds t.base (some t.com) o = false := by
  unfold serR
  constructor
  · intro h o ho
    have h1 := leastO_nil h
    rw [List.filter_eq_nil_iff] at h1
    simpa using h1 o ho
  · intro h
    have : (t.rs ++ t.ws).filter (clB ds t.base (some t.com)) = [] := by
      rw [List.filter_eq_nil_iff]
      intro o ho
      rw [h o ho]
      decide
    rw [this]
    rfl
/-- What holds of All's answer all along. -/
structure AllI (k : Nat) (s : List Tx × Int) : Prop where
  lo : 0 ≤ s.2
  hi : s.2 ≤ 1099511627776 + k
  com : ∀ d ∈ s.1, d.com ≤ s.2
  ser : ∀ t ∈ s.1, serR s.1 t = none
  len : s.1.length ≤ k
theorem AllI.step {k : Nat} {s : List Tx × Int} (h : AllI k s) (t : Tx) : AllI (k + 1) (stepA s t) := by
  have h1 := h.lo
  have h2 := h.hi
  have h3 := h.len
  by_cases hc : t.base < 0 ∨ 1099511627776 < t.base ∨ chkR s.1 t.base t.rs t.ws ≠ none
  · rw [stepA_no hc]
    exact ⟨h1, by omega, h.com, h.ser, by omega⟩
  · rw [stepA_yes hc]
    have hb : ¬ 1099511627776 < t.base := fun e => hc (.inr (.inl e))
    have hk : chkR s.1 t.base t.rs t.ws = none := Decidable.byContradiction (fun e => hc (.inr (.inr e)))
    refine ⟨by show (0 : Int) ≤ max s.2 t.base + 1; omega, by show max s.2 t.base + 1 ≤ 1099511627776 + ((k + 1 : Nat) : Int); omega, fun d hd => ?_, fun u hu => ?_, by simp; omega⟩
    · show d.com ≤ max s.2 t.base + 1
      rcases List.mem_append.1 hd with hd | hd
      · have := h.com d hd
        omega
      · rw [List.mem_singleton] at hd
        subst hd
        exact Int.le_refl _
    · rw [serR_none]
      intro o ho
      rw [Bool.eq_false_iff]
      intro hcl
      obtain ⟨d, hd, q1, q2, q3⟩ := clB_any.1 hcl
      have q2 := q2 _ rfl
      rcases List.mem_append.1 hu with hu | hu
      · have hu2 := h.com u hu
        rcases List.mem_append.1 hd with hd | hd
        · have := serR_none.1 (h.ser u hu) o ho
          rw [Bool.eq_false_iff] at this
          exact this (clB_any.2 ⟨d, hd, q1, fun z hz => (by cases hz; exact q2), q3⟩)
        · rw [List.mem_singleton] at hd
          subst hd
          have : max s.2 t.base + 1 < u.com := q2
          omega
      · rw [List.mem_singleton] at hu
        subst hu
        rcases List.mem_append.1 hd with hd | hd
        · unfold chkR at hk
          have h4 := leastO_nil hk
          rw [List.filter_eq_nil_iff] at h4
          exact h4 o ho (clB_any.2 ⟨d, hd, q1, fun z hz => (by cases hz), q3⟩)
        · rw [List.mem_singleton] at hd
          subst hd
          exact absurd q2 (Int.lt_irrefl _)
theorem allI_all (ds : List Tx) : ∀ k, AllI k (allA (ds.take k)) := by
  intro k
  induction k with
  | zero => exact ⟨by simp [allA], by simp [allA], by simp [allA], by simp [allA], by simp [allA]⟩
  | succ k ih =>
    by_cases hk : k < ds.length
    · rw [take_at (List.getElem?_eq_getElem hk), allA_snoc]
      exact ih.step _
    · have e : ds.take (k + 1) = ds.take k := by rw [List.take_of_length_le (by omega), List.take_of_length_le (by omega)]
      rw [e]
      exact ⟨ih.lo, by have := ih.hi; omega, ih.com, ih.ser, by have := ih.len; omega⟩
theorem serA_none {ds : List Tx} : ∀ (l : List Tx) (k : Nat), (∀ t ∈ l, serR ds t = none) → serA ds k l = .tuple #[.int .i64 ((k + l.length : Nat) : Int), .int .i64 0, .bool true]
  | [], k, _ => rfl
  | t :: r, k, h => by
    show (match serR ds t with | some n => _ | none => _) = _
    rw [h t (List.mem_cons_self ..)]
    show serA ds (k + 1) r = _
    rw [serA_none r (k + 1) (fun u hu => h u (List.mem_cons_of_mem _ hu)), List.length_cons, show k + 1 + r.length = k + (r.length + 1) by omega]
theorem serA_all (ds : List Tx) : serA (allA ds).1 0 (allA ds).1 = .tuple #[.int .i64 ((allA ds).1.length : Int), .int .i64 0, .bool true] := by
  have h := (allI_all ds ds.length).ser
  rw [List.take_length] at h
  rw [serA_none _ 0 h, Nat.zero_add]
end Go.Proofs.Ytigmpmichhghdaa
