/- Words that are written, one behind the other, are read again. -/
import Derived.Test.YtncfmhlikmibaaaGreatDoorLexL
import Derived.Test.YtncfmhlikmibaaaGreatDoorRep
import Derived.Test.YtncfmhlikmibaaaGreatDoorLxB
namespace Go.Proofs.YtncfmhlikmibaaaGreatDoor
set_option maxRecDepth 100000
/-- Whether a symbol needs no quotes. -/
def plainS (t : List Int) : Bool := decide (t ≠ []) && decide (t.length ≤ 1024) && decide (plLen t = t.length)
/-- How a word is written. -/
def writ (k : Int) (t : List Int) : List Int := if k = 5 then quoteL t else if k = 6 then (if plainS t then 35 :: t else 35 :: quoteL t) else t
theorem qt_dbl (t y : List Int) (hy : y.getD 0 0 ≠ 39) : qtR (dbl t ++ 39 :: y) = some (t, (dbl t).length + 1) := by
  induction t with
  | nil =>
    show qtR (39 :: y) = _
    rw [qtR_cons, if_pos rfl]
    cases y with
    | nil => rfl
    | cons d y => simp only; rw [if_neg (by simpa using hy)]; rfl
  | cons c t ih =>
    by_cases hc : c = 39
    · subst hc
      have e : dbl (39 :: t) = 39 :: 39 :: dbl t := by simp [dbl]
      rw [e, List.cons_append, List.cons_append, qtR_cons, if_pos rfl]
      simp only
      rw [if_pos trivial, ih]
      simp
    · have e : dbl (c :: t) = c :: dbl t := by simp [dbl, hc]
      rw [e, List.cons_append, qtR_cons, if_neg hc, ih]
      simp
theorem qtW_quote (t y : List Int) (hy : y.getD 0 0 ≠ 39) (ht : t.length ≤ 1024) : qtW (quoteL t ++ y) = some (t, (quoteL t).length) := by
  have e : quoteL t ++ y = 39 :: (dbl t ++ 39 :: y) := by simp [quoteL]
  rw [e]
  unfold qtW
  rw [List.drop_succ_cons, List.drop_zero, qt_dbl t y hy]
  simp only
  rw [if_pos ht]
  simp [quoteL]
theorem qtW_short {r t : List Int} {n : Nat} (h : qtW r = some (t, n)) : t.length ≤ 1024 := by
  unfold qtW at h
  split at h
  · cases h
  · split at h
    · cases h; assumption
    · cases h
theorem word_short {rd : List Int → Bool} {r t : List Int} {k : Int} {n : Nat} (h : word rd r = some (k, t, n)) (hk : k = 5 ∨ k = 6) : t.length ≤ 1024 := by
  unfold word at h
  simp only at h
  split at h
  · split at h <;> (cases h; omega)
  · split at h
    · split at h
      · cases h; omega
      · cases h
    · split at h
      · obtain ⟨x, hx, he⟩ := Option.map_eq_some_iff.1 h
        cases he
        exact qtW_short (n := x.2) hx
      · split at h
        · split at h
          · cases h; omega
          · split at h
            · obtain ⟨x, hx, he⟩ := Option.map_eq_some_iff.1 h
              cases he
              exact qtW_short (n := x.2) hx
            · split at h
              · cases h
              · rename_i hb
                cases h
                rw [List.length_take]
                omega
        · split at h
          · cases h; omega
          · split at h
            · split at h <;> (cases h; omega)
            · obtain ⟨x, hx, he⟩ := Option.map_eq_some_iff.1 h
              simp only [Prod.mk.injEq] at he
              omega
theorem loc_app (t y : List Int) (hy : y.getD 0 0 = 32) : Loc t (t ++ y) t.length := by
  refine ⟨by simp, Nat.le_refl _, fun j hj => ?_, .inl (.inr ?_)⟩
  · rw [getD_lt hj, getD_lt (by rw [List.length_append]; omega), List.getElem_append_left hj]
  · simp only [List.getD_eq_getElem?_getD] at hy ⊢
    rw [List.getElem?_append_right (Nat.le_refl _), Nat.sub_self]
    exact hy
theorem pl_head {t : List Int} (h : plLen t = t.length) (hne : t ≠ []) : letB (t.getD 0 0) = true ∨ sgB (t.getD 0 0) = true := by
  have hpos : 0 < t.length := List.length_pos_iff.2 hne
  unfold plLen at h
  split at h
  · right
    rw [sg_eq] at h
    split at h
    · assumption
    · omega
  · rename_i h0
    left
    unfold nmLen at h0
    split at h0
    · assumption
    · exact absurd rfl h0
theorem word_back {rd : List Int → Bool} {c : Int} {r t : List Int} {k : Int} {n : Nat} (hb : blB c = false) (hq : c ≠ 34) (h : word rd (c :: r) = some (k, t, n)) (y : List Int) (hy : y.getD 0 0 = 32) :
    ∃ d q, writ k t = d :: q ∧ blB d = false ∧ d ≠ 34 ∧ word rd (writ k t ++ y) = some (k, t, (writ k t).length) := by
  by_cases h5 : k = 5
  · subst h5
    have ht := word_short h (.inl rfl)
    refine ⟨39, dbl t ++ [39], rfl, by decide, by decide, ?_⟩
    show word rd (quoteL t ++ y) = some (5, t, (quoteL t).length)
    have e := qtW_quote t y (by rw [hy]; decide) ht
    have e0 : (quoteL t ++ y).getD 0 0 = 39 := rfl
    unfold word
    simp only
    rw [e0, if_neg (by decide), if_neg (by decide), if_pos rfl, e]
    rfl
  · by_cases h6 : k = 6
    · subst h6
      have ht := word_short h (.inr rfl)
      cases hp : plainS t with
      | true =>
        have ew : writ 6 t = 35 :: t := by unfold writ; rw [if_neg (by decide), if_pos rfl, hp, if_pos rfl]
        rw [ew]
        refine ⟨35, t, rfl, by decide, by decide, ?_⟩
        unfold plainS at hp
        simp only [Bool.and_eq_true, decide_eq_true_eq] at hp
        obtain ⟨⟨hne, hl⟩, hpl⟩ := hp
        have hpos : 0 < t.length := List.length_pos_iff.2 hne
        have hpl' := pl_loc (loc_app t y hy) hpos hpl
        have e1 : (35 :: t ++ y).getD 1 0 = t.getD 0 0 := by
          cases t with
          | nil => exact absurd rfl hne
          | cons d t => rfl
        have hh := pl_head hpl hne
        have h40 : t.getD 0 0 ≠ 40 := by intro e; rw [e] at hh; exact absurd hh (by decide)
        have h39 : t.getD 0 0 ≠ 39 := by intro e; rw [e] at hh; exact absurd hh (by decide)
        have e0 : (35 :: t ++ y).getD 0 0 = 35 := rfl
        have ed : (35 :: t ++ y).drop 1 = t ++ y := rfl
        unfold word
        simp only
        rw [e0, if_neg (by decide), if_neg (by decide), if_neg (by decide), if_pos rfl, e1, if_neg h40, if_neg h39, ed, hpl', if_neg (by omega), List.take_left']
        · rfl
        · rfl
      | false =>
        have ew : writ 6 t = 35 :: quoteL t := by unfold writ; rw [if_neg (by decide), if_pos rfl, hp, if_neg (by decide)]
        rw [ew]
        refine ⟨35, quoteL t, rfl, by decide, by decide, ?_⟩
        have e := qtW_quote t y (by rw [hy]; decide) ht
        have e0 : (35 :: quoteL t ++ y).getD 0 0 = 35 := rfl
        have e1 : (35 :: quoteL t ++ y).getD 1 0 = 39 := rfl
        have ed : (35 :: quoteL t ++ y).drop 1 = quoteL t ++ y := rfl
        unfold word
        simp only
        rw [e0, if_neg (by decide), if_neg (by decide), if_neg (by decide), if_pos rfl, e1, if_neg (by decide), if_pos rfl, ed, e]
        rfl
    · have ht := word_text h h5 h6
      have hl := word_len (by simp) h
      have ew : writ k t = t := by unfold writ; rw [if_neg h5, if_neg h6]
      rw [ew]
      have hn : t.length = n := by rw [ht, List.length_take]; omega
      obtain ⟨m, hm⟩ : ∃ m, n = m + 1 := ⟨n - 1, by omega⟩
      have htc : t = c :: r.take m := by rw [ht, hm, List.take_succ_cons]
      refine ⟨c, r.take m, htc, hb, hq, ?_⟩
      rw [hn]
      refine word_loc (by simp) h ⟨by rw [List.length_append]; omega, by omega, fun j hj => ?_, .inl (.inr ?_)⟩
      · have h1 : j < t.length := by omega
        rw [getD_lt (by rw [List.length_append]; omega), List.getElem_append_left h1, getD_lt (by omega)]
        have : t[j] = ((c :: r).take n)[j]'(by rw [← ht]; exact h1) := by congr 1
        rw [this, List.getElem_take]
      · simp only [List.getD_eq_getElem?_getD] at hy ⊢
        rw [List.getElem?_append_right (by omega), show n - t.length = 0 by omega]
        exact hy
/-- Words, and the end behind them. -/
def Wl (rd : List Int → Bool) : List Tk → Prop
  | [] => False
  | [t] => t.kind = 0 ∧ t.text = []
  | t :: u :: l => (∃ c r n, blB c = false ∧ c ≠ 34 ∧ word rd (c :: r) = some (t.kind, t.text, n)) ∧ Wl rd (u :: l)
theorem wl_of (rd : List Int → Bool) (ss : List Int) (n : Nat) : ∀ (p : Nat) (ts : List Tk), ss.length - p ≤ n → p ≤ ss.length → lexR rd p (ss.drop p) = .ok ts → Wl rd ts := by
  induction n with
  | zero =>
    intro p ts hn hp h
    have e : p = ss.length := by omega
    subst e
    rw [List.drop_length, lexR_nil] at h
    cases h
    exact ⟨rfl, rfl⟩
  | succ n ih =>
    intro p ts hn hp h
    rcases lex_cases rd ss p hp with ⟨e, h1⟩ | ⟨hlt, hb, h1⟩ | ⟨hlt, h34, j, hi, hj, h1⟩ | ⟨hlt, hb, h34, k, t, m, hw, hm, hml, hk, hk2, h1⟩ | ⟨hlt, h1⟩
    · rw [h1] at h; cases h; exact ⟨rfl, rfl⟩
    · rw [h1] at h; exact ih (p + 1) ts (by omega) (by omega) h
    · rw [h1] at h; exact ih (p + j + 2) ts (by omega) (by omega) h
    · rw [h1] at h
      cases hl : lexR rd (p + m) (ss.drop (p + m)) with
      | error z => rw [hl] at h; cases h
      | ok l =>
        rw [hl] at h
        cases h
        have := ih (p + m) l (by omega) (by omega) hl
        cases l with
        | nil => exact absurd this (by simp [Wl])
        | cons u l =>
          rw [drop_at hlt] at hw
          exact ⟨⟨_, _, _, hb, h34, hw⟩, this⟩
    · rw [h1] at h; cases h
/-- All words, each with a blank behind it. -/
def flatW (l : List Tk) : List Int := l.flatMap fun t => writ t.kind t.text ++ [32]
def kt (t : Tk) : Int × List Int := (t.kind, t.text)
theorem lex_back (rd : List Int → Bool) (l : List Tk) : ∀ p, Wl rd l → ∃ l', lexR rd p (flatW l) = .ok l' ∧ l'.map kt = l.map kt := by
  induction l with
  | nil => intro p h; exact absurd h (by simp [Wl])
  | cons t l ih =>
    intro p h
    cases l with
    | nil =>
      obtain ⟨h1, h2⟩ := h
      have e : flatW [t] = [32] := by
        unfold flatW writ
        rw [List.flatMap_cons, h1, h2]
        rfl
      rw [e, lexR_blank _ _ _ rfl, lexR_nil]
      refine ⟨_, rfl, ?_⟩
      simp only [List.map_cons, List.map_nil, kt, h1, h2]
    | cons u l =>
      obtain ⟨⟨c, r, n, hb, hq, hw⟩, hl⟩ := h
      have ef : flatW (t :: u :: l) = writ t.kind t.text ++ (32 :: flatW (u :: l)) := by
        unfold flatW
        rw [List.flatMap_cons, List.append_assoc]
        rfl
      obtain ⟨d, q, e, hd, hd2, hw2⟩ := word_back hb hq hw (32 :: flatW (u :: l)) rfl
      obtain ⟨l', h1, h2⟩ := ih (p + (writ t.kind t.text).length + 1) hl
      refine ⟨⟨t.kind, t.text, p⟩ :: l', ?_, ?_⟩
      · rw [ef]
        have e2 : writ t.kind t.text ++ (32 :: flatW (u :: l)) = d :: (q ++ (32 :: flatW (u :: l))) := by rw [e]; rfl
        rw [e2] at hw2
        rw [e2, lexR_word _ _ hd hd2 hw2, ← e2, List.drop_left, lexR_blank _ _ _ rfl, h1]
        rfl
      · rw [List.map_cons, List.map_cons, h2]
        rfl
end Go.Proofs.YtncfmhlikmibaaaGreatDoor
namespace Go.Proofs.YtncfmhlikmibaaaGreatDoor
open Go.RowKit
set_option maxRecDepth 100000
def plainN (t : List Int) : Bool := decide (t ≠ []) && decide (nmLen t = t.length)
theorem str_ne {ss : List Int} (h : ss ≠ []) : (strOfNums ss).toList.isEmpty = false := by
  rw [Lib.strOfNums_toList]
  cases ss with
  | nil => exact absurd rfl h
  | cons c r => rfl
set_option maxHeartbeats 4000000 in
theorem plainName_is (ss : List Int) (w : World) (hb : ∀ x ∈ ss, 0 ≤ x ∧ x < 256) (hm : ss.length ≤ 9223372036854775806) : Calls Tryz.prog 35 #[.string (strOfNums ss)] w fun e w' => e = .returned (.bool (plainN ss)) ∧ w = w' := by
  have hsz : (strOfNums ss).size = ss.length := strOfNums_size ss
  by_cases h0 : ss = []
  · subst h0
    have e : strOfNums [] = ⟨#[]⟩ := rfl
    rw [e]
    go_enter Tryz.func35, Tryz.ntmps35
    go_wp2
    go_ret
    exact ⟨rfl, rfl⟩
  · have hne := str_ne h0
    have hc := fun w => nameEnd_any ss 0 w hb hm (Nat.zero_le _)
    rw [List.drop_zero, Nat.zero_add, Int.natCast_zero] at hc
    have ep : plainN ss = ((nmLen ss : Int) == (ss.length : Int)) := by
      unfold plainN
      rw [decide_eq_true h0, Bool.true_and, Bool.eq_iff_iff, beq_iff_eq, decide_eq_true_eq]
      omega
    rw [ep]
    generalize nmLen ss = n at *
    go_enter Tryz.func35, Tryz.ntmps35
    go_wp2_with fail
    refine (hc _).mono ?_
    rintro e w2 ⟨rfl, rfl⟩
    go_wp2
    go_ret
    exact ⟨rfl, rfl⟩
set_option maxHeartbeats 4000000 in
theorem plainSymbol_is (ss : List Int) (w : World) (hb : ∀ x ∈ ss, 0 ≤ x ∧ x < 256) : Calls Tryz.prog 84 #[.string (strOfNums ss)] w fun e w' => e = .returned (.bool (plainS ss)) ∧ Below w.heap.size w w' := by
  have hsz : (strOfNums ss).size = ss.length := strOfNums_size ss
  by_cases h0 : ss = []
  · subst h0
    have e : strOfNums [] = ⟨#[]⟩ := rfl
    rw [e]
    go_enter Tryz.func84, Tryz.ntmps84
    go_wp2
    go_ret
    exact ⟨rfl, Below.refl _ _⟩
  · have hne := str_ne h0
    by_cases hl : ss.length ≤ 1024
    · have hlI : (ss.length : Int) ≤ 1024 := by omega
      have hc := fun w => plainEnd_any ss 0 w hb (by omega) (Nat.zero_le _)
      rw [List.drop_zero, Nat.zero_add, Int.natCast_zero] at hc
      have ep : plainS ss = ((plLen ss : Int) == (ss.length : Int)) := by
        unfold plainS
        rw [decide_eq_true h0, decide_eq_true hl, Bool.true_and, Bool.true_and, Bool.eq_iff_iff, beq_iff_eq, decide_eq_true_eq]
        omega
      rw [ep]
      generalize plLen ss = n at *
      go_enter Tryz.func84, Tryz.ntmps84
      go_wp2_with fail
      refine (hc _).mono ?_
      rintro e w2 ⟨rfl, hB⟩
      go_wp2
      go_ret
      exact ⟨rfl, hB⟩
    · have hlI : ¬ (ss.length : Int) ≤ 1024 := by omega
      have ep : plainS ss = false := by
        unfold plainS
        rw [decide_eq_false hl, Bool.and_false, Bool.false_and]
      rw [ep]
      go_enter Tryz.func84, Tryz.ntmps84
      go_wp2
      go_ret
      exact ⟨rfl, Below.refl _ _⟩
theorem quote_len (t : List Int) : (quoteL t).length ≤ 2 * t.length + 2 := by
  unfold quoteL
  rw [List.length_cons, List.length_append, dbl_len]
  have := List.count_le_length (a := (39 : Int)) (l := t)
  simp
  omega
theorem writ_len (k : Int) (t : List Int) : (writ k t).length ≤ 2 * t.length + 3 := by
  unfold writ
  have := quote_len t
  split
  · omega
  · split
    · split <;> (rw [List.length_cons]; omega)
    · omega
theorem quote_bytes {t : List Int} (hb : ∀ x ∈ t, 0 ≤ x ∧ x < 256) : ∀ x ∈ quoteL t, 0 ≤ x ∧ x < 256 := by
  intro x hx
  unfold quoteL at hx
  rcases List.mem_cons.1 hx with rfl | hx
  · omega
  · rcases List.mem_append.1 hx with hx | hx
    · exact hb x (dbl_mem hx)
    · obtain rfl : x = 39 := by simpa using hx
      omega
theorem writ_bytes {k : Int} {t : List Int} (hb : ∀ x ∈ t, 0 ≤ x ∧ x < 256) : ∀ x ∈ writ k t, 0 ≤ x ∧ x < 256 := by
  intro x hx
  unfold writ at hx
  split at hx
  · exact quote_bytes hb x hx
  · split at hx
    · split at hx
      · rcases List.mem_cons.1 hx with rfl | hx
        · omega
        · exact hb x hx
      · rcases List.mem_cons.1 hx with rfl | hx
        · omega
        · exact quote_bytes hb x hx
    · exact hb x hx
theorem lit35 : (⟨#[35]⟩ : ByteArray) = strOfNums [35] := rfl
end Go.Proofs.YtncfmhlikmibaaaGreatDoor
