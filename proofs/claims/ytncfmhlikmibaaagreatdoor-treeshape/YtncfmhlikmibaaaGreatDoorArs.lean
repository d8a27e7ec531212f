/- Words that are written, one behind the other, are read again. -/
import Derived.Test.YtncfmhlikmibaaaGreatDoorLexL
import Derived.Test.YtncfmhlikmibaaaGreatDoorRep
import Derived.Test.YtncfmhlikmibaaaGreatDoorLxB
import Derived.Test.YtncfmhlikmibaaaGreatDoorRxB
import Derived.Test.YtncfmhlikmibaaaGreatDoorShpM
import Derived.Lib.OthersKept
import Derived.Lib.DecodeN
namespace Go.Proofs.YtncfmhlikmibaaaGreatDoor
set_option maxRecDepth 100000
/-- Whether a symbol needs no quotes. -/
def plainS (t : List Int) : Bool := decide (t ≠ []) && decide (t.length ≤ 1024) && decide (plLen t = t.length)
/-- How a word is written. -/
def writ (k : Int) (t : List Int) : List Int := if k = 5 then quoteL t else if k = 6 then (if plainS t then 35 :: t else 35 :: quoteL t) else t
theorem qt_dbl (t y : List Int) (hy : y.getD 0 0 ≠ 39) : qtR (dbl t ++ 39 :: y) = some (t, (dbl t).length + 1) := by
  induction t with
  | nil =>
    show qtR (39 :: y) = _
    rw [qtR_cons, if_pos rfl]
    cases y with
    | nil => rfl
    | cons d y => simp only; rw [if_neg (by simpa using hy)]; rfl
  | cons c t ih =>
    by_cases hc : c = 39
    · subst hc
      have e : dbl (39 :: t) = 39 :: 39 :: dbl t := by simp [dbl]
      rw [e, List.cons_append, List.cons_append, qtR_cons, if_pos rfl]
      simp only
      rw [if_pos trivial, ih]
      simp
    · have e : dbl (c :: t) = c :: dbl t := by simp [dbl, hc]
      rw [e, List.cons_append, qtR_cons, if_neg hc, ih]
      simp
theorem qtW_quote (t y : List Int) (hy : y.getD 0 0 ≠ 39) (ht : t.length ≤ 1024) : qtW (quoteL t ++ y) = some (t, (quoteL t).length) := by
  have e : quoteL t ++ y = 39 :: (dbl t ++ 39 :: y) := by simp [quoteL]
  rw [e]
  unfold qtW
  rw [List.drop_succ_cons, List.drop_zero, qt_dbl t y hy]
  simp only
  rw [if_pos ht]
  simp [quoteL]
theorem qtW_short {r t : List Int} {n : Nat} (h : qtW r = some (t, n)) : t.length ≤ 1024 := by
  unfold qtW at h
  split at h
  · cases h
  · split at h
    · cases h; assumption
    · cases h
theorem word_short {rd : List Int → Bool} {r t : List Int} {k : Int} {n : Nat} (h : word rd r = some (k, t, n)) (hk : k = 5 ∨ k = 6) : t.length ≤ 1024 := by
  unfold word at h
  simp only at h
  split at h
  · split at h <;> (cases h; omega)
  · split at h
    · split at h
      · cases h; omega
      · cases h
    · split at h
      · obtain ⟨x, hx, he⟩ := Option.map_eq_some_iff.1 h
        cases he
        exact qtW_short (n := x.2) hx
      · split at h
        · split at h
          · cases h; omega
          · split at h
            · obtain ⟨x, hx, he⟩ := Option.map_eq_some_iff.1 h
              cases he
              exact qtW_short (n := x.2) hx
            · split at h
              · cases h
              · rename_i hb
                cases h
                rw [List.length_take]
                omega
        · split at h
          · cases h; omega
          · split at h
            · split at h <;> (cases h; omega)
            · obtain ⟨x, hx, he⟩ := Option.map_eq_some_iff.1 h
              simp only [Prod.mk.injEq] at he
              omega
theorem loc_app (t y : List Int) (hy : y.getD 0 0 = 32) : Loc t (t ++ y) t.length := by
  refine ⟨by simp, Nat.le_refl _, fun j hj => ?_, .inl (.inr ?_)⟩
  · rw [getD_lt hj, getD_lt (by rw [List.length_append]; omega), List.getElem_append_left hj]
  · simp only [List.getD_eq_getElem?_getD] at hy ⊢
    rw [List.getElem?_append_right (Nat.le_refl _), Nat.sub_self]
    exact hy
theorem pl_head {t : List Int} (h : plLen t = t.length) (hne : t ≠ []) : letB (t.getD 0 0) = true ∨ sgB (t.getD 0 0) = true := by
  have hpos : 0 < t.length := List.length_pos_iff.2 hne
  unfold plLen at h
  split at h
  · right
    rw [sg_eq] at h
    split at h
    · assumption
    · omega
  · rename_i h0
    left
    unfold nmLen at h0
    split at h0
    · assumption
    · exact absurd rfl h0
theorem word_back {rd : List Int → Bool} {c : Int} {r t : List Int} {k : Int} {n : Nat} (hb : blB c = false) (hq : c ≠ 34) (h : word rd (c :: r) = some (k, t, n)) (y : List Int) (hy : y.getD 0 0 = 32) :
    ∃ d q, writ k t = d :: q ∧ blB d = false ∧ d ≠ 34 ∧ word rd (writ k t ++ y) = some (k, t, (writ k t).length) := by
  by_cases h5 : k = 5
  · subst h5
    have ht := word_short h (.inl rfl)
    refine ⟨39, dbl t ++ [39], rfl, by decide, by decide, ?_⟩
    show word rd (quoteL t ++ y) = some (5, t, (quoteL t).length)
    have e := qtW_quote t y (by rw [hy]; decide) ht
    have e0 : (quoteL t ++ y).getD 0 0 = 39 := rfl
    unfold word
    simp only
    rw [e0, if_neg (by decide), if_neg (by decide), if_pos rfl, e]
    rfl
  · by_cases h6 : k = 6
    · subst h6
      have ht := word_short h (.inr rfl)
      cases hp : plainS t with
      | true =>
        have ew : writ 6 t = 35 :: t := by unfold writ; rw [if_neg (by decide), if_pos rfl, hp, if_pos rfl]
        rw [ew]
        refine ⟨35, t, rfl, by decide, by decide, ?_⟩
        unfold plainS at hp
        simp only [Bool.and_eq_true, decide_eq_true_eq] at hp
        obtain ⟨⟨hne, hl⟩, hpl⟩ := hp
        have hpos : 0 < t.length := List.length_pos_iff.2 hne
        have hpl' := pl_loc (loc_app t y hy) hpos hpl
        have e1 : (35 :: t ++ y).getD 1 0 = t.getD 0 0 := by
          cases t with
          | nil => exact absurd rfl hne
          | cons d t => rfl
        have hh := pl_head hpl hne
        have h40 : t.getD 0 0 ≠ 40 := by intro e; rw [e] at hh; exact absurd hh (by decide)
        have h39 : t.getD 0 0 ≠ 39 := by intro e; rw [e] at hh; exact absurd hh (by decide)
        have e0 : (35 :: t ++ y).getD 0 0 = 35 := rfl
        have ed : (35 :: t ++ y).drop 1 = t ++ y := rfl
        unfold word
        simp only
        rw [e0, if_neg (by decide), if_neg (by decide), if_neg (by decide), if_pos rfl, e1, if_neg h40, if_neg h39, ed, hpl', if_neg (by omega), List.take_left']
        · rfl
        · rfl
      | false =>
        have ew : writ 6 t = 35 :: quoteL t := by unfold writ; rw [if_neg (by decide), if_pos rfl, hp, if_neg (by decide)]
        rw [ew]
        refine ⟨35, quoteL t, rfl, by decide, by decide, ?_⟩
        have e := qtW_quote t y (by rw [hy]; decide) ht
        have e0 : (35 :: quoteL t ++ y).getD 0 0 = 35 := rfl
        have e1 : (35 :: quoteL t ++ y).getD 1 0 = 39 := rfl
        have ed : (35 :: quoteL t ++ y).drop 1 = quoteL t ++ y := rfl
        unfold word
        simp only
        rw [e0, if_neg (by decide), if_neg (by decide), if_neg (by decide), if_pos rfl, e1, if_neg (by decide), if_pos rfl, ed, e]
        rfl
    · have ht := word_text h h5 h6
      have hl := word_len (by simp) h
      have ew : writ k t = t := by unfold writ; rw [if_neg h5, if_neg h6]
      rw [ew]
      have hn : t.length = n := by rw [ht, List.length_take]; omega
      obtain ⟨m, hm⟩ : ∃ m, n = m + 1 := ⟨n - 1, by omega⟩
      have htc : t = c :: r.take m := by rw [ht, hm, List.take_succ_cons]
      refine ⟨c, r.take m, htc, hb, hq, ?_⟩
      rw [hn]
      refine word_loc (by simp) h ⟨by rw [List.length_append]; omega, by omega, fun j hj => ?_, .inl (.inr ?_)⟩
      · have h1 : j < t.length := by omega
        rw [getD_lt (by rw [List.length_append]; omega), List.getElem_append_left h1, getD_lt (by omega)]
        have : t[j] = ((c :: r).take n)[j]'(by rw [← ht]; exact h1) := by congr 1
        rw [this, List.getElem_take]
      · simp only [List.getD_eq_getElem?_getD] at hy ⊢
        rw [List.getElem?_append_right (by omega), show n - t.length = 0 by omega]
        exact hy
/-- Words, and the end behind them. -/
def Wl (rd : List Int → Bool) : List Tk → Prop
  | [] => False
  | [t] => t.kind = 0 ∧ t.text = []
  | t :: u :: l => (∃ c r n, blB c = false ∧ c ≠ 34 ∧ word rd (c :: r) = some (t.kind, t.text, n)) ∧ Wl rd (u :: l)
theorem wl_of (rd : List Int → Bool) (ss : List Int) (n : Nat) : ∀ (p : Nat) (ts : List Tk), ss.length - p ≤ n → p ≤ ss.length → lexR rd p (ss.drop p) = .ok ts → Wl rd ts := by
  induction n with
  | zero =>
    intro p ts hn hp h
    have e : p = ss.length := by omega
    subst e
    rw [List.drop_length, lexR_nil] at h
    cases h
    exact ⟨rfl, rfl⟩
  | succ n ih =>
    intro p ts hn hp h
    rcases lex_cases rd ss p hp with ⟨e, h1⟩ | ⟨hlt, hb, h1⟩ | ⟨hlt, h34, j, hi, hj, h1⟩ | ⟨hlt, hb, h34, k, t, m, hw, hm, hml, hk, hk2, h1⟩ | ⟨hlt, h1⟩
    · rw [h1] at h; cases h; exact ⟨rfl, rfl⟩
    · rw [h1] at h; exact ih (p + 1) ts (by omega) (by omega) h
    · rw [h1] at h; exact ih (p + j + 2) ts (by omega) (by omega) h
    · rw [h1] at h
      cases hl : lexR rd (p + m) (ss.drop (p + m)) with
      | error z => rw [hl] at h; cases h
      | ok l =>
        rw [hl] at h
        cases h
        have := ih (p + m) l (by omega) (by omega) hl
        cases l with
        | nil => exact absurd this (by simp [Wl])
        | cons u l =>
          rw [drop_at hlt] at hw
          exact ⟨⟨_, _, _, hb, h34, hw⟩, this⟩
    · rw [h1] at h; cases h
/-- All words, each with a blank behind it. -/
def flatW (l : List Tk) : List Int := l.flatMap fun t => writ t.kind t.text ++ [32]
def kt (t : Tk) : Int × List Int := (t.kind, t.text)
theorem lex_back (rd : List Int → Bool) (l : List Tk) : ∀ p, Wl rd l → ∃ l', lexR rd p (flatW l) = .ok l' ∧ l'.map kt = l.map kt := by
  induction l with
  | nil => intro p h; exact absurd h (by simp [Wl])
  | cons t l ih =>
    intro p h
    cases l with
    | nil =>
      obtain ⟨h1, h2⟩ := h
      have e : flatW [t] = [32] := by
        unfold flatW writ
        rw [List.flatMap_cons, h1, h2]
        rfl
      rw [e, lexR_blank _ _ _ rfl, lexR_nil]
      refine ⟨_, rfl, ?_⟩
      simp only [List.map_cons, List.map_nil, kt, h1, h2]
    | cons u l =>
      obtain ⟨⟨c, r, n, hb, hq, hw⟩, hl⟩ := h
      have ef : flatW (t :: u :: l) = writ t.kind t.text ++ (32 :: flatW (u :: l)) := by
        unfold flatW
        rw [List.flatMap_cons, List.append_assoc]
        rfl
      obtain ⟨d, q, e, hd, hd2, hw2⟩ := word_back hb hq hw (32 :: flatW (u :: l)) rfl
      obtain ⟨l', h1, h2⟩ := ih (p + (writ t.kind t.text).length + 1) hl
      refine ⟨⟨t.kind, t.text, p⟩ :: l', ?_, ?_⟩
      · rw [ef]
        have e2 : writ t.kind t.text ++ (32 :: flatW (u :: l)) = d :: (q ++ (32 :: flatW (u :: l))) := by rw [e]; rfl
        rw [e2] at hw2
        rw [e2, lexR_word _ _ hd hd2 hw2, ← e2, List.drop_left, lexR_blank _ _ _ rfl, h1]
        rfl
      · rw [List.map_cons, List.map_cons, h2]
        rfl
end Go.Proofs.YtncfmhlikmibaaaGreatDoor
namespace Go.Proofs.YtncfmhlikmibaaaGreatDoor
open Go.RowKit
set_option maxRecDepth 100000
def plainN (t : List Int) : Bool := decide (t ≠ []) && decide (nmLen t = t.length)
theorem str_ne {ss : List Int} (h : ss ≠ []) : (strOfNums ss).toList.isEmpty = false := by
  rw [Lib.strOfNums_toList]
  cases ss with
  | nil => exact absurd rfl h
  | cons c r => rfl
set_option maxHeartbeats 4000000 in
theorem plainName_is (ss : List Int) (w : World) (hb : ∀ x ∈ ss, 0 ≤ x ∧ x < 256) (hm : ss.length ≤ 9223372036854775806) : Calls Tryz.prog 35 #[.string (strOfNums ss)] w fun e w' => e = .returned (.bool (plainN ss)) ∧ w = w' := by
  have hsz : (strOfNums ss).size = ss.length := strOfNums_size ss
  by_cases h0 : ss = []
  · subst h0
    have e : strOfNums [] = ⟨#[]⟩ := rfl
    rw [e]
    go_enter Tryz.func35, Tryz.ntmps35
    go_wp2
    go_ret
    exact ⟨rfl, rfl⟩
  · have hne := str_ne h0
    have hc := fun w => nameEnd_any ss 0 w hb hm (Nat.zero_le _)
    rw [List.drop_zero, Nat.zero_add, Int.natCast_zero] at hc
    have ep : plainN ss = ((nmLen ss : Int) == (ss.length : Int)) := by
      unfold plainN
      rw [decide_eq_true h0, Bool.true_and, Bool.eq_iff_iff, beq_iff_eq, decide_eq_true_eq]
      omega
    rw [ep]
    generalize nmLen ss = n at *
    go_enter Tryz.func35, Tryz.ntmps35
    go_wp2_with fail
    refine (hc _).mono ?_
    rintro e w2 ⟨rfl, rfl⟩
    go_wp2
    go_ret
    exact ⟨rfl, rfl⟩
set_option maxHeartbeats 4000000 in
theorem plainSymbol_is (ss : List Int) (w : World) (hb : ∀ x ∈ ss, 0 ≤ x ∧ x < 256) : Calls Tryz.prog 84 #[.string (strOfNums ss)] w fun e w' => e = .returned (.bool (plainS ss)) ∧ Below w.heap.size w w' := by
  have hsz : (strOfNums ss).size = ss.length := strOfNums_size ss
  by_cases h0 : ss = []
  · subst h0
    have e : strOfNums [] = ⟨#[]⟩ := rfl
    rw [e]
    go_enter Tryz.func84, Tryz.ntmps84
    go_wp2
    go_ret
    exact ⟨rfl, Below.refl _ _⟩
  · have hne := str_ne h0
    by_cases hl : ss.length ≤ 1024
    · have hlI : (ss.length : Int) ≤ 1024 := by omega
      have hc := fun w => plainEnd_any ss 0 w hb (by omega) (Nat.zero_le _)
      rw [List.drop_zero, Nat.zero_add, Int.natCast_zero] at hc
      have ep : plainS ss = ((plLen ss : Int) == (ss.length : Int)) := by
        unfold plainS
        rw [decide_eq_true h0, decide_eq_true hl, Bool.true_and, Bool.true_and, Bool.eq_iff_iff, beq_iff_eq, decide_eq_true_eq]
        omega
      rw [ep]
      generalize plLen ss = n at *
      go_enter Tryz.func84, Tryz.ntmps84
      go_wp2_with fail
      refine (hc _).mono ?_
      rintro e w2 ⟨rfl, hB⟩
      go_wp2
      go_ret
      exact ⟨rfl, hB⟩
    · have hlI : ¬ (ss.length : Int) ≤ 1024 := by omega
      have ep : plainS ss = false := by
        unfold plainS
        rw [decide_eq_false hl, Bool.and_false, Bool.false_and]
      rw [ep]
      go_enter Tryz.func84, Tryz.ntmps84
      go_wp2
      go_ret
      exact ⟨rfl, Below.refl _ _⟩
theorem quote_len (t : List Int) : (quoteL t).length ≤ 2 * t.length + 2 := by
  unfold quoteL
  rw [List.length_cons, List.length_append, dbl_len]
  have := List.count_le_length (a := (39 : Int)) (l := t)
  simp
  omega
theorem writ_len (k : Int) (t : List Int) : (writ k t).length ≤ 2 * t.length + 3 := by
  unfold writ
  have := quote_len t
  split
  · omega
  · split
    · split <;> (rw [List.length_cons]; omega)
    · omega
theorem quote_bytes {t : List Int} (hb : ∀ x ∈ t, 0 ≤ x ∧ x < 256) : ∀ x ∈ quoteL t, 0 ≤ x ∧ x < 256 := by
  intro x hx
  unfold quoteL at hx
  rcases List.mem_cons.1 hx with rfl | hx
  · omega
  · rcases List.mem_append.1 hx with hx | hx
    · exact hb x (dbl_mem hx)
    · obtain rfl : x = 39 := by simpa using hx
      omega
theorem writ_bytes {k : Int} {t : List Int} (hb : ∀ x ∈ t, 0 ≤ x ∧ x < 256) : ∀ x ∈ writ k t, 0 ≤ x ∧ x < 256 := by
  intro x hx
  unfold writ at hx
  split at hx
  · exact quote_bytes hb x hx
  · split at hx
    · split at hx
      · rcases List.mem_cons.1 hx with rfl | hx
        · omega
        · exact hb x hx
      · rcases List.mem_cons.1 hx with rfl | hx
        · omega
        · exact quote_bytes hb x hx
    · exact hb x hx
theorem lit35 : (⟨#[35]⟩ : ByteArray) = strOfNums [35] := rfl
end Go.Proofs.YtncfmhlikmibaaaGreatDoor
namespace Go.Proofs.YtncfmhlikmibaaaGreatDoor
open Go.RowKit
set_option maxRecDepth 100000
set_option maxHeartbeats 4000000 in
theorem rplainName_is (ss : List Int) (w : World) (hb : ∀ x ∈ ss, 0 ≤ x ∧ x < 256) (hm : ss.length ≤ 9223372036854775800) : Calls Tryz.prog 23 #[.string (strOfNums ss)] w fun e w' => e = .returned (.bool (plainN ss)) ∧ w = w' := by
  have hsz : (strOfNums ss).size = ss.length := strOfNums_size ss
  by_cases h0 : ss = []
  · subst h0
    have e : strOfNums [] = ⟨#[]⟩ := rfl
    rw [e]
    go_enter Tryz.func23, Tryz.ntmps23
    go_wp2
    go_ret
    exact ⟨rfl, rfl⟩
  · have hpos : 0 < ss.length := List.length_pos_iff.2 h0
    have hposI : (0 : Int) < (ss.length : Int) := by omega
    have hc := fun w => rname_any ss 0 w hb hm (Nat.zero_le _)
    rw [List.drop_zero, Nat.zero_add, Int.natCast_zero] at hc
    have ep : plainN ss = ((nmLen ss : Int) == (ss.length : Int)) := by
      unfold plainN
      rw [decide_eq_true h0, Bool.true_and, Bool.eq_iff_iff, beq_iff_eq, decide_eq_true_eq]
      omega
    rw [ep]
    generalize nmLen ss = n at *
    go_enter Tryz.func23, Tryz.ntmps23
    go_wp2_with fail
    refine (hc _).mono ?_
    rintro e w2 ⟨rfl, rfl⟩
    go_wp2
    go_ret
    exact ⟨rfl, rfl⟩
theorem rs_plain (ss : List Int) (h0 : ss ≠ []) (h39 : ss.getD 0 0 ≠ 39) : (plainS ss = true ∧ RQ 0 (rsO ss 0) = .returned (.tuple #[.string (strOfNums ss), .int .i64 (ss.length : Int)])) ∨ (plainS ss = false ∧ ∃ s m, RQ 0 (rsO ss 0) = .returned (.tuple #[.string s, .int .i64 m]) ∧ (m == (ss.length : Int)) = false) := by
  have hpos : 0 < ss.length := List.length_pos_iff.2 h0
  have hle := plLen_le ss
  unfold rsO plainS
  rw [List.drop_zero]
  by_cases h : 0 < plLen ss
  · rw [if_pos h]
    by_cases h2 : 1024 < plLen ss
    · rw [if_pos h2]
      right
      refine ⟨?_, _, _, rfl, ?_⟩
      · rw [decide_eq_false (show ¬ ss.length ≤ 1024 by omega), Bool.and_false, Bool.false_and]
      · rw [beq_eq_false_iff_ne]; omega
    · rw [if_neg h2]
      by_cases h3 : plLen ss = ss.length
      · left
        rw [h3, List.take_length]
        refine ⟨?_, ?_⟩
        · rw [decide_eq_true h0, decide_eq_true (show ss.length ≤ 1024 by omega), decide_eq_true rfl]; rfl
        · simp only [RQ, Nat.zero_add]
      · right
        refine ⟨?_, _, _, rfl, ?_⟩
        · rw [decide_eq_false h3, Bool.and_false]
        · rw [beq_eq_false_iff_ne]; omega
  · rw [if_neg h]
    unfold rqO
    rw [if_neg h39]
    right
    refine ⟨?_, _, _, rfl, ?_⟩
    · rw [decide_eq_false (show ¬ plLen ss = ss.length by omega), Bool.and_false]
    · rw [beq_eq_false_iff_ne]; omega
theorem own_one (w : World) (c : Int) : (w.alloc (.cells #[.int .u8 c] 5)).ownsRow w.heap.size 5 1 (.slice (some ⟨w.heap.size, 0, none⟩) 1 1) 1 (([c] : List Int).map (Value.int .u8)) :=
  ⟨rfl, .inr ⟨w.heap.size, 1, #[.int .u8 c], rfl, Nat.le_refl _, heap_alloc_new w _, by decide, by decide, rfl, rfl⟩⟩
theorem dbl_step (ss : List Int) (i : Nat) (h : i < ss.length) : dbl (ss.take (i + 1)) = if ss.getD i 0 = 39 then (dbl (ss.take i) ++ [39]) ++ [39] else dbl (ss.take i) ++ [ss.getD i 0] := by
  rw [List.take_add_one, List.getElem?_eq_getElem h, dbl_app]
  have e : ss.getD i 0 = ss[i] := getD_lt h
  rw [e]
  split
  · rename_i hc
    rw [hc]
    simp [dbl]
  · rename_i hc
    simp [dbl, hc]
end Go.Proofs.YtncfmhlikmibaaaGreatDoor
namespace Go.Proofs.YtncfmhlikmibaaaGreatDoor
open Go.RowKit
set_option maxRecDepth 100000
theorem take_count1 (ss : List Int) (i : Nat) (h : i < ss.length) : (ss.take (i + 1)).count 58 = (ss.take i).count 58 + (if ss.getD i 0 = 58 then 1 else 0) := by
  rw [List.take_succ_eq_append_getElem h, List.count_append, List.count_singleton]
  have : ss.getD i 0 = ss[i] := by rw [List.getD_eq_getElem?_getD, List.getElem?_eq_getElem h]; rfl
  rw [this]
  by_cases hc : ss[i] = 58 <;> simp [hc]
theorem byte_at (ss : List Int) (hb : ∀ x ∈ ss, 0 ≤ x ∧ x < 256) (i : Nat) (h : i < ss.length) : (((strOfNums ss).get! i).toNat : Int) = ss.getD i 0 := by
  have h1 := hb _ (List.getElem_mem h)
  have e : ss.getD i 0 = ss[i] := by rw [List.getD_eq_getElem?_getD, List.getElem?_eq_getElem h]; rfl
  rw [e]
  show (((ss.map fun n => UInt8.ofNat n.toNat).toArray[i]!).toNat : Int) = ss[i]
  rw [getElem!_pos _ i (by simpa using h)]
  simp
  omega
/-- The rune at a place. -/
theorem rune_at (ss : List Int) (hb : ∀ x ∈ ss, 0 ≤ x ∧ x < 256) (i : Nat) (h : i < ss.length) : ∃ r n : Nat, Utf8.decode (strOfNums ss) i = (r, n) ∧ ((r : Int) = 58 ↔ ss.getD i 0 = 58) ∧ 1 ≤ n ∧ i + n ≤ ss.length ∧ (ss.take (i + n)).count 58 = (ss.take i).count 58 + (if ss.getD i 0 = 58 then 1 else 0) := by
  have hsz : (strOfNums ss).size = ss.length := strOfNums_size ss
  have h0 := byte_at ss hb i h
  have c0 := take_count1 ss i h
  refine ⟨(Utf8.decode (strOfNums ss) i).1, (Utf8.decode (strOfNums ss) i).2, rfl, ?_⟩
  rw [Lib.decode_at, hsz]
  have g1 : i + 1 < ss.length → (((strOfNums ss).get! (i + 1)).toNat : Int) = ss.getD (i + 1) 0 ∧ (ss.take (i + 2)).count 58 = (ss.take (i + 1)).count 58 + (if ss.getD (i + 1) 0 = 58 then 1 else 0) := fun h => ⟨byte_at ss hb _ h, take_count1 ss _ h⟩
  have g2 : i + 2 < ss.length → (((strOfNums ss).get! (i + 2)).toNat : Int) = ss.getD (i + 2) 0 ∧ (ss.take (i + 3)).count 58 = (ss.take (i + 2)).count 58 + (if ss.getD (i + 2) 0 = 58 then 1 else 0) := fun h => ⟨byte_at ss hb _ h, take_count1 ss _ h⟩
  have g3 : i + 3 < ss.length → (((strOfNums ss).get! (i + 3)).toNat : Int) = ss.getD (i + 3) 0 ∧ (ss.take (i + 4)).count 58 = (ss.take (i + 3)).count 58 + (if ss.getD (i + 3) 0 = 58 then 1 else 0) := fun h => ⟨byte_at ss hb _ h, take_count1 ss _ h⟩
  generalize ((strOfNums ss).get! i).toNat = b0 at *
  generalize ((strOfNums ss).get! (i + 1)).toNat = b1 at *
  generalize ((strOfNums ss).get! (i + 2)).toNat = b2 at *
  generalize ((strOfNums ss).get! (i + 3)).toNat = b3 at *
  generalize ss.getD i 0 = a0 at *
  generalize ss.getD (i + 1) 0 = a1 at *
  generalize ss.getD (i + 2) 0 = a2 at *
  generalize ss.getD (i + 3) 0 = a3 at *
  unfold Lib.decodeN
  split
  · refine ⟨by simp only; omega, by simp, by simp only; omega, c0⟩
  · split
    · rename_i hh
      obtain ⟨e1, k1⟩ := g1 (by omega)
      rw [if_neg (by omega)] at c0 k1
      split
      · exact ⟨by simp only; omega, by simp, by simp only; omega, by simp only; rw [if_neg (by omega), k1, c0]⟩
      · exact ⟨by simp only; omega, by simp, by simp only; omega, by simp only; rw [if_neg (by omega), c0]⟩
    · split
      · rename_i hh
        obtain ⟨e1, k1⟩ := g1 (by omega)
        obtain ⟨e2, k2⟩ := g2 (by omega)
        rw [if_neg (by omega)] at c0 k1 k2
        split
        · exact ⟨by simp only; omega, by simp, by simp only; omega, by simp only; rw [if_neg (by omega), k2, k1, c0]⟩
        · exact ⟨by simp only; omega, by simp, by simp only; omega, by simp only; rw [if_neg (by omega), c0]⟩
      · split
        · rename_i hh
          obtain ⟨e1, k1⟩ := g1 (by omega)
          obtain ⟨e2, k2⟩ := g2 (by omega)
          obtain ⟨e3, k3⟩ := g3 (by omega)
          rw [if_neg (by omega)] at c0 k1 k2 k3
          split
          · exact ⟨by simp only; omega, by simp, by simp only; omega, by simp only; rw [if_neg (by omega), k3, k2, k1, c0]⟩
          · exact ⟨by simp only; omega, by simp, by simp only; omega, by simp only; rw [if_neg (by omega), c0]⟩
        · rw [if_neg (by omega)] at c0
          exact ⟨by simp only; omega, by simp, by simp only; omega, by simp only; rw [if_neg (by omega), c0]⟩
theorem plain_one (c : Int) : plainN [c] = letB c := by
  by_cases h : letB c = true
  · have h2 := letB_nm h
    simp [plainN, nmLen, h, h2]
  · have h3 : letB c = false := by simpa using h
    simp [plainN, nmLen, h3]
theorem cut_one (c : Int) (r : List Int) : (strOfNums (c :: r)).extract 0 1 = strOfNums [c] := by
  rw [ext_str]; rfl
def sgnL (t : List Int) : Bool := match t with
  | [] => false
  | c :: _ => !letB c
theorem signed_is (ss : List Int) (w : World) (hb : ∀ x ∈ ss, 0 ≤ x ∧ x < 256) (hm : ss.length ≤ 9223372036854775806) : Calls Tryz.prog 22 #[.string (strOfNums ss)] w fun e w' => e = .returned (.bool (sgnL ss)) ∧ w = w' := by
  have hsz : (strOfNums ss).size = ss.length := strOfNums_size ss
  cases ss with
  | nil =>
    have e : strOfNums [] = ⟨#[]⟩ := rfl
    rw [e]
    go_enter Tryz.func22, Tryz.ntmps22
    go_wp2
    go_ret
    exact ⟨rfl, rfl⟩
  | cons c r =>
    have hne := str_ne (ss := c :: r) (by simp)
    have h1 : (1 : Int) ≤ ((strOfNums (c :: r)).size : Int) := by rw [hsz, List.length_cons]; omega
    have hx := cut_one c r
    go_enter Tryz.func22, Tryz.ntmps22
    go_wp2_with fail
    refine (plainName_is [c] w (fun x hx => hb x (by simp at hx; simp [hx])) (by simp)).mono ?_
    rintro e w2 ⟨rfl, rfl⟩
    rw [plain_one]
    go_wp2
    go_ret
    exact ⟨rfl, rfl⟩
theorem argsL_sgn (ss : List Int) : argsL ss = if sgnL ss then 1 else ss.count 58 := by
  cases ss with
  | nil => rfl
  | cons c r =>
    show (if letB c then (c :: r).count 58 else 1) = if !letB c then 1 else (c :: r).count 58
    cases letB c <;> rfl
theorem argsL_le (ss : List Int) : argsL ss ≤ ss.length + 1 := by
  rw [argsL_sgn]
  have := List.count_le_length (a := (58 : Int)) (l := ss)
  split <;> omega
set_option maxHeartbeats 4000000 in
/-- How many arguments a message has, for every selector. -/
theorem args_is (ss : List Int) (w : World) (hb : ∀ x ∈ ss, 0 ≤ x ∧ x < 256) (hm : ss.length ≤ 9223372036854775806) : Calls Tryz.prog 15 #[.string (strOfNums ss)] w fun e w' => e = .returned (.int .i64 (argsL ss : Int)) ∧ Below w.heap.size w w' := by
  have hsz : (strOfNums ss).size = ss.length := strOfNums_size ss
  have hA := argsL_sgn ss
  cases hs : sgnL ss with
  | true =>
    rw [hs, if_pos rfl] at hA
    rw [hA]
    go_enter Tryz.func15, Tryz.ntmps15
    go_wp2_with fail
    refine (signed_is ss w hb hm).mono ?_
    rintro e w2 ⟨rfl, rfl⟩
    rw [hs]
    go_wp2
    go_ret
    exact ⟨rfl, Below.refl _ _⟩
  | false =>
    rw [hs, if_neg (by decide)] at hA
    rw [hA]
    generalize argsL ss = na at *
    have hcl : ss.count 58 ≤ ss.length := List.count_le_length
    go_enter Tryz.func15, Tryz.ntmps15
    go_wp2_with fail
    refine (signed_is ss w hb hm).mono ?_
    rintro e w2 ⟨rfl, rfl⟩
    rw [hs]
    go_wp2_with fail
    go_loopw [3] (fun v wr => ∃ (i : Nat), v = .int .i64 (((ss.take i).count 58 : Nat) : Int) ∧ i ≤ ss.length ∧ wr.heap[w.heap.size]? = some (.stringIter (strOfNums ss) i) ∧ Below w.heap.size w wr) (fun _ wr => ss.length - wr.iterPos w.heap.size)
    case atStart => exact ⟨0, by simp, Nat.zero_le _, World.iter_heap w (strOfNums ss) 0, boxT⟩
    case round =>
      obtain ⟨i, rfl, hi, hit, hB⟩ := hrel
      by_cases hp : i < ss.length
      · have hp' : i < (strOfNums ss).size := by omega
        obtain ⟨r, n, hd, hr58, hn1, hn2, hc⟩ := rune_at ss hb i hp
        have hnx : ∀ ty, (Instr.next (.pointer (some ⟨w.heap.size, 0, none⟩)) true ty).run Tryz.prog wr = _ := fun ty => Lib.run_next_any_at wr w.heap.size (strOfNums ss) i ty hit hp'
        rw [hd] at hnx
        have hit2 := Lib.iterAt_heap wr w.heap.size (strOfNums ss) i (i + n) hit
        have hB2 := Lib.below_iterAt hB (Nat.le_refl _) (strOfNums ss) (i + n)
        have hcl2 : (ss.take i).count 58 ≤ i := Nat.le_trans List.count_le_length (by rw [List.length_take]; omega)
        by_cases h58 : ss.getD i 0 = 58
        · have hrb : ((r : Int) == 58) = true := by simpa using hr58.2 h58
          rw [if_pos h58] at hc
          have hw1 : IntKind.i64.wrap (((ss.take i).count 58 : Nat) + 1 : Int) = (((ss.take i).count 58 + 1 : Nat) : Int) := by rw [IntKind.wrap_i64]; omega
          go_wp2
          go_roundw
          case rel => exact ⟨i + n, by rw [hc]; rfl, hn2, hit2, hB2⟩
          case measure => simp only [World.iterPos, hit2, hit]; omega
        · have hrb : ((r : Int) == 58) = false := by simpa using fun h => h58 (hr58.1 h)
          rw [if_neg h58] at hc
          go_wp2
          go_roundw
          case rel => exact ⟨i + n, by rw [hc]; rfl, hn2, hit2, hB2⟩
          case measure => simp only [World.iterPos, hit2, hit]; omega
      · have hp' : ¬ i < (strOfNums ss).size := by omega
        obtain rfl : i = ss.length := by omega
        have hnx : ∀ ty, (Instr.next (.pointer (some ⟨w.heap.size, 0, none⟩)) true ty).run Tryz.prog wr = _ := fun ty => Lib.run_next_end_at wr w.heap.size (strOfNums ss) ss.length ty hit hp'
        rw [List.take_length]
        go_wp2
        go_ret
        exact ⟨rfl, hB⟩
theorem takeWhile_all (p : Int → Bool) : ∀ (l : List Int) (x : Int), x ∈ l.takeWhile p → p x = true
  | [], x, h => by cases h
  | c :: r, x, h => by
    rw [List.takeWhile_cons] at h
    split at h
    · rename_i hc
      rcases List.mem_cons.1 h with rfl | h
      · exact hc
      · exact takeWhile_all p r x h
    · cases h
theorem plain_args {ss : List Int} (h : plainN ss = true) : argsL ss = 0 := by
  unfold plainN at h
  rw [Bool.and_eq_true, decide_eq_true_eq, decide_eq_true_eq] at h
  cases ss with
  | nil => rfl
  | cons c r =>
    have hl : nmLen (c :: r) = (c :: r).length := h.2
    unfold nmLen at hl
    split at hl
    · rename_i hc
      show (if letB c then (c :: r).count 58 else 1) = 0
      have hc : letB c = true := hc
      rw [if_pos hc]
      have hall : ∀ x ∈ c :: r, nmB x = true := by
        have : (c :: r).takeWhile nmB = c :: r := (List.takeWhile_prefix nmB).eq_of_length hl
        intro x hx
        rw [← this] at hx
        exact takeWhile_all nmB _ x hx
      refine List.count_eq_zero.2 fun hm => ?_
      exact absurd (hall 58 hm) (by decide)
    · simp at hl
set_option maxHeartbeats 4000000 in
/-- The document's. -/
theorem rargs_is (ss : List Int) (w : World) (hb : ∀ x ∈ ss, 0 ≤ x ∧ x < 256) (hm : ss.length ≤ 9223372036854775800) : Calls Tryz.prog 16 #[.string (strOfNums ss)] w fun e w' => e = .returned (.int .i64 (argsL ss : Int)) ∧ w = w' := by
  have hsz : (strOfNums ss).size = ss.length := strOfNums_size ss
  have hA := argsL_sgn ss
  cases hpl : plainN ss with
  | true =>
    rw [plain_args hpl]
    go_enter Tryz.func16, Tryz.ntmps16
    go_wp2_with fail
    refine (rplainName_is ss w hb hm).mono ?_
    rintro e w2 ⟨rfl, rfl⟩
    rw [hpl]
    go_wp2
    go_ret
    exact ⟨rfl, rfl⟩
  | false =>
    have hcl : ss.count 58 ≤ ss.length := List.count_le_length
    have hpl' : ∀ w, Calls Tryz.prog 23 #[.string (strOfNums ss)] w fun e w' => e = .returned (.bool false) ∧ w = w' := fun w => by rw [← hpl]; exact rplainName_is ss w hb hm
    by_cases hz : ss.length = 0
    · have h0 : ((ss.length : Int) == 0) = true := by simp [hz]
      have hN : argsL ss = ss.count 58 := by rw [List.eq_nil_of_length_eq_zero hz]; rfl
      rw [hN]
      clear hA hpl hN hz
      generalize hcn : ss.count 58 = cn at *
      go_enter Tryz.func16, Tryz.ntmps16
      go_wp2_with fail
      refine (hpl' _).mono ?_
      rintro e w2 ⟨rfl, rfl⟩
      go_wp2_with fail
      go_loopw [3, 4] (fun v x wr => ∃ (i : Nat), v = .int .i64 (((ss.take i).count 58 : Nat) : Int) ∧ x = .int .i64 (i : Int) ∧ i ≤ ss.length ∧ wr = w) (fun _ x _ => ss.length - (intOf x).toNat)
      case atStart => exact ⟨0, by simp, rfl, Nat.zero_le _, rfl⟩
      case round =>
        obtain ⟨i, rfl, rfl, hi, rfl⟩ := hrel
        have hw0 : IntKind.i64.wrap ((i : Int) + 1) = ((i + 1 : Nat) : Int) := by rw [IntKind.wrap_i64]; omega
        by_cases hp : i < ss.length
        · have hltI : (i : Int) < (ss.length : Int) := by omega
          have hi0 : (0 : Int) ≤ (i : Int) := by omega
          have hgi := str_at ss hb i hp
          have hct := take_count1 ss i hp
          have hcl2 : (ss.take i).count 58 ≤ i := Nat.le_trans List.count_le_length (by rw [List.length_take]; omega)
          have hw1 : IntKind.i64.wrap (((ss.take i).count 58 : Nat) + 1 : Int) = (((ss.take i).count 58 + 1 : Nat) : Int) := by rw [IntKind.wrap_i64]; omega
          by_cases h58 : ss.getD i 0 = 58
          · have hcb : (ss.getD i 0 == 58) = true := by simpa using h58
            rw [if_pos h58] at hct
            clear hw1
            generalize ss.getD i 0 = b at *
            go_wp2
            go_roundw
            case rel => exact ⟨i + 1, by rw [hct]; rfl, rfl, hp, trivial⟩
            case measure => simp [intOf]; omega
          · have hcb : (ss.getD i 0 == 58) = false := by simpa using h58
            rw [if_neg h58] at hct
            clear hw1
            generalize ss.getD i 0 = b at *
            go_wp2
            go_roundw
            case rel => exact ⟨i + 1, by rw [hct]; rfl, rfl, hp, trivial⟩
            case measure => simp [intOf]; omega
        · have hltI : ¬ (i : Int) < (ss.length : Int) := by omega
          obtain rfl : i = ss.length := by omega
          rw [List.take_length, hcn]
          go_wp2
          go_ret
          exact ⟨rfl, rfl⟩
    · obtain ⟨c, r, hcr⟩ : ∃ c r, Hid (ss = c :: r) := by
        cases ss with
        | nil => exact absurd rfl hz
        | cons c r => exact ⟨c, r, rfl⟩
      have h0 : ((ss.length : Int) == 0) = false := by simp [hz]
      have h1 : (1 : Int) ≤ ((strOfNums ss).size : Int) := by rw [hsz]; omega
      have hx : (strOfNums ss).extract 0 1 = strOfNums [c] := by rw [hcr.out]; exact cut_one c r
      have hpc : ∀ w, Calls Tryz.prog 23 #[.string (strOfNums [c])] w fun e w' => e = .returned (.bool (letB c)) ∧ w = w' := fun w => by
        rw [← plain_one]
        exact rplainName_is [c] w (fun x hx => hb x (by rw [hcr.out]; simp at hx; simp [hx])) (by simp)
      have hN : argsL ss = if letB c then ss.count 58 else 1 := by rw [hcr.out]; rfl
      rw [hN]
      clear hA hpl hN hz hcr
      generalize hcn : ss.count 58 = cn at *
      cases hlb : letB c with
      | false =>
        rw [hlb] at hpc
        go_enter Tryz.func16, Tryz.ntmps16
        go_wp2_with fail
        refine (hpl' _).mono ?_
        rintro e w2 ⟨rfl, rfl⟩
        go_wp2_with fail
        refine (hpc _).mono ?_
        rintro e w2 ⟨rfl, rfl⟩
        go_wp2
        go_ret
        exact ⟨rfl, rfl⟩
      | true =>
        rw [hlb] at hpc
        go_enter Tryz.func16, Tryz.ntmps16
        go_wp2_with fail
        refine (hpl' _).mono ?_
        rintro e w2 ⟨rfl, rfl⟩
        go_wp2_with fail
        refine (hpc _).mono ?_
        rintro e w2 ⟨rfl, rfl⟩
        go_wp2_with fail
        go_loopw [3, 4] (fun v x wr => ∃ (i : Nat), v = .int .i64 (((ss.take i).count 58 : Nat) : Int) ∧ x = .int .i64 (i : Int) ∧ i ≤ ss.length ∧ wr = w) (fun _ x _ => ss.length - (intOf x).toNat)
        case atStart => exact ⟨0, by simp, rfl, Nat.zero_le _, rfl⟩
        case round =>
          obtain ⟨i, rfl, rfl, hi, rfl⟩ := hrel
          have hw0 : IntKind.i64.wrap ((i : Int) + 1) = ((i + 1 : Nat) : Int) := by rw [IntKind.wrap_i64]; omega
          by_cases hp : i < ss.length
          · have hltI : (i : Int) < (ss.length : Int) := by omega
            have hi0 : (0 : Int) ≤ (i : Int) := by omega
            have hgi := str_at ss hb i hp
            have hct := take_count1 ss i hp
            have hcl2 : (ss.take i).count 58 ≤ i := Nat.le_trans List.count_le_length (by rw [List.length_take]; omega)
            have hw1 : IntKind.i64.wrap (((ss.take i).count 58 : Nat) + 1 : Int) = (((ss.take i).count 58 + 1 : Nat) : Int) := by rw [IntKind.wrap_i64]; omega
            by_cases h58 : ss.getD i 0 = 58
            · have hcb : (ss.getD i 0 == 58) = true := by simpa using h58
              rw [if_pos h58] at hct
              clear hw1
              generalize ss.getD i 0 = b at *
              go_wp2
              go_roundw
              case rel => exact ⟨i + 1, by rw [hct]; rfl, rfl, hp, trivial⟩
              case measure => simp [intOf]; omega
            · have hcb : (ss.getD i 0 == 58) = false := by simpa using h58
              rw [if_neg h58] at hct
              clear hw1
              generalize ss.getD i 0 = b at *
              go_wp2
              go_roundw
              case rel => exact ⟨i + 1, by rw [hct]; rfl, rfl, hp, trivial⟩
              case measure => simp [intOf]; omega
          · have hltI : ¬ (i : Int) < (ss.length : Int) := by omega
            obtain rfl : i = ss.length := by omega
            rw [List.take_length, hcn]
            go_wp2
            go_ret
            exact ⟨rfl, rfl⟩
end Go.Proofs.YtncfmhlikmibaaaGreatDoor
