/- A source within brackets has the same words. -/
import Derived.Test.YtoghhjljmhdioaaLexP
import Derived.Test.YtoghhjljmhdioaaLxR
namespace Go.Proofs.Ytoghhjljmhdioaa
set_option maxRecDepth 100000
def Inert (d : Int) : Prop := d = 0 ∨ d = 93
structure Loc (r r' : List Int) (n : Nat) : Prop where
  len : n ≤ r'.length
  lenr : n ≤ r.length
  same : ∀ j, j < n → r'.getD j 0 = r.getD j 0
  next : Inert (r'.getD n 0) ∨ (r'.getD n 0 = r.getD n 0 ∧ (r.getD n 0 = 58 → (r'.getD (n + 1) 0 = 61 ↔ r.getD (n + 1) 0 = 61)))
theorem Loc.drop {r r' : List Int} {n a : Nat} (h : Loc r r' (a + n)) : Loc (r.drop a) (r'.drop a) n := by
  refine ⟨by rw [List.length_drop]; have := h.len; omega, by rw [List.length_drop]; have := h.lenr; omega, fun j hj => ?_, ?_⟩
  · rw [getD_drop, getD_drop]; exact h.same _ (by omega)
  · rw [getD_drop, getD_drop, getD_drop, getD_drop]; exact h.next
theorem Loc.take {r r' : List Int} {n m : Nat} (h : Loc r r' n) (hm : m ≤ n) : r'.take m = r.take m := by
  have h1 := h.len
  have h2 := h.lenr
  apply List.ext_getElem
  · rw [List.length_take, List.length_take]; omega
  · intro i a b
    rw [List.length_take] at a b
    have := h.same i (by omega)
    rw [getD_lt (by omega), getD_lt (by omega)] at this
    rw [List.getElem_take, List.getElem_take]
    exact this
theorem tw_spec (p : Int → Bool) (p0 : p 0 = false) (r : List Int) : (∀ i, i < (r.takeWhile p).length → p (r.getD i 0) = true) ∧ p (r.getD (r.takeWhile p).length 0) = false := by
  induction r with
  | nil => exact ⟨fun i h => absurd h (by simp), p0⟩
  | cons c r ih =>
    cases hc : p c with
    | false =>
      rw [List.takeWhile_cons_of_neg (by rw [hc]; decide)]
      exact ⟨fun i h => absurd h (by simp), hc⟩
    | true =>
      rw [List.takeWhile_cons_of_pos hc, List.length_cons]
      refine ⟨fun i h => ?_, ih.2⟩
      cases i with
      | zero => exact hc
      | succ i => exact ih.1 i (by omega)
theorem tw_of (p : Int → Bool) (r : List Int) (j : Nat) (h1 : ∀ i, i < j → p (r.getD i 0) = true) (h2 : p (r.getD j 0) = false) (p0 : p 0 = false) : (r.takeWhile p).length = j := by
  obtain ⟨a, b⟩ := tw_spec p p0 r
  rcases Nat.lt_trichotomy (r.takeWhile p).length j with h | h | h
  · rw [h1 _ h] at b; cases b
  · exact h
  · rw [a _ h] at h2; cases h2
theorem tw_loc {r r' : List Int} {n : Nat} (L : Loc r r' n) (p : Int → Bool) (p0 : p 0 = false) (p93 : p 93 = false) (hj : (r.takeWhile p).length ≤ n) : (r'.takeWhile p).length = (r.takeWhile p).length := by
  obtain ⟨a, b⟩ := tw_spec p p0 r
  refine tw_of p r' _ (fun i hi => by rw [L.same i (by omega)]; exact a i hi) ?_ p0
  rcases Nat.lt_or_ge (r.takeWhile p).length n with h | h
  · rw [L.same _ h]; exact b
  · have e : (r.takeWhile p).length = n := by omega
    rw [e] at b ⊢
    rcases L.next with h | h
    · rcases h with h | h <;> rw [h] <;> assumption
    · rw [h.1]; exact b
theorem nm_loc {r r' : List Int} {n : Nat} (L : Loc r r' n) (hn : 0 < n) (hj : nmLen r ≤ n) : nmLen r' = nmLen r := by
  unfold nmLen at hj ⊢
  rw [L.same 0 hn]
  split at hj
  · rename_i h
    rw [if_pos h, if_pos h]
    exact tw_loc L nmB rfl rfl hj
  · rename_i h
    rw [if_neg h, if_neg h]
/-- ... also where nothing of it is left, and no name can begin. -/
theorem nm_loc0 {r r' : List Int} (L : Loc r r' 0) (h0 : nmLen r = 0) : nmLen r' = 0 := by
  unfold nmLen at h0 ⊢
  split at h0
  · rename_i h
    cases r with
    | nil => exact absurd h (by decide)
    | cons c q =>
      have hc : nmB c = true := letB_nm h
      rw [List.takeWhile_cons_of_pos hc] at h0
      cases h0
  · rename_i h
    rcases L.next with k | k
    · rcases k with k | k <;> rw [k] <;> rfl
    · rw [k.1, if_neg h]
theorem lone_loc {r r' : List Int} {n : Nat} (L : Loc r r' (1 + n)) (h : lone r = true) : lone r' = true := by
  unfold lone at h ⊢
  rw [L.same 0 (by omega)]
  rw [Bool.and_eq_true] at h ⊢
  refine ⟨h.1, ?_⟩
  cases n with
  | zero =>
    have hn := L.next
    simp only [Nat.add_zero] at hn
    rcases hn with k | k
    · rcases k with k | k <;> rw [k] <;> decide
    · rw [k.1]; exact h.2
  | succ n => rw [L.same 1 (by omega)]; exact h.2
theorem lone_loc0 {r r' : List Int} (L : Loc r r' 0) (h : lone r = false) : lone r' = false := by
  unfold lone at h ⊢
  rcases L.next with k | k
  · rcases k with k | k <;> rw [k] <;> rfl
  · rw [k.1]
    by_cases h58 : r.getD 0 0 = 58
    · rw [h58] at h ⊢
      have h61 : r.getD 1 0 = 61 := by simpa using h
      have := (k.2 h58).2 (by simpa using h61)
      have e : r'.getD 1 0 = 61 := by simpa using this
      rw [e]; rfl
    · have : (r.getD 0 0 == 58) = false := beq_eq_false_iff_ne.2 h58
      rw [this]; rfl
theorem sg_eq (r : List Int) : sgLen r = if sgB (r.getD 0 0) then (if sgB (r.getD 1 0) then 2 else 1) else 0 := by
  unfold sgLen
  cases r with
  | nil => rfl
  | cons c q =>
    cases q with
    | nil =>
      simp only [List.take_succ_cons, List.take_nil]
      cases hc : sgB c with
      | false => rw [List.takeWhile_cons_of_neg (by rw [hc]; decide)]; simp [hc]
      | true => rw [List.takeWhile_cons_of_pos hc]; simp [hc]; rfl
    | cons d q =>
      simp only [List.take_succ_cons, List.take_zero]
      cases hc : sgB c with
      | false => rw [List.takeWhile_cons_of_neg (by rw [hc]; decide)]; simp [hc]
      | true =>
        rw [List.takeWhile_cons_of_pos hc]
        cases hd : sgB d with
        | false => rw [List.takeWhile_cons_of_neg (by rw [hd]; decide)]; simp [hc, hd]
        | true => rw [List.takeWhile_cons_of_pos hd]; simp [hc, hd]
theorem sg_loc {r r' : List Int} {n : Nat} (L : Loc r r' n) (hn : 0 < n) (hj : sgLen r = n) : sgLen r' = n := by
  rw [sg_eq] at hj ⊢
  rw [L.same 0 hn]
  split at hj
  · rename_i h
    rw [if_pos h]
    split at hj
    · rename_i h1
      subst hj
      rw [L.same 1 (by omega), if_pos h1]
    · rename_i h1
      subst hj
      have : sgB (r'.getD 1 0) = false := by
        rcases L.next with k | k
        · rcases k with k | k <;> rw [k] <;> rfl
        · rw [k.1]; simpa using h1
      rw [this]; rfl
  · omega
theorem cl_loc (n : Nat) : ∀ {r r' : List Int}, Loc r r' n → cl r = n → cl r' = n := by
  induction n using Nat.strongRecOn with
  | ind n ih =>
    intro r r' L hc
    cases hl : lone r with
    | false =>
      rw [cl_no hl] at hc
      subst hc
      exact cl_no (lone_loc0 L hl)
    | true =>
      have hy := cl_yes hl
      rw [hc] at hy
      obtain ⟨m, rfl⟩ : ∃ m, n = 1 + m := ⟨n - 1, by omega⟩
      have hl' := lone_loc L hl
      have L1 : Loc (r.drop 1) (r'.drop 1) m := L.drop
      have e : nmLen (r'.drop 1) = nmLen (r.drop 1) := by
        cases m with
        | zero => rw [nm_loc0 L1 (by omega)]; omega
        | succ m => exact nm_loc L1 (by omega) (by omega)
      rw [cl_yes hl', e]
      obtain ⟨q, hq⟩ : ∃ q, m = nmLen (r.drop 1) + q := ⟨m - nmLen (r.drop 1), by omega⟩
      have L2 : Loc (r.drop (1 + nmLen (r.drop 1))) (r'.drop (1 + nmLen (r.drop 1))) q := by
        refine Loc.drop ?_
        rw [show 1 + nmLen (r.drop 1) + q = 1 + m by omega]
        exact L
      rw [ih q (by omega) L2 (by omega)]
      omega
theorem pl_loc {r r' : List Int} {n : Nat} (L : Loc r r' n) (hn : 0 < n) (h : plLen r = n) : plLen r' = n := by
  rw [plLen_eq] at h ⊢
  split at h
  · rename_i h0
    rw [nm_loc L hn (by omega), if_pos h0]
    exact sg_loc L hn h
  · rename_i h0
    have e := nm_loc L hn (by omega)
    rw [e, if_neg h0]
    obtain ⟨q, hq⟩ : ∃ q, n = nmLen r + q := ⟨n - nmLen r, by omega⟩
    have L2 : Loc (r.drop (nmLen r)) (r'.drop (nmLen r)) q := by
      refine Loc.drop ?_
      rw [← hq]
      exact L
    rw [cl_loc q L2 (by omega)]
    omega
theorem qt_app (a : List Int) : ∀ (y t : List Int), qtR (a ++ y) = some (t, a.length) → y.getD 0 0 ≠ 39 ∧ ∀ x : List Int, x.getD 0 0 ≠ 39 → qtR (a ++ x) = some (t, a.length) := by
  induction hl : a.length using Nat.strongRecOn generalizing a with
  | ind k ih =>
    subst hl
    intro y t h
    cases a with
    | nil =>
      have := (qtR_len h).1
      exact absurd this (by simp)
    | cons c a =>
      rw [List.cons_append, qtR_cons] at h
      by_cases hc : c = 39
      · rw [if_pos hc] at h
        cases a with
        | nil =>
          rw [List.nil_append] at h
          cases y with
          | nil =>
            simp only [Option.some.injEq, Prod.mk.injEq] at h
            obtain ⟨rfl, _⟩ := h
            refine ⟨by decide, fun x hx => ?_⟩
            rw [List.cons_append, qtR_cons, if_pos hc, List.nil_append]
            cases x with
            | nil => rfl
            | cons d x => simp only; rw [if_neg (by simpa using hx)]; rfl
          | cons d y =>
            simp only at h
            split at h
            · cases hq : qtR y with
              | none => rw [hq] at h; cases h
              | some z =>
                rw [hq] at h
                simp only [Option.map_some, Option.some.injEq, Prod.mk.injEq, List.length_cons, List.length_nil] at h
                omega
            · rename_i hd
              simp only [Option.some.injEq, Prod.mk.injEq] at h
              obtain ⟨rfl, _⟩ := h
              refine ⟨by simpa using hd, fun x hx => ?_⟩
              rw [List.cons_append, qtR_cons, if_pos hc, List.nil_append]
              cases x with
              | nil => rfl
              | cons e x => simp only; rw [if_neg (by simpa using hx)]; rfl
        | cons d a =>
          rw [List.cons_append] at h
          simp only at h
          split at h
          · rename_i hd
            cases hq : qtR (a ++ y) with
            | none => rw [hq] at h; cases h
            | some z =>
              obtain ⟨t', m⟩ := z
              rw [hq] at h
              simp only [Option.map_some, Option.some.injEq, Prod.mk.injEq, List.length_cons] at h
              obtain ⟨rfl, hm⟩ := h
              have hm' : m = a.length := by omega
              subst hm'
              obtain ⟨h1, h2⟩ := ih a.length (by simp only [List.length_cons]; omega) a rfl y t' hq
              refine ⟨h1, fun x hx => ?_⟩
              rw [List.cons_append, qtR_cons, if_pos hc, List.cons_append]
              simp only
              rw [if_pos hd, h2 x hx]
              rfl
          · simp only [Option.some.injEq, Prod.mk.injEq, List.length_cons] at h
            omega
      · rw [if_neg hc] at h
        cases hq : qtR (a ++ y) with
        | none => rw [hq] at h; cases h
        | some z =>
          obtain ⟨t', m⟩ := z
          rw [hq] at h
          simp only [Option.map_some, Option.some.injEq, Prod.mk.injEq, List.length_cons] at h
          obtain ⟨rfl, hm⟩ := h
          have hm' : m = a.length := by omega
          subst hm'
          obtain ⟨h1, h2⟩ := ih a.length (by simp only [List.length_cons]; omega) a rfl y t' hq
          refine ⟨h1, fun x hx => ?_⟩
          rw [List.cons_append, qtR_cons, if_neg hc, h2 x hx]
          rfl
theorem qt_loc {r r' t : List Int} {n : Nat} (L : Loc r r' n) (h : qtR r = some (t, n)) : qtR r' = some (t, n) := by
  have hl := L.lenr
  have hl' := L.len
  have e : (r.take n).length = n := by rw [List.length_take]; omega
  have h1 : qtR (r.take n ++ r.drop n) = some (t, (r.take n).length) := by rw [List.take_append_drop, e]; exact h
  obtain ⟨h2, h3⟩ := qt_app (r.take n) _ _ h1
  have := h3 (r'.drop n) (by
    rw [getD_drop, Nat.add_zero]
    rw [getD_drop, Nat.add_zero] at h2
    rcases L.next with k | k
    · rcases k with k | k <;> rw [k] <;> decide
    · rw [k.1]; exact h2)
  rw [← L.take (Nat.le_refl n), List.take_append_drop, List.length_take] at this
  rw [this, show min n r'.length = n by omega]
theorem qtW_loc {r r' t : List Int} {n : Nat} (L : Loc r r' n) (h : qtW r = some (t, n)) : qtW r' = some (t, n) := by
  unfold qtW at h ⊢
  cases hq : qtR (r.drop 1) with
  | none => rw [hq] at h; cases h
  | some x =>
    obtain ⟨t', m⟩ := x
    rw [hq] at h
    simp only at h
    split at h
    · rename_i ht
      simp only [Option.some.injEq, Prod.mk.injEq] at h
      obtain ⟨rfl, rfl⟩ := h
      have L1 : Loc (r.drop 1) (r'.drop 1) m := Loc.drop (by rw [Nat.add_comm]; exact L)
      rw [qt_loc L1 hq]
      simp only
      rw [if_pos ht]
    · cases h
theorem word_loc {rd : List Int → Bool} {r r' t : List Int} {k : Int} {n : Nat} (hr : r ≠ []) (h : word rd r = some (k, t, n)) (L : Loc r r' n) : word rd r' = some (k, t, n) := by
  have hlen := word_len hr h
  have hn := hlen.1
  have h0 : r'.getD 0 0 = r.getD 0 0 := L.same 0 hn
  unfold word at h ⊢
  simp only at h ⊢
  rw [h0]
  split at h
  · rename_i hc
    rw [if_pos hc]
    split at h
    · rename_i hl
      simp only [Option.some.injEq, Prod.mk.injEq] at h
      obtain ⟨rfl, rfl, rfl⟩ := h
      have e := nm_loc L hn (by omega)
      have L2 : Loc (r.drop (nmLen r)) (r'.drop (nmLen r)) (1 + 0) := Loc.drop L
      rw [e, if_pos (lone_loc L2 hl), L.take (Nat.le_refl _)]
    · rename_i hl
      simp only [Option.some.injEq, Prod.mk.injEq] at h
      obtain ⟨rfl, rfl, rfl⟩ := h
      have e := nm_loc L hn (by omega)
      have L2 : Loc (r.drop (nmLen r)) (r'.drop (nmLen r)) 0 := Loc.drop L
      rw [e, if_neg (by rw [lone_loc0 L2 (by simpa using hl)]; decide), L.take (Nat.le_refl _)]
  · rename_i hc
    rw [if_neg hc]
    split at h
    · rename_i hd
      rw [if_pos hd]
      split at h
      · rename_i hrd
        simp only [Option.some.injEq, Prod.mk.injEq] at h
        obtain ⟨rfl, rfl, rfl⟩ := h
        have e := tw_loc L dgB rfl rfl (Nat.le_refl _)
        rw [e, L.take (Nat.le_refl _), if_pos hrd]
      · cases h
    · rename_i hd
      rw [if_neg hd]
      split at h
      · rename_i h39
        rw [if_pos h39]
        obtain ⟨x, hq, he⟩ := Option.map_eq_some_iff.1 h
        obtain ⟨t', n'⟩ := x
        simp only [Prod.mk.injEq] at he
        obtain ⟨rfl, rfl, rfl⟩ := he
        rw [qtW_loc L hq]
        rfl
      · rename_i h39
        rw [if_neg h39]
        split at h
        · rename_i h35
          rw [if_pos h35]
          have h1 : 1 < n → r'.getD 1 0 = r.getD 1 0 := fun hk => L.same 1 hk
          split at h
          · rename_i h40
            simp only [Option.some.injEq, Prod.mk.injEq] at h
            obtain ⟨rfl, rfl, rfl⟩ := h
            rw [h1 (by omega), if_pos h40, L.take (Nat.le_refl _)]
          · rename_i h40
            split at h
            · rename_i h39'
              obtain ⟨x, hq, he⟩ := Option.map_eq_some_iff.1 h
              obtain ⟨t', n'⟩ := x
              simp only [Prod.mk.injEq] at he
              obtain ⟨rfl, rfl, rfl⟩ := he
              have hne : r.drop 1 ≠ [] := by
                intro e
                have : r.getD 1 0 = 0 := by
                  have := getD_drop r 1 0
                  rw [e] at this
                  simpa using this.symm
                rw [this] at h39'
                exact absurd h39' (by decide)
              have hq2 := qtW_len hne hq
              rw [h1 (by omega), if_neg h40, if_pos h39']
              have L1 : Loc (r.drop 1) (r'.drop 1) n' := Loc.drop (by rw [Nat.add_comm]; exact L)
              rw [qtW_loc L1 hq]
              rfl
            · rename_i h39'
              split at h
              · cases h
              · rename_i hb
                simp only [Option.some.injEq, Prod.mk.injEq] at h
                obtain ⟨rfl, rfl, rfl⟩ := h
                have L1 : Loc (r.drop 1) (r'.drop 1) (plLen (r.drop 1)) := Loc.drop (by rw [Nat.add_comm]; exact L)
                rw [h1 (by omega), if_neg h40, if_neg h39', pl_loc L1 (by omega) rfl, if_neg hb, L1.take (Nat.le_refl _)]
        · rename_i h35
          rw [if_neg h35]
          split at h
          · rename_i hs
            rw [if_pos hs]
            simp only [Option.some.injEq, Prod.mk.injEq] at h
            obtain ⟨rfl, rfl, rfl⟩ := h
            rw [sg_loc L hn rfl, L.take (Nat.le_refl _)]
          · rename_i hs
            rw [if_neg hs]
            split at h
            · rename_i h58
              rw [if_pos h58]
              split at h
              · rename_i hl
                simp only [Option.some.injEq, Prod.mk.injEq] at h
                obtain ⟨rfl, rfl, rfl⟩ := h
                rw [if_pos (lone_loc (n := 0) L hl), L.take (Nat.le_refl _)]
              · rename_i hl
                simp only [Option.some.injEq, Prod.mk.injEq] at h
                obtain ⟨rfl, rfl, rfl⟩ := h
                have : lone r' = lone r := by
                  unfold lone
                  rw [L.same 0 (by omega), L.same 1 (by omega)]
                rw [this, if_neg hl, L.take (Nat.le_refl _)]
            · rename_i h58
              rw [if_neg h58]
              obtain ⟨i, hm, he⟩ := Option.map_eq_some_iff.1 h
              simp only [Prod.mk.injEq] at he
              obtain ⟨rfl, rfl, rfl⟩ := he
              rw [hm, Option.map_some, L.take (Nat.le_refl _)]
/-- Words are told from wherever they are counted. -/
def shiftT (d : Nat) (o : Except Nat (List Tk)) : Except Nat (List Tk) := match o with
  | .ok l => .ok (l.map fun t => ⟨t.kind, t.text, t.pos + d⟩)
  | .error p => .error (p + d)
theorem lexS_shift (rd : List Int → Bool) (d f : Nat) : ∀ (p : Nat) (r : List Int), lexS rd f (p + d) r = shiftT d (lexS rd f p r) := by
  induction f with
  | zero => intro p r; rfl
  | succ f ih =>
    intro p r
    cases r with
    | nil => rfl
    | cons c q =>
      simp only [lexS]
      split
      · rw [show p + d + 1 = p + 1 + d by omega]; exact ih _ _
      · split
        · cases q.idxOf? 34 with
          | none => rfl
          | some k => simp only; rw [show p + d + k + 2 = p + k + 2 + d by omega]; exact ih _ _
        · cases word rd (c :: q) with
          | none => rfl
          | some x =>
            obtain ⟨k, t, n⟩ := x
            simp only
            rw [show p + d + n = p + n + d by omega, ih]
            cases lexS rd f (p + n) ((c :: q).drop n) with
            | error e => rfl
            | ok l => rfl
theorem lexR_shift (rd : List Int → Bool) (d p : Nat) (r : List Int) : lexR rd (p + d) r = shiftT d (lexR rd p r) := lexS_shift rd d _ p r
theorem idx_app (r x : List Int) (c : Int) (k : Nat) (h : r.idxOf? c = some k) : (r ++ x).idxOf? c = some k := by
  induction r generalizing k with
  | nil => cases h
  | cons d r ih =>
    rw [List.cons_append, List.idxOf?_cons]
    rw [List.idxOf?_cons] at h
    split at h
    · rename_i hd; rw [if_pos hd]; exact h
    · rename_i hd
      rw [if_neg hd]
      obtain ⟨j, hj, he⟩ := Option.map_eq_some_iff.1 h
      rw [ih j hj]
      simpa using he
/-- Behind words that are whole, and a blank, others come. -/
theorem word_close (rd : List Int → Bool) : word rd [93] = some (11, [93], 1) := rfl
theorem lex_in (rd : List Int → Bool) (n : Nat) : ∀ (p : Nat) (r : List Int) (l : List Tk), r.length ≤ n → lexR rd p r = .ok l → lexR rd p (r ++ [93]) = .ok (l.dropLast ++ [⟨11, [93], p + r.length⟩, ⟨0, [], p + r.length + 1⟩]) := by
  have base : ∀ (p : Nat) (l : List Tk), lexR rd p [] = .ok l → lexR rd p ([] ++ [93]) = .ok (l.dropLast ++ [⟨11, [93], p + ([] : List Int).length⟩, ⟨0, [], p + ([] : List Int).length + 1⟩]) := by
    intro p l h
    rw [lexR_nil] at h
    cases h
    rw [List.nil_append, lexR_word _ _ rfl (by decide) (word_close rd)]
    show (lexR rd (p + 1) []).map _ = _
    rw [lexR_nil]
    rfl
  induction n with
  | zero =>
    intro p r l hn h
    obtain rfl : r = [] := List.eq_nil_of_length_eq_zero (by omega)
    exact base p l h
  | succ n ih =>
    intro p r l hn h
    cases r with
    | nil => exact base p l h
    | cons c r =>
      rw [List.length_cons] at hn
      rw [List.cons_append]
      cases hb : blB c with
      | true =>
        rw [lexR_blank _ _ _ hb] at h ⊢
        rw [ih (p + 1) r l (by omega) h, List.length_cons, show p + 1 + r.length = p + (r.length + 1) by omega]
      | false =>
        by_cases h34 : c = 34
        · subst h34
          cases hi : r.idxOf? 34 with
          | none => rw [lexR_open _ _ _ hi] at h; cases h
          | some k =>
            have hk : k < r.length := (List.findIdx?_eq_some_iff_getElem.1 hi).1
            rw [lexR_note _ _ _ hi] at h
            rw [lexR_note _ _ _ (idx_app r [93] 34 k hi), List.drop_append_of_le_length (by omega), ih (p + k + 2) _ l (by rw [List.length_drop]; omega) h, List.length_drop, List.length_cons, show p + k + 2 + (r.length - (k + 1)) = p + (r.length + 1) by omega]
        · cases hw : word rd (c :: r) with
          | none => rw [lexR_none _ _ hb h34 hw] at h; cases h
          | some x =>
            obtain ⟨k, t, m⟩ := x
            have hl := word_len (by simp) hw
            rw [List.length_cons] at hl
            have hw2 : word rd ((c :: r) ++ [93]) = some (k, t, m) := by
              refine word_loc (by simp) hw ⟨by simp; omega, by simp; omega, fun j hj => ?_, ?_⟩
              · have h1 : j < (c :: r).length := by simp; omega
                rw [getD_lt h1, getD_lt (by rw [List.length_append]; omega), List.getElem_append_left h1]
              · by_cases hm : m < (c :: r).length
                · right
                  have e : ∀ j, j < (c :: r).length → ((c :: r) ++ [93]).getD j 0 = (c :: r).getD j 0 := fun j hj => by
                    rw [getD_lt hj, getD_lt (by rw [List.length_append]; omega), List.getElem_append_left hj]
                  refine ⟨e m hm, fun _ => ?_⟩
                  by_cases hm1 : m + 1 < (c :: r).length
                  · rw [e _ hm1]
                  · have e1 : (c :: r).getD (m + 1) 0 = 0 := by simp only [List.getD_eq_getElem?_getD]; rw [List.getElem?_eq_none (by omega)]; rfl
                    have e2 : ((c :: r) ++ [93]).getD (m + 1) 0 = 93 := by
                      simp only [List.getD_eq_getElem?_getD]
                      rw [List.getElem?_append_right (by omega), show m + 1 - (c :: r).length = 0 by omega]
                      rfl
                    rw [e1, e2]
                    decide
                · left
                  right
                  simp only [List.getD_eq_getElem?_getD]
                  rw [List.getElem?_append_right (by omega), show m - (c :: r).length = 0 by simp only [List.length_cons] at hm ⊢; omega]
                  rfl
            rw [List.cons_append] at hw2
            rw [lexR_word _ _ hb h34 hw] at h
            rw [lexR_word _ _ hb h34 hw2, ← List.cons_append, List.drop_append_of_le_length (by simp; omega)]
            cases hr : lexR rd (p + m) ((c :: r).drop m) with
            | error q => rw [hr] at h; cases h
            | ok l' =>
              rw [hr] at h
              cases h
              have hne : l' ≠ [] := by
                intro e
                subst e
                have hp := placed rd ((c :: r).drop m) ((c :: r).drop m).length 0 [] (by omega) (Nat.zero_le _)
                rw [List.drop_zero] at hp
                have hs := lexR_shift rd (p + m) 0 ((c :: r).drop m)
                rw [Nat.zero_add, hr] at hs
                cases hz : lexR rd 0 ((c :: r).drop m) with
                | error q => rw [hz] at hs; cases hs
                | ok z =>
                  rw [hz] at hs
                  have : z = [] := by
                    cases z with
                    | nil => rfl
                    | cons _ _ => cases hs
                  subst this
                  exact hp hz
              rw [ih (p + m) _ l' (by rw [List.length_drop, List.length_cons]; omega) hr, List.length_drop, List.length_cons, show p + m + (r.length + 1 - m) = p + (r.length + 1) by omega, List.dropLast_cons_of_ne_nil hne]
              rfl
/-- The words of a source within brackets. -/
def inW (W : List Tk) (m : Nat) : List Tk := ⟨10, [91], 0⟩ :: ((W.map fun t => ⟨t.kind, t.text, t.pos + 1⟩).dropLast ++ [⟨11, [93], m + 1⟩, ⟨0, [], m + 2⟩])
theorem lex_block {rd : List Int → Bool} {ss : List Int} {W : List Tk} (h : lexR rd 0 ss = .ok W) : lexR rd 0 (91 :: (ss ++ [93])) = .ok (inW W ss.length) := by
  have hw : word rd (91 :: (ss ++ [93])) = some (10, [91], 1) := rfl
  have hs := lexR_shift rd 1 0 ss
  rw [h] at hs
  have hi := lex_in rd ss.length (0 + 1) ss _ (Nat.le_refl _) hs
  rw [lexR_word _ _ rfl (by decide) hw]
  show (lexR rd (0 + 1) (ss ++ [93])).map _ = _
  rw [hi]
  unfold inW
  rw [show 0 + 1 + ss.length = ss.length + 1 by omega]
  rfl
end Go.Proofs.Ytoghhjljmhdioaa
