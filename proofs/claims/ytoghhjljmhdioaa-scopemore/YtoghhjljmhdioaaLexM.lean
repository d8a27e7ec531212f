/- A source's words, as plain functions over its bytes. -/
import Derived.WalkKit
namespace Go.Proofs.Ytoghhjljmhdioaa
def letB (c : Int) : Bool := (decide (97 ≤ c) && decide (c ≤ 122)) || (decide (65 ≤ c) && decide (c ≤ 90))
def dgB (c : Int) : Bool := decide (48 ≤ c) && decide (c ≤ 57)
def nmB (c : Int) : Bool := letB c || dgB c || c == 95
def blB (c : Int) : Bool := c == 32 || c == 9 || c == 10 || c == 13
def sgs : List Int := [43, 45, 42, 47, 92, 60, 62, 61, 126, 44, 64, 37, 38, 63]
def sgB (c : Int) : Bool := sgs.contains c
def mks : List Int := [40, 41, 91, 93, 124, 94, 46, 59]
/-- How long the name is that begins here. -/
def nmLen (r : List Int) : Nat := if letB (r.getD 0 0) then (r.takeWhile nmB).length else 0
def sgLen (r : List Int) : Nat := ((r.take 2).takeWhile sgB).length
def lone (r : List Int) : Bool := r.getD 0 0 == 58 && r.getD 1 0 != 61
/-- Colons and names behind a name. -/
def colLen : Nat → List Int → Nat
  | 0, _ => 0
  | f + 1, r => if lone r then 1 + nmLen (r.drop 1) + colLen f (r.drop (1 + nmLen (r.drop 1))) else 0
def plLen (r : List Int) : Nat := if nmLen r = 0 then sgLen r else nmLen r + colLen r.length (r.drop (nmLen r))
/-- What stands behind a quote, up to the one that ends it. -/
def qtR : List Int → Option (List Int × Nat)
  | [] => none
  | c :: r =>
    if c = 39 then
      match r with
      | [] => some ([], 1)
      | d :: q => if d = 39 then (qtR q).map fun x => (39 :: x.1, x.2 + 2) else some ([], 1)
    else (qtR r).map fun x => (c :: x.1, x.2 + 1)
/-- The text in quotes whose quote stands here. -/
def qtW (r : List Int) : Option (List Int × Nat) :=
  match qtR (r.drop 1) with
  | none => none
  | some (t, n) => if t.length ≤ 1024 then some (t, n + 1) else none
/-- Whether the digits are a number. -/
def numOk (d : List Int) : Bool := decide (d ≠ []) && !(decide (1 < d.length) && d.getD 0 0 == 48) && d.all dgB
def word (rd : List Int → Bool) (r : List Int) : Option (Int × List Int × Nat) :=
  let c := r.getD 0 0
  if letB c then
    let n := nmLen r
    if lone (r.drop n) then some (2, r.take (n + 1), n + 1) else some (1, r.take n, n)
  else if dgB c then
    let n := (r.takeWhile dgB).length
    if rd (r.take n) then some (4, r.take n, n) else none
  else if c = 39 then (qtW r).map fun x => (5, x.1, x.2)
  else if c = 35 then
    if r.getD 1 0 = 40 then some (17, r.take 2, 2)
    else if r.getD 1 0 = 39 then (qtW (r.drop 1)).map fun x => (6, x.1, x.2 + 1)
    else
      let n := plLen (r.drop 1)
      if n = 0 ∨ 1024 < n then none else some (6, (r.drop 1).take n, n + 1)
  else if sgB c then some (3, r.take (sgLen r), sgLen r)
  else if c = 58 then (if lone r then some (16, r.take 1, 1) else some (7, r.take 2, 2))
  else (mks.idxOf? c).map fun (i : Nat) => (8 + (i : Int), r.take 1, 1)
/-- A word: its kind, its text, its place. -/
structure Tk where
  kind : Int
  text : List Int
  pos : Nat
deriving DecidableEq
/-- The words from a place on; or the place where there is none. -/
def lexS (rd : List Int → Bool) : Nat → Nat → List Int → Except Nat (List Tk)
  | 0, p, _ => .error p
  | _ + 1, p, [] => .ok [⟨0, [], p⟩]
  | f + 1, p, c :: r =>
    if blB c then lexS rd f (p + 1) r
    else if c = 34 then
      match r.idxOf? 34 with
      | none => .error p
      | some k => lexS rd f (p + k + 2) (r.drop (k + 1))
    else
      match word rd (c :: r) with
      | none => .error p
      | some (k, t, n) => (lexS rd f (p + n) ((c :: r).drop n)).map fun l => ⟨k, t, p⟩ :: l
def lexR (rd : List Int → Bool) (p : Nat) (r : List Int) : Except Nat (List Tk) := lexS rd (r.length + 1) p r

theorem letB_nm {c : Int} (h : letB c = true) : nmB c = true := by unfold nmB; rw [h]; rfl
theorem nmLen_pos {r : List Int} (h : letB (r.getD 0 0) = true) : 0 < nmLen r := by
  unfold nmLen
  rw [if_pos h]
  cases r with
  | nil => exact absurd h (by decide)
  | cons c q =>
    have : nmB c = true := letB_nm h
    rw [List.takeWhile_cons_of_pos this]
    simp
theorem nmLen_le (r : List Int) : nmLen r ≤ r.length := by
  unfold nmLen
  split
  · exact (List.takeWhile_prefix nmB).length_le
  · omega
theorem sgLen_le (r : List Int) : sgLen r ≤ r.length := by
  unfold sgLen
  have h1 := (List.takeWhile_prefix (l := r.take 2) sgB).length_le
  rw [List.length_take] at h1
  omega
theorem lone_len {r : List Int} (h : lone r = true) : 0 < r.length := by
  cases r with
  | nil => exact absurd h (by decide)
  | cons c q => simp
theorem colLen_le (f : Nat) (r : List Int) : colLen f r ≤ r.length := by
  induction f generalizing r with
  | zero => exact Nat.zero_le _
  | succ f ih =>
    unfold colLen
    split
    · rename_i h
      have h1 := lone_len h
      have h2 := nmLen_le (r.drop 1)
      have h3 := ih (r.drop (1 + nmLen (r.drop 1)))
      rw [List.length_drop] at h2 h3
      omega
    · omega
theorem plLen_le (r : List Int) : plLen r ≤ r.length := by
  unfold plLen
  split
  · exact sgLen_le r
  · have h1 := nmLen_le r
    have h2 := colLen_le r.length (r.drop (nmLen r))
    rw [List.length_drop] at h2
    omega
theorem qtR_len {r t : List Int} {n : Nat} (h : qtR r = some (t, n)) : 0 < n ∧ n ≤ r.length ∧ t.length < n := by
  induction hl : r.length using Nat.strongRecOn generalizing r t n with
  | ind k ih =>
    subst hl
    cases r with
    | nil => cases h
    | cons c q =>
      unfold qtR at h
      split at h
      · cases q with
        | nil =>
          simp only [Option.some.injEq, Prod.mk.injEq] at h
          obtain ⟨rfl, rfl⟩ := h
          exact ⟨by omega, by simp, by simp⟩
        | cons d q =>
          simp only at h
          split at h
          · cases hq : qtR q with
            | none => rw [hq] at h; cases h
            | some x =>
              obtain ⟨t', n'⟩ := x
              rw [hq] at h
              simp only [Option.map_some, Option.some.injEq, Prod.mk.injEq] at h
              obtain ⟨rfl, rfl⟩ := h
              have := ih q.length (by simp; omega) hq rfl
              simp only [List.length_cons]
              omega
          · simp only [Option.some.injEq, Prod.mk.injEq] at h
            obtain ⟨rfl, rfl⟩ := h
            exact ⟨by omega, by simp, by simp⟩
      · cases hq : qtR q with
        | none => rw [hq] at h; cases h
        | some x =>
          obtain ⟨t', n'⟩ := x
          rw [hq] at h
          simp only [Option.map_some, Option.some.injEq, Prod.mk.injEq] at h
          obtain ⟨rfl, rfl⟩ := h
          have := ih q.length (by simp) hq rfl
          simp only [List.length_cons]
          omega
theorem qtW_len {r t : List Int} {n : Nat} (hr : r ≠ []) (h : qtW r = some (t, n)) : 1 < n ∧ n ≤ r.length ∧ t.length ≤ 1024 := by
  unfold qtW at h
  cases hq : qtR (r.drop 1) with
  | none => rw [hq] at h; cases h
  | some x =>
    obtain ⟨t', n'⟩ := x
    rw [hq] at h
    simp only at h
    split at h
    · rename_i ht
      simp only [Option.some.injEq, Prod.mk.injEq] at h
      obtain ⟨rfl, rfl⟩ := h
      have := qtR_len hq
      have hl : 0 < r.length := List.length_pos_iff.2 hr
      rw [List.length_drop] at this
      omega
    · cases h
theorem word_len {rd : List Int → Bool} {r t : List Int} {k : Int} {n : Nat} (hr : r ≠ []) (h : word rd r = some (k, t, n)) : 0 < n ∧ n ≤ r.length ∧ 0 < k ∧ k ≤ 17 := by
  have hl : 0 < r.length := List.length_pos_iff.2 hr
  unfold word at h
  simp only at h
  split at h
  · rename_i hc
    have h1 := nmLen_pos hc
    have h2 := nmLen_le r
    split at h
    · rename_i hlo
      have := lone_len hlo
      rw [List.length_drop] at this
      simp only [Option.some.injEq, Prod.mk.injEq] at h
      obtain ⟨rfl, rfl, rfl⟩ := h
      omega
    · simp only [Option.some.injEq, Prod.mk.injEq] at h
      obtain ⟨rfl, rfl, rfl⟩ := h
      omega
  · split at h
    · rename_i hd
      split at h
      · simp only [Option.some.injEq, Prod.mk.injEq] at h
        obtain ⟨rfl, rfl, rfl⟩ := h
        have h1 := (List.takeWhile_prefix (l := r) dgB).length_le
        have h2 : 0 < (r.takeWhile dgB).length := by
          cases r with
          | nil => exact absurd rfl hr
          | cons c q =>
            rw [List.takeWhile_cons_of_pos (show dgB c = true from hd)]
            simp
        omega
      · cases h
    · split at h
      · cases hq : qtW r with
        | none => rw [hq] at h; cases h
        | some x =>
          obtain ⟨t', n'⟩ := x
          rw [hq] at h
          simp only [Option.map_some, Option.some.injEq, Prod.mk.injEq] at h
          obtain ⟨rfl, rfl, rfl⟩ := h
          have := qtW_len hr hq
          omega
      · split at h
        · split at h
          · rename_i h4
            have : 2 ≤ r.length := by
              match r, h4 with
              | [], h4 => simp at h4
              | [_], h4 => simp at h4
              | _ :: _ :: _, _ => simp
            simp only [Option.some.injEq, Prod.mk.injEq] at h
            obtain ⟨rfl, rfl, rfl⟩ := h
            omega
          · split at h
            · rename_i h4
              have : r.drop 1 ≠ [] := by
                match r, h4 with
                | [], h4 => simp at h4
                | [_], h4 => simp at h4
                | _ :: _ :: _, _ => simp
              cases hq : qtW (r.drop 1) with
              | none => rw [hq] at h; cases h
              | some x =>
                obtain ⟨t', n'⟩ := x
                rw [hq] at h
                simp only [Option.map_some, Option.some.injEq, Prod.mk.injEq] at h
                obtain ⟨rfl, rfl, rfl⟩ := h
                have := qtW_len this hq
                rw [List.length_drop] at this
                omega
            · split at h
              · cases h
              · have := plLen_le (r.drop 1)
                rw [List.length_drop] at this
                simp only [Option.some.injEq, Prod.mk.injEq] at h
                obtain ⟨rfl, rfl, rfl⟩ := h
                omega
        · split at h
          · rename_i hs
            have h1 := sgLen_le r
            have h2 : 0 < sgLen r := by
              unfold sgLen
              cases r with
              | nil => exact absurd rfl hr
              | cons c q =>
                rw [List.take_succ_cons, List.takeWhile_cons_of_pos (show sgB c = true from hs)]
                simp
            simp only [Option.some.injEq, Prod.mk.injEq] at h
            obtain ⟨rfl, rfl, rfl⟩ := h
            omega
          · split at h
            · rename_i h58
              split at h
              · simp only [Option.some.injEq, Prod.mk.injEq] at h
                obtain ⟨rfl, rfl, rfl⟩ := h
                omega
              · rename_i hlo
                have : 2 ≤ r.length := by
                  match r, h58, hlo with
                  | [], h4, _ => simp at h4
                  | [_], h4, h5 => simp at h4; subst h4; exact absurd rfl h5
                  | _ :: _ :: _, _, _ => simp
                simp only [Option.some.injEq, Prod.mk.injEq] at h
                obtain ⟨rfl, rfl, rfl⟩ := h
                omega
            · obtain ⟨i, hm, h⟩ := Option.map_eq_some_iff.1 h
              · simp only [Prod.mk.injEq] at h
                obtain ⟨rfl, rfl, rfl⟩ := h
                have : i < 8 := by
                  have := List.of_findIdx?_eq_some hm
                  have h2 := (List.findIdx?_eq_some_iff_getElem.1 hm).1
                  simpa [mks] using h2
                omega
theorem lexS_more (rd : List Int → Bool) (f g p : Nat) (r : List Int) (hf : r.length < f) (hg : r.length < g) : lexS rd f p r = lexS rd g p r := by
  induction f generalizing g p r with
  | zero => omega
  | succ f ih =>
    cases g with
    | zero => omega
    | succ g =>
      cases r with
      | nil => rfl
      | cons c q =>
        simp only [List.length_cons] at hf hg
        unfold lexS
        rw [ih g (p + 1) q (by omega) (by omega)]
        split
        · rfl
        · split
          · cases hi : q.idxOf? 34 with
            | none => rfl
            | some k => exact ih _ _ _ (by rw [List.length_drop]; omega) (by rw [List.length_drop]; omega)
          · cases hw : word rd (c :: q) with
            | none => rfl
            | some x =>
              obtain ⟨k, t, n⟩ := x
              have := word_len (by simp) hw
              show (lexS rd f (p + n) ((c :: q).drop n)).map _ = (lexS rd g (p + n) ((c :: q).drop n)).map _
              rw [ih g (p + n) ((c :: q).drop n) (by rw [List.length_drop, List.length_cons]; omega) (by rw [List.length_drop, List.length_cons]; omega)]
theorem lexR_nil (rd : List Int → Bool) (p : Nat) : lexR rd p [] = .ok [⟨0, [], p⟩] := rfl
theorem lexR_blank (rd : List Int → Bool) (p : Nat) {c : Int} (r : List Int) (h : blB c = true) : lexR rd p (c :: r) = lexR rd (p + 1) r := by
  unfold lexR
  rw [List.length_cons, lexS, if_pos h]
theorem lexR_note (rd : List Int → Bool) (p : Nat) {k : Nat} (r : List Int) (h : r.idxOf? 34 = some k) : lexR rd p (34 :: r) = lexR rd (p + k + 2) (r.drop (k + 1)) := by
  unfold lexR
  rw [List.length_cons, lexS, if_neg (by decide), if_pos rfl, h]
  exact lexS_more _ _ _ _ _ (by rw [List.length_drop]; omega) (by omega)
theorem lexR_open (rd : List Int → Bool) (p : Nat) (r : List Int) (h : r.idxOf? 34 = none) : lexR rd p (34 :: r) = .error p := by
  unfold lexR
  rw [List.length_cons, lexS, if_neg (by decide), if_pos rfl, h]
theorem lexR_word (rd : List Int → Bool) (p : Nat) {c : Int} {r t : List Int} {k : Int} {n : Nat} (hb : blB c = false) (hq : c ≠ 34) (h : word rd (c :: r) = some (k, t, n)) : lexR rd p (c :: r) = (lexR rd (p + n) ((c :: r).drop n)).map fun l => ⟨k, t, p⟩ :: l := by
  unfold lexR
  rw [List.length_cons, lexS, if_neg (by rw [hb]; decide), if_neg hq, h]
  simp only
  have := word_len (by simp) h
  rw [lexS_more rd (r.length + 1) (((c :: r).drop n).length + 1) (p + n) ((c :: r).drop n) (by rw [List.length_drop, List.length_cons]; omega) (by omega)]
theorem lexR_none (rd : List Int → Bool) (p : Nat) {c : Int} {r : List Int} (hb : blB c = false) (hq : c ≠ 34) (h : word rd (c :: r) = none) : lexR rd p (c :: r) = .error p := by
  unfold lexR
  rw [List.length_cons, lexS, if_neg (by rw [hb]; decide), if_neg hq, h]
end Go.Proofs.Ytoghhjljmhdioaa
