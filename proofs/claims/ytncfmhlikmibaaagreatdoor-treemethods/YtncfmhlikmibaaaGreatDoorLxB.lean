/- Where names, signs and symbols end. -/
import Derived.WalkKit
import Derived.Test.YtncfmhlikmibaaaGreatDoorRead
import Derived.Lib.OthersKept
namespace Go.Proofs.YtncfmhlikmibaaaGreatDoor
open Go.RowKit
set_option maxRecDepth 100000
set_option maxHeartbeats 16000000
section
def Ze8 (c : Int) : Bool := (decide (97 ≤ c) && decide (c ≤ 122)) || (decide (65 ≤ c) && decide (c ≤ 90))
def dgB (c : Int) : Bool := decide (48 ≤ c) && decide (c ≤ 57)
def nmB (c : Int) : Bool := Ze8 c || dgB c || c == 95
def blB (c : Int) : Bool := c == 32 || c == 9 || c == 10 || c == 13
def sgs : List Int := [43, 45, 42, 47, 92, 60, 62, 61, 126, 44, 64, 37, 38, 63]
def sgB (c : Int) : Bool := sgs.contains c
def mks : List Int := [40, 41, 91, 93, 124, 94, 46, 59]
def Zaq (r : List Int) : Nat := if Ze8 (r.getD 0 0) then (r.takeWhile nmB).length else 0
def Zcd (r : List Int) : Nat := ((r.take 2).takeWhile sgB).length
def Zic (r : List Int) : Bool := r.getD 0 0 == 58 && r.getD 1 0 != 61
def Zee : Nat → List Int → Nat
 | 0, _ => 0
 | f + 1, r => if Zic r then 1 + Zaq (r.drop 1) + Zee f (r.drop (1 + Zaq (r.drop 1))) else 0
def Zcn (r : List Int) : Nat := if Zaq r = 0 then Zcd r else Zaq r + Zee r.length (r.drop (Zaq r))
def qtR : List Int → Option (List Int × Nat)
 | [] => none
 | c :: r =>
  if c = 39 then
   match r with
   | [] => some ([], 1)
   | d :: q => if d = 39 then (qtR q).map fun x => (39 :: x.1, x.2 + 2) else some ([], 1)
  else (qtR r).map fun x => (c :: x.1, x.2 + 1)
def qtW (r : List Int) : Option (List Int × Nat) :=
 match qtR (r.drop 1) with
 | none => none
 | some (t, n) => if t.length ≤ 1024 then some (t, n + 1) else none
def word (rd : List Int → Bool) (r : List Int) : Option (Int × List Int × Nat) :=
 let c := r.getD 0 0
 if Ze8 c then
  let n := Zaq r
  if Zic (r.drop n) then some (2, r.take (n + 1), n + 1) else some (1, r.take n, n)
 else if dgB c then
  let n := (r.takeWhile dgB).length
  if rd (r.take n) then some (4, r.take n, n) else none
 else if c = 39 then (qtW r).map fun x => (5, x.1, x.2)
 else if c = 35 then
  if r.getD 1 0 = 40 then some (17, r.take 2, 2)
  else if r.getD 1 0 = 39 then (qtW (r.drop 1)).map fun x => (6, x.1, x.2 + 1)
  else
   let n := Zcn (r.drop 1)
   if n = 0 ∨ 1024 < n then none else some (6, (r.drop 1).take n, n + 1)
 else if sgB c then some (3, r.take (Zcd r), Zcd r)
 else if c = 58 then (if Zic r then some (16, r.take 1, 1) else some (7, r.take 2, 2))
 else (mks.idxOf? c).map fun (i : Nat) => (8 + (i : Int), r.take 1, 1)
structure Tk where
 kind : Int
 text : List Int
 pos : Nat
deriving DecidableEq
def Znc (rd : List Int → Bool) : Nat → Nat → List Int → Except Nat (List Tk)
 | 0, p, _ => .error p
 | _ + 1, p, [] => .ok [⟨0, [], p⟩]
 | f + 1, p, c :: r =>
  if blB c then Znc rd f (p + 1) r
  else if c = 34 then
   match r.idxOf? 34 with
   | none => .error p
   | some k => Znc rd f (p + k + 2) (r.drop (k + 1))
  else
   match word rd (c :: r) with
   | none => .error p
   | some (k, t, n) => (Znc rd f (p + n) ((c :: r).drop n)).map fun l => ⟨k, t, p⟩ :: l
def Zck (rd : List Int → Bool) (p : Nat) (r : List Int) : Except Nat (List Tk) := Znc rd (r.length + 1) p r

variable {c : Int} {n : Nat} {r t : List Int}
theorem Zqh (h : Ze8 c = true) : nmB c = true := by unfold nmB; rw [h]; rfl
theorem Zld (h : Ze8 (r.getD 0 0) = true) : 0 < Zaq r := by
 unfold Zaq
 rw [if_pos h]
 cases r with
 | nil => exact absurd h (by decide)
 | cons c q =>
  have : nmB c = true := Zqh h
  rw [List.takeWhile_cons_of_pos this]
  simp
theorem Zcp (r : List Int) : Zaq r ≤ r.length := by
 unfold Zaq
 split
 ·exact (List.takeWhile_prefix nmB).length_le
 omega
theorem Zgg (r : List Int) : Zcd r ≤ r.length := by
 unfold Zcd
 have h1 := (List.takeWhile_prefix (l := r.take 2) sgB).length_le
 rw [List.length_take] at h1
 omega
theorem Zc3 (h : Zic r = true) : 0 < r.length := by
 cases r with
 | nil => exact absurd h (by decide)
 | cons c q => simp
theorem Zrb (f : Nat) (r : List Int) : Zee f r ≤ r.length := by
 induction f generalizing r with
 | zero => exact Nat.zero_le _
 | succ f ih =>
  unfold Zee
  split
  ·rename_i h
   have h1 := Zc3 h
   have h2 := Zcp (r.drop 1)
   have h3 := ih (r.drop (1 + Zaq (r.drop 1)))
   rw [List.length_drop] at h2 h3
   omega
  omega
theorem Zgj (r : List Int) : Zcn r ≤ r.length := by
 unfold Zcn
 split
 ·exact Zgg r
 have h1 := Zcp r
 have h2 := Zrb r.length (r.drop (Zaq r))
 rw [List.length_drop] at h2
 omega
theorem qtR_len (h : qtR r = some (t, n)) : 0 < n ∧ n ≤ r.length ∧ t.length < n := by
 induction hl : r.length using Nat.strongRecOn generalizing r t n with
 | ind k ih =>
  subst hl
  cases r with
  | nil => cases h
  | cons c q =>
   unfold qtR at h
   split at h
   ·cases q with
    | nil =>
     simp only [Option.some.injEq, Prod.mk.injEq] at h
     obtain ⟨rfl, rfl⟩ := h
     exact ⟨by omega, by simp, by simp⟩
    | cons d q =>
     simp only at h
     split at h
     ·cases hq : qtR q with
      | none => rw [hq] at h; cases h
      | some x =>
       obtain ⟨t', n'⟩ := x
       rw [hq] at h
       simp only [Option.map_some, Option.some.injEq, Prod.mk.injEq] at h
       obtain ⟨rfl, rfl⟩ := h
       have := ih q.length (by simp; omega) hq rfl
       simp only [List.length_cons]
       omega
     simp only [Option.some.injEq, Prod.mk.injEq] at h
     obtain ⟨rfl, rfl⟩ := h
     exact ⟨by omega, by simp, by simp⟩
   cases hq : qtR q with
   | none => rw [hq] at h; cases h
   | some x =>
    obtain ⟨t', n'⟩ := x
    rw [hq] at h
    simp only [Option.map_some, Option.some.injEq, Prod.mk.injEq] at h
    obtain ⟨rfl, rfl⟩ := h
    have := ih q.length (by simp) hq rfl
    simp only [List.length_cons]
    omega
theorem Zpx (hr : r ≠ []) (h : qtW r = some (t, n)) : 1 < n ∧ n ≤ r.length ∧ t.length ≤ 1024 := by
 unfold qtW at h
 cases hq : qtR (r.drop 1) with
 | none => rw [hq] at h; cases h
 | some x =>
  obtain ⟨t', n'⟩ := x
  rw [hq] at h
  simp only at h
  split at h
  ·rename_i ht
   simp only [Option.some.injEq, Prod.mk.injEq] at h
   obtain ⟨rfl, rfl⟩ := h
   have := qtR_len hq
   have hl : 0 < r.length := List.length_pos_iff.2 hr
   rw [List.length_drop] at this
   omega
  cases h
theorem Ze0 {rd : List Int → Bool} {k : Int} (hr : r ≠ []) (h : word rd r = some (k, t, n)) : 0 < n ∧ n ≤ r.length ∧ 0 < k ∧ k ≤ 17 := by
 have hl : 0 < r.length := List.length_pos_iff.2 hr
 unfold word at h
 simp only at h
 split at h
 ·rename_i hc
  have h1 := Zld hc
  have h2 := Zcp r
  split at h
  ·rename_i hlo
   have := Zc3 hlo
   rw [List.length_drop] at this
   simp only [Option.some.injEq, Prod.mk.injEq] at h
   obtain ⟨rfl, rfl, rfl⟩ := h
   omega
  simp only [Option.some.injEq, Prod.mk.injEq] at h
  obtain ⟨rfl, rfl, rfl⟩ := h
  omega
 split at h
 ·rename_i hd
  split at h
  ·simp only [Option.some.injEq, Prod.mk.injEq] at h
   obtain ⟨rfl, rfl, rfl⟩ := h
   have h1 := (List.takeWhile_prefix (l := r) dgB).length_le
   have h2 : 0 < (r.takeWhile dgB).length := by
    cases r with
    | nil => exact absurd rfl hr
    | cons c q =>
     rw [List.takeWhile_cons_of_pos (show dgB c = true from hd)]
     simp
   omega
  cases h
 split at h
 ·cases hq : qtW r with
  | none => rw [hq] at h; cases h
  | some x =>
   obtain ⟨t', n'⟩ := x
   rw [hq] at h
   simp only [Option.map_some, Option.some.injEq, Prod.mk.injEq] at h
   obtain ⟨rfl, rfl, rfl⟩ := h
   have := Zpx hr hq
   omega
 split at h
 ·split at h
  ·rename_i h4
   have : 2 ≤ r.length := by
    match r, h4 with
    | [], h4 => simp at h4
    | [_], h4 => simp at h4
    | _ :: _ :: _, _ => simp
   simp only [Option.some.injEq, Prod.mk.injEq] at h
   obtain ⟨rfl, rfl, rfl⟩ := h
   omega
  split at h
  ·rename_i h4
   have : r.drop 1 ≠ [] := by
    match r, h4 with
    | [], h4 => simp at h4
    | [_], h4 => simp at h4
    | _ :: _ :: _, _ => simp
   cases hq : qtW (r.drop 1) with
   | none => rw [hq] at h; cases h
   | some x =>
    obtain ⟨t', n'⟩ := x
    rw [hq] at h
    simp only [Option.map_some, Option.some.injEq, Prod.mk.injEq] at h
    obtain ⟨rfl, rfl, rfl⟩ := h
    have := Zpx this hq
    rw [List.length_drop] at this
    omega
  split at h
  ·cases h
  have := Zgj (r.drop 1)
  rw [List.length_drop] at this
  simp only [Option.some.injEq, Prod.mk.injEq] at h
  obtain ⟨rfl, rfl, rfl⟩ := h
  omega
 split at h
 ·rename_i hs
  have h1 := Zgg r
  have h2 : 0 < Zcd r := by
   unfold Zcd
   cases r with
   | nil => exact absurd rfl hr
   | cons c q =>
    rw [List.take_succ_cons, List.takeWhile_cons_of_pos (show sgB c = true from hs)]
    simp
  simp only [Option.some.injEq, Prod.mk.injEq] at h
  obtain ⟨rfl, rfl, rfl⟩ := h
  omega
 split at h
 ·rename_i h58
  split at h
  ·simp only [Option.some.injEq, Prod.mk.injEq] at h
   obtain ⟨rfl, rfl, rfl⟩ := h
   omega
  rename_i hlo
  have : 2 ≤ r.length := by
   match r, h58, hlo with
   | [], h4, _ => simp at h4
   | [_], h4, h5 => simp at h4; subst h4; exact absurd rfl h5
   | _ :: _ :: _, _, _ => simp
  simp only [Option.some.injEq, Prod.mk.injEq] at h
  obtain ⟨rfl, rfl, rfl⟩ := h
  omega
 obtain ⟨i, hm, h⟩ := Option.map_eq_some_iff.1 h
 simp only [Prod.mk.injEq] at h
 obtain ⟨rfl, rfl, rfl⟩ := h
 have : i < 8 := by
  have := List.of_findIdx?_eq_some hm
  have h2 := (List.findIdx?_eq_some_iff_getElem.1 hm).1
  simpa [mks] using h2
 omega
theorem Zlh (rd : List Int → Bool) (f g p : Nat) (r : List Int) (hf : r.length < f) (hg : r.length < g) : Znc rd f p r = Znc rd g p r := by
 induction f generalizing g p r with
 | zero => omega
 | succ f ih =>
  cases g with
  | zero => omega
  | succ g =>
   cases r with
   | nil => rfl
   | cons c q =>
    simp only [List.length_cons] at hf hg
    unfold Znc
    rw [ih g (p + 1) q (by omega) (by omega)]
    split
    ·rfl
    split
    ·cases hi : q.idxOf? 34 with
     | none => rfl
     | some k => exact ih _ _ _ (by rw [List.length_drop]; omega) (by rw [List.length_drop]; omega)
    cases hw : word rd (c :: q) with
    | none => rfl
    | some x =>
     obtain ⟨k, t, n⟩ := x
     have := Ze0 (by simp) hw
     show (Znc rd f (p + n) ((c :: q).drop n)).map _ = (Znc rd g (p + n) ((c :: q).drop n)).map _
     rw [ih g (p + n) ((c :: q).drop n) (by rw [List.length_drop, List.length_cons]; omega) (by rw [List.length_drop, List.length_cons]; omega)]
theorem Ze7 (rd : List Int → Bool) (p : Nat) : Zck rd p [] = .ok [⟨0, [], p⟩] := rfl
theorem Zft (rd : List Int → Bool) (p : Nat) (r : List Int) (h : blB c = true) : Zck rd p (c :: r) = Zck rd (p + 1) r := by
 unfold Zck
 rw [List.length_cons, Znc, if_pos h]
theorem Zhb (rd : List Int → Bool) (p : Nat) {k : Nat} (r : List Int) (h : r.idxOf? 34 = some k) : Zck rd p (34 :: r) = Zck rd (p + k + 2) (r.drop (k + 1)) := by
 unfold Zck
 rw [List.length_cons, Znc, if_neg (by decide), if_pos rfl, h]
 exact Zlh _ _ _ _ _ (by rw [List.length_drop]; omega) (by omega)
theorem Zha (rd : List Int → Bool) (p : Nat) (r : List Int) (h : r.idxOf? 34 = none) : Zck rd p (34 :: r) = .error p := by
 unfold Zck
 rw [List.length_cons, Znc, if_neg (by decide), if_pos rfl, h]
theorem Zg9 (rd : List Int → Bool) (p : Nat) {k : Int} (hb : blB c = false) (hq : c ≠ 34) (h : word rd (c :: r) = some (k, t, n)) : Zck rd p (c :: r) = (Zck rd (p + n) ((c :: r).drop n)).map fun l => ⟨k, t, p⟩ :: l := by
 unfold Zck
 rw [List.length_cons, Znc, if_neg (by rw [hb]; decide), if_neg hq, h]
 simp only
 have := Ze0 (by simp) h
 rw [Zlh rd (r.length + 1) (((c :: r).drop n).length + 1) (p + n) ((c :: r).drop n) (by rw [List.length_drop, List.length_cons]; omega) (by omega)]
theorem Zhc (rd : List Int → Bool) (p : Nat) (hb : blB c = false) (hq : c ≠ 34) (h : word rd (c :: r) = none) : Zck rd p (c :: r) = .error p := by
 unfold Zck
 rw [List.length_cons, Znc, if_neg (by rw [hb]; decide), if_neg hq, h]
end
theorem Zn6 (c : Int) (w : World) : Calls Tryz.prog 63 #[.int .u8 c] w fun e w' => e = .returned (.bool (Ze8 c)) ∧ w = w' := by
 unfold Ze8
 by_cases h1 : 97 ≤ c <;> by_cases h2 : c ≤ 122 <;> by_cases h3 : 65 ≤ c <;> by_cases h4 : c ≤ 90 <;>
 (go_enter Tryz.func63, Tryz.ntmps63; go_wp2; go_ret; exact ⟨Zbb (by simp [h1, h2, h3, h4]), rfl⟩)
theorem Zq7 (c : Int) (w : World) : Calls Tryz.prog 65 #[.int .u8 c] w fun e w' => e = .returned (.bool (dgB c)) ∧ w = w' := by
 unfold dgB
 by_cases h1 : 48 ≤ c <;> by_cases h2 : c ≤ 57 <;>
 (go_enter Tryz.func65, Tryz.ntmps65; go_wp2; go_ret; exact ⟨Zbb (by simp [h1, h2]), rfl⟩)
theorem Ze2 (cs : List Int) (b : Int) (pos : Nat) (hp : pos < cs.length) : (cs.take (pos + 1)).contains b = ((cs.take pos).contains b || cs.getD pos 0 == b) := by
 rw [List.take_succ_eq_append_getElem hp, List.contains_append, show cs.getD pos 0 = cs[pos] by simp [hp]]
 congr 1
 rw [List.contains_cons, List.contains_nil, Bool.or_false]
 exact Bool.beq_comm
theorem Zqo (cs : List Int) (b : Int) (w : World) (hc : ∀ x ∈ cs, 0 ≤ x ∧ x < 128) (hb : 0 ≤ b ∧ b < 256) : Calls Tryz.prog 61 #[.string (strOfNums cs), .int .u8 b] w fun e w' => e = .returned (.bool (cs.contains b)) ∧ Below w.heap.size w w' := by
 have hsz : (strOfNums cs).size = cs.length := strOfNums_size cs
 have hc' : ∀ x ∈ cs, 0 ≤ x ∧ x < 256 := fun x hx => ⟨(hc x hx).1, by have := (hc x hx).2; omega⟩
 have hwr : IntKind.i32.wrap b = b := by rw [IntKind.wrap_i32]; omega
 obtain ⟨S, hS⟩ : ∃ S, Hid (strOfNums cs = S) := ⟨_, rfl⟩
 have hat : ∀ k, k < cs.length → ∀ hp : k < S.size, (S[k]'hp).toNat = (cs.getD k 0).toNat := by
  intro k hk hp
  have h := Zbd cs hc' k hk
  have e := hS.out
  subst e
  have := h hp
  omega
 rw [hS.out] at hsz ⊢
 go_enter Tryz.func61, Tryz.ntmps61
 go_wp2
 go_loopw [] (fun wr => ∃ pos : Nat, wr.heap[w.heap.size]? = some (.stringIter S pos) ∧ Below w.heap.size w wr ∧ pos ≤ cs.length ∧ Hid ((cs.take pos).contains b = false)) (fun wr => cs.length - wr.iterPos w.heap.size)
 case atStart =>
  refine ⟨0, ?_, (Below.refl _ w).alloc zo _, Nat.zero_le _, rfl⟩
  simpa using World.iter_heap w S 0
 obtain ⟨pos, hit, hbw, hpos, hno⟩ := hrel
 have hit2 := fun p' => Lib.iterAt_heap wr w.heap.size S pos p' hit
 have hbw2 := fun p' => Lib.below_iterAt hbw (k := w.heap.size) zo S p'
 by_cases hp : pos < cs.length
 ·have hp' : pos < S.size := by omega
  have hch := hc (cs.getD pos 0) (by rw [show cs.getD pos 0 = cs[pos] by simp [hp]]; exact List.getElem_mem hp)
  have hv : ((S[pos]'hp').toNat : Int) = cs.getD pos 0 := by rw [hat pos hp hp']; omega
  have hnx : ∀ ty, (Instr.next (.pointer (some ⟨w.heap.size, 0, none⟩)) true ty).run Tryz.prog wr = .ok (.tuple #[.bool true, .int .i64 pos, .int .i32 (cs.getD pos 0)]) (wr.iterAt w.heap.size S (pos + 1)) := fun ty => by
   rw [Lib.run_next_ascii_at wr w.heap.size S pos ty hit hp' (by rw [hat pos hp hp']; omega), hv]
  have htk := Ze2 cs b pos hp
  have hme : cs.getD pos 0 = b → cs.contains b = true := fun heq => by
   rw [List.contains_iff_mem, ← heq, show cs.getD pos 0 = cs[pos] by simp [hp]]
   exact List.getElem_mem hp
  clear hv hat
  generalize cs.getD pos 0 = c at *
  by_cases heq : c = b
  ·have he := hme heq
   have hcb : (c == b) = true := by simp [heq]
   go_wp2
   go_ret
   exact ⟨Zbb he.symm, hbw2 _⟩
  have hcb : (c == b) = false := by simp [heq]
  go_wp2
  go_roundw
  case rel =>
   refine ⟨pos + 1, hit2 _, hbw2 _, hp, ?_⟩
   show _ = _
   rw [htk, hno.out, hcb]
   rfl
  simp only [World.iterPos, hit2, hit]
  omega
 have hnx : ∀ ty, (Instr.next (.pointer (some ⟨w.heap.size, 0, none⟩)) true ty).run Tryz.prog wr = _ := fun ty => Lib.run_next_end_at wr w.heap.size S pos ty hit (by omega)
 have he : cs.contains b = false := by
  have := hno.out
  rwa [List.take_of_length_le (by omega)] at this
 go_wp2
 go_ret
 exact ⟨Zbb he.symm, hbw⟩
theorem lit_bl : (⟨#[32, 9, 10, 13]⟩ : ByteArray) = strOfNums [32, 9, 10, 13] := rfl
theorem lit_sg : (⟨#[43, 45, 42, 47, 92, 60, 62, 61, 126, 44, 64, 37, 38, 63]⟩ : ByteArray) = strOfNums sgs := rfl
theorem blB_eq (b : Int) : ([32, 9, 10, 13] : List Int).contains b = blB b := by
 unfold blB
 simp only [List.contains_cons, List.contains_nil, Bool.or_false, Bool.or_assoc]
theorem has_bl (b : Int) (w : World) (hb : 0 ≤ b ∧ b < 256) : Calls Tryz.prog 61 #[.string ⟨#[32, 9, 10, 13]⟩, .int .u8 b] w fun e w' => e = .returned (.bool (blB b)) ∧ Below w.heap.size w w' := by
 rw [lit_bl, ← blB_eq]
 exact Zqo _ b w (by decide) hb
theorem has_sg (b : Int) (w : World) (hb : 0 ≤ b ∧ b < 256) : Calls Tryz.prog 61 #[.string ⟨#[43, 45, 42, 47, 92, 60, 62, 61, 126, 44, 64, 37, 38, 63]⟩, .int .u8 b] w fun e w' => e = .returned (.bool (sgB b)) ∧ Below w.heap.size w w' := by
 rw [lit_sg]
 exact Zqo _ b w (by decide) hb
theorem Za3 (ss : List Int) (k j : Nat) : (ss.drop k).getD j 0 = ss.getD (k + j) 0 := by simp [List.getD, List.getElem?_drop]
theorem Zkm (ss : List Int) (k : Nat) (w : World) (hb : ∀ x ∈ ss, 0 ≤ x ∧ x < 256) (hm : ss.length ≤ 9223372036854775806) (hk : k ≤ ss.length) : Calls Tryz.prog 92 #[.string (strOfNums ss), .int .i64 k] w fun e w' => e = .returned (.bool (Zic (ss.drop k))) ∧ w = w' := by
 have hsz : (strOfNums ss).size = ss.length := strOfNums_size ss
 have hw1 : IntKind.i64.wrap ((k : Int) + 1) = (k : Int) + 1 := by rw [IntKind.wrap_i64]; omega
 unfold Zic
 rw [Za3, Za3, Nat.add_zero]
 by_cases hlt : k < ss.length
 ·have hltI : (k : Int) < (ss.length : Int) := by omega
  have hat := Zbd ss hb k hlt
  obtain ⟨c, hc⟩ : ∃ c, ss.getD k 0 = c := ⟨_, rfl⟩
  rw [hc] at hat ⊢
  by_cases h58 : c = 58
  ·subst h58
   by_cases hlt1 : k + 1 < ss.length
   ·have hltJ : ¬ ((k : Int) + 1 = (ss.length : Int)) := by omega
    have hltK : (k : Int) + 1 < (ss.length : Int) := by omega
    have hat1 := Zbd ss hb (k + 1) hlt1
    obtain ⟨d, hd⟩ : ∃ d, ss.getD (k + 1) 0 = d := ⟨_, rfl⟩
    rw [hd] at hat1 ⊢
    have hto : ((k : Int) + 1).toNat = k + 1 := by omega
    by_cases h61 : d = 61
    ·subst h61
     go_enter Tryz.func92, Tryz.ntmps92
     go_wp2
     go_ret
     exact ⟨Zbb (by simp; omega), rfl⟩
    have h61' : (d == 61) = false := by simp [h61]
    have h61n : (d != 61) = true := by simp [h61]
    go_enter Tryz.func92, Tryz.ntmps92
    go_wp2
    all_goals go_ret
    all_goals exact ⟨Zbb (by simp [h61]), rfl⟩
   have e : ss.getD (k + 1) 0 = 0 := by simp [List.getD, Nat.not_lt.1 hlt1]
   have hJ : (k : Int) + 1 = (ss.length : Int) := by omega
   rw [e]
   go_enter Tryz.func92, Tryz.ntmps92
   go_wp2
   all_goals go_ret
   all_goals exact ⟨Zbb (by simp), rfl⟩
  have h58' : (c == 58) = false := by simp [h58]
  rw [h58']
  go_enter Tryz.func92, Tryz.ntmps92
  go_wp2
  go_ret
  exact ⟨rfl, rfl⟩
 have e : ss.getD k 0 = 0 := by simp [List.getD, Nat.not_lt.1 hlt]
 have hltI : ¬ (k : Int) < (ss.length : Int) := by omega
 rw [e]
 go_enter Tryz.func92, Tryz.ntmps92
 go_wp2
 go_ret
 exact ⟨rfl, rfl⟩
section
theorem Zbn {ss : List Int} {i : Nat} (h : i < ss.length) : ss.getD i 0 = ss[i] := by simp [h]
theorem Zgv (p : Int → Bool) (ss : List Int) (i : Nat) (h : i < ss.length) : ((ss.drop i).takeWhile p).length = if p (ss.getD i 0) then 1 + ((ss.drop (i + 1)).takeWhile p).length else 0 := by
 rw [List.drop_eq_getElem_cons h, List.takeWhile_cons, Zbn h]
 split
 ·rw [List.length_cons]; omega
 rfl
theorem Zk1 (p : Int → Bool) (ss : List Int) (i : Nat) (h : ss.length ≤ i) : ((ss.drop i).takeWhile p).length = 0 := by
 rw [List.drop_of_length_le h]; rfl
theorem Zhk (f g : Nat) (r : List Int) (hf : r.length ≤ f) (hg : r.length ≤ g) : Zee f r = Zee g r := by
 induction f generalizing g r with
 | zero =>
  obtain rfl : r = [] := List.eq_nil_of_length_eq_zero (by omega)
  cases g with
  | zero => rfl
  | succ g => rfl
 | succ f ih =>
  cases g with
  | zero =>
   obtain rfl : r = [] := List.eq_nil_of_length_eq_zero (by omega)
   rfl
  | succ g =>
   unfold Zee
   split
   ·rename_i h
    have := Zc3 h
    rw [ih g _ (by rw [List.length_drop]; omega) (by rw [List.length_drop]; omega)]
   rfl
def cl (r : List Int) : Nat := Zee r.length r
theorem cl_yes {r : List Int} (h : Zic r = true) : cl r = 1 + Zaq (r.drop 1) + cl (r.drop (1 + Zaq (r.drop 1))) := by
 unfold cl
 have hl := Zc3 h
 obtain ⟨n, hn⟩ : ∃ n, r.length = n + 1 := ⟨r.length - 1, by omega⟩
 rw [hn, Zee, if_pos h]
 rw [Zhk n _ _ (by rw [List.length_drop]; omega) zo]
theorem cl_no {r : List Int} (h : Zic r = false) : cl r = 0 := by
 unfold cl
 cases hn : r.length with
 | zero => rfl
 | succ n => rw [Zee, if_neg (by rw [h]; decide)]
theorem Zkj (r : List Int) : Zcn r = if Zaq r = 0 then Zcd r else Zaq r + cl (r.drop (Zaq r)) := by
 unfold Zcn cl
 split
 ·rfl
 rw [Zhk r.length _ _ (by rw [List.length_drop]; omega) zo]
variable {c : Int} {v : Bool}
theorem Zce (h : Ze8 c = v) (w : World) : Calls Tryz.prog 63 #[.int .u8 c] w fun e w' => e = .returned (.bool v) ∧ w = w' := by
 rw [← h]; exact Zn6 c w
theorem Zcj (h : dgB c = v) (w : World) : Calls Tryz.prog 65 #[.int .u8 c] w fun e w' => e = .returned (.bool v) ∧ w = w' := by
 rw [← h]; exact Zq7 c w
theorem Zke (h : sgB c = v) (hb : 0 ≤ c ∧ c < 256) (w : World) : Calls Tryz.prog 61 #[.string ⟨#[43, 45, 42, 47, 92, 60, 62, 61, 126, 44, 64, 37, 38, 63]⟩, .int .u8 c] w fun e w' => e = .returned (.bool v) ∧ Below w.heap.size w w' := by
 rw [← h]; exact has_sg c w hb
theorem Zm5 (ss : List Int) (k : Nat) (h : Ze8 (ss.getD k 0) = true) : Zaq (ss.drop k) = ((ss.drop k).takeWhile nmB).length := by
 unfold Zaq
 rw [Za3, Nat.add_zero, if_pos h]
theorem Zd4 (ss : List Int) (k : Nat) (h : Ze8 (ss.getD k 0) = false) : Zaq (ss.drop k) = 0 := by
 unfold Zaq
 rw [Za3, Nat.add_zero, if_neg (by rw [h]; decide)]
theorem Zcu (ss : List Int) (k : Nat) (w : World) (hb : ∀ x ∈ ss, 0 ≤ x ∧ x < 256) (hm : ss.length ≤ 9223372036854775806) (hk : k ≤ ss.length) : Calls Tryz.prog 58 #[.string (strOfNums ss), .int .i64 k] w fun e w' => e = .returned (.int .i64 (k + Zaq (ss.drop k) : Nat)) ∧ w = w' := by
 have hsz : (strOfNums ss).size = ss.length := strOfNums_size ss
 by_cases hlt : k < ss.length
 ·have hltI : ((k : Int) == (ss.length : Int)) = false := by simp; omega
  have hltJ : (k : Int) < (ss.length : Int) := by omega
  have hat := Zbd ss hb k hlt
  cases hl : Ze8 (ss.getD k 0) with
  | false =>
   rw [Zd4 ss k hl]
   generalize ss.getD k 0 = c at *
   go_enter Tryz.func58, Tryz.ntmps58
   go_wp2_with (go_at_call 63; refine (Zce hl _).mono ?_; rintro e w' ⟨rfl, rfl⟩)
   go_ret
   exact ⟨rfl, rfl⟩
  | true =>
   rw [Zm5 ss k hl]
   obtain ⟨E, hE⟩ : ∃ E, Hid (k + ((ss.drop k).takeWhile nmB).length = E) := ⟨_, rfl⟩
   rw [hE.out]
   generalize ss.getD k 0 = c at *
   go_enter Tryz.func58, Tryz.ntmps58
   go_wp2_with (go_at_call 63; refine (Zce hl _).mono ?_; rintro e w' ⟨rfl, rfl⟩)
   clear hat hl hltI hltJ
   go_loop [1] (fun n => ∃ i : Nat, i ≤ ss.length ∧ n = .int .i64 i ∧ Hid (i + ((ss.drop i).takeWhile nmB).length = E)) (fun n => ss.length - (intOf n).toNat)
   case atStart => exact ⟨k, hk, rfl, hE⟩
   obtain ⟨i, hi, rfl, hv⟩ := hrel
   clear hE
   by_cases hlt : i < ss.length
   ·have hltI : (i : Int) < (ss.length : Int) := by omega
    have hat := Zbd ss hb i hlt
    have hw1 : IntKind.i64.wrap ((i : Int) + 1) = (i : Int) + 1 := by rw [IntKind.wrap_i64]; omega
    have hs := Zgv nmB ss i hlt
    have hn : nmB (ss.getD i 0) = (Ze8 (ss.getD i 0) || dgB (ss.getD i 0) || ss.getD i 0 == 95) := rfl
    have hyes : nmB (ss.getD i 0) = true → Hid ((i + 1) + ((ss.drop (i + 1)).takeWhile nmB).length = E) := fun h => by
     show _ = _
     rw [h, if_pos rfl] at hs
     have := hv.out
     omega
    have hnot : nmB (ss.getD i 0) = false → Hid (i = E) := fun h => by
     show _ = _
     rw [h, if_neg (by decide)] at hs
     have := hv.out
     omega
    clear hs hv
    generalize ss.getD i 0 = c at *
    rw [hn] at hyes hnot
    clear hn
    cases hl : Ze8 c <;> cases hd : dgB c <;> cases h95 : (c == 95)
    all_goals rw [hl, hd, h95] at hyes hnot
    all_goals first | replace hyes := hyes rfl | replace hnot := hnot rfl
    all_goals go_wp2_with (first | (go_at_call 63; refine (Zce hl _).mono ?_; rintro e w' ⟨rfl, rfl⟩) | (go_at_call 65; refine (Zcj hd _).mono ?_; rintro e w' ⟨rfl, rfl⟩))
    any_goals (go_ret; exact ⟨Zby (by rw [hnot.out]), rfl⟩)
    all_goals go_round
    all_goals first | exact ⟨i + 1, by omega, by go_num, hyes⟩ | (simp [intOf]; omega)
   have hltI : ¬ (i : Int) < (ss.length : Int) := by omega
   have hs := Zk1 nmB ss i (by omega)
   have hv' := hv.out
   go_wp2
   go_ret
   exact ⟨Zby (by omega), rfl⟩
 have e : k = ss.length := by omega
 subst e
 rw [Zd4 ss _ (by simp [List.getD]; rfl)]
 go_enter Tryz.func58, Tryz.ntmps58
 go_wp2
 go_ret
 exact ⟨rfl, rfl⟩
theorem Zpk (ss : List Int) (k i : Nat) (h : i < ss.length) (h2 : i < k + 2) : (((ss.drop i).take (k + 2 - i)).takeWhile sgB).length = if sgB (ss.getD i 0) then 1 + (((ss.drop (i + 1)).take (k + 2 - (i + 1))).takeWhile sgB).length else 0 := by
 obtain ⟨m, hm⟩ : ∃ m, k + 2 - i = m + 1 := ⟨k + 1 - i, by omega⟩
 rw [hm, show k + 2 - (i + 1) = m by omega, List.drop_eq_getElem_cons h, List.take_succ_cons, List.takeWhile_cons, Zbn h]
 split
 ·rw [List.length_cons]; omega
 rfl
theorem Zf3 (ss : List Int) (k : Nat) (w : World) (hb : ∀ x ∈ ss, 0 ≤ x ∧ x < 256) (hm : ss.length ≤ 9223372036854775800) (hk : k ≤ ss.length) : Calls Tryz.prog 70 #[.string (strOfNums ss), .int .i64 k] w fun e w' => e = .returned (.int .i64 (k + Zcd (ss.drop k) : Nat)) ∧ Below w.heap.size w w' := by
 have hsz : (strOfNums ss).size = ss.length := strOfNums_size ss
 obtain ⟨E, hE⟩ : ∃ E, Hid (k + (((ss.drop k).take (k + 2 - k)).takeWhile sgB).length = E) := ⟨_, rfl⟩
 have hw2 : IntKind.i64.wrap ((k : Int) + 2) = (k : Int) + 2 := by rw [IntKind.wrap_i64]; omega
 have hE' : k + Zcd (ss.drop k) = E := by
  rw [← hE.out, show k + 2 - k = 2 by omega]; rfl
 rw [hE']
 clear hE'
 go_enter Tryz.func70, Tryz.ntmps70
 go_wp2
 go_loopw [5] (fun n wr => ∃ i : Nat, i ≤ ss.length ∧ i ≤ k + 2 ∧ n = .int .i64 i ∧ Below w.heap.size w wr ∧ Hid (i + (((ss.drop i).take (k + 2 - i)).takeWhile sgB).length = E)) (fun n _ => ss.length - (intOf n).toNat)
 case atStart => exact ⟨k, hk, by omega, rfl, Below.refl _ _, hE⟩
 obtain ⟨i, hi, hi2, rfl, hB, hv⟩ := hrel
 clear hE
 have hw1 : IntKind.i64.wrap ((i : Int) + 1) = (i : Int) + 1 := by rw [IntKind.wrap_i64]; omega
 by_cases hlt : i < ss.length
 ·have hltI : (i : Int) < (ss.length : Int) := by omega
  by_cases hlt2 : i < k + 2
  ·have hltJ : (i : Int) < (k : Int) + 2 := by omega
   have hat := Zbd ss hb i hlt
   have hs := Zpk ss k i hlt hlt2
   have hcb := hb (ss.getD i 0) (by rw [Zbn hlt]; exact List.getElem_mem hlt)
   cases hg : sgB (ss.getD i 0) with
   | true =>
    have hv' : Hid ((i + 1) + (((ss.drop (i + 1)).take (k + 2 - (i + 1))).takeWhile sgB).length = E) := by
     show _ = _
     rw [hg, if_pos rfl] at hs
     have := hv.out
     omega
    clear hs hv
    generalize ss.getD i 0 = c at *
    go_wp2_with (go_at_call 61; refine (Zke hg hcb _).mono ?_; rintro e w2 ⟨rfl, hB2⟩)
    go_roundw
    case rel => exact ⟨i + 1, by omega, by omega, by go_num, Zaf hB zo hB2, hv'⟩
    case measure => simp [intOf]; omega
   | false =>
    have hv' : Hid (i = E) := by
     show _ = _
     rw [hg, if_neg (by decide)] at hs
     have := hv.out
     omega
    clear hs hv
    generalize ss.getD i 0 = c at *
    go_wp2_with (go_at_call 61; refine (Zke hg hcb _).mono ?_; rintro e w2 ⟨rfl, hB2⟩)
    go_ret
    exact ⟨Zby (by rw [hv'.out]), Zaf hB zo hB2⟩
  have hltJ : ¬ (i : Int) < (k : Int) + 2 := by omega
  have hv' : Hid (i = E) := by
   show _ = _
   have := hv.out
   rw [show k + 2 - i = 0 by omega] at this
   simpa using this
  go_wp2
  go_ret
  exact ⟨Zby (by rw [hv'.out]), hB⟩
 have hltI : ¬ (i : Int) < (ss.length : Int) := by omega
 have hv' : Hid (i = E) := by
  show _ = _
  have := hv.out
  rw [List.drop_of_length_le (by omega)] at this
  simpa using this
 go_wp2
 go_ret
 exact ⟨Zby (by rw [hv'.out]), hB⟩
theorem Zf4 (ss : List Int) (k : Nat) (w : World) (hb : ∀ x ∈ ss, 0 ≤ x ∧ x < 256) (hm : ss.length ≤ 9223372036854775800) (hk : k ≤ ss.length) : Calls Tryz.prog 96 #[.string (strOfNums ss), .int .i64 k] w fun e w' => e = .returned (.int .i64 (k + Zcn (ss.drop k) : Nat)) ∧ Below w.heap.size w w' := by
 have hsz : (strOfNums ss).size = ss.length := strOfNums_size ss
 have hle := Zcp (ss.drop k)
 rw [List.length_drop] at hle
 rw [Zkj]
 by_cases h0 : Zaq (ss.drop k) = 0
 ·rw [if_pos h0]
  have hn := Zcu ss k w hb (by omega) hk
  rw [h0, Nat.add_zero] at hn
  go_enter Tryz.func96, Tryz.ntmps96
  go_wp2_with (first | (go_at_call 58; refine hn.mono ?_; rintro e w' ⟨rfl, rfl⟩) | (go_at_call 70; refine (Zf3 ss k _ hb hm hk).mono ?_; rintro e w2 ⟨rfl, hB2⟩))
  go_ret
  exact ⟨rfl, hB2⟩
 rw [if_neg h0]
 obtain ⟨E, hE⟩ : ∃ E, Hid ((k + Zaq (ss.drop k)) + cl (ss.drop (k + Zaq (ss.drop k))) = E) := ⟨_, rfl⟩
 have hE' : k + (Zaq (ss.drop k) + cl ((ss.drop k).drop (Zaq (ss.drop k)))) = E := by
  rw [List.drop_drop, ← hE.out]; omega
 rw [hE']
 clear hE'
 have hn := Zcu ss k w hb (by omega) hk
 obtain ⟨i0, hi0⟩ : ∃ i, Hid (k + Zaq (ss.drop k) = i) := ⟨_, rfl⟩
 have hi1 : i0 ≤ ss.length := by have := hi0.out; omega
 have hne : ((i0 : Int) == (k : Int)) = false := by have := hi0.out; simp; omega
 rw [hi0.out] at hn hE
 clear hi0 hle h0
 go_enter Tryz.func96, Tryz.ntmps96
 go_wp2_with (go_at_call 58; refine hn.mono ?_; rintro e w' ⟨rfl, rfl⟩)
 go_loop [5] (fun n => ∃ i : Nat, i ≤ ss.length ∧ n = .int .i64 i ∧ Hid (i + cl (ss.drop i) = E)) (fun n => ss.length - (intOf n).toNat)
 case atStart => exact ⟨i0, hi1, rfl, hE⟩
 obtain ⟨i, hi, rfl, hv⟩ := hrel
 clear hE hn
 have hl := Zkm ss i w hb (by omega) hi
 cases hg : Zic (ss.drop i) with
 | false =>
  rw [hg] at hl
  have hv' : Hid (i = E) := by
   show _ = _
   have := hv.out
   rw [cl_no hg] at this
   omega
  clear hv
  go_wp2_with (go_at_call 92; refine hl.mono ?_; rintro e w' ⟨rfl, rfl⟩)
  go_ret
  exact ⟨Zby (by rw [hv'.out]), Below.refl _ _⟩
 | true =>
  rw [hg] at hl
  have hlt : i < ss.length := by
   have := Zc3 hg
   rw [List.length_drop] at this
   omega
  have hw1 : IntKind.i64.wrap ((i : Int) + 1) = ((i + 1 : Nat) : Int) := by rw [IntKind.wrap_i64]; omega
  have hn := Zcu ss (i + 1) w hb (by omega) (by omega)
  have hle := Zcp (ss.drop (i + 1))
  rw [List.length_drop] at hle
  have hv' : Hid ((i + 1 + Zaq (ss.drop (i + 1))) + cl (ss.drop (i + 1 + Zaq (ss.drop (i + 1)))) = E) := by
   show _ = _
   have := hv.out
   rw [cl_yes hg, List.drop_drop, List.drop_drop] at this
   rw [← this]
   rw [show i + 1 + Zaq (ss.drop (i + 1)) = i + (1 + Zaq (ss.drop (i + 1))) by omega]
   omega
  clear hv hw1
  have hw1 : IntKind.i64.wrap ((i : Int) + 1) = (i : Int) + 1 := by rw [IntKind.wrap_i64]; omega
  have hn' : Calls Tryz.prog 58 #[.string (strOfNums ss), .int .i64 ((i : Int) + 1)] w fun e w' => e = .returned (.int .i64 (i + 1 + Zaq (ss.drop (i + 1)) : Nat)) ∧ w = w' := by
   have e : ((i + 1 : Nat) : Int) = (i : Int) + 1 := by omega
   rw [e] at hn
   exact hn
  clear hn
  obtain ⟨j, hj⟩ : ∃ j, Hid (i + 1 + Zaq (ss.drop (i + 1)) = j) := ⟨_, rfl⟩
  have hj1 : i < j ∧ j ≤ ss.length := by have := hj.out; omega
  rw [hj.out] at hn' hv'
  clear hj hle
  go_wp2_with (first | (go_at_call 92; refine hl.mono ?_; rintro e w' ⟨rfl, rfl⟩) | (go_at_call 58; refine hn'.mono ?_; rintro e w' ⟨rfl, rfl⟩))
  go_round
  case rel => exact ⟨j, hj1.2, rfl, hv'⟩
  case measure => simp [intOf]; omega
end
end Go.Proofs.YtncfmhlikmibaaaGreatDoor
