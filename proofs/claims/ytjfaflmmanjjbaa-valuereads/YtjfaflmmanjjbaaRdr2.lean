/- The reader: what is not read yet. -/
import Derived.Test.YtjfaflmmanjjbaaRPut
namespace Go.Proofs.Ytjfaflmmanjjbaa
open Go.RowKit
set_option maxRecDepth 100000
/-- All old blocks but one are as they were. -/
structure But (b : Nat) (w w' : World) : Prop where
  os : w'.os = w.os
  tape : w'.tape = w.tape
  output : w'.output = w.output
  size : w.heap.size ≤ w'.heap.size
  block : ∀ i, i < w.heap.size → i ≠ b → w'.heap[i]? = w.heap[i]?
theorem But.refl (b : Nat) (w : World) : But b w w := ⟨rfl, rfl, rfl, Nat.le_refl _, fun _ _ _ => rfl⟩
theorem But.trans {b : Nat} {w w1 w2 : World} (h : But b w w1) (k : But b w1 w2) : But b w w2 := ⟨k.os.trans h.os, k.tape.trans h.tape, k.output.trans h.output, Nat.le_trans h.size k.size, fun i hi hb => (k.block i (Nat.lt_of_lt_of_le hi h.size) hb).trans (h.block i hi hb)⟩
theorem But.of {b : Nat} {w w' : World} (h : Below w.heap.size w w') : But b w w' := ⟨h.os, h.tape, h.output, h.size, fun i hi _ => h.block i hi⟩
theorem But.set {b i : Nat} {w : World} {x : Value} : But b w (w.setCell ⟨b, i, none⟩ x) := ⟨rfl, rfl, rfl, by simp, fun j _ hj => heap_setCell_other _ _ _ _ hj⟩
theorem But.below {b N : Nat} {w0 w w' : World} (k : But b w w') (B : Below N w0 w) (hN : N ≤ w.heap.size) (hb : N ≤ b) : Below N w0 w' :=
  B.trans ⟨k.os, k.tape, k.output, k.size, fun i hi => k.block i (by omega) (by omega)⟩
/-- A reader's block. -/
def rdO (v : Value) (e : Bool) : Obj := .cells #[v, .bool e] 70 (0, 0)
theorem rd_cells {w : World} {b : Nat} {v : Value} {e : Bool} (h : w.heap[b]? = some (rdO v e)) : w.cell? ⟨b, 0, none⟩ = some v ∧ w.cell? ⟨b, 1, none⟩ = some (.bool e) ∧ ∀ i, w.frozen? ⟨b, i, none⟩ = false := by
  unfold rdO at h
  refine ⟨?_, ?_, fun i => frozen_of_row w b i _ _ h⟩ <;> (rw [cell_of_row w b _ _ _ _ h]; rfl)
theorem rd_set0 {w : World} {b : Nat} {v : Value} {e : Bool} (h : w.heap[b]? = some (rdO v e)) (u : Value) : (w.setCell ⟨b, 0, none⟩ u).heap[b]? = some (rdO u e) := by
  unfold rdO at h ⊢
  rw [heap_setCell_same w b 0 _ _ _ h]
  simp
theorem rd_set1 {w : World} {b : Nat} {v : Value} {e : Bool} (h : w.heap[b]? = some (rdO v e)) (f : Bool) : (w.setCell ⟨b, 1, none⟩ (.bool f)).heap[b]? = some (rdO v f) := by
  unfold rdO at h ⊢
  rw [heap_setCell_same w b 1 _ _ _ h]
  simp
/-- What is left, over memory that came in. -/
def Rd (w0 w : World) (b : Nat) : Option (List Int) → Prop
  | none => w.heap[b]? = some (rdO (.slice none 0 0) true)
  | some xs => ∃ a n c, w.heap[b]? = some (rdO (.slice a n c) false) ∧ IsB w0 a n c xs
theorem Rd.blk {w0 w : World} {b : Nat} {s : Option (List Int)} (h : Rd w0 w b s) : ∃ a n c, w.heap[b]? = some (rdO (.slice a n c) s.isNone) ∧ IsB w0 a n c (s.getD []) := by
  cases s with
  | none => exact ⟨none, 0, 0, h, ⟨rfl, Nat.le_refl _, by decide, fun _ => rfl, by simp, fun h => absurd h (by decide)⟩⟩
  | some xs => exact h
theorem Rd.keep {w0 w w' : World} {b : Nat} {s : Option (List Int)} (h : Rd w0 w b s) (k : w'.heap[b]? = w.heap[b]?) : Rd w0 w' b s := by
  cases s with
  | none => exact k.trans h
  | some xs => obtain ⟨a, n, c, e, i⟩ := h; exact ⟨a, n, c, k.trans e, i⟩
theorem giveUp_any {w0 w : World} {b : Nat} {s : Option (List Int)} (h : Rd w0 w b s) : Calls Try.prog 66 #[.pointer (some ⟨b, 0, none⟩)] w fun e w' => e = .returned (.tuple #[]) ∧ Rd w0 w' b none ∧ But b w w' := by
  obtain ⟨a, n, c, E, _⟩ := h.blk
  obtain ⟨z0, z1, zf⟩ := rd_cells E
  go_enter Try.func66, Try.ntmps66
  go_wp2
  go_end0
  exact ⟨rfl, rd_set1 (rd_set0 E _) _, But.trans But.set But.set⟩

theorem run_tail (a : Option Addr) (len cap k : Nat) (w : World) (h : k ≤ len) :
    (Instr.slice 25 (.slice a len cap) (some (.int .i64 (k : Int))) none none).run Try.prog w = .ok (.slice (winA a k cap) (len - k) (cap - k)) w := by
  have ht : Try.prog.underlying 25 = some (.slice (Try.prog.elem 25)) := by simp [Program.elem, Try.underlying25]
  have he : Try.prog.elem 25 = 5 := by simp [Program.elem, Try.underlying25]
  have hz : (sizeOf 5).run Try.prog w = .ok 1 w := by
    obtain ⟨i0, hi, hz0, hz1, hz2⟩ := info_parts Try.info5
    simp [sizeOf, typeInfo, hi, hz1]
  rw [run_slice_l w 25 _ _ _ ht .i64 _ (by omega) (by omega), he, hz]
  simp only [Result.andThen, sliced, Int.toNat_natCast, winA]
theorem IsB.tail {w : World} {a : Option Addr} {len cap : Nat} {xs : List Int} (h : IsB w a len cap xs) (k : Nat) (hk : k ≤ len) : IsB w (winA a k cap) (len - k) (cap - k) (xs.drop k) := by
  have := h.window k (len - k) (by omega)
  rwa [List.take_of_length_le (by have := h.size; simp; omega)] at this
theorem past_no {w0 w : World} {b k r : Nat} {s : Option (List Int)} (h : Rd w0 w b s) (hr : 0 < r) : Calls Try.prog 73 #[.pointer (some ⟨b, 0, none⟩), .int .i64 (k : Int), .int .i64 (r : Int)] w fun e w' => e = .returned (.tuple #[]) ∧ Rd w0 w' b none ∧ But b w w' := by
  have hb : ((r : Int) == 0) = false := by simp; omega
  go_enter Try.func73, Try.ntmps73
  go_wp2_with fail
  refine (giveUp_any h).mono ?_
  rintro e w1 ⟨rfl, R1, K1⟩
  go_wp2
  (try simp only [Exit.inBlock, Exit.then])
  refine bodyPost_ret (results_none rfl _ _ _) rfl ?_
  exact ⟨rfl, R1, K1⟩
theorem past_ok {w0 w : World} {b k : Nat} {xs : List Int} (h : Rd w0 w b (some xs)) (hk : k ≤ xs.length) : Calls Try.prog 73 #[.pointer (some ⟨b, 0, none⟩), .int .i64 (k : Int), .int .i64 0] w fun e w' => e = .returned (.tuple #[]) ∧ Rd w0 w' b (some (xs.drop k)) ∧ But b w w' := by
  obtain ⟨a, n, c, E, I⟩ := h
  have hs := I.size
  have hw := fun w => run_tail a n c k w (by omega)
  obtain ⟨z0, z1, zf⟩ := rd_cells E
  go_enter Try.func73, Try.ntmps73
  go_wp2
  go_end0
  exact ⟨rfl, ⟨_, _, _, rd_set0 E _, I.tail k (by omega)⟩, But.set⟩
/-- A number read. -/
def uR (s : Option (List Int)) : Nat × Option (List Int) := if (rd 0 0 (s.getD [])).2.2 = 0 then ((rd 0 0 (s.getD [])).1, some ((s.getD []).drop (rd 0 0 (s.getD [])).2.1)) else ((rd 0 0 (s.getD [])).1, none)
set_option maxHeartbeats 1000000 in
theorem uint_rd {w0 w : World} {b : Nat} {s : Option (List Int)} (h : Rd w0 w b s) (B : Below w0.heap.size w0 w) : Calls Try.prog 65 #[.pointer (some ⟨b, 0, none⟩)] w fun e w' => e = .returned (.int .u64 ((uR s).1 : Int)) ∧ Rd w0 w' b (uR s).2 ∧ But b w w' := by
  obtain ⟨a, n, c, E, I⟩ := h.blk
  obtain ⟨z0, z1, zf⟩ := rd_cells E
  obtain ⟨r1, r2, r3, hr⟩ : ∃ r1 r2 r3, Hid (rd 0 0 (s.getD []) = (r1, r2, r3)) := ⟨_, _, _, rfl⟩
  by_cases h0 : r3 = 0
  · subst h0
    have e : uR s = (r1, some ((s.getD []).drop r2)) := by unfold uR; rw [hr.out]; rfl
    rw [e]
    have hk := rd_ok _ _ _ _ _ hr.out
    obtain ⟨xs, rfl⟩ : ∃ xs, s = some xs := by
      cases s with
      | none => have := hr.out; simp [rd] at this
      | some xs => exact ⟨xs, rfl⟩
    rw [Option.getD_some] at *
    clear e
    go_enter Try.func65, Try.ntmps65
    go_wp2_with fail
    refine (readU_to (I.below B) hr).mono ?_
    rintro e w1 ⟨rfl, rfl⟩
    go_wp2_with fail
    refine (past_ok h (by omega)).mono ?_
    rintro e w2 ⟨rfl, R2, K2⟩
    go_wp2
    go_ret
    exact ⟨rfl, R2, K2⟩
  · have e : uR s = (r1, none) := by unfold uR; rw [hr.out]; rw [if_neg h0]
    rw [e]
    clear e
    go_enter Try.func65, Try.ntmps65
    go_wp2_with fail
    refine (readU_to (I.below B) hr).mono ?_
    rintro e w1 ⟨rfl, rfl⟩
    go_wp2_with fail
    refine (past_no h (by omega)).mono ?_
    rintro e w2 ⟨rfl, R2, K2⟩
    go_wp2
    go_ret
    exact ⟨rfl, R2, K2⟩
end Go.Proofs.Ytjfaflmmanjjbaa
namespace Go.Proofs.Ytjfaflmmanjjbaa
open Go.RowKit
set_option maxRecDepth 100000
def nR (most : Nat) (s : Option (List Int)) : Nat × Option (List Int) := if most < (uR s).1 then (0, none) else uR s
set_option maxHeartbeats 1000000 in
theorem number_rd {w0 w : World} {b : Nat} {s : Option (List Int)} (h : Rd w0 w b s) (B : Below w0.heap.size w0 w) (most : Nat) (hm : most ≤ 9223372036854775807) : Calls Try.prog 52 #[.pointer (some ⟨b, 0, none⟩), .int .u64 (most : Int)] w fun e w' => e = .returned (.int .i64 ((nR most s).1 : Int)) ∧ Rd w0 w' b (nR most s).2 ∧ But b w w' := by
  by_cases hn : most < (uR s).1
  · have e : nR most s = (0, none) := by unfold nR; rw [if_pos hn]
    rw [e]
    clear e
    have hn' : (most : Int) < ((uR s).1 : Int) := by omega
    go_enter Try.func52, Try.ntmps52
    go_wp2_with fail
    refine (uint_rd h B).mono ?_
    rintro e w1 ⟨rfl, R1, K1⟩
    generalize (uR s).1 = m at *
    go_wp2_with fail
    refine (giveUp_any R1).mono ?_
    rintro e w2 ⟨rfl, R2, K2⟩
    have K3 := K1.trans K2
    clear K1 K2 R1
    go_wp2
    go_ret
    exact ⟨rfl, R2, K3⟩
  · have e : nR most s = uR s := by unfold nR; rw [if_neg hn]
    rw [e]
    clear e
    obtain ⟨m, hmm⟩ : ∃ m, Hid ((uR s).1 = m) := ⟨_, rfl⟩
    rw [hmm.out] at hn ⊢
    have hn' : ¬ (most : Int) < (m : Int) := by omega
    have hw : IntKind.i64.wrap (m : Int) = (m : Int) := by rw [IntKind.wrap_i64]; omega
    go_enter Try.func52, Try.ntmps52
    go_wp2_with fail
    refine (uint_rd h B).mono ?_
    rintro e w1 ⟨rfl, R1, K1⟩
    rw [hmm.out]
    go_wp2
    go_ret
    exact ⟨rfl, R1, K1⟩
def oR (s : Option (List Int)) : Int × Option (List Int) := match s.getD [] with
  | [] => (0, none)
  | x :: t => (x, some t)
set_option maxHeartbeats 1000000 in
theorem octet_rd {w0 w : World} {b : Nat} {s : Option (List Int)} (h : Rd w0 w b s) (B : Below w0.heap.size w0 w) : Calls Try.prog 67 #[.pointer (some ⟨b, 0, none⟩)] w fun e w' => e = .returned (.int .i64 (oR s).1) ∧ Rd w0 w' b (oR s).2 ∧ But b w w' := by
  obtain ⟨a, n, c, E, I⟩ := h.blk
  obtain ⟨z0, z1, zf⟩ := rd_cells E
  cases hx : s.getD [] with
  | nil =>
    have e : oR s = (0, none) := by unfold oR; rw [hx]
    rw [e]
    rw [hx] at I
    have hn : n = 0 := I.size.symm
    subst hn
    clear e hx
    go_enter Try.func67, Try.ntmps67
    go_wp2_with fail
    refine (giveUp_any h).mono ?_
    rintro e w2 ⟨rfl, R2, K2⟩
    go_wp2
    go_ret
    exact ⟨rfl, R2, K2⟩
  | cons x t =>
    have e : oR s = (x, some t) := by unfold oR; rw [hx]
    rw [e]
    rw [hx] at I
    have hn := I.size
    rw [List.length_cons] at hn
    obtain ⟨b1, off, rfl, hc⟩ := (I.below B).cells (by omega)
    have c0 := hc 0 (by omega)
    rw [Nat.add_zero] at c0
    have hxb := I.byte x (by simp)
    have hb0 : ((n : Int) == 0) = false := by simp; omega
    have hn0 : (0 : Int) < (n : Int) := by omega
    have hw : ∀ w, (Instr.slice 25 (.slice (some ⟨b1, off, none⟩) n c) (some (.int .i64 1)) none none).run Try.prog w = .ok (.slice (winA (some ⟨b1, off, none⟩) 1 c) (n - 1) (c - 1)) w := fun w => run_tail (some ⟨b1, off, none⟩) n c 1 w (by omega)
    obtain ⟨wa, hwa⟩ : ∃ wa, Hid (winA (some ⟨b1, off, none⟩) 1 c = wa) := ⟨_, rfl⟩
    rw [hwa.out] at hw
    have hw1 : IntKind.i64.wrap x = x := by rw [IntKind.wrap_i64]; omega
    have R : Rd w0 (w.setCell ⟨b, 0, none⟩ (.slice wa (n - 1) (c - 1))) b (some t) := by
      rw [← hwa.out]
      cases s with
      | none => simp at hx
      | some xs => exact ⟨_, _, _, rd_set0 E _, by have := I.tail 1 (by omega); simpa using this⟩
    simp only [List.getD_cons_zero] at c0
    clear e hx hc
    go_enter Try.func67, Try.ntmps67
    go_wp2
    go_ret
    exact ⟨rfl, R, But.set⟩
theorem atEnd_rd {w0 w : World} {b : Nat} {s : Option (List Int)} (h : Rd w0 w b s) : Calls Try.prog 46 #[.pointer (some ⟨b, 0, none⟩)] w fun e w' => e = .returned (.bool (decide (s = some []))) ∧ w = w' := by
  cases s with
  | none =>
    obtain ⟨z0, z1, zf⟩ := rd_cells h
    go_enter Try.func46, Try.ntmps46
    go_wp2
    go_ret
    exact ⟨rfl, rfl⟩
  | some xs =>
    obtain ⟨a, n, c, E, I⟩ := h
    obtain ⟨z0, z1, zf⟩ := rd_cells E
    have hs := I.size
    by_cases h0 : n = 0
    · subst h0
      have : xs = [] := List.eq_nil_of_length_eq_zero hs
      subst this
      go_enter Try.func46, Try.ntmps46
      go_wp2
      go_ret
      exact ⟨rfl, rfl⟩
    · have hne : (some xs = some ([] : List Int)) = False := by simp; rintro rfl; simp at hs; omega
      have hb0 : ((n : Int) == 0) = false := by simp; omega
      simp only [hne, decide_false]
      go_enter Try.func46, Try.ntmps46
      go_wp2
      go_ret
      exact ⟨rfl, rfl⟩
def tR (s : Option (List Int)) : List Int × Option (List Int) := if (rtx (s.getD [])).2.2 = 0 then ((rtx (s.getD [])).1, some ((s.getD []).drop (rtx (s.getD [])).2.1)) else ((rtx (s.getD [])).1, none)
theorem rtx_ok (xs ys : List Int) (k : Nat) (h : rtx xs = (ys, k, 0)) : k ≤ xs.length := by
  unfold rtx at h
  split at h
  · next h1 => simp at h; omega
  · split at h
    · simp at h
    · split at h
      · simp at h
      · simp at h; omega
set_option maxHeartbeats 1000000 in
theorem text_rd {w0 w : World} {b : Nat} {s : Option (List Int)} (h : Rd w0 w b s) (B : Below w0.heap.size w0 w) (hl : (s.getD []).length ≤ 140737488500000) : Calls Try.prog 61 #[.pointer (some ⟨b, 0, none⟩)] w fun e w' => ∃ v, e = .returned v ∧ OwnB w' w.heap.size v (tR s).1 ∧ Rd w0 w' b (tR s).2 ∧ But b w w' := by
  obtain ⟨a, n, c, E, I⟩ := h.blk
  obtain ⟨z0, z1, zf⟩ := rd_cells E
  obtain ⟨ys, k, e3, hr⟩ : ∃ r1 r2 r3, Hid (rtx (s.getD []) = (r1, r2, r3)) := ⟨_, _, _, rfl⟩
  have hsz := I.size
  have hbl := lt_of_block E
  by_cases h0 : e3 = 0
  · subst h0
    have e : tR s = (ys, some ((s.getD []).drop k)) := by unfold tR; rw [hr.out]; rfl
    rw [e]
    have hk := rtx_ok _ _ _ hr.out
    obtain ⟨xs, rfl⟩ : ∃ xs, s = some xs := by
      cases s with
      | none => have := hr.out; simp [rtx, rd] at this
      | some xs => exact ⟨xs, rfl⟩
    rw [Option.getD_some] at *
    clear e
    go_enter Try.func61, Try.ntmps61
    go_wp2_with fail
    refine (readT_to (I.below B) (by omega) hr).mono ?_
    rintro e w1 ⟨av, cv, rfl, O1, _, B1⟩
    have R1 := h.keep (B1.block b hbl)
    go_wp2_with fail
    refine (past_ok R1 hk).mono ?_
    rintro e w2 ⟨rfl, R2, K2⟩
    have O2 : OwnB w2 w.heap.size (.slice av ys.length cv) ys := ownB_of (own_same O1.1 (fun g hg => K2.block g (by obtain ⟨_, cur, hh⟩ := own_block O1.1 hg; exact lt_of_block hh) (fun e => own_ne O1.1 ((B1.block b hbl).trans E) (by decide) (by rw [hg, e])))) O1.byte
    have K3 := (But.of B1).trans K2
    clear O1 B1 R1 K2
    go_wp2
    go_ret
    exact ⟨_, rfl, O2, R2, K3⟩
  · have e : tR s = (ys, none) := by unfold tR; rw [hr.out]; rw [if_neg h0]
    rw [e]
    clear e
    go_enter Try.func61, Try.ntmps61
    go_wp2_with fail
    refine (readT_to (I.below B) (by omega) hr).mono ?_
    rintro e w1 ⟨av, cv, rfl, O1, _, B1⟩
    have R1 := h.keep (B1.block b hbl)
    go_wp2_with fail
    refine (past_no R1 (by omega)).mono ?_
    rintro e w2 ⟨rfl, R2, K2⟩
    have O2 : OwnB w2 w.heap.size (.slice av ys.length cv) ys := ownB_of (own_same O1.1 (fun g hg => K2.block g (by obtain ⟨_, cur, hh⟩ := own_block O1.1 hg; exact lt_of_block hh) (fun e => own_ne O1.1 ((B1.block b hbl).trans E) (by decide) (by rw [hg, e])))) O1.byte
    have K3 := (But.of B1).trans K2
    clear O1 B1 R1 K2
    go_wp2
    go_ret
    exact ⟨_, rfl, O2, R2, K3⟩
end Go.Proofs.Ytjfaflmmanjjbaa
