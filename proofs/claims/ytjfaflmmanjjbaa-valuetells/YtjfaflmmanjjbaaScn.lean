/- The document's reader. -/
import Derived.Test.YtjfaflmmanjjbaaBack
namespace Go.Proofs.Ytjfaflmmanjjbaa
open Go.RowKit
set_option maxRecDepth 100000
/-- A scan's block. -/
def scO (v : Value) (e : Bool) : Obj := .cells #[v, .bool e] 74 (0, 0)
theorem sc_cells {w : World} {b : Nat} {v : Value} {e : Bool} (h : w.heap[b]? = some (scO v e)) : w.cell? ⟨b, 0, none⟩ = some v ∧ w.cell? ⟨b, 1, none⟩ = some (.bool e) ∧ ∀ i, w.frozen? ⟨b, i, none⟩ = false := by
  unfold scO at h
  refine ⟨?_, ?_, fun i => frozen_of_row w b i _ _ h⟩ <;> (rw [cell_of_row w b _ _ _ _ h]; rfl)
theorem sc_set0 {w : World} {b : Nat} {v : Value} {e : Bool} (h : w.heap[b]? = some (scO v e)) (u : Value) : (w.setCell ⟨b, 0, none⟩ u).heap[b]? = some (scO u e) := by
  unfold scO at h ⊢
  rw [heap_setCell_same w b 0 _ _ _ h]
  simp
theorem sc_set1 {w : World} {b : Nat} {v : Value} {e : Bool} (h : w.heap[b]? = some (scO v e)) (f : Bool) : (w.setCell ⟨b, 1, none⟩ (.bool f)).heap[b]? = some (scO v f) := by
  unfold scO at h ⊢
  rw [heap_setCell_same w b 1 _ _ _ h]
  simp
/-- What is left, in memory that stays; none: it is bad. -/
structure Sc (w0 w : World) (b : Nat) (s : Option (List Int)) : Prop where
  blk : ∃ a n c xs, w.heap[b]? = some (scO (.slice a n c) s.isNone) ∧ IsB w0 a n c xs ∧ (∀ ad, a = some ad → ad.block ≠ b) ∧ (∀ ys, s = some ys → xs = ys) ∧ n ≤ 140737488355328
  but : But b w0 w
theorem IsB.but {w w' : World} {b : Nat} {a : Option Addr} {n c : Nat} {xs : List Int} (h : IsB w a n c xs) (K : But b w w') (hn : ∀ ad, a = some ad → ad.block ≠ b) : IsB w' a n c xs :=
  ⟨h.size, h.room, h.most, h.nil0, h.byte, fun h0 => by
    obtain ⟨g, off, ha, hc⟩ := h.cells h0
    exact ⟨g, off, ha, fun i hi => (World.cell?_of_block (a := ⟨g, off + i, none⟩) (K.block g (lt_of_cell (hc i hi)) (hn _ ha))).trans (hc i hi)⟩⟩
theorem Sc.keep {w0 w w' : World} {b : Nat} {s : Option (List Int)} (h : Sc w0 w b s) (k : w'.heap[b]? = w.heap[b]?) (K : But b w w') : Sc w0 w' b s := by
  obtain ⟨a, n, c, xs, e, r⟩ := h.blk
  exact ⟨⟨a, n, c, xs, k.trans e, r⟩, h.but.trans K⟩
theorem winA_ne {a : Option Addr} {k cap b : Nat} (h : ∀ ad, a = some ad → ad.block ≠ b) : ∀ ad, winA a k cap = some ad → ad.block ≠ b := by
  intro ad e
  unfold winA at e
  split at e
  · exact h ad e
  · cases a with
    | none => cases e
    | some x =>
      simp only [Option.map_some, Option.some.injEq] at e
      subst e
      have := h x rfl
      unfold Addr.add
      split
      · exact this
      · exact this
theorem rd_bad0 : ∀ (xs : List Int) (i acc r1 r2 r3 : Nat), rd i acc xs = (r1, r2, r3) → r3 ≠ 0 → r1 = 0
  | [], i, acc, r1, r2, r3, h, _ => by simp [rd] at h; omega
  | x :: t, i, acc, r1, r2, r3, h, h0 => by
    unfold rd at h
    split at h
    · simp at h; omega
    · split at h
      · split at h
        · simp at h; omega
        · simp at h; omega
      · exact rd_bad0 t _ _ _ _ _ h h0
set_option maxHeartbeats 2000000 in
theorem sUint {w0 w : World} {b : Nat} {s : Option (List Int)} (h : Sc w0 w b s) (most : Nat) (m : Int) (hm : m = (most : Int)) : Calls Try.prog 54 #[.pointer (some ⟨b, 0, none⟩), .int .u64 m] w fun e w' => e = .returned (.int .u64 ((nR most s).1 : Int)) ∧ Sc w0 w' b (nR most s).2 ∧ But b w w' := by
  subst hm
  obtain ⟨a, n, c, xs, E, I, hne, hs, hn47⟩ := h.blk
  obtain ⟨z0, z1, zf⟩ := sc_cells E
  have Iw := I.but h.but hne
  obtain ⟨r1, r2, r3, hr⟩ : ∃ r1 r2 r3, Hid (rd 0 0 xs = (r1, r2, r3)) := ⟨_, _, _, rfl⟩
  have bad : Sc w0 (w.setCell ⟨b, 1, none⟩ (.bool true)) b none := ⟨⟨a, n, c, xs, sc_set1 E true, I, hne, (by intro ys e; cases e), hn47⟩, h.but.trans But.set⟩
  cases s with
  | none =>
    have e : nR most none = (0, none) := by simp [nR, uR, rd]
    rw [e]
    clear e
    go_enter Try.func54, Try.ntmps54
    go_wp2_with fail
    refine (rreadU_to Iw hr).mono ?_
    rintro e w1 ⟨rfl, rfl⟩
    go_wp2
    go_ret
    exact ⟨rfl, bad, But.set⟩
  | some ys =>
    have hxy := hs ys rfl
    subst hxy
    by_cases h3 : r3 = 0
    · subst h3
      have hk := rd_ok _ _ _ _ _ hr.out
      have hsz := I.size
      have eu : uR (some xs) = (r1, some (xs.drop r2)) := by unfold uR; rw [Option.getD_some, hr.out]; rfl
      by_cases hmost : most < r1
      · have e : nR most (some xs) = (0, none) := by unfold nR; rw [eu]; exact if_pos hmost
        rw [e]
        have hmi : (most : Int) < (r1 : Int) := by omega
        clear e eu
        go_enter Try.func54, Try.ntmps54
        go_wp2_with fail
        refine (rreadU_to Iw hr).mono ?_
        rintro e w1 ⟨rfl, rfl⟩
        go_wp2
        go_ret
        exact ⟨rfl, bad, But.set⟩
      · have e : nR most (some xs) = (r1, some (xs.drop r2)) := by unfold nR; rw [eu]; exact if_neg hmost
        rw [e]
        have hmi : ¬ (most : Int) < (r1 : Int) := by omega
        have hw := fun w => run_tail a n c r2 w (by omega)
        obtain ⟨wa, hwa⟩ : ∃ wa, Hid (winA a r2 c = wa) := ⟨_, rfl⟩
        rw [hwa.out] at hw
        have good : Sc w0 (w.setCell ⟨b, 0, none⟩ (.slice wa (n - r2) (c - r2))) b (some (xs.drop r2)) := by
          rw [← hwa.out]
          exact ⟨⟨_, _, _, xs.drop r2, sc_set0 E _, I.tail r2 (by omega), winA_ne hne, (by intro ys e; exact Option.some.inj e), by omega⟩, h.but.trans But.set⟩
        clear e eu bad
        go_enter Try.func54, Try.ntmps54
        go_wp2_with fail
        refine (rreadU_to Iw hr).mono ?_
        rintro e w1 ⟨rfl, rfl⟩
        go_wp2
        go_ret
        exact ⟨rfl, good, But.set⟩
    · have h1 := rd_bad0 _ _ _ _ _ _ hr.out h3
      subst h1
      have e : nR most (some xs) = (0, none) := by unfold nR uR; rw [Option.getD_some, hr.out]; simp [h3]
      rw [e]
      have hb3 : ((r3 : Int) == 0) = false := by simp; omega
      clear e
      go_enter Try.func54, Try.ntmps54
      go_wp2_with fail
      refine (rreadU_to Iw hr).mono ?_
      rintro e w1 ⟨rfl, rfl⟩
      go_wp2
      go_ret
      exact ⟨rfl, bad, But.set⟩
/-- One byte, at most another one. -/
def bR (most : Int) (s : Option (List Int)) : Int × Option (List Int) := match s.getD [] with
  | [] => (0, none)
  | x :: t => if most < x then (0, none) else (x, some t)
set_option maxHeartbeats 2000000 in
theorem sByte {w0 w : World} {b : Nat} {s : Option (List Int)} (h : Sc w0 w b s) (most : Int) : Calls Try.prog 55 #[.pointer (some ⟨b, 0, none⟩), .int .u8 most] w fun e w' => e = .returned (.int .u8 (bR most s).1) ∧ Sc w0 w' b (bR most s).2 ∧ But b w w' := by
  obtain ⟨a, n, c, xs, E, I, hne, hs, hn47⟩ := h.blk
  obtain ⟨z0, z1, zf⟩ := sc_cells E
  have Iw := I.but h.but hne
  have bad : Sc w0 (w.setCell ⟨b, 1, none⟩ (.bool true)) b none := ⟨⟨a, n, c, xs, sc_set1 E true, I, hne, (by intro ys e; cases e), hn47⟩, h.but.trans But.set⟩
  cases s with
  | none =>
    have e : bR most none = (0, none) := rfl
    rw [e]
    clear e
    go_enter Try.func55, Try.ntmps55
    go_wp2
    go_ret
    exact ⟨rfl, bad, But.set⟩
  | some ys =>
    have hxy := hs ys rfl
    subst hxy
    have hsz := I.size
    cases xs with
    | nil =>
      have e : bR most (some []) = (0, none) := rfl
      rw [e]
      have hn : n = 0 := hsz.symm
      subst hn
      clear e
      go_enter Try.func55, Try.ntmps55
      go_wp2
      go_ret
      exact ⟨rfl, bad, But.set⟩
    | cons x t =>
      rw [List.length_cons] at hsz
      obtain ⟨b1, off, rfl, hc⟩ := Iw.cells (by omega)
      have c0 := hc 0 (by omega)
      rw [Nat.add_zero] at c0
      simp only [List.getD_cons_zero] at c0
      have hb0 : ((n : Int) == 0) = false := by simp; omega
      have hn0 : (0 : Int) < (n : Int) := by omega
      clear hc
      by_cases hx : most < x
      · have e : bR most (some (x :: t)) = (0, none) := if_pos hx
        rw [e]
        clear e
        go_enter Try.func55, Try.ntmps55
        go_wp2
        go_ret
        exact ⟨rfl, bad, But.set⟩
      · have e : bR most (some (x :: t)) = (x, some t) := if_neg hx
        rw [e]
        have hw : ∀ w, (Instr.slice 25 (.slice (some ⟨b1, off, none⟩) n c) (some (.int .i64 1)) none none).run Try.prog w = .ok (.slice (winA (some ⟨b1, off, none⟩) 1 c) (n - 1) (c - 1)) w := fun w => run_tail (some ⟨b1, off, none⟩) n c 1 w (by omega)
        obtain ⟨wa, hwa⟩ : ∃ wa, Hid (winA (some ⟨b1, off, none⟩) 1 c = wa) := ⟨_, rfl⟩
        rw [hwa.out] at hw
        have good : Sc w0 (w.setCell ⟨b, 0, none⟩ (.slice wa (n - 1) (c - 1))) b (some t) := by
          rw [← hwa.out]
          exact ⟨⟨_, _, _, t, sc_set0 E _, (by have := I.tail 1 (by omega); simpa using this), winA_ne hne, (by intro ys e; exact Option.some.inj e), by omega⟩, h.but.trans But.set⟩
        clear e bad
        go_enter Try.func55, Try.ntmps55
        go_wp2
        go_ret
        exact ⟨rfl, good, But.set⟩
theorem rtx_bad0 (xs ys : List Int) (k e : Nat) (h : rtx xs = (ys, k, e)) (h0 : e ≠ 0) : ys = [] := by
  unfold rtx at h
  split at h
  · simp at h; exact h.1
  · split at h
    · simp at h; exact h.1
    · split at h
      · simp at h; exact h.1
      · simp at h; omega
set_option maxHeartbeats 2000000 in
theorem sText {w0 w : World} {b : Nat} {s : Option (List Int)} (h : Sc w0 w b s) : Calls Try.prog 63 #[.pointer (some ⟨b, 0, none⟩)] w fun e w' => ∃ v, e = .returned v ∧ OwnB w' w.heap.size v (tR s).1 ∧ Sc w0 w' b (tR s).2 ∧ But b w w' := by
  obtain ⟨a, n, c, xs, E, I, hne, hs, hn47⟩ := h.blk
  obtain ⟨z0, z1, zf⟩ := sc_cells E
  have hbl := lt_of_block E
  have Iw := I.but h.but hne
  obtain ⟨ys, k, e3, hr⟩ : ∃ r1 r2 r3, Hid (rtx xs = (r1, r2, r3)) := ⟨_, _, _, rfl⟩
  have bad : ∀ w1, Below w.heap.size w w1 → Sc w0 (w1.setCell ⟨b, 1, none⟩ (.bool true)) b none := fun w1 B1 => ⟨⟨a, n, c, xs, sc_set1 ((B1.block b hbl).trans E) true, I, hne, (by intro ys e; cases e), hn47⟩, h.but.trans ((But.of B1).trans But.set)⟩
  cases s with
  | none =>
    have e : tR none = ([], none) := by simp [tR, rtx, rd]
    rw [e]
    clear e
    go_enter Try.func63, Try.ntmps63
    go_wp2_with fail
    refine (rreadT_to Iw (by omega) hr).mono ?_
    rintro e w1 ⟨av, cv, rfl, O1, _, B1⟩
    obtain ⟨y0, y1, yf⟩ := sc_cells ((B1.block b hbl).trans E)
    have hb1 := bad w1 B1
    go_wp2
    go_ret
    exact ⟨_, rfl, ownB_nil _ _, hb1, (But.of B1).trans But.set⟩
  | some zs =>
    have hxy := hs zs rfl
    subst hxy
    by_cases h3 : e3 = 0
    · subst h3
      have hk := rtx_ok _ _ _ hr.out
      have hsz := I.size
      have e : tR (some xs) = (ys, some (xs.drop k)) := by unfold tR; rw [Option.getD_some, hr.out]; rfl
      rw [e]
      have hw := fun w => run_tail a n c k w (by omega)
      obtain ⟨wa, hwa⟩ : ∃ wa, Hid (winA a k c = wa) := ⟨_, rfl⟩
      rw [hwa.out] at hw
      clear e bad
      go_enter Try.func63, Try.ntmps63
      go_wp2_with fail
      refine (rreadT_to Iw (by omega) hr).mono ?_
      rintro e w1 ⟨av, cv, rfl, O1, _, B1⟩
      have E1 := (B1.block b hbl).trans E
      obtain ⟨y0, y1, yf⟩ := sc_cells E1
      have good : Sc w0 (w1.setCell ⟨b, 0, none⟩ (.slice wa (n - k) (c - k))) b (some (xs.drop k)) := by
        rw [← hwa.out]
        exact ⟨⟨_, _, _, xs.drop k, sc_set0 E1 _, I.tail k (by omega), winA_ne hne, (by intro ys e; exact Option.some.inj e), by omega⟩, h.but.trans ((But.of B1).trans But.set)⟩
      have O2 := O1.same (w' := w1.setCell ⟨b, 0, none⟩ (.slice wa (n - k) (c - k))) (fun g hg => heap_setCell_other _ _ _ _ (by have := (O1.lt g hg).1; show g ≠ b; omega))
      clear O1
      go_wp2
      go_ret
      exact ⟨_, rfl, O2, good, (But.of B1).trans But.set⟩
    · have hy := rtx_bad0 _ _ _ _ hr.out h3
      have e : tR (some xs) = ([], none) := by unfold tR; rw [Option.getD_some, hr.out, hy]; exact if_neg h3
      rw [e]
      have hb3 : ((e3 : Int) == 0) = false := by simp; omega
      clear e
      go_enter Try.func63, Try.ntmps63
      go_wp2_with fail
      refine (rreadT_to Iw (by omega) hr).mono ?_
      rintro e w1 ⟨av, cv, rfl, O1, _, B1⟩
      obtain ⟨y0, y1, yf⟩ := sc_cells ((B1.block b hbl).trans E)
      have hb1 := bad w1 B1
      go_wp2
      go_ret
      exact ⟨_, rfl, ownB_nil _ _, hb1, (But.of B1).trans But.set⟩
end Go.Proofs.Ytjfaflmmanjjbaa
