/- The document's reader. -/
import Derived.Test.YtjfaflmmanjjbaaBack
namespace Go.Proofs.Ytjfaflmmanjjbaa
open Go.RowKit
set_option maxRecDepth 100000
/-- A scan's block. -/
def scO (v : Value) (e : Bool) : Obj := .cells #[v, .bool e] 74 (0, 0)
theorem sc_cells {w : World} {b : Nat} {v : Value} {e : Bool} (h : w.heap[b]? = some (scO v e)) : w.cell? ⟨b, 0, none⟩ = some v ∧ w.cell? ⟨b, 1, none⟩ = some (.bool e) ∧ ∀ i, w.frozen? ⟨b, i, none⟩ = false := by
  unfold scO at h
  refine ⟨?_, ?_, fun i => frozen_of_row w b i _ _ h⟩ <;> (rw [cell_of_row w b _ _ _ _ h]; rfl)
theorem sc_set0 {w : World} {b : Nat} {v : Value} {e : Bool} (h : w.heap[b]? = some (scO v e)) (u : Value) : (w.setCell ⟨b, 0, none⟩ u).heap[b]? = some (scO u e) := by
  unfold scO at h ⊢
  rw [heap_setCell_same w b 0 _ _ _ h]
  simp
theorem sc_set1 {w : World} {b : Nat} {v : Value} {e : Bool} (h : w.heap[b]? = some (scO v e)) (f : Bool) : (w.setCell ⟨b, 1, none⟩ (.bool f)).heap[b]? = some (scO v f) := by
  unfold scO at h ⊢
  rw [heap_setCell_same w b 1 _ _ _ h]
  simp
/-- What is left, in memory that stays; none: it is bad. -/
structure Sc (w0 w : World) (b : Nat) (s : Option (List Int)) : Prop where
  blk : ∃ a n c xs, w.heap[b]? = some (scO (.slice a n c) s.isNone) ∧ IsB w0 a n c xs ∧ (∀ ad, a = some ad → ad.block ≠ b) ∧ (∀ ys, s = some ys → xs = ys) ∧ n ≤ 140737488355328
  but : But b w0 w
theorem IsB.but {w w' : World} {b : Nat} {a : Option Addr} {n c : Nat} {xs : List Int} (h : IsB w a n c xs) (K : But b w w') (hn : ∀ ad, a = some ad → ad.block ≠ b) : IsB w' a n c xs :=
  ⟨h.size, h.room, h.most, h.nil0, h.byte, fun h0 => by
    obtain ⟨g, off, ha, hc⟩ := h.cells h0
    exact ⟨g, off, ha, fun i hi => (World.cell?_of_block (a := ⟨g, off + i, none⟩) (K.block g (lt_of_cell (hc i hi)) (hn _ ha))).trans (hc i hi)⟩⟩
theorem Sc.keep {w0 w w' : World} {b : Nat} {s : Option (List Int)} (h : Sc w0 w b s) (k : w'.heap[b]? = w.heap[b]?) (K : But b w w') : Sc w0 w' b s := by
  obtain ⟨a, n, c, xs, e, r⟩ := h.blk
  exact ⟨⟨a, n, c, xs, k.trans e, r⟩, h.but.trans K⟩
theorem winA_ne {a : Option Addr} {k cap b : Nat} (h : ∀ ad, a = some ad → ad.block ≠ b) : ∀ ad, winA a k cap = some ad → ad.block ≠ b := by
  intro ad e
  unfold winA at e
  split at e
  · exact h ad e
  · cases a with
    | none => cases e
    | some x =>
      simp only [Option.map_some, Option.some.injEq] at e
      subst e
      have := h x rfl
      unfold Addr.add
      split
      · exact this
      · exact this
theorem rd_bad0 : ∀ (xs : List Int) (i acc r1 r2 r3 : Nat), rd i acc xs = (r1, r2, r3) → r3 ≠ 0 → r1 = 0
  | [], i, acc, r1, r2, r3, h, _ => by simp [rd] at h; omega
  | x :: t, i, acc, r1, r2, r3, h, h0 => by
    unfold rd at h
    split at h
    · simp at h; omega
    · split at h
      · split at h
        · simp at h; omega
        · simp at h; omega
      · exact rd_bad0 t _ _ _ _ _ h h0
set_option maxHeartbeats 2000000 in
theorem sUint {w0 w : World} {b : Nat} {s : Option (List Int)} (h : Sc w0 w b s) (most : Nat) (m : Int) (hm : m = (most : Int)) : Calls Try.prog 54 #[.pointer (some ⟨b, 0, none⟩), .int .u64 m] w fun e w' => e = .returned (.int .u64 ((nR most s).1 : Int)) ∧ Sc w0 w' b (nR most s).2 ∧ But b w w' := by
  subst hm
  obtain ⟨a, n, c, xs, E, I, hne, hs, hn47⟩ := h.blk
  obtain ⟨z0, z1, zf⟩ := sc_cells E
  have Iw := I.but h.but hne
  obtain ⟨r1, r2, r3, hr⟩ : ∃ r1 r2 r3, Hid (rd 0 0 xs = (r1, r2, r3)) := ⟨_, _, _, rfl⟩
  have bad : Sc w0 (w.setCell ⟨b, 1, none⟩ (.bool true)) b none := ⟨⟨a, n, c, xs, sc_set1 E true, I, hne, (by intro ys e; cases e), hn47⟩, h.but.trans But.set⟩
  cases s with
  | none =>
    have e : nR most none = (0, none) := by simp [nR, uR, rd]
    rw [e]
    clear e
    go_enter Try.func54, Try.ntmps54
    go_wp2_with fail
    refine (rreadU_to Iw hr).mono ?_
    rintro e w1 ⟨rfl, rfl⟩
    go_wp2
    go_ret
    exact ⟨rfl, bad, But.set⟩
  | some ys =>
    have hxy := hs ys rfl
    subst hxy
    by_cases h3 : r3 = 0
    · subst h3
      have hk := rd_ok _ _ _ _ _ hr.out
      have hsz := I.size
      have eu : uR (some xs) = (r1, some (xs.drop r2)) := by unfold uR; rw [Option.getD_some, hr.out]; rfl
      by_cases hmost : most < r1
      · have e : nR most (some xs) = (0, none) := by unfold nR; rw [eu]; exact if_pos hmost
        rw [e]
        have hmi : (most : Int) < (r1 : Int) := by omega
        clear e eu
        go_enter Try.func54, Try.ntmps54
        go_wp2_with fail
        refine (rreadU_to Iw hr).mono ?_
        rintro e w1 ⟨rfl, rfl⟩
        go_wp2
        go_ret
        exact ⟨rfl, bad, But.set⟩
      · have e : nR most (some xs) = (r1, some (xs.drop r2)) := by unfold nR; rw [eu]; exact if_neg hmost
        rw [e]
        have hmi : ¬ (most : Int) < (r1 : Int) := by omega
        have hw := fun w => run_tail a n c r2 w (by omega)
        obtain ⟨wa, hwa⟩ : ∃ wa, Hid (winA a r2 c = wa) := ⟨_, rfl⟩
        rw [hwa.out] at hw
        have good : Sc w0 (w.setCell ⟨b, 0, none⟩ (.slice wa (n - r2) (c - r2))) b (some (xs.drop r2)) := by
          rw [← hwa.out]
          exact ⟨⟨_, _, _, xs.drop r2, sc_set0 E _, I.tail r2 (by omega), winA_ne hne, (by intro ys e; exact Option.some.inj e), by omega⟩, h.but.trans But.set⟩
        clear e eu bad
        go_enter Try.func54, Try.ntmps54
        go_wp2_with fail
        refine (rreadU_to Iw hr).mono ?_
        rintro e w1 ⟨rfl, rfl⟩
        go_wp2
        go_ret
        exact ⟨rfl, good, But.set⟩
    · have h1 := rd_bad0 _ _ _ _ _ _ hr.out h3
      subst h1
      have e : nR most (some xs) = (0, none) := by unfold nR uR; rw [Option.getD_some, hr.out]; simp [h3]
      rw [e]
      have hb3 : ((r3 : Int) == 0) = false := by simp; omega
      clear e
      go_enter Try.func54, Try.ntmps54
      go_wp2_with fail
      refine (rreadU_to Iw hr).mono ?_
      rintro e w1 ⟨rfl, rfl⟩
      go_wp2
      go_ret
      exact ⟨rfl, bad, But.set⟩
/-- One byte, at most another one. -/
def bR (most : Int) (s : Option (List Int)) : Int × Option (List Int) := match s.getD [] with
  | [] => (0, none)
  | x :: t => if most < x then (0, none) else (x, some t)
set_option maxHeartbeats 2000000 in
theorem sByte {w0 w : World} {b : Nat} {s : Option (List Int)} (h : Sc w0 w b s) (most : Int) : Calls Try.prog 55 #[.pointer (some ⟨b, 0, none⟩), .int .u8 most] w fun e w' => e = .returned (.int .u8 (bR most s).1) ∧ Sc w0 w' b (bR most s).2 ∧ But b w w' := by
  obtain ⟨a, n, c, xs, E, I, hne, hs, hn47⟩ := h.blk
  obtain ⟨z0, z1, zf⟩ := sc_cells E
  have Iw := I.but h.but hne
  have bad : Sc w0 (w.setCell ⟨b, 1, none⟩ (.bool true)) b none := ⟨⟨a, n, c, xs, sc_set1 E true, I, hne, (by intro ys e; cases e), hn47⟩, h.but.trans But.set⟩
  cases s with
  | none =>
    have e : bR most none = (0, none) := rfl
    rw [e]
    clear e
    go_enter Try.func55, Try.ntmps55
    go_wp2
    go_ret
    exact ⟨rfl, bad, But.set⟩
  | some ys =>
    have hxy := hs ys rfl
    subst hxy
    have hsz := I.size
    cases xs with
    | nil =>
      have e : bR most (some []) = (0, none) := rfl
      rw [e]
      have hn : n = 0 := hsz.symm
      subst hn
      clear e
      go_enter Try.func55, Try.ntmps55
      go_wp2
      go_ret
      exact ⟨rfl, bad, But.set⟩
    | cons x t =>
      rw [List.length_cons] at hsz
      obtain ⟨b1, off, rfl, hc⟩ := Iw.cells (by omega)
      have c0 := hc 0 (by omega)
      rw [Nat.add_zero] at c0
      simp only [List.getD_cons_zero] at c0
      have hb0 : ((n : Int) == 0) = false := by simp; omega
      have hn0 : (0 : Int) < (n : Int) := by omega
      clear hc
      by_cases hx : most < x
      · have e : bR most (some (x :: t)) = (0, none) := if_pos hx
        rw [e]
        clear e
        go_enter Try.func55, Try.ntmps55
        go_wp2
        go_ret
        exact ⟨rfl, bad, But.set⟩
      · have e : bR most (some (x :: t)) = (x, some t) := if_neg hx
        rw [e]
        have hw : ∀ w, (Instr.slice 25 (.slice (some ⟨b1, off, none⟩) n c) (some (.int .i64 1)) none none).run Try.prog w = .ok (.slice (winA (some ⟨b1, off, none⟩) 1 c) (n - 1) (c - 1)) w := fun w => run_tail (some ⟨b1, off, none⟩) n c 1 w (by omega)
        obtain ⟨wa, hwa⟩ : ∃ wa, Hid (winA (some ⟨b1, off, none⟩) 1 c = wa) := ⟨_, rfl⟩
        rw [hwa.out] at hw
        have good : Sc w0 (w.setCell ⟨b, 0, none⟩ (.slice wa (n - 1) (c - 1))) b (some t) := by
          rw [← hwa.out]
          exact ⟨⟨_, _, _, t, sc_set0 E _, (by have := I.tail 1 (by omega); simpa using this), winA_ne hne, (by intro ys e; exact Option.some.inj e), by omega⟩, h.but.trans But.set⟩
        clear e bad
        go_enter Try.func55, Try.ntmps55
        go_wp2
        go_ret
        exact ⟨rfl, good, But.set⟩
theorem rtx_bad0 (xs ys : List Int) (k e : Nat) (h : rtx xs = (ys, k, e)) (h0 : e ≠ 0) : ys = [] := by
  unfold rtx at h
  split at h
  · simp at h; exact h.1
  · split at h
    · simp at h; exact h.1
    · split at h
      · simp at h; exact h.1
      · simp at h; omega
set_option maxHeartbeats 2000000 in
theorem sText {w0 w : World} {b : Nat} {s : Option (List Int)} (h : Sc w0 w b s) : Calls Try.prog 63 #[.pointer (some ⟨b, 0, none⟩)] w fun e w' => ∃ v, e = .returned v ∧ OwnB w' w.heap.size v (tR s).1 ∧ Sc w0 w' b (tR s).2 ∧ But b w w' := by
  obtain ⟨a, n, c, xs, E, I, hne, hs, hn47⟩ := h.blk
  obtain ⟨z0, z1, zf⟩ := sc_cells E
  have hbl := lt_of_block E
  have Iw := I.but h.but hne
  obtain ⟨ys, k, e3, hr⟩ : ∃ r1 r2 r3, Hid (rtx xs = (r1, r2, r3)) := ⟨_, _, _, rfl⟩
  have bad : ∀ w1, Below w.heap.size w w1 → Sc w0 (w1.setCell ⟨b, 1, none⟩ (.bool true)) b none := fun w1 B1 => ⟨⟨a, n, c, xs, sc_set1 ((B1.block b hbl).trans E) true, I, hne, (by intro ys e; cases e), hn47⟩, h.but.trans ((But.of B1).trans But.set)⟩
  cases s with
  | none =>
    have e : tR none = ([], none) := by simp [tR, rtx, rd]
    rw [e]
    clear e
    go_enter Try.func63, Try.ntmps63
    go_wp2_with fail
    refine (rreadT_to Iw (by omega) hr).mono ?_
    rintro e w1 ⟨av, cv, rfl, O1, _, B1⟩
    obtain ⟨y0, y1, yf⟩ := sc_cells ((B1.block b hbl).trans E)
    have hb1 := bad w1 B1
    go_wp2
    go_ret
    exact ⟨_, rfl, ownB_nil _ _, hb1, (But.of B1).trans But.set⟩
  | some zs =>
    have hxy := hs zs rfl
    subst hxy
    by_cases h3 : e3 = 0
    · subst h3
      have hk := rtx_ok _ _ _ hr.out
      have hsz := I.size
      have e : tR (some xs) = (ys, some (xs.drop k)) := by unfold tR; rw [Option.getD_some, hr.out]; rfl
      rw [e]
      have hw := fun w => run_tail a n c k w (by omega)
      obtain ⟨wa, hwa⟩ : ∃ wa, Hid (winA a k c = wa) := ⟨_, rfl⟩
      rw [hwa.out] at hw
      clear e bad
      go_enter Try.func63, Try.ntmps63
      go_wp2_with fail
      refine (rreadT_to Iw (by omega) hr).mono ?_
      rintro e w1 ⟨av, cv, rfl, O1, _, B1⟩
      have E1 := (B1.block b hbl).trans E
      obtain ⟨y0, y1, yf⟩ := sc_cells E1
      have good : Sc w0 (w1.setCell ⟨b, 0, none⟩ (.slice wa (n - k) (c - k))) b (some (xs.drop k)) := by
        rw [← hwa.out]
        exact ⟨⟨_, _, _, xs.drop k, sc_set0 E1 _, I.tail k (by omega), winA_ne hne, (by intro ys e; exact Option.some.inj e), by omega⟩, h.but.trans ((But.of B1).trans But.set)⟩
      have O2 := O1.same (w' := w1.setCell ⟨b, 0, none⟩ (.slice wa (n - k) (c - k))) (fun g hg => heap_setCell_other _ _ _ _ (by have := (O1.lt g hg).1; show g ≠ b; omega))
      clear O1
      go_wp2
      go_ret
      exact ⟨_, rfl, O2, good, (But.of B1).trans But.set⟩
    · have hy := rtx_bad0 _ _ _ _ hr.out h3
      have e : tR (some xs) = ([], none) := by unfold tR; rw [Option.getD_some, hr.out, hy]; exact if_neg h3
      rw [e]
      have hb3 : ((e3 : Int) == 0) = false := by simp; omega
      clear e
      go_enter Try.func63, Try.ntmps63
      go_wp2_with fail
      refine (rreadT_to Iw (by omega) hr).mono ?_
      rintro e w1 ⟨av, cv, rfl, O1, _, B1⟩
      obtain ⟨y0, y1, yf⟩ := sc_cells ((B1.block b hbl).trans E)
      have hb1 := bad w1 B1
      go_wp2
      go_ret
      exact ⟨_, rfl, ownB_nil _ _, hb1, (But.of B1).trans But.set⟩
end Go.Proofs.Ytjfaflmmanjjbaa
namespace Go.Proofs.Ytjfaflmmanjjbaa
open Go.RowKit
set_option maxRecDepth 100000
theorem nR_max {s : Option (List Int)} (h : ∀ x ∈ s.getD [], 0 ≤ x ∧ x < 256) : nR 18446744073709551615 s = uR s := by
  have := uR_lt h
  unfold nR
  exact if_neg (by omega)
theorem bR_none {s : Option (List Int)} {o : Int} (h : bR 4 s = (o, none)) : o = 0 ∧ (slotR s).2 = none := by
  unfold bR at h
  split at h
  · next hx =>
    simp at h
    refine ⟨h.symm, ?_⟩
    have e : oR s = (0, none) := by unfold oR; rw [hx]
    unfold slotR
    rw [e]
    rfl
  · next x t hx =>
    split at h
    · next h4 =>
      simp at h
      refine ⟨h.symm, ?_⟩
      have e : oR s = (x, some t) := by unfold oR; rw [hx]
      unfold slotR
      rw [e]
      dsimp only
      rw [if_neg (by omega), if_neg (by omega), if_neg (by omega)]
    · simp at h
theorem bR_some {s : Option (List Int)} {o : Int} {t : List Int} (h : bR 4 s = (o, some t)) : oR s = (o, some t) ∧ o ≤ 4 := by
  unfold bR at h
  split at h
  · simp at h
  · next x t' hx =>
    split at h
    · simp at h
    · next h4 =>
      simp at h
      obtain ⟨rfl, rfl⟩ := h
      exact ⟨by unfold oR; rw [hx], by omega⟩
/-- Slots that were read so far, in the document's reader. -/
def SInv (N : Nat) (s0 : Option (List Int)) (k : Nat) (vs : List (Int × Int)) (s : Option (List Int)) : Prop :=
  slotsR N s0 = (vs ++ (slotsR (N - k) s).1, (slotsR (N - k) s).2) ∨ (s = none ∧ (slotsR N s0).2 = none)
theorem SInv.step {N : Nat} {s0 : Option (List Int)} {k : Nat} {vs : List (Int × Int)} {s st : Option (List Int)} {P : Int × Int} (h : SInv N s0 k vs s) (hk : k < N) (hne : s ≠ none)
    (hs : (st = none ∧ (slotR s).2 = none) ∨ (∃ t, st = some t ∧ slotR s = (P, some t))) : SInv N s0 (k + 1) (vs ++ [P]) st := by
  rcases h with h | ⟨h, _⟩
  · have e : N - k = (N - (k + 1)) + 1 := by omega
    rw [e] at h
    rcases hs with ⟨rfl, h2⟩ | ⟨t, rfl, h2⟩
    · refine .inr ⟨rfl, ?_⟩
      rw [h]
      simp [slotsR, h2]
    · rw [slotsR_go h2] at h
      exact .inl (by rw [h]; simp)
  · exact absurd h hne
theorem SInv.done {N : Nat} {s0 : Option (List Int)} {vs : List (Int × Int)} {s : Option (List Int)} (h : SInv N s0 N vs s) (hne : s ≠ none) : slotsR N s0 = (vs, s) := by
  rcases h with h | ⟨h, _⟩
  · rw [h]
    simp [slotsR]
  · exact absurd h hne
theorem SInv.bad {N : Nat} {s0 : Option (List Int)} {k : Nat} {vs : List (Int × Int)} (h : SInv N s0 k vs none) : (slotsR N s0).2 = none := by
  rcases h with h | ⟨_, h⟩
  · rw [h]
    cases N - k with
    | zero => rfl
    | succ j => simp [slotsR, slotR, oR]
  · exact h
end Go.Proofs.Ytjfaflmmanjjbaa
namespace Go.Proofs.Ytjfaflmmanjjbaa
open Go.RowKit
set_option maxRecDepth 100000
theorem app_ownV2 {ops : Array Oper} {rest : List Oper} {o : Oper} {a : Act} {Q : Exit → Act → World → Prop} (w : World) (hgd : o.guard = none) (s x : Operand)
    (ho : o.op = .call { callee := .builtin .append, args := #[s, x], argTypes := #[24, 24] })
    (base : Nat) (v : Value) (xs : List (Int × Int)) (hs : a.eval s = v) (hown : OwnV w base v xs)
    (ad : Addr) (len cap : Nat) (ys : List (Int × Int)) (hx : a.eval x = .slice (some ad) len cap) (hB : IsV w (some ad) len cap ys) (h47 : xs.length + len ≤ 8796093022208) (hbase : base ≤ w.heap.size)
    (h : ∀ a' n' c' w', OwnV w' base (.slice a' n' c') (xs ++ ys) → w.grownBy w' v.ownBlock → wpList Try.prog ops Q rest (a.put o.dst (.slice a' n' c')) w') : wpList Try.prog ops Q (o :: rest) a w := by
  obtain ⟨i0, hi, hz0, hz1, hz2⟩ := info_parts Try.info23
  have hwf : wfVs (xs ++ ys) := fun v hv => by
    rcases List.mem_append.1 hv with h1 | h1
    · exact hown.wf v h1
    · exact hB.wf v h1
  refine wpList_append_own w hgd s x 24 ho base 23 i0 (.agg #[.int .i64 0, .int .i64 0]) 2 16 Try.underlying24 hi hz0 hz1 hz2 rfl (by decide) _ xs.length _ hs hown.1 ad len cap (flatV ys) hx (by rw [flatV_len, hB.size]) (hB.cellsAt ad rfl) (flatV_one ys) (by unfold maxLen; omega) (by omega) hbase ?_
  intro v' w' hown' hgrow _
  rw [← flatV_app] at hown'
  have O := ownV_of hown' hwf
  obtain ⟨a', n', c', rfl⟩ := O.shape'
  exact h a' n' c' w' O hgrow
theorem Sc.keep' {w0 w w' : World} {b : Nat} {s : Option (List Int)} (h : Sc w0 w b s) (k : w'.heap[b]? = w.heap[b]?) (K : But b w0 w') : Sc w0 w' b s := by
  obtain ⟨a, n, c, xs, e, r⟩ := h.blk
  exact ⟨⟨a, n, c, xs, k.trans e, r⟩, K⟩
/-- What an object's reading comes to: none, where it can not be. -/
def fin (s : Option (List Int)) : Option (List Int) := if okO (objR s).1 (objR s).2.1 (objR s).2.2.1.length = true then (objR s).2.2.2 else none
/-- What comes of reading an object. -/
def ObjP (w0 w : World) (b : Nat) (fs : Option (List Int)) (c : Int) (us : List (Int × Int)) (ds : List Int) (e : Ending) (w' : World) : Prop := ∃ cc vv bv vs bs, e = .returned (.agg #[.int .i64 cc, vv, bv]) ∧ OwnV w' w.heap.size vv vs ∧ OwnB w' w.heap.size bv bs ∧ Sc w0 w' b fs ∧ But b w w' ∧ (0 ≤ cc ∧ cc ≤ 4096) ∧ (fs ≠ none → c = cc ∧ us = vs ∧ ds = bs)
theorem Sc.cell1 {w0 w : World} {b : Nat} {s : Option (List Int)} (h : Sc w0 w b s) : w.cell? ⟨b, 1, none⟩ = some (.bool s.isNone) := by
  obtain ⟨a, n, c, xs, e, _⟩ := h.blk
  exact (sc_cells e).2.1
theorem Sc.lt {w0 w : World} {b : Nat} {s : Option (List Int)} (h : Sc w0 w b s) : b < w.heap.size := by
  obtain ⟨a, n, c, xs, e, _⟩ := h.blk
  exact lt_of_block e
theorem Sc.byte {w0 w : World} {b : Nat} {t : List Int} (h : Sc w0 w b (some t)) : ∀ x ∈ t, 0 ≤ x ∧ x < 256 := by
  obtain ⟨a, n, c, xs, e, I, _, hs, _⟩ := h.blk
  have := hs t rfl
  subst this
  exact I.byte
set_option maxHeartbeats 8000000 in
theorem sObj {w0 w : World} {b : Nat} {s : Option (List Int)} (h : Sc w0 w b s) : Calls Try.prog 47 #[.pointer (some ⟨b, 0, none⟩)] w fun e w' => ObjP w0 w b (fin s) (objR s).1 (objR s).2.1 (objR s).2.2.1 e w' := by
  have hbw := h.lt
  have hw0 : w0.heap.size ≤ w.heap.size := h.but.size
  obtain ⟨c, s1, h1⟩ : ∃ c s1, Hid (nR 4096 s = (c, s1)) := ⟨_, _, rfl⟩
  have hc := nR_le (most := 4096) (s := s)
  obtain ⟨N, s2, h2⟩ : ∃ n s2, Hid (nR 256 s1 = (n, s2)) := ⟨_, _, rfl⟩
  have hN := nR_le (most := 256) (s := s1)
  obtain ⟨us, s3, h3⟩ : ∃ vs s3, Hid (slotsR N s2 = (vs, s3)) := ⟨_, _, rfl⟩
  obtain ⟨ds, s4, h4⟩ : ∃ bs s4, Hid (tR s3 = (bs, s4)) := ⟨_, _, rfl⟩
  rw [h1.out] at hc
  rw [h2.out] at hN
  dsimp only at hc hN
  have e0 : objR s = ((c : Int), us, ds, s4) := by
    unfold objR
    rw [h1.out]; dsimp only; rw [h2.out]; dsimp only; rw [h3.out]; dsimp only; rw [h4.out]
  obtain ⟨fs, hfs⟩ : ∃ fs, Hid (fin s = fs) := ⟨_, rfl⟩
  have hfd : Hid ((if okO (c : Int) us ds.length = true then s4 else none) = fs) := by show (if _ then _ else _) = fs; rw [← hfs.out]; unfold fin; rw [e0]
  rw [hfs.out, e0]
  dsimp only
  clear e0 hfs
  have hcw : IntKind.i64.wrap (c : Int) = (c : Int) := by rw [IntKind.wrap_i64]; omega
  go_enter Try.func47, Try.ntmps47
  go_wp2_with fail
  have B1 : Below w.heap.size w (w.alloc (objB 0 (.slice none 0 0) (.slice none 0 0))) := box_below
  have F1 := new1 w (objB 0 (.slice none 0 0) (.slice none 0 0))
  have R1 := h.keep (B1.block b hbw) (But.of B1)
  have K1 : But b w (w.alloc (objB 0 (.slice none 0 0) (.slice none 0 0))) := But.of B1
  have z1 : w.heap.size < (w.alloc (objB 0 (.slice none 0 0) (.slice none 0 0))).heap.size := by rw [size1]; omega
  unfold objB at F1 R1 K1 z1
  generalize w.alloc (.cells #[.int .i64 0, .slice none 0 0, .slice none 0 0] 27) = w1 at *
  replace F1 : w1.heap[w.heap.size]? = some (objB 0 (.slice none 0 0) (.slice none 0 0)) := F1
  have hr0 : w.heap.size ≠ b := by omega
  clear h B1
  refine (sUint R1 4096 4096 rfl).mono ?_
  rintro e w2 ⟨rfl, R2, K2⟩
  rw [h1.out] at R2 ⊢
  dsimp only at R2 ⊢
  have F2 := (K2.block _ z1 hr0).trans F1
  have K2' := K1.trans K2
  have z2 : w.heap.size < w2.heap.size := Nat.lt_of_lt_of_le z1 K2.size
  have B3 : Below w2.heap.size w2 (w2.alloc (objB (c : Int) (.slice none 0 0) (.slice none 0 0))) := box_below
  have F3 := old1 F2 (objB (c : Int) (.slice none 0 0) (.slice none 0 0))
  have E3 := new1 w2 (objB (c : Int) (.slice none 0 0) (.slice none 0 0))
  have R3 := R2.keep (B3.block b R2.lt) (But.of B3)
  have K3 : But b w (w2.alloc (objB (c : Int) (.slice none 0 0) (.slice none 0 0))) := K2'.trans (But.of B3)
  have hr1 : w2.heap.size ≠ b := by have := R2.lt; omega
  have hr2 : w.heap.size ≠ w2.heap.size := by omega
  have hr3 : w.heap.size ≤ w2.heap.size := by omega
  unfold objB at F3 E3 R3 K3
  clear R1 K1 F1 K2 B3 F2 R2 K2'
  go_wp2_with fail
  generalize w2.alloc (.cells #[.int .i64 (c : Int), .slice none 0 0, .slice none 0 0] 27) = w3 at *
  replace F3 : w3.heap[w.heap.size]? = some (objB 0 (.slice none 0 0) (.slice none 0 0)) := F3
  replace E3 : w3.heap[w2.heap.size]? = some (objB (c : Int) (.slice none 0 0) (.slice none 0 0)) := E3
  generalize w2.heap.size = o1 at *
  refine (sUint R3 256 256 rfl).mono ?_
  rintro e w4 ⟨rfl, R4, K4⟩
  rw [h2.out] at R4 ⊢
  dsimp only at R4 ⊢
  have F4 := (K4.block _ (lt_of_block F3) hr0).trans F3
  have E4 := (K4.block _ (lt_of_block E3) hr1).trans E3
  replace K4 := K3.trans K4
  clear R3 K3 F3 E3
  go_wp2
  go_loopw [5] (fun iv wr => ∃ (k : Nat) (a : Option Addr) (n q : Nat) (vs : List (Int × Int)) (s' : Option (List Int)), k ≤ N ∧ iv = .int .u64 (k : Int) ∧ wr.heap[o1]? = some (objB (c : Int) (.slice a n q) (.slice none 0 0)) ∧ wr.heap[w.heap.size]? = some (objB 0 (.slice none 0 0) (.slice none 0 0)) ∧ OwnV wr w.heap.size (.slice a n q) vs ∧ vs.length = k ∧ Sc w0 wr b s' ∧ But b w wr ∧ SInv N s2 k vs s') (fun iv _ => N - (intOf iv).toNat)
  case atStart => exact ⟨0, none, 0, 0, [], s2, by omega, rfl, E4, F4, ownV_nil _ _, rfl, R4, K4, .inl (by simp)⟩
  case round =>
    clear R4 K4 F4 E4
    obtain ⟨k, a, n, q, vs, s', hk, rfl, E, F, O, hvl, R, K, hI⟩ := hrel
    have hcell := R.cell1
    by_cases hlt : k < N
    · cases s' with
      | none =>
        have hlti : (k : Int) < (N : Int) := by omega
        have hs3 : s3 = none := by have := hI.bad; rw [h3.out] at this; exact this
        subst hs3
        have hs4 : s4 = none := by have := h4.out; rw [show tR none = ([], none) from rfl] at this; simp at this; exact this.2.symm
        subst hs4
        have hfin : fs = none := by rw [← hfd.out]; split <;> rfl
        subst hfin
        obtain ⟨y0, y1, y2, yf⟩ := obj_cells E
        go_wp2_with fail
        refine (sText R).mono ?_
        rintro e w6 ⟨bv, rfl, O6, R6, K6⟩
        rw [show tR none = ([], none) from rfl] at O6 R6
        dsimp only at O6 R6
        have F6 := (K6.block _ (lt_of_block F) hr0).trans F
        have E6 := (K6.block _ (lt_of_block E) hr1).trans E
        have V6 := O.same (fun g hg => K6.block g (O.lt g hg).2 (by have := (O.lt g hg).1; omega))
        have hz6 := K.size
        replace O6 := O6.mono hz6
        replace K6 := K.trans K6
        obtain ⟨ba, bn, bc, rfl⟩ := O6.shape'
        clear R K E F O y0 y1 y2 yf hcell
        have E7 := obj_set2 E6 (.slice ba bn bc)
        have F7 := (heap_setCell_other w6 ⟨o1, 2, none⟩ w.heap.size (.slice ba bn bc) hr2).trans F6
        have S7 : Below w.heap.size w6 (w6.setCell ⟨o1, 2, none⟩ (.slice ba bn bc)) := below_setCell (Below.refl _ _) hr3
        have R7 := R6.keep' (w' := w6.setCell ⟨o1, 2, none⟩ (.slice ba bn bc)) (heap_setCell_other _ _ _ _ (Ne.symm hr1)) (R6.but.then_below (S7.mono hw0))
        have K7 := K6.then_below S7
        have O7 := O6.same (w' := w6.setCell ⟨o1, 2, none⟩ (.slice ba bn bc)) (fun g hg => heap_setCell_other _ _ _ _ (O6.ne E6 g hg))
        have V7 := V6.same (w' := w6.setCell ⟨o1, 2, none⟩ (.slice ba bn bc)) (fun g hg => heap_setCell_other _ _ _ _ (V6.ne E6 g hg))
        obtain ⟨a7, n7, c7, x7, C7, I7, ne7, hs7, hl7⟩ := R7.blk
        obtain ⟨d0, d1, df⟩ := sc_cells C7
        obtain ⟨y0, y1, y2, yf⟩ := obj_cells E6
        obtain ⟨q0, q1, q2, qf⟩ := obj_cells F7
        have C8 := sc_set1 C7 true
        have E8 := (heap_setCell_other (w6.setCell ⟨o1, 2, none⟩ (.slice ba bn bc)) ⟨b, 1, none⟩ o1 (.bool true) hr1).trans E7
        have F8 := (heap_setCell_other (w6.setCell ⟨o1, 2, none⟩ (.slice ba bn bc)) ⟨b, 1, none⟩ w.heap.size (.bool true) hr0).trans F7
        have O8 := O7.same (w' := (w6.setCell ⟨o1, 2, none⟩ (.slice ba bn bc)).setCell ⟨b, 1, none⟩ (.bool true)) (fun g hg => heap_setCell_other _ _ _ _ (by have := (O7.lt g hg).1; show g ≠ b; omega))
        have V8 := V7.same (w' := (w6.setCell ⟨o1, 2, none⟩ (.slice ba bn bc)).setCell ⟨b, 1, none⟩ (.bool true)) (fun g hg => heap_setCell_other _ _ _ _ (by have := (V7.lt g hg).1; show g ≠ b; omega))
        have K8 : But b w ((w6.setCell ⟨o1, 2, none⟩ (.slice ba bn bc)).setCell ⟨b, 1, none⟩ (.bool true)) := K7.trans But.set
        have T8 : But b w0 ((w6.setCell ⟨o1, 2, none⟩ (.slice ba bn bc)).setCell ⟨b, 1, none⟩ (.bool true)) := R7.but.trans But.set
        obtain ⟨p0, p1, p2, pf⟩ := obj_cells E7
        clear R6 K6 O6 V6 E6 F6 K7 O7 V7
        go_wp2
        clear y0 y1 y2 yf q0 q1 q2 qf d0 d1 df p0 p1 p2 pf
        have E9 := stO_blk F8 (c : Int) (.slice a n q) (.slice ba bn bc)
        obtain ⟨z0, z1, z2, zf⟩ := obj_cells E9
        exact bodyPost_ret (v := .agg #[.int .i64 (c : Int), .slice a n q, .slice ba bn bc]) (results_cell Try.results47 rfl (load27 z0 z1 z2)) rfl ⟨_, _, _, _, _, rfl, V8.same (fun g hg => stO_other (V8.ne F8 g hg) _ _ _), O8.same (fun g hg => stO_other (O8.ne F8 g hg) _ _ _), ⟨⟨a7, n7, c7, x7, (stO_other (Ne.symm hr0) _ _ _).trans C8, I7, ne7, (by intro ys e; cases e), hl7⟩, T8.then_below (stO_below (Below.refl _ _) hw0 _ _ _)⟩, K8.then_below (stO_below (Below.refl _ _) (Nat.le_refl _) _ _ _), ⟨by omega, by omega⟩, fun hx => absurd rfl hx⟩
      | some t0 =>
        have hne : (some t0 : Option (List Int)) ≠ none := by simp
        have hlti : (k : Int) < (N : Int) := by omega
        obtain ⟨o, t', ho⟩ : ∃ o t', Hid (bR 4 (some t0) = (o, t')) := ⟨_, _, rfl⟩
        have hkw : IntKind.u64.wrap ((k : Int) + 1) = (k : Int) + 1 := by rw [IntKind.wrap_u64]; omega
        obtain ⟨y0, y1, y2, yf⟩ := obj_cells E
        go_wp2_with fail
        refine (sByte R 4).mono ?_
        rintro e w2 ⟨rfl, R2, K2⟩
        rw [ho.out] at R2 ⊢
        dsimp only at R2 ⊢
        have F2 := (K2.block _ (lt_of_block F) hr0).trans F
        have E2 := (K2.block _ (lt_of_block E) hr1).trans E
        have O2 := O.same (fun g hg => K2.block g (O.lt g hg).2 (by have := (O.lt g hg).1; omega))
        replace K2 := K.trans K2
        have hb0 := R.byte
        have hor : 0 ≤ o ∧ o ≤ 4 := by
          cases t' with
          | none => have := bR_none ho.out; omega
          | some t =>
            have h5 := bR_some ho.out
            have h6 : oR (some t0) = (o, some t) := h5.1
            cases t0 with
            | nil => simp [oR] at h6
            | cons x tl =>
              simp [oR] at h6
              have := hb0 x (by simp)
              omega
        have how : IntKind.i64.wrap o = o := by rw [IntKind.wrap_i64]; omega
        clear R K E F O y0 y1 y2 yf hcell hb0
        have B3 : Below w2.heap.size w2 (w2.alloc (vO o 0)) := box_below
        have G3 := new1 w2 (vO o 0)
        have F3 := old1 F2 (vO o 0)
        have E3 := old1 E2 (vO o 0)
        have O3 := O2.below B3
        have R3 := R2.keep (B3.block b R2.lt) (But.of B3)
        have K3 : But b w (w2.alloc (vO o 0)) := K2.trans (But.of B3)
        have hgv : ∀ g, (Value.slice a n q).ownBlock = some g → g < w2.heap.size := fun g hg => (O2.lt g hg).2
        have hv0 : w.heap.size < w2.heap.size := lt_of_block F2
        have hv1 : o1 < w2.heap.size := lt_of_block E2
        have hvb : b < w2.heap.size := R2.lt
        unfold vO at F3 E3 O3 R3 K3 G3
        clear R2 K2 F2 E2 O2 B3
        by_cases h3x : o = 3
        · subst h3x
          obtain ⟨t, rfl⟩ : ∃ t, t' = some t := by
            cases t' with
            | none => have := bR_none ho.out; omega
            | some t => exact ⟨t, rfl⟩
          have hoR := (bR_some ho.out).1
          have hby := R3.byte
          obtain ⟨u, t2, hu⟩ : ∃ u t2, Hid (uR (some t) = (u, t2)) := ⟨_, _, rfl⟩
          have hul : u < 18446744073709551616 := by
            have := uR_lt (s := some t) hby
            rwa [hu.out] at this
          have huz := unzz_range (u : Int) (by omega) (by omega)
          obtain ⟨z, hz⟩ : ∃ z, Hid (unzz (u : Int) = z) := ⟨_, rfl⟩
          rw [hz.out] at huz
          have hst : Hid ((t2 = none ∧ (slotR (some t0)).2 = none) ∨ (∃ t, t2 = some t ∧ slotR (some t0) = ((3, z), some t))) := by
            have hsl : slotR (some t0) = ((3, unzz (u : Int)), t2) := by
              unfold slotR
              rw [hoR]
              dsimp only
              rw [if_neg (by omega), if_pos rfl, hu.out]
            rw [hz.out] at hsl
            cases t2 with
            | none => exact .inl ⟨rfl, by rw [hsl]⟩
            | some t2 => exact .inr ⟨t2, rfl, hsl⟩
          clear hoR ho
          go_wp2_with fail
          generalize w2.alloc (.cells #[.int .i64 3, .int .i64 0] 23) = w3 at *
          refine (sUint R3 18446744073709551615 18446744073709551615 rfl).mono ?_
          rintro e w4 ⟨rfl, R4, K4⟩
          rw [nR_max (s := some t) hby, hu.out] at R4 ⊢
          dsimp only at R4 ⊢
          have G4 := (K4.block w2.heap.size (lt_of_block G3) (by omega)).trans G3
          have F4 := (K4.block _ (lt_of_block F3) hr0).trans F3
          have E4 := (K4.block _ (lt_of_block E3) hr1).trans E3
          have O4 := O3.same (fun g hg => K4.block g (O3.lt g hg).2 (by have := (O3.lt g hg).1; omega))
          replace K4 := K3.trans K4
          clear R3 K3 F3 E3 O3 G3 hby
          replace G4 : w4.heap[w2.heap.size]? = some (vO 3 0) := G4
          go_wp2_with fail
          refine (runfold_any (u : Int) _ (by omega) (by omega)).mono ?_
          rintro e w4' ⟨rfl, rfl⟩
          rw [hz.out]
          obtain ⟨v0, v1, vf⟩ := v_cells G4
          have G5 := v_set1 G4 z
          have F5 := (heap_setCell_other w4' ⟨w2.heap.size, 1, none⟩ w.heap.size (.int .i64 z) (by show w.heap.size ≠ w2.heap.size; omega)).trans F4
          have E5 := (heap_setCell_other w4' ⟨w2.heap.size, 1, none⟩ o1 (.int .i64 z) (by show o1 ≠ w2.heap.size; omega)).trans E4
          have O5 := O4.same (w' := w4'.setCell ⟨w2.heap.size, 1, none⟩ (.int .i64 z)) (fun g hg => heap_setCell_other _ _ _ _ (by have := hgv g hg; show g ≠ w2.heap.size; omega))
          have S5 : Below w.heap.size w4' (w4'.setCell ⟨w2.heap.size, 1, none⟩ (.int .i64 z)) := below_setCell (Below.refl _ _) (by omega)
          have R5 := R4.keep' (w' := w4'.setCell ⟨w2.heap.size, 1, none⟩ (.int .i64 z)) (heap_setCell_other _ _ _ _ (by show b ≠ w2.heap.size; omega)) (R4.but.then_below (S5.mono hw0))
          have K5 := K4.then_below S5
          have X0 := R4.cell1
          obtain ⟨q0, q1, q2, qf⟩ := obj_cells E4
          clear R4 K4 E4 F4 O4 G4 S5
          have G4 := G5
          have F4 := F5
          have E4 := E5
          have O4 := O5
          have R4 := R5
          have K4 := K5
          clear G5 F5 E5 O5 R5 K5
          have B9 : Below (w4'.setCell ⟨w2.heap.size, 1, none⟩ (.int .i64 z)).heap.size (w4'.setCell ⟨w2.heap.size, 1, none⟩ (.int .i64 z)) ((w4'.setCell ⟨w2.heap.size, 1, none⟩ (.int .i64 z)).alloc (.cells #[.int .i64 3, .int .i64 z] 23)) := box_below
          have I9 := isV_lit (w4'.setCell ⟨w2.heap.size, 1, none⟩ (.int .i64 z)) 3 z (by omega) (by omega)
          rw [show (w4'.setCell ⟨w2.heap.size, 1, none⟩ (.int .i64 z)).heap.size = w4'.heap.size by simp] at I9
          have O9 := O4.below B9
          have K9 : But b w ((w4'.setCell ⟨w2.heap.size, 1, none⟩ (.int .i64 z)).alloc (.cells #[.int .i64 3, .int .i64 z] 23)) := K4.trans (But.of B9)
          have R9 := R4.keep (B9.block b R4.lt) (But.of B9)
          have E9 := old1 E4 (.cells #[.int .i64 3, .int .i64 z] 23)
          have F9 := old1 F4 (.cells #[.int .i64 3, .int .i64 z] 23)
          obtain ⟨x0, x1, xf⟩ := v_cells G4
          obtain ⟨y0, y1, y2, yf⟩ := obj_cells E4
          go_wp2_with (at_builtin; refine app_ownV2 _ rfl _ _ rfl w.heap.size _ vs rfl O9 _ _ _ _ rfl I9 (by omega) (by have := K9.size; omega) ?_)
          intro a5 n5 c5 w5 O5 gr5
          have B5 : Below w.heap.size ((w4'.setCell ⟨w2.heap.size, 1, none⟩ (.int .i64 z)).alloc (.cells #[.int .i64 3, .int .i64 z] 23)) w5 := (Below.refl _ _).grown gr5 K9.size (fun j hj => (O9.lt j hj).1)
          have E5 := (gr5.block o1 (lt_of_block E9) (fun e => own_ne O9.1 E9 (by decide) e.symm)).trans E9
          have F5 := (gr5.block w.heap.size (lt_of_block F9) (fun e => own_ne O9.1 F9 (by decide) e.symm)).trans F9
          have R5 := R9.keep' (w' := w5) (B5.block b hbw) (R9.but.then_below (B5.mono hw0))
          have K5 := K9.then_below B5
          have E6 := obj_set1 E5 (.slice a5 n5 c5)
          have F6 := (heap_setCell_other w5 ⟨o1, 1, none⟩ w.heap.size (.slice a5 n5 c5) hr2).trans F5
          have S6 : Below w.heap.size w5 (w5.setCell ⟨o1, 1, none⟩ (.slice a5 n5 c5)) := below_setCell (Below.refl _ _) hr3
          have R6 := R5.keep' (w' := w5.setCell ⟨o1, 1, none⟩ (.slice a5 n5 c5)) (heap_setCell_other _ _ _ _ (Ne.symm hr1)) (R5.but.then_below (S6.mono hw0))
          have K6 := K5.then_below S6
          have O6 := O5.same (w' := w5.setCell ⟨o1, 1, none⟩ (.slice a5 n5 c5)) (fun g hg => heap_setCell_other _ _ _ _ (O5.ne E5 g hg))
          clear O9 K9 R9 I9 B9 B5 E9 F9 x0 x1 xf y0 y1 y2 yf gr5
          obtain ⟨y0, y1, y2, yf⟩ := obj_cells E5
          clear E4 F4 R4 K4 O4 G4 O5 R5 K5 F5
          go_wp2
          clear y0 y1 y2 yf
          go_roundw
          case rel => exact ⟨k + 1, a5, n5, c5, vs ++ [(3, z)], _, by omega, by go_num, E6, F6, O6, by simp [hvl], R6, K6, hI.step hlt hne hst.out⟩
          case measure => simp [intOf]; omega
        by_cases h4x : o = 4
        · subst h4x
          obtain ⟨t, rfl⟩ : ∃ t, t' = some t := by
            cases t' with
            | none => have := bR_none ho.out; omega
            | some t => exact ⟨t, rfl⟩
          have hoR := (bR_some ho.out).1
          obtain ⟨u, t2, hu⟩ : ∃ u t2, Hid (nR 4096 (some t) = (u, t2)) := ⟨_, _, rfl⟩
          have hul : u ≤ 4096 := by
            have := nR_le (most := 4096) (s := some t)
            rwa [hu.out] at this
          obtain ⟨z, hz⟩ : ∃ z, Hid ((u : Int) = z) := ⟨_, rfl⟩
          have huz : 0 ≤ z ∧ z ≤ 4096 := by have := hz.out; omega
          have hst : Hid ((t2 = none ∧ (slotR (some t0)).2 = none) ∨ (∃ t, t2 = some t ∧ slotR (some t0) = ((4, z), some t))) := by
            have hsl : slotR (some t0) = ((4, (u : Int)), t2) := by
              unfold slotR
              rw [hoR]
              dsimp only
              rw [if_neg (by omega), if_neg (by omega), if_pos rfl, hu.out]
            rw [hz.out] at hsl
            cases t2 with
            | none => exact .inl ⟨rfl, by rw [hsl]⟩
            | some t2 => exact .inr ⟨t2, rfl, hsl⟩
          have huw : IntKind.i64.wrap z = z := by rw [IntKind.wrap_i64]; omega
          clear hoR ho h3x
          go_wp2_with fail
          generalize w2.alloc (.cells #[.int .i64 4, .int .i64 0] 23) = w3 at *
          refine (sUint R3 4096 4096 rfl).mono ?_
          rintro e w4' ⟨rfl, R4, K4⟩
          rw [hu.out] at R4 ⊢
          dsimp only at R4 ⊢
          have G4 := (K4.block w2.heap.size (lt_of_block G3) (by omega)).trans G3
          have F4 := (K4.block _ (lt_of_block F3) hr0).trans F3
          have E4 := (K4.block _ (lt_of_block E3) hr1).trans E3
          have O4 := O3.same (fun g hg => K4.block g (O3.lt g hg).2 (by have := (O3.lt g hg).1; omega))
          replace K4 := K3.trans K4
          clear R3 K3 F3 E3 O3 G3
          replace G4 : w4'.heap[w2.heap.size]? = some (vO 4 0) := G4
          rw [hz.out]
          obtain ⟨v0, v1, vf⟩ := v_cells G4
          have G5 := v_set1 G4 z
          have F5 := (heap_setCell_other w4' ⟨w2.heap.size, 1, none⟩ w.heap.size (.int .i64 z) (by show w.heap.size ≠ w2.heap.size; omega)).trans F4
          have E5 := (heap_setCell_other w4' ⟨w2.heap.size, 1, none⟩ o1 (.int .i64 z) (by show o1 ≠ w2.heap.size; omega)).trans E4
          have O5 := O4.same (w' := w4'.setCell ⟨w2.heap.size, 1, none⟩ (.int .i64 z)) (fun g hg => heap_setCell_other _ _ _ _ (by have := hgv g hg; show g ≠ w2.heap.size; omega))
          have S5 : Below w.heap.size w4' (w4'.setCell ⟨w2.heap.size, 1, none⟩ (.int .i64 z)) := below_setCell (Below.refl _ _) (by omega)
          have R5 := R4.keep' (w' := w4'.setCell ⟨w2.heap.size, 1, none⟩ (.int .i64 z)) (heap_setCell_other _ _ _ _ (by show b ≠ w2.heap.size; omega)) (R4.but.then_below (S5.mono hw0))
          have K5 := K4.then_below S5
          have X0 := R4.cell1
          obtain ⟨q0, q1, q2, qf⟩ := obj_cells E4
          clear R4 K4 E4 F4 O4 G4 S5
          have G4 := G5
          have F4 := F5
          have E4 := E5
          have O4 := O5
          have R4 := R5
          have K4 := K5
          clear G5 F5 E5 O5 R5 K5
          have B9 : Below (w4'.setCell ⟨w2.heap.size, 1, none⟩ (.int .i64 z)).heap.size (w4'.setCell ⟨w2.heap.size, 1, none⟩ (.int .i64 z)) ((w4'.setCell ⟨w2.heap.size, 1, none⟩ (.int .i64 z)).alloc (.cells #[.int .i64 4, .int .i64 z] 23)) := box_below
          have I9 := isV_lit (w4'.setCell ⟨w2.heap.size, 1, none⟩ (.int .i64 z)) 4 z (by omega) (by omega)
          rw [show (w4'.setCell ⟨w2.heap.size, 1, none⟩ (.int .i64 z)).heap.size = w4'.heap.size by simp] at I9
          have O9 := O4.below B9
          have K9 : But b w ((w4'.setCell ⟨w2.heap.size, 1, none⟩ (.int .i64 z)).alloc (.cells #[.int .i64 4, .int .i64 z] 23)) := K4.trans (But.of B9)
          have R9 := R4.keep (B9.block b R4.lt) (But.of B9)
          have E9 := old1 E4 (.cells #[.int .i64 4, .int .i64 z] 23)
          have F9 := old1 F4 (.cells #[.int .i64 4, .int .i64 z] 23)
          obtain ⟨x0, x1, xf⟩ := v_cells G4
          obtain ⟨y0, y1, y2, yf⟩ := obj_cells E4
          go_wp2_with (at_builtin; refine app_ownV2 _ rfl _ _ rfl w.heap.size _ vs rfl O9 _ _ _ _ rfl I9 (by omega) (by have := K9.size; omega) ?_)
          intro a5 n5 c5 w5 O5 gr5
          have B5 : Below w.heap.size ((w4'.setCell ⟨w2.heap.size, 1, none⟩ (.int .i64 z)).alloc (.cells #[.int .i64 4, .int .i64 z] 23)) w5 := (Below.refl _ _).grown gr5 K9.size (fun j hj => (O9.lt j hj).1)
          have E5 := (gr5.block o1 (lt_of_block E9) (fun e => own_ne O9.1 E9 (by decide) e.symm)).trans E9
          have F5 := (gr5.block w.heap.size (lt_of_block F9) (fun e => own_ne O9.1 F9 (by decide) e.symm)).trans F9
          have R5 := R9.keep' (w' := w5) (B5.block b hbw) (R9.but.then_below (B5.mono hw0))
          have K5 := K9.then_below B5
          have E6 := obj_set1 E5 (.slice a5 n5 c5)
          have F6 := (heap_setCell_other w5 ⟨o1, 1, none⟩ w.heap.size (.slice a5 n5 c5) hr2).trans F5
          have S6 : Below w.heap.size w5 (w5.setCell ⟨o1, 1, none⟩ (.slice a5 n5 c5)) := below_setCell (Below.refl _ _) hr3
          have R6 := R5.keep' (w' := w5.setCell ⟨o1, 1, none⟩ (.slice a5 n5 c5)) (heap_setCell_other _ _ _ _ (Ne.symm hr1)) (R5.but.then_below (S6.mono hw0))
          have K6 := K5.then_below S6
          have O6 := O5.same (w' := w5.setCell ⟨o1, 1, none⟩ (.slice a5 n5 c5)) (fun g hg => heap_setCell_other _ _ _ _ (O5.ne E5 g hg))
          clear O9 K9 R9 I9 B9 B5 E9 F9 x0 x1 xf y0 y1 y2 yf gr5
          obtain ⟨y0, y1, y2, yf⟩ := obj_cells E5
          clear E4 F4 R4 K4 O4 G4 O5 R5 K5 F5
          go_wp2
          clear y0 y1 y2 yf
          go_roundw
          case rel => exact ⟨k + 1, a5, n5, c5, vs ++ [(4, z)], _, by omega, by go_num, E6, F6, O6, by simp [hvl], R6, K6, hI.step hlt hne hst.out⟩
          case measure => simp [intOf]; omega
        have b3 : (o == 3) = false := by simp; omega
        have b4 : (o == 4) = false := by simp; omega
        have hst : Hid ((t' = none ∧ (slotR (some t0)).2 = none) ∨ (∃ t, t' = some t ∧ slotR (some t0) = ((o, 0), some t))) := by
          cases t' with
          | none => exact .inl ⟨rfl, (bR_none ho.out).2⟩
          | some t =>
            refine .inr ⟨t, rfl, ?_⟩
            have h5 := (bR_some ho.out).1
            unfold slotR
            rw [h5]
            dsimp only
            rw [if_pos (by omega)]
        clear ho h3x h4x
        have G4 := G3
        have F4 := F3
        have E4 := E3
        have O4 := O3
        have R4 := R3
        have K4 := K3
        clear F3 E3 O3 R3 K3 G3
        have B9 : Below (w2.alloc (.cells #[.int .i64 o, .int .i64 0] 23)).heap.size (w2.alloc (.cells #[.int .i64 o, .int .i64 0] 23)) ((w2.alloc (.cells #[.int .i64 o, .int .i64 0] 23)).alloc (.cells #[.int .i64 o, .int .i64 0] 23)) := box_below
        have I9 := isV_lit (w2.alloc (.cells #[.int .i64 o, .int .i64 0] 23)) o 0 (by omega) (by omega)
        rw [size1] at I9
        have O9 := O4.below B9
        have K9 : But b w ((w2.alloc (.cells #[.int .i64 o, .int .i64 0] 23)).alloc (.cells #[.int .i64 o, .int .i64 0] 23)) := K4.trans (But.of B9)
        have R9 := R4.keep (B9.block b R4.lt) (But.of B9)
        have E9 := old1 E4 (.cells #[.int .i64 o, .int .i64 0] 23)
        have F9 := old1 F4 (.cells #[.int .i64 o, .int .i64 0] 23)
        obtain ⟨x0, x1, xf⟩ := v_cells G4
        obtain ⟨y0, y1, y2, yf⟩ := obj_cells E4
        go_wp2_with (at_builtin; refine app_ownV2 _ rfl _ _ rfl w.heap.size _ vs rfl O9 _ _ _ _ rfl I9 (by omega) (by have := K9.size; omega) ?_)
        intro a5 n5 c5 w5 O5 gr5
        have B5 : Below w.heap.size ((w2.alloc (.cells #[.int .i64 o, .int .i64 0] 23)).alloc (.cells #[.int .i64 o, .int .i64 0] 23)) w5 := (Below.refl _ _).grown gr5 K9.size (fun j hj => (O9.lt j hj).1)
        have E5 := (gr5.block o1 (lt_of_block E9) (fun e => own_ne O9.1 E9 (by decide) e.symm)).trans E9
        have F5 := (gr5.block w.heap.size (lt_of_block F9) (fun e => own_ne O9.1 F9 (by decide) e.symm)).trans F9
        have R5 := R9.keep' (w' := w5) (B5.block b hbw) (R9.but.then_below (B5.mono hw0))
        have K5 := K9.then_below B5
        have E6 := obj_set1 E5 (.slice a5 n5 c5)
        have F6 := (heap_setCell_other w5 ⟨o1, 1, none⟩ w.heap.size (.slice a5 n5 c5) hr2).trans F5
        have S6 : Below w.heap.size w5 (w5.setCell ⟨o1, 1, none⟩ (.slice a5 n5 c5)) := below_setCell (Below.refl _ _) hr3
        have R6 := R5.keep' (w' := w5.setCell ⟨o1, 1, none⟩ (.slice a5 n5 c5)) (heap_setCell_other _ _ _ _ (Ne.symm hr1)) (R5.but.then_below (S6.mono hw0))
        have K6 := K5.then_below S6
        have O6 := O5.same (w' := w5.setCell ⟨o1, 1, none⟩ (.slice a5 n5 c5)) (fun g hg => heap_setCell_other _ _ _ _ (O5.ne E5 g hg))
        clear O9 K9 R9 I9 B9 B5 E9 F9 x0 x1 xf y0 y1 y2 yf gr5
        obtain ⟨y0, y1, y2, yf⟩ := obj_cells E5
        clear E4 F4 R4 K4 O4 G4 O5 R5 K5 F5
        go_wp2
        clear y0 y1 y2 yf
        go_roundw
        case rel => exact ⟨k + 1, a5, n5, c5, vs ++ [(o, 0)], _, by omega, by go_num, E6, F6, O6, by simp [hvl], R6, K6, hI.step hlt hne hst.out⟩
        case measure => simp [intOf]; omega
    · have hk2 : k = N := by omega
      subst hk2
      cases s' with
      | none =>
        have hs3 : s3 = none := by have := hI.bad; rw [h3.out] at this; exact this
        subst hs3
        have hs4 : s4 = none := by have := h4.out; rw [show tR none = ([], none) from rfl] at this; simp at this; exact this.2.symm
        subst hs4
        have hfin : fs = none := by rw [← hfd.out]; split <;> rfl
        subst hfin
        obtain ⟨y0, y1, y2, yf⟩ := obj_cells E
        go_wp2_with fail
        refine (sText R).mono ?_
        rintro e w6 ⟨bv, rfl, O6, R6, K6⟩
        rw [show tR none = ([], none) from rfl] at O6 R6
        dsimp only at O6 R6
        have F6 := (K6.block _ (lt_of_block F) hr0).trans F
        have E6 := (K6.block _ (lt_of_block E) hr1).trans E
        have V6 := O.same (fun g hg => K6.block g (O.lt g hg).2 (by have := (O.lt g hg).1; omega))
        have hz6 := K.size
        replace O6 := O6.mono hz6
        replace K6 := K.trans K6
        obtain ⟨ba, bn, bc, rfl⟩ := O6.shape'
        clear R K E F O y0 y1 y2 yf hcell
        have E7 := obj_set2 E6 (.slice ba bn bc)
        have F7 := (heap_setCell_other w6 ⟨o1, 2, none⟩ w.heap.size (.slice ba bn bc) hr2).trans F6
        have S7 : Below w.heap.size w6 (w6.setCell ⟨o1, 2, none⟩ (.slice ba bn bc)) := below_setCell (Below.refl _ _) hr3
        have R7 := R6.keep' (w' := w6.setCell ⟨o1, 2, none⟩ (.slice ba bn bc)) (heap_setCell_other _ _ _ _ (Ne.symm hr1)) (R6.but.then_below (S7.mono hw0))
        have K7 := K6.then_below S7
        have O7 := O6.same (w' := w6.setCell ⟨o1, 2, none⟩ (.slice ba bn bc)) (fun g hg => heap_setCell_other _ _ _ _ (O6.ne E6 g hg))
        have V7 := V6.same (w' := w6.setCell ⟨o1, 2, none⟩ (.slice ba bn bc)) (fun g hg => heap_setCell_other _ _ _ _ (V6.ne E6 g hg))
        obtain ⟨a7, n7, c7, x7, C7, I7, ne7, hs7, hl7⟩ := R7.blk
        obtain ⟨d0, d1, df⟩ := sc_cells C7
        obtain ⟨y0, y1, y2, yf⟩ := obj_cells E6
        obtain ⟨q0, q1, q2, qf⟩ := obj_cells F7
        have C8 := sc_set1 C7 true
        have E8 := (heap_setCell_other (w6.setCell ⟨o1, 2, none⟩ (.slice ba bn bc)) ⟨b, 1, none⟩ o1 (.bool true) hr1).trans E7
        have F8 := (heap_setCell_other (w6.setCell ⟨o1, 2, none⟩ (.slice ba bn bc)) ⟨b, 1, none⟩ w.heap.size (.bool true) hr0).trans F7
        have O8 := O7.same (w' := (w6.setCell ⟨o1, 2, none⟩ (.slice ba bn bc)).setCell ⟨b, 1, none⟩ (.bool true)) (fun g hg => heap_setCell_other _ _ _ _ (by have := (O7.lt g hg).1; show g ≠ b; omega))
        have V8 := V7.same (w' := (w6.setCell ⟨o1, 2, none⟩ (.slice ba bn bc)).setCell ⟨b, 1, none⟩ (.bool true)) (fun g hg => heap_setCell_other _ _ _ _ (by have := (V7.lt g hg).1; show g ≠ b; omega))
        have K8 : But b w ((w6.setCell ⟨o1, 2, none⟩ (.slice ba bn bc)).setCell ⟨b, 1, none⟩ (.bool true)) := K7.trans But.set
        have T8 : But b w0 ((w6.setCell ⟨o1, 2, none⟩ (.slice ba bn bc)).setCell ⟨b, 1, none⟩ (.bool true)) := R7.but.trans But.set
        obtain ⟨p0, p1, p2, pf⟩ := obj_cells E7
        clear R6 K6 O6 V6 E6 F6 K7 O7 V7
        go_wp2
        clear y0 y1 y2 yf q0 q1 q2 qf d0 d1 df p0 p1 p2 pf
        have E9 := stO_blk F8 (c : Int) (.slice a n q) (.slice ba bn bc)
        obtain ⟨z0, z1, z2, zf⟩ := obj_cells E9
        exact bodyPost_ret (v := .agg #[.int .i64 (c : Int), .slice a n q, .slice ba bn bc]) (results_cell Try.results47 rfl (load27 z0 z1 z2)) rfl ⟨_, _, _, _, _, rfl, V8.same (fun g hg => stO_other (V8.ne F8 g hg) _ _ _), O8.same (fun g hg => stO_other (O8.ne F8 g hg) _ _ _), ⟨⟨a7, n7, c7, x7, (stO_other (Ne.symm hr0) _ _ _).trans C8, I7, ne7, (by intro ys e; cases e), hl7⟩, T8.then_below (stO_below (Below.refl _ _) hw0 _ _ _)⟩, K8.then_below (stO_below (Below.refl _ _) (Nat.le_refl _) _ _ _), ⟨by omega, by omega⟩, fun hx => absurd rfl hx⟩
      | some t0 =>
        have hdn := hI.done (by simp)
        rw [h3.out] at hdn
        simp only [Prod.mk.injEq] at hdn
        obtain ⟨rfl, rfl⟩ := hdn
        obtain ⟨y0, y1, y2, yf⟩ := obj_cells E
        go_wp2_with fail
        refine (sText R).mono ?_
        rintro e w6 ⟨bv, rfl, O6, R6, K6⟩
        rw [h4.out] at O6 R6
        dsimp only at O6 R6
        have F6 := (K6.block _ (lt_of_block F) hr0).trans F
        have E6 := (K6.block _ (lt_of_block E) hr1).trans E
        have V6 := O.same (fun g hg => K6.block g (O.lt g hg).2 (by have := (O.lt g hg).1; omega))
        have hz6 := K.size
        replace O6 := O6.mono hz6
        replace K6 := K.trans K6
        obtain ⟨ba, bn, bc, rfl⟩ := O6.shape'
        clear R K E F O y0 y1 y2 yf hcell
        cases s4 with
        | none =>
          have hfin : fs = none := by rw [← hfd.out]; split <;> rfl
          subst hfin
          have E7 := obj_set2 E6 (.slice ba bn bc)
          have F7 := (heap_setCell_other w6 ⟨o1, 2, none⟩ w.heap.size (.slice ba bn bc) hr2).trans F6
          have S7 : Below w.heap.size w6 (w6.setCell ⟨o1, 2, none⟩ (.slice ba bn bc)) := below_setCell (Below.refl _ _) hr3
          have R7 := R6.keep' (w' := w6.setCell ⟨o1, 2, none⟩ (.slice ba bn bc)) (heap_setCell_other _ _ _ _ (Ne.symm hr1)) (R6.but.then_below (S7.mono hw0))
          have K7 := K6.then_below S7
          have O7 := O6.same (w' := w6.setCell ⟨o1, 2, none⟩ (.slice ba bn bc)) (fun g hg => heap_setCell_other _ _ _ _ (O6.ne E6 g hg))
          have V7 := V6.same (w' := w6.setCell ⟨o1, 2, none⟩ (.slice ba bn bc)) (fun g hg => heap_setCell_other _ _ _ _ (V6.ne E6 g hg))
          obtain ⟨a7, n7, c7, x7, C7, I7, ne7, hs7, hl7⟩ := R7.blk
          obtain ⟨d0, d1, df⟩ := sc_cells C7
          obtain ⟨y0, y1, y2, yf⟩ := obj_cells E6
          obtain ⟨q0, q1, q2, qf⟩ := obj_cells F7
          have C8 := sc_set1 C7 true
          have E8 := (heap_setCell_other (w6.setCell ⟨o1, 2, none⟩ (.slice ba bn bc)) ⟨b, 1, none⟩ o1 (.bool true) hr1).trans E7
          have F8 := (heap_setCell_other (w6.setCell ⟨o1, 2, none⟩ (.slice ba bn bc)) ⟨b, 1, none⟩ w.heap.size (.bool true) hr0).trans F7
          have O8 := O7.same (w' := (w6.setCell ⟨o1, 2, none⟩ (.slice ba bn bc)).setCell ⟨b, 1, none⟩ (.bool true)) (fun g hg => heap_setCell_other _ _ _ _ (by have := (O7.lt g hg).1; show g ≠ b; omega))
          have V8 := V7.same (w' := (w6.setCell ⟨o1, 2, none⟩ (.slice ba bn bc)).setCell ⟨b, 1, none⟩ (.bool true)) (fun g hg => heap_setCell_other _ _ _ _ (by have := (V7.lt g hg).1; show g ≠ b; omega))
          have K8 : But b w ((w6.setCell ⟨o1, 2, none⟩ (.slice ba bn bc)).setCell ⟨b, 1, none⟩ (.bool true)) := K7.trans But.set
          have T8 : But b w0 ((w6.setCell ⟨o1, 2, none⟩ (.slice ba bn bc)).setCell ⟨b, 1, none⟩ (.bool true)) := R7.but.trans But.set
          obtain ⟨p0, p1, p2, pf⟩ := obj_cells E7
          clear R6 K6 O6 V6 E6 F6 K7 O7 V7
          go_wp2
          clear y0 y1 y2 yf q0 q1 q2 qf d0 d1 df p0 p1 p2 pf
          have E9 := stO_blk F8 (c : Int) (.slice a n q) (.slice ba bn bc)
          obtain ⟨z0, z1, z2, zf⟩ := obj_cells E9
          exact bodyPost_ret (v := .agg #[.int .i64 (c : Int), .slice a n q, .slice ba bn bc]) (results_cell Try.results47 rfl (load27 z0 z1 z2)) rfl ⟨_, _, _, _, _, rfl, V8.same (fun g hg => stO_other (V8.ne F8 g hg) _ _ _), O8.same (fun g hg => stO_other (O8.ne F8 g hg) _ _ _), ⟨⟨a7, n7, c7, x7, (stO_other (Ne.symm hr0) _ _ _).trans C8, I7, ne7, (by intro ys e; cases e), hl7⟩, T8.then_below (stO_below (Below.refl _ _) hw0 _ _ _)⟩, K8.then_below (stO_below (Below.refl _ _) (Nat.le_refl _) _ _ _), ⟨by omega, by omega⟩, fun hx => absurd rfl hx⟩
        | some r4 =>
          have E7 := obj_set2 E6 (.slice ba bn bc)
          have F7 := (heap_setCell_other w6 ⟨o1, 2, none⟩ w.heap.size (.slice ba bn bc) hr2).trans F6
          have S7 : Below w.heap.size w6 (w6.setCell ⟨o1, 2, none⟩ (.slice ba bn bc)) := below_setCell (Below.refl _ _) hr3
          have R7 := R6.keep' (w' := w6.setCell ⟨o1, 2, none⟩ (.slice ba bn bc)) (heap_setCell_other _ _ _ _ (Ne.symm hr1)) (R6.but.then_below (S7.mono hw0))
          have K7 := K6.then_below S7
          have O7 := O6.same (w' := w6.setCell ⟨o1, 2, none⟩ (.slice ba bn bc)) (fun g hg => heap_setCell_other _ _ _ _ (O6.ne E6 g hg))
          have V7 := V6.same (w' := w6.setCell ⟨o1, 2, none⟩ (.slice ba bn bc)) (fun g hg => heap_setCell_other _ _ _ _ (V6.ne E6 g hg))
          obtain ⟨a7, n7, c7, x7, C7, I7, ne7, hs7, hl7⟩ := R7.blk
          obtain ⟨d0, d1, df⟩ := sc_cells C7
          obtain ⟨y0, y1, y2, yf⟩ := obj_cells E6
          obtain ⟨q0, q1, q2, qf⟩ := obj_cells F7
          obtain ⟨p0, p1, p2, pf⟩ := obj_cells E7
          have hbn : ds.length = bn := O7.isB.size
          have hbm : bn ≤ maxLen := Nat.le_trans O7.isB.room O7.isB.most
          clear R6 K6 O6 V6 E6 F6
          go_wp2_with fail
          refine (rrightObj_any (c : Int) V7.isV hbm).mono ?_
          rintro e w8 ⟨rfl, B8⟩
          have E8 := (B8.block _ (lt_of_block E7)).trans E7
          have F8 := (B8.block _ (lt_of_block F7)).trans F7
          have C8 := (B8.block _ (lt_of_block C7)).trans C7
          have V8 := V7.below B8
          have O8 := O7.below B8
          have K8 := K7.trans (But.of B8)
          have T8 := R7.but.trans (But.of B8)
          clear y0 y1 y2 yf q0 q1 q2 qf d0 d1 df p0 p1 p2 pf E7 F7 C7 V7 O7 K7 R7 S7 B8
          rw [hbn] at hfd
          obtain ⟨y0, y1, y2, yf⟩ := obj_cells E8
          obtain ⟨q0, q1, q2, qf⟩ := obj_cells F8
          obtain ⟨d0, d1, df⟩ := sc_cells C8
          cases hok : okO (c : Int) us bn with
          | false =>
            have hfin : fs = none := by rw [← hfd.out, hok]; rfl
            subst hfin
            have C9 := sc_set1 C8 true
            have E9 := (heap_setCell_other w8 ⟨b, 1, none⟩ o1 (.bool true) hr1).trans E8
            have F9 := (heap_setCell_other w8 ⟨b, 1, none⟩ w.heap.size (.bool true) hr0).trans F8
            have O9 := O8.same (w' := w8.setCell ⟨b, 1, none⟩ (.bool true)) (fun g hg => heap_setCell_other _ _ _ _ (by have := (O8.lt g hg).1; show g ≠ b; omega))
            have V9 := V8.same (w' := w8.setCell ⟨b, 1, none⟩ (.bool true)) (fun g hg => heap_setCell_other _ _ _ _ (by have := (V8.lt g hg).1; show g ≠ b; omega))
            have K9 : But b w (w8.setCell ⟨b, 1, none⟩ (.bool true)) := K8.trans But.set
            have T9 : But b w0 (w8.setCell ⟨b, 1, none⟩ (.bool true)) := T8.trans But.set
            go_wp2
            clear y0 y1 y2 yf q0 q1 q2 qf d0 d1 df
            have L9 := stO_blk F9 (c : Int) (.slice a n q) (.slice ba bn bc)
            obtain ⟨z0, z1, z2, zf⟩ := obj_cells L9
            exact bodyPost_ret (v := .agg #[.int .i64 (c : Int), .slice a n q, .slice ba bn bc]) (results_cell Try.results47 rfl (load27 z0 z1 z2)) rfl ⟨_, _, _, _, _, rfl, V9.same (fun g hg => stO_other (V9.ne F9 g hg) _ _ _), O9.same (fun g hg => stO_other (O9.ne F9 g hg) _ _ _), ⟨⟨a7, n7, c7, x7, (stO_other (Ne.symm hr0) _ _ _).trans C9, I7, ne7, (by intro ys e; cases e), hl7⟩, T9.then_below (stO_below (Below.refl _ _) hw0 _ _ _)⟩, K9.then_below (stO_below (Below.refl _ _) (Nat.le_refl _) _ _ _), ⟨by omega, by omega⟩, fun hx => absurd rfl hx⟩
          | true =>
            have hfin : fs = some r4 := by rw [← hfd.out, hok]; rfl
            subst hfin
            have C9 := sc_set1 C8 false
            have E9 := (heap_setCell_other w8 ⟨b, 1, none⟩ o1 (.bool false) hr1).trans E8
            have F9 := (heap_setCell_other w8 ⟨b, 1, none⟩ w.heap.size (.bool false) hr0).trans F8
            have O9 := O8.same (w' := w8.setCell ⟨b, 1, none⟩ (.bool false)) (fun g hg => heap_setCell_other _ _ _ _ (by have := (O8.lt g hg).1; show g ≠ b; omega))
            have V9 := V8.same (w' := w8.setCell ⟨b, 1, none⟩ (.bool false)) (fun g hg => heap_setCell_other _ _ _ _ (by have := (V8.lt g hg).1; show g ≠ b; omega))
            have K9 : But b w (w8.setCell ⟨b, 1, none⟩ (.bool false)) := K8.trans But.set
            have T9 : But b w0 (w8.setCell ⟨b, 1, none⟩ (.bool false)) := T8.trans But.set
            go_wp2
            clear y0 y1 y2 yf q0 q1 q2 qf d0 d1 df
            have L9 := stO_blk F9 (c : Int) (.slice a n q) (.slice ba bn bc)
            obtain ⟨z0, z1, z2, zf⟩ := obj_cells L9
            exact bodyPost_ret (v := .agg #[.int .i64 (c : Int), .slice a n q, .slice ba bn bc]) (results_cell Try.results47 rfl (load27 z0 z1 z2)) rfl ⟨_, _, _, _, _, rfl, V9.same (fun g hg => stO_other (V9.ne F9 g hg) _ _ _), O9.same (fun g hg => stO_other (O9.ne F9 g hg) _ _ _), ⟨⟨a7, n7, c7, x7, (stO_other (Ne.symm hr0) _ _ _).trans C9, I7, ne7, hs7, hl7⟩, T9.then_below (stO_below (Below.refl _ _) hw0 _ _ _)⟩, K9.then_below (stO_below (Below.refl _ _) (Nat.le_refl _) _ _ _), ⟨by omega, by omega⟩, fun _ => ⟨rfl, rfl, rfl⟩⟩
end Go.Proofs.Ytjfaflmmanjjbaa
