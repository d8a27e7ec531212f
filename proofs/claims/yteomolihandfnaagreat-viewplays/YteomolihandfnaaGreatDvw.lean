/- The document's view in memory: find, Read. -/
import Derived.Test.YteomolihandfnaaGreatRat
import Derived.Test.YteomolihandfnaaGreatSpl
namespace Go.Proofs.YteomolihandfnaaGreat
open Go.RowKit
set_option maxRecDepth 100000
structure Dv where
  c : Int
  l : List Ch
  rd : Nat → Bool
  n : Int
def dvB (ub : Nat) (c : Int) (l r : Value) (n : Int) : Obj := .cells #[.pointer (some ⟨ub, 0, none⟩), .int .i64 c, l, r, .int .i64 n] 64 (0, 0)
theorem dv_cells {w : World} {b ub : Nat} {c n : Int} {l r : Value} (h : w.heap[b]? = some (dvB ub c l r n)) : w.cell? ⟨b, 0, none⟩ = some (.pointer (some ⟨ub, 0, none⟩)) ∧ w.cell? ⟨b, 1, none⟩ = some (.int .i64 c) ∧ w.cell? ⟨b, 2, none⟩ = some l ∧ w.cell? ⟨b, 3, none⟩ = some r ∧ w.cell? ⟨b, 4, none⟩ = some (.int .i64 n) := by
  unfold dvB at h
  refine ⟨?_, ?_, ?_, ?_, ?_⟩ <;> rw [cell_of_row w b _ _ _ _ h] <;> rfl
/-- The row of what was read. -/
structure RdR (w : World) (rb : Nat) (rd : Nat → Bool) : Prop where
  row : ∃ cur, w.heap[rb]? = some (.cells cur 4 (0, 0)) ∧ cur.size = 4097 ∧ ∀ k, k < 4097 → cur[k]? = some (.bool (rd k))
theorem RdR.at_ {w : World} {rb : Nat} {rd : Nat → Bool} (h : RdR w rb rd) {k : Nat} (hk : k < 4097) : w.cell? ⟨rb, k, none⟩ = some (.bool (rd k)) ∧ w.frozen? ⟨rb, k, none⟩ = false := by
  obtain ⟨cur, h1, h2, h3⟩ := h.row
  exact ⟨by rw [cell_of_row w rb _ _ _ _ h1]; exact h3 k hk, frozen_of_row w rb k _ _ h1⟩
theorem RdR.set {w : World} {rb : Nat} {rd : Nat → Bool} (h : RdR w rb rd) (k : Nat) : RdR (w.setCell ⟨rb, k, none⟩ (.bool true)) rb (fun i => rd i || decide (i = k)) := by
  obtain ⟨cur, h1, h2, h3⟩ := h.row
  refine ⟨_, heap_setCell_same w rb k _ _ _ h1, by simpa using h2, fun i hi => ?_⟩
  by_cases e : i = k
  · subst e
    simp [h2, hi]
  · rw [Array.getElem?_setIfInBounds_ne (fun q => e q.symm), h3 i hi]
    simp [e]
/-- The document's view. -/
structure Db (w : World) (X : Nat → Prop) (b ub : Nat) (v : Dv) : Prop where
  blk : ∃ lv rb, w.heap[b]? = some (dvB ub v.c lv (.slice (some ⟨rb, 0, none⟩) 4097 4097) v.n) ∧ ChT w (fun g => X g ∧ g ≠ rb ∧ g ≠ b) lv v.l ∧ RdR w rb v.rd ∧ X rb ∧ rb ≠ b
  own : X b
  lt : ∀ g, X g → g < w.heap.size
  few : v.l.length ≤ 8192
set_option maxHeartbeats 2000000 in
theorem dfind_any {w : World} {X : Nat → Prop} {b ub : Nat} {v : Dv} (h : Db w X b ub v) (k : Int) :
    Calls Tryz.prog 42 #[.pointer (some ⟨b, 0, none⟩), .int .i64 k] w fun e w' => e = .returned (.int .i64 (findI v.l k)) ∧ w = w' := by
  obtain ⟨lv, rb, hblk, hL, _, _, _⟩ := h.blk
  obtain ⟨a, n, c, rfl, hn0⟩ := hL.shape
  have hsz : Hid (v.l.length = n) := hn0.symm
  have hnn : n ≤ 8192 := by have := h.few; omega
  have hC := hL.ownC.isC
  obtain ⟨x0, x1, x2, x3, x4⟩ := dv_cells hblk
  clear hblk hL hn0 h
  obtain ⟨xs, hxs⟩ : ∃ xs, xs = v.l := ⟨_, rfl⟩
  rw [← hxs] at hC hsz ⊢
  clear hxs
  go_enter Tryz.func42, Tryz.ntmps42
  go_wp2
  go_loopw [5] (fun iv wr => ∃ j : Nat, j ≤ n ∧ iv = .int .i64 (j : Int) ∧ wr = w ∧ Hid (∀ i y, i < j → xs[i]? = some y → y.oop ≠ k)) (fun iv _ => n - (intOf iv).toNat)
  case atStart => exact ⟨0, by omega, rfl, rfl, fun i y hi => by omega⟩
  case round =>
    obtain ⟨j, hj, rfl, rfl, hno⟩ := hrel
    by_cases hlt : j < n
    · obtain ⟨cb, off, x, rfl, hb, hx, ⟨sa, sn, sc, ba, bn, bc, c0, _⟩, hw⟩ := hC.at_ j hlt
      have hji : (j : Int) < (n : Int) := by omega
      by_cases he : x.oop = k
      · have hf : Hid (findI xs k = (j : Int)) := findI_some hx.out he hno.out
        go_wp2
        go_ret
        exact ⟨by rw [hf.out]; rfl, rfl⟩
      · go_wp2
        go_roundw
        case rel =>
          refine ⟨j + 1, by omega, by go_num, by trivial, fun i y hi hy => ?_⟩
          rcases Nat.lt_or_ge i j with q | q
          · exact hno.out i y q hy
          · obtain rfl : i = j := by omega
            rw [hx.out] at hy
            cases hy
            exact he
        case measure => simp [intOf]; omega
    · have hji : ¬ (j : Int) < (n : Int) := by omega
      have hf : Hid (findI xs k = -1) := findI_none (fun x hx => by
        obtain ⟨i, hi⟩ := List.mem_iff_getElem?.1 hx
        exact hno.out i x (by have := (List.getElem?_eq_some_iff.1 hi).1; have := hsz.out; omega) hi)
      go_wp2
      go_ret
      exact ⟨by rw [hf.out]; rfl, rfl⟩
def dreadV (v : Dv) (k : Int) : Dv := if 1 ≤ k ∧ k ≤ 4096 then ⟨v.c, v.l, fun i => v.rd i || decide (i = k.toNat), v.n⟩ else v
theorem Db.same {w w' : World} {X : Nat → Prop} {b ub : Nat} {v : Dv} (h : Db w X b ub v) (hsz : w.heap.size ≤ w'.heap.size) (hk : ∀ g, X g → w'.heap[g]? = w.heap[g]?) : Db w' X b ub v := by
  obtain ⟨lv, rb, h1, h2, ⟨cur, h3, h4⟩, h5, h6⟩ := h.blk
  exact ⟨⟨lv, rb, (hk b h.own).trans h1, h2.same (fun _ h => h) (fun g _ hg => hk g hg.1), ⟨cur, (hk rb h5).trans h3, h4⟩, h5, h6⟩, h.own, fun g hg => Nat.lt_of_lt_of_le (h.lt g hg) hsz, h.few⟩
theorem Db.below {w w' : World} {X : Nat → Prop} {b ub : Nat} {v : Dv} (h : Db w X b ub v) (hb : Below w.heap.size w w') : Db w' X b ub v := h.same hb.size (fun g hg => hb.block g (h.lt g hg))
set_option maxHeartbeats 2000000 in
theorem dread_any {w : World} {X : Nat → Prop} {b ub : Nat} {v : Dv} (h : Db w X b ub v) (k : Int) :
    Calls Tryz.prog 14 #[.pointer (some ⟨b, 0, none⟩), .int .i64 k] w fun e w' => e = .returned (.tuple #[]) ∧ Db w' X b ub (dreadV v k) ∧ Fr X w w' := by
  by_cases hk : 1 ≤ k ∧ k ≤ 4096
  · obtain ⟨kn, rfl⟩ : ∃ kn : Nat, k = (kn : Int) := ⟨k.toNat, by omega⟩
    have er : dreadV v (kn : Int) = ⟨v.c, v.l, fun i => v.rd i || decide (i = kn), v.n⟩ := by unfold dreadV; rw [if_pos hk]; rfl
    obtain ⟨hk1, hk2⟩ := hk
    have hk3 : (kn : Int) < 4097 := by omega
    obtain ⟨lv, rb, hblk, hL, hR, hX, hne⟩ := h.blk
    obtain ⟨x0, x1, x2, x3, x4⟩ := dv_cells hblk
    obtain ⟨y0, y1⟩ := hR.at_ (k := kn) (by omega)
    have oth : ∀ q, q ≠ rb → (w.setCell ⟨rb, kn, none⟩ (.bool true)).heap[q]? = w.heap[q]? := fun q hq => heap_setCell_other w ⟨rb, kn, none⟩ q _ hq
    have B0 : Below 0 w (w.setCell ⟨rb, kn, none⟩ (.bool true)) := (Below.refl 0 w).setCell (p := ⟨rb, kn, none⟩) (Nat.zero_le _) _
    have fin : Hid (Db (w.setCell ⟨rb, kn, none⟩ (.bool true)) X b ub (dreadV v (kn : Int)) ∧ Fr X w (w.setCell ⟨rb, kn, none⟩ (.bool true))) := by
      rw [er]
      exact ⟨⟨⟨lv, rb, (oth b (fun e => hne e.symm)).trans hblk, hL.same (fun _ h => h) (fun g _ hg => oth g hg.2.1), hR.set kn, hX, hne⟩, h.own, fun g hg => Nat.lt_of_lt_of_le (h.lt g hg) B0.size, h.few⟩, ⟨B0.os, B0.tape, B0.output, B0.size, fun g _ hn => oth g (fun e => hn (e ▸ hX))⟩⟩
    clear hblk hL hR hne er oth B0 h
    go_enter Tryz.func14, Tryz.ntmps14
    go_wp2
    go_end0
    exact ⟨rfl, fin.out⟩
  · have er : dreadV v k = v := by unfold dreadV; rw [if_neg hk]
    rw [er]
    have fin : Hid (Db w X b ub v ∧ Fr X w w) := ⟨h, Fr.refl _ _⟩
    by_cases h1 : 1 ≤ k
    · have h2 : ¬ k ≤ 4096 := fun q => hk ⟨h1, q⟩
      clear hk er h
      go_enter Tryz.func14, Tryz.ntmps14
      go_wp2
      go_end0
      exact ⟨rfl, fin.out⟩
    · clear hk er h
      go_enter Tryz.func14, Tryz.ntmps14
      go_wp2
      go_end0
      exact ⟨rfl, fin.out⟩
end Go.Proofs.YteomolihandfnaaGreat
