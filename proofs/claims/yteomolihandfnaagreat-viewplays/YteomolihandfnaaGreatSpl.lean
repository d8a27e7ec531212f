/- spoil: an object's rows are written over. -/
import Derived.Test.YteomolihandfnaaGreatVkv
namespace Go.Proofs.YteomolihandfnaaGreat
open Go.RowKit
set_option maxRecDepth 100000
/-- All but a row is as it was. -/
structure Sp (o : Option Nat) (w w' : World) : Prop where
  os : w'.os = w.os
  tape : w'.tape = w.tape
  output : w'.output = w.output
  size : w'.heap.size = w.heap.size
  block : ∀ g, o ≠ some g → w'.heap[g]? = w.heap[g]?
theorem Sp.refl (o : Option Nat) (w : World) : Sp o w w := ⟨rfl, rfl, rfl, rfl, fun _ _ => rfl⟩
theorem Sp.set {o : Option Nat} {w w' : World} (h : Sp o w w') {g i : Nat} (ho : o = some g) (v : Value) : Sp o w (w'.setCell ⟨g, i, none⟩ v) := by
  have B : Below 0 w' (w'.setCell ⟨g, i, none⟩ v) := (Below.refl 0 w').setCell (p := ⟨g, i, none⟩) (Nat.zero_le _) _
  exact ⟨B.os.trans h.os, B.tape.trans h.tape, B.output.trans h.output, by rw [← h.size]; simp, fun q hq => (heap_setCell_other w' ⟨g, i, none⟩ q v (fun e => hq (by rw [ho, e]))).trans (h.block q hq)⟩
theorem row_cell {w : World} {g i t : Nat} {cur : Array Value} (h : w.heap[g]? = some (.cells cur t (0, 0))) (hi : i < cur.size) : ∃ v, w.cell? ⟨g, i, none⟩ = some v := by
  rw [cell_of_row w g i _ _ _ h]
  exact ⟨_, Array.getElem?_eq_getElem hi⟩
theorem row_set {w : World} {g i t : Nat} {cur : Array Value} (h : w.heap[g]? = some (.cells cur t (0, 0))) (v : Value) : ∃ cur', (w.setCell ⟨g, i, none⟩ v).heap[g]? = some (.cells cur' t (0, 0)) ∧ cur'.size = cur.size := by
  rw [heap_setCell_same w g i _ _ _ h]
  exact ⟨_, rfl, by simp⟩
set_option maxHeartbeats 2000000 in
theorem spoilB_row {w : World} {g n c : Nat} {cur : Array Value} (hgh : w.heap[g]? = some (.cells cur 5 (0, 0))) (hs0 : n ≤ cur.size) (hn : n ≤ 9223372036854775807) : Calls Tryz.prog 39 #[.slice (some ⟨g, 0, none⟩) n c] w fun e w' => e = .returned (.tuple #[]) ∧ Sp (some g) w w' := by
  have hs : Hid (n ≤ cur.size) := hs0
  clear hs0
  go_enter Tryz.func39, Tryz.ntmps39
  go_wp2
  go_loopw [2] (fun iv wr => ∃ (k : Nat) (cur' : Array Value), k ≤ n ∧ iv = .int .i64 (k : Int) ∧ wr.heap[g]? = some (.cells cur' 5 (0, 0)) ∧ Hid (cur'.size = cur.size) ∧ Sp (some g) w wr) (fun iv _ => n - (intOf iv).toNat)
  case atStart => exact ⟨0, cur, by omega, rfl, hgh, rfl, Sp.refl _ _⟩
  case round =>
    obtain ⟨k, cur', hk, rfl, hg, hcs', hsp⟩ := hrel
    by_cases hlt : k < n
    · have hki : (k : Int) < (n : Int) := by omega
      obtain ⟨x, hx⟩ := row_cell (i := k) hg (by have := hs.out; have := hcs'.out; omega)
      have hfr := frozen_of_row wr g k _ _ hg
      obtain ⟨cur2, hg2, hc2⟩ := row_set (i := k) hg (.int .u8 90)
      have hsp2 := hsp.set (i := k) rfl (.int .u8 90)
      have hc3 : Hid (cur2.size = cur.size) := hc2.trans hcs'.out
      clear hc2
      go_wp2
      go_roundw
      case rel => exact ⟨k + 1, cur2, by omega, by go_num, hg2, hc3, hsp2⟩
      case measure => simp [intOf]; omega
    · have hki : ¬ (k : Int) < (n : Int) := by omega
      go_wp2
      go_end0
      exact ⟨rfl, hsp⟩
theorem spoilB_nil (w : World) : Calls Tryz.prog 39 #[.slice none 0 0] w fun e w' => e = .returned (.tuple #[]) ∧ Sp none w w' := by
  go_enter Tryz.func39, Tryz.ntmps39
  go_wp2
  go_loopw [2] (fun iv wr => iv = .int .i64 0 ∧ wr = w) (fun _ _ => 0)
  case atStart => exact ⟨rfl, rfl⟩
  case round =>
    obtain ⟨rfl, rfl⟩ := hrel
    go_wp2
    go_end0
    exact ⟨rfl, Sp.refl _ _⟩
theorem spoilB_any {w : World} {base n c : Nat} {a : Option Addr} {bs : List Int} (h : OwnB w base (.slice a n c) bs) : Calls Tryz.prog 39 #[.slice a n c] w fun e w' => e = .returned (.tuple #[]) ∧ Sp (Value.slice a n c).ownBlock w w' := by
  have hi := h.isB
  have hn : n ≤ 9223372036854775807 := by have h1 := hi.room; have h2 := hi.most; unfold maxLen at h2; omega
  have hl := hi.size
  rcases h.1.2 with ⟨e, h0⟩ | ⟨g, cap, cur, e, hbg, hgh, hnc, hcm, hcs, htake⟩
  · injection e with e1 e2 e3
    subst e1 e2 e3
    exact spoilB_nil w
  · injection e with e1 e2 e3
    subst e1 e3
    exact spoilB_row hgh (by omega) hn
/-- The slots' row. -/
theorem slots_row {w : World} {base n c : Nat} {a : Option Addr} {vs : List (Int × Int)} (h : OwnV w base (.slice a n c) vs) : (a = none ∧ n = 0 ∧ c = 0) ∨ ∃ g cur, a = some ⟨g, 0, none⟩ ∧ w.heap[g]? = some (.cells cur 80 (0, 0)) ∧ n * 2 ≤ cur.size := by
  have hi := h.isV
  have hl := hi.size
  rcases h.1.2 with ⟨e, h0⟩ | ⟨g, cap, cur, e, hbg, hgh, hnc, hcm, hcs, htake⟩
  · injection e with e1 e2 e3
    exact .inl ⟨e1, e2, e3⟩
  · injection e with e1 e2 e3
    exact .inr ⟨g, cur, e1, hgh, by omega⟩
set_option maxHeartbeats 4000000 in
theorem spoil_any {w : World} {base sn sc bn bc : Nat} {sa ba : Option Addr} {cls : Int} {vs : List (Int × Int)} {bs : List Int} (hV : OwnV w base (.slice sa sn sc) vs) (hB : OwnB w base (.slice ba bn bc) bs) :
    Calls Tryz.prog 10 #[.agg #[.int .i64 cls, .slice sa sn sc, .slice ba bn bc]] w fun e w' => e = .returned (.tuple #[]) ∧ Fr (fun g => (Value.slice sa sn sc).ownBlock = some g ∨ (Value.slice ba bn bc).ownBlock = some g) w w' := by
  have hn : sn ≤ 9223372036854775807 := by have h1 := hV.isV.room; have h2 := hV.isV.most; unfold maxLen at h2; omega
  have E1 := new1 w (objB cls (.slice sa sn sc) (.slice ba bn bc))
  have B1 : Below w.heap.size w (w.alloc (objB cls (.slice sa sn sc) (.slice ba bn bc))) := box_below
  have hV1 := hV.below B1
  have hB1 := hB.below B1
  have nb : ∀ g cur, (Value.slice sa sn sc).ownBlock = some g → (Value.slice ba bn bc).ownBlock = some g → w.heap[g]? = some (.cells cur 80 (0, 0)) → False := fun g cur _ h2 h3 => by
    obtain ⟨_, cur', hh⟩ := own_block hB.1 h2
    rw [hh] at h3
    cases h3
  have hne : ∀ g, (Value.slice sa sn sc).ownBlock = some g → g < w.heap.size := fun g hg => by
    obtain ⟨_, cur', hh⟩ := own_block hV.1 hg
    exact lt_of_block hh
  have hsep : ∀ g, (Value.slice ba bn bc).ownBlock = some g → (Value.slice sa sn sc).ownBlock ≠ some g := fun g hg e => by
    obtain ⟨_, cur', hh⟩ := own_block hV.1 e
    exact nb g cur' e hg hh
  clear nb
  unfold objB at E1 B1 hV1 hB1
  clear hV hB
  go_enter Tryz.func10, Tryz.ntmps10
  go_wp2_with fail
  generalize w.alloc (.cells #[.int .i64 cls, .slice sa sn sc, .slice ba bn bc] 35) = w1 at *
  obtain ⟨b1, hb1⟩ : ∃ q, q = w.heap.size := ⟨_, rfl⟩
  rw [← hb1] at E1 ⊢
  replace hb1 : Hid _ := hb1
  replace E1 : w1.heap[b1]? = some (objB cls (.slice sa sn sc) (.slice ba bn bc)) := E1
  have hb : ∀ g, (Value.slice sa sn sc).ownBlock = some g → b1 ≠ g := fun g hg e => by have := hne g hg; have := hb1.out; omega
  go_loopw [2] (fun iv wr => ∃ (k : Nat), k ≤ sn ∧ iv = .int .i64 (k : Int) ∧ (∀ g, (Value.slice sa sn sc).ownBlock = some g → ∃ cur', wr.heap[g]? = some (.cells cur' 80 (0, 0)) ∧ sn * 2 ≤ cur'.size) ∧ Sp (Value.slice sa sn sc).ownBlock w1 wr) (fun iv _ => sn - (intOf iv).toNat)
  case atStart =>
    refine ⟨0, by omega, rfl, fun g hg => ?_, Sp.refl _ _⟩
    rcases slots_row hV1 with ⟨e1, _⟩ | ⟨g', cur, e1, e2, e3⟩
    · rw [e1] at hg; cases hg
    · rw [e1] at hg; cases hg; exact ⟨cur, e2, e3⟩
  case round =>
    obtain ⟨k, hk, rfl, hrow, hsp⟩ := hrel
    have Er : wr.heap[b1]? = some (objB cls (.slice sa sn sc) (.slice ba bn bc)) := (hsp.block b1 (fun e => hb b1 e rfl)).trans E1
    obtain ⟨x0, x1, x2, xf⟩ := obj_cells Er
    by_cases hlt : k < sn
    · have hki : (k : Int) < (sn : Int) := by omega
      obtain ⟨g, rfl⟩ : ∃ g, sa = some ⟨g, 0, none⟩ := by
        rcases slots_row hV1 with ⟨_, e2, _⟩ | ⟨g', cur, e1, _⟩
        · omega
        · exact ⟨g', e1⟩
      obtain ⟨cur', hg, hcs⟩ := hrow g rfl
      obtain ⟨y0, hy0⟩ := row_cell (i := k * 2) hg (by omega)
      obtain ⟨y1, hy1⟩ := row_cell (i := k * 2 + 1) hg (by omega)
      have hf0 := frozen_of_row wr g (k * 2) _ _ hg
      have hf1 := frozen_of_row wr g (k * 2 + 1) _ _ hg
      obtain ⟨cur2, hg2, hc2⟩ := row_set (i := k * 2) hg (.int .i64 77)
      obtain ⟨cur3, hg3, hc3⟩ := row_set (i := k * 2 + 1) hg2 (.int .i64 0)
      have hsp3 := (hsp.set (i := k * 2) (g := g) rfl (.int .i64 77)).set (i := k * 2 + 1) (g := g) rfl (.int .i64 0)
      have hc4 : Hid (sn * 2 ≤ cur3.size) := by show _ ≤ _; rw [hc3, hc2]; exact hcs
      have hfz : (wr.setCell ⟨g, k * 2, none⟩ (.int .i64 77)).frozen? ⟨g, k * 2 + 1, none⟩ = false := frozen_of_row _ g (k * 2 + 1) _ _ hg2
      clear hc2 hc3 hcs
      go_wp2
      go_roundw
      case rel => exact ⟨k + 1, by omega, by go_num, fun g' e => by cases e; exact ⟨cur3, hg3, hc4.out⟩, hsp3⟩
      case measure => simp [intOf]; omega
    · have hki : ¬ (k : Int) < (sn : Int) := by omega
      have hB2 : OwnB wr base (.slice ba bn bc) bs := hB1.same (fun g hg => hsp.block g (hsep g hg))
      go_wp2_with fail
      refine (spoilB_any hB2).mono ?_
      rintro e w3 ⟨rfl, hs3⟩
      have fin : Hid (Fr (fun g => (Value.slice sa sn sc).ownBlock = some g ∨ (Value.slice ba bn bc).ownBlock = some g) w w3) := ⟨hs3.os.trans (hsp.os.trans B1.os), hs3.tape.trans (hsp.tape.trans B1.tape), hs3.output.trans (hsp.output.trans B1.output), by have := B1.size; have := hs3.size; have := hsp.size; omega, fun g hg hno => (hs3.block g (fun e => hno (.inr e))).trans ((hsp.block g (fun e => hno (.inl e))).trans (B1.block g hg))⟩
      go_wp2
      go_end0
      exact ⟨rfl, fin.out⟩
end Go.Proofs.YteomolihandfnaaGreat
