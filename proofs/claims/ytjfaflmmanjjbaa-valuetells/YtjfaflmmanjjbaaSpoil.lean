/- Writing over an object's parts. -/
import Derived.Test.YtjfaflmmanjjbaaRGet
import Derived.Test.YtjfaflmmanjjbaaLawPuts
namespace Go.Proofs.Ytjfaflmmanjjbaa
open Go.RowKit
set_option maxRecDepth 100000
/-- All old blocks but two are as they were. -/
structure But2 (p q : Option Nat) (w w' : World) : Prop where
  os : w'.os = w.os
  tape : w'.tape = w.tape
  output : w'.output = w.output
  size : w.heap.size ≤ w'.heap.size
  block : ∀ i, i < w.heap.size → some i ≠ p → some i ≠ q → w'.heap[i]? = w.heap[i]?
theorem But2.refl (p q : Option Nat) (w : World) : But2 p q w w := ⟨rfl, rfl, rfl, Nat.le_refl _, fun _ _ _ _ => rfl⟩
theorem But2.trans {p q : Option Nat} {w w1 w2 : World} (h : But2 p q w w1) (k : But2 p q w1 w2) : But2 p q w w2 := ⟨k.os.trans h.os, k.tape.trans h.tape, k.output.trans h.output, Nat.le_trans h.size k.size, fun i hi hp hq => (k.block i (Nat.lt_of_lt_of_le hi h.size) hp hq).trans (h.block i hi hp hq)⟩
theorem But2.of {p q : Option Nat} {w w' : World} (h : Below w.heap.size w w') : But2 p q w w' := ⟨h.os, h.tape, h.output, h.size, fun i hi _ _ => h.block i hi⟩
theorem But2.set1 {q : Option Nat} {g i : Nat} {w : World} {x : Value} : But2 (some g) q w (w.setCell ⟨g, i, none⟩ x) := ⟨rfl, rfl, rfl, by simp, fun j _ hj _ => heap_setCell_other _ _ _ _ (fun e => hj (by rw [e]))⟩
theorem But2.of_but {p : Option Nat} {g : Nat} {w w' : World} (h : But g w w') : But2 p (some g) w w' := ⟨h.os, h.tape, h.output, h.size, fun i hi _ hq => h.block i hi (fun e => hq (by rw [e]))⟩
theorem But2.below {p q : Option Nat} {N : Nat} {w0 w w' : World} (k : But2 p q w w') (B : Below N w0 w) (hN : N ≤ w.heap.size) (hp : ∀ g, p = some g → N ≤ g) (hq : ∀ g, q = some g → N ≤ g) : Below N w0 w' :=
  B.trans ⟨k.os, k.tape, k.output, k.size, fun i hi => k.block i (by omega) (fun e => by have := hp i e.symm; omega) (fun e => by have := hq i e.symm; omega)⟩
set_option maxHeartbeats 4000000 in
theorem spoil_obj {w : World} {base : Nat} {c : Int} {sa ba : Option Addr} {sn sc bn bc : Nat} {vs : List (Int × Int)} {bs : List Int} (hv : OwnV w base (.slice sa sn sc) vs) (hb : OwnB w base (.slice ba bn bc) bs) :
    Calls Try.prog 20 #[.agg #[.int .i64 c, .slice sa sn sc, .slice ba bn bc]] w fun e w' => e = .returned (.tuple #[]) ∧ But2 (Value.slice sa sn sc).ownBlock (Value.slice ba bn bc).ownBlock w w' := by
  have hsm : sn ≤ 9223372036854775807 := by have h1 := hv.isV.room; have h2 := hv.isV.most; unfold maxLen at h2; omega
  have B1 : Below w.heap.size w (w.alloc (objB c (.slice sa sn sc) (.slice ba bn bc))) := box_below
  have E1 := new1 w (objB c (.slice sa sn sc) (.slice ba bn bc))
  have V1 := hv.below B1
  have O1 := hb.below B1
  have hvl := hv.lt
  have hbl := hb.lt
  unfold objB at E1 B1 V1 O1
  go_enter Try.func20, Try.ntmps20
  go_wp2
  generalize w.alloc (.cells #[.int .i64 c, .slice sa sn sc, .slice ba bn bc] 27) = w1 at *
  replace E1 : w1.heap[w.heap.size]? = some (objB c (.slice sa sn sc) (.slice ba bn bc)) := E1
  have hz1 := lt_of_block E1
  go_loopw [2] (fun iv wr => ∃ (k : Nat), k ≤ sn ∧ iv = .int .i64 (k : Int) ∧ But2 (Value.slice sa sn sc).ownBlock none w1 wr ∧ (∀ g, sa = some ⟨g, 0, none⟩ → ∃ cur, wr.heap[g]? = some (.cells cur 23 (0, 0)) ∧ sn * 2 ≤ cur.size)) (fun iv _ => sn - (intOf iv).toNat)
  case atStart =>
    refine ⟨0, by omega, rfl, But2.refl _ _ _, fun g e => ?_⟩
    rcases V1.1.2 with ⟨h', _⟩ | ⟨g', cap', cur, h', _, hh, hnc, hcm, hcs, _⟩
    · rw [e] at h'
      simp at h'
    · rw [e] at h'
      simp at h'
      obtain ⟨rfl, h5, rfl⟩ := h'
      exact ⟨cur, hh, by omega⟩
  case round =>
    obtain ⟨k, hk, rfl, K, hcur⟩ := hrel
    have E := (K.block _ hz1 (fun e => by have := (hvl _ e.symm).2; omega) (by simp)).trans E1
    obtain ⟨y0, y1, y2, yf⟩ := obj_cells E
    by_cases hlt : k < sn
    · obtain ⟨g, rfl⟩ : ∃ g, sa = some ⟨g, 0, none⟩ := by
        rcases V1.1.2 with ⟨_, h0⟩ | ⟨g, cap, cur, e, _⟩
        · have := V1.isV.size; omega
        · simp only [Value.slice.injEq] at e
          exact ⟨g, e.1⟩
      obtain ⟨cur, hh, hcs⟩ := hcur g rfl
      have hg : w.heap.size ≠ g := by have := (hvl g rfl).2; omega
      have c0 : wr.cell? ⟨g, k * 2, none⟩ = some cur[k * 2] := by rw [cell_of_row _ _ _ _ _ _ hh]; exact Array.getElem?_eq_getElem (by omega)
      have c1 : wr.cell? ⟨g, k * 2 + 1, none⟩ = some cur[k * 2 + 1] := by rw [cell_of_row _ _ _ _ _ _ hh]; exact Array.getElem?_eq_getElem (by omega)
      have f0 := fun i => frozen_of_row _ g i _ _ hh
      have h1 := heap_setCell_same wr g (k * 2) _ _ (.int .i64 77) hh
      have h2 := heap_setCell_same _ g (k * 2 + 1) _ _ (.int .i64 0) h1
      have K2 : But2 (some g) none w1 ((wr.setCell ⟨g, k * 2, none⟩ (.int .i64 77)).setCell ⟨g, k * 2 + 1, none⟩ (.int .i64 0)) := K.trans (But2.set1.trans But2.set1)
      have hz : sn * 2 ≤ ((cur.setIfInBounds (k * 2) (.int .i64 77)).setIfInBounds (k * 2 + 1) (.int .i64 0)).size := by simpa using hcs
      clear K hh hcur h1
      go_wp2
      go_roundw
      case rel => exact ⟨k + 1, by omega, by go_num, K2, fun g' e => by cases e; exact ⟨_, h2, hz⟩⟩
      case measure => simp [intOf]; omega
    · have Or := O1.same (fun g hg => K.block g (by have := (O1.lt g hg).2; omega) (fun e => by
        obtain ⟨_, cur, hh⟩ := own_block V1.1 e.symm
        exact own_ne O1.1 hh (by decide) hg) (by simp))
      have K2 : But2 (Value.slice sa sn sc).ownBlock (Value.slice ba bn bc).ownBlock w wr := (But2.of B1).trans ⟨K.os, K.tape, K.output, K.size, fun i hi hp _ => K.block i hi hp (by simp)⟩
      clear K hcur
      rcases Or.1.2 with ⟨e0, h0⟩ | ⟨g, cap, cur, e0, _⟩
      · simp only [Value.slice.injEq] at e0
        obtain ⟨rfl, rfl, rfl⟩ := e0
        go_wp2_with fail
        refine (spoil_none none 0 _).mono ?_
        rintro e w5 ⟨rfl, rfl⟩
        go_wp2
        go_end0
        exact ⟨rfl, K2⟩
      · simp only [Value.slice.injEq] at e0
        obtain ⟨rfl, hbn, rfl⟩ := e0
        clear hbn
        go_wp2_with fail
        refine (spoil_but Or).mono ?_
        rintro e w5 ⟨rfl, K5⟩
        go_wp2
        go_end0
        exact ⟨rfl, K2.trans (But2.of_but K5)⟩
end Go.Proofs.Ytjfaflmmanjjbaa
