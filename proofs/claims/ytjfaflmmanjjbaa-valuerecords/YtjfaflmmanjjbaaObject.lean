/- The reader: objects. -/
import Derived.Test.YtjfaflmmanjjbaaSlots2
namespace Go.Proofs.Ytjfaflmmanjjbaa
open Go.RowKit
set_option maxRecDepth 100000
def lenS (s : Option (List Int)) : Nat := (s.getD []).length
theorem uR_len (s : Option (List Int)) : lenS (uR s).2 ≤ lenS s := by
  unfold uR lenS
  split
  · simp
  · simp
theorem nR_len (m : Nat) (s : Option (List Int)) : lenS (nR m s).2 ≤ lenS s := by
  unfold nR
  split
  · simp [lenS]
  · exact uR_len s
theorem oR_len (s : Option (List Int)) : lenS (oR s).2 ≤ lenS s := by
  unfold oR
  split
  · simp [lenS]
  · next x t h => simp [lenS, h]
theorem slotR_len (s : Option (List Int)) : lenS (slotR s).2 ≤ lenS s := by
  have h0 := oR_len s
  unfold slotR
  split
  · exact h0
  · split
    · exact Nat.le_trans (uR_len _) h0
    · split
      · exact Nat.le_trans (nR_len _ _) h0
      · simp [lenS]
theorem slotsR_len : ∀ (n : Nat) (s : Option (List Int)), lenS (slotsR n s).2 ≤ lenS s
  | 0, s => Nat.le_refl _
  | n + 1, s => by
    unfold slotsR
    split
    · simp [lenS]
    · exact Nat.le_trans (slotsR_len n _) (slotR_len s)
/-- An object read: class, values, bytes, what is left. -/
def objR (s : Option (List Int)) : Int × List (Int × Int) × List Int × Option (List Int) :=
  (((nR 4096 s).1 : Int), (slotsR (nR 256 (nR 4096 s).2).1 (nR 256 (nR 4096 s).2).2).1, (tR (slotsR (nR 256 (nR 4096 s).2).1 (nR 256 (nR 4096 s).2).2).2).1, (tR (slotsR (nR 256 (nR 4096 s).2).1 (nR 256 (nR 4096 s).2).2).2).2)
theorem OwnB.same {w w' : World} {base : Nat} {v : Value} {xs : List Int} (h : OwnB w base v xs) (hk : ∀ g, v.ownBlock = some g → w'.heap[g]? = w.heap[g]?) : OwnB w' base v xs := ownB_of (own_same h.1 hk) h.byte
theorem OwnB.lt {w : World} {base : Nat} {v : Value} {xs : List Int} (h : OwnB w base v xs) : ∀ g, v.ownBlock = some g → base ≤ g ∧ g < w.heap.size := fun g hg => by
  obtain ⟨h1, cur, hh⟩ := own_block h.1 hg
  exact ⟨h1, lt_of_block hh⟩
theorem OwnB.mono {w : World} {b b' : Nat} {v : Value} {xs : List Int} (h : OwnB w b' v xs) (hb : b ≤ b') : OwnB w b v xs := ownB_of (own_mono h.1 hb) h.byte
theorem OwnV.mono {w : World} {b b' : Nat} {v : Value} {vs : List (Int × Int)} (h : OwnV w b' v vs) (hb : b ≤ b') : OwnV w b v vs := ownV_of (own_mono h.1 hb) h.wf
theorem OwnB.ne {w : World} {base g : Nat} {v : Value} {xs : List Int} {c : Int} {v1 v2 : Value} (h : OwnB w base v xs) (e : w.heap[g]? = some (objB c v1 v2)) : ∀ g', v.ownBlock = some g' → g' ≠ g := fun g' hg' e' => own_ne h.1 e (by decide) (by rw [hg', e'])
theorem OwnV.ne {w : World} {base g : Nat} {v : Value} {vs : List (Int × Int)} {c : Int} {v1 v2 : Value} (h : OwnV w base v vs) (e : w.heap[g]? = some (objB c v1 v2)) : ∀ g', v.ownBlock = some g' → g' ≠ g := fun g' hg' e' => own_ne h.1 e (by decide) (by rw [hg', e'])
set_option maxHeartbeats 4000000 in
theorem object_rd {w0 w : World} {b : Nat} {s : Option (List Int)} (h : Rd w0 w b s) (B : Below w0.heap.size w0 w) (hb0 : w0.heap.size ≤ b) (hl : lenS s ≤ 140737488500000) : Calls Try.prog 45 #[.pointer (some ⟨b, 0, none⟩)] w fun e w' => ∃ vv bv, e = .returned (.agg #[.int .i64 (objR s).1, vv, bv]) ∧ OwnV w' w.heap.size vv (objR s).2.1 ∧ OwnB w' w.heap.size bv (objR s).2.2.1 ∧ Rd w0 w' b (objR s).2.2.2 ∧ But b w w' := by
  have hbw : b < w.heap.size := by obtain ⟨_, _, _, E, _⟩ := h.blk; exact lt_of_block E
  obtain ⟨c, s1, h1⟩ : ∃ c s1, Hid (nR 4096 s = (c, s1)) := ⟨_, _, rfl⟩
  have l1 := nR_len 4096 s
  obtain ⟨n, s2, h2⟩ : ∃ n s2, Hid (nR 256 s1 = (n, s2)) := ⟨_, _, rfl⟩
  have l2 := nR_len 256 s1
  obtain ⟨vs, s3, h3⟩ : ∃ vs s3, Hid (slotsR n s2 = (vs, s3)) := ⟨_, _, rfl⟩
  have l3 := slotsR_len n s2
  obtain ⟨bs, s4, h4⟩ : ∃ bs s4, Hid (tR s3 = (bs, s4)) := ⟨_, _, rfl⟩
  rw [h1.out] at l1
  rw [h2.out] at l2
  rw [h3.out] at l3
  dsimp only at l1 l2 l3
  have e0 : objR s = ((c : Int), vs, bs, s4) := by
    unfold objR
    rw [h1.out]; dsimp only; rw [h2.out]; dsimp only; rw [h3.out]; dsimp only; rw [h4.out]
  rw [e0]
  dsimp only
  clear e0
  have E1 := new1 w (objB 0 (.slice none 0 0) (.slice none 0 0))
  have E2 := new2 w (objB 0 (.slice none 0 0) (.slice none 0 0)) (objB 0 (.slice none 0 0) (.slice none 0 0))
  have E1' := old1 E1 (objB 0 (.slice none 0 0) (.slice none 0 0))
  have B2 : Below w.heap.size w ((w.alloc (objB 0 (.slice none 0 0) (.slice none 0 0))).alloc (objB 0 (.slice none 0 0) (.slice none 0 0))) := below_size box_below box_below.size box_below
  have R2 := h.keep (B2.block b hbw)
  have K2 : But b w _ := But.of B2
  have sz2 : w.heap.size + 1 + 1 = ((w.alloc (objB 0 (.slice none 0 0) (.slice none 0 0))).alloc (objB 0 (.slice none 0 0) (.slice none 0 0))).heap.size := by rw [size1, size1]
  clear E1 h
  unfold objB at E1' E2 B2 R2 K2 sz2
  go_enter Try.func45, Try.ntmps45
  go_wp2_with fail
  generalize (w.alloc (.cells #[.int .i64 0, .slice none 0 0, .slice none 0 0] 27)).alloc (.cells #[.int .i64 0, .slice none 0 0, .slice none 0 0] 27) = w2 at *
  replace E1' : w2.heap[w.heap.size]? = some (objB 0 (.slice none 0 0) (.slice none 0 0)) := E1'
  replace E2 : w2.heap[w.heap.size + 1]? = some (objB 0 (.slice none 0 0) (.slice none 0 0)) := E2
  have hr0 : w.heap.size ≠ b := by omega
  have hr1 : w.heap.size + 1 ≠ b := by omega
  have hr2 : w.heap.size ≠ w.heap.size + 1 := by omega
  have hr3 : w.heap.size ≤ w.heap.size + 1 := by omega
  replace sz2 : w.heap.size + 1 < w2.heap.size := by omega
  generalize w.heap.size + 1 = o1 at *
  refine (number_lit R2 (K2.below B B.size hb0) 4096 4096 rfl (by decide)).mono ?_
  rintro e w3 ⟨rfl, R3, K3⟩
  rw [h1.out] at R3 ⊢
  dsimp only at R3 ⊢
  have K3' := K2.trans K3
  have F3 := (K3.block _ (lt_of_block E1') hr0).trans E1'
  have E3 := (K3.block _ (lt_of_block E2) hr1).trans E2
  have E4 := obj_set0 E3 (c : Int)
  have F4 := (heap_setCell_other w3 ⟨o1, 0, none⟩ w.heap.size (.int .i64 (c : Int)) hr2).trans F3
  have R4 := R3.keep (w' := w3.setCell ⟨o1, 0, none⟩ (.int .i64 (c : Int))) (heap_setCell_other _ _ _ _ (Ne.symm hr1))
  have K4 : But b w (w3.setCell ⟨o1, 0, none⟩ (.int .i64 (c : Int))) := K3'.then_below (below_setCell (Below.refl _ _) hr3)
  obtain ⟨z0, z1, z2, zf⟩ := obj_cells E3
  clear R2 K2 K3 K3' E1' E2 F3 R3
  go_wp2_with fail
  clear z0 z1 z2 zf E3
  generalize w3.setCell ⟨o1, 0, none⟩ (.int .i64 (c : Int)) = w4 at *
  refine (slots_rd R4 (K4.below B B.size hb0) hb0).mono ?_
  rintro e w5 ⟨vv, rfl, O5, R5, K5⟩
  rw [h2.out] at O5 R5
  dsimp only at O5 R5
  rw [h3.out] at O5 R5
  dsimp only at O5 R5
  have F5 := (K5.block _ (lt_of_block F4) hr0).trans F4
  have E5 := (K5.block _ (lt_of_block E4) hr1).trans E4
  have hz4 := K4.size
  replace O5 := O5.mono hz4
  replace K5 := K4.trans K5
  obtain ⟨va, vn, vc, rfl⟩ := O5.shape'
  have E6 := obj_set1 E5 (.slice va vn vc)
  have F6 := (heap_setCell_other w5 ⟨o1, 1, none⟩ w.heap.size (.slice va vn vc) hr2).trans F5
  have R6 := R5.keep (w' := w5.setCell ⟨o1, 1, none⟩ (.slice va vn vc)) (heap_setCell_other _ _ _ _ (Ne.symm hr1))
  have K6 : But b w (w5.setCell ⟨o1, 1, none⟩ (.slice va vn vc)) := K5.then_below (below_setCell (Below.refl _ _) hr3)
  have O6 := O5.same (w' := w5.setCell ⟨o1, 1, none⟩ (.slice va vn vc)) (fun g hg => heap_setCell_other _ _ _ _ (O5.ne E5 g hg))
  obtain ⟨z0, z1, z2, zf⟩ := obj_cells E5
  clear R4 K4 E4 F4 F5 R5 K5 O5
  go_wp2_with fail
  clear z0 z1 z2 zf E5
  generalize w5.setCell ⟨o1, 1, none⟩ (.slice va vn vc) = w6 at *
  refine (text_rd R6 (K6.below B B.size hb0) (by show lenS s3 ≤ _; omega)).mono ?_
  rintro e w7 ⟨bv, rfl, O7, R7, K7⟩
  rw [h4.out] at O7 R7
  dsimp only at O7 R7
  have F7 := (K7.block _ (lt_of_block F6) hr0).trans F6
  have E7 := (K7.block _ (lt_of_block E6) hr1).trans E6
  have V7 := O6.same (fun g hg => K7.block g (O6.lt g hg).2 (by have := (O6.lt g hg).1; omega))
  have hz6 := K6.size
  replace O7 := O7.mono hz6
  replace K7 := K6.trans K7
  obtain ⟨ba, bn, bc, rfl⟩ := O7.shape'
  have E8 := obj_set2 E7 (.slice ba bn bc)
  have F8 := (heap_setCell_other w7 ⟨o1, 2, none⟩ w.heap.size (.slice ba bn bc) hr2).trans F7
  have R8 := R7.keep (w' := w7.setCell ⟨o1, 2, none⟩ (.slice ba bn bc)) (heap_setCell_other _ _ _ _ (Ne.symm hr1))
  have K8 : But b w (w7.setCell ⟨o1, 2, none⟩ (.slice ba bn bc)) := K7.then_below (below_setCell (Below.refl _ _) hr3)
  have O8 := O7.same (w' := w7.setCell ⟨o1, 2, none⟩ (.slice ba bn bc)) (fun g hg => heap_setCell_other _ _ _ _ (O7.ne E7 g hg))
  have V8 := V7.same (w' := w7.setCell ⟨o1, 2, none⟩ (.slice ba bn bc)) (fun g hg => heap_setCell_other _ _ _ _ (V7.ne E7 g hg))
  obtain ⟨z0, z1, z2, zf⟩ := obj_cells E7
  obtain ⟨y0, y1, y2, yf⟩ := obj_cells F7
  clear R6 K6 E6 F6 R7 K7 O7 O6 V7
  go_wp2
  clear z0 z1 z2 zf y0 y1 y2 yf
  have E9 := stO_blk F8 (c : Int) (.slice va vn vc) (.slice ba bn bc)
  obtain ⟨z0, z1, z2, zf⟩ := obj_cells E9
  exact bodyPost_ret (v := .agg #[.int .i64 (c : Int), .slice va vn vc, .slice ba bn bc]) (results_cell Try.results45 rfl (load27 z0 z1 z2)) rfl ⟨_, _, rfl, V8.same (fun g hg => stO_other (V8.ne F8 g hg) _ _ _), O8.same (fun g hg => stO_other (O8.ne F8 g hg) _ _ _), R8.keep (stO_other (Ne.symm hr0) _ _ _), K8.then_below (stO_below (Below.refl _ _) (Nat.le_refl _) _ _ _)⟩
end Go.Proofs.Ytjfaflmmanjjbaa
