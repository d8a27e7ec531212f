/- Add and Sub, of the program. -/
import Derived.Test.YtkpngpongbpfgaaAdd
namespace Go.Proofs.Ytkpngpongbpfgaa
open Go.RowKit

/-- What Add and Sub make of two numbers (n2: y's sign, m2: the one that is added with). -/
def addB (n1 : Bool) (xs : List Int) (n2 m2 : Bool) (ys : List Int) : Bool := if rightB n1 xs && rightB n2 ys then fitB (sumNeg n1 m2 (val8 xs) (val8 ys)) (sumMag n1 m2 (val8 xs) (val8 ys)) else false
def addE (n1 : Bool) (xs : List Int) (n2 m2 : Bool) (ys : List Int) : Int := if rightB n1 xs && rightB n2 ys then fitE (sumMag n1 m2 (val8 xs) (val8 ys)) else 1
def addM (n1 : Bool) (xs : List Int) (n2 m2 : Bool) (ys : List Int) : List Int := if rightB n1 xs && rightB n2 ys then fitM (sumMag n1 m2 (val8 xs) (val8 ys)) else []

set_option maxRecDepth 100000 in
set_option maxHeartbeats 4000000 in
theorem add_any {a1 a2 : Option Addr} {l1 l2 c1 c2 : Nat} {xs ys : List Int} {w : World} (n1 n2 : Bool) (h1 : IsB w a1 l1 c1 xs) (h2 : IsB w a2 l2 c2 ys) :
    Calls Try.prog 48 #[.agg #[.bool n1, .slice a1 l1 c1], .agg #[.bool n2, .slice a2 l2 c2]] w fun e w' => ∃ v, e = .returned (.tuple #[.agg #[.bool (addB n1 xs n2 n2 ys), v], .int .i64 (addE n1 xs n2 n2 ys)]) ∧ OwnB w' w.heap.size v (addM n1 xs n2 n2 ys) ∧ Below w.heap.size w w' := by
  go_enter Try.func48, Try.ntmps48
  go_wp2_with fail
  obtain ⟨z0, z1, z2, hb, hs3⟩ := alloc3 w (.cells #[.bool n1, .slice a1 l1 c1] 28) (.cells #[.bool n2, .slice a2 l2 c2] 28) (.cells #[.bool false, .slice none 0 0] 28)
  have k1 := h1.below hb
  have k2 := h2.below hb
  generalize (((w.alloc (.cells #[.bool n1, .slice a1 l1 c1] 28)).alloc (.cells #[.bool n2, .slice a2 l2 c2] 28)).alloc (.cells #[.bool false, .slice none 0 0] 28)) = w1 at *
  refine (right_any n1 k1).mono ?_
  rintro e w2 ⟨rfl, hb2⟩
  have u0 := (hb2.block _ (lt_of_block z0)).trans z0
  have u1 := (hb2.block _ (lt_of_block z1)).trans z1
  have u2 := (hb2.block _ (lt_of_block z2)).trans z2
  have hB2 := below_size hb (Nat.le_refl _) hb2
  have hsz2 := hb2.size
  rw [hs3] at hsz2
  replace k1 := k1.below hb2
  replace k2 := k2.below hb2
  clear z0 z1 z2 hb hb2 hs3
  obtain ⟨x0, x1, _, _⟩ := intVar u0
  obtain ⟨y0, y1, _, _⟩ := intVar u1
  obtain ⟨q0, q1, qf0, qf1⟩ := intVar u2
  cases r1 : rightB n1 xs with
  | false =>
    have e1 : Hid (addB n1 xs n2 n2 ys = false) := by show _ = _; simp [addB, r1]
    have e2 : Hid (addE n1 xs n2 n2 ys = 1) := by show _ = _; simp [addE, r1]
    have e3 : Hid (addM n1 xs n2 n2 ys = []) := by show _ = _; simp [addM, r1]
    go_wp2
    exact bodyPost_ret (v := .tuple #[.agg #[.bool false, .slice none 0 0], .int .i64 1]) (by simp [results, Try.results48, go_sem, q0, q1]) rfl ⟨.slice none 0 0, by rw [e1.out, e2.out], by rw [e3.out]; exact ownB_of (n := 0) (World.ownsRow_nil _ _ _ _) (by simp), below_put (b := w.heap.size + 2) hB2 (by omega)⟩
  | true =>
    go_wp2_with fail
    refine (right_any n2 k2).mono ?_
    rintro e w3 ⟨rfl, hb3⟩
    replace u0 := (hb3.block _ (lt_of_block u0)).trans u0
    replace u1 := (hb3.block _ (lt_of_block u1)).trans u1
    replace u2 := (hb3.block _ (lt_of_block u2)).trans u2
    have hB3 := below_size hB2 (Nat.le_refl _) hb3
    have hsz3 := Nat.le_trans hsz2 hb3.size
    replace k1 := k1.below hb3
    replace k2 := k2.below hb3
    clear x0 x1 y0 y1 q0 q1 qf0 qf1 hb3 hB2 hsz2
    obtain ⟨x0, x1, xf0, xf1⟩ := intVar u0
    obtain ⟨y0, y1, yf0, yf1⟩ := intVar u1
    obtain ⟨q0, q1, qf0, qf1⟩ := intVar u2
    cases r2 : rightB n2 ys with
    | false =>
      have e1 : Hid (addB n1 xs n2 n2 ys = false) := by show _ = _; simp [addB, r2]
      have e2 : Hid (addE n1 xs n2 n2 ys = 1) := by show _ = _; simp [addE, r2]
      have e3 : Hid (addM n1 xs n2 n2 ys = []) := by show _ = _; simp [addM, r2]
      go_wp2
      exact bodyPost_ret (v := .tuple #[.agg #[.bool false, .slice none 0 0], .int .i64 1]) (by simp [results, Try.results48, go_sem, q0, q1]) rfl ⟨.slice none 0 0, by rw [e1.out, e2.out], by rw [e3.out]; exact ownB_of (n := 0) (World.ownsRow_nil _ _ _ _) (by simp), below_put (b := w.heap.size + 2) hB3 (by omega)⟩
    | true =>
      have e1 : Hid (addB n1 xs n2 n2 ys = fitB (sumNeg n1 n2 (val8 xs) (val8 ys)) (sumMag n1 n2 (val8 xs) (val8 ys))) := by show _ = _; simp [addB, r1, r2]
      have e2 : Hid (addE n1 xs n2 n2 ys = fitE (sumMag n1 n2 (val8 xs) (val8 ys))) := by show _ = _; simp [addE, r1, r2]
      have e3 : Hid (addM n1 xs n2 n2 ys = fitM (sumMag n1 n2 (val8 xs) (val8 ys))) := by show _ = _; simp [addM, r1, r2]
      obtain ⟨d1, m1⟩ := lead_right r1
      obtain ⟨d2, m2⟩ := lead_right r2
      rw [h1.size] at m1
      rw [h2.size] at m2
      go_wp2_with fail
      refine (addSigned_any n1 n2 k1 k2 d1 d2 m1 m2).mono ?_
      rintro e w5 ⟨v5, rfl, o5, hb5⟩
      have t2' := (hb5.block _ (lt_of_block u2)).trans u2
      have hB5 := below_size hB3 (Nat.le_refl _) hb5
      obtain ⟨p0, p1, pf0, pf1⟩ := intVar t2'
      rw [← e3.out] at o5
      obtain ⟨bb, Hb⟩ : ∃ bb, Hid (addB n1 xs n2 n2 ys = bb) := ⟨_, rfl⟩
      obtain ⟨ee, He⟩ : ∃ ee, Hid (addE n1 xs n2 n2 ys = ee) := ⟨_, rfl⟩
      obtain ⟨mm, Hm⟩ : ∃ mm, Hid (addM n1 xs n2 n2 ys = mm) := ⟨_, rfl⟩
      rw [Hm.out] at o5
      obtain ⟨av, cv, rfl, _⟩ := o5.2
      rw [← e1.out, ← e2.out, Hb.out, He.out]
      clear e1 e2 e3
      go_wp2
      exact bodyPost_ret (v := .tuple #[.agg #[.bool bb, .slice av mm.length cv], .int .i64 ee]) (by simp [results, Try.results48, go_sem, p0, p1]) rfl ⟨_, by rw [Hb.out, He.out], by rw [Hm.out]; exact OwnB.put (base := w.heap.size + 3) (b := w.heap.size + 2) (b0 := w.heap.size) (o5.mono (by omega)) (by omega) (by omega), below_put (b := w.heap.size + 2) hB5 (by omega)⟩
set_option maxRecDepth 100000 in
set_option maxHeartbeats 4000000 in
theorem sub_any {a1 a2 : Option Addr} {l1 l2 c1 c2 : Nat} {xs ys : List Int} {w : World} (n1 n2 : Bool) (h1 : IsB w a1 l1 c1 xs) (h2 : IsB w a2 l2 c2 ys) :
    Calls Try.prog 49 #[.agg #[.bool n1, .slice a1 l1 c1], .agg #[.bool n2, .slice a2 l2 c2]] w fun e w' => ∃ v, e = .returned (.tuple #[.agg #[.bool (addB n1 xs n2 (!n2) ys), v], .int .i64 (addE n1 xs n2 (!n2) ys)]) ∧ OwnB w' w.heap.size v (addM n1 xs n2 (!n2) ys) ∧ Below w.heap.size w w' := by
  go_enter Try.func49, Try.ntmps49
  go_wp2_with fail
  obtain ⟨z0, z1, z2, hb, hs3⟩ := alloc3 w (.cells #[.bool n1, .slice a1 l1 c1] 28) (.cells #[.bool n2, .slice a2 l2 c2] 28) (.cells #[.bool false, .slice none 0 0] 28)
  have k1 := h1.below hb
  have k2 := h2.below hb
  generalize (((w.alloc (.cells #[.bool n1, .slice a1 l1 c1] 28)).alloc (.cells #[.bool n2, .slice a2 l2 c2] 28)).alloc (.cells #[.bool false, .slice none 0 0] 28)) = w1 at *
  refine (right_any n1 k1).mono ?_
  rintro e w2 ⟨rfl, hb2⟩
  have u0 := (hb2.block _ (lt_of_block z0)).trans z0
  have u1 := (hb2.block _ (lt_of_block z1)).trans z1
  have u2 := (hb2.block _ (lt_of_block z2)).trans z2
  have hB2 := below_size hb (Nat.le_refl _) hb2
  have hsz2 := hb2.size
  rw [hs3] at hsz2
  replace k1 := k1.below hb2
  replace k2 := k2.below hb2
  clear z0 z1 z2 hb hb2 hs3
  obtain ⟨x0, x1, _, _⟩ := intVar u0
  obtain ⟨y0, y1, _, _⟩ := intVar u1
  obtain ⟨q0, q1, qf0, qf1⟩ := intVar u2
  cases r1 : rightB n1 xs with
  | false =>
    have e1 : Hid (addB n1 xs n2 (!n2) ys = false) := by show _ = _; simp [addB, r1]
    have e2 : Hid (addE n1 xs n2 (!n2) ys = 1) := by show _ = _; simp [addE, r1]
    have e3 : Hid (addM n1 xs n2 (!n2) ys = []) := by show _ = _; simp [addM, r1]
    go_wp2
    exact bodyPost_ret (v := .tuple #[.agg #[.bool false, .slice none 0 0], .int .i64 1]) (by simp [results, Try.results49, go_sem, q0, q1]) rfl ⟨.slice none 0 0, by rw [e1.out, e2.out], by rw [e3.out]; exact ownB_of (n := 0) (World.ownsRow_nil _ _ _ _) (by simp), below_put (b := w.heap.size + 2) hB2 (by omega)⟩
  | true =>
    go_wp2_with fail
    refine (right_any n2 k2).mono ?_
    rintro e w3 ⟨rfl, hb3⟩
    replace u0 := (hb3.block _ (lt_of_block u0)).trans u0
    replace u1 := (hb3.block _ (lt_of_block u1)).trans u1
    replace u2 := (hb3.block _ (lt_of_block u2)).trans u2
    have hB3 := below_size hB2 (Nat.le_refl _) hb3
    have hsz3 := Nat.le_trans hsz2 hb3.size
    replace k1 := k1.below hb3
    replace k2 := k2.below hb3
    clear x0 x1 y0 y1 q0 q1 qf0 qf1 hb3 hB2 hsz2
    obtain ⟨x0, x1, xf0, xf1⟩ := intVar u0
    obtain ⟨y0, y1, yf0, yf1⟩ := intVar u1
    obtain ⟨q0, q1, qf0, qf1⟩ := intVar u2
    cases r2 : rightB n2 ys with
    | false =>
      have e1 : Hid (addB n1 xs n2 (!n2) ys = false) := by show _ = _; simp [addB, r2]
      have e2 : Hid (addE n1 xs n2 (!n2) ys = 1) := by show _ = _; simp [addE, r2]
      have e3 : Hid (addM n1 xs n2 (!n2) ys = []) := by show _ = _; simp [addM, r2]
      go_wp2
      exact bodyPost_ret (v := .tuple #[.agg #[.bool false, .slice none 0 0], .int .i64 1]) (by simp [results, Try.results49, go_sem, q0, q1]) rfl ⟨.slice none 0 0, by rw [e1.out, e2.out], by rw [e3.out]; exact ownB_of (n := 0) (World.ownsRow_nil _ _ _ _) (by simp), below_put (b := w.heap.size + 2) hB3 (by omega)⟩
    | true =>
      have e1 : Hid (addB n1 xs n2 (!n2) ys = fitB (sumNeg n1 (!n2) (val8 xs) (val8 ys)) (sumMag n1 (!n2) (val8 xs) (val8 ys))) := by show _ = _; simp [addB, r1, r2]
      have e2 : Hid (addE n1 xs n2 (!n2) ys = fitE (sumMag n1 (!n2) (val8 xs) (val8 ys))) := by show _ = _; simp [addE, r1, r2]
      have e3 : Hid (addM n1 xs n2 (!n2) ys = fitM (sumMag n1 (!n2) (val8 xs) (val8 ys))) := by show _ = _; simp [addM, r1, r2]
      obtain ⟨d1, m1⟩ := lead_right r1
      obtain ⟨d2, m2⟩ := lead_right r2
      rw [h1.size] at m1
      rw [h2.size] at m2
      have v0 := (heap_setCell_other w3 ⟨w.heap.size + 1, 0, none⟩ w.heap.size (.bool (!n2)) (by simp)).trans u0
      have v1 := heap_setCell_same w3 (w.heap.size + 1) 0 _ _ (.bool (!n2)) u1
      have v2 := (heap_setCell_other w3 ⟨w.heap.size + 1, 0, none⟩ (w.heap.size + 2) (.bool (!n2)) (by simp)).trans u2
      have hB4 : Below w.heap.size w (w3.setCell ⟨w.heap.size + 1, 0, none⟩ (.bool (!n2))) := hB3.setCell (by simp) _
      have hsz4 : w.heap.size + 3 ≤ (w3.setCell ⟨w.heap.size + 1, 0, none⟩ (.bool (!n2))).heap.size := by simpa using hsz3
      have j1 := h1.below hB4
      have j2 := h2.below hB4
      simp only [List.setIfInBounds_toArray, List.set_cons_zero] at v1
      obtain ⟨s0, s1, _, _⟩ := intVar v0
      obtain ⟨t0, t1, _, _⟩ := intVar v1
      go_wp2_with fail
      generalize (w3.setCell ⟨w.heap.size + 1, 0, none⟩ (.bool (!n2))) = w4 at *
      refine (addSigned_any n1 (!n2) j1 j2 d1 d2 m1 m2).mono ?_
      rintro e w5 ⟨v5, rfl, o5, hb5⟩
      have t2' := (hb5.block _ (lt_of_block v2)).trans v2
      have hB5 := below_size hB4 (Nat.le_refl _) hb5
      obtain ⟨p0, p1, pf0, pf1⟩ := intVar t2'
      rw [← e3.out] at o5
      obtain ⟨bb, Hb⟩ : ∃ bb, Hid (addB n1 xs n2 (!n2) ys = bb) := ⟨_, rfl⟩
      obtain ⟨ee, He⟩ : ∃ ee, Hid (addE n1 xs n2 (!n2) ys = ee) := ⟨_, rfl⟩
      obtain ⟨mm, Hm⟩ : ∃ mm, Hid (addM n1 xs n2 (!n2) ys = mm) := ⟨_, rfl⟩
      rw [Hm.out] at o5
      obtain ⟨av, cv, rfl, _⟩ := o5.2
      rw [← e1.out, ← e2.out, Hb.out, He.out]
      clear e1 e2 e3
      go_wp2
      exact bodyPost_ret (v := .tuple #[.agg #[.bool bb, .slice av mm.length cv], .int .i64 ee]) (by simp [results, Try.results49, go_sem, p0, p1]) rfl ⟨_, by rw [Hb.out, He.out], by rw [Hm.out]; exact OwnB.put (base := w.heap.size + 3) (b := w.heap.size + 2) (b0 := w.heap.size) (o5.mono (by omega)) (by omega) (by omega), below_put (b := w.heap.size + 2) hB5 (by omega)⟩
end Go.Proofs.Ytkpngpongbpfgaa
