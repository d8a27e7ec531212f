/- Div, Mod, and known: what must come of fixed calls. -/
import Derived.Test.YtgammgdckneoiacDoorDivide
namespace Go.Proofs.YtgammgdckneoiacDoor
open Go.RowKit

theorem alloc3 (w : World) (o0 o1 o2 : Obj) :
    (((w.alloc o0).alloc o1).alloc o2).heap[w.heap.size]? = some o0 ∧ (((w.alloc o0).alloc o1).alloc o2).heap[w.heap.size + 1]? = some o1 ∧ (((w.alloc o0).alloc o1).alloc o2).heap[w.heap.size + 2]? = some o2 ∧ Below w.heap.size w (((w.alloc o0).alloc o1).alloc o2) ∧ (((w.alloc o0).alloc o1).alloc o2).heap.size = w.heap.size + 3 := by
  have s2 : ((w.alloc o0).alloc o1).heap.size = w.heap.size + 2 := by simp
  have e2 := heap_alloc_new ((w.alloc o0).alloc o1) o2
  rw [s2] at e2
  exact ⟨(Below.heap_alloc _ _ _ (by simp; omega)).trans (heap_alloc2_old w _ _), (Below.heap_alloc _ _ _ (by simp)).trans (heap_alloc2_new w _ _), e2, (box2 w _ _).alloc (by simp; omega) _, by simp⟩

set_option maxRecDepth 100000 in
set_option maxHeartbeats 4000000 in
theorem div_far {a1 a2 : Option Addr} {l1 l2 c1 c2 : Nat} {xs ys : List Int} {w : World} (n1 n2 : Bool) (h1 : IsB w a1 l1 c1 xs) (h2 : IsB w a2 l2 c2 ys) (r1 : rightB n1 xs = true) (r2 : rightB n2 ys = true) (h0 : 0 < l2) (hq : QuoOk (val8 xs) (val8 ys)) (hn12 : (n1 != n2) = true) (hfar : val8 xs % val8 ys ≠ 0) :
    Calls Tryd.prog 13 #[.agg #[.bool n1, .slice a1 l1 c1], .agg #[.bool n2, .slice a2 l2 c2]] w fun e w' => ∃ v1, e = .returned (.tuple #[.agg #[.bool (decide (quoN true (val8 xs) (val8 ys) ≠ 0)), v1], .int .i64 0]) ∧
      OwnB w' w.heap.size v1 (mag (quoN true (val8 xs) (val8 ys))) ∧ Below w.heap.size w w' := by
  go_enter Tryd.func13, Tryd.ntmps13
  go_wp2_with fail
  obtain ⟨v0, v1, v2, hb, hs3⟩ := alloc3 w (.cells #[.bool n1, .slice a1 l1 c1] 27) (.cells #[.bool n2, .slice a2 l2 c2] 27) (.cells #[.bool false, .slice none 0 0] 27)
  generalize (((w.alloc (.cells #[.bool n1, .slice a1 l1 c1] 27)).alloc (.cells #[.bool n2, .slice a2 l2 c2] 27)).alloc (.cells #[.bool false, .slice none 0 0] 27)) = w1 at *
  refine (divide_far n1 n2 (h1.below hb) (h2.below hb) r1 r2 h0 hq hn12 hfar).mono ?_
  rintro e w2 ⟨pv, rv, rfl, oQ, oR, hb2⟩
  rw [hn12, Bool.true_and]
  rw [hs3] at oQ oR
  rw [hn12] at oQ oR
  have u2 := (hb2.block _ (lt_of_block v2)).trans v2
  have hB2 := below_size hb (Nat.le_refl _) hb2
  have hsz := hb2.size
  rw [hs3] at hsz
  clear v0 v1 v2 hb hb2 hq
  obtain ⟨Qn, HQ⟩ : ∃ Qn, Hid (quoN true (val8 xs) (val8 ys) = Qn) := ⟨_, rfl⟩
  obtain ⟨Rn, HR⟩ : ∃ Rn, Hid (remN true (val8 xs) (val8 ys) = Rn) := ⟨_, rfl⟩
  rw [HQ.out] at oQ ⊢
  rw [HR.out] at oR ⊢
  obtain ⟨av, cv, rfl, _⟩ := oQ.2
  obtain ⟨bv, dv, rfl, _⟩ := oR.2
  have hvar' : ∀ o o', ((w2.alloc o).alloc o').heap[w.heap.size + 2]? = some (Obj.cells #[Value.bool false, Value.slice none 0 0] 27) := fun o o' => (Below.heap_alloc _ _ _ (by simp; omega)).trans ((Below.heap_alloc w2 o _ (lt_of_block u2)).trans u2)
  have hc0 := fun o o' => (intVar (hvar' o o')).1
  have hc1 := fun o o' => (intVar (hvar' o o')).2.1
  have hf0 := fun o o' => (intVar (hvar' o o')).2.2.1
  have hf1 := fun o o' => (intVar (hvar' o o')).2.2.2
  have hBo : ∀ o o', Below w.heap.size w ((w2.alloc o).alloc o') := fun o o' => (hB2.alloc hB2.size _).alloc (by simp; omega) _
  clear hvar' u2
  obtain ⟨bq, hbq⟩ : ∃ bq, Hid (decide (Qn ≠ 0) = bq) := ⟨_, rfl⟩
  obtain ⟨br, hbr⟩ : ∃ br, Hid ((n2 && decide (Rn ≠ 0)) = br) := ⟨_, rfl⟩
  rw [hbq.out, hbr.out]
  go_wp2
  exact bodyPost_ret (v := .tuple #[.agg #[.bool bq, .slice av (mag Qn).length cv], .int .i64 0]) (by simp [results, Tryd.results13, go_sem, hc0, hc1]) rfl ⟨_, by rw [HQ.out, hbq.out], by rw [HQ.out]; exact OwnB.put (base := w.heap.size + 3) (b := w.heap.size + 2) (b0 := w.heap.size) ((oQ.alloc _).alloc _) (by omega) (by omega), below_put (b := w.heap.size + 2) (hBo _ _) (by omega)⟩
set_option maxRecDepth 100000 in
set_option maxHeartbeats 4000000 in
theorem mod_far {a1 a2 : Option Addr} {l1 l2 c1 c2 : Nat} {xs ys : List Int} {w : World} (n1 n2 : Bool) (h1 : IsB w a1 l1 c1 xs) (h2 : IsB w a2 l2 c2 ys) (r1 : rightB n1 xs = true) (r2 : rightB n2 ys = true) (h0 : 0 < l2) (hq : QuoOk (val8 xs) (val8 ys)) (hn12 : (n1 != n2) = true) (hfar : val8 xs % val8 ys ≠ 0) :
    Calls Tryd.prog 14 #[.agg #[.bool n1, .slice a1 l1 c1], .agg #[.bool n2, .slice a2 l2 c2]] w fun e w' => ∃ v1, e = .returned (.tuple #[.agg #[.bool (n2 && decide (remN true (val8 xs) (val8 ys) ≠ 0)), v1], .int .i64 0]) ∧
      OwnB w' w.heap.size v1 (mag (remN true (val8 xs) (val8 ys))) ∧ Below w.heap.size w w' := by
  go_enter Tryd.func14, Tryd.ntmps14
  go_wp2_with fail
  obtain ⟨v0, v1, v2, hb, hs3⟩ := alloc3 w (.cells #[.bool n1, .slice a1 l1 c1] 27) (.cells #[.bool n2, .slice a2 l2 c2] 27) (.cells #[.bool false, .slice none 0 0] 27)
  generalize (((w.alloc (.cells #[.bool n1, .slice a1 l1 c1] 27)).alloc (.cells #[.bool n2, .slice a2 l2 c2] 27)).alloc (.cells #[.bool false, .slice none 0 0] 27)) = w1 at *
  refine (divide_far n1 n2 (h1.below hb) (h2.below hb) r1 r2 h0 hq hn12 hfar).mono ?_
  rintro e w2 ⟨pv, rv, rfl, oQ, oR, hb2⟩
  rw [hn12, Bool.true_and]
  rw [hs3] at oQ oR
  rw [hn12] at oQ oR
  have u2 := (hb2.block _ (lt_of_block v2)).trans v2
  have hB2 := below_size hb (Nat.le_refl _) hb2
  have hsz := hb2.size
  rw [hs3] at hsz
  clear v0 v1 v2 hb hb2 hq
  obtain ⟨Qn, HQ⟩ : ∃ Qn, Hid (quoN true (val8 xs) (val8 ys) = Qn) := ⟨_, rfl⟩
  obtain ⟨Rn, HR⟩ : ∃ Rn, Hid (remN true (val8 xs) (val8 ys) = Rn) := ⟨_, rfl⟩
  rw [HQ.out] at oQ ⊢
  rw [HR.out] at oR ⊢
  obtain ⟨av, cv, rfl, _⟩ := oQ.2
  obtain ⟨bv, dv, rfl, _⟩ := oR.2
  have hvar' : ∀ o o', ((w2.alloc o).alloc o').heap[w.heap.size + 2]? = some (Obj.cells #[Value.bool false, Value.slice none 0 0] 27) := fun o o' => (Below.heap_alloc _ _ _ (by simp; omega)).trans ((Below.heap_alloc w2 o _ (lt_of_block u2)).trans u2)
  have hc0 := fun o o' => (intVar (hvar' o o')).1
  have hc1 := fun o o' => (intVar (hvar' o o')).2.1
  have hf0 := fun o o' => (intVar (hvar' o o')).2.2.1
  have hf1 := fun o o' => (intVar (hvar' o o')).2.2.2
  have hBo : ∀ o o', Below w.heap.size w ((w2.alloc o).alloc o') := fun o o' => (hB2.alloc hB2.size _).alloc (by simp; omega) _
  clear hvar' u2
  obtain ⟨bq, hbq⟩ : ∃ bq, Hid (decide (Qn ≠ 0) = bq) := ⟨_, rfl⟩
  obtain ⟨br, hbr⟩ : ∃ br, Hid ((n2 && decide (Rn ≠ 0)) = br) := ⟨_, rfl⟩
  rw [hbq.out, hbr.out]
  go_wp2
  exact bodyPost_ret (v := .tuple #[.agg #[.bool br, .slice bv (mag Rn).length dv], .int .i64 0]) (by simp [results, Tryd.results14, go_sem, hc0, hc1]) rfl ⟨_, by rw [HR.out, hbr.out], by rw [HR.out]; exact OwnB.put (base := w.heap.size + 3) (b := w.heap.size + 2) (b0 := w.heap.size) ((oR.alloc _).alloc _) (by omega) (by omega), below_put (b := w.heap.size + 2) (hBo _ _) (by omega)⟩

theorem mag7' : mag (-7 : Int).natAbs = [7] := by decide
theorem mag7 : mag (7 : Int).natAbs = [7] := by decide
theorem mag2 : mag (2 : Int).natAbs = [2] := by decide
theorem mag2' : mag (-2 : Int).natAbs = [2] := by decide
theorem quoN72 : quoN true (val8 [7]) (val8 [2]) = 4 := by decide
theorem remN72 : remN true (val8 [7]) (val8 [2]) = 1 := by decide
theorem mag4 : mag 4 = [4] := by decide
theorem mag1 : mag 1 = [1] := by decide
theorem mag256 : mag (256 : Int).natAbs = [1, 0] := by decide
theorem dec4 : strOfNums ([45] ++ dec 4) = ⟨#[45, 52]⟩ := by decide +kernel
theorem dec1 : strOfNums ([45] ++ dec 1) = ⟨#[45, 49]⟩ := by decide +kernel
theorem dec256 : strOfNums (dec 256) = ⟨#[50, 53, 54]⟩ := by decide +kernel
theorem quo72 : QuoOk 7 2 := fun w => quo_one 7 2 w (by decide) (by decide) (by decide)

/-- Text, of a number whose text is known. -/
theorem text_lit {a : Option Addr} {n c : Nat} {xs : List Int} {w : World} (neg : Bool) (s : ByteArray) (h : IsB w a n c xs) (hr : rightB neg xs = true) (h0 : 0 < n) (hs : strOfNums ((if neg then [45] else []) ++ dec (val8 xs)) = s) :
    Calls Tryd.prog 20 #[.agg #[.bool neg, .slice a n c]] w fun e w' => e = .returned (.string s) ∧ Below w.heap.size w w' := by
  refine (text_any neg h hr h0).mono ?_
  rintro e w' ⟨rfl, hb⟩
  exact ⟨by rw [hs], hb⟩

/-- Of, of a number whose bytes are known. -/
theorem of_lit (n : Int) (xs : List Int) (w : World) (h0 : -9223372036854775808 ≤ n) (h1 : n ≤ 9223372036854775807) (hm : mag n.natAbs = xs) :
    Calls Tryd.prog 18 #[.int .i64 n] w fun e w' => ∃ a c, e = .returned (.agg #[.bool (decide (n < 0)), .slice a xs.length c]) ∧ IsB w' a xs.length c xs ∧ Below w.heap.size w w' := by
  refine (of_any n w h0 h1).mono ?_
  rintro e w' ⟨v, rfl, hO, hb⟩
  rw [hm] at hO
  obtain ⟨a, c, rfl, hI⟩ := hO.2
  exact ⟨a, c, rfl, hI, hb⟩

set_option maxRecDepth 100000 in
set_option maxHeartbeats 4000000 in
theorem known_true (w : World) : Calls Tryd.prog 7 #[] w fun e w' => e = .returned (.bool true) ∧ Below w.heap.size w w' := by
  go_enter Tryd.func7, Tryd.ntmps7
  go_wp2_with fail
  refine (of_lit (-7) [7] w (by decide) (by decide) mag7').mono ?_
  rintro e w1 ⟨a1, c1, rfl, i1, b1⟩
  go_wp2_with fail
  refine (of_lit 2 [2] w1 (by decide) (by decide) mag2).mono ?_
  rintro e w2 ⟨a2, c2, rfl, i2, b2⟩
  have B2 := below_size b1 (Nat.le_refl _) b2
  go_wp2_with fail
  refine (div_far true false (i1.below b2) i2 (by decide) (by decide) (by decide) quo72 rfl (by decide)).mono ?_
  rintro e w3 ⟨v3, rfl, o3, b3⟩
  have B3 := below_size B2 (Nat.le_refl _) b3
  rw [quoN72, mag4] at o3
  rw [quoN72]
  obtain ⟨a3, c3, rfl, i3⟩ := o3.2
  clear o3 i1 i2 b1 b2 b3 B2
  have hd4 : decide ((4 : Nat) ≠ 0) = true := by decide
  rw [hd4]
  go_wp2_with fail
  have B3' := B3.alloc B3.size (.cells #[.bool true, .slice a3 1 c3] 27)
  have m3 := heap_alloc_new w3 (.cells #[.bool true, .slice a3 1 c3] 27)
  have i3' := i3.below ((Below.refl _ _).alloc (Nat.le_refl _) (.cells #[.bool true, .slice a3 1 c3] 27))
  have L3 : w3.heap.size < (w3.alloc (.cells #[.bool true, .slice a3 1 c3] 27)).heap.size := by simp
  generalize hw4 : w3.alloc (.cells #[.bool true, .slice a3 1 c3] 27) = w4 at *
  clear hw4
  generalize w3.heap.size = g3 at *
  refine (of_lit 7 [7] w4 (by decide) (by decide) mag7).mono ?_
  rintro e w5 ⟨a5, c5, rfl, i5, b5⟩
  go_wp2_with fail
  refine (of_lit (-2) [2] w5 (by decide) (by decide) mag2').mono ?_
  rintro e w6 ⟨a6, c6, rfl, i6, b6⟩
  have B6 := below_size (below_size B3' (Nat.le_refl _) b5) (Nat.le_refl _) b6
  go_wp2_with fail
  refine (mod_far false true (i5.below b6) i6 (by decide) (by decide) (by decide) quo72 rfl (by decide)).mono ?_
  rintro e w7 ⟨v7, rfl, o7, b7⟩
  have B7 := below_size B6 (Nat.le_refl _) b7
  rw [remN72, mag1] at o7
  rw [remN72]
  obtain ⟨a7, c7, rfl, i7⟩ := o7.2
  have hd1 : (true && decide ((1 : Nat) ≠ 0)) = true := by decide
  rw [hd1]
  have i37 := ((i3'.below b5).below b6).below b7
  have m37 := (b7.block _ (lt_of_block ((b6.block _ (lt_of_block ((b5.block _ (lt_of_block m3)).trans m3))).trans ((b5.block _ (lt_of_block m3)).trans m3)))).trans ((b6.block _ (lt_of_block ((b5.block _ (lt_of_block m3)).trans m3))).trans ((b5.block _ (lt_of_block m3)).trans m3))
  clear o7 i5 i6 b5 b6 b7 B6 i3 i3' m3 B3 B3'
  have B8 := B7.alloc B7.size (.cells #[.bool true, .slice a7 1 c7] 27)
  have m8 := heap_alloc_new w7 (.cells #[.bool true, .slice a7 1 c7] 27)
  have i8 := i7.below ((Below.refl _ _).alloc (Nat.le_refl _) (.cells #[.bool true, .slice a7 1 c7] 27))
  have i38 := i37.below ((Below.refl _ _).alloc (Nat.le_refl _) (.cells #[.bool true, .slice a7 1 c7] 27))
  have m38 := (Below.heap_alloc w7 (.cells #[.bool true, .slice a7 1 c7] 27) _ (lt_of_block m37)).trans m37
  obtain ⟨x0, x1, _, _⟩ := intVar m38
  go_wp2_with fail
  refine (text_lit true ⟨#[45, 52]⟩ i38 (by decide) (by decide) dec4).mono ?_
  rintro e w9 ⟨rfl, b9⟩
  have m9 := (b9.block _ (lt_of_block m8)).trans m8
  have B9 := below_size B8 (Nat.le_refl _) b9
  have i9 := i8.below b9
  obtain ⟨y0, y1, _, _⟩ := intVar m9
  clear x0 x1 m8 m38 i8 i38 i37 m37 i7
  go_wp2_with fail
  refine (text_lit true ⟨#[45, 49]⟩ i9 (by decide) (by decide) dec1).mono ?_
  rintro e w10 ⟨rfl, b10⟩
  have B10 := below_size B9 (Nat.le_refl _) b10
  go_wp2_with fail
  refine (of_lit 256 [1, 0] w10 (by decide) (by decide) mag256).mono ?_
  rintro e w11 ⟨a11, c11, rfl, i11, b11⟩
  have B11 := below_size B10 (Nat.le_refl _) b11
  go_wp2_with fail
  refine (text_lit false ⟨#[50, 53, 54]⟩ i11 (by decide) (by decide) dec256).mono ?_
  rintro e w12 ⟨rfl, b12⟩
  have B12 := below_size B11 (Nat.le_refl _) b12
  go_wp2
  go_ret
  exact ⟨rfl, B12⟩
end Go.Proofs.YtgammgdckneoiacDoor
