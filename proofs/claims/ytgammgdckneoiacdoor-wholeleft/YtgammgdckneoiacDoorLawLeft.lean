/- The walk of WholeLeft: how often times it, and what is left. -/
import Derived.Test.YtgammgdckneoiacDoorBag2
import Derived.Test.YtgammgdckneoiacDoorDivAny
namespace Go.Proofs.YtgammgdckneoiacDoor
open Go.RowKit

theorem fit_len {k : Nat} {x : Int} (h : (cM x).length ≤ k) : Fit k x := by
  unfold cM at h
  rw [mag_len] at h
  exact (blen_le _ _).1 h
theorem blk2 {w : World} {b0 b1 : Nat} {o0 o1 : Obj} (h0 : w.heap[b0]? = some o0) (h1 : w.heap[b1]? = some o1) : Blk w [(b0, o0), (b1, o1)] := by
  intro p hp
  simp at hp
  rcases hp with rfl | rfl
  · exact h0
  · exact h1
/-- How often, and what is left, of whole numbers. -/
def quoZ (X Y : Int) : Int := if cB X != cB Y then -(quoN true X.natAbs Y.natAbs : Int) else (quoN false X.natAbs Y.natAbs : Int)
def remZ (X Y : Int) : Int := if cB Y then -(remN (cB X != cB Y) X.natAbs Y.natAbs : Int) else (remN (cB X != cB Y) X.natAbs Y.natAbs : Int)
theorem cB_neg (n : Nat) : cB (-(n : Int)) = decide (n ≠ 0) := by
  unfold cB
  by_cases h : n = 0
  · subst h; rfl
  · rw [decide_eq_true (show n ≠ 0 from h), decide_eq_true (show -(n : Int) < 0 by omega)]
theorem cB_nat (n : Nat) : cB (n : Int) = false := by
  unfold cB
  exact decide_eq_false (by omega)
theorem cM_neg (n : Nat) : cM (-(n : Int)) = mag n := by
  unfold cM
  rw [Int.natAbs_neg, Int.natAbs_natCast]
theorem cM_nat (n : Nat) : cM (n : Int) = mag n := by
  unfold cM
  rw [Int.natAbs_natCast]
theorem left_can {X Y : Int} (hY : Y ≠ 0) (fX : Fit 128 X) (fY : Fit 128 Y) :
    dvE (cB X) (cM X) (cB Y) (cM Y) = 0 ∧ divB (cB X) (cM X) (cB Y) (cM Y) = cB (quoZ X Y) ∧ divM (cB X) (cM X) (cB Y) (cM Y) = cM (quoZ X Y) ∧
    modB (cB X) (cM X) (cB Y) (cM Y) = cB (remZ X Y) ∧ modM (cB X) (cM X) (cB Y) (cM Y) = cM (remZ X Y) := by
  have hl : (cM Y).length ≠ 0 := by
    obtain ⟨b, r, e, _⟩ := mag_first Y.natAbs (by omega)
    have e' : cM Y = b :: r := e
    rw [e']; simp
  have hok : dvOk (cB X) (cM X) (cB Y) (cM Y) = true := by
    unfold dvOk
    rw [right_can fX, right_can fY, decide_eq_true hl]; rfl
  unfold dvE divB divM modB modM
  rw [hok, right_can fX, right_can fY, val8_cM, val8_cM, if_pos rfl, if_pos rfl, if_pos rfl, if_pos rfl, if_neg hl]
  unfold quoZ remZ
  refine ⟨rfl, ?_, ?_, ?_, ?_⟩
  · cases h : (cB X != cB Y)
    · rw [if_neg (by decide), cB_nat]; rfl
    · rw [if_pos rfl, cB_neg]; rfl
  · cases h : (cB X != cB Y)
    · rw [if_neg (by decide), cM_nat]
    · rw [if_pos rfl, cM_neg]
  · cases h : cB Y
    · rw [if_neg (by decide), cB_nat]; rfl
    · rw [if_pos rfl, cB_neg]; rfl
  · cases h : cB Y
    · rw [if_neg (by decide), cM_nat]
    · rw [if_pos rfl, cM_neg]
theorem left_math {X Y : Int} (hY : Y ≠ 0) : quoZ X Y * Y + remZ X Y = X ∧ (remZ X Y).natAbs < Y.natAbs ∧ (remZ X Y = 0 ∨ cB (remZ X Y) = cB Y) ∧ (quoZ X Y).natAbs ≤ X.natAbs + 1 := by
  have hm := Nat.mod_lt X.natAbs (show 0 < Y.natAbs by omega)
  have he := Nat.div_add_mod X.natAbs Y.natAbs
  have hd := Nat.div_le_self X.natAbs Y.natAbs
  unfold quoZ remZ quoN remN
  obtain ⟨x, hx⟩ : ∃ x, x = X.natAbs := ⟨_, rfl⟩
  obtain ⟨y, hy⟩ : ∃ y, y = Y.natAbs := ⟨_, rfl⟩
  rw [← hx, ← hy] at hm he hd ⊢
  generalize x / y = d at *
  generalize x % y = m at *
  have hyd : ((y : Int) * d) + m = x := by rw [← he]; push_cast; rfl
  by_cases h1 : X < 0 <;> by_cases h2 : Y < 0
  · have c1 : cB X = true := decide_eq_true h1
    have c2 : cB Y = true := decide_eq_true h2
    obtain rfl : X = -(x : Int) := by omega
    obtain rfl : Y = -(y : Int) := by omega
    rw [c1, c2]
    simp only [bne_self_eq_false, Bool.false_eq_true, false_and, if_false, if_true]
    refine ⟨by rw [← hyd, Int.mul_neg, Int.mul_comm]; omega, by omega, ?_, by omega⟩
    by_cases h : m = 0
    · exact .inl (by omega)
    · exact .inr (by rw [cB_neg]; exact decide_eq_true h)
  · have c1 : cB X = true := decide_eq_true h1
    have c2 : cB Y = false := decide_eq_false h2
    obtain rfl : X = -(x : Int) := by omega
    obtain rfl : Y = (y : Int) := by omega
    rw [c1, c2]
    by_cases h : m = 0
    · subst h
      simp only [Bool.true_bne, Bool.not_false, Bool.false_eq_true, true_and, ne_eq, not_true_eq_false, if_false, if_true]
      refine ⟨by rw [← hyd, Int.neg_mul, Int.mul_comm]; omega, by omega, .inl rfl, by omega⟩
    · simp only [Bool.true_bne, Bool.not_false, Bool.false_eq_true, true_and, ne_eq, h, not_false_eq_true, if_false, if_true]
      refine ⟨?_, by omega, .inr (cB_nat _), by omega⟩
      rw [← hyd, Int.neg_mul, Int.natCast_add, Int.add_mul, Int.mul_comm (d : Int), Int.ofNat_sub (by omega)]
      omega
  · have c1 : cB X = false := decide_eq_false h1
    have c2 : cB Y = true := decide_eq_true h2
    obtain rfl : X = (x : Int) := by omega
    obtain rfl : Y = -(y : Int) := by omega
    rw [c1, c2]
    by_cases h : m = 0
    · subst h
      simp only [Bool.false_bne, true_and, ne_eq, not_true_eq_false, if_false, if_true]
      refine ⟨by rw [← hyd, Int.neg_mul, Int.mul_neg, Int.neg_neg, Int.mul_comm]; omega, by omega, .inl rfl, by omega⟩
    · simp only [Bool.false_bne, true_and, ne_eq, h, not_false_eq_true, if_true]
      refine ⟨?_, by omega, .inr (by rw [cB_neg]; exact decide_eq_true (by omega)), by omega⟩
      rw [← hyd, Int.neg_mul, Int.mul_neg, Int.neg_neg, Int.natCast_add, Int.add_mul, Int.mul_comm (d : Int), Int.ofNat_sub (by omega)]
      omega
  · have c1 : cB X = false := decide_eq_false h1
    have c2 : cB Y = false := decide_eq_false h2
    obtain rfl : X = (x : Int) := by omega
    obtain rfl : Y = (y : Int) := by omega
    rw [c1, c2]
    simp only [bne_self_eq_false, Bool.false_eq_true, false_and, if_false]
    refine ⟨by rw [← hyd, Int.mul_comm], by omega, .inr (cB_nat _), by omega⟩

theorem ldiv_to {a1 a2 : Option Addr} {l1 l2 c1 c2 : Nat} {x y q : Int} {w : World} (hd : Hid (dvE (cB x) (cM x) (cB y) (cM y) = 0 ∧ divB (cB x) (cM x) (cB y) (cM y) = cB q ∧ divM (cB x) (cM x) (cB y) (cM y) = cM q)) (h1 : IsB w a1 l1 c1 (cM x)) (h2 : IsB w a2 l2 c2 (cM y)) :
    Calls Tryd.prog 13 #[.agg #[.bool (cB x), .slice a1 l1 c1], .agg #[.bool (cB y), .slice a2 l2 c2]] w fun e w' => ∃ a l c, e = .returned (.tuple #[.agg #[.bool (cB q), .slice a l c], .int .i64 0]) ∧ IsB w' a l c (cM q) ∧ Below w.heap.size w w' := by
  have c := div_any (cB x) (cB y) h1 h2
  obtain ⟨e1, e2, e3⟩ := hd.out
  rw [e1, e2, e3] at c
  refine c.mono ?_
  rintro e w' ⟨v, rfl, hO, hb⟩
  obtain ⟨a, k, rfl, hI⟩ := hO.2
  exact ⟨a, _, k, rfl, hI, hb⟩
theorem lmod_to {a1 a2 : Option Addr} {l1 l2 c1 c2 : Nat} {x y q : Int} {w : World} (hd : Hid (dvE (cB x) (cM x) (cB y) (cM y) = 0 ∧ modB (cB x) (cM x) (cB y) (cM y) = cB q ∧ modM (cB x) (cM x) (cB y) (cM y) = cM q)) (h1 : IsB w a1 l1 c1 (cM x)) (h2 : IsB w a2 l2 c2 (cM y)) :
    Calls Tryd.prog 14 #[.agg #[.bool (cB x), .slice a1 l1 c1], .agg #[.bool (cB y), .slice a2 l2 c2]] w fun e w' => ∃ a l c, e = .returned (.tuple #[.agg #[.bool (cB q), .slice a l c], .int .i64 0]) ∧ IsB w' a l c (cM q) ∧ Below w.heap.size w w' := by
  have c := mod_any (cB x) (cB y) h1 h2
  obtain ⟨e1, e2, e3⟩ := hd.out
  rw [e1, e2, e3] at c
  refine c.mono ?_
  rintro e w' ⟨v, rfl, hO, hb⟩
  obtain ⟨a, k, rfl, hI⟩ := hO.2
  exact ⟨a, _, k, rfl, hI, hb⟩
theorem ltaken_to {a : Option Addr} {l c : Nat} {x : Int} {w : World} (h : IsB w a l c (cM x)) :
    Calls Tryd.prog 15 #[.agg #[.bool (cB x), .slice a l c]] w fun e w' => ∃ a' l' c', e = .returned (.agg #[.bool (cB x), .slice a' l' c']) ∧ IsB w' a' l' c' (cM x) ∧ Below w.heap.size w w' := by
  refine (taken_any (cB x) a l c w).mono ?_
  rintro e w' ⟨rfl, hb⟩
  exact ⟨a, l, c, rfl, h.below hb, hb⟩
theorem lnear_to {a1 a2 : Option Addr} {l1 l2 c1 c2 : Nat} {x y : Int} {w : World} (f1 : Fit 128 x) (f2 : Fit 128 y) (hlt : x.natAbs < y.natAbs) (h1 : IsB w a1 l1 c1 (cM x)) (h2 : IsB w a2 l2 c2 (cM y)) :
    Calls Tryd.prog 16 #[.agg #[.bool false, .slice a1 l1 c1], .agg #[.bool false, .slice a2 l2 c2]] w fun e w' => e = .returned (.int .i64 (-1)) ∧ Below w.heap.size w w' := by
  have c := rCmp_any false false h1 h2
  have e1 : cB (x.natAbs : Int) = false := cB_nat _
  have e2 : cB (y.natAbs : Int) = false := cB_nat _
  have e3 : cM (x.natAbs : Int) = cM x := by unfold cM; rw [Int.natAbs_natCast]
  have e4 : cM (y.natAbs : Int) = cM y := by unfold cM; rw [Int.natAbs_natCast]
  have g1 : Fit 128 (x.natAbs : Int) := by unfold Fit at *; rw [Int.natAbs_natCast]; exact f1
  have g2 : Fit 128 (y.natAbs : Int) := by unfold Fit at *; rw [Int.natAbs_natCast]; exact f2
  have k := cmp_can g1 g2
  rw [e1, e2, e3, e4] at k
  rw [k] at c
  have s : sgnZ (x.natAbs : Int) (y.natAbs : Int) = -1 := by unfold sgnZ; rw [if_pos (by omega)]
  rw [s] at c
  exact c

set_option maxRecDepth 100000 in
set_option maxHeartbeats 16000000 in
theorem left_small {a1 a2 : Option Addr} {l1 l2 c1 c2 : Nat} {X Y : Int} {w : World} (h1 : IsB w a1 l1 c1 (cM X)) (h2 : IsB w a2 l2 c2 (cM Y)) (m1 : l1 ≤ 40) (m2 : l2 ≤ 40) (hl2 : l2 ≠ 0) :
    Calls Tryd.prog 4 #[.agg #[.bool (cB X), .slice a1 l1 c1], .agg #[.bool (cB Y), .slice a2 l2 c2]] w fun e w' => e = .returned (.bool true) ∧ Below w.heap.size w w' := by
  have fX : Fit 40 X := fit_len (by rw [h1.size]; exact m1)
  have fY : Fit 40 Y := fit_len (by rw [h2.size]; exact m2)
  have hl0 : ((l2 : Int) == 0) = false := by simpa using hl2
  have hY0 : Y ≠ 0 := by
    intro h0
    apply hl2
    rw [← h2.size, h0]
    decide
  obtain ⟨hE, hq1, hq2, hr1, hr2⟩ := left_can hY0 (fX.mono (by decide)) (fY.mono (by decide))
  obtain ⟨hsum, hlt, hsg, hqb⟩ := left_math (X := X) hY0
  obtain ⟨Q, HQ⟩ : ∃ z, Hid (quoZ X Y = z) := ⟨_, rfl⟩
  obtain ⟨R, HR⟩ : ∃ z, Hid (remZ X Y = z) := ⟨_, rfl⟩
  rw [HQ.out] at hq1 hq2 hsum hqb
  rw [HR.out] at hr1 hr2 hsum hlt hsg
  obtain ⟨P, HP⟩ : ∃ z, Hid (Q * Y = z) := ⟨_, rfl⟩
  have HS : Hid (P + R = X) := by show _ = _; rw [← HP.out]; exact hsum
  have fR : Fit 40 R := Nat.lt_trans hlt fY
  have fQ : Fit 41 Q := by
    unfold Fit at fX ⊢
    rw [Nat.pow_succ]
    omega
  have fP : Fit 41 P := by
    have e1 : P = X - R := by have := HS.out; omega
    rw [e1]
    exact fX.sub fR
  have gX : Hid (Fit 128 X) := fX.mono (by decide)
  have gY : Hid (Fit 128 Y) := fY.mono (by decide)
  have gQ : Hid (Fit 128 Q) := fQ.mono (by decide)
  have gR : Hid (Fit 128 R) := fR.mono (by decide)
  have gP : Hid (Fit 128 P) := fP.mono (by decide)
  have gL : Hid (R.natAbs < Y.natAbs) := hlt
  clear fX fY fQ fR fP hsum hlt hqb
  have HD : Hid (dvE (cB X) (cM X) (cB Y) (cM Y) = 0 ∧ divB (cB X) (cM X) (cB Y) (cM Y) = cB Q ∧ divM (cB X) (cM X) (cB Y) (cM Y) = cM Q) := ⟨hE, hq1, hq2⟩
  have HM : Hid (dvE (cB X) (cM X) (cB Y) (cM Y) = 0 ∧ modB (cB X) (cM X) (cB Y) (cM Y) = cB R ∧ modM (cB X) (cM X) (cB Y) (cM Y) = cM R) := ⟨hE, hr1, hr2⟩
  clear hE hq1 hq2 hr1 hr2
  have hsg' : Hid (R = 0 ∨ cB R = cB Y) := hsg
  clear hsg HQ HR
  go_enter Tryd.func4, Tryd.ntmps4
  have hW : Below w.heap.size w ((w.alloc (.cells #[.bool (cB X), .slice a1 l1 c1] 24)).alloc (.cells #[.bool (cB Y), .slice a2 l2 c2] 24)) := (box_below w _).alloc (by simp) _
  have z0 := heap_alloc2_old w (.cells #[.bool (cB X), .slice a1 l1 c1] 24) (.cells #[.bool (cB Y), .slice a2 l2 c2] 24)
  have z1 := heap_alloc2_new w (.cells #[.bool (cB X), .slice a1 l1 c1] 24) (.cells #[.bool (cB Y), .slice a2 l2 c2] 24)
  have K := blk2 z0 z1
  have S := ((Sls.nil _).add (h2.below hW)).add (h1.below hW)
  obtain ⟨r0, r1, _, _⟩ := intVarT z0
  clear h1 h2
  go_wp2_with fail
  generalize ((w.alloc (.cells #[.bool (cB X), .slice a1 l1 c1] 24)).alloc (.cells #[.bool (cB Y), .slice a2 l2 c2] 24)) = w1 at *
  clear r0 r1 z0 z1
  refine (small_true gX.out (S.get 0 rfl) m1).mono ?_
  rintro e wa1 ⟨rfl, hb2⟩
  replace K := K.below hb2
  replace S := S.below hb2
  replace hW := below_size hW (Nat.le_refl _) hb2
  clear hb2
  obtain ⟨r0, r1, _, _⟩ := intVarT (K.get 1 rfl)
  go_wp2_with fail
  refine (small_true gY.out (S.get 1 rfl) m2).mono ?_
  rintro e wa2 ⟨rfl, hb2⟩
  replace K := K.below hb2
  replace S := S.below hb2
  replace hW := below_size hW (Nat.le_refl _) hb2
  clear hb2
  clear r0 r1
  obtain ⟨r0, r1, _, _⟩ := intVarT (K.get 0 rfl)
  obtain ⟨r2, r3, _, _⟩ := intVarT (K.get 1 rfl)
  go_wp2_with fail
  refine (lgiven_any (cB X) (S.get 0 rfl) (by omega)).mono ?_
  rintro e wa3 ⟨av3, cv3, rfl, hI, hb2⟩
  replace K := (K.below hb2).add (.cells #[.bool (cB X), .slice av3 l1 cv3] 27)
  replace S := ((S.below hb2).add hI).below (alloc_below wa3 (.cells #[.bool (cB X), .slice av3 l1 cv3] 27))
  replace hW := below_size (below_size hW (Nat.le_refl _) hb2) (Nat.le_refl _) (alloc_below wa3 (.cells #[.bool (cB X), .slice av3 l1 cv3] 27))
  clear hb2 hI
  clear r0 r1 r2 r3
  obtain ⟨r0, r1, _, _⟩ := intVarT (K.get 2 rfl)
  go_wp2_with fail
  generalize hq3 : wa3.alloc (.cells #[.bool (cB X), .slice av3 l1 cv3] 27) = wb3 at *
  clear hq3
  generalize wa3.heap.size = i3 at *
  refine (lgiven_any (cB Y) (S.get 2 rfl) (by omega)).mono ?_
  rintro e wa4 ⟨av4, cv4, rfl, hI, hb2⟩
  replace K := (K.below hb2).add (.cells #[.bool (cB Y), .slice av4 l2 cv4] 27)
  replace S := ((S.below hb2).add hI).below (alloc_below wa4 (.cells #[.bool (cB Y), .slice av4 l2 cv4] 27))
  replace hW := below_size (below_size hW (Nat.le_refl _) hb2) (Nat.le_refl _) (alloc_below wa4 (.cells #[.bool (cB Y), .slice av4 l2 cv4] 27))
  clear hb2 hI
  clear r0 r1
  obtain ⟨r0, r1, _, _⟩ := intVarT (K.get 1 rfl)
  obtain ⟨r2, r3, _, _⟩ := intVarT (K.get 0 rfl)
  go_wp2_with fail
  generalize hq4 : wa4.alloc (.cells #[.bool (cB Y), .slice av4 l2 cv4] 27) = wb4 at *
  clear hq4
  generalize wa4.heap.size = i4 at *
  refine (ldiv_to HD (S.get 1 rfl) (S.get 0 rfl)).mono ?_
  rintro e wa5 ⟨av5, lv5, cv5, rfl, hI, hb2⟩
  replace K := (K.below hb2).add (.cells #[.bool (cB Q), .slice av5 lv5 cv5] 27)
  replace S := ((S.below hb2).add hI).below (alloc_below wa5 (.cells #[.bool (cB Q), .slice av5 lv5 cv5] 27))
  replace hW := below_size (below_size hW (Nat.le_refl _) hb2) (Nat.le_refl _) (alloc_below wa5 (.cells #[.bool (cB Q), .slice av5 lv5 cv5] 27))
  clear hb2 hI
  clear r0 r1 r2 r3
  obtain ⟨r0, r1, _, _⟩ := intVarT (K.get 2 rfl)
  obtain ⟨r2, r3, _, _⟩ := intVarT (K.get 1 rfl)
  go_wp2_with fail
  generalize hq5 : wa5.alloc (.cells #[.bool (cB Q), .slice av5 lv5 cv5] 27) = wb5 at *
  clear hq5
  generalize wa5.heap.size = i5 at *
  refine (lmod_to HM (S.get 2 rfl) (S.get 1 rfl)).mono ?_
  rintro e wa6 ⟨av6, lv6, cv6, rfl, hI, hb2⟩
  replace K := (K.below hb2).add (.cells #[.bool (cB R), .slice av6 lv6 cv6] 27)
  replace S := ((S.below hb2).add hI).below (alloc_below wa6 (.cells #[.bool (cB R), .slice av6 lv6 cv6] 27))
  replace hW := below_size (below_size hW (Nat.le_refl _) hb2) (Nat.le_refl _) (alloc_below wa6 (.cells #[.bool (cB R), .slice av6 lv6 cv6] 27))
  clear hb2 hI
  clear r0 r1 r2 r3
  obtain ⟨r0, r1, _, _⟩ := intVarT (K.get 1 rfl)
  obtain ⟨r2, r3, _, _⟩ := intVarT (K.get 2 rfl)
  go_wp2_with fail
  generalize hq6 : wa6.alloc (.cells #[.bool (cB R), .slice av6 lv6 cv6] 27) = wb6 at *
  clear hq6
  generalize wa6.heap.size = i6 at *
  refine (lprod_to HP (S.get 1 rfl) (S.get 2 rfl) gQ.out gY.out gP.out).mono ?_
  rintro e wa7 ⟨av7, lv7, cv7, rfl, hI, hb2⟩
  replace K := (K.below hb2).add (.cells #[.bool (cB P), .slice av7 lv7 cv7] 27)
  replace S := ((S.below hb2).add hI).below (alloc_below wa7 (.cells #[.bool (cB P), .slice av7 lv7 cv7] 27))
  replace hW := below_size (below_size hW (Nat.le_refl _) hb2) (Nat.le_refl _) (alloc_below wa7 (.cells #[.bool (cB P), .slice av7 lv7 cv7] 27))
  clear hb2 hI
  clear r0 r1 r2 r3
  obtain ⟨r0, r1, _, _⟩ := intVarT (K.get 0 rfl)
  obtain ⟨r2, r3, _, _⟩ := intVarT (K.get 1 rfl)
  go_wp2_with fail
  generalize hq7 : wa7.alloc (.cells #[.bool (cB P), .slice av7 lv7 cv7] 27) = wb7 at *
  clear hq7
  generalize wa7.heap.size = i7 at *
  refine (lsum_to HS (S.get 0 rfl) (S.get 1 rfl) gP.out gR.out gX.out).mono ?_
  rintro e wa8 ⟨av8, lv8, cv8, rfl, hI, hb2⟩
  replace K := (K.below hb2).add (.cells #[.bool (cB X), .slice av8 lv8 cv8] 27)
  replace S := ((S.below hb2).add hI).below (alloc_below wa8 (.cells #[.bool (cB X), .slice av8 lv8 cv8] 27))
  replace hW := below_size (below_size hW (Nat.le_refl _) hb2) (Nat.le_refl _) (alloc_below wa8 (.cells #[.bool (cB X), .slice av8 lv8 cv8] 27))
  clear hb2 hI
  clear r0 r1 r2 r3
  obtain ⟨r0, r1, _, _⟩ := intVarT (K.get 0 rfl)
  obtain ⟨r2, r3, _, _⟩ := intVarT (K.get 5 rfl)
  go_wp2_with fail
  generalize hq8 : wa8.alloc (.cells #[.bool (cB X), .slice av8 lv8 cv8] 27) = wb8 at *
  clear hq8
  generalize wa8.heap.size = i8 at *
  refine (lsame_true rfl (S.get 0 rfl) (S.get 5 rfl)).mono ?_
  rintro e wa9 ⟨rfl, hb2⟩
  replace K := K.below hb2
  replace S := S.below hb2
  replace hW := below_size hW (Nat.le_refl _) hb2
  clear hb2
  clear r0 r1 r2 r3
  obtain ⟨r0, r1, _, _⟩ := intVarT (K.get 2 rfl)
  go_wp2_with fail
  refine (ltaken_to (S.get 2 rfl)).mono ?_
  rintro e wa10 ⟨av10, lv10, cv10, rfl, hI, hb2⟩
  replace K := (K.below hb2).add (.cells #[.bool (cB R), .slice av10 lv10 cv10] 24)
  replace S := ((S.below hb2).add hI).below (alloc_below wa10 (.cells #[.bool (cB R), .slice av10 lv10 cv10] 24))
  replace hW := below_size (below_size hW (Nat.le_refl _) hb2) (Nat.le_refl _) (alloc_below wa10 (.cells #[.bool (cB R), .slice av10 lv10 cv10] 24))
  clear hb2 hI
  have ik := S.get 0 rfl
  have iy := S.get 8 rfl
  have b1 := alloc_below (wa10.alloc (.cells #[.bool (cB R), .slice av10 lv10 cv10] 24)) (.cells #[.bool false, .slice av10 lv10 cv10] 24)
  have b2 := alloc_below ((wa10.alloc (.cells #[.bool (cB R), .slice av10 lv10 cv10] 24)).alloc (.cells #[.bool false, .slice av10 lv10 cv10] 24)) (.cells #[.bool false, .slice a2 l2 c2] 24)
  have K1 := K
  have K2 := K.below b1
  have K3 := (K.below b1).below b2
  clear K S
  by_cases hR : R = 0
  · have hk0 : lv10 = 0 := by rw [← ik.size, hR]; decide
    subst hk0
    clear hR hsg'
    obtain ⟨r0, r1, _, _⟩ := intVarT (K1.get 0 rfl)
    obtain ⟨r2, r3, _, _⟩ := intVarT (K1.get 8 rfl)
    obtain ⟨q0, q1, _, _⟩ := intVarT (K2.get 0 rfl)
    obtain ⟨q2, q3, _, _⟩ := intVarT (K2.get 8 rfl)
    obtain ⟨s0, s1, _, _⟩ := intVarT (K3.get 0 rfl)
    obtain ⟨s2, s3, _, _⟩ := intVarT (K3.get 8 rfl)
    clear K1 K2 K3
    go_wp2_with fail
    refine (lnear_to gR.out gY.out gL.out ((ik.below b1).below b2) ((iy.below b1).below b2)).mono ?_
    rintro e w15 ⟨rfl, hb15⟩
    have hB15 := below_size (below_size (below_size hW (Nat.le_refl _) b1) (Nat.le_refl _) b2) (Nat.le_refl _) hb15
    go_wp2_with fail
    refine (known_true _).mono ?_
    rintro e w17 ⟨rfl, hb17⟩
    have hB17 := below_size hB15 (Nat.le_refl _) hb17
    go_wp2
    go_ret
    exact ⟨rfl, hB17⟩
  · have hcc : (cB R == cB Y) = true := by rw [hsg'.out.resolve_left hR]; simp
    have hkl : ((lv10 : Int) == 0) = false := by
      have hne : lv10 ≠ 0 := by
        rw [← ik.size]
        obtain ⟨b, r, e, _⟩ := mag_first R.natAbs (by omega)
        have e' : cM R = b :: r := e
        rw [e']; simp
      simpa using hne
    clear hR hsg'
    obtain ⟨r0, r1, _, _⟩ := intVarT (K1.get 0 rfl)
    obtain ⟨r2, r3, _, _⟩ := intVarT (K1.get 8 rfl)
    obtain ⟨q0, q1, _, _⟩ := intVarT (K2.get 0 rfl)
    obtain ⟨q2, q3, _, _⟩ := intVarT (K2.get 8 rfl)
    obtain ⟨s0, s1, _, _⟩ := intVarT (K3.get 0 rfl)
    obtain ⟨s2, s3, _, _⟩ := intVarT (K3.get 8 rfl)
    clear K1 K2 K3
    go_wp2_with fail
    refine (lnear_to gR.out gY.out gL.out ((ik.below b1).below b2) ((iy.below b1).below b2)).mono ?_
    rintro e w15 ⟨rfl, hb15⟩
    have hB15 := below_size (below_size (below_size hW (Nat.le_refl _) b1) (Nat.le_refl _) b2) (Nat.le_refl _) hb15
    go_wp2_with fail
    refine (known_true _).mono ?_
    rintro e w17 ⟨rfl, hb17⟩
    have hB17 := below_size hB15 (Nat.le_refl _) hb17
    go_wp2
    go_ret
    exact ⟨rfl, hB17⟩

set_option maxRecDepth 100000 in
set_option maxHeartbeats 8000000 in
theorem left_law {a1 a2 : Option Addr} {l1 l2 c1 c2 : Nat} {xs ys : List Int} {w : World} (n1 n2 : Bool) (h1 : IsB w a1 l1 c1 xs) (h2 : IsB w a2 l2 c2 ys) :
    Calls Tryd.prog 4 #[.agg #[.bool n1, .slice a1 l1 c1], .agg #[.bool n2, .slice a2 l2 c2]] w fun e w' => e = .returned (.bool true) ∧ Below w.heap.size w w' := by
  by_cases hall : ((rightB n1 xs && decide (l1 ≤ 40)) = true) ∧ ((rightB n2 ys && decide (l2 ≤ 40)) = true) ∧ l2 ≠ 0
  · obtain ⟨s1, s2, s3⟩ := hall
    rw [Bool.and_eq_true] at s1 s2
    have m1 := of_decide_eq_true s1.2
    have m2 := of_decide_eq_true s2.2
    obtain ⟨e1, e2⟩ := can_right s1.1 h1.byte
    obtain ⟨e3, e4⟩ := can_right s2.1 h2.byte
    rw [e2] at h1
    rw [e4] at h2
    have r := left_small h1 h2 m1 m2 s3
    rw [← e1, ← e3] at r
    exact r
  · have hW : Below w.heap.size w ((w.alloc (.cells #[.bool n1, .slice a1 l1 c1] 24)).alloc (.cells #[.bool n2, .slice a2 l2 c2] 24)) := (box_below w _).alloc (by simp) _
    have z0 := heap_alloc2_old w (.cells #[.bool n1, .slice a1 l1 c1] 24) (.cells #[.bool n2, .slice a2 l2 c2] 24)
    have z1 := heap_alloc2_new w (.cells #[.bool n1, .slice a1 l1 c1] 24) (.cells #[.bool n2, .slice a2 l2 c2] 24)
    have K := blk2 z0 z1
    have S := ((Sls.nil _).add (h2.below hW)).add (h1.below hW)
    clear h1 h2
    obtain ⟨b1, q1⟩ : ∃ b, (rightB n1 xs && decide (l1 ≤ 40)) = b := ⟨_, rfl⟩
    obtain ⟨b2, q2⟩ : ∃ b, (rightB n2 ys && decide (l2 ≤ 40)) = b := ⟨_, rfl⟩
    rw [q1, q2] at hall
    go_enter Tryd.func4, Tryd.ntmps4
    obtain ⟨r0, r1, _, _⟩ := intVarT z0
    go_wp2_with fail
    generalize ((w.alloc (.cells #[.bool n1, .slice a1 l1 c1] 24)).alloc (.cells #[.bool n2, .slice a2 l2 c2] 24)) = w1 at *
    clear r0 r1 z0 z1
    refine (small_to n1 (S.get 0 rfl) q1).mono ?_
    rintro e w2 ⟨rfl, hb2⟩
    replace K := K.below hb2
    replace S := S.below hb2
    replace hW := below_size hW (Nat.le_refl _) hb2
    clear hb2
    cases b1 with
    | false =>
      go_wp2_with fail
      refine (known_true _).mono ?_
      rintro e w17 ⟨rfl, hb17⟩
      have hB17 := below_size hW (Nat.le_refl _) hb17
      go_wp2
      go_ret
      exact ⟨rfl, hB17⟩
    | true =>
      obtain ⟨r0, r1, _, _⟩ := intVarT (K.get 1 rfl)
      go_wp2_with fail
      refine (small_to n2 (S.get 1 rfl) q2).mono ?_
      rintro e w3 ⟨rfl, hb2⟩
      replace K := K.below hb2
      replace hW := below_size hW (Nat.le_refl _) hb2
      clear hb2 r0 r1
      cases b2 with
      | false =>
        go_wp2_with fail
        refine (known_true _).mono ?_
        rintro e w17 ⟨rfl, hb17⟩
        have hB17 := below_size hW (Nat.le_refl _) hb17
        go_wp2
        go_ret
        exact ⟨rfl, hB17⟩
      | true =>
        have hl0 : l2 = 0 := by simpa using hall
        subst hl0
        obtain ⟨r0, r1, _, _⟩ := intVarT (K.get 1 rfl)
        go_wp2_with fail
        refine (known_true _).mono ?_
        rintro e w17 ⟨rfl, hb17⟩
        have hB17 := below_size hW (Nat.le_refl _) hb17
        go_wp2
        go_ret
        exact ⟨rfl, hB17⟩
end Go.Proofs.YtgammgdckneoiacDoor
