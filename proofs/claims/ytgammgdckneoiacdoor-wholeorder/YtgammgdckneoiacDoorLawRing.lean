/- The walk of WholeRing: sums and products in any order. -/
import Derived.Test.YtgammgdckneoiacDoorBag2
namespace Go.Proofs.YtgammgdckneoiacDoor
open Go.RowKit

theorem blk3 {w : World} {b0 b1 b2 : Nat} {o0 o1 o2 : Obj} (h0 : w.heap[b0]? = some o0) (h1 : w.heap[b1]? = some o1) (h2 : w.heap[b2]? = some o2) : Blk w [(b0, o0), (b1, o1), (b2, o2)] := by
  intro p hp
  simp at hp
  rcases hp with rfl | rfl | rfl
  · exact h0
  · exact h1
  · exact h2
theorem fit_len {k : Nat} {x : Int} (h : (cM x).length ≤ k) : Fit k x := by
  unfold cM at h
  rw [mag_len] at h
  exact (blen_le _ _).1 h

set_option maxRecDepth 100000 in
set_option maxHeartbeats 16000000 in
theorem ring_small {a1 a2 a3 : Option Addr} {l1 l2 l3 c1 c2 c3 : Nat} {X Y U : Int} {w : World} (h1 : IsB w a1 l1 c1 (cM X)) (h2 : IsB w a2 l2 c2 (cM Y)) (h3 : IsB w a3 l3 c3 (cM U)) (m1 : l1 ≤ 40) (m2 : l2 ≤ 40) (m3 : l3 ≤ 40) :
    Calls Tryd.prog 3 #[.agg #[.bool (cB X), .slice a1 l1 c1], .agg #[.bool (cB Y), .slice a2 l2 c2], .agg #[.bool (cB U), .slice a3 l3 c3]] w fun e w' => e = .returned (.bool true) ∧ Below w.heap.size w w' := by
  have fX : Fit 40 X := fit_len (by rw [h1.size]; exact m1)
  have fY : Fit 40 Y := fit_len (by rw [h2.size]; exact m2)
  have fU : Fit 40 U := fit_len (by rw [h3.size]; exact m3)
  obtain ⟨AB, HAB⟩ : ∃ z, Hid (X + Y = z) := ⟨_, rfl⟩
  obtain ⟨BA, HBA⟩ : ∃ z, Hid (Y + X = z) := ⟨_, rfl⟩
  obtain ⟨BC, HBC⟩ : ∃ z, Hid (Y + U = z) := ⟨_, rfl⟩
  obtain ⟨LL, HLL⟩ : ∃ z, Hid (AB + U = z) := ⟨_, rfl⟩
  obtain ⟨RR, HRR⟩ : ∃ z, Hid (X + BC = z) := ⟨_, rfl⟩
  obtain ⟨P, HP⟩ : ∃ z, Hid (X * Y = z) := ⟨_, rfl⟩
  obtain ⟨Q, HQ⟩ : ∃ z, Hid (Y * X = z) := ⟨_, rfl⟩
  obtain ⟨M, HM⟩ : ∃ z, Hid (X * BC = z) := ⟨_, rfl⟩
  obtain ⟨NN, HNN⟩ : ∃ z, Hid (X * U = z) := ⟨_, rfl⟩
  obtain ⟨PN, HPN⟩ : ∃ z, Hid (P + NN = z) := ⟨_, rfl⟩
  obtain ⟨DD, HDD⟩ : ∃ z, Hid (AB - Y = z) := ⟨_, rfl⟩
  have fAB : Fit 41 AB := by rw [← HAB.out]; exact fX.add fY
  have fBA : Fit 41 BA := by rw [← HBA.out]; exact fY.add fX
  have fBC : Fit 41 BC := by rw [← HBC.out]; exact fY.add fU
  have fLL : Fit 42 LL := by rw [← HLL.out]; exact fAB.add (fU.mono (by decide))
  have fRR : Fit 42 RR := by rw [← HRR.out]; exact (fX.mono (by decide)).add fBC
  have fP : Fit 80 P := by rw [← HP.out]; exact fX.mul fY
  have fQ : Fit 80 Q := by rw [← HQ.out]; exact fY.mul fX
  have fM : Fit 81 M := by rw [← HM.out]; exact fX.mul fBC
  have fNN : Fit 80 NN := by rw [← HNN.out]; exact fX.mul fU
  have fPN : Fit 81 PN := by rw [← HPN.out]; exact fP.add fNN
  have fDD : Fit 42 DD := by rw [← HDD.out]; exact fAB.sub (fY.mono (by decide))
  have E1 : Hid (AB = BA) := by show _ = _; rw [← HAB.out, ← HBA.out, Int.add_comm]
  have E2 : Hid (LL = RR) := by show _ = _; rw [← HLL.out, ← HRR.out, ← HAB.out, ← HBC.out, Int.add_assoc]
  have E3 : Hid (P = Q) := by show _ = _; rw [← HP.out, ← HQ.out, Int.mul_comm]
  have E4 : Hid (M = PN) := by show _ = _; rw [← HM.out, ← HPN.out, ← HP.out, ← HNN.out, ← HBC.out, Int.mul_add]
  have E5 : Hid (DD = X) := by show _ = _; rw [← HDD.out, ← HAB.out]; omega
  have gX : Hid (Fit 128 X) := fX.mono (by decide)
  have gY : Hid (Fit 128 Y) := fY.mono (by decide)
  have gU : Hid (Fit 128 U) := fU.mono (by decide)
  have gAB : Hid (Fit 128 AB) := fAB.mono (by decide)
  have gBA : Hid (Fit 128 BA) := fBA.mono (by decide)
  have gBC : Hid (Fit 128 BC) := fBC.mono (by decide)
  have gLL : Hid (Fit 128 LL) := fLL.mono (by decide)
  have gRR : Hid (Fit 128 RR) := fRR.mono (by decide)
  have gP : Hid (Fit 128 P) := fP.mono (by decide)
  have gQ : Hid (Fit 128 Q) := fQ.mono (by decide)
  have gM : Hid (Fit 128 M) := fM.mono (by decide)
  have gNN : Hid (Fit 128 NN) := fNN.mono (by decide)
  have gPN : Hid (Fit 128 PN) := fPN.mono (by decide)
  have gDD : Hid (Fit 128 DD) := fDD.mono (by decide)
  clear fX fY fU fAB fBA fBC fLL fRR fP fQ fM fNN fPN fDD
  go_enter Tryd.func3, Tryd.ntmps3
  obtain ⟨z0, z1, z2, hW, hs3⟩ := alloc3 w (.cells #[.bool (cB X), .slice a1 l1 c1] 24) (.cells #[.bool (cB Y), .slice a2 l2 c2] 24) (.cells #[.bool (cB U), .slice a3 l3 c3] 24)
  have K := blk3 z0 z1 z2
  have S := ((Sls.nil _).add (h3.below hW)).add (h2.below hW) |>.add (h1.below hW)
  obtain ⟨r0, r1, _, _⟩ := intVarT z0
  clear hs3 h1 h2 h3
  go_wp2_with fail
  generalize (((w.alloc (.cells #[.bool (cB X), .slice a1 l1 c1] 24)).alloc (.cells #[.bool (cB Y), .slice a2 l2 c2] 24)).alloc (.cells #[.bool (cB U), .slice a3 l3 c3] 24)) = w1 at *
  clear r0 r1 z0 z1 z2
  refine (small_true gX.out (S.get 0 rfl) m1).mono ?_
  rintro e wa1 ⟨rfl, hb2⟩
  replace K := K.below hb2
  replace S := S.below hb2
  replace hW := below_size hW (Nat.le_refl _) hb2
  clear hb2
  obtain ⟨r0, r1, _, _⟩ := intVarT (K.get 1 rfl)
  go_wp2_with fail
  refine (small_true gY.out (S.get 1 rfl) m2).mono ?_
  rintro e wa2 ⟨rfl, hb2⟩
  replace K := K.below hb2
  replace S := S.below hb2
  replace hW := below_size hW (Nat.le_refl _) hb2
  clear hb2
  clear r0 r1
  obtain ⟨r0, r1, _, _⟩ := intVarT (K.get 2 rfl)
  go_wp2_with fail
  refine (small_true gU.out (S.get 2 rfl) m3).mono ?_
  rintro e wa3 ⟨rfl, hb2⟩
  replace K := K.below hb2
  replace S := S.below hb2
  replace hW := below_size hW (Nat.le_refl _) hb2
  clear hb2
  clear r0 r1
  obtain ⟨r0, r1, _, _⟩ := intVarT (K.get 0 rfl)
  go_wp2_with fail
  refine (lgiven_any (cB X) (S.get 0 rfl) (by omega)).mono ?_
  rintro e wa4 ⟨av4, cv4, rfl, hI, hb2⟩
  replace K := (K.below hb2).add (.cells #[.bool (cB X), .slice av4 l1 cv4] 27)
  replace S := ((S.below hb2).add hI).below (alloc_below wa4 (.cells #[.bool (cB X), .slice av4 l1 cv4] 27))
  replace hW := below_size (below_size hW (Nat.le_refl _) hb2) (Nat.le_refl _) (alloc_below wa4 (.cells #[.bool (cB X), .slice av4 l1 cv4] 27))
  clear hb2 hI
  clear r0 r1
  obtain ⟨r0, r1, _, _⟩ := intVarT (K.get 2 rfl)
  go_wp2_with fail
  generalize hq4 : wa4.alloc (.cells #[.bool (cB X), .slice av4 l1 cv4] 27) = wb4 at *
  clear hq4
  generalize wa4.heap.size = i4 at *
  refine (lgiven_any (cB Y) (S.get 2 rfl) (by omega)).mono ?_
  rintro e wa5 ⟨av5, cv5, rfl, hI, hb2⟩
  replace K := (K.below hb2).add (.cells #[.bool (cB Y), .slice av5 l2 cv5] 27)
  replace S := ((S.below hb2).add hI).below (alloc_below wa5 (.cells #[.bool (cB Y), .slice av5 l2 cv5] 27))
  replace hW := below_size (below_size hW (Nat.le_refl _) hb2) (Nat.le_refl _) (alloc_below wa5 (.cells #[.bool (cB Y), .slice av5 l2 cv5] 27))
  clear hb2 hI
  clear r0 r1
  obtain ⟨r0, r1, _, _⟩ := intVarT (K.get 4 rfl)
  go_wp2_with fail
  generalize hq5 : wa5.alloc (.cells #[.bool (cB Y), .slice av5 l2 cv5] 27) = wb5 at *
  clear hq5
  generalize wa5.heap.size = i5 at *
  refine (lgiven_any (cB U) (S.get 4 rfl) (by omega)).mono ?_
  rintro e wa6 ⟨av6, cv6, rfl, hI, hb2⟩
  replace K := (K.below hb2).add (.cells #[.bool (cB U), .slice av6 l3 cv6] 27)
  replace S := ((S.below hb2).add hI).below (alloc_below wa6 (.cells #[.bool (cB U), .slice av6 l3 cv6] 27))
  replace hW := below_size (below_size hW (Nat.le_refl _) hb2) (Nat.le_refl _) (alloc_below wa6 (.cells #[.bool (cB U), .slice av6 l3 cv6] 27))
  clear hb2 hI
  clear r0 r1
  obtain ⟨r0, r1, _, _⟩ := intVarT (K.get 2 rfl)
  obtain ⟨r2, r3, _, _⟩ := intVarT (K.get 1 rfl)
  go_wp2_with fail
  generalize hq6 : wa6.alloc (.cells #[.bool (cB U), .slice av6 l3 cv6] 27) = wb6 at *
  clear hq6
  generalize wa6.heap.size = i6 at *
  refine (lsum_to HAB (S.get 2 rfl) (S.get 1 rfl) gX.out gY.out gAB.out).mono ?_
  rintro e wa7 ⟨av7, lv7, cv7, rfl, hI, hb2⟩
  replace K := (K.below hb2).add (.cells #[.bool (cB AB), .slice av7 lv7 cv7] 27)
  replace S := ((S.below hb2).add hI).below (alloc_below wa7 (.cells #[.bool (cB AB), .slice av7 lv7 cv7] 27))
  replace hW := below_size (below_size hW (Nat.le_refl _) hb2) (Nat.le_refl _) (alloc_below wa7 (.cells #[.bool (cB AB), .slice av7 lv7 cv7] 27))
  clear hb2 hI
  clear r0 r1 r2 r3
  obtain ⟨r0, r1, _, _⟩ := intVarT (K.get 2 rfl)
  obtain ⟨r2, r3, _, _⟩ := intVarT (K.get 3 rfl)
  go_wp2_with fail
  generalize hq7 : wa7.alloc (.cells #[.bool (cB AB), .slice av7 lv7 cv7] 27) = wb7 at *
  clear hq7
  generalize wa7.heap.size = i7 at *
  refine (lsum_to HBA (S.get 2 rfl) (S.get 3 rfl) gY.out gX.out gBA.out).mono ?_
  rintro e wa8 ⟨av8, lv8, cv8, rfl, hI, hb2⟩
  replace K := (K.below hb2).add (.cells #[.bool (cB BA), .slice av8 lv8 cv8] 27)
  replace S := ((S.below hb2).add hI).below (alloc_below wa8 (.cells #[.bool (cB BA), .slice av8 lv8 cv8] 27))
  replace hW := below_size (below_size hW (Nat.le_refl _) hb2) (Nat.le_refl _) (alloc_below wa8 (.cells #[.bool (cB BA), .slice av8 lv8 cv8] 27))
  clear hb2 hI
  clear r0 r1 r2 r3
  obtain ⟨r0, r1, _, _⟩ := intVarT (K.get 3 rfl)
  obtain ⟨r2, r3, _, _⟩ := intVarT (K.get 2 rfl)
  go_wp2_with fail
  generalize hq8 : wa8.alloc (.cells #[.bool (cB BA), .slice av8 lv8 cv8] 27) = wb8 at *
  clear hq8
  generalize wa8.heap.size = i8 at *
  refine (lsum_to HBC (S.get 3 rfl) (S.get 2 rfl) gY.out gU.out gBC.out).mono ?_
  rintro e wa9 ⟨av9, lv9, cv9, rfl, hI, hb2⟩
  replace K := (K.below hb2).add (.cells #[.bool (cB BC), .slice av9 lv9 cv9] 27)
  replace S := ((S.below hb2).add hI).below (alloc_below wa9 (.cells #[.bool (cB BC), .slice av9 lv9 cv9] 27))
  replace hW := below_size (below_size hW (Nat.le_refl _) hb2) (Nat.le_refl _) (alloc_below wa9 (.cells #[.bool (cB BC), .slice av9 lv9 cv9] 27))
  clear hb2 hI
  clear r0 r1 r2 r3
  obtain ⟨r0, r1, _, _⟩ := intVarT (K.get 2 rfl)
  obtain ⟨r2, r3, _, _⟩ := intVarT (K.get 3 rfl)
  go_wp2_with fail
  generalize hq9 : wa9.alloc (.cells #[.bool (cB BC), .slice av9 lv9 cv9] 27) = wb9 at *
  clear hq9
  generalize wa9.heap.size = i9 at *
  refine (lsum_to HLL (S.get 2 rfl) (S.get 3 rfl) gAB.out gU.out gLL.out).mono ?_
  rintro e wa10 ⟨av10, lv10, cv10, rfl, hI, hb2⟩
  replace K := (K.below hb2).add (.cells #[.bool (cB LL), .slice av10 lv10 cv10] 27)
  replace S := ((S.below hb2).add hI).below (alloc_below wa10 (.cells #[.bool (cB LL), .slice av10 lv10 cv10] 27))
  replace hW := below_size (below_size hW (Nat.le_refl _) hb2) (Nat.le_refl _) (alloc_below wa10 (.cells #[.bool (cB LL), .slice av10 lv10 cv10] 27))
  clear hb2 hI
  clear r0 r1 r2 r3
  obtain ⟨r0, r1, _, _⟩ := intVarT (K.get 6 rfl)
  obtain ⟨r2, r3, _, _⟩ := intVarT (K.get 1 rfl)
  go_wp2_with fail
  generalize hq10 : wa10.alloc (.cells #[.bool (cB LL), .slice av10 lv10 cv10] 27) = wb10 at *
  clear hq10
  generalize wa10.heap.size = i10 at *
  refine (lsum_to HRR (S.get 6 rfl) (S.get 1 rfl) gX.out gBC.out gRR.out).mono ?_
  rintro e wa11 ⟨av11, lv11, cv11, rfl, hI, hb2⟩
  replace K := (K.below hb2).add (.cells #[.bool (cB RR), .slice av11 lv11 cv11] 27)
  replace S := ((S.below hb2).add hI).below (alloc_below wa11 (.cells #[.bool (cB RR), .slice av11 lv11 cv11] 27))
  replace hW := below_size (below_size hW (Nat.le_refl _) hb2) (Nat.le_refl _) (alloc_below wa11 (.cells #[.bool (cB RR), .slice av11 lv11 cv11] 27))
  clear hb2 hI
  clear r0 r1 r2 r3
  obtain ⟨r0, r1, _, _⟩ := intVarT (K.get 7 rfl)
  obtain ⟨r2, r3, _, _⟩ := intVarT (K.get 6 rfl)
  go_wp2_with fail
  generalize hq11 : wa11.alloc (.cells #[.bool (cB RR), .slice av11 lv11 cv11] 27) = wb11 at *
  clear hq11
  generalize wa11.heap.size = i11 at *
  refine (lprod_to HP (S.get 7 rfl) (S.get 6 rfl) gX.out gY.out gP.out).mono ?_
  rintro e wa12 ⟨av12, lv12, cv12, rfl, hI, hb2⟩
  replace K := (K.below hb2).add (.cells #[.bool (cB P), .slice av12 lv12 cv12] 27)
  replace S := ((S.below hb2).add hI).below (alloc_below wa12 (.cells #[.bool (cB P), .slice av12 lv12 cv12] 27))
  replace hW := below_size (below_size hW (Nat.le_refl _) hb2) (Nat.le_refl _) (alloc_below wa12 (.cells #[.bool (cB P), .slice av12 lv12 cv12] 27))
  clear hb2 hI
  clear r0 r1 r2 r3
  obtain ⟨r0, r1, _, _⟩ := intVarT (K.get 7 rfl)
  obtain ⟨r2, r3, _, _⟩ := intVarT (K.get 8 rfl)
  go_wp2_with fail
  generalize hq12 : wa12.alloc (.cells #[.bool (cB P), .slice av12 lv12 cv12] 27) = wb12 at *
  clear hq12
  generalize wa12.heap.size = i12 at *
  refine (lprod_to HQ (S.get 7 rfl) (S.get 8 rfl) gY.out gX.out gQ.out).mono ?_
  rintro e wa13 ⟨av13, lv13, cv13, rfl, hI, hb2⟩
  replace K := (K.below hb2).add (.cells #[.bool (cB Q), .slice av13 lv13 cv13] 27)
  replace S := ((S.below hb2).add hI).below (alloc_below wa13 (.cells #[.bool (cB Q), .slice av13 lv13 cv13] 27))
  replace hW := below_size (below_size hW (Nat.le_refl _) hb2) (Nat.le_refl _) (alloc_below wa13 (.cells #[.bool (cB Q), .slice av13 lv13 cv13] 27))
  clear hb2 hI
  clear r0 r1 r2 r3
  obtain ⟨r0, r1, _, _⟩ := intVarT (K.get 9 rfl)
  obtain ⟨r2, r3, _, _⟩ := intVarT (K.get 4 rfl)
  go_wp2_with fail
  generalize hq13 : wa13.alloc (.cells #[.bool (cB Q), .slice av13 lv13 cv13] 27) = wb13 at *
  clear hq13
  generalize wa13.heap.size = i13 at *
  refine (lprod_to HM (S.get 9 rfl) (S.get 4 rfl) gX.out gBC.out gM.out).mono ?_
  rintro e wa14 ⟨av14, lv14, cv14, rfl, hI, hb2⟩
  replace K := (K.below hb2).add (.cells #[.bool (cB M), .slice av14 lv14 cv14] 27)
  replace S := ((S.below hb2).add hI).below (alloc_below wa14 (.cells #[.bool (cB M), .slice av14 lv14 cv14] 27))
  replace hW := below_size (below_size hW (Nat.le_refl _) hb2) (Nat.le_refl _) (alloc_below wa14 (.cells #[.bool (cB M), .slice av14 lv14 cv14] 27))
  clear hb2 hI
  clear r0 r1 r2 r3
  obtain ⟨r0, r1, _, _⟩ := intVarT (K.get 10 rfl)
  obtain ⟨r2, r3, _, _⟩ := intVarT (K.get 8 rfl)
  go_wp2_with fail
  generalize hq14 : wa14.alloc (.cells #[.bool (cB M), .slice av14 lv14 cv14] 27) = wb14 at *
  clear hq14
  generalize wa14.heap.size = i14 at *
  refine (lprod_to HNN (S.get 10 rfl) (S.get 8 rfl) gX.out gU.out gNN.out).mono ?_
  rintro e wa15 ⟨av15, lv15, cv15, rfl, hI, hb2⟩
  replace K := (K.below hb2).add (.cells #[.bool (cB NN), .slice av15 lv15 cv15] 27)
  replace S := ((S.below hb2).add hI).below (alloc_below wa15 (.cells #[.bool (cB NN), .slice av15 lv15 cv15] 27))
  replace hW := below_size (below_size hW (Nat.le_refl _) hb2) (Nat.le_refl _) (alloc_below wa15 (.cells #[.bool (cB NN), .slice av15 lv15 cv15] 27))
  clear hb2 hI
  clear r0 r1 r2 r3
  obtain ⟨r0, r1, _, _⟩ := intVarT (K.get 3 rfl)
  obtain ⟨r2, r3, _, _⟩ := intVarT (K.get 0 rfl)
  go_wp2_with fail
  generalize hq15 : wa15.alloc (.cells #[.bool (cB NN), .slice av15 lv15 cv15] 27) = wb15 at *
  clear hq15
  generalize wa15.heap.size = i15 at *
  refine (lsum_to HPN (S.get 3 rfl) (S.get 0 rfl) gP.out gNN.out gPN.out).mono ?_
  rintro e wa16 ⟨av16, lv16, cv16, rfl, hI, hb2⟩
  replace K := (K.below hb2).add (.cells #[.bool (cB PN), .slice av16 lv16 cv16] 27)
  replace S := ((S.below hb2).add hI).below (alloc_below wa16 (.cells #[.bool (cB PN), .slice av16 lv16 cv16] 27))
  replace hW := below_size (below_size hW (Nat.le_refl _) hb2) (Nat.le_refl _) (alloc_below wa16 (.cells #[.bool (cB PN), .slice av16 lv16 cv16] 27))
  clear hb2 hI
  clear r0 r1 r2 r3
  obtain ⟨r0, r1, _, _⟩ := intVarT (K.get 9 rfl)
  obtain ⟨r2, r3, _, _⟩ := intVarT (K.get 11 rfl)
  go_wp2_with fail
  generalize hq16 : wa16.alloc (.cells #[.bool (cB PN), .slice av16 lv16 cv16] 27) = wb16 at *
  clear hq16
  generalize wa16.heap.size = i16 at *
  refine (lsub_to HDD (S.get 9 rfl) (S.get 11 rfl) gAB.out gY.out gDD.out).mono ?_
  rintro e wa17 ⟨av17, lv17, cv17, rfl, hI, hb2⟩
  replace K := (K.below hb2).add (.cells #[.bool (cB DD), .slice av17 lv17 cv17] 27)
  replace S := ((S.below hb2).add hI).below (alloc_below wa17 (.cells #[.bool (cB DD), .slice av17 lv17 cv17] 27))
  replace hW := below_size (below_size hW (Nat.le_refl _) hb2) (Nat.le_refl _) (alloc_below wa17 (.cells #[.bool (cB DD), .slice av17 lv17 cv17] 27))
  clear hb2 hI
  clear r0 r1 r2 r3
  obtain ⟨r0, r1, _, _⟩ := intVarT (K.get 10 rfl)
  obtain ⟨r2, r3, _, _⟩ := intVarT (K.get 9 rfl)
  go_wp2_with fail
  generalize hq17 : wa17.alloc (.cells #[.bool (cB DD), .slice av17 lv17 cv17] 27) = wb17 at *
  clear hq17
  generalize wa17.heap.size = i17 at *
  refine (lsame_true E1.out (S.get 10 rfl) (S.get 9 rfl)).mono ?_
  rintro e wa18 ⟨rfl, hb2⟩
  replace K := K.below hb2
  replace S := S.below hb2
  replace hW := below_size hW (Nat.le_refl _) hb2
  clear hb2
  clear r0 r1 r2 r3
  obtain ⟨r0, r1, _, _⟩ := intVarT (K.get 7 rfl)
  obtain ⟨r2, r3, _, _⟩ := intVarT (K.get 6 rfl)
  go_wp2_with fail
  refine (lsame_true E2.out (S.get 7 rfl) (S.get 6 rfl)).mono ?_
  rintro e wa19 ⟨rfl, hb2⟩
  replace K := K.below hb2
  replace S := S.below hb2
  replace hW := below_size hW (Nat.le_refl _) hb2
  clear hb2
  clear r0 r1 r2 r3
  obtain ⟨r0, r1, _, _⟩ := intVarT (K.get 5 rfl)
  obtain ⟨r2, r3, _, _⟩ := intVarT (K.get 4 rfl)
  go_wp2_with fail
  refine (lsame_true E3.out (S.get 5 rfl) (S.get 4 rfl)).mono ?_
  rintro e wa20 ⟨rfl, hb2⟩
  replace K := K.below hb2
  replace S := S.below hb2
  replace hW := below_size hW (Nat.le_refl _) hb2
  clear hb2
  clear r0 r1 r2 r3
  obtain ⟨r0, r1, _, _⟩ := intVarT (K.get 3 rfl)
  obtain ⟨r2, r3, _, _⟩ := intVarT (K.get 1 rfl)
  go_wp2_with fail
  refine (lsame_true E4.out (S.get 3 rfl) (S.get 1 rfl)).mono ?_
  rintro e wa21 ⟨rfl, hb2⟩
  replace K := K.below hb2
  replace S := S.below hb2
  replace hW := below_size hW (Nat.le_refl _) hb2
  clear hb2
  clear r0 r1 r2 r3
  obtain ⟨r0, r1, _, _⟩ := intVarT (K.get 0 rfl)
  obtain ⟨r2, r3, _, _⟩ := intVarT (K.get 13 rfl)
  go_wp2_with fail
  refine (lsame_true E5.out (S.get 0 rfl) (S.get 13 rfl)).mono ?_
  rintro e wa22 ⟨rfl, hb2⟩
  replace K := K.below hb2
  replace S := S.below hb2
  replace hW := below_size hW (Nat.le_refl _) hb2
  clear hb2
  clear r0 r1 r2 r3
  go_wp2_with fail
  refine (known_true _).mono ?_
  rintro e w17 ⟨rfl, hb17⟩
  have hB17 := below_size hW (Nat.le_refl _) hb17
  go_wp2
  go_ret
  exact ⟨rfl, hB17⟩

set_option maxRecDepth 100000 in
set_option maxHeartbeats 8000000 in
theorem ring_law {a1 a2 a3 : Option Addr} {l1 l2 l3 c1 c2 c3 : Nat} {xs ys zs : List Int} {w : World} (n1 n2 n3 : Bool) (h1 : IsB w a1 l1 c1 xs) (h2 : IsB w a2 l2 c2 ys) (h3 : IsB w a3 l3 c3 zs) :
    Calls Tryd.prog 3 #[.agg #[.bool n1, .slice a1 l1 c1], .agg #[.bool n2, .slice a2 l2 c2], .agg #[.bool n3, .slice a3 l3 c3]] w fun e w' => e = .returned (.bool true) ∧ Below w.heap.size w w' := by
  by_cases hall : ((rightB n1 xs && decide (l1 ≤ 40)) = true) ∧ ((rightB n2 ys && decide (l2 ≤ 40)) = true) ∧ ((rightB n3 zs && decide (l3 ≤ 40)) = true)
  · obtain ⟨s1, s2, s3⟩ := hall
    rw [Bool.and_eq_true] at s1 s2 s3
    have m1 := of_decide_eq_true s1.2
    have m2 := of_decide_eq_true s2.2
    have m3 := of_decide_eq_true s3.2
    obtain ⟨e1, e2⟩ := can_right s1.1 h1.byte
    obtain ⟨e3, e4⟩ := can_right s2.1 h2.byte
    obtain ⟨e5, e6⟩ := can_right s3.1 h3.byte
    rw [e2] at h1
    rw [e4] at h2
    rw [e6] at h3
    have r := ring_small h1 h2 h3 m1 m2 m3
    rw [← e1, ← e3, ← e5] at r
    exact r
  · obtain ⟨z0, z1, z2, hW, hs3⟩ := alloc3 w (.cells #[.bool n1, .slice a1 l1 c1] 24) (.cells #[.bool n2, .slice a2 l2 c2] 24) (.cells #[.bool n3, .slice a3 l3 c3] 24)
    have K := blk3 z0 z1 z2
    have S := ((Sls.nil _).add (h3.below hW)).add (h2.below hW) |>.add (h1.below hW)
    clear h1 h2 h3 hs3
    obtain ⟨b1, q1⟩ : ∃ b, (rightB n1 xs && decide (l1 ≤ 40)) = b := ⟨_, rfl⟩
    obtain ⟨b2, q2⟩ : ∃ b, (rightB n2 ys && decide (l2 ≤ 40)) = b := ⟨_, rfl⟩
    obtain ⟨b3, q3⟩ : ∃ b, (rightB n3 zs && decide (l3 ≤ 40)) = b := ⟨_, rfl⟩
    rw [q1, q2, q3] at hall
    go_enter Tryd.func3, Tryd.ntmps3
    obtain ⟨r0, r1, _, _⟩ := intVarT z0
    go_wp2_with fail
    generalize (((w.alloc (.cells #[.bool n1, .slice a1 l1 c1] 24)).alloc (.cells #[.bool n2, .slice a2 l2 c2] 24)).alloc (.cells #[.bool n3, .slice a3 l3 c3] 24)) = w1 at *
    clear r0 r1 z0 z1 z2
    refine (small_to n1 (S.get 0 rfl) q1).mono ?_
    rintro e w2 ⟨rfl, hb2⟩
    replace K := K.below hb2
    replace S := S.below hb2
    replace hW := below_size hW (Nat.le_refl _) hb2
    clear hb2
    cases b1 with
    | false =>
      go_wp2_with fail
      refine (known_true _).mono ?_
      rintro e w17 ⟨rfl, hb17⟩
      have hB17 := below_size hW (Nat.le_refl _) hb17
      go_wp2
      go_ret
      exact ⟨rfl, hB17⟩
    | true =>
      obtain ⟨r0, r1, _, _⟩ := intVarT (K.get 1 rfl)
      go_wp2_with fail
      refine (small_to n2 (S.get 1 rfl) q2).mono ?_
      rintro e w3 ⟨rfl, hb2⟩
      replace K := K.below hb2
      replace S := S.below hb2
      replace hW := below_size hW (Nat.le_refl _) hb2
      clear hb2 r0 r1
      cases b2 with
      | false =>
        go_wp2_with fail
        refine (known_true _).mono ?_
        rintro e w17 ⟨rfl, hb17⟩
        have hB17 := below_size hW (Nat.le_refl _) hb17
        go_wp2
        go_ret
        exact ⟨rfl, hB17⟩
      | true =>
        obtain ⟨r0, r1, _, _⟩ := intVarT (K.get 2 rfl)
        go_wp2_with fail
        refine (small_to n3 (S.get 2 rfl) q3).mono ?_
        rintro e w4 ⟨rfl, hb2⟩
        replace hW := below_size hW (Nat.le_refl _) hb2
        clear hb2 r0 r1
        cases b3 with
        | false =>
          go_wp2_with fail
          refine (known_true _).mono ?_
          rintro e w17 ⟨rfl, hb17⟩
          have hB17 := below_size hW (Nat.le_refl _) hb17
          go_wp2
          go_ret
          exact ⟨rfl, hB17⟩
        | true => simp at hall
end Go.Proofs.YtgammgdckneoiacDoor
