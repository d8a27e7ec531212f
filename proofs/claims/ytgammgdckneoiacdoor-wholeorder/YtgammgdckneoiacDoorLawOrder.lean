/- The walk of WholeOrder: an order of numbers. -/
import Derived.Test.YtgammgdckneoiacDoorLawRing
import Derived.Test.YtgammgdckneoiacDoorReg
namespace Go.Proofs.YtgammgdckneoiacDoor
open Go.RowKit

theorem fit0 : Fit 128 0 := by unfold Fit; exact Nat.pow_pos (by decide)
theorem lsame_to {a1 a2 : Option Addr} {l1 l2 c1 c2 : Nat} {x y : Int} {b : Bool} {w : World} (hb : Hid (decide (x = y) = b)) (h1 : IsB w a1 l1 c1 (cM x)) (h2 : IsB w a2 l2 c2 (cM y)) :
    Calls Tryd.prog 12 #[.agg #[.bool (cB x), .slice a1 l1 c1], .agg #[.bool (cB y), .slice a2 l2 c2]] w fun e w' => e = .returned (.bool b) ∧ Below w.heap.size w w' := by
  have := lsame_any h1 h2
  rwa [hb.out] at this
theorem sgnZ_cases (x y : Int) : (x < y ∧ sgnZ x y = -1) ∨ (x = y ∧ sgnZ x y = 0) ∨ (y < x ∧ sgnZ x y = 1) := by
  unfold sgnZ
  split
  · exact .inl ⟨by assumption, rfl⟩
  · split
    · exact .inr (.inl ⟨by assumption, rfl⟩)
    · exact .inr (.inr ⟨by omega, rfl⟩)
theorem order_facts {X Y U DD nn mm yu xu : Int} {bb : Bool} (hD : X - Y = DD) (hn : sgnZ X Y = nn) (hm : sgnZ Y X = mm) (hb : decide (X = Y) = bb) (hyu : sgnZ Y U = yu) (hxu : sgnZ X U = xu) :
    Hid (sgnZ DD 0 = nn) ∧ IntKind.i64.wrap (-nn) = mm ∧ (nn == 0) = bb ∧ -1 ≤ nn ∧ nn ≤ 1 ∧ (¬ nn > 0 → ¬ yu > 0 → xu ≤ 0) := by
  subst hD hb
  have a := sgnZ_cases X Y
  have b := sgnZ_cases Y X
  have c := sgnZ_cases (X - Y) 0
  have d := sgnZ_cases Y U
  have f := sgnZ_cases X U
  rw [hn] at a
  rw [hm] at b
  rw [hyu] at d
  rw [hxu] at f
  refine ⟨by show _ = _; omega, by rw [IntKind.wrap_i64]; omega, ?_, by omega, by omega, by omega⟩
  by_cases h : X = Y
  · rw [decide_eq_true h]
    have : nn = 0 := by omega
    rw [this]; rfl
  · rw [decide_eq_false h]
    have : nn ≠ 0 := by omega
    simpa using this
/-- What the operations yield. -/
def valO (X Y DD nn mm : Int) (bb : Bool) (av4 av5 av7 : Option Addr) (l1 cv4 l2 cv5 lv7 cv7 : Nat) (p46 : Option Addr) (l46 c46 : Nat) (j : Nat) : Value :=
  ([.int .i64 0,
    .bool false,
    .bool false,
    .agg #[.bool (cB DD), .slice av7 lv7 cv7],
    .agg #[.bool (cB 0), .slice p46 l46 c46],
    .int .i64 nn,
    .int .i64 nn,
    .bool false,
    .bool false,
    .bool false,
    .agg #[.bool (cB Y), .slice av5 l2 cv5],
    .agg #[.bool (cB X), .slice av4 l1 cv4],
    .int .i64 mm,
    .int .i64 nn,
    .int .i64 mm,
    .bool false,
    .bool false,
    .bool false,
    .int .i64 nn,
    .bool bb,
    .agg #[.bool (cB X), .slice av4 l1 cv4],
    .agg #[.bool (cB Y), .slice av5 l2 cv5],
    .bool bb,
    .bool false,
    .bool false] : List Value).getD j undef
theorem valO_list {l : List Value} (hh : l.length = 25) : ∃ v0 v1 v2 v3 v4 v5 v6 v7 v8 v9 v10 v11 v12 v13 v14 v15 v16 v17 v18 v19 v20 v21 v22 v23 v24, l = [v0, v1, v2, v3, v4, v5, v6, v7, v8, v9, v10, v11, v12, v13, v14, v15, v16, v17, v18, v19, v20, v21, v22, v23, v24] := by
  obtain ⟨v0, t0, rfl, h0⟩ := cons_of hh
  obtain ⟨v1, t1, rfl, h1⟩ := cons_of h0
  obtain ⟨v2, t2, rfl, h2⟩ := cons_of h1
  obtain ⟨v3, t3, rfl, h3⟩ := cons_of h2
  obtain ⟨v4, t4, rfl, h4⟩ := cons_of h3
  obtain ⟨v5, t5, rfl, h5⟩ := cons_of h4
  obtain ⟨v6, t6, rfl, h6⟩ := cons_of h5
  obtain ⟨v7, t7, rfl, h7⟩ := cons_of h6
  obtain ⟨v8, t8, rfl, h8⟩ := cons_of h7
  obtain ⟨v9, t9, rfl, h9⟩ := cons_of h8
  obtain ⟨v10, t10, rfl, h10⟩ := cons_of h9
  obtain ⟨v11, t11, rfl, h11⟩ := cons_of h10
  obtain ⟨v12, t12, rfl, h12⟩ := cons_of h11
  obtain ⟨v13, t13, rfl, h13⟩ := cons_of h12
  obtain ⟨v14, t14, rfl, h14⟩ := cons_of h13
  obtain ⟨v15, t15, rfl, h15⟩ := cons_of h14
  obtain ⟨v16, t16, rfl, h16⟩ := cons_of h15
  obtain ⟨v17, t17, rfl, h17⟩ := cons_of h16
  obtain ⟨v18, t18, rfl, h18⟩ := cons_of h17
  obtain ⟨v19, t19, rfl, h19⟩ := cons_of h18
  obtain ⟨v20, t20, rfl, h20⟩ := cons_of h19
  obtain ⟨v21, t21, rfl, h21⟩ := cons_of h20
  obtain ⟨v22, t22, rfl, h22⟩ := cons_of h21
  obtain ⟨v23, t23, rfl, h23⟩ := cons_of h22
  obtain ⟨v24, t24, rfl, h24⟩ := cons_of h23
  obtain rfl := List.eq_nil_of_length_eq_zero h24
  exact ⟨_, _, _, _, _, _, _, _, _, _, _, _, _, _, _, _, _, _, _, _, _, _, _, _, _, rfl⟩

set_option maxRecDepth 100000 in
set_option maxHeartbeats 16000000 in
theorem order_small {a1 a2 a3 : Option Addr} {l1 l2 l3 c1 c2 c3 : Nat} {X Y U : Int} {w : World} (h1 : IsB w a1 l1 c1 (cM X)) (h2 : IsB w a2 l2 c2 (cM Y)) (h3 : IsB w a3 l3 c3 (cM U)) (m1 : l1 ≤ 40) (m2 : l2 ≤ 40) (m3 : l3 ≤ 40) :
    Calls Tryd.prog 5 #[.agg #[.bool (cB X), .slice a1 l1 c1], .agg #[.bool (cB Y), .slice a2 l2 c2], .agg #[.bool (cB U), .slice a3 l3 c3]] w fun e w' => e = .returned (.bool true) ∧ Below w.heap.size w w' := by
  have fX : Fit 40 X := fit_len (by rw [h1.size]; exact m1)
  have fY : Fit 40 Y := fit_len (by rw [h2.size]; exact m2)
  have fU : Fit 40 U := fit_len (by rw [h3.size]; exact m3)
  obtain ⟨DD, HDD⟩ : ∃ z, Hid (X - Y = z) := ⟨_, rfl⟩
  have fDD : Fit 41 DD := by rw [← HDD.out]; exact fX.sub fY
  obtain ⟨nn, Hn⟩ : ∃ z, Hid (sgnZ X Y = z) := ⟨_, rfl⟩
  obtain ⟨mm, Hm⟩ : ∃ z, Hid (sgnZ Y X = z) := ⟨_, rfl⟩
  obtain ⟨bb, Hbb⟩ : ∃ z, Hid (decide (X = Y) = z) := ⟨_, rfl⟩
  obtain ⟨yu, Hyu⟩ : ∃ z, Hid (sgnZ Y U = z) := ⟨_, rfl⟩
  obtain ⟨xu, Hxu⟩ : ∃ z, Hid (sgnZ X U = z) := ⟨_, rfl⟩
  obtain ⟨Hd, hneg, heq, hr1, hr2, htr⟩ := order_facts HDD.out Hn.out Hm.out Hbb.out Hyu.out Hxu.out
  have gX : Hid (Fit 128 X) := fX.mono (by decide)
  have gY : Hid (Fit 128 Y) := fY.mono (by decide)
  have gU : Hid (Fit 128 U) := fU.mono (by decide)
  have gDD : Hid (Fit 128 DD) := fDD.mono (by decide)
  clear fX fY fU fDD
  go_enter Tryd.func5, Tryd.ntmps5
  obtain ⟨z0, z1, z2, hW, hs3⟩ := alloc3 w (.cells #[.bool (cB X), .slice a1 l1 c1] 24) (.cells #[.bool (cB Y), .slice a2 l2 c2] 24) (.cells #[.bool (cB U), .slice a3 l3 c3] 24)
  have K := blk3 z0 z1 z2
  have S := ((Sls.nil _).add (h3.below hW)).add (h2.below hW) |>.add (h1.below hW)
  obtain ⟨r0, r1, _, _⟩ := intVarT z0
  clear hs3 h1 h2 h3
  go_wp2_with fail
  generalize (((w.alloc (.cells #[.bool (cB X), .slice a1 l1 c1] 24)).alloc (.cells #[.bool (cB Y), .slice a2 l2 c2] 24)).alloc (.cells #[.bool (cB U), .slice a3 l3 c3] 24)) = w1 at *
  clear r0 r1 z0 z1 z2
  refine (small_true gX.out (S.get 0 rfl) m1).mono ?_
  rintro e wa1 ⟨rfl, hb2⟩
  replace K := K.below hb2
  replace S := S.below hb2
  replace hW := below_size hW (Nat.le_refl _) hb2
  clear hb2
  obtain ⟨r0, r1, _, _⟩ := intVarT (K.get 1 rfl)
  go_wp2_with fail
  refine (small_true gY.out (S.get 1 rfl) m2).mono ?_
  rintro e wa2 ⟨rfl, hb2⟩
  replace K := K.below hb2
  replace S := S.below hb2
  replace hW := below_size hW (Nat.le_refl _) hb2
  clear hb2
  clear r0 r1
  obtain ⟨r0, r1, _, _⟩ := intVarT (K.get 2 rfl)
  go_wp2_with fail
  refine (small_true gU.out (S.get 2 rfl) m3).mono ?_
  rintro e wa3 ⟨rfl, hb2⟩
  replace K := K.below hb2
  replace S := S.below hb2
  replace hW := below_size hW (Nat.le_refl _) hb2
  clear hb2
  clear r0 r1
  obtain ⟨r0, r1, _, _⟩ := intVarT (K.get 0 rfl)
  go_wp2_with fail
  refine (lgiven_any (cB X) (S.get 0 rfl) (by omega)).mono ?_
  rintro e wa4 ⟨av4, cv4, rfl, hI, hb2⟩
  replace K := (K.below hb2).add (.cells #[.bool (cB X), .slice av4 l1 cv4] 27)
  replace S := ((S.below hb2).add hI).below (alloc_below wa4 (.cells #[.bool (cB X), .slice av4 l1 cv4] 27))
  replace hW := below_size (below_size hW (Nat.le_refl _) hb2) (Nat.le_refl _) (alloc_below wa4 (.cells #[.bool (cB X), .slice av4 l1 cv4] 27))
  clear hb2 hI
  clear r0 r1
  obtain ⟨r0, r1, _, _⟩ := intVarT (K.get 2 rfl)
  go_wp2_with fail
  generalize hq4 : wa4.alloc (.cells #[.bool (cB X), .slice av4 l1 cv4] 27) = wb4 at *
  clear hq4
  generalize wa4.heap.size = i4 at *
  refine (lgiven_any (cB Y) (S.get 2 rfl) (by omega)).mono ?_
  rintro e wa5 ⟨av5, cv5, rfl, hI, hb2⟩
  replace K := (K.below hb2).add (.cells #[.bool (cB Y), .slice av5 l2 cv5] 27)
  replace S := ((S.below hb2).add hI).below (alloc_below wa5 (.cells #[.bool (cB Y), .slice av5 l2 cv5] 27))
  replace hW := below_size (below_size hW (Nat.le_refl _) hb2) (Nat.le_refl _) (alloc_below wa5 (.cells #[.bool (cB Y), .slice av5 l2 cv5] 27))
  clear hb2 hI
  clear r0 r1
  obtain ⟨r0, r1, _, _⟩ := intVarT (K.get 4 rfl)
  go_wp2_with fail
  generalize hq5 : wa5.alloc (.cells #[.bool (cB Y), .slice av5 l2 cv5] 27) = wb5 at *
  clear hq5
  generalize wa5.heap.size = i5 at *
  refine (lgiven_any (cB U) (S.get 4 rfl) (by omega)).mono ?_
  rintro e wa6 ⟨av6, cv6, rfl, hI, hb2⟩
  replace K := (K.below hb2).add (.cells #[.bool (cB U), .slice av6 l3 cv6] 27)
  replace S := ((S.below hb2).add hI).below (alloc_below wa6 (.cells #[.bool (cB U), .slice av6 l3 cv6] 27))
  replace hW := below_size (below_size hW (Nat.le_refl _) hb2) (Nat.le_refl _) (alloc_below wa6 (.cells #[.bool (cB U), .slice av6 l3 cv6] 27))
  clear hb2 hI
  clear r0 r1
  obtain ⟨r0, r1, _, _⟩ := intVarT (K.get 2 rfl)
  obtain ⟨r2, r3, _, _⟩ := intVarT (K.get 1 rfl)
  go_wp2_with fail
  generalize hq6 : wa6.alloc (.cells #[.bool (cB U), .slice av6 l3 cv6] 27) = wb6 at *
  clear hq6
  generalize wa6.heap.size = i6 at *
  refine (lsub_to HDD (S.get 2 rfl) (S.get 1 rfl) gX.out gY.out gDD.out).mono ?_
  rintro e wa7 ⟨av7, lv7, cv7, rfl, hI, hb2⟩
  replace K := (K.below hb2).add (.cells #[.bool (cB DD), .slice av7 lv7 cv7] 27)
  replace S := ((S.below hb2).add hI).below (alloc_below wa7 (.cells #[.bool (cB DD), .slice av7 lv7 cv7] 27))
  replace hW := below_size (below_size hW (Nat.le_refl _) hb2) (Nat.le_refl _) (alloc_below wa7 (.cells #[.bool (cB DD), .slice av7 lv7 cv7] 27))
  clear hb2 hI
  clear r0 r1 r2 r3
  obtain ⟨r0, r1, _, _⟩ := intVarT (K.get 3 rfl)
  obtain ⟨r2, r3, _, _⟩ := intVarT (K.get 2 rfl)
  go_wp2_with fail
  generalize hq7 : wa7.alloc (.cells #[.bool (cB DD), .slice av7 lv7 cv7] 27) = wb7 at *
  clear hq7
  generalize wa7.heap.size = i7 at *
  refine (lcmp_to Hn (S.get 3 rfl) (S.get 2 rfl) gX.out gY.out).mono ?_
  rintro e wa8 ⟨rfl, hb2⟩
  replace K := K.below hb2
  replace S := S.below hb2
  replace hW := below_size hW (Nat.le_refl _) hb2
  clear hb2
  clear r0 r1 r2 r3
  go_wp2
  refine abstract_act fun A hA => ?_
  have hsz : A.tmps.size = 84 := by rw [hA]; rfl
  have s7 : A.tmps[7]? = some (.pointer (some ⟨i4, 0, none⟩)) := by rw [hA]; rfl
  have s8 : A.tmps[8]? = some (.pointer (some ⟨i5, 0, none⟩)) := by rw [hA]; rfl
  have s10 : A.tmps[10]? = some (.pointer (some ⟨i7, 0, none⟩)) := by rw [hA]; rfl
  have s11 : A.tmps[11]? = some (.int .i64 0) := by rw [hA]; rfl
  have s12 : A.tmps[12]? = some (.int .i64 nn) := by rw [hA]; rfl
  refine wp_region_inv2' (fun A D a w' => ∃ (l : List Value) (p46 : Option Addr) (l46 : Nat) (c46 : Nat), a = putAll A 42 l ∧ l.length = 25 ∧ Below wa8.heap.size wa8 w' ∧ (∀ j, j < 25 → D j → l[j]? = some (valO X Y DD nn mm bb av4 av5 av7 l1 cv4 l2 cv5 lv7 cv7 p46 l46 c46 j)) ∧ (D 4 → IsB w' p46 l46 c46 (cM 0))) (by kernel_rfl) (by kernel_rfl) ?mono ?start ?step ?done
  case mono =>
    rintro D D' a w' hD ⟨l, p46, l46, c46, ha, hlen, hB, hl, iO⟩
    exact ⟨l, p46, l46, c46, ha, hlen, hB, fun j hj h => hl j hj ((hD j).2 h), fun h => iO ((hD 4).2 h)⟩
  case start => exact ⟨_, none, 0, 0, (putAll_start A 42 25 (by omega)).1, (putAll_start A 42 25 (by omega)).2, (Below.refl _ _).drew, fun _ _ h => h.elim, fun h => h.elim⟩
  case step =>
    clear hA
    intro i o ho D a w' hI hn hcl hd
    obtain ⟨l, p46, l46, c46, ha, hlen, hB, hl, iO⟩ := hI
    match i, ho with
    | 0, ho =>
      cases Option.some.inj ho
      refine ⟨rfl, ?_⟩
      have ev : a.tmps[11]? = some (.int .i64 0) := by rw [ha, putAll_low A 42 11 l (by omega) (by decide)]; exact s11
      refine wp_value (w' := w') (v := .int .i64 0) (by simp [execOp, ev, go_sem]) ?_
      exact ⟨_, p46, l46, c46, by rw [ha]; exact putAll_put A 42 0 l _ (by omega) (by omega), by rw [List.length_set]; exact hlen, hB, set_known hlen (by decide) hl, fun h => (iO (h.resolve_left (by decide)))⟩
    | 1, ho =>
      cases Option.some.inj ho
      refine ⟨rfl, ?_⟩
      have ev : a.tmps[42]? = some (.int .i64 0) := known_at ha hsz hlen hl 0 (by decide) (hd ⟨0, .data⟩ (by simp) rfl)
      refine wp_value (w' := w') (v := .bool false) (by simp [execOp, ev, go_sem]) ?_
      exact ⟨_, p46, l46, c46, by rw [ha]; exact putAll_put A 42 1 l _ (by omega) (by omega), by rw [List.length_set]; exact hlen, hB, set_known hlen (by decide) hl, fun h => (iO (h.resolve_left (by decide)))⟩
    | 2, ho =>
      cases Option.some.inj ho
      refine ⟨rfl, ?_⟩
      have ev : a.tmps[43]? = some (.bool false) := known_at ha hsz hlen hl 1 (by decide) (hd ⟨1, .data⟩ (by simp) rfl)
      refine wp_value (w' := w') (v := .bool false) (by simp [execOp, ev, go_sem]) ?_
      exact ⟨_, p46, l46, c46, by rw [ha]; exact putAll_put A 42 2 l _ (by omega) (by omega), by rw [List.length_set]; exact hlen, hB, set_known hlen (by decide) hl, fun h => (iO (h.resolve_left (by decide)))⟩
    | 3, ho =>
      cases Option.some.inj ho
      refine ⟨wanted_of (k := 44) rfl rfl rfl (known_at ha hsz hlen hl 2 (by decide) (hd ⟨2, .guard⟩ (by simp) rfl)), ?_⟩
      have ev : a.tmps[10]? = some (.pointer (some ⟨i7, 0, none⟩)) := by rw [ha, putAll_low A 42 10 l (by omega) (by decide)]; exact s10
      refine wp_load_row 27 (.tmp 10) rfl (i7) (eval_some ev) 27 _ _ _ ((hB.block _ (lt_of_block (K.get 0 rfl))).trans (K.get 0 rfl)) Tryd.underlying27 rfl size25 ?_
      exact ⟨_, p46, l46, c46, by rw [ha]; exact putAll_put A 42 3 l _ (by omega) (by omega), by rw [List.length_set]; exact hlen, hB, set_known hlen (by decide) hl, fun h => (iO (h.resolve_left (by decide)))⟩
    | 4, ho =>
      cases Option.some.inj ho
      refine ⟨wanted_of (k := 44) rfl rfl rfl (known_at ha hsz hlen hl 2 (by decide) (hd ⟨2, .guard⟩ (by simp) rfl)), ?_⟩
      refine wp_enter (f := 18) (args := #[.int .i64 0]) (by simp [execOp, go_sem]) ?_
      refine (of_any 0 w' (by decide) (by decide)).mono ?_
      rintro e w6 ⟨nv, rfl, hO, HB⟩
      obtain ⟨np, nc, rfl, hI⟩ := hO.2
      obtain ⟨nl, hnl⟩ : ∃ k, k = (mag (0 : Int).natAbs).length := ⟨_, rfl⟩
      rw [← hnl] at hI ⊢
      refine ⟨_, rfl, ?_⟩
      exact ⟨_, np, nl, nc, by rw [ha]; exact putAll_put A 42 4 l _ (by omega) (by omega), by rw [List.length_set]; exact hlen, below_size hB (Nat.le_refl _) HB, set_known' (val' := valO X Y DD nn mm bb av4 av5 av7 l1 cv4 l2 cv5 lv7 cv7 np nl nc) hlen (by decide) hl (fun j hj hne => match j, hj, hne with | 0, _, _ => rfl | 1, _, _ => rfl | 2, _, _ => rfl | 3, _, _ => rfl | 4, _, hne => absurd rfl hne | 5, _, _ => rfl | 6, _, _ => rfl | 7, _, _ => rfl | 8, _, _ => rfl | 9, _, _ => rfl | 10, _, _ => rfl | 11, _, _ => rfl | 12, _, _ => rfl | 13, _, _ => rfl | 14, _, _ => rfl | 15, _, _ => rfl | 16, _, _ => rfl | 17, _, _ => rfl | 18, _, _ => rfl | 19, _, _ => rfl | 20, _, _ => rfl | 21, _, _ => rfl | 22, _, _ => rfl | 23, _, _ => rfl | 24, _, _ => rfl | j + 25, _, _ => rfl), fun _ => hI⟩
    | 5, ho =>
      cases Option.some.inj ho
      refine ⟨wanted_of (k := 44) rfl rfl rfl (known_at ha hsz hlen hl 2 (by decide) (hd ⟨2, .guard⟩ (by simp) rfl)), ?_⟩
      have ev : a.tmps[45]? = some (.agg #[.bool (cB DD), .slice av7 lv7 cv7]) := known_at ha hsz hlen hl 3 (by decide) (hd ⟨3, .data⟩ (by simp) rfl)
      have ev' : a.tmps[46]? = some (.agg #[.bool (cB 0), .slice p46 l46 c46]) := known_at ha hsz hlen hl 4 (by decide) (hd ⟨4, .data⟩ (by simp) rfl)
      refine wp_enter (f := 17) (args := #[.agg #[.bool (cB DD), .slice av7 lv7 cv7], .agg #[.bool (cB 0), .slice p46 l46 c46]]) (by simp [execOp, ev, ev', go_sem]) ?_
      refine (lcmp_to Hd ((S.below hB).get 0 rfl) (iO (hd ⟨4, .data⟩ (by simp) rfl)) gDD.out fit0).mono ?_
      rintro e w6 ⟨rfl, HB⟩
      refine ⟨_, rfl, ?_⟩
      exact ⟨_, p46, l46, c46, by rw [ha]; exact putAll_put A 42 5 l _ (by omega) (by omega), by rw [List.length_set]; exact hlen, below_size hB (Nat.le_refl _) HB, set_known hlen (by decide) hl, fun h => (iO (h.resolve_left (by decide))).below HB⟩
    | 6, ho =>
      cases Option.some.inj ho
      refine ⟨wanted_of (k := 44) rfl rfl rfl (known_at ha hsz hlen hl 2 (by decide) (hd ⟨2, .guard⟩ (by simp) rfl)), ?_⟩
      have ev : a.tmps[12]? = some (.int .i64 nn) := by rw [ha, putAll_low A 42 12 l (by omega) (by decide)]; exact s12
      refine wp_value (w' := w') (v := .int .i64 nn) (by simp [execOp, ev, go_sem]) ?_
      exact ⟨_, p46, l46, c46, by rw [ha]; exact putAll_put A 42 6 l _ (by omega) (by omega), by rw [List.length_set]; exact hlen, hB, set_known hlen (by decide) hl, fun h => (iO (h.resolve_left (by decide)))⟩
    | 7, ho =>
      cases Option.some.inj ho
      refine ⟨wanted_of (k := 44) rfl rfl rfl (known_at ha hsz hlen hl 2 (by decide) (hd ⟨2, .guard⟩ (by simp) rfl)), ?_⟩
      have ev : a.tmps[47]? = some (.int .i64 nn) := known_at ha hsz hlen hl 5 (by decide) (hd ⟨5, .data⟩ (by simp) rfl)
      have ev' : a.tmps[48]? = some (.int .i64 nn) := known_at ha hsz hlen hl 6 (by decide) (hd ⟨6, .data⟩ (by simp) rfl)
      refine wp_value (w' := w') (v := .bool false) (run_neq_i a w' (eval_some ev) (eval_some ev') rfl) ?_
      exact ⟨_, p46, l46, c46, by rw [ha]; exact putAll_put A 42 7 l _ (by omega) (by omega), by rw [List.length_set]; exact hlen, hB, set_known hlen (by decide) hl, fun h => (iO (h.resolve_left (by decide)))⟩
    | 8, ho =>
      cases Option.some.inj ho
      refine ⟨rfl, ?_⟩
      have ev : a.tmps[44]? = some (.bool false) := known_at ha hsz hlen hl 2 (by decide) (hd ⟨2, .data⟩ (by simp) rfl)
      have ev' : a.tmps[49]? = some (.bool false) := known_at ha hsz hlen hl 7 (by decide) (hd ⟨7, .data⟩ (by simp) rfl)
      refine wp_value (w' := w') (v := .bool false) (by simp [execOp, ev, ev', go_sem]) ?_
      exact ⟨_, p46, l46, c46, by rw [ha]; exact putAll_put A 42 8 l _ (by omega) (by omega), by rw [List.length_set]; exact hlen, hB, set_known hlen (by decide) hl, fun h => (iO (h.resolve_left (by decide)))⟩
    | 9, ho =>
      cases Option.some.inj ho
      refine ⟨rfl, ?_⟩
      have ev : a.tmps[50]? = some (.bool false) := known_at ha hsz hlen hl 8 (by decide) (hd ⟨8, .data⟩ (by simp) rfl)
      refine wp_value (w' := w') (v := .bool false) (by simp [execOp, ev, go_sem]) ?_
      exact ⟨_, p46, l46, c46, by rw [ha]; exact putAll_put A 42 9 l _ (by omega) (by omega), by rw [List.length_set]; exact hlen, hB, set_known hlen (by decide) hl, fun h => (iO (h.resolve_left (by decide)))⟩
    | 10, ho =>
      cases Option.some.inj ho
      refine ⟨wanted_of (k := 51) rfl rfl rfl (known_at ha hsz hlen hl 9 (by decide) (hd ⟨9, .guard⟩ (by simp) rfl)), ?_⟩
      have ev : a.tmps[8]? = some (.pointer (some ⟨i5, 0, none⟩)) := by rw [ha, putAll_low A 42 8 l (by omega) (by decide)]; exact s8
      refine wp_load_row 27 (.tmp 8) rfl (i5) (eval_some ev) 27 _ _ _ ((hB.block _ (lt_of_block (K.get 2 rfl))).trans (K.get 2 rfl)) Tryd.underlying27 rfl size25 ?_
      exact ⟨_, p46, l46, c46, by rw [ha]; exact putAll_put A 42 10 l _ (by omega) (by omega), by rw [List.length_set]; exact hlen, hB, set_known hlen (by decide) hl, fun h => (iO (h.resolve_left (by decide)))⟩
    | 11, ho =>
      cases Option.some.inj ho
      refine ⟨wanted_of (k := 51) rfl rfl rfl (known_at ha hsz hlen hl 9 (by decide) (hd ⟨9, .guard⟩ (by simp) rfl)), ?_⟩
      have ev : a.tmps[7]? = some (.pointer (some ⟨i4, 0, none⟩)) := by rw [ha, putAll_low A 42 7 l (by omega) (by decide)]; exact s7
      refine wp_load_row 27 (.tmp 7) rfl (i4) (eval_some ev) 27 _ _ _ ((hB.block _ (lt_of_block (K.get 3 rfl))).trans (K.get 3 rfl)) Tryd.underlying27 rfl size25 ?_
      exact ⟨_, p46, l46, c46, by rw [ha]; exact putAll_put A 42 11 l _ (by omega) (by omega), by rw [List.length_set]; exact hlen, hB, set_known hlen (by decide) hl, fun h => (iO (h.resolve_left (by decide)))⟩
    | 12, ho =>
      cases Option.some.inj ho
      refine ⟨wanted_of (k := 51) rfl rfl rfl (known_at ha hsz hlen hl 9 (by decide) (hd ⟨9, .guard⟩ (by simp) rfl)), ?_⟩
      have ev : a.tmps[52]? = some (.agg #[.bool (cB Y), .slice av5 l2 cv5]) := known_at ha hsz hlen hl 10 (by decide) (hd ⟨10, .data⟩ (by simp) rfl)
      have ev' : a.tmps[53]? = some (.agg #[.bool (cB X), .slice av4 l1 cv4]) := known_at ha hsz hlen hl 11 (by decide) (hd ⟨11, .data⟩ (by simp) rfl)
      refine wp_enter (f := 17) (args := #[.agg #[.bool (cB Y), .slice av5 l2 cv5], .agg #[.bool (cB X), .slice av4 l1 cv4]]) (by simp [execOp, ev, ev', go_sem]) ?_
      refine (lcmp_to Hm ((S.below hB).get 2 rfl) ((S.below hB).get 3 rfl) gY.out gX.out).mono ?_
      rintro e w6 ⟨rfl, HB⟩
      refine ⟨_, rfl, ?_⟩
      exact ⟨_, p46, l46, c46, by rw [ha]; exact putAll_put A 42 12 l _ (by omega) (by omega), by rw [List.length_set]; exact hlen, below_size hB (Nat.le_refl _) HB, set_known hlen (by decide) hl, fun h => (iO (h.resolve_left (by decide))).below HB⟩
    | 13, ho =>
      cases Option.some.inj ho
      refine ⟨wanted_of (k := 51) rfl rfl rfl (known_at ha hsz hlen hl 9 (by decide) (hd ⟨9, .guard⟩ (by simp) rfl)), ?_⟩
      have ev : a.tmps[12]? = some (.int .i64 nn) := by rw [ha, putAll_low A 42 12 l (by omega) (by decide)]; exact s12
      refine wp_value (w' := w') (v := .int .i64 nn) (by simp [execOp, ev, go_sem]) ?_
      exact ⟨_, p46, l46, c46, by rw [ha]; exact putAll_put A 42 13 l _ (by omega) (by omega), by rw [List.length_set]; exact hlen, hB, set_known hlen (by decide) hl, fun h => (iO (h.resolve_left (by decide)))⟩
    | 14, ho =>
      cases Option.some.inj ho
      refine ⟨wanted_of (k := 51) rfl rfl rfl (known_at ha hsz hlen hl 9 (by decide) (hd ⟨9, .guard⟩ (by simp) rfl)), ?_⟩
      have ev : a.tmps[55]? = some (.int .i64 nn) := known_at ha hsz hlen hl 13 (by decide) (hd ⟨13, .data⟩ (by simp) rfl)
      refine wp_value (w' := w') (v := .int .i64 mm) (by simp [execOp, ev, go_sem, hneg]) ?_
      exact ⟨_, p46, l46, c46, by rw [ha]; exact putAll_put A 42 14 l _ (by omega) (by omega), by rw [List.length_set]; exact hlen, hB, set_known hlen (by decide) hl, fun h => (iO (h.resolve_left (by decide)))⟩
    | 15, ho =>
      cases Option.some.inj ho
      refine ⟨wanted_of (k := 51) rfl rfl rfl (known_at ha hsz hlen hl 9 (by decide) (hd ⟨9, .guard⟩ (by simp) rfl)), ?_⟩
      have ev : a.tmps[54]? = some (.int .i64 mm) := known_at ha hsz hlen hl 12 (by decide) (hd ⟨12, .data⟩ (by simp) rfl)
      have ev' : a.tmps[56]? = some (.int .i64 mm) := known_at ha hsz hlen hl 14 (by decide) (hd ⟨14, .data⟩ (by simp) rfl)
      refine wp_value (w' := w') (v := .bool false) (run_neq_i a w' (eval_some ev) (eval_some ev') rfl) ?_
      exact ⟨_, p46, l46, c46, by rw [ha]; exact putAll_put A 42 15 l _ (by omega) (by omega), by rw [List.length_set]; exact hlen, hB, set_known hlen (by decide) hl, fun h => (iO (h.resolve_left (by decide)))⟩
    | 16, ho =>
      cases Option.some.inj ho
      refine ⟨rfl, ?_⟩
      have ev : a.tmps[51]? = some (.bool false) := known_at ha hsz hlen hl 9 (by decide) (hd ⟨9, .data⟩ (by simp) rfl)
      have ev' : a.tmps[57]? = some (.bool false) := known_at ha hsz hlen hl 15 (by decide) (hd ⟨15, .data⟩ (by simp) rfl)
      refine wp_value (w' := w') (v := .bool false) (by simp [execOp, ev, ev', go_sem]) ?_
      exact ⟨_, p46, l46, c46, by rw [ha]; exact putAll_put A 42 16 l _ (by omega) (by omega), by rw [List.length_set]; exact hlen, hB, set_known hlen (by decide) hl, fun h => (iO (h.resolve_left (by decide)))⟩
    | 17, ho =>
      cases Option.some.inj ho
      refine ⟨rfl, ?_⟩
      have ev : a.tmps[58]? = some (.bool false) := known_at ha hsz hlen hl 16 (by decide) (hd ⟨16, .data⟩ (by simp) rfl)
      refine wp_value (w' := w') (v := .bool false) (by simp [execOp, ev, go_sem]) ?_
      exact ⟨_, p46, l46, c46, by rw [ha]; exact putAll_put A 42 17 l _ (by omega) (by omega), by rw [List.length_set]; exact hlen, hB, set_known hlen (by decide) hl, fun h => (iO (h.resolve_left (by decide)))⟩
    | 18, ho =>
      cases Option.some.inj ho
      refine ⟨wanted_of (k := 59) rfl rfl rfl (known_at ha hsz hlen hl 17 (by decide) (hd ⟨17, .guard⟩ (by simp) rfl)), ?_⟩
      have ev : a.tmps[12]? = some (.int .i64 nn) := by rw [ha, putAll_low A 42 12 l (by omega) (by decide)]; exact s12
      refine wp_value (w' := w') (v := .int .i64 nn) (by simp [execOp, ev, go_sem]) ?_
      exact ⟨_, p46, l46, c46, by rw [ha]; exact putAll_put A 42 18 l _ (by omega) (by omega), by rw [List.length_set]; exact hlen, hB, set_known hlen (by decide) hl, fun h => (iO (h.resolve_left (by decide)))⟩
    | 19, ho =>
      cases Option.some.inj ho
      refine ⟨wanted_of (k := 59) rfl rfl rfl (known_at ha hsz hlen hl 17 (by decide) (hd ⟨17, .guard⟩ (by simp) rfl)), ?_⟩
      have ev : a.tmps[60]? = some (.int .i64 nn) := known_at ha hsz hlen hl 18 (by decide) (hd ⟨18, .data⟩ (by simp) rfl)
      refine wp_value (w' := w') (v := .bool bb) (by simp [execOp, ev, go_sem, heq]) ?_
      exact ⟨_, p46, l46, c46, by rw [ha]; exact putAll_put A 42 19 l _ (by omega) (by omega), by rw [List.length_set]; exact hlen, hB, set_known hlen (by decide) hl, fun h => (iO (h.resolve_left (by decide)))⟩
    | 20, ho =>
      cases Option.some.inj ho
      refine ⟨wanted_of (k := 59) rfl rfl rfl (known_at ha hsz hlen hl 17 (by decide) (hd ⟨17, .guard⟩ (by simp) rfl)), ?_⟩
      have ev : a.tmps[7]? = some (.pointer (some ⟨i4, 0, none⟩)) := by rw [ha, putAll_low A 42 7 l (by omega) (by decide)]; exact s7
      refine wp_load_row 27 (.tmp 7) rfl (i4) (eval_some ev) 27 _ _ _ ((hB.block _ (lt_of_block (K.get 3 rfl))).trans (K.get 3 rfl)) Tryd.underlying27 rfl size25 ?_
      exact ⟨_, p46, l46, c46, by rw [ha]; exact putAll_put A 42 20 l _ (by omega) (by omega), by rw [List.length_set]; exact hlen, hB, set_known hlen (by decide) hl, fun h => (iO (h.resolve_left (by decide)))⟩
    | 21, ho =>
      cases Option.some.inj ho
      refine ⟨wanted_of (k := 59) rfl rfl rfl (known_at ha hsz hlen hl 17 (by decide) (hd ⟨17, .guard⟩ (by simp) rfl)), ?_⟩
      have ev : a.tmps[8]? = some (.pointer (some ⟨i5, 0, none⟩)) := by rw [ha, putAll_low A 42 8 l (by omega) (by decide)]; exact s8
      refine wp_load_row 27 (.tmp 8) rfl (i5) (eval_some ev) 27 _ _ _ ((hB.block _ (lt_of_block (K.get 2 rfl))).trans (K.get 2 rfl)) Tryd.underlying27 rfl size25 ?_
      exact ⟨_, p46, l46, c46, by rw [ha]; exact putAll_put A 42 21 l _ (by omega) (by omega), by rw [List.length_set]; exact hlen, hB, set_known hlen (by decide) hl, fun h => (iO (h.resolve_left (by decide)))⟩
    | 22, ho =>
      cases Option.some.inj ho
      refine ⟨wanted_of (k := 59) rfl rfl rfl (known_at ha hsz hlen hl 17 (by decide) (hd ⟨17, .guard⟩ (by simp) rfl)), ?_⟩
      have ev : a.tmps[62]? = some (.agg #[.bool (cB X), .slice av4 l1 cv4]) := known_at ha hsz hlen hl 20 (by decide) (hd ⟨20, .data⟩ (by simp) rfl)
      have ev' : a.tmps[63]? = some (.agg #[.bool (cB Y), .slice av5 l2 cv5]) := known_at ha hsz hlen hl 21 (by decide) (hd ⟨21, .data⟩ (by simp) rfl)
      refine wp_enter (f := 12) (args := #[.agg #[.bool (cB X), .slice av4 l1 cv4], .agg #[.bool (cB Y), .slice av5 l2 cv5]]) (by simp [execOp, ev, ev', go_sem]) ?_
      refine (lsame_to Hbb ((S.below hB).get 3 rfl) ((S.below hB).get 2 rfl)).mono ?_
      rintro e w6 ⟨rfl, HB⟩
      refine ⟨_, rfl, ?_⟩
      exact ⟨_, p46, l46, c46, by rw [ha]; exact putAll_put A 42 22 l _ (by omega) (by omega), by rw [List.length_set]; exact hlen, below_size hB (Nat.le_refl _) HB, set_known hlen (by decide) hl, fun h => (iO (h.resolve_left (by decide))).below HB⟩
    | 23, ho =>
      cases Option.some.inj ho
      refine ⟨wanted_of (k := 59) rfl rfl rfl (known_at ha hsz hlen hl 17 (by decide) (hd ⟨17, .guard⟩ (by simp) rfl)), ?_⟩
      have ev : a.tmps[61]? = some (.bool bb) := known_at ha hsz hlen hl 19 (by decide) (hd ⟨19, .data⟩ (by simp) rfl)
      have ev' : a.tmps[64]? = some (.bool bb) := known_at ha hsz hlen hl 22 (by decide) (hd ⟨22, .data⟩ (by simp) rfl)
      refine wp_value (w' := w') (v := .bool false) (run_neq_b a w' (eval_some ev) (eval_some ev') rfl) ?_
      exact ⟨_, p46, l46, c46, by rw [ha]; exact putAll_put A 42 23 l _ (by omega) (by omega), by rw [List.length_set]; exact hlen, hB, set_known hlen (by decide) hl, fun h => (iO (h.resolve_left (by decide)))⟩
    | 24, ho =>
      cases Option.some.inj ho
      refine ⟨rfl, ?_⟩
      have ev : a.tmps[59]? = some (.bool false) := known_at ha hsz hlen hl 17 (by decide) (hd ⟨17, .data⟩ (by simp) rfl)
      have ev' : a.tmps[65]? = some (.bool false) := known_at ha hsz hlen hl 23 (by decide) (hd ⟨23, .data⟩ (by simp) rfl)
      refine wp_value (w' := w') (v := .bool false) (by simp [execOp, ev, ev', go_sem]) ?_
      exact ⟨_, p46, l46, c46, by rw [ha]; exact putAll_put A 42 24 l _ (by omega) (by omega), by rw [List.length_set]; exact hlen, hB, set_known hlen (by decide) hl, fun h => (iO (h.resolve_left (by decide)))⟩
    | i + 25, ho => simp at ho
  case done =>
    rintro D a w' ⟨l, p46, l46, c46, ha, hlen, hB, hl, iO⟩ hall
    obtain ⟨v0, v1, v2, v3, v4, v5, v6, v7, v8, v9, v10, v11, v12, v13, v14, v15, v16, v17, v18, v19, v20, v21, v22, v23, v24, rfl⟩ := valO_list hlen
    have hz := hl 24 (by decide) (hall 24 (by decide))
    simp only [List.getElem?_cons_succ, List.getElem?_cons_zero, Option.some.injEq] at hz
    have hz' : v24 = .bool false := hz
    subst hz'
    clear hl hall iO hz
    replace K := K.below hB
    replace S := S.below hB
    replace hW := below_size hW (Nat.le_refl _) hB
    clear s7 s8 s10 s11 s12 hsz hB
    subst hA
    have hfr : a = _ := ha
    rw [hfr]
    clear hfr ha
    simp only [putAll, List.take_succ_cons, List.take_zero, List.drop_succ_cons, List.drop_zero, List.cons_append, List.nil_append, List.length_cons, List.length_nil]
    by_cases hn : nn > 0
    · have hn1 : (0 : Int) < nn := hn
      go_wp2_with fail
      refine (known_true _).mono ?_
      rintro e w17 ⟨rfl, hb17⟩
      have hB17 := below_size hW (Nat.le_refl _) hb17
      go_wp2
      go_ret
      exact ⟨rfl, hB17⟩
    · have hn1 : decide ((0 : Int) < nn) = false := decide_eq_false hn
      obtain ⟨r0, r1, _, _⟩ := intVarT (K.get 2 rfl)
      obtain ⟨r2, r3, _, _⟩ := intVarT (K.get 1 rfl)
      go_wp2_with fail
      refine (lcmp_to Hyu (S.get 2 rfl) (S.get 1 rfl) gY.out gU.out).mono ?_
      rintro e w18 ⟨rfl, hb2⟩
      replace K := K.below hb2
      replace S := S.below hb2
      replace hW := below_size hW (Nat.le_refl _) hb2
      clear hb2 r0 r1 r2 r3
      by_cases hy : yu > 0
      · have hy1 : (0 : Int) < yu := hy
        go_wp2_with fail
        refine (known_true _).mono ?_
        rintro e w17 ⟨rfl, hb17⟩
        have hB17 := below_size hW (Nat.le_refl _) hb17
        go_wp2
        go_ret
        exact ⟨rfl, hB17⟩
      · have hy1 : decide ((0 : Int) < yu) = false := decide_eq_false hy
        have hx1 : xu ≤ 0 := htr (by omega) (by omega)
        obtain ⟨r0, r1, _, _⟩ := intVarT (K.get 3 rfl)
        obtain ⟨r2, r3, _, _⟩ := intVarT (K.get 1 rfl)
        go_wp2_with fail
        refine (lcmp_to Hxu (S.get 3 rfl) (S.get 1 rfl) gX.out gU.out).mono ?_
        rintro e w19 ⟨rfl, hb2⟩
        replace hW := below_size hW (Nat.le_refl _) hb2
        clear hb2 r0 r1 r2 r3
        go_wp2_with fail
        refine (known_true _).mono ?_
        rintro e w17 ⟨rfl, hb17⟩
        have hB17 := below_size hW (Nat.le_refl _) hb17
        go_wp2
        go_ret
        exact ⟨rfl, hB17⟩

set_option maxRecDepth 100000 in
set_option maxHeartbeats 8000000 in
theorem order_law {a1 a2 a3 : Option Addr} {l1 l2 l3 c1 c2 c3 : Nat} {xs ys zs : List Int} {w : World} (n1 n2 n3 : Bool) (h1 : IsB w a1 l1 c1 xs) (h2 : IsB w a2 l2 c2 ys) (h3 : IsB w a3 l3 c3 zs) :
    Calls Tryd.prog 5 #[.agg #[.bool n1, .slice a1 l1 c1], .agg #[.bool n2, .slice a2 l2 c2], .agg #[.bool n3, .slice a3 l3 c3]] w fun e w' => e = .returned (.bool true) ∧ Below w.heap.size w w' := by
  by_cases hall : ((rightB n1 xs && decide (l1 ≤ 40)) = true) ∧ ((rightB n2 ys && decide (l2 ≤ 40)) = true) ∧ ((rightB n3 zs && decide (l3 ≤ 40)) = true)
  · obtain ⟨s1, s2, s3⟩ := hall
    rw [Bool.and_eq_true] at s1 s2 s3
    have m1 := of_decide_eq_true s1.2
    have m2 := of_decide_eq_true s2.2
    have m3 := of_decide_eq_true s3.2
    obtain ⟨e1, e2⟩ := can_right s1.1 h1.byte
    obtain ⟨e3, e4⟩ := can_right s2.1 h2.byte
    obtain ⟨e5, e6⟩ := can_right s3.1 h3.byte
    rw [e2] at h1
    rw [e4] at h2
    rw [e6] at h3
    have r := order_small h1 h2 h3 m1 m2 m3
    rw [← e1, ← e3, ← e5] at r
    exact r
  · obtain ⟨z0, z1, z2, hW, hs3⟩ := alloc3 w (.cells #[.bool n1, .slice a1 l1 c1] 24) (.cells #[.bool n2, .slice a2 l2 c2] 24) (.cells #[.bool n3, .slice a3 l3 c3] 24)
    have K := blk3 z0 z1 z2
    have S := ((Sls.nil _).add (h3.below hW)).add (h2.below hW) |>.add (h1.below hW)
    clear h1 h2 h3 hs3
    obtain ⟨b1, q1⟩ : ∃ b, (rightB n1 xs && decide (l1 ≤ 40)) = b := ⟨_, rfl⟩
    obtain ⟨b2, q2⟩ : ∃ b, (rightB n2 ys && decide (l2 ≤ 40)) = b := ⟨_, rfl⟩
    obtain ⟨b3, q3⟩ : ∃ b, (rightB n3 zs && decide (l3 ≤ 40)) = b := ⟨_, rfl⟩
    rw [q1, q2, q3] at hall
    go_enter Tryd.func5, Tryd.ntmps5
    obtain ⟨r0, r1, _, _⟩ := intVarT z0
    go_wp2_with fail
    generalize (((w.alloc (.cells #[.bool n1, .slice a1 l1 c1] 24)).alloc (.cells #[.bool n2, .slice a2 l2 c2] 24)).alloc (.cells #[.bool n3, .slice a3 l3 c3] 24)) = w1 at *
    clear r0 r1 z0 z1 z2
    refine (small_to n1 (S.get 0 rfl) q1).mono ?_
    rintro e w2 ⟨rfl, hb2⟩
    replace K := K.below hb2
    replace S := S.below hb2
    replace hW := below_size hW (Nat.le_refl _) hb2
    clear hb2
    cases b1 with
    | false =>
      go_wp2_with fail
      refine (known_true _).mono ?_
      rintro e w17 ⟨rfl, hb17⟩
      have hB17 := below_size hW (Nat.le_refl _) hb17
      go_wp2
      go_ret
      exact ⟨rfl, hB17⟩
    | true =>
      obtain ⟨r0, r1, _, _⟩ := intVarT (K.get 1 rfl)
      go_wp2_with fail
      refine (small_to n2 (S.get 1 rfl) q2).mono ?_
      rintro e w3 ⟨rfl, hb2⟩
      replace K := K.below hb2
      replace S := S.below hb2
      replace hW := below_size hW (Nat.le_refl _) hb2
      clear hb2 r0 r1
      cases b2 with
      | false =>
        go_wp2_with fail
        refine (known_true _).mono ?_
        rintro e w17 ⟨rfl, hb17⟩
        have hB17 := below_size hW (Nat.le_refl _) hb17
        go_wp2
        go_ret
        exact ⟨rfl, hB17⟩
      | true =>
        obtain ⟨r0, r1, _, _⟩ := intVarT (K.get 2 rfl)
        go_wp2_with fail
        refine (small_to n3 (S.get 2 rfl) q3).mono ?_
        rintro e w4 ⟨rfl, hb2⟩
        replace hW := below_size hW (Nat.le_refl _) hb2
        clear hb2 r0 r1
        cases b3 with
        | false =>
          go_wp2_with fail
          refine (known_true _).mono ?_
          rintro e w17 ⟨rfl, hb17⟩
          have hB17 := below_size hW (Nat.le_refl _) hb17
          go_wp2
          go_ret
          exact ⟨rfl, hB17⟩
        | true => simp at hall
end Go.Proofs.YtgammgdckneoiacDoor
