/- cascade, element. -/
import Derived.Test.YtoghhjljmhdioaaKof
import Derived.Test.YtoghhjljmhdioaaKbx
import Derived.Test.YtoghhjljmhdioaaRead
namespace Go.Proofs.Ytoghhjljmhdioaa
open Go.RowKit
set_option maxRecDepth 100000
theorem str_lit (d u : List Int) {l : List UInt8} (hb : ∀ x ∈ d, 0 ≤ x ∧ x < 256) (hu : ∀ x ∈ u, 0 ≤ x ∧ x < 256) (e : (strOfNums u).toList = l) : ((strOfNums d).toList == l) = decide (d = u) := by
  subst e
  by_cases h : d = u
  · subst h
    simp
  · rw [decide_eq_false h]
    rw [beq_eq_false_iff_ne]
    exact fun he => h (str_inj hb hu he)
theorem cascade_con {W : List Tk} {E : Nat} (S : Src W E) {i d : Nat} (hi : i ≤ E) (H : Con0 74 W (.prim i d) i d) (HK : ∀ j x, i < j → j ≤ E → Con1 75 W (.keyOf j d x) x j d) (HO : ∀ k s, i < k → k ≤ E → s.kids ≠ [] → Con1 76 W (.others k d (cascN s)) s k d) (hne : ∀ {j k : Nat} {x y : Nd}, Reads W (.keyOf j d x) (.ok y k) → k ≠ j → y.kids ≠ []) : Con0 66 W (.casc i d) i d := by
  intro w p h
  go_enter Try.func66, Try.ntmps66
  go_wp2_with (refine al25 _ rfl rfl ?_)
  intro q w1 E1 hq B1
  have X := Sx.start h ⟨_, _, _, _, _, _, E1⟩ hq B1
  have hp := X.hp
  have hq1 := X.z.lt
  have hs1 := X.size
  clear E1 hq B1 h
  go_wp2_with fail
  refine (H w1 p X.rd).mono ?_
  rintro e w2 ⟨r, hr, ha, F2⟩
  have hs12 : w1.heap.size ≤ w2.heap.size := F2.size
  cases r with
  | er j c =>
    obtain ⟨v, x, d', rfl, hv, h2⟩ := ha
    obtain ⟨na, nc, ka, kc, _, rfl, _⟩ := NdV.parts hv
    have X2 := X.go F2 h2
    clear X F2
    go_wp2_with (refine as25 _ rfl rfl rfl 4 rfl _ rfl rfl _ _ _ _ _ _ _ _ _ _ (fun _ => rfl) (fun _ => rfl) ?_)
    intro q4 w3 E3 _ B3
    replace X2 := X2.bel B3
    obtain ⟨u0, u1, u2, u3, u4, u5, Eq⟩ := X2.z
    go_wp2_with (refine st25 _ rfl _ _ rfl rfl _ _ _ _ _ _ _ _ _ _ _ rfl rfl Eq ?_)
    intro wz Ez Sz
    go_wp2
    exact bodyPost_ret (results_cellb (a := 2) (t := 36) (b := 3) (by rfl) (by rfl) (by rfl) (load25 Ez)) (by rfl) ⟨_, R_casc_er1 hr, ⟨_, _, _, rfl, NdV.zero, (X2.fin Sz).2⟩, (X2.fin Sz).1⟩
  | ok x j =>
    obtain ⟨v, rfl, hv, h2⟩ := ha
    have hj : i + 1 ≤ j ∧ j ≤ E := hr.adv S.ends hi
    obtain ⟨na, nc, ka, kc, _, rfl, _⟩ := NdV.parts hv
    have X2 := X.go F2 h2
    clear X F2
    go_wp2_with (refine as25 _ rfl rfl rfl 4 rfl _ rfl rfl _ _ _ _ _ _ _ _ _ _ (fun _ => rfl) (fun _ => rfl) ?_)
    intro q4 w3 E3 hq4 B3
    have hs23 : w2.heap.size ≤ w3.heap.size := B3.size
    replace X2 := X2.bel B3
    have hv3 : NdV (fun b => w1.heap.size ≤ b ∧ b ≠ q4) w3 x _ := NdV.imp (fun b hb hA => ⟨⟨hA, by omega⟩, B3.block b hb⟩) _ _ hv
    have hl4 := lt_of_block E3
    have hqp4 : q4 ≠ p := by omega
    clear B3 hv
    obtain ⟨z0, z1, z2, z3, z4, z5, _⟩ := nd_cells E3
    obtain ⟨c1, c2, c3, f1, f2, f3⟩ := X2.rd.own
    go_wp2_with fail
    refine (HK j x (by omega) hj.2 w3 p (fun b => w1.heap.size ≤ b ∧ b ≠ q4) _ X2.rd (by omega) (fun b hb => by omega) hv3).mono ?_
    clear c1 c2 c3 f1 f2 f3 z0 z1 z2 z3 z4 z5
    rintro e w4 ⟨r, hr2, ha, F4⟩
    have hs34 : w3.heap.size ≤ w4.heap.size := F4.size
    replace E3 := (F4.block _ hl4 hqp4).trans E3
    cases r with
    | er k c =>
      obtain ⟨v, y, d', rfl, hu, h4⟩ := ha
      obtain ⟨ma, mc, la, lc, _, rfl, _⟩ := NdV.parts hu
      replace X2 := X2.go F4 h4
      go_wp2_with (refine st25 _ rfl _ _ rfl rfl _ _ _ _ _ _ _ _ _ _ _ rfl rfl E3 ?_)
      intro w5 E5 S5
      replace X2 : Sx w p q w5 W k d' c := X2.low (S5.below (by omega))
      obtain ⟨u0, u1, u2, u3, u4, u5, Eq⟩ := X2.z
      go_wp2_with (refine st25 _ rfl _ _ rfl rfl _ _ _ _ _ _ _ _ _ _ _ rfl rfl Eq ?_)
      intro wz Ez Sz
      go_wp2
      exact bodyPost_ret (results_cellb (a := 2) (t := 36) (b := 3) (by rfl) (by rfl) (by rfl) (load25 Ez)) (by rfl) ⟨_, R_casc_er2 hr hr2, ⟨_, _, _, rfl, NdV.zero, (X2.fin Sz).2⟩, (X2.fin Sz).1⟩
    | ok y k =>
      obtain ⟨v, rfl, hu, h4⟩ := ha
      have hk : j ≤ k ∧ k ≤ E := hr2.adv S.ends hj.2
      obtain ⟨ma, mc, la, lc, _, rfl, _⟩ := NdV.parts hu
      replace X2 := X2.go F4 h4
      go_wp2_with (refine st25 _ rfl _ _ rfl rfl _ _ _ _ _ _ _ _ _ _ _ rfl rfl E3 ?_)
      intro w5 E5 S5
      replace X2 : Sx w p q w5 W k (d : Int) 20 := X2.low (S5.below (by omega))
      replace hu : NdV (fun b => w1.heap.size ≤ b ∧ b ≠ q4) w5 y _ := hu.imp (fun b _ hA => ⟨hA, S5.block b hA.2⟩) _ _
      have hs45 := S5.size
      clear S5 E3 F4
      go_wp2_with fail
      refine (is_any X2.rd (S.lt hk.2) 15).mono ?_
      rintro e w6 ⟨rfl, B6⟩
      have hs56 : w5.heap.size ≤ w6.heap.size := B6.size
      replace E5 := (B6.block _ (lt_of_block E5)).trans E5
      replace X2 := X2.bel B6
      replace hu := hu.bel B6
      clear B6
      by_cases hk15 : kdW W k = 15
      · rw [show (kdW W k == 15) = true by simp [hk15]]
        obtain ⟨c1, c2, c3, f1, f2, f3⟩ := X2.rd.own
        by_cases hkj : k = j
        · subst hkj
          have hbb : ((k : Int) == (k : Int)) = true := by simp
          obtain ⟨u0, u1, u2, u3, u4, u5, Eq⟩ := X2.z
          go_wp2_with (refine st25 _ rfl _ _ rfl rfl _ _ _ _ _ _ _ _ _ _ _ rfl rfl Eq ?_)
          intro wz Ez Sz
          go_wp2
          exact bodyPost_ret (results_cellb (a := 2) (t := 36) (b := 3) (by rfl) (by rfl) (by rfl) (load25 Ez)) (by rfl) ⟨_, R_casc_bad hr hr2 hk15, ⟨_, _, _, rfl, NdV.zero, (X2.fin Sz).2⟩, (X2.fin Sz).1⟩
        · have hbb : ((k : Int) == (j : Int)) = false := by simp; omega
          obtain ⟨z0, z1, z2, z3, z4, z5, _⟩ := nd_cells E5
          go_wp2_with fail
          refine (HO k y (by omega) hk.2 (hne hr2 hkj) w6 p (fun b => w1.heap.size ≤ b ∧ b ≠ q4) _ X2.rd (by omega) (fun b hb => by omega) hu).mono ?_
          clear c1 c2 c3 f1 f2 f3 z0 z1 z2 z3 z4 z5
          rintro e w7 ⟨r, hr3, ha, F7⟩
          cases r with
          | er l c =>
            obtain ⟨v, y, d', rfl, hv, h7⟩ := ha
            obtain ⟨oa, oc, pa, pc, _, rfl, _⟩ := NdV.parts hv
            replace X2 := X2.go F7 h7
            obtain ⟨u0, u1, u2, u3, u4, u5, Eq⟩ := X2.z
            go_wp2_with (refine st25 _ rfl _ _ rfl rfl _ _ _ _ _ _ _ _ _ _ _ rfl rfl Eq ?_)
            intro wz Ez Sz
            go_wp2
            exact bodyPost_ret (results_cellb (a := 2) (t := 36) (b := 3) (by rfl) (by rfl) (by rfl) (load25 Ez)) (by rfl) ⟨_, R_casc_oth hr hr2 hr3 hkj hk15, ⟨_, _, _, rfl, hv.imp (fun b _ hA => ⟨by omega, Sz.block b (by omega)⟩) _ _, (X2.fin Sz).2⟩, (X2.fin Sz).1⟩
          | ok z l =>
            obtain ⟨v, rfl, hv, h7⟩ := ha
            obtain ⟨oa, oc, pa, pc, _, rfl, _⟩ := NdV.parts hv
            replace X2 := X2.go F7 h7
            obtain ⟨u0, u1, u2, u3, u4, u5, Eq⟩ := X2.z
            go_wp2_with (refine st25 _ rfl _ _ rfl rfl _ _ _ _ _ _ _ _ _ _ _ rfl rfl Eq ?_)
            intro wz Ez Sz
            go_wp2
            exact bodyPost_ret (results_cellb (a := 2) (t := 36) (b := 3) (by rfl) (by rfl) (by rfl) (load25 Ez)) (by rfl) ⟨_, R_casc_oth hr hr2 hr3 hkj hk15, ⟨_, rfl, hv.imp (fun b _ hA => ⟨by omega, Sz.block b (by omega)⟩) _ _, (X2.fin Sz).2⟩, (X2.fin Sz).1⟩
      · rw [show (kdW W k == 15) = false by simp [hk15]]
        obtain ⟨z0, z1, z2, z3, z4, z5, _⟩ := nd_cells E5
        obtain ⟨u0, u1, u2, u3, u4, u5, Eq⟩ := X2.z
        go_wp2_with (refine st25 _ rfl _ _ rfl rfl _ _ _ _ _ _ _ _ _ _ _ rfl rfl Eq ?_)
        intro wz Ez Sz
        go_wp2
        exact bodyPost_ret (results_cellb (a := 2) (t := 36) (b := 3) (by rfl) (by rfl) (by rfl) (load25 Ez)) (by rfl) ⟨_, R_casc_no hr hr2 hk15, ⟨_, rfl, hu.imp (fun b _ hA => ⟨by omega, Sz.block b (by omega)⟩) _ _, (X2.fin Sz).2⟩, (X2.fin Sz).1⟩
theorem element_con {W : List Tk} {E : Nat} (S : Src W E) (hT : ∀ i, ∀ c ∈ txW W i, 0 ≤ c ∧ c < 256) {i d : Nat} (hi : i ≤ E) (H : kdW W i = 8 ∨ kdW W i = 17 → Con0 91 W (.list i d) i d) : Con0 95 W (.elem i d) i d := by
  intro w p h
  have HL : kdW W i ≠ 1 → kdW W i ≠ 2 → kdW W i ≠ 3 → kdW W i ≠ 8 → Con0 83 W (.elem i d) i d := fun a b c k => literal_con S hi _ R_elem_num R_elem_str R_elem_sym (fun h _ hr => R_elem_list hr h) (fun e f g l => R_elem_bad a b c k e f g l) (fun h => H (.inr h))
  go_enter Try.func95, Try.ntmps95
  go_wp2_with (refine al25 _ rfl rfl ?_)
  intro q w1 E1 hq B1
  have X := Sx.start h ⟨_, _, _, _, _, _, E1⟩ hq B1
  have hp := X.hp
  have hq1 := X.z.lt
  have hs1 := X.size
  clear E1 hq B1 h
  have f0 := fld0
  go_wp2_with fail
  refine (wordR_any X.rd (S.lt hi)).mono ?_
  rintro e w1' ⟨rfl, B1⟩
  have hs11 : w1.heap.size ≤ w1'.heap.size := B1.size
  replace X := X.bel B1
  clear B1
  go_wp2_with (refine al54 _ rfl rfl ?_)
  intro t w3 E3 ht B3
  go_wp2_with (refine st54 _ rfl _ _ rfl rfl _ _ _ _ rfl rfl E3 ?_)
  intro w2 E4 S4
  have B4 : Below w1'.heap.size w1' w2 := B3.trans (S4.below ht)
  have X2 := X.bel B4
  have hs24 : w1'.heap.size ≤ w2.heap.size := B4.size
  have hs12 : w1.heap.size ≤ w2.heap.size := by omega
  replace hq1 : q < w2.heap.size := by omega
  replace hs1 : w.heap.size ≤ w2.heap.size := by omega
  clear E3 B3 S4 B4 X
  obtain ⟨y0, y1, y2, _⟩ := tok_cells E4
  by_cases hk1 : kdW W i = 1
  · rw [hk1] at y0 ⊢
    have t1 : ((strOfNums (txW W i)).toList == [116, 114, 117, 101]) = decide (txW W i = trueT) := str_lit _ trueT (hT i) (by decide) (by rw [Lib.strOfNums_toList]; rfl)
    have t2 : ((strOfNums (txW W i)).toList == [102, 97, 108, 115, 101]) = decide (txW W i = falseT) := str_lit _ falseT (hT i) (by decide) (by rw [Lib.strOfNums_toList]; rfl)
    have t3 : ((strOfNums (txW W i)).toList == [110, 105, 108]) = decide (txW W i = nilT) := str_lit _ nilT (hT i) (by decide) (by rw [Lib.strOfNums_toList]; rfl)
    by_cases h1 : txW W i = trueT
    · rw [decide_eq_true h1] at t1; replace h1 : Hid (txW W i = trueT) := h1
      go_wp2_with fail
      refine (leaf_any S X2.rd hi 13).mono ?_
      rintro e w3 ⟨v, rfl, hv, h3, F3⟩
      obtain ⟨na, nc, ka, kc, _, rfl, _⟩ := NdV.parts hv
      have X3 := X2.go F3 h3
      obtain ⟨u0, u1, u2, u3, u4, u5, Eq⟩ := X3.z
      go_wp2_with (refine st25 _ rfl _ _ rfl rfl _ _ _ _ _ _ _ _ _ _ _ rfl rfl Eq ?_)
      intro wz Ez Sz
      go_wp2
      exact bodyPost_ret (results_cellb (a := 2) (t := 36) (b := 3) (by rfl) (by rfl) (by rfl) (load25 Ez)) (by rfl) ⟨_, R_elem_word hk1 (.inl h1.out), ⟨_, rfl, NdV.out hv Sz hq1 hs1, (X3.fin Sz).2⟩, (X3.fin Sz).1⟩
    · rw [decide_eq_false h1] at t1; replace h1 : Hid (¬ txW W i = trueT) := h1
      by_cases h2 : txW W i = falseT
      · rw [decide_eq_true h2] at t2; replace h2 : Hid (txW W i = falseT) := h2
        go_wp2_with fail
        refine (leaf_any S X2.rd hi 13).mono ?_
        rintro e w3 ⟨v, rfl, hv, h3, F3⟩
        obtain ⟨na, nc, ka, kc, _, rfl, _⟩ := NdV.parts hv
        have X3 := X2.go F3 h3
        obtain ⟨u0, u1, u2, u3, u4, u5, Eq⟩ := X3.z
        go_wp2_with (refine st25 _ rfl _ _ rfl rfl _ _ _ _ _ _ _ _ _ _ _ rfl rfl Eq ?_)
        intro wz Ez Sz
        go_wp2
        exact bodyPost_ret (results_cellb (a := 2) (t := 36) (b := 3) (by rfl) (by rfl) (by rfl) (load25 Ez)) (by rfl) ⟨_, R_elem_word hk1 (.inr (.inl h2.out)), ⟨_, rfl, NdV.out hv Sz hq1 hs1, (X3.fin Sz).2⟩, (X3.fin Sz).1⟩
      · rw [decide_eq_false h2] at t2; replace h2 : Hid (¬ txW W i = falseT) := h2
        by_cases hn3 : txW W i = nilT
        · rw [decide_eq_true hn3] at t3; replace hn3 : Hid (txW W i = nilT) := hn3
          go_wp2_with fail
          refine (leaf_any S X2.rd hi 13).mono ?_
          rintro e w3 ⟨v, rfl, hv, h3, F3⟩
          obtain ⟨na, nc, ka, kc, _, rfl, _⟩ := NdV.parts hv
          have X3 := X2.go F3 h3
          obtain ⟨u0, u1, u2, u3, u4, u5, Eq⟩ := X3.z
          go_wp2_with (refine st25 _ rfl _ _ rfl rfl _ _ _ _ _ _ _ _ _ _ _ rfl rfl Eq ?_)
          intro wz Ez Sz
          go_wp2
          exact bodyPost_ret (results_cellb (a := 2) (t := 36) (b := 3) (by rfl) (by rfl) (by rfl) (load25 Ez)) (by rfl) ⟨_, R_elem_word hk1 (.inr (.inr hn3.out)), ⟨_, rfl, NdV.out hv Sz hq1 hs1, (X3.fin Sz).2⟩, (X3.fin Sz).1⟩
        · rw [decide_eq_false hn3] at t3; replace hn3 : Hid (¬ txW W i = nilT) := hn3
          go_wp2_with fail
          refine (leaf_any S X2.rd hi 3).mono ?_
          rintro e w3 ⟨v, rfl, hv, h3, F3⟩
          obtain ⟨na, nc, ka, kc, _, rfl, _⟩ := NdV.parts hv
          have X3 := X2.go F3 h3
          obtain ⟨u0, u1, u2, u3, u4, u5, Eq⟩ := X3.z
          go_wp2_with (refine st25 _ rfl _ _ rfl rfl _ _ _ _ _ _ _ _ _ _ _ rfl rfl Eq ?_)
          intro wz Ez Sz
          go_wp2
          exact bodyPost_ret (results_cellb (a := 2) (t := 36) (b := 3) (by rfl) (by rfl) (by rfl) (load25 Ez)) (by rfl) ⟨_, R_elem_name hk1 (fun h => h.elim h1.out (fun h => h.elim h2.out hn3.out)), ⟨_, rfl, NdV.out hv Sz hq1 hs1, (X3.fin Sz).2⟩, (X3.fin Sz).1⟩
  · skip
    by_cases hk2 : kdW W i = 2
    · rw [hk2] at y0 ⊢
      go_wp2_with fail
      refine (leaf_any S X2.rd hi 3).mono ?_
      rintro e w3 ⟨v, rfl, hv, h3, F3⟩
      obtain ⟨na, nc, ka, kc, _, rfl, _⟩ := NdV.parts hv
      have X3 := X2.go F3 h3
      obtain ⟨u0, u1, u2, u3, u4, u5, Eq⟩ := X3.z
      go_wp2_with (refine st25 _ rfl _ _ rfl rfl _ _ _ _ _ _ _ _ _ _ _ rfl rfl Eq ?_)
      intro wz Ez Sz
      go_wp2
      exact bodyPost_ret (results_cellb (a := 2) (t := 36) (b := 3) (by rfl) (by rfl) (by rfl) (load25 Ez)) (by rfl) ⟨_, R_elem_key hk2, ⟨_, rfl, NdV.out hv Sz hq1 hs1, (X3.fin Sz).2⟩, (X3.fin Sz).1⟩
    · skip
      by_cases hk3 : kdW W i = 3
      · rw [hk3] at y0 ⊢
        go_wp2_with fail
        refine (leaf_any S X2.rd hi 3).mono ?_
        rintro e w3 ⟨v, rfl, hv, h3, F3⟩
        obtain ⟨na, nc, ka, kc, _, rfl, _⟩ := NdV.parts hv
        have X3 := X2.go F3 h3
        obtain ⟨u0, u1, u2, u3, u4, u5, Eq⟩ := X3.z
        go_wp2_with (refine st25 _ rfl _ _ rfl rfl _ _ _ _ _ _ _ _ _ _ _ rfl rfl Eq ?_)
        intro wz Ez Sz
        go_wp2
        exact bodyPost_ret (results_cellb (a := 2) (t := 36) (b := 3) (by rfl) (by rfl) (by rfl) (load25 Ez)) (by rfl) ⟨_, R_elem_sign hk3, ⟨_, rfl, NdV.out hv Sz hq1 hs1, (X3.fin Sz).2⟩, (X3.fin Sz).1⟩
      · skip
        by_cases hk8 : kdW W i = 8
        · rw [hk8] at y0 ⊢
          go_wp2_with fail
          refine (H (.inl hk8) w2 p X2.rd).mono ?_
          rintro e w3 ⟨r, hr, ha, F3⟩
          cases r with
          | er j c =>
            obtain ⟨v, x, d', rfl, hv, h3⟩ := ha
            obtain ⟨na, nc, ka, kc, _, rfl, _⟩ := NdV.parts hv
            have X3 := X2.go F3 h3
            obtain ⟨u0, u1, u2, u3, u4, u5, Eq⟩ := X3.z
            go_wp2_with (refine st25 _ rfl _ _ rfl rfl _ _ _ _ _ _ _ _ _ _ _ rfl rfl Eq ?_)
            intro wz Ez Sz
            go_wp2
            exact bodyPost_ret (results_cellb (a := 2) (t := 36) (b := 3) (by rfl) (by rfl) (by rfl) (load25 Ez)) (by rfl) ⟨_, R_elem_open hr hk8, ⟨_, _, _, rfl, hv.out Sz hq1 hs1, (X3.fin Sz).2⟩, (X3.fin Sz).1⟩
          | ok x j =>
            obtain ⟨v, rfl, hv, h3⟩ := ha
            obtain ⟨na, nc, ka, kc, _, rfl, _⟩ := NdV.parts hv
            have X3 := X2.go F3 h3
            obtain ⟨u0, u1, u2, u3, u4, u5, Eq⟩ := X3.z
            go_wp2_with (refine st25 _ rfl _ _ rfl rfl _ _ _ _ _ _ _ _ _ _ _ rfl rfl Eq ?_)
            intro wz Ez Sz
            go_wp2
            exact bodyPost_ret (results_cellb (a := 2) (t := 36) (b := 3) (by rfl) (by rfl) (by rfl) (load25 Ez)) (by rfl) ⟨_, R_elem_open hr hk8, ⟨_, rfl, hv.out Sz hq1 hs1, (X3.fin Sz).2⟩, (X3.fin Sz).1⟩
        · skip
          have b1 : (kdW W i == 1) = false := by simp [hk1]
          have b2 : (kdW W i == 2) = false := by simp [hk2]
          have b3 : (kdW W i == 3) = false := by simp [hk3]
          have b8 : (kdW W i == 8) = false := by simp [hk8]
          go_wp2_with fail
          refine (HL hk1 hk2 hk3 hk8 w2 p X2.rd).mono ?_
          rintro e w3 ⟨r, hr, ha, F3⟩
          cases r with
          | er j c =>
            obtain ⟨v, x, d', rfl, hv, h3⟩ := ha
            obtain ⟨na, nc, ka, kc, _, rfl, _⟩ := NdV.parts hv
            have X3 := X2.go F3 h3
            obtain ⟨u0, u1, u2, u3, u4, u5, Eq⟩ := X3.z
            go_wp2_with (refine st25 _ rfl _ _ rfl rfl _ _ _ _ _ _ _ _ _ _ _ rfl rfl Eq ?_)
            intro wz Ez Sz
            go_wp2
            exact bodyPost_ret (results_cellb (a := 2) (t := 36) (b := 3) (by rfl) (by rfl) (by rfl) (load25 Ez)) (by rfl) ⟨_, hr, ⟨_, _, _, rfl, hv.out Sz hq1 hs1, (X3.fin Sz).2⟩, (X3.fin Sz).1⟩
          | ok x j =>
            obtain ⟨v, rfl, hv, h3⟩ := ha
            obtain ⟨na, nc, ka, kc, _, rfl, _⟩ := NdV.parts hv
            have X3 := X2.go F3 h3
            obtain ⟨u0, u1, u2, u3, u4, u5, Eq⟩ := X3.z
            go_wp2_with (refine st25 _ rfl _ _ rfl rfl _ _ _ _ _ _ _ _ _ _ _ rfl rfl Eq ?_)
            intro wz Ez Sz
            go_wp2
            exact bodyPost_ret (results_cellb (a := 2) (t := 36) (b := 3) (by rfl) (by rfl) (by rfl) (load25 Ez)) (by rfl) ⟨_, hr, ⟨_, rfl, hv.out Sz hq1 hs1, (X3.fin Sz).2⟩, (X3.fin Sz).1⟩
end Go.Proofs.Ytoghhjljmhdioaa
