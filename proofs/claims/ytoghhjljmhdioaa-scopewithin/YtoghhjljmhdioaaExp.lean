/- expression. -/
import Derived.Test.YtoghhjljmhdioaaSet
import Derived.Test.YtoghhjljmhdioaaCas
import Derived.Test.YtoghhjljmhdioaaAnyS
namespace Go.Proofs.Ytoghhjljmhdioaa
open Go.RowKit
set_option maxRecDepth 100000
theorem Rdw.two {w : World} {p : Nat} {W : List Tk} {i : Nat} {d y : Int} (h : Rdw w p W i d y) (b off c : Nat) (hp : w.cell? ⟨p, 0, none⟩ = some (.slice (some ⟨b, off, none⟩) W.length c)) (hi : i + 1 < W.length) : w.cell? ⟨p, 1, none⟩ = some (.int .i64 (i : Int)) ∧ w.cell? ⟨b, off + (i + 1) * 3, none⟩ = some (.int .i64 (kdW W (i + 1))) := by
  obtain ⟨b', off', c', h1, h2, h3⟩ := h.ex
  obtain ⟨c0, c1, _⟩ := rd_cells h1
  rw [c0] at hp
  simp only [Option.some.injEq, Value.slice.injEq, Addr.mk.injEq, and_true, true_and] at hp
  obtain ⟨⟨rfl, rfl⟩, rfl⟩ := hp
  obtain ⟨b', off', e, hc⟩ := h3.cells (by omega)
  simp only [Option.some.injEq, Addr.mk.injEq, and_true] at e
  obtain ⟨rfl, rfl⟩ := e
  exact ⟨c1, (hc (i + 1) hi).1⟩
/-- What the operations yield. -/
def expV (p : Nat) (j : Nat) : Value :=
  ([.pointer (some ⟨p, 0, none⟩),
    .bool false,
    .bool false,
    undef,
    undef,
    undef,
    undef,
    undef,
    undef,
    undef,
    undef,
    undef,
    undef,
    undef,
    undef,
    undef,
    .bool false] : List Value).getD j undef
theorem expV_list {l : List Value} (hh : l.length = 17) : ∃ v0 v1 v2 v3 v4 v5 v6 v7 v8 v9 v10 v11 v12 v13 v14 v15 v16, l = [v0, v1, v2, v3, v4, v5, v6, v7, v8, v9, v10, v11, v12, v13, v14, v15, v16] := by
  obtain ⟨v0, t0, rfl, h0⟩ := cons_of hh
  obtain ⟨v1, t1, rfl, h1⟩ := cons_of h0
  obtain ⟨v2, t2, rfl, h2⟩ := cons_of h1
  obtain ⟨v3, t3, rfl, h3⟩ := cons_of h2
  obtain ⟨v4, t4, rfl, h4⟩ := cons_of h3
  obtain ⟨v5, t5, rfl, h5⟩ := cons_of h4
  obtain ⟨v6, t6, rfl, h6⟩ := cons_of h5
  obtain ⟨v7, t7, rfl, h7⟩ := cons_of h6
  obtain ⟨v8, t8, rfl, h8⟩ := cons_of h7
  obtain ⟨v9, t9, rfl, h9⟩ := cons_of h8
  obtain ⟨v10, t10, rfl, h10⟩ := cons_of h9
  obtain ⟨v11, t11, rfl, h11⟩ := cons_of h10
  obtain ⟨v12, t12, rfl, h12⟩ := cons_of h11
  obtain ⟨v13, t13, rfl, h13⟩ := cons_of h12
  obtain ⟨v14, t14, rfl, h14⟩ := cons_of h13
  obtain ⟨v15, t15, rfl, h15⟩ := cons_of h14
  obtain ⟨v16, t16, rfl, h16⟩ := cons_of h15
  obtain rfl := List.eq_nil_of_length_eq_zero h16
  exact ⟨_, _, _, _, _, _, _, _, _, _, _, _, _, _, _, _, _, rfl⟩
theorem is_no {w : World} {p : Nat} {W : List Tk} {i : Nat} {d y : Int} (h : Rdw w p W i d y) (hi : i < W.length) (k : Int) (hk : kdW W i ≠ k) :
    Calls Try.prog 18 #[.pointer (some ⟨p, 0, none⟩), .int .i64 k] w fun e w' => e = .returned (.bool false) ∧ Below w.heap.size w w' := by
  refine (is_any h hi k).mono ?_
  rintro e w' ⟨rfl, B⟩
  exact ⟨by simp [hk], B⟩
set_option maxHeartbeats 4000000 in
theorem expression_con {W : List Tk} {E : Nat} (S : Src W E) {i d : Nat} (hi : i ≤ E) (HS : kdW W i = 1 → kdW W (i + 1) = 7 → Con0 65 W (.expr i d) i d) (HC : Con0 66 W (.casc i d) i d) : Con0 56 W (.expr i d) i d := by
  intro w p h
  go_enter Try.func56, Try.ntmps56
  go_wp2_with (refine al25 _ rfl rfl ?_)
  intro q w1 E1 hq B1
  have X := Sx.start h ⟨_, _, _, _, _, _, E1⟩ hq B1
  have hp := X.hp
  have hq1 := X.z.lt
  have hs1 := X.size
  clear E1 hq B1 h
  go_wp2_with fail
  obtain ⟨bb, off, c, e1, hbp, _⟩ := X.rd.ex
  have hp0 := (rd_cells e1).1
  by_cases hk : kdW W i = 1
  · have hlt : i < E := S.ends.lt (by rw [hk]; decide)
    have hwi : IntKind.i64.wrap ((i : Int) + 1) = (i : Int) + 1 := by have := S.small; rw [IntKind.wrap_i64]; omega
    have hix1 : (0 : Int) ≤ (i : Int) + 1 := by omega
    have hix2 : (i : Int) + 1 < (W.length : Int) := by have := S.ends.len; omega
    have hix3 : ((i : Int) + 1).toNat = i + 1 := by omega
    have hx1 : i + 1 < W.length := by have := S.ends.len; omega
    have h1d : Rdw w1.drew p W i (d : Int) 20 := X.rd.same (fun _ _ => rfl) rfl
    have hp0d : w1.drew.cell? ⟨p, 0, none⟩ = some (.slice (some ⟨bb, off, none⟩) W.length c) := hp0
    go_region_with (go_at_call 18; go_loud (refine (is_any (i := i) (d := (d : Int)) (y := 20) (W := W) (p := p) ?_ (S.lt hi) 1).mono ?_); exact h1d; go_loud (rintro e w2 ⟨rfl, B2⟩); go_loud (rw [show (kdW W i == 1) = true by simp [hk]]); go_loud (have hp2 := (B2.cell (p := ⟨p, 0, none⟩) (block_lt_of_cell hp0d)).trans hp0d); go_loud (obtain ⟨c1, c2⟩ := (h1d.fr B2).two bb off c hp2 hx1))
    all_goals
      replace X := X.go (Fr.of_below ((Below.refl _ w1).drew.trans B2)) (h1d.fr B2)
      have hs12 : w1.heap.size ≤ w2.heap.size := B2.size
      replace hq1 : q < w2.heap.size := by omega
      replace hs1 : w.heap.size ≤ w2.heap.size := by omega
      clear hp0 hp0d hp2 e1 B2
      by_cases hk7 : kdW W (i + 1) = 7
      · rw [show (kdW W (i + 1) == 7) = true by simp [hk7]]
        clear c1 c2
        go_wp2_with fail
        refine (HS hk hk7 w2 p X.rd).mono ?_
        rintro e w3 ⟨r, hr, ha, F3⟩
        cases r with
        | er j c =>
          obtain ⟨v, x, d', rfl, hv, h3⟩ := ha
          obtain ⟨na, nc, ka, kc, _, rfl, _⟩ := NdV.parts hv
          have X3 := X.go F3 h3
          obtain ⟨u0, u1, u2, u3, u4, u5, Eq⟩ := X3.z
          go_wp2_with (refine st25 _ rfl _ _ rfl rfl _ _ _ _ _ _ _ _ _ _ _ rfl rfl Eq ?_)
          intro wz Ez Sz
          go_wp2
          exact bodyPost_ret (results_cellb (a := 2) (t := 36) (b := 3) (by rfl) (by rfl) (by rfl) (load25 Ez)) (by rfl) ⟨_, hr, ⟨_, _, _, rfl, hv.out Sz hq1 hs1, (X3.fin Sz).2⟩, (X3.fin Sz).1⟩
        | ok x j =>
          obtain ⟨v, rfl, hv, h3⟩ := ha
          obtain ⟨na, nc, ka, kc, _, rfl, _⟩ := NdV.parts hv
          have X3 := X.go F3 h3
          obtain ⟨u0, u1, u2, u3, u4, u5, Eq⟩ := X3.z
          go_wp2_with (refine st25 _ rfl _ _ rfl rfl _ _ _ _ _ _ _ _ _ _ _ rfl rfl Eq ?_)
          intro wz Ez Sz
          go_wp2
          exact bodyPost_ret (results_cellb (a := 2) (t := 36) (b := 3) (by rfl) (by rfl) (by rfl) (load25 Ez)) (by rfl) ⟨_, hr, ⟨_, rfl, hv.out Sz hq1 hs1, (X3.fin Sz).2⟩, (X3.fin Sz).1⟩
      · rw [show (kdW W (i + 1) == 7) = false by simp [hk7]]
        clear c1 c2
        go_wp2_with fail
        refine (HC w2 p X.rd).mono ?_
        rintro e w3 ⟨r, hr, ha, F3⟩
        cases r with
        | er j c =>
          obtain ⟨v, x, d', rfl, hv, h3⟩ := ha
          obtain ⟨na, nc, ka, kc, _, rfl, _⟩ := NdV.parts hv
          have X3 := X.go F3 h3
          obtain ⟨u0, u1, u2, u3, u4, u5, Eq⟩ := X3.z
          go_wp2_with (refine st25 _ rfl _ _ rfl rfl _ _ _ _ _ _ _ _ _ _ _ rfl rfl Eq ?_)
          intro wz Ez Sz
          go_wp2
          exact bodyPost_ret (results_cellb (a := 2) (t := 36) (b := 3) (by rfl) (by rfl) (by rfl) (load25 Ez)) (by rfl) ⟨_, R_expr_casc hr (fun h => hk7 h.2), ⟨_, _, _, rfl, hv.out Sz hq1 hs1, (X3.fin Sz).2⟩, (X3.fin Sz).1⟩
        | ok x j =>
          obtain ⟨v, rfl, hv, h3⟩ := ha
          obtain ⟨na, nc, ka, kc, _, rfl, _⟩ := NdV.parts hv
          have X3 := X.go F3 h3
          obtain ⟨u0, u1, u2, u3, u4, u5, Eq⟩ := X3.z
          go_wp2_with (refine st25 _ rfl _ _ rfl rfl _ _ _ _ _ _ _ _ _ _ _ rfl rfl Eq ?_)
          intro wz Ez Sz
          go_wp2
          exact bodyPost_ret (results_cellb (a := 2) (t := 36) (b := 3) (by rfl) (by rfl) (by rfl) (load25 Ez)) (by rfl) ⟨_, R_expr_casc hr (fun h => hk7 h.2), ⟨_, rfl, hv.out Sz hq1 hs1, (X3.fin Sz).2⟩, (X3.fin Sz).1⟩
  · have h1d : Rdw w1.drew p W i (d : Int) 20 := X.rd.same (fun _ _ => rfl) rfl
    have B1d : Below w1.heap.size w1 w1.drew := (Below.refl _ _).drew
    go_wp2_with fail
    refine abstract_act fun A hA => ?_
    have hsz : A.tmps.size = 29 := by rw [hA]; rfl
    have s0 : A.tmps[0]? = some (.pointer (some ⟨p, 0, none⟩)) := by rw [hA]; rfl
    refine wp_region_inv3' (fun A D a w' => ∃ (l : List Value), a = putAll A 4 l ∧ l.length = 17 ∧ (∀ j, j < 17 → D j → l[j]? = some (expV p j)) ∧ (D 1 ∨ (Rdw w' p W i (d : Int) 20 ∧ Below w1.heap.size w1 w')) ∧ (D 1 → (Rdw w' p W i (d : Int) 20 ∧ Below w1.heap.size w1 w'))) (by kernel_rfl) (by kernel_rfl) ?mono ?start ?step ?done
    case mono =>
      rintro D D' a w' hD ⟨l, ha, hlen, hl, hN, hL⟩
      exact ⟨l, ha, hlen, fun j hj h => hl j hj ((hD j).2 h), hN.imp_left (hD 1).1, fun h => hL ((hD 1).2 h)⟩
    case start => exact ⟨_, (putAll_start A 4 17 (by omega)).1, (putAll_start A 4 17 (by omega)).2, fun _ _ h => h.elim, .inr (⟨h1d, B1d⟩), fun h => h.elim⟩
    case step =>
      clear hA
      intro i o ho D a w' hI hn hcl hd
      obtain ⟨l, ha, hlen, hl, hN, hL⟩ := hI
      match i, ho with
      | 0, ho =>
        cases Option.some.inj ho
        refine .inl ⟨rfl, ?_⟩
        have ev : a.tmps[0]? = some (.pointer (some ⟨p, 0, none⟩)) := by rw [ha, putAll_low A 4 0 l (by omega) (by decide)]; exact s0
        refine wp_value (w' := w') (v := .pointer (some ⟨p, 0, none⟩)) (by simp [execOp, ev, go_sem]) ?_
        exact ⟨_, by rw [ha]; exact putAll_put A 4 0 l _ (by omega) (by omega), by rw [List.length_set]; exact hlen, set_known hlen (by decide) hl, hN.imp_left .inr, fun h => hL (h.resolve_left (by decide))⟩
      | 1, ho =>
        cases Option.some.inj ho
        refine .inl ⟨rfl, ?_⟩
        have ev : a.tmps[4]? = some (.pointer (some ⟨p, 0, none⟩)) := known_at ha hsz hlen hl 0 (by decide) (hd ⟨0, .data⟩ (by simp) rfl)
        have hN6 := hN.resolve_left hn
        refine wp_enter (f := 18) (args := #[.pointer (some ⟨p, 0, none⟩), .int .i64 1]) (by simp [execOp, ev, go_sem]) ?_
        refine (is_no hN6.1 (S.lt hi) 1 hk).mono ?_
        rintro e w6 ⟨rfl, B9⟩
        refine ⟨_, rfl, ?_⟩
        exact ⟨_, by rw [ha]; exact putAll_put A 4 1 l _ (by omega) (by omega), by rw [List.length_set]; exact hlen, set_known hlen (by decide) hl, .inl (.inl rfl), fun _ => ⟨hN6.1.fr B9, hN6.2.trans (B9.mono hN6.2.size)⟩⟩
      | 2, ho =>
        cases Option.some.inj ho
        refine .inl ⟨rfl, ?_⟩
        have ev : a.tmps[5]? = some (.bool false) := known_at ha hsz hlen hl 1 (by decide) (hd ⟨1, .data⟩ (by simp) rfl)
        refine wp_value (w' := w') (v := .bool false) (by simp [execOp, ev, go_sem]) ?_
        exact ⟨_, by rw [ha]; exact putAll_put A 4 2 l _ (by omega) (by omega), by rw [List.length_set]; exact hlen, set_known hlen (by decide) hl, hN.imp_left .inr, fun h => hL (h.resolve_left (by decide))⟩
      | 3, ho =>
        cases Option.some.inj ho
        refine .inr ⟨wanted_not (k := 6) rfl rfl rfl (known_at ha hsz hlen hl 2 (by decide) (hd ⟨2, .guard⟩ (by simp) rfl)) (by simp [expV, undef]), ?_⟩
        exact ⟨_, by rw [ha]; exact putAll_put A 4 3 l _ (by omega) (by omega), by rw [List.length_set]; exact hlen, set_known hlen (by decide) hl, hN.imp_left .inr, fun h => hL (h.resolve_left (by decide))⟩
      | 4, ho =>
        cases Option.some.inj ho
        refine .inr ⟨wanted_not (k := 6) rfl rfl rfl (known_at ha hsz hlen hl 2 (by decide) (hd ⟨2, .guard⟩ (by simp) rfl)) (by simp [expV, undef]), ?_⟩
        exact ⟨_, by rw [ha]; exact putAll_put A 4 4 l _ (by omega) (by omega), by rw [List.length_set]; exact hlen, set_known hlen (by decide) hl, hN.imp_left .inr, fun h => hL (h.resolve_left (by decide))⟩
      | 5, ho =>
        cases Option.some.inj ho
        refine .inr ⟨wanted_not (k := 6) rfl rfl rfl (known_at ha hsz hlen hl 2 (by decide) (hd ⟨2, .guard⟩ (by simp) rfl)) (by simp [expV, undef]), ?_⟩
        exact ⟨_, by rw [ha]; exact putAll_put A 4 5 l _ (by omega) (by omega), by rw [List.length_set]; exact hlen, set_known hlen (by decide) hl, hN.imp_left .inr, fun h => hL (h.resolve_left (by decide))⟩
      | 6, ho =>
        cases Option.some.inj ho
        refine .inr ⟨wanted_not (k := 6) rfl rfl rfl (known_at ha hsz hlen hl 2 (by decide) (hd ⟨2, .guard⟩ (by simp) rfl)) (by simp [expV, undef]), ?_⟩
        exact ⟨_, by rw [ha]; exact putAll_put A 4 6 l _ (by omega) (by omega), by rw [List.length_set]; exact hlen, set_known hlen (by decide) hl, hN.imp_left .inr, fun h => hL (h.resolve_left (by decide))⟩
      | 7, ho =>
        cases Option.some.inj ho
        refine .inr ⟨wanted_not (k := 6) rfl rfl rfl (known_at ha hsz hlen hl 2 (by decide) (hd ⟨2, .guard⟩ (by simp) rfl)) (by simp [expV, undef]), ?_⟩
        exact ⟨_, by rw [ha]; exact putAll_put A 4 7 l _ (by omega) (by omega), by rw [List.length_set]; exact hlen, set_known hlen (by decide) hl, hN.imp_left .inr, fun h => hL (h.resolve_left (by decide))⟩
      | 8, ho =>
        cases Option.some.inj ho
        refine .inr ⟨wanted_not (k := 6) rfl rfl rfl (known_at ha hsz hlen hl 2 (by decide) (hd ⟨2, .guard⟩ (by simp) rfl)) (by simp [expV, undef]), ?_⟩
        exact ⟨_, by rw [ha]; exact putAll_put A 4 8 l _ (by omega) (by omega), by rw [List.length_set]; exact hlen, set_known hlen (by decide) hl, hN.imp_left .inr, fun h => hL (h.resolve_left (by decide))⟩
      | 9, ho =>
        cases Option.some.inj ho
        refine .inr ⟨wanted_not (k := 6) rfl rfl rfl (known_at ha hsz hlen hl 2 (by decide) (hd ⟨2, .guard⟩ (by simp) rfl)) (by simp [expV, undef]), ?_⟩
        exact ⟨_, by rw [ha]; exact putAll_put A 4 9 l _ (by omega) (by omega), by rw [List.length_set]; exact hlen, set_known hlen (by decide) hl, hN.imp_left .inr, fun h => hL (h.resolve_left (by decide))⟩
      | 10, ho =>
        cases Option.some.inj ho
        refine .inr ⟨wanted_not (k := 6) rfl rfl rfl (known_at ha hsz hlen hl 2 (by decide) (hd ⟨2, .guard⟩ (by simp) rfl)) (by simp [expV, undef]), ?_⟩
        exact ⟨_, by rw [ha]; exact putAll_put A 4 10 l _ (by omega) (by omega), by rw [List.length_set]; exact hlen, set_known hlen (by decide) hl, hN.imp_left .inr, fun h => hL (h.resolve_left (by decide))⟩
      | 11, ho =>
        cases Option.some.inj ho
        refine .inr ⟨wanted_not (k := 6) rfl rfl rfl (known_at ha hsz hlen hl 2 (by decide) (hd ⟨2, .guard⟩ (by simp) rfl)) (by simp [expV, undef]), ?_⟩
        exact ⟨_, by rw [ha]; exact putAll_put A 4 11 l _ (by omega) (by omega), by rw [List.length_set]; exact hlen, set_known hlen (by decide) hl, hN.imp_left .inr, fun h => hL (h.resolve_left (by decide))⟩
      | 12, ho =>
        cases Option.some.inj ho
        refine .inr ⟨wanted_not (k := 6) rfl rfl rfl (known_at ha hsz hlen hl 2 (by decide) (hd ⟨2, .guard⟩ (by simp) rfl)) (by simp [expV, undef]), ?_⟩
        exact ⟨_, by rw [ha]; exact putAll_put A 4 12 l _ (by omega) (by omega), by rw [List.length_set]; exact hlen, set_known hlen (by decide) hl, hN.imp_left .inr, fun h => hL (h.resolve_left (by decide))⟩
      | 13, ho =>
        cases Option.some.inj ho
        refine .inr ⟨wanted_not (k := 6) rfl rfl rfl (known_at ha hsz hlen hl 2 (by decide) (hd ⟨2, .guard⟩ (by simp) rfl)) (by simp [expV, undef]), ?_⟩
        exact ⟨_, by rw [ha]; exact putAll_put A 4 13 l _ (by omega) (by omega), by rw [List.length_set]; exact hlen, set_known hlen (by decide) hl, hN.imp_left .inr, fun h => hL (h.resolve_left (by decide))⟩
      | 14, ho =>
        cases Option.some.inj ho
        refine .inr ⟨wanted_not (k := 6) rfl rfl rfl (known_at ha hsz hlen hl 2 (by decide) (hd ⟨2, .guard⟩ (by simp) rfl)) (by simp [expV, undef]), ?_⟩
        exact ⟨_, by rw [ha]; exact putAll_put A 4 14 l _ (by omega) (by omega), by rw [List.length_set]; exact hlen, set_known hlen (by decide) hl, hN.imp_left .inr, fun h => hL (h.resolve_left (by decide))⟩
      | 15, ho =>
        cases Option.some.inj ho
        refine .inr ⟨wanted_not (k := 6) rfl rfl rfl (known_at ha hsz hlen hl 2 (by decide) (hd ⟨2, .guard⟩ (by simp) rfl)) (by simp [expV, undef]), ?_⟩
        exact ⟨_, by rw [ha]; exact putAll_put A 4 15 l _ (by omega) (by omega), by rw [List.length_set]; exact hlen, set_known hlen (by decide) hl, hN.imp_left .inr, fun h => hL (h.resolve_left (by decide))⟩
      | 16, ho =>
        cases Option.some.inj ho
        refine .inl ⟨rfl, ?_⟩
        have ev : a.tmps[6]? = some (.bool false) := known_at ha hsz hlen hl 2 (by decide) (hd ⟨2, .data⟩ (by simp) rfl)
        refine wp_value (w' := w') (v := .bool false) (by simp [execOp, ev, go_sem]) ?_
        exact ⟨_, by rw [ha]; exact putAll_put A 4 16 l _ (by omega) (by omega), by rw [List.length_set]; exact hlen, set_known hlen (by decide) hl, hN.imp_left .inr, fun h => hL (h.resolve_left (by decide))⟩
      | i + 17, ho => simp at ho
    case done =>
      rintro D a w' ⟨l, ha, hlen, hl, hN, hL⟩ hall
      obtain ⟨v0, v1, v2, v3, v4, v5, v6, v7, v8, v9, v10, v11, v12, v13, v14, v15, v16, rfl⟩ := expV_list hlen
      have hL6 := hL (hall 1 (by decide))
      have hz := hl 16 (by decide) (hall 16 (by decide))
      simp only [List.getElem?_cons_succ, List.getElem?_cons_zero, Option.some.injEq] at hz
      have hz' : v16 = .bool false := hz
      subst hz'
      subst hA
      have hfr : a = _ := ha
      rw [hfr]
      clear hfr ha
      simp only [putAll, List.take_succ_cons, List.take_zero, List.drop_succ_cons, List.drop_zero, List.cons_append, List.nil_append, List.length_cons, List.length_nil]
      clear hl hN hL hall
      replace X := X.go (Fr.of_below hL6.2) hL6.1
      have hs12 : w1.heap.size ≤ w'.heap.size := hL6.2.size
      replace hq1 : q < w'.heap.size := by omega
      replace hs1 : w.heap.size ≤ w'.heap.size := by omega
      clear hL6
      go_wp2_with fail
      refine (HC w' p X.rd).mono ?_
      rintro e w3 ⟨r, hr, ha, F3⟩
      cases r with
      | er j c =>
        obtain ⟨v, x, d', rfl, hv, h3⟩ := ha
        obtain ⟨na, nc, ka, kc, _, rfl, _⟩ := NdV.parts hv
        have X3 := X.go F3 h3
        obtain ⟨u0, u1, u2, u3, u4, u5, Eq⟩ := X3.z
        go_wp2_with (refine st25 _ rfl _ _ rfl rfl _ _ _ _ _ _ _ _ _ _ _ rfl rfl Eq ?_)
        intro wz Ez Sz
        go_wp2
        exact bodyPost_ret (results_cellb (a := 2) (t := 36) (b := 3) (by rfl) (by rfl) (by rfl) (load25 Ez)) (by rfl) ⟨_, R_expr_casc hr (fun h => hk h.1), ⟨_, _, _, rfl, hv.out Sz hq1 hs1, (X3.fin Sz).2⟩, (X3.fin Sz).1⟩
      | ok x j =>
        obtain ⟨v, rfl, hv, h3⟩ := ha
        obtain ⟨na, nc, ka, kc, _, rfl, _⟩ := NdV.parts hv
        have X3 := X.go F3 h3
        obtain ⟨u0, u1, u2, u3, u4, u5, Eq⟩ := X3.z
        go_wp2_with (refine st25 _ rfl _ _ rfl rfl _ _ _ _ _ _ _ _ _ _ _ rfl rfl Eq ?_)
        intro wz Ez Sz
        go_wp2
        exact bodyPost_ret (results_cellb (a := 2) (t := 36) (b := 3) (by rfl) (by rfl) (by rfl) (load25 Ez)) (by rfl) ⟨_, R_expr_casc hr (fun h => hk h.1), ⟨_, rfl, hv.out Sz hq1 hs1, (X3.fin Sz).2⟩, (X3.fin Sz).1⟩
end Go.Proofs.Ytoghhjljmhdioaa
