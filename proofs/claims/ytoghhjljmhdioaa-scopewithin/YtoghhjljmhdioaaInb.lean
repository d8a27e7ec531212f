/- inBrackets. -/
import Derived.Test.YtoghhjljmhdioaaKbx
import Derived.Test.YtoghhjljmhdioaaPri
import Derived.Test.YtoghhjljmhdioaaAnyS
namespace Go.Proofs.Ytoghhjljmhdioaa
open Go.RowKit
set_option maxRecDepth 100000
/-- What the operations yield. -/
def inbV (x : Nd) (p : Nat) (na ka : Option Addr) (nc kc : Nat) (j : Nat) : Value :=
  ([.agg #[.int .i64 x.kind, .string (strOfNums x.text), .int .i64 (x.pos : Int), .int .i64 (x.n : Int), .slice na x.names.length nc, .slice ka x.kids.length kc],
    .bool true,
    .bool true,
    .pointer (some ⟨p, 0, none⟩),
    .bool true,
    .bool true] : List Value).getD j undef
theorem inbV_list {l : List Value} (hh : l.length = 6) : ∃ v0 v1 v2 v3 v4 v5, l = [v0, v1, v2, v3, v4, v5] := by
  obtain ⟨v0, t0, rfl, h0⟩ := cons_of hh
  obtain ⟨v1, t1, rfl, h1⟩ := cons_of h0
  obtain ⟨v2, t2, rfl, h2⟩ := cons_of h1
  obtain ⟨v3, t3, rfl, h3⟩ := cons_of h2
  obtain ⟨v4, t4, rfl, h4⟩ := cons_of h3
  obtain ⟨v5, t5, rfl, h5⟩ := cons_of h4
  obtain rfl := List.eq_nil_of_length_eq_zero h5
  exact ⟨_, _, _, _, _, _, rfl⟩
/-- What the operations yield. -/
def innV (x : Nd) (p : Nat) (na ka : Option Addr) (nc kc : Nat) (j : Nat) : Value :=
  ([.agg #[.int .i64 x.kind, .string (strOfNums x.text), .int .i64 (x.pos : Int), .int .i64 (x.n : Int), .slice na x.names.length nc, .slice ka x.kids.length kc],
    .bool true,
    .bool true,
    .pointer (some ⟨p, 0, none⟩),
    .bool false,
    .bool false] : List Value).getD j undef
theorem innV_list {l : List Value} (hh : l.length = 6) : ∃ v0 v1 v2 v3 v4 v5, l = [v0, v1, v2, v3, v4, v5] := by
  obtain ⟨v0, t0, rfl, h0⟩ := cons_of hh
  obtain ⟨v1, t1, rfl, h1⟩ := cons_of h0
  obtain ⟨v2, t2, rfl, h2⟩ := cons_of h1
  obtain ⟨v3, t3, rfl, h3⟩ := cons_of h2
  obtain ⟨v4, t4, rfl, h4⟩ := cons_of h3
  obtain ⟨v5, t5, rfl, h5⟩ := cons_of h4
  obtain rfl := List.eq_nil_of_length_eq_zero h5
  exact ⟨_, _, _, _, _, _, rfl⟩
/-- What the operations yield. -/
def inzV (x : Nd) (na ka : Option Addr) (nc kc : Nat) (j : Nat) : Value :=
  ([.agg #[.int .i64 x.kind, .string (strOfNums x.text), .int .i64 (x.pos : Int), .int .i64 (x.n : Int), .slice na x.names.length nc, .slice ka x.kids.length kc],
    .bool false,
    .bool false,
    undef,
    undef,
    .bool false] : List Value).getD j undef
theorem inzV_list {l : List Value} (hh : l.length = 6) : ∃ v0 v1 v2 v3 v4 v5, l = [v0, v1, v2, v3, v4, v5] := by
  obtain ⟨v0, t0, rfl, h0⟩ := cons_of hh
  obtain ⟨v1, t1, rfl, h1⟩ := cons_of h0
  obtain ⟨v2, t2, rfl, h2⟩ := cons_of h1
  obtain ⟨v3, t3, rfl, h3⟩ := cons_of h2
  obtain ⟨v4, t4, rfl, h4⟩ := cons_of h3
  obtain ⟨v5, t5, rfl, h5⟩ := cons_of h4
  obtain rfl := List.eq_nil_of_length_eq_zero h5
  exact ⟨_, _, _, _, _, _, rfl⟩
set_option maxHeartbeats 4000000 in
theorem inBrackets_con {W : List Tk} {E : Nat} (S : Src W E) {i d : Nat} (hlt : i < E) (hd : d ≤ 40) (hk : kdW W i = 8) (H : d ≠ 40 → Con0 56 W (.expr (i + 1) (d + 1)) (i + 1) (d + 1)) : Con0 81 W (.prim i d) i d := by
  intro w p h
  have hi : i ≤ E := Nat.le_of_lt hlt
  go_enter Try.func81, Try.ntmps81
  go_wp2_with (refine al25 _ rfl rfl ?_)
  intro q w1 E1 hq B1
  have X := Sx.start h ⟨_, _, _, _, _, _, E1⟩ hq B1
  have hp := X.hp
  have hq1 := X.z.lt
  have hs1 := X.size
  clear E1 hq B1 h
  by_cases hd4 : d = 40
  · subst hd4
    go_wp2_with fail
    refine (enter_no X.rd).mono ?_
    rintro e w5 ⟨rfl, h5, F5⟩
    have X5 := X.go F5 h5
    clear X
    obtain ⟨u0, u1, u2, u3, u4, u5, Eq⟩ := X5.z
    go_wp2_with (refine st25 _ rfl _ _ rfl rfl _ _ _ _ _ _ _ _ _ _ _ rfl rfl Eq ?_)
    intro wz Ez Sz
    go_wp2
    exact bodyPost_ret (results_cellb (a := 2) (t := 36) (b := 3) (by rfl) (by rfl) (by rfl) (load25 Ez)) (by rfl) ⟨_, R_prim_deep hk rfl, ⟨_, _, _, rfl, NdV.zero, (X5.fin Sz).2⟩, (X5.fin Sz).1⟩
  · go_wp2_with fail
    refine (enter_yes X.rd (by omega) (S.lt hi)).mono ?_
    rintro e w5 ⟨rfl, h5, F5⟩
    have hs15 : w1.heap.size ≤ w5.heap.size := F5.size
    replace X : Sx w p q w5 W (i + 1) ((d + 1 : Nat) : Int) 20 := X.go F5 h5
    clear F5 h5
    go_wp2_with fail
    refine (H hd4 w5 p X.rd).mono ?_
    rintro e w7 ⟨r, hr, ha, F7⟩
    have hs57 : w5.heap.size ≤ w7.heap.size := F7.size
    cases r with
    | er i' c =>
      obtain ⟨v, x, d', rfl, hv, h7⟩ := ha
      obtain ⟨na, nc, ka, kc, _, rfl, _⟩ := NdV.parts hv
      replace X := X.go F7 h7
      clear F7 h7
      go_wp2_with (refine as25 _ rfl rfl rfl 4 rfl _ rfl rfl _ _ _ _ _ _ _ _ _ _ (fun _ => rfl) (fun _ => rfl) ?_)
      intro q4 w6 Ek hq4 B6
      replace X := X.bel B6
      replace hv := NdV.bel hv B6
      have hqp4 : q4 ≠ p := by have := X.hp; omega
      have hs67 : w7.heap.size ≤ w6.heap.size := B6.size
      have hl4 := lt_of_block Ek
      have hqpq : q ≠ p := by have := X.hq; have := X.hp; omega
      have hpp : p < w5.heap.size := by have := X.hp; omega
      have Ekd : w6.drew.heap[q4]? = _ := Ek
      have hZd : ZBox w6.drew q := X.z
      have h6d : Rdw w6.drew p W i' d' c ∧ Fr p w6.heap.size w6 w6.drew := ⟨X.rd.same (fun _ _ => rfl) rfl, Fr.of_below (Below.refl _ _).drew⟩
      clear B6
      go_wp2_with fail
      refine abstract_act fun A hA => ?_
      have hsz : A.tmps.size = 21 := by rw [hA]; rfl
      have st : A.tmps[3]? = some (.bool false) := by rw [hA]; rfl
      have s0 : A.tmps[0]? = some (.pointer (some ⟨p, 0, none⟩)) := by rw [hA]; rfl
      have s4 : A.tmps[4]? = some (.pointer (some ⟨q4, 0, none⟩)) := by rw [hA]; rfl
      have s2 : A.tmps[2]? = some (.pointer (some ⟨q, 0, none⟩)) := by rw [hA]; rfl
      have s5 : A.tmps[5]? = some (.bool false) := by rw [hA]; rfl
      refine wp_region_inv3' (fun A D a w' => ∃ (l : List Value) (vt : Value), a = (putAll A 15 l).put (some 3) vt ∧ l.length = 6 ∧ (∀ j, j < 6 → D j → l[j]? = some (inzV x na ka nc kc j)) ∧ (D 7 → vt = .bool false) ∧ (D 6 ∨ (Rdw w' p W i' d' c ∧ Fr p w6.heap.size w6 w')) ∧ (D 6 ∨ w'.heap[q4]? = some (.cells #[.int .i64 x.kind, .string (strOfNums x.text), .int .i64 (x.pos : Int), .int .i64 (x.n : Int), .slice na x.names.length nc, .slice ka x.kids.length kc] 36)) ∧ (D 6 ∨ ZBox w' q) ∧ (D 6 → ∃ w9, (Rdw w9 p W i' d' c ∧ Fr p w6.heap.size w6 w9) ∧ w'.heap[q]? = some (.cells #[.int .i64 x.kind, .string (strOfNums x.text), .int .i64 (x.pos : Int), .int .i64 (x.n : Int), .slice na x.names.length nc, .slice ka x.kids.length kc] 36) ∧ St q w9 w')) (by kernel_rfl) (by kernel_rfl) ?mono ?start ?step ?done
      case mono =>
        rintro D D' a w' hD ⟨l, vt, ha, hlen, hl, hvt, hN, hE, hZ, hQ⟩
        exact ⟨l, vt, ha, hlen, fun j hj h => hl j hj ((hD j).2 h), fun h => hvt ((hD 7).2 h), hN.imp_left (hD 6).1, hE.imp_left (hD 6).1, hZ.imp_left (hD 6).1, fun h => hQ ((hD 6).2 h)⟩
      case start => exact ⟨_, _, putT_start A 15 6 3 _ (by omega) (by decide) st, (putAll_start A 15 6 (by omega)).2, fun _ _ h => h.elim, fun h => h.elim, .inr (h6d), .inr (Ekd), .inr (hZd), fun h => h.elim⟩
      case step =>
        clear hA
        intro i o ho D a w' hI hn hcl hd
        obtain ⟨l, vt, ha, hlen, hl, hvt, hN, hE, hZ, hQ⟩ := hI
        match i, ho with
        | 0, ho =>
          cases Option.some.inj ho
          refine .inl ⟨rfl, ?_⟩
          have ev : a.tmps[4]? = some (.pointer (some ⟨q4, 0, none⟩)) := by rw [ha, putT_other _ _ _ _ (by decide), putAll_low A 15 4 l (by omega) (by decide)]; exact s4
          have e1 := hE.resolve_left (fun h => hn (hcl 6 _ rfl h ⟨0, .data⟩ (by simp) rfl))
          obtain ⟨z0, z1, z2, z3, z4, z5, _⟩ := nd_cells e1
          refine wp_value (w' := w') (v := .agg #[.int .i64 x.kind, .string (strOfNums x.text), .int .i64 (x.pos : Int), .int .i64 (x.n : Int), .slice na x.names.length nc, .slice ka x.kids.length kc]) (by simp [execOp, ev, go_sem, z0, z1, z2, z3, z4, z5]) ?_
          exact ⟨_, vt, by rw [ha]; exact putT_put A 15 0 3 l _ _ (by omega) (by omega) (by decide), by rw [List.length_set]; exact hlen, set_known hlen (by decide) hl, fun h => hvt (h.resolve_left (by decide)), hN.imp_left .inr, hE.imp_left .inr, hZ.imp_left .inr, fun h => hQ (h.resolve_left (by decide))⟩
        | 1, ho =>
          cases Option.some.inj ho
          refine .inl ⟨rfl, ?_⟩
          have ev : a.tmps[5]? = some (.bool false) := by rw [ha, putT_other _ _ _ _ (by decide), putAll_low A 15 5 l (by omega) (by decide)]; exact s5
          refine wp_value (w' := w') (v := .bool false) (by simp [execOp, ev, go_sem]) ?_
          exact ⟨_, vt, by rw [ha]; exact putT_put A 15 1 3 l _ _ (by omega) (by omega) (by decide), by rw [List.length_set]; exact hlen, set_known hlen (by decide) hl, fun h => hvt (h.resolve_left (by decide)), hN.imp_left .inr, hE.imp_left .inr, hZ.imp_left .inr, fun h => hQ (h.resolve_left (by decide))⟩
        | 2, ho =>
          cases Option.some.inj ho
          refine .inl ⟨rfl, ?_⟩
          have ev : a.tmps[16]? = some (.bool false) := known_atT ha hsz hlen hl 1 (by decide) (hd ⟨1, .data⟩ (by simp) rfl)
          refine wp_value (w' := w') (v := .bool false) (by simp [execOp, ev, go_sem]) ?_
          exact ⟨_, vt, by rw [ha]; exact putT_put A 15 2 3 l _ _ (by omega) (by omega) (by decide), by rw [List.length_set]; exact hlen, set_known hlen (by decide) hl, fun h => hvt (h.resolve_left (by decide)), hN.imp_left .inr, hE.imp_left .inr, hZ.imp_left .inr, fun h => hQ (h.resolve_left (by decide))⟩
        | 3, ho =>
          cases Option.some.inj ho
          refine .inr ⟨wanted_not (k := 17) rfl rfl rfl (known_atT ha hsz hlen hl 2 (by decide) (hd ⟨2, .guard⟩ (by simp) rfl)) (by simp [inzV, undef]), ?_⟩
          exact ⟨_, vt, by rw [ha]; exact putT_put A 15 3 3 l _ _ (by omega) (by omega) (by decide), by rw [List.length_set]; exact hlen, set_known hlen (by decide) hl, fun h => hvt (h.resolve_left (by decide)), hN.imp_left .inr, hE.imp_left .inr, hZ.imp_left .inr, fun h => hQ (h.resolve_left (by decide))⟩
        | 4, ho =>
          cases Option.some.inj ho
          refine .inr ⟨wanted_not (k := 17) rfl rfl rfl (known_atT ha hsz hlen hl 2 (by decide) (hd ⟨2, .guard⟩ (by simp) rfl)) (by simp [inzV, undef]), ?_⟩
          exact ⟨_, vt, by rw [ha]; exact putT_put A 15 4 3 l _ _ (by omega) (by omega) (by decide), by rw [List.length_set]; exact hlen, set_known hlen (by decide) hl, fun h => hvt (h.resolve_left (by decide)), hN.imp_left .inr, hE.imp_left .inr, hZ.imp_left .inr, fun h => hQ (h.resolve_left (by decide))⟩
        | 5, ho =>
          cases Option.some.inj ho
          refine .inl ⟨rfl, ?_⟩
          have ev : a.tmps[17]? = some (.bool false) := known_atT ha hsz hlen hl 2 (by decide) (hd ⟨2, .data⟩ (by simp) rfl)
          refine wp_value (w' := w') (v := .bool false) (by simp [execOp, ev, go_sem]) ?_
          exact ⟨_, vt, by rw [ha]; exact putT_put A 15 5 3 l _ _ (by omega) (by omega) (by decide), by rw [List.length_set]; exact hlen, set_known hlen (by decide) hl, fun h => hvt (h.resolve_left (by decide)), hN.imp_left .inr, hE.imp_left .inr, hZ.imp_left .inr, fun h => hQ (h.resolve_left (by decide))⟩
        | 6, ho =>
          cases Option.some.inj ho
          refine .inl ⟨rfl, ?_⟩
          have ev : a.tmps[15]? = some (.agg #[.int .i64 x.kind, .string (strOfNums x.text), .int .i64 (x.pos : Int), .int .i64 (x.n : Int), .slice na x.names.length nc, .slice ka x.kids.length kc]) := known_atT ha hsz hlen hl 0 (by decide) (hd ⟨0, .data⟩ (by simp) rfl)
          have e1 := hZ.resolve_left hn
          obtain ⟨u0, u1, u2, u3, u4, u5, e1⟩ := e1
          have e4 : a.tmps[2]? = some (.pointer (some ⟨q, 0, none⟩)) := by rw [ha, putT_other _ _ _ _ (by decide), putAll_low A 15 2 l (by omega) (by decide)]; exact s2
          have L := hN.resolve_left hn
          refine wp_store_row (P := Try.prog) 36 (.tmp 2) (.tmp 15) rfl q #[.int .i64 x.kind, .string (strOfNums x.text), .int .i64 (x.pos : Int), .int .i64 (x.n : Int), .slice na x.names.length nc, .slice ka x.kids.length kc] (by simpa [Act.eval] using evalS e4) (by simpa [Act.eval] using evalS ev) 36 _ e1 (by kernel_rfl) rfl (by simp [Value.oneCell']) ?_
          exact ⟨l, vt, ha, hlen, fun j hj h => hl j hj (h.resolve_left (by omega)), fun h => hvt (h.resolve_left (by decide)), .inl (.inl rfl), .inl (.inl rfl), .inl (.inl rfl), fun _ => ⟨w', L, setRow_heap w' q _ _ _ _ e1, St.row w' q _⟩⟩
        | 7, ho =>
          cases Option.some.inj ho
          refine .inl ⟨rfl, ?_⟩
          have ev : a.tmps[20]? = some (.bool false) := known_atT ha hsz hlen hl 5 (by decide) (hd ⟨5, .data⟩ (by simp) rfl)
          refine wp_value (w' := w') (v := .bool false) (by simp [execOp, ev, go_sem]) ?_
          exact ⟨l, (.bool false), by rw [ha]; exact putT_again _ _ _ _, hlen, fun j hj h => hl j hj (h.resolve_left (by omega)), fun _ => rfl, hN.imp_left .inr, hE.imp_left .inr, hZ.imp_left .inr, fun h => hQ (h.resolve_left (by decide))⟩
        | i + 8, ho => simp at ho
      case done =>
        rintro D a w' ⟨l, vt, ha, hlen, hl, hvt, hN, hE, hZ, hQ⟩ hall
        obtain rfl := hvt (hall 7 (by decide))
        obtain ⟨v0, v1, v2, v3, v4, v5, rfl⟩ := inzV_list hlen
        obtain ⟨w9, ⟨L9, F9⟩, Eq, Sq⟩ := hQ (hall 6 (by decide))
        subst hA
        have hfr : a = _ := ha
        rw [hfr]
        clear hfr ha
        simp only [putAll, List.take_succ_cons, List.take_zero, List.drop_succ_cons, List.drop_zero, List.cons_append, List.nil_append, List.length_cons, List.length_nil]
        clear hl hE hZ hN hQ hall
        have hs69 := F9.size
        have X9 := X.go F9 L9
        have hv9 := NdV.fr hv F9 (fun b hb hl => ⟨hl, by omega⟩)
        go_wp2
        exact bodyPost_ret (results_cellb (a := 2) (t := 36) (b := 3) (by rfl) (by rfl) (by rfl) (load25 Eq)) (by rfl) ⟨_, R_prim_oper hr hk hd4, ⟨_, _, _, rfl, NdV.imp (fun b _ hA => ⟨by omega, Sq.block b (by omega)⟩) _ _ hv9, (X9.fin Sq).2⟩, (X9.fin Sq).1⟩
    | ok x i' =>
      obtain ⟨v, rfl, hv, h7⟩ := ha
      have hi2 : i + 1 + 1 ≤ i' ∧ i' ≤ E := hr.adv S.ends hlt
      have hi' := hi2.2
      obtain ⟨na, nc, ka, kc, _, rfl, _⟩ := NdV.parts hv
      replace X := X.go F7 h7
      clear F7 h7
      go_wp2_with (refine as25 _ rfl rfl rfl 4 rfl _ rfl rfl _ _ _ _ _ _ _ _ _ _ (fun _ => rfl) (fun _ => rfl) ?_)
      intro q4 w6 Ek hq4 B6
      replace X := X.bel B6
      replace hv := NdV.bel hv B6
      have hqp4 : q4 ≠ p := by have := X.hp; omega
      have hs67 : w7.heap.size ≤ w6.heap.size := B6.size
      have hl4 := lt_of_block Ek
      have hd1 : (0 : Int) ≤ ((d + 1 : Nat) : Int) ∧ ((d + 1 : Nat) : Int) ≤ 100 := by omega
      have hqpq : q ≠ p := by have := X.hq; have := X.hp; omega
      have hpp : p < w5.heap.size := by have := X.hp; omega
      have Ekd : w6.drew.heap[q4]? = _ := Ek
      have hZd : ZBox w6.drew q := X.z
      have h6d : Rdw w6.drew p W i' ((d + 1 : Nat) : Int) 20 ∧ Fr p w6.heap.size w6 w6.drew := ⟨X.rd.same (fun _ _ => rfl) rfl, Fr.of_below (Below.refl _ _).drew⟩
      clear B6
      by_cases hk9 : kdW W i' = 9
      · go_wp2_with fail
        refine abstract_act fun A hA => ?_
        have hsz : A.tmps.size = 21 := by rw [hA]; rfl
        have st : A.tmps[3]? = some (.bool false) := by rw [hA]; rfl
        have s0 : A.tmps[0]? = some (.pointer (some ⟨p, 0, none⟩)) := by rw [hA]; rfl
        have s4 : A.tmps[4]? = some (.pointer (some ⟨q4, 0, none⟩)) := by rw [hA]; rfl
        have s2 : A.tmps[2]? = some (.pointer (some ⟨q, 0, none⟩)) := by rw [hA]; rfl
        have s5 : A.tmps[5]? = some (.bool true) := by rw [hA]; rfl
        refine wp_region_inv2' (fun A D a w' => ∃ (l : List Value) (vt : Value), a = (putAll A 15 l).put (some 3) vt ∧ l.length = 6 ∧ (∀ j, j < 6 → D j → l[j]? = some (inbV x p na ka nc kc j)) ∧ (D 7 → vt = .bool true) ∧ (D 4 ∨ (Rdw w' p W i' ((d + 1 : Nat) : Int) 20 ∧ Fr p w6.heap.size w6 w')) ∧ (D 6 ∨ w'.heap[q4]? = some (.cells #[.int .i64 x.kind, .string (strOfNums x.text), .int .i64 (x.pos : Int), .int .i64 (x.n : Int), .slice na x.names.length nc, .slice ka x.kids.length kc] 36)) ∧ (D 6 ∨ ZBox w' q) ∧ (D 6 → ∃ w9, (Rdw w9 p W (i' + 1) (((d + 1 : Nat) : Int) - 1) 20 ∧ Fr p w6.heap.size w6 w9) ∧ w'.heap[q]? = some (.cells #[.int .i64 x.kind, .string (strOfNums x.text), .int .i64 (x.pos : Int), .int .i64 (x.n : Int), .slice na x.names.length nc, .slice ka x.kids.length kc] 36) ∧ St q w9 w') ∧ (D 4 → ¬ D 6 → (Rdw w' p W (i' + 1) (((d + 1 : Nat) : Int) - 1) 20 ∧ Fr p w6.heap.size w6 w'))) (by kernel_rfl) (by kernel_rfl) ?mono ?start ?step ?done
        case mono =>
          rintro D D' a w' hD ⟨l, vt, ha, hlen, hl, hvt, hN, hE, hZ, hQ, hL⟩
          exact ⟨l, vt, ha, hlen, fun j hj h => hl j hj ((hD j).2 h), fun h => hvt ((hD 7).2 h), hN.imp_left (hD 4).1, hE.imp_left (hD 6).1, hZ.imp_left (hD 6).1, fun h => hQ ((hD 6).2 h), fun h h' => hL ((hD 4).2 h) (fun k => h' ((hD 6).1 k))⟩
        case start => exact ⟨_, _, putT_start A 15 6 3 _ (by omega) (by decide) st, (putAll_start A 15 6 (by omega)).2, fun _ _ h => h.elim, fun h => h.elim, .inr (h6d), .inr (Ekd), .inr (hZd), fun h => h.elim, fun h _ => h.elim⟩
        case step =>
          clear hA
          intro i o ho D a w' hI hn hcl hd
          obtain ⟨l, vt, ha, hlen, hl, hvt, hN, hE, hZ, hQ, hL⟩ := hI
          match i, ho with
          | 0, ho =>
            cases Option.some.inj ho
            refine ⟨rfl, ?_⟩
            have ev : a.tmps[4]? = some (.pointer (some ⟨q4, 0, none⟩)) := by rw [ha, putT_other _ _ _ _ (by decide), putAll_low A 15 4 l (by omega) (by decide)]; exact s4
            have e1 := hE.resolve_left (fun h => hn (hcl 6 _ rfl h ⟨0, .data⟩ (by simp) rfl))
            obtain ⟨z0, z1, z2, z3, z4, z5, _⟩ := nd_cells e1
            refine wp_value (w' := w') (v := .agg #[.int .i64 x.kind, .string (strOfNums x.text), .int .i64 (x.pos : Int), .int .i64 (x.n : Int), .slice na x.names.length nc, .slice ka x.kids.length kc]) (by simp [execOp, ev, go_sem, z0, z1, z2, z3, z4, z5]) ?_
            exact ⟨_, vt, by rw [ha]; exact putT_put A 15 0 3 l _ _ (by omega) (by omega) (by decide), by rw [List.length_set]; exact hlen, set_known hlen (by decide) hl, fun h => hvt (h.resolve_left (by decide)), hN.imp_left .inr, hE.imp_left .inr, hZ.imp_left .inr, fun h => hQ (h.resolve_left (by decide)), fun h h' => hL (h.resolve_left (by decide)) (fun k => h' (.inr k))⟩
          | 1, ho =>
            cases Option.some.inj ho
            refine ⟨rfl, ?_⟩
            have ev : a.tmps[5]? = some (.bool true) := by rw [ha, putT_other _ _ _ _ (by decide), putAll_low A 15 5 l (by omega) (by decide)]; exact s5
            refine wp_value (w' := w') (v := .bool true) (by simp [execOp, ev, go_sem]) ?_
            exact ⟨_, vt, by rw [ha]; exact putT_put A 15 1 3 l _ _ (by omega) (by omega) (by decide), by rw [List.length_set]; exact hlen, set_known hlen (by decide) hl, fun h => hvt (h.resolve_left (by decide)), hN.imp_left .inr, hE.imp_left .inr, hZ.imp_left .inr, fun h => hQ (h.resolve_left (by decide)), fun h h' => hL (h.resolve_left (by decide)) (fun k => h' (.inr k))⟩
          | 2, ho =>
            cases Option.some.inj ho
            refine ⟨rfl, ?_⟩
            have ev : a.tmps[16]? = some (.bool true) := known_atT ha hsz hlen hl 1 (by decide) (hd ⟨1, .data⟩ (by simp) rfl)
            refine wp_value (w' := w') (v := .bool true) (by simp [execOp, ev, go_sem]) ?_
            exact ⟨_, vt, by rw [ha]; exact putT_put A 15 2 3 l _ _ (by omega) (by omega) (by decide), by rw [List.length_set]; exact hlen, set_known hlen (by decide) hl, fun h => hvt (h.resolve_left (by decide)), hN.imp_left .inr, hE.imp_left .inr, hZ.imp_left .inr, fun h => hQ (h.resolve_left (by decide)), fun h h' => hL (h.resolve_left (by decide)) (fun k => h' (.inr k))⟩
          | 3, ho =>
            cases Option.some.inj ho
            refine ⟨wanted_of (k := 17) rfl rfl rfl (known_atT ha hsz hlen hl 2 (by decide) (hd ⟨2, .guard⟩ (by simp) rfl)), ?_⟩
            have ev : a.tmps[0]? = some (.pointer (some ⟨p, 0, none⟩)) := by rw [ha, putT_other _ _ _ _ (by decide), putAll_low A 15 0 l (by omega) (by decide)]; exact s0
            refine wp_value (w' := w') (v := .pointer (some ⟨p, 0, none⟩)) (by simp [execOp, ev, go_sem]) ?_
            exact ⟨_, vt, by rw [ha]; exact putT_put A 15 3 3 l _ _ (by omega) (by omega) (by decide), by rw [List.length_set]; exact hlen, set_known hlen (by decide) hl, fun h => hvt (h.resolve_left (by decide)), hN.imp_left .inr, hE.imp_left .inr, hZ.imp_left .inr, fun h => hQ (h.resolve_left (by decide)), fun h h' => hL (h.resolve_left (by decide)) (fun k => h' (.inr k))⟩
          | 4, ho =>
            cases Option.some.inj ho
            refine ⟨wanted_of (k := 17) rfl rfl rfl (known_atT ha hsz hlen hl 2 (by decide) (hd ⟨2, .guard⟩ (by simp) rfl)), ?_⟩
            have ev : a.tmps[18]? = some (.pointer (some ⟨p, 0, none⟩)) := known_atT ha hsz hlen hl 3 (by decide) (hd ⟨3, .data⟩ (by simp) rfl)
            have h6 := hN.resolve_left hn
            refine wp_enter (f := 89) (args := #[.pointer (some ⟨p, 0, none⟩), .int .i64 9]) (by simp [execOp, ev, go_sem]) ?_
            refine (leave_yes h6.1 (S.lt hi') hd1 9 hk9).mono ?_
            rintro e w6 ⟨rfl, h9, F9⟩
            refine ⟨_, rfl, ?_⟩
            exact ⟨_, vt, by rw [ha]; exact putT_put A 15 4 3 l _ _ (by omega) (by omega) (by decide), by rw [List.length_set]; exact hlen, set_known hlen (by decide) hl, fun h => hvt (h.resolve_left (by decide)), .inl (.inl rfl), hE.imp .inr (fun h => (F9.block q4 (lt_of_block h) hqp4).trans h), hZ.imp .inr (fun h => h.keep (fun hl => F9.block q hl hqpq)), fun h => absurd (h.resolve_left (by decide)) (fun h => hn (hcl 6 _ rfl h ⟨4, .chain⟩ (by simp) rfl)), fun _ _ => ⟨h9, h6.2.trans F9 h6.2.size⟩⟩
          | 5, ho =>
            cases Option.some.inj ho
            refine ⟨rfl, ?_⟩
            have ev : a.tmps[17]? = some (.bool true) := known_atT ha hsz hlen hl 2 (by decide) (hd ⟨2, .data⟩ (by simp) rfl)
            have ev' : a.tmps[19]? = some (.bool true) := known_atT ha hsz hlen hl 4 (by decide) (hd ⟨4, .data⟩ (by simp) rfl)
            refine wp_value (w' := w') (v := .bool true) (by simp [execOp, ev, ev', go_sem]) ?_
            exact ⟨_, vt, by rw [ha]; exact putT_put A 15 5 3 l _ _ (by omega) (by omega) (by decide), by rw [List.length_set]; exact hlen, set_known hlen (by decide) hl, fun h => hvt (h.resolve_left (by decide)), hN.imp_left .inr, hE.imp_left .inr, hZ.imp_left .inr, fun h => hQ (h.resolve_left (by decide)), fun h h' => hL (h.resolve_left (by decide)) (fun k => h' (.inr k))⟩
          | 6, ho =>
            cases Option.some.inj ho
            refine ⟨rfl, ?_⟩
            have ev : a.tmps[15]? = some (.agg #[.int .i64 x.kind, .string (strOfNums x.text), .int .i64 (x.pos : Int), .int .i64 (x.n : Int), .slice na x.names.length nc, .slice ka x.kids.length kc]) := known_atT ha hsz hlen hl 0 (by decide) (hd ⟨0, .data⟩ (by simp) rfl)
            have e1 := hZ.resolve_left hn
            obtain ⟨u0, u1, u2, u3, u4, u5, e1⟩ := e1
            have e4 : a.tmps[2]? = some (.pointer (some ⟨q, 0, none⟩)) := by rw [ha, putT_other _ _ _ _ (by decide), putAll_low A 15 2 l (by omega) (by decide)]; exact s2
            have L := hL (hd ⟨4, .chain⟩ (by simp) rfl) hn
            refine wp_store_row (P := Try.prog) 36 (.tmp 2) (.tmp 15) rfl q #[.int .i64 x.kind, .string (strOfNums x.text), .int .i64 (x.pos : Int), .int .i64 (x.n : Int), .slice na x.names.length nc, .slice ka x.kids.length kc] (by simpa [Act.eval] using evalS e4) (by simpa [Act.eval] using evalS ev) 36 _ e1 (by kernel_rfl) rfl (by simp [Value.oneCell']) ?_
            exact ⟨l, vt, ha, hlen, fun j hj h => hl j hj (h.resolve_left (by omega)), fun h => hvt (h.resolve_left (by decide)), .inl (.inr (hd ⟨4, .chain⟩ (by simp) rfl)), .inl (.inl rfl), .inl (.inl rfl), fun _ => ⟨w', L, setRow_heap w' q _ _ _ _ e1, St.row w' q _⟩, fun _ h' => absurd (.inl rfl) h'⟩
          | 7, ho =>
            cases Option.some.inj ho
            refine ⟨rfl, ?_⟩
            have ev : a.tmps[20]? = some (.bool true) := known_atT ha hsz hlen hl 5 (by decide) (hd ⟨5, .data⟩ (by simp) rfl)
            refine wp_value (w' := w') (v := .bool true) (by simp [execOp, ev, go_sem]) ?_
            exact ⟨l, (.bool true), by rw [ha]; exact putT_again _ _ _ _, hlen, fun j hj h => hl j hj (h.resolve_left (by omega)), fun _ => rfl, hN.imp_left .inr, hE.imp_left .inr, hZ.imp_left .inr, fun h => hQ (h.resolve_left (by decide)), fun h h' => hL (h.resolve_left (by decide)) (fun k => h' (.inr k))⟩
          | i + 8, ho => simp at ho
        case done =>
          rintro D a w' ⟨l, vt, ha, hlen, hl, hvt, hN, hE, hZ, hQ, hL⟩ hall
          obtain rfl := hvt (hall 7 (by decide))
          obtain ⟨v0, v1, v2, v3, v4, v5, rfl⟩ := inbV_list hlen
          obtain ⟨w9, ⟨L9, F9⟩, Eq, Sq⟩ := hQ (hall 6 (by decide))
          subst hA
          have hfr : a = _ := ha
          rw [hfr]
          clear hfr ha
          simp only [putAll, List.take_succ_cons, List.take_zero, List.drop_succ_cons, List.drop_zero, List.cons_append, List.nil_append, List.length_cons, List.length_nil]
          clear hl hE hZ hN hL hQ hall
          have hs69 := F9.size
          have X9 := X.go F9 L9
          have hv9 := NdV.fr hv F9 (fun b hb hl => ⟨hl, by omega⟩)
          have hdd : (((d + 1 : Nat) : Int) - 1) = (d : Int) := by omega
          rw [hdd] at X9
          go_wp2
          exact bodyPost_ret (results_cellb (a := 2) (t := 36) (b := 3) (by rfl) (by rfl) (by rfl) (load25 Eq)) (by rfl) ⟨_, R_prim_open hr hk hd4 hk9, ⟨_, rfl, NdV.imp (fun b _ hA => ⟨by omega, Sq.block b (by omega)⟩) _ _ hv9, (X9.fin Sq).2⟩, (X9.fin Sq).1⟩
      · go_wp2_with fail
        refine abstract_act fun A hA => ?_
        have hsz : A.tmps.size = 21 := by rw [hA]; rfl
        have st : A.tmps[3]? = some (.bool false) := by rw [hA]; rfl
        have s0 : A.tmps[0]? = some (.pointer (some ⟨p, 0, none⟩)) := by rw [hA]; rfl
        have s4 : A.tmps[4]? = some (.pointer (some ⟨q4, 0, none⟩)) := by rw [hA]; rfl
        have s2 : A.tmps[2]? = some (.pointer (some ⟨q, 0, none⟩)) := by rw [hA]; rfl
        have s5 : A.tmps[5]? = some (.bool true) := by rw [hA]; rfl
        refine wp_region_inv2' (fun A D a w' => ∃ (l : List Value) (vt : Value), a = (putAll A 15 l).put (some 3) vt ∧ l.length = 6 ∧ (∀ j, j < 6 → D j → l[j]? = some (innV x p na ka nc kc j)) ∧ (D 7 → vt = .bool false) ∧ (D 4 ∨ (Rdw w' p W i' ((d + 1 : Nat) : Int) 20 ∧ Fr p w6.heap.size w6 w')) ∧ (D 6 ∨ w'.heap[q4]? = some (.cells #[.int .i64 x.kind, .string (strOfNums x.text), .int .i64 (x.pos : Int), .int .i64 (x.n : Int), .slice na x.names.length nc, .slice ka x.kids.length kc] 36)) ∧ (D 6 ∨ ZBox w' q) ∧ (D 6 → ∃ w9, (Rdw w9 p W i' (((d + 1 : Nat) : Int) - 1) 20 ∧ Fr p w6.heap.size w6 w9) ∧ w'.heap[q]? = some (.cells #[.int .i64 x.kind, .string (strOfNums x.text), .int .i64 (x.pos : Int), .int .i64 (x.n : Int), .slice na x.names.length nc, .slice ka x.kids.length kc] 36) ∧ St q w9 w') ∧ (D 4 → ¬ D 6 → (Rdw w' p W i' (((d + 1 : Nat) : Int) - 1) 20 ∧ Fr p w6.heap.size w6 w'))) (by kernel_rfl) (by kernel_rfl) ?mono ?start ?step ?done
        case mono =>
          rintro D D' a w' hD ⟨l, vt, ha, hlen, hl, hvt, hN, hE, hZ, hQ, hL⟩
          exact ⟨l, vt, ha, hlen, fun j hj h => hl j hj ((hD j).2 h), fun h => hvt ((hD 7).2 h), hN.imp_left (hD 4).1, hE.imp_left (hD 6).1, hZ.imp_left (hD 6).1, fun h => hQ ((hD 6).2 h), fun h h' => hL ((hD 4).2 h) (fun k => h' ((hD 6).1 k))⟩
        case start => exact ⟨_, _, putT_start A 15 6 3 _ (by omega) (by decide) st, (putAll_start A 15 6 (by omega)).2, fun _ _ h => h.elim, fun h => h.elim, .inr (h6d), .inr (Ekd), .inr (hZd), fun h => h.elim, fun h _ => h.elim⟩
        case step =>
          clear hA
          intro i o ho D a w' hI hn hcl hd
          obtain ⟨l, vt, ha, hlen, hl, hvt, hN, hE, hZ, hQ, hL⟩ := hI
          match i, ho with
          | 0, ho =>
            cases Option.some.inj ho
            refine ⟨rfl, ?_⟩
            have ev : a.tmps[4]? = some (.pointer (some ⟨q4, 0, none⟩)) := by rw [ha, putT_other _ _ _ _ (by decide), putAll_low A 15 4 l (by omega) (by decide)]; exact s4
            have e1 := hE.resolve_left (fun h => hn (hcl 6 _ rfl h ⟨0, .data⟩ (by simp) rfl))
            obtain ⟨z0, z1, z2, z3, z4, z5, _⟩ := nd_cells e1
            refine wp_value (w' := w') (v := .agg #[.int .i64 x.kind, .string (strOfNums x.text), .int .i64 (x.pos : Int), .int .i64 (x.n : Int), .slice na x.names.length nc, .slice ka x.kids.length kc]) (by simp [execOp, ev, go_sem, z0, z1, z2, z3, z4, z5]) ?_
            exact ⟨_, vt, by rw [ha]; exact putT_put A 15 0 3 l _ _ (by omega) (by omega) (by decide), by rw [List.length_set]; exact hlen, set_known hlen (by decide) hl, fun h => hvt (h.resolve_left (by decide)), hN.imp_left .inr, hE.imp_left .inr, hZ.imp_left .inr, fun h => hQ (h.resolve_left (by decide)), fun h h' => hL (h.resolve_left (by decide)) (fun k => h' (.inr k))⟩
          | 1, ho =>
            cases Option.some.inj ho
            refine ⟨rfl, ?_⟩
            have ev : a.tmps[5]? = some (.bool true) := by rw [ha, putT_other _ _ _ _ (by decide), putAll_low A 15 5 l (by omega) (by decide)]; exact s5
            refine wp_value (w' := w') (v := .bool true) (by simp [execOp, ev, go_sem]) ?_
            exact ⟨_, vt, by rw [ha]; exact putT_put A 15 1 3 l _ _ (by omega) (by omega) (by decide), by rw [List.length_set]; exact hlen, set_known hlen (by decide) hl, fun h => hvt (h.resolve_left (by decide)), hN.imp_left .inr, hE.imp_left .inr, hZ.imp_left .inr, fun h => hQ (h.resolve_left (by decide)), fun h h' => hL (h.resolve_left (by decide)) (fun k => h' (.inr k))⟩
          | 2, ho =>
            cases Option.some.inj ho
            refine ⟨rfl, ?_⟩
            have ev : a.tmps[16]? = some (.bool true) := known_atT ha hsz hlen hl 1 (by decide) (hd ⟨1, .data⟩ (by simp) rfl)
            refine wp_value (w' := w') (v := .bool true) (by simp [execOp, ev, go_sem]) ?_
            exact ⟨_, vt, by rw [ha]; exact putT_put A 15 2 3 l _ _ (by omega) (by omega) (by decide), by rw [List.length_set]; exact hlen, set_known hlen (by decide) hl, fun h => hvt (h.resolve_left (by decide)), hN.imp_left .inr, hE.imp_left .inr, hZ.imp_left .inr, fun h => hQ (h.resolve_left (by decide)), fun h h' => hL (h.resolve_left (by decide)) (fun k => h' (.inr k))⟩
          | 3, ho =>
            cases Option.some.inj ho
            refine ⟨wanted_of (k := 17) rfl rfl rfl (known_atT ha hsz hlen hl 2 (by decide) (hd ⟨2, .guard⟩ (by simp) rfl)), ?_⟩
            have ev : a.tmps[0]? = some (.pointer (some ⟨p, 0, none⟩)) := by rw [ha, putT_other _ _ _ _ (by decide), putAll_low A 15 0 l (by omega) (by decide)]; exact s0
            refine wp_value (w' := w') (v := .pointer (some ⟨p, 0, none⟩)) (by simp [execOp, ev, go_sem]) ?_
            exact ⟨_, vt, by rw [ha]; exact putT_put A 15 3 3 l _ _ (by omega) (by omega) (by decide), by rw [List.length_set]; exact hlen, set_known hlen (by decide) hl, fun h => hvt (h.resolve_left (by decide)), hN.imp_left .inr, hE.imp_left .inr, hZ.imp_left .inr, fun h => hQ (h.resolve_left (by decide)), fun h h' => hL (h.resolve_left (by decide)) (fun k => h' (.inr k))⟩
          | 4, ho =>
            cases Option.some.inj ho
            refine ⟨wanted_of (k := 17) rfl rfl rfl (known_atT ha hsz hlen hl 2 (by decide) (hd ⟨2, .guard⟩ (by simp) rfl)), ?_⟩
            have ev : a.tmps[18]? = some (.pointer (some ⟨p, 0, none⟩)) := known_atT ha hsz hlen hl 3 (by decide) (hd ⟨3, .data⟩ (by simp) rfl)
            have h6 := hN.resolve_left hn
            refine wp_enter (f := 89) (args := #[.pointer (some ⟨p, 0, none⟩), .int .i64 9]) (by simp [execOp, ev, go_sem]) ?_
            refine (leave_no h6.1 (S.lt hi') hd1 9 hk9).mono ?_
            rintro e w6 ⟨rfl, h9, F9⟩
            refine ⟨_, rfl, ?_⟩
            exact ⟨_, vt, by rw [ha]; exact putT_put A 15 4 3 l _ _ (by omega) (by omega) (by decide), by rw [List.length_set]; exact hlen, set_known hlen (by decide) hl, fun h => hvt (h.resolve_left (by decide)), .inl (.inl rfl), hE.imp .inr (fun h => (F9.block q4 (lt_of_block h) hqp4).trans h), hZ.imp .inr (fun h => h.keep (fun hl => F9.block q hl hqpq)), fun h => absurd (h.resolve_left (by decide)) (fun h => hn (hcl 6 _ rfl h ⟨4, .chain⟩ (by simp) rfl)), fun _ _ => ⟨h9, h6.2.trans F9 h6.2.size⟩⟩
          | 5, ho =>
            cases Option.some.inj ho
            refine ⟨rfl, ?_⟩
            have ev : a.tmps[17]? = some (.bool true) := known_atT ha hsz hlen hl 2 (by decide) (hd ⟨2, .data⟩ (by simp) rfl)
            have ev' : a.tmps[19]? = some (.bool false) := known_atT ha hsz hlen hl 4 (by decide) (hd ⟨4, .data⟩ (by simp) rfl)
            refine wp_value (w' := w') (v := .bool false) (by simp [execOp, ev, ev', go_sem]) ?_
            exact ⟨_, vt, by rw [ha]; exact putT_put A 15 5 3 l _ _ (by omega) (by omega) (by decide), by rw [List.length_set]; exact hlen, set_known hlen (by decide) hl, fun h => hvt (h.resolve_left (by decide)), hN.imp_left .inr, hE.imp_left .inr, hZ.imp_left .inr, fun h => hQ (h.resolve_left (by decide)), fun h h' => hL (h.resolve_left (by decide)) (fun k => h' (.inr k))⟩
          | 6, ho =>
            cases Option.some.inj ho
            refine ⟨rfl, ?_⟩
            have ev : a.tmps[15]? = some (.agg #[.int .i64 x.kind, .string (strOfNums x.text), .int .i64 (x.pos : Int), .int .i64 (x.n : Int), .slice na x.names.length nc, .slice ka x.kids.length kc]) := known_atT ha hsz hlen hl 0 (by decide) (hd ⟨0, .data⟩ (by simp) rfl)
            have e1 := hZ.resolve_left hn
            obtain ⟨u0, u1, u2, u3, u4, u5, e1⟩ := e1
            have e4 : a.tmps[2]? = some (.pointer (some ⟨q, 0, none⟩)) := by rw [ha, putT_other _ _ _ _ (by decide), putAll_low A 15 2 l (by omega) (by decide)]; exact s2
            have L := hL (hd ⟨4, .chain⟩ (by simp) rfl) hn
            refine wp_store_row (P := Try.prog) 36 (.tmp 2) (.tmp 15) rfl q #[.int .i64 x.kind, .string (strOfNums x.text), .int .i64 (x.pos : Int), .int .i64 (x.n : Int), .slice na x.names.length nc, .slice ka x.kids.length kc] (by simpa [Act.eval] using evalS e4) (by simpa [Act.eval] using evalS ev) 36 _ e1 (by kernel_rfl) rfl (by simp [Value.oneCell']) ?_
            exact ⟨l, vt, ha, hlen, fun j hj h => hl j hj (h.resolve_left (by omega)), fun h => hvt (h.resolve_left (by decide)), .inl (.inr (hd ⟨4, .chain⟩ (by simp) rfl)), .inl (.inl rfl), .inl (.inl rfl), fun _ => ⟨w', L, setRow_heap w' q _ _ _ _ e1, St.row w' q _⟩, fun _ h' => absurd (.inl rfl) h'⟩
          | 7, ho =>
            cases Option.some.inj ho
            refine ⟨rfl, ?_⟩
            have ev : a.tmps[20]? = some (.bool false) := known_atT ha hsz hlen hl 5 (by decide) (hd ⟨5, .data⟩ (by simp) rfl)
            refine wp_value (w' := w') (v := .bool false) (by simp [execOp, ev, go_sem]) ?_
            exact ⟨l, (.bool false), by rw [ha]; exact putT_again _ _ _ _, hlen, fun j hj h => hl j hj (h.resolve_left (by omega)), fun _ => rfl, hN.imp_left .inr, hE.imp_left .inr, hZ.imp_left .inr, fun h => hQ (h.resolve_left (by decide)), fun h h' => hL (h.resolve_left (by decide)) (fun k => h' (.inr k))⟩
          | i + 8, ho => simp at ho
        case done =>
          rintro D a w' ⟨l, vt, ha, hlen, hl, hvt, hN, hE, hZ, hQ, hL⟩ hall
          obtain rfl := hvt (hall 7 (by decide))
          obtain ⟨v0, v1, v2, v3, v4, v5, rfl⟩ := innV_list hlen
          obtain ⟨w9, ⟨L9, F9⟩, Eq, Sq⟩ := hQ (hall 6 (by decide))
          subst hA
          have hfr : a = _ := ha
          rw [hfr]
          clear hfr ha
          simp only [putAll, List.take_succ_cons, List.take_zero, List.drop_succ_cons, List.drop_zero, List.cons_append, List.nil_append, List.length_cons, List.length_nil]
          clear hl hE hZ hN hL hQ hall
          have hs69 := F9.size
          have X9 := X.go F9 L9
          have hv9 := NdV.fr hv F9 (fun b hb hl => ⟨hl, by omega⟩)
          have hdd : (((d + 1 : Nat) : Int) - 1) = (d : Int) := by omega
          rw [hdd] at X9
          go_wp2
          exact bodyPost_ret (results_cellb (a := 2) (t := 36) (b := 3) (by rfl) (by rfl) (by rfl) (load25 Eq)) (by rfl) ⟨_, R_prim_no hr hk hd4 hk9, ⟨_, _, _, rfl, NdV.imp (fun b _ hA => ⟨by omega, Sq.block b (by omega)⟩) _ _ hv9, (X9.fin Sq).2⟩, (X9.fin Sq).1⟩
end Go.Proofs.Ytoghhjljmhdioaa
