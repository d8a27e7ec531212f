/- block. -/
import Derived.Test.YtoghhjljmhdioaaArg
namespace Go.Proofs.Ytoghhjljmhdioaa
open Go.RowKit
set_option maxRecDepth 100000
/-- What the operations yield. -/
def blkV (x : Nd) (p : Nat) (na ka : Option Addr) (nc kc : Nat) (j : Nat) : Value :=
  ([.agg #[.int .i64 x.kind, .string (strOfNums x.text), .int .i64 (x.pos : Int), .int .i64 (x.n : Int), .slice na x.names.length nc, .slice ka x.kids.length kc],
    .pointer (some ⟨p, 0, none⟩),
    .bool true] : List Value).getD j undef
theorem blkV_list {l : List Value} (hh : l.length = 3) : ∃ v0 v1 v2, l = [v0, v1, v2] := by
  obtain ⟨v0, t0, rfl, h0⟩ := cons_of hh
  obtain ⟨v1, t1, rfl, h1⟩ := cons_of h0
  obtain ⟨v2, t2, rfl, h2⟩ := cons_of h1
  obtain rfl := List.eq_nil_of_length_eq_zero h2
  exact ⟨_, _, _, rfl⟩
/-- What the operations yield. -/
def blnV (x : Nd) (p : Nat) (na ka : Option Addr) (nc kc : Nat) (j : Nat) : Value :=
  ([.agg #[.int .i64 x.kind, .string (strOfNums x.text), .int .i64 (x.pos : Int), .int .i64 (x.n : Int), .slice na x.names.length nc, .slice ka x.kids.length kc],
    .pointer (some ⟨p, 0, none⟩),
    .bool false] : List Value).getD j undef
theorem blnV_list {l : List Value} (hh : l.length = 3) : ∃ v0 v1 v2, l = [v0, v1, v2] := by
  obtain ⟨v0, t0, rfl, h0⟩ := cons_of hh
  obtain ⟨v1, t1, rfl, h1⟩ := cons_of h0
  obtain ⟨v2, t2, rfl, h2⟩ := cons_of h1
  obtain rfl := List.eq_nil_of_length_eq_zero h2
  exact ⟨_, _, _, rfl⟩
set_option maxHeartbeats 4000000 in
theorem block_con {W : List Tk} {E : Nat} (S : Src W E) {i d : Nat} (hlt : i < E) (hd : d ≤ 40) (H : ∀ j, i < j → j ≤ E → d ≠ 40 → ConN 17 W (fun x => .body j (d + 1) x) j (d + 1)) : Con0 82 W (.block i d) i d := by
  intro w p h
  have hi : i ≤ E := Nat.le_of_lt hlt
  have f2 := fld2
  go_enter Try.func82, Try.ntmps82
  go_wp2_with (refine al25 _ rfl rfl ?_)
  intro q w1 E1 hq B1
  have X := Sx.start h ⟨_, _, _, _, _, _, E1⟩ hq B1
  have hp := X.hp
  have hq1 := X.z.lt
  have hs1 := X.size
  clear E1 hq B1 h
  go_wp2_with fail
  refine (wordR_any X.rd (S.lt hi)).mono ?_
  rintro e w2 ⟨rfl, B2⟩
  have X2 := X.bel B2
  have hs12 : w1.heap.size ≤ w2.heap.size := B2.size
  clear X B2
  go_wp2_with (refine al25 _ rfl rfl ?_)
  intro q4 w3a E3a hq4 B3a
  go_wp2_with (refine st25 _ rfl _ _ rfl rfl _ _ _ _ _ _ _ _ _ _ _ rfl rfl E3a ?_)
  intro w3 E3 S3
  have B3 : Below w2.heap.size w2 w3 := B3a.trans (S3.below hq4)
  clear S3 E3a B3a
  have M : MBox w3 (fun b => w2.heap.size ≤ b ∧ b ≠ q4) q4 (.mk 10 [] (psW W i) 0 [] []) := ⟨rfl, none, 0, E3, World.ownsRow_nil w3 0 9 1, fun g hg => by simp [Value.ownBlock] at hg⟩
  have hl4 := lt_of_block E3
  have hs23 : w2.heap.size ≤ w3.heap.size := B3.size
  replace X2 := X2.bel B3
  have hqp4 : q4 ≠ p := by have := X2.hp; omega
  have hAp : ¬ (w2.heap.size ≤ p ∧ p ≠ q4) := by have := X2.hp; omega
  clear E3 B3
  have G : Gd p w2.heap.size q4 (fun b => w2.heap.size ≤ b ∧ b ≠ q4) w3 := ⟨by have := X2.hp; omega, hs23, hq4, fun b hb => hb.1, fun hb => hb.2 rfl, fun b hb => ⟨by omega, by omega⟩⟩
  clear f2
  by_cases hd4 : d = 40
  · subst hd4
    go_wp2_with fail
    refine (enter_no X2.rd).mono ?_
    rintro e w5 ⟨rfl, h5, F5⟩
    have X5 := X2.go F5 h5
    clear X2
    obtain ⟨u0, u1, u2, u3, u4, u5, Eq⟩ := X5.z
    go_wp2_with (refine st25 _ rfl _ _ rfl rfl _ _ _ _ _ _ _ _ _ _ _ rfl rfl Eq ?_)
    intro wz Ez Sz
    go_wp2
    exact bodyPost_ret (results_cellb (a := 2) (t := 36) (b := 3) (by rfl) (by rfl) (by rfl) (load25 Ez)) (by rfl) ⟨_, R_block_deep rfl, ⟨_, _, _, rfl, NdV.zero, (X5.fin Sz).2⟩, (X5.fin Sz).1⟩
  · go_wp2_with fail
    refine (enter_yes X2.rd (by omega) (S.lt hi)).mono ?_
    rintro e w5 ⟨rfl, h5, F5⟩
    have hs35 : w3.heap.size ≤ w5.heap.size := F5.size
    replace X2 : Sx w p q w5 W (i + 1) ((d + 1 : Nat) : Int) 20 := X2.go F5 h5
    replace M := M.fr F5 hqp4 hAp
    replace G := G.up F5.size
    clear F5 h5
    go_wp2_with fail
    refine (arguments_con S (i := i + 1) (d := d + 1) (by omega) G M (Nat.zero_le _) (Nat.zero_le _) (Nat.zero_le _) X2.rd).mono ?_
    rintro e w6 ⟨r, hrA, ha, F6⟩
    have hs56 : w5.heap.size ≤ w6.heap.size := F6.size
    have XF : Fr p w.heap.size w w6 := X2.fr.trans F6 (by omega)
    have XZ : ZBox w6 q := X2.z.keep (fun _ => F6.block q (by omega) (by have := X2.hq; omega))
    cases r with
    | er j c =>
      obtain ⟨rfl, d', h6⟩ := ha
      have X5 : Sx w p q w6 W j d' c := ⟨XF, XZ, h6, X2.hq, X2.hp⟩
      clear X2
      obtain ⟨u0, u1, u2, u3, u4, u5, Eq⟩ := X5.z
      go_wp2_with (refine st25 _ rfl _ _ rfl rfl _ _ _ _ _ _ _ _ _ _ _ rfl rfl Eq ?_)
      intro wz Ez Sz
      go_wp2
      exact bodyPost_ret (results_cellb (a := 2) (t := 36) (b := 3) (by rfl) (by rfl) (by rfl) (load25 Ez)) (by rfl) ⟨_, R_block_er1 hrA hd4, ⟨_, _, _, rfl, NdV.zero, (X5.fin Sz).2⟩, (X5.fin Sz).1⟩
    | ok y j =>
      obtain ⟨rfl, M6, h6, hn1, hn2, hn3⟩ := ha
      have hj : i + 1 ≤ j ∧ j ≤ E := hrA.adv S.ends hlt
      have X6 : Sx w p q w6 W j ((d + 1 : Nat) : Int) 20 := ⟨XF, XZ, h6, X2.hq, X2.hp⟩
      have G6 := G.up F6.size
      clear X2 XF XZ F6 M
      go_wp2_with fail
      refine (H j (by omega) hj.2 hd4 w6 p q4 w2.heap.size (fun b => w2.heap.size ≤ b ∧ b ≠ q4) y G6 M6 hn1 hn3 X6.rd).mono ?_
      rintro e w7 ⟨r, hrB, ha, F7⟩
      have hs67 : w6.heap.size ≤ w7.heap.size := F7.size
      have XF : Fr p w.heap.size w w7 := X6.fr.trans F7 (by omega)
      have XZ : ZBox w7 q := X6.z.keep (fun _ => F7.block q (by omega) (by have := X6.hq; omega))
      cases r with
      | er k c =>
        obtain ⟨rfl, _, d', h7⟩ := ha
        have X5 : Sx w p q w7 W k d' c := ⟨XF, XZ, h7, X6.hq, X6.hp⟩
        clear X6
        obtain ⟨u0, u1, u2, u3, u4, u5, Eq⟩ := X5.z
        go_wp2_with (refine st25 _ rfl _ _ rfl rfl _ _ _ _ _ _ _ _ _ _ _ rfl rfl Eq ?_)
        intro wz Ez Sz
        go_wp2
        exact bodyPost_ret (results_cellb (a := 2) (t := 36) (b := 3) (by rfl) (by rfl) (by rfl) (load25 Ez)) (by rfl) ⟨_, R_block_er2 hrA hrB hd4, ⟨_, _, _, rfl, NdV.zero, (X5.fin Sz).2⟩, (X5.fin Sz).1⟩
      | ok x i' =>
        obtain ⟨rfl, N7, h7⟩ := ha
        have hk' : j ≤ i' ∧ i' ≤ E := hrB.adv S.ends hj.2
        have hi' := hk'.2
        have X : Sx w p q w7 W i' ((d + 1 : Nat) : Int) 20 := ⟨XF, XZ, h7, X6.hq, X6.hp⟩
        clear X6 XF XZ F7 h7 G6 M6 G
        obtain ⟨na, nc, ka, kc, Ek, hv⟩ := N7
        have hd1 : (0 : Int) ≤ ((d + 1 : Nat) : Int) ∧ ((d + 1 : Nat) : Int) ≤ 100 := by omega
        have hqpq : q ≠ p := by have := X.hq; have := X.hp; omega
        generalize w7 = w6 at *
        have Ekd : w6.drew.heap[q4]? = _ := Ek
        have hZd : ZBox w6.drew q := X.z
        have h6d : Rdw w6.drew p W i' ((d + 1 : Nat) : Int) 20 ∧ Fr p w6.heap.size w6 w6.drew := ⟨X.rd.same (fun _ _ => rfl) rfl, Fr.of_below (Below.refl _ _).drew⟩
        by_cases hk : kdW W i' = 11
        · go_wp2_with fail
          refine abstract_act fun A hA => ?_
          have hsz : A.tmps.size = 26 := by rw [hA]; rfl
          have st : A.tmps[3]? = some (.bool false) := by rw [hA]; rfl
          have s0 : A.tmps[0]? = some (.pointer (some ⟨p, 0, none⟩)) := by rw [hA]; rfl
          have s4 : A.tmps[4]? = some (.pointer (some ⟨q4, 0, none⟩)) := by rw [hA]; rfl
          have s2 : A.tmps[2]? = some (.pointer (some ⟨q, 0, none⟩)) := by rw [hA]; rfl
          refine wp_region_inv' (fun A D a w' => ∃ (l : List Value) (vt : Value), a = (putAll A 23 l).put (some 3) vt ∧ l.length = 3 ∧ (∀ j, j < 3 → D j → l[j]? = some (blkV x p na ka nc kc j)) ∧ (D 4 → vt = .bool true) ∧ (D 3 ∨ w'.heap[q4]? = some (.cells #[.int .i64 x.kind, .string (strOfNums x.text), .int .i64 (x.pos : Int), .int .i64 (x.n : Int), .slice na x.names.length nc, .slice ka x.kids.length kc] 36)) ∧ (D 3 ∨ ZBox w' q) ∧ (D 2 ∨ (Rdw w' p W i' ((d + 1 : Nat) : Int) 20 ∧ Fr p w6.heap.size w6 w')) ∧ (D 3 → ∃ w9, (Rdw w9 p W (i' + 1) (((d + 1 : Nat) : Int) - 1) 20 ∧ Fr p w6.heap.size w6 w9) ∧ w'.heap[q]? = some (.cells #[.int .i64 x.kind, .string (strOfNums x.text), .int .i64 (x.pos : Int), .int .i64 (x.n : Int), .slice na x.names.length nc, .slice ka x.kids.length kc] 36) ∧ St q w9 w') ∧ (D 2 → ¬ D 3 → (Rdw w' p W (i' + 1) (((d + 1 : Nat) : Int) - 1) 20 ∧ Fr p w6.heap.size w6 w'))) (by kernel_rfl) (by kernel_rfl) ?mono ?start ?step ?done
          case mono =>
            rintro D D' a w' hD ⟨l, vt, ha, hlen, hl, hvt, hE, hZ, hN, hQ, hL⟩
            exact ⟨l, vt, ha, hlen, fun j hj h => hl j hj ((hD j).2 h), fun h => hvt ((hD 4).2 h), hE.imp_left (hD 3).1, hZ.imp_left (hD 3).1, hN.imp_left (hD 2).1, fun h => hQ ((hD 3).2 h), fun h h' => hL ((hD 2).2 h) (fun k => h' ((hD 3).1 k))⟩
          case start => exact ⟨_, _, putT_start A 23 3 3 _ (by omega) (by decide) st, (putAll_start A 23 3 (by omega)).2, fun _ _ h => h.elim, fun h => h.elim, .inr (Ekd), .inr (hZd), .inr (h6d), fun h => h.elim, fun h _ => h.elim⟩
          case step =>
            clear hA
            intro i o ho D a w' hI hn hcl hd
            obtain ⟨l, vt, ha, hlen, hl, hvt, hE, hZ, hN, hQ, hL⟩ := hI
            match i, ho with
            | 0, ho =>
              cases Option.some.inj ho
              have ev : a.tmps[4]? = some (.pointer (some ⟨q4, 0, none⟩)) := by rw [ha, putT_other _ _ _ _ (by decide), putAll_low A 23 4 l (by omega) (by decide)]; exact s4
              have e1 := hE.resolve_left (fun h => hn (hcl 3 _ rfl h ⟨0, .data⟩ (by simp) rfl))
              obtain ⟨z0, z1, z2, z3, z4, z5, _⟩ := nd_cells e1
              refine wp_value (w' := w') (v := .agg #[.int .i64 x.kind, .string (strOfNums x.text), .int .i64 (x.pos : Int), .int .i64 (x.n : Int), .slice na x.names.length nc, .slice ka x.kids.length kc]) (by simp [execOp, ev, go_sem, z0, z1, z2, z3, z4, z5]) ?_
              exact ⟨_, vt, by rw [ha]; exact putT_put A 23 0 3 l _ _ (by omega) (by omega) (by decide), by rw [List.length_set]; exact hlen, set_known hlen (by decide) hl, fun h => hvt (h.resolve_left (by decide)), hE.imp_left .inr, hZ.imp_left .inr, hN.imp_left .inr, fun h => hQ (h.resolve_left (by decide)), fun h h' => hL (h.resolve_left (by decide)) (fun k => h' (.inr k))⟩
            | 1, ho =>
              cases Option.some.inj ho
              have ev : a.tmps[0]? = some (.pointer (some ⟨p, 0, none⟩)) := by rw [ha, putT_other _ _ _ _ (by decide), putAll_low A 23 0 l (by omega) (by decide)]; exact s0
              refine wp_value (w' := w') (v := .pointer (some ⟨p, 0, none⟩)) (by simp [execOp, ev, go_sem]) ?_
              exact ⟨_, vt, by rw [ha]; exact putT_put A 23 1 3 l _ _ (by omega) (by omega) (by decide), by rw [List.length_set]; exact hlen, set_known hlen (by decide) hl, fun h => hvt (h.resolve_left (by decide)), hE.imp_left .inr, hZ.imp_left .inr, hN.imp_left .inr, fun h => hQ (h.resolve_left (by decide)), fun h h' => hL (h.resolve_left (by decide)) (fun k => h' (.inr k))⟩
            | 2, ho =>
              cases Option.some.inj ho
              have ev : a.tmps[24]? = some (.pointer (some ⟨p, 0, none⟩)) := known_atT ha hsz hlen hl 1 (by decide) (hd ⟨1, .data⟩ (by simp) rfl)
              have h6 := hN.resolve_left hn
              refine wp_enter (f := 89) (args := #[.pointer (some ⟨p, 0, none⟩), .int .i64 11]) (by simp [execOp, ev, go_sem]) ?_
              refine (leave_yes h6.1 (S.lt hi') hd1 11 hk).mono ?_
              rintro e w6 ⟨rfl, h9, F9⟩
              refine ⟨_, rfl, ?_⟩
              exact ⟨_, vt, by rw [ha]; exact putT_put A 23 2 3 l _ _ (by omega) (by omega) (by decide), by rw [List.length_set]; exact hlen, set_known hlen (by decide) hl, fun h => hvt (h.resolve_left (by decide)), hE.imp .inr (fun h => (F9.block q4 (lt_of_block h) hqp4).trans h), hZ.imp .inr (fun h => h.keep (fun hl => F9.block q hl hqpq)), .inl (.inl rfl), fun h => absurd (h.resolve_left (by decide)) (fun h => hn (hcl 3 _ rfl h ⟨2, .chain⟩ (by simp) rfl)), fun _ _ => ⟨h9, h6.2.trans F9 h6.2.size⟩⟩
            | 3, ho =>
              cases Option.some.inj ho
              have ev : a.tmps[23]? = some (.agg #[.int .i64 x.kind, .string (strOfNums x.text), .int .i64 (x.pos : Int), .int .i64 (x.n : Int), .slice na x.names.length nc, .slice ka x.kids.length kc]) := known_atT ha hsz hlen hl 0 (by decide) (hd ⟨0, .data⟩ (by simp) rfl)
              have e1 := hZ.resolve_left hn
              obtain ⟨u0, u1, u2, u3, u4, u5, e1⟩ := e1
              have e4 : a.tmps[2]? = some (.pointer (some ⟨q, 0, none⟩)) := by rw [ha, putT_other _ _ _ _ (by decide), putAll_low A 23 2 l (by omega) (by decide)]; exact s2
              have L := hL (hd ⟨2, .chain⟩ (by simp) rfl) hn
              refine wp_store_row (P := Try.prog) 36 (.tmp 2) (.tmp 23) rfl q #[.int .i64 x.kind, .string (strOfNums x.text), .int .i64 (x.pos : Int), .int .i64 (x.n : Int), .slice na x.names.length nc, .slice ka x.kids.length kc] (by simpa [Act.eval] using evalS e4) (by simpa [Act.eval] using evalS ev) 36 _ e1 (by kernel_rfl) rfl (by simp [Value.oneCell']) ?_
              exact ⟨l, vt, ha, hlen, fun j hj h => hl j hj (h.resolve_left (by omega)), fun h => hvt (h.resolve_left (by decide)), .inl (.inl rfl), .inl (.inl rfl), .inl (.inr (hd ⟨2, .chain⟩ (by simp) rfl)), fun _ => ⟨w', L, setRow_heap w' q _ _ _ _ e1, St.row w' q _⟩, fun _ h' => absurd (.inl rfl) h'⟩
            | 4, ho =>
              cases Option.some.inj ho
              have ev : a.tmps[25]? = some (.bool true) := known_atT ha hsz hlen hl 2 (by decide) (hd ⟨2, .data⟩ (by simp) rfl)
              refine wp_value (w' := w') (v := .bool true) (by simp [execOp, ev, go_sem]) ?_
              exact ⟨l, (.bool true), by rw [ha]; exact putT_again _ _ _ _, hlen, fun j hj h => hl j hj (h.resolve_left (by omega)), fun _ => rfl, hE.imp_left .inr, hZ.imp_left .inr, hN.imp_left .inr, fun h => hQ (h.resolve_left (by decide)), fun h h' => hL (h.resolve_left (by decide)) (fun k => h' (.inr k))⟩
            | i + 5, ho => simp at ho
          case done =>
            rintro D a w' ⟨l, vt, ha, hlen, hl, hvt, hE, hZ, hN, hQ, hL⟩ hall
            obtain rfl := hvt (hall 4 (by decide))
            obtain ⟨v0, v1, v2, rfl⟩ := blkV_list hlen
            obtain ⟨w9, ⟨L9, F9⟩, Eq, Sq⟩ := hQ (hall 3 (by decide))
            subst hA
            have hfr : a = _ := ha
            rw [hfr]
            clear hfr ha
            simp only [putAll, List.take_succ_cons, List.take_zero, List.drop_succ_cons, List.drop_zero, List.cons_append, List.nil_append, List.length_cons, List.length_nil]
            clear hl hE hZ hN hL hQ hall
            have hs69 := F9.size
            have X9 := X.go F9 L9
            have hv9 := hv.fr F9 (fun b hb hl => ⟨hl, fun e => hAp (e ▸ hb)⟩)
            have hdd : (((d + 1 : Nat) : Int) - 1) = (d : Int) := by omega
            rw [hdd] at X9
            go_wp2
            exact bodyPost_ret (results_cellb (a := 2) (t := 36) (b := 3) (by rfl) (by rfl) (by rfl) (load25 Eq)) (by rfl) ⟨_, R_block_go hrA hrB hd4 hk, ⟨_, rfl, NdV.imp (fun b _ hA => ⟨by omega, Sq.block b (by omega)⟩) _ _ hv9, (X9.fin Sq).2⟩, (X9.fin Sq).1⟩
        · go_wp2_with fail
          refine abstract_act fun A hA => ?_
          have hsz : A.tmps.size = 26 := by rw [hA]; rfl
          have st : A.tmps[3]? = some (.bool false) := by rw [hA]; rfl
          have s0 : A.tmps[0]? = some (.pointer (some ⟨p, 0, none⟩)) := by rw [hA]; rfl
          have s4 : A.tmps[4]? = some (.pointer (some ⟨q4, 0, none⟩)) := by rw [hA]; rfl
          have s2 : A.tmps[2]? = some (.pointer (some ⟨q, 0, none⟩)) := by rw [hA]; rfl
          refine wp_region_inv' (fun A D a w' => ∃ (l : List Value) (vt : Value), a = (putAll A 23 l).put (some 3) vt ∧ l.length = 3 ∧ (∀ j, j < 3 → D j → l[j]? = some (blnV x p na ka nc kc j)) ∧ (D 4 → vt = .bool false) ∧ (D 3 ∨ w'.heap[q4]? = some (.cells #[.int .i64 x.kind, .string (strOfNums x.text), .int .i64 (x.pos : Int), .int .i64 (x.n : Int), .slice na x.names.length nc, .slice ka x.kids.length kc] 36)) ∧ (D 3 ∨ ZBox w' q) ∧ (D 2 ∨ (Rdw w' p W i' ((d + 1 : Nat) : Int) 20 ∧ Fr p w6.heap.size w6 w')) ∧ (D 3 → ∃ w9, (Rdw w9 p W i' (((d + 1 : Nat) : Int) - 1) 20 ∧ Fr p w6.heap.size w6 w9) ∧ w'.heap[q]? = some (.cells #[.int .i64 x.kind, .string (strOfNums x.text), .int .i64 (x.pos : Int), .int .i64 (x.n : Int), .slice na x.names.length nc, .slice ka x.kids.length kc] 36) ∧ St q w9 w') ∧ (D 2 → ¬ D 3 → (Rdw w' p W i' (((d + 1 : Nat) : Int) - 1) 20 ∧ Fr p w6.heap.size w6 w'))) (by kernel_rfl) (by kernel_rfl) ?mono ?start ?step ?done
          case mono =>
            rintro D D' a w' hD ⟨l, vt, ha, hlen, hl, hvt, hE, hZ, hN, hQ, hL⟩
            exact ⟨l, vt, ha, hlen, fun j hj h => hl j hj ((hD j).2 h), fun h => hvt ((hD 4).2 h), hE.imp_left (hD 3).1, hZ.imp_left (hD 3).1, hN.imp_left (hD 2).1, fun h => hQ ((hD 3).2 h), fun h h' => hL ((hD 2).2 h) (fun k => h' ((hD 3).1 k))⟩
          case start => exact ⟨_, _, putT_start A 23 3 3 _ (by omega) (by decide) st, (putAll_start A 23 3 (by omega)).2, fun _ _ h => h.elim, fun h => h.elim, .inr (Ekd), .inr (hZd), .inr (h6d), fun h => h.elim, fun h _ => h.elim⟩
          case step =>
            clear hA
            intro i o ho D a w' hI hn hcl hd
            obtain ⟨l, vt, ha, hlen, hl, hvt, hE, hZ, hN, hQ, hL⟩ := hI
            match i, ho with
            | 0, ho =>
              cases Option.some.inj ho
              have ev : a.tmps[4]? = some (.pointer (some ⟨q4, 0, none⟩)) := by rw [ha, putT_other _ _ _ _ (by decide), putAll_low A 23 4 l (by omega) (by decide)]; exact s4
              have e1 := hE.resolve_left (fun h => hn (hcl 3 _ rfl h ⟨0, .data⟩ (by simp) rfl))
              obtain ⟨z0, z1, z2, z3, z4, z5, _⟩ := nd_cells e1
              refine wp_value (w' := w') (v := .agg #[.int .i64 x.kind, .string (strOfNums x.text), .int .i64 (x.pos : Int), .int .i64 (x.n : Int), .slice na x.names.length nc, .slice ka x.kids.length kc]) (by simp [execOp, ev, go_sem, z0, z1, z2, z3, z4, z5]) ?_
              exact ⟨_, vt, by rw [ha]; exact putT_put A 23 0 3 l _ _ (by omega) (by omega) (by decide), by rw [List.length_set]; exact hlen, set_known hlen (by decide) hl, fun h => hvt (h.resolve_left (by decide)), hE.imp_left .inr, hZ.imp_left .inr, hN.imp_left .inr, fun h => hQ (h.resolve_left (by decide)), fun h h' => hL (h.resolve_left (by decide)) (fun k => h' (.inr k))⟩
            | 1, ho =>
              cases Option.some.inj ho
              have ev : a.tmps[0]? = some (.pointer (some ⟨p, 0, none⟩)) := by rw [ha, putT_other _ _ _ _ (by decide), putAll_low A 23 0 l (by omega) (by decide)]; exact s0
              refine wp_value (w' := w') (v := .pointer (some ⟨p, 0, none⟩)) (by simp [execOp, ev, go_sem]) ?_
              exact ⟨_, vt, by rw [ha]; exact putT_put A 23 1 3 l _ _ (by omega) (by omega) (by decide), by rw [List.length_set]; exact hlen, set_known hlen (by decide) hl, fun h => hvt (h.resolve_left (by decide)), hE.imp_left .inr, hZ.imp_left .inr, hN.imp_left .inr, fun h => hQ (h.resolve_left (by decide)), fun h h' => hL (h.resolve_left (by decide)) (fun k => h' (.inr k))⟩
            | 2, ho =>
              cases Option.some.inj ho
              have ev : a.tmps[24]? = some (.pointer (some ⟨p, 0, none⟩)) := known_atT ha hsz hlen hl 1 (by decide) (hd ⟨1, .data⟩ (by simp) rfl)
              have h6 := hN.resolve_left hn
              refine wp_enter (f := 89) (args := #[.pointer (some ⟨p, 0, none⟩), .int .i64 11]) (by simp [execOp, ev, go_sem]) ?_
              refine (leave_no h6.1 (S.lt hi') hd1 11 hk).mono ?_
              rintro e w6 ⟨rfl, h9, F9⟩
              refine ⟨_, rfl, ?_⟩
              exact ⟨_, vt, by rw [ha]; exact putT_put A 23 2 3 l _ _ (by omega) (by omega) (by decide), by rw [List.length_set]; exact hlen, set_known hlen (by decide) hl, fun h => hvt (h.resolve_left (by decide)), hE.imp .inr (fun h => (F9.block q4 (lt_of_block h) hqp4).trans h), hZ.imp .inr (fun h => h.keep (fun hl => F9.block q hl hqpq)), .inl (.inl rfl), fun h => absurd (h.resolve_left (by decide)) (fun h => hn (hcl 3 _ rfl h ⟨2, .chain⟩ (by simp) rfl)), fun _ _ => ⟨h9, h6.2.trans F9 h6.2.size⟩⟩
            | 3, ho =>
              cases Option.some.inj ho
              have ev : a.tmps[23]? = some (.agg #[.int .i64 x.kind, .string (strOfNums x.text), .int .i64 (x.pos : Int), .int .i64 (x.n : Int), .slice na x.names.length nc, .slice ka x.kids.length kc]) := known_atT ha hsz hlen hl 0 (by decide) (hd ⟨0, .data⟩ (by simp) rfl)
              have e1 := hZ.resolve_left hn
              obtain ⟨u0, u1, u2, u3, u4, u5, e1⟩ := e1
              have e4 : a.tmps[2]? = some (.pointer (some ⟨q, 0, none⟩)) := by rw [ha, putT_other _ _ _ _ (by decide), putAll_low A 23 2 l (by omega) (by decide)]; exact s2
              have L := hL (hd ⟨2, .chain⟩ (by simp) rfl) hn
              refine wp_store_row (P := Try.prog) 36 (.tmp 2) (.tmp 23) rfl q #[.int .i64 x.kind, .string (strOfNums x.text), .int .i64 (x.pos : Int), .int .i64 (x.n : Int), .slice na x.names.length nc, .slice ka x.kids.length kc] (by simpa [Act.eval] using evalS e4) (by simpa [Act.eval] using evalS ev) 36 _ e1 (by kernel_rfl) rfl (by simp [Value.oneCell']) ?_
              exact ⟨l, vt, ha, hlen, fun j hj h => hl j hj (h.resolve_left (by omega)), fun h => hvt (h.resolve_left (by decide)), .inl (.inl rfl), .inl (.inl rfl), .inl (.inr (hd ⟨2, .chain⟩ (by simp) rfl)), fun _ => ⟨w', L, setRow_heap w' q _ _ _ _ e1, St.row w' q _⟩, fun _ h' => absurd (.inl rfl) h'⟩
            | 4, ho =>
              cases Option.some.inj ho
              have ev : a.tmps[25]? = some (.bool false) := known_atT ha hsz hlen hl 2 (by decide) (hd ⟨2, .data⟩ (by simp) rfl)
              refine wp_value (w' := w') (v := .bool false) (by simp [execOp, ev, go_sem]) ?_
              exact ⟨l, (.bool false), by rw [ha]; exact putT_again _ _ _ _, hlen, fun j hj h => hl j hj (h.resolve_left (by omega)), fun _ => rfl, hE.imp_left .inr, hZ.imp_left .inr, hN.imp_left .inr, fun h => hQ (h.resolve_left (by decide)), fun h h' => hL (h.resolve_left (by decide)) (fun k => h' (.inr k))⟩
            | i + 5, ho => simp at ho
          case done =>
            rintro D a w' ⟨l, vt, ha, hlen, hl, hvt, hE, hZ, hN, hQ, hL⟩ hall
            obtain rfl := hvt (hall 4 (by decide))
            obtain ⟨v0, v1, v2, rfl⟩ := blnV_list hlen
            obtain ⟨w9, ⟨L9, F9⟩, Eq, Sq⟩ := hQ (hall 3 (by decide))
            subst hA
            have hfr : a = _ := ha
            rw [hfr]
            clear hfr ha
            simp only [putAll, List.take_succ_cons, List.take_zero, List.drop_succ_cons, List.drop_zero, List.cons_append, List.nil_append, List.length_cons, List.length_nil]
            clear hl hE hZ hN hL hQ hall
            have hs69 := F9.size
            have X9 := X.go F9 L9
            have hv9 := hv.fr F9 (fun b hb hl => ⟨hl, fun e => hAp (e ▸ hb)⟩)
            have hdd : (((d + 1 : Nat) : Int) - 1) = (d : Int) := by omega
            rw [hdd] at X9
            go_wp2
            exact bodyPost_ret (results_cellb (a := 2) (t := 36) (b := 3) (by rfl) (by rfl) (by rfl) (load25 Eq)) (by rfl) ⟨_, R_block_no hrA hrB hd4 hk, ⟨_, _, _, rfl, NdV.imp (fun b _ hA => ⟨by omega, Sq.block b (by omega)⟩) _ _ hv9, (X9.fin Sq).2⟩, (X9.fin Sq).1⟩
end Go.Proofs.Ytoghhjljmhdioaa
