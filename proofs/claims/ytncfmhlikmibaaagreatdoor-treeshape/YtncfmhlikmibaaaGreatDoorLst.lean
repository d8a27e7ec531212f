/- list. -/
import Derived.Test.YtncfmhlikmibaaaGreatDoorKbx
import Derived.Test.YtncfmhlikmibaaaGreatDoorPri
namespace Go.Proofs.YtncfmhlikmibaaaGreatDoor
open Go.RowKit
set_option maxRecDepth 100000
/-- What the operations yield. -/
def lstV (x : Nd) (p : Nat) (na ka : Option Addr) (nc kc : Nat) (j : Nat) : Value :=
  ([.agg #[.int .i64 x.kind, .string (strOfNums x.text), .int .i64 (x.pos : Int), .int .i64 (x.n : Int), .slice na x.names.length nc, .slice ka x.kids.length kc],
    .pointer (some ⟨p, 0, none⟩),
    .bool true] : List Value).getD j undef
theorem lstV_list {l : List Value} (hh : l.length = 3) : ∃ v0 v1 v2, l = [v0, v1, v2] := by
  obtain ⟨v0, t0, rfl, h0⟩ := cons_of hh
  obtain ⟨v1, t1, rfl, h1⟩ := cons_of h0
  obtain ⟨v2, t2, rfl, h2⟩ := cons_of h1
  obtain rfl := List.eq_nil_of_length_eq_zero h2
  exact ⟨_, _, _, rfl⟩
set_option maxHeartbeats 2000000 in
theorem list_con {W : List Tk} {E : Nat} (S : Src W E) {i d : Nat} (hlt : i < E) (hd : d ≤ 40) (H : ∀ j, i < j → j ≤ E → d ≠ 40 → Con0 168 W (.elem j (d + 1)) j (d + 1)) : Con0 163 W (.list i d) i d := by
  intro w p h
  have hi : i ≤ E := Nat.le_of_lt hlt
  have f2 := fld2
  go_enter Tryz.func163, Tryz.ntmps163
  go_wp2_with (refine al25 _ rfl rfl ?_)
  intro q w1 E1 hq B1
  have X := Sx.start h ⟨_, _, _, _, _, _, E1⟩ hq B1
  have hp := X.hp
  have hq1 := X.z.lt
  have hs1 := X.size
  clear E1 hq B1 h
  go_wp2_with fail
  refine (wordR_any X.rd (S.lt hi)).mono ?_
  rintro e w2 ⟨rfl, B2⟩
  have X2 := X.bel B2
  have hs12 : w1.heap.size ≤ w2.heap.size := B2.size
  clear X B2
  go_wp2_with (refine as25 _ rfl rfl rfl 4 rfl _ rfl rfl _ _ _ _ _ _ _ _ _ _ (fun _ => rfl) (fun _ => rfl) ?_)
  intro q4 w3 E3 hq4 B3
  have K : KBox w3 (fun b => w2.heap.size ≤ b ∧ b ≠ q4) q4 (.mk 4 [] (psW W i) 0 [] []) := KBox.new E3
  have hl4 := lt_of_block E3
  have hs23 : w2.heap.size ≤ w3.heap.size := B3.size
  replace X2 := X2.bel B3
  have hqp4 : q4 ≠ p := by have := X2.hp; omega
  have hAp : ¬ (w2.heap.size ≤ p ∧ p ≠ q4) := by have := X2.hp; omega
  clear E3 B3
  by_cases hd4 : d = 40
  · subst hd4
    go_wp2_with fail
    refine (enter_no X2.rd).mono ?_
    rintro e w5 ⟨rfl, h5, F5⟩
    have X5 := X2.go F5 h5
    clear X2
    obtain ⟨u0, u1, u2, u3, u4, u5, Eq⟩ := X5.z
    go_wp2_with (refine st25 _ rfl _ _ rfl rfl _ _ _ _ _ _ _ _ _ _ _ rfl rfl Eq ?_)
    intro wz Ez Sz
    go_wp2
    exact bodyPost_ret (results_cellb (a := 2) (t := 25) (b := 3) (by rfl) (by rfl) (by rfl) (load25 Ez)) (by rfl) ⟨_, R_list_deep rfl, ⟨_, _, _, rfl, NdV.zero, (X5.fin Sz).2⟩, (X5.fin Sz).1⟩
  · go_wp2_with fail
    refine (enter_yes X2.rd (by omega) (S.lt hi)).mono ?_
    rintro e w5 ⟨rfl, h5, F5⟩
    have hs35 : w3.heap.size ≤ w5.heap.size := F5.size
    replace X2 : Sx w p q w5 W (i + 1) ((d + 1 : Nat) : Int) 20 := X2.go F5 h5
    replace K := K.fr F5 hqp4 hAp
    clear F5 h5
    go_wp2_with fail
    go_loopw [] (fun wr => ∃ (i' : Nat) (x' : Nd), KBox wr (fun b => w2.heap.size ≤ b ∧ b ≠ q4) q4 x' ∧ Sx w p q wr W i' ((d + 1 : Nat) : Int) 20 ∧ i + 1 ≤ i' ∧ i' ≤ E ∧ w5.heap.size ≤ wr.heap.size ∧ x'.kids.length ≤ i' ∧ Hid (x'.names = [] ∧ x'.text = []) ∧ Hid (∀ r, Reads W (.elems i' (d + 1) x') r → Reads W (.list i d) r)) (fun wr => E - atOf wr p)
    case atStart => exact ⟨i + 1, _, K, X2, Nat.le_refl _, hlt, Nat.le_refl _, Nat.zero_le _, ⟨rfl, rfl⟩, fun r hr => R_list_go hr hd4⟩
    case round =>
      clear K X2
      obtain ⟨i', x, K, X, hii, hi', hs5, hxl, hxn, hR⟩ := hrel
      have hat : atOf wr p = i' := X.rd.atOf
      go_wp2_with fail
      refine (is_any X.rd (S.lt hi') 9).mono ?_
      rintro e w6 ⟨rfl, B6⟩
      have hs6 : wr.heap.size ≤ w6.heap.size := B6.size
      replace K := K.bel B6
      replace X := X.bel B6
      clear B6
      by_cases hk : kdW W i' = 9
      · rw [show (kdW W i' == 9) = true by simp [hk]]
        have hlt' : i' < E := S.ends.lt (by rw [hk]; decide)
        have hN := K.nd (by rw [hxn.out.1]; exact Nat.zero_le _) (by have := S.small; omega) (by rw [hxn.out.2]; exact Nat.zero_le _)
        obtain ⟨na, nc, ka, kc, Ek, hv⟩ := hN
        go_wp2_with fail
        have hd1 : (0 : Int) ≤ ((d + 1 : Nat) : Int) ∧ ((d + 1 : Nat) : Int) ≤ 100 := by omega
        have Ekd : w6.drew.heap[q4]? = _ := Ek
        have hZd : ZBox w6.drew q := X.z
        have h6d : Rdw w6.drew p W i' ((d + 1 : Nat) : Int) 20 ∧ Fr p w6.heap.size w6 w6.drew := ⟨X.rd.same (fun _ _ => rfl) rfl, Fr.of_below (Below.refl _ _).drew⟩
        have hqpq : q ≠ p := by have := X.hq; have := X.hp; omega
        refine abstract_act fun A hA => ?_
        have hsz : A.tmps.size = 35 := by rw [hA]; rfl
        have st : A.tmps[3]? = some (u3) := by rw [hA]; rfl
        have s0 : A.tmps[0]? = some (.pointer (some ⟨p, 0, none⟩)) := by rw [hA]; rfl
        have s4 : A.tmps[4]? = some (.pointer (some ⟨q4, 0, none⟩)) := by rw [hA]; rfl
        have s2 : A.tmps[2]? = some (.pointer (some ⟨q, 0, none⟩)) := by rw [hA]; rfl
        refine wp_region_inv' (fun A D a w' => ∃ (l : List Value) (vt : Value), a = (putAll A 32 l).put (some 3) vt ∧ l.length = 3 ∧ (∀ j, j < 3 → D j → l[j]? = some (lstV x p na ka nc kc j)) ∧ (D 4 → vt = .bool true) ∧ (D 3 ∨ w'.heap[q4]? = some (.cells #[.int .i64 x.kind, .string (strOfNums x.text), .int .i64 (x.pos : Int), .int .i64 (x.n : Int), .slice na x.names.length nc, .slice ka x.kids.length kc] 25)) ∧ (D 3 ∨ ZBox w' q) ∧ (D 2 ∨ (Rdw w' p W i' ((d + 1 : Nat) : Int) 20 ∧ Fr p w6.heap.size w6 w')) ∧ (D 3 → ∃ w9, (Rdw w9 p W (i' + 1) (((d + 1 : Nat) : Int) - 1) 20 ∧ Fr p w6.heap.size w6 w9) ∧ w'.heap[q]? = some (.cells #[.int .i64 x.kind, .string (strOfNums x.text), .int .i64 (x.pos : Int), .int .i64 (x.n : Int), .slice na x.names.length nc, .slice ka x.kids.length kc] 25) ∧ St q w9 w') ∧ (D 2 → ¬ D 3 → (Rdw w' p W (i' + 1) (((d + 1 : Nat) : Int) - 1) 20 ∧ Fr p w6.heap.size w6 w'))) (by kernel_rfl) (by kernel_rfl) ?mono ?start ?step ?done
        case mono =>
          rintro D D' a w' hD ⟨l, vt, ha, hlen, hl, hvt, hE, hZ, hN, hQ, hL⟩
          exact ⟨l, vt, ha, hlen, fun j hj h => hl j hj ((hD j).2 h), fun h => hvt ((hD 4).2 h), hE.imp_left (hD 3).1, hZ.imp_left (hD 3).1, hN.imp_left (hD 2).1, fun h => hQ ((hD 3).2 h), fun h h' => hL ((hD 2).2 h) (fun k => h' ((hD 3).1 k))⟩
        case start => exact ⟨_, _, putT_start A 32 3 3 _ (by omega) (by decide) st, (putAll_start A 32 3 (by omega)).2, fun _ _ h => h.elim, fun h => h.elim, .inr (Ekd), .inr (hZd), .inr (h6d), fun h => h.elim, fun h _ => h.elim⟩
        case step =>
          clear hA
          intro i o ho D a w' hI hn hcl hd
          obtain ⟨l, vt, ha, hlen, hl, hvt, hE, hZ, hN, hQ, hL⟩ := hI
          match i, ho with
          | 0, ho =>
            cases Option.some.inj ho
            have ev : a.tmps[4]? = some (.pointer (some ⟨q4, 0, none⟩)) := by rw [ha, putT_other _ _ _ _ (by decide), putAll_low A 32 4 l (by omega) (by decide)]; exact s4
            have e1 := hE.resolve_left (fun h => hn (hcl 3 _ rfl h ⟨0, .data⟩ (by simp) rfl))
            obtain ⟨z0, z1, z2, z3, z4, z5, _⟩ := nd_cells e1
            refine wp_value (w' := w') (v := .agg #[.int .i64 x.kind, .string (strOfNums x.text), .int .i64 (x.pos : Int), .int .i64 (x.n : Int), .slice na x.names.length nc, .slice ka x.kids.length kc]) (by simp [execOp, ev, go_sem, z0, z1, z2, z3, z4, z5]) ?_
            exact ⟨_, vt, by rw [ha]; exact putT_put A 32 0 3 l _ _ (by omega) (by omega) (by decide), by rw [List.length_set]; exact hlen, set_known hlen (by decide) hl, fun h => hvt (h.resolve_left (by decide)), hE.imp_left .inr, hZ.imp_left .inr, hN.imp_left .inr, fun h => hQ (h.resolve_left (by decide)), fun h h' => hL (h.resolve_left (by decide)) (fun k => h' (.inr k))⟩
          | 1, ho =>
            cases Option.some.inj ho
            have ev : a.tmps[0]? = some (.pointer (some ⟨p, 0, none⟩)) := by rw [ha, putT_other _ _ _ _ (by decide), putAll_low A 32 0 l (by omega) (by decide)]; exact s0
            refine wp_value (w' := w') (v := .pointer (some ⟨p, 0, none⟩)) (by simp [execOp, ev, go_sem]) ?_
            exact ⟨_, vt, by rw [ha]; exact putT_put A 32 1 3 l _ _ (by omega) (by omega) (by decide), by rw [List.length_set]; exact hlen, set_known hlen (by decide) hl, fun h => hvt (h.resolve_left (by decide)), hE.imp_left .inr, hZ.imp_left .inr, hN.imp_left .inr, fun h => hQ (h.resolve_left (by decide)), fun h h' => hL (h.resolve_left (by decide)) (fun k => h' (.inr k))⟩
          | 2, ho =>
            cases Option.some.inj ho
            have ev : a.tmps[33]? = some (.pointer (some ⟨p, 0, none⟩)) := known_atT ha hsz hlen hl 1 (by decide) (hd ⟨1, .data⟩ (by simp) rfl)
            have h6 := hN.resolve_left hn
            refine wp_enter (f := 161) (args := #[.pointer (some ⟨p, 0, none⟩), .int .i64 9]) (by simp [execOp, ev, go_sem]) ?_
            refine (leave_yes h6.1 (S.lt hi') hd1 9 hk).mono ?_
            rintro e w6 ⟨rfl, h9, F9⟩
            refine ⟨_, rfl, ?_⟩
            exact ⟨_, vt, by rw [ha]; exact putT_put A 32 2 3 l _ _ (by omega) (by omega) (by decide), by rw [List.length_set]; exact hlen, set_known hlen (by decide) hl, fun h => hvt (h.resolve_left (by decide)), hE.imp .inr (fun h => (F9.block q4 (lt_of_block h) hqp4).trans h), hZ.imp .inr (fun h => h.keep (fun hl => F9.block q hl hqpq)), .inl (.inl rfl), fun h => absurd (h.resolve_left (by decide)) (fun h => hn (hcl 3 _ rfl h ⟨2, .chain⟩ (by simp) rfl)), fun _ _ => ⟨h9, h6.2.trans F9 h6.2.size⟩⟩
          | 3, ho =>
            cases Option.some.inj ho
            have ev : a.tmps[32]? = some (.agg #[.int .i64 x.kind, .string (strOfNums x.text), .int .i64 (x.pos : Int), .int .i64 (x.n : Int), .slice na x.names.length nc, .slice ka x.kids.length kc]) := known_atT ha hsz hlen hl 0 (by decide) (hd ⟨0, .data⟩ (by simp) rfl)
            have e1 := hZ.resolve_left hn
            obtain ⟨u0, u1, u2, u3, u4, u5, e1⟩ := e1
            have e4 : a.tmps[2]? = some (.pointer (some ⟨q, 0, none⟩)) := by rw [ha, putT_other _ _ _ _ (by decide), putAll_low A 32 2 l (by omega) (by decide)]; exact s2
            have L := hL (hd ⟨2, .chain⟩ (by simp) rfl) hn
            refine wp_store_row (P := Tryz.prog) 25 (.tmp 2) (.tmp 32) rfl q #[.int .i64 x.kind, .string (strOfNums x.text), .int .i64 (x.pos : Int), .int .i64 (x.n : Int), .slice na x.names.length nc, .slice ka x.kids.length kc] (by simpa [Act.eval] using evalS e4) (by simpa [Act.eval] using evalS ev) 25 _ e1 (by kernel_rfl) rfl (by simp [Value.oneCell']) ?_
            exact ⟨l, vt, ha, hlen, fun j hj h => hl j hj (h.resolve_left (by omega)), fun h => hvt (h.resolve_left (by decide)), .inl (.inl rfl), .inl (.inl rfl), .inl (.inr (hd ⟨2, .chain⟩ (by simp) rfl)), fun _ => ⟨w', L, setRow_heap w' q _ _ _ _ e1, St.row w' q _⟩, fun _ h' => absurd (.inl rfl) h'⟩
          | 4, ho =>
            cases Option.some.inj ho
            have ev : a.tmps[34]? = some (.bool true) := known_atT ha hsz hlen hl 2 (by decide) (hd ⟨2, .data⟩ (by simp) rfl)
            refine wp_value (w' := w') (v := .bool true) (by simp [execOp, ev, go_sem]) ?_
            exact ⟨l, (.bool true), by rw [ha]; exact putT_again _ _ _ _, hlen, fun j hj h => hl j hj (h.resolve_left (by omega)), fun _ => rfl, hE.imp_left .inr, hZ.imp_left .inr, hN.imp_left .inr, fun h => hQ (h.resolve_left (by decide)), fun h h' => hL (h.resolve_left (by decide)) (fun k => h' (.inr k))⟩
          | i + 5, ho => simp at ho
        case done =>
          rintro D a w' ⟨l, vt, ha, hlen, hl, hvt, hE, hZ, hN, hQ, hL⟩ hall
          obtain rfl := hvt (hall 4 (by decide))
          obtain ⟨v0, v1, v2, rfl⟩ := lstV_list hlen
          obtain ⟨w9, ⟨L9, F9⟩, Eq, Sq⟩ := hQ (hall 3 (by decide))
          subst hA
          have hfr : a = _ := ha
          rw [hfr]
          clear hfr ha
          simp only [putAll, List.take_succ_cons, List.take_zero, List.drop_succ_cons, List.drop_zero, List.cons_append, List.nil_append, List.length_cons, List.length_nil]
          clear hl hE hZ hN hL hQ hall
          have hs69 := F9.size
          have X9 := X.go F9 L9
          have hv9 := hv.fr F9 (fun b hb hl => ⟨hl, fun e => hAp (e ▸ hb)⟩)
          have hdd : (((d + 1 : Nat) : Int) - 1) = (d : Int) := by omega
          rw [hdd] at X9
          go_wp2
          exact bodyPost_ret (results_cellb (a := 2) (t := 25) (b := 3) (by rfl) (by rfl) (by rfl) (load25 Eq)) (by rfl) ⟨_, hR.out _ (R_elems_end hk), ⟨_, rfl, NdV.imp (fun b _ hA => ⟨by omega, Sq.block b (by omega)⟩) _ _ hv9, (X9.fin Sq).2⟩, (X9.fin Sq).1⟩
      · rw [show (kdW W i' == 9) = false by simp [hk]]
        go_wp2_with fail
        refine (H i' (by omega) hi' hd4 w6 p X.rd).mono ?_
        rintro e w7 ⟨r, hr, ha, F7⟩
        have hs67 : w6.heap.size ≤ w7.heap.size := F7.size
        have X7 := X
        obtain ⟨oa, oc, pa, pc, Ek, sn, rk⟩ := K
        have hko : ∀ b, (Value.slice pa x.kids.length pc).ownBlock = some b → (w2.heap.size ≤ b ∧ b ≠ q4) ∧ b < w6.heap.size := fun b hb => rk.own hb
        replace Ek := (F7.block _ (lt_of_block Ek) hqp4).trans Ek
        replace sn := sn.imp (fun b hb hA => ⟨hA, F7.block b hb (fun e => hAp (e ▸ hA.1))⟩)
        replace rk := rk.keep (fun b hA hb => F7.block b hb (fun e => hAp (e ▸ hA)))
        cases r with
        | er j c =>
          obtain ⟨v, y, d', rfl, hv, h7⟩ := ha
          obtain ⟨na, nc, ka, kc, _, rfl, _⟩ := NdV.parts hv
          replace X7 := X.go F7 h7
          go_wp2_with (refine as25 _ rfl rfl rfl 5 rfl _ rfl rfl _ _ _ _ _ _ _ _ _ _ (fun _ => rfl) (fun _ => rfl) ?_)
          intro q5 w8 E8 _ B8
          replace X7 := X7.bel B8
          obtain ⟨u0, u1, u2, u3, u4, u5, Eq⟩ := X7.z
          go_wp2_with (refine st25 _ rfl _ _ rfl rfl _ _ _ _ _ _ _ _ _ _ _ rfl rfl Eq ?_)
          intro wz Ez Sz
          go_wp2
          exact bodyPost_ret (results_cellb (a := 2) (t := 25) (b := 3) (by rfl) (by rfl) (by rfl) (load25 Ez)) (by rfl) ⟨_, hR.out _ (R_elems_er hr hk), ⟨_, _, _, rfl, NdV.zero, (X7.fin Sz).2⟩, (X7.fin Sz).1⟩
        | ok y j =>
          obtain ⟨v, rfl, hv, h7⟩ := ha
          have hj : i' + 1 ≤ j ∧ j ≤ E := hr.adv S.ends hi'
          obtain ⟨na, nc, ka, kc, _, rfl, _⟩ := NdV.parts hv
          replace X7 := X.go F7 h7
          clear X F7 h7
          go_wp2_with (refine as25 _ rfl rfl rfl 5 rfl _ rfl rfl _ _ _ _ _ _ _ _ _ _ (fun _ => rfl) (fun _ => rfl) ?_)
          intro q5 w8 E8 _ B8
          replace X7 := X7.bel B8
          replace Ek := (B8.block _ (lt_of_block Ek)).trans Ek
          replace sn := sn.imp (fun b hb hA => ⟨hA, B8.block b hb⟩)
          replace rk := rk.keep (fun b _ hb => B8.block b hb)
          replace hv := hv.bel B8
          have hs78 : w7.heap.size ≤ w8.heap.size := B8.size
          clear B8
          obtain ⟨y0, y1, y2, y3, y4, y5, _⟩ := nd_cells Ek
          obtain ⟨z0, z1, z2, z3, z4, z5, _⟩ := nd_cells E8
          go_wp2_with (refine bs25 _ rfl _ rfl _ _ _ _ _ _ _ _ _ _ rfl ?_)
          intro g w9 E9 hg B9
          replace Ek := (B9.block _ (lt_of_block Ek)).trans Ek
          have hs89 : w8.heap.size ≤ w9.heap.size := B9.size
          replace sn := sn.imp (fun b hb hA => ⟨hA, B9.block b hb⟩)
          replace rk := rk.keep (fun b _ hb => B9.block b hb)
          replace hv := hv.bel B9
          replace X7 := X7.bel B9
          clear y0 y1 y2 y3 y4 y5 z0 z1 z2 z3 z4 z5 B9 E8
          go_wp2_with (at_builtin; refine ap25p _ rfl _ _ rfl rfl rk rfl E9 hv ?hA ?hn ?hb ?_)
          case hA =>
            intro b hb hh
            refine ⟨⟨by omega, by omega⟩, fun g' hg' => ?_⟩
            have := hko g' hg'
            omega
          case hn => have := S.small; omega
          case hb => intro b hb; exact ⟨by omega, by omega⟩
          intro va vc w10 R10 K10 pl10
          obtain ⟨K11, S11⟩ := KBox.put Ek sn R10 K10 pl10 (by omega) (fun e => by have := hko _ e; omega)
          replace X7 := (X7.kp K10 (fun g' hg' => by have := hko g' hg'; omega)).st S11 (by omega)
          have hs10 : w9.heap.size ≤ w10.heap.size := K10.size
          have hs11 := S11.size
          obtain ⟨y0, y1, y2, y3, y4, y5, zf⟩ := nd_cells ((K10.block q4 (lt_of_block Ek) (fun e => by have := hko _ e; omega)).trans Ek)
          have zf5 := zf 5
          clear S11 K10 R10 pl10 sn rk hv E9
          go_wp2
          go_roundw
          case rel => exact ⟨j, x.kid y, K11, X7, by omega, hj.2, by omega, by simp [Nd.kid, Nd.kids]; show x.kids.length + 1 ≤ j; omega, ⟨hxn.out.1, hxn.out.2⟩, fun r hr' => hR.out r (R_elems_go hr hr' hk)⟩
          case measure => rw [X7.rd.atOf, hat]; omega
end Go.Proofs.YtncfmhlikmibaaaGreatDoor
