/- keyed. -/
import Derived.Test.YtoghhjljmhdioaaKof
import Derived.Test.YtoghhjljmhdioaaKbx
namespace Go.Proofs.Ytoghhjljmhdioaa
open Go.RowKit
set_option maxRecDepth 100000
theorem app_strR (a b : List Int) : strOfNums a ++ strOfNums b = strOfNums (a ++ b) := by
  apply ByteArray.ext
  simp [strOfNums]
theorem wp_skipR {P : Program} {o : Oper} {a : Act} {w w' : World} {K : Act → World → Prop} {Q : Exit → Act → World → Prop} (h : (execOp a.eval o).run P w = .ok .skip w') (hk : K (a.put o.dst undef) w') : o.wp P a w K Q := by
  unfold Oper.wp; rw [h]; exact hk
theorem KBox.say {w : World} {A : Nat → Prop} {q : Nat} {x : Nd} (h : KBox w A q x) (hA : ¬ A q) (t : List Int) : KBox (w.setCell ⟨q, 1, none⟩ (.string (strOfNums x.text ++ strOfNums t))) A q (x.say t) := by
  obtain ⟨na, nc, ka, kc, E, sn, rk⟩ := h
  have S := St.cell w q 1 (.string (strOfNums x.text ++ strOfNums t))
  refine ⟨na, nc, ka, kc, ?_, sn.imp (fun b _ hA' => ⟨hA', S.block b (fun e => hA (e ▸ hA'.1))⟩), rk.keep (fun b hb _ => S.block b (fun e => hA (e ▸ hb)))⟩
  rw [heap_setCell_same w q 1 _ _ _ E, app_strR]
  simp [Nd.say, Nd.kind, Nd.text, Nd.pos, Nd.n, Nd.names, Nd.kids]
/-- What the operations yield. -/
def keyV (x : Nd) (p q4 i' : Nat) (W : List Tk) (j : Nat) : Value :=
  ([.pointer (some ⟨q4, 1, none⟩),
    .string (strOfNums x.text),
    .pointer (some ⟨p, 0, none⟩),
    .agg #[.int .i64 (kdW W i'), .string (strOfNums (txW W i')), .int .i64 (psW W i' : Int)],
    (.string (strOfNums (txW W i'))),
    (.string (strOfNums x.text ++ strOfNums (txW W i'))),
    .pointer (some ⟨q4, 1, none⟩)] : List Value).getD j undef
theorem keyV_list {l : List Value} (hh : l.length = 7) : ∃ v0 v1 v2 v3 v4 v5 v6, l = [v0, v1, v2, v3, v4, v5, v6] := by
  obtain ⟨v0, t0, rfl, h0⟩ := cons_of hh
  obtain ⟨v1, t1, rfl, h1⟩ := cons_of h0
  obtain ⟨v2, t2, rfl, h2⟩ := cons_of h1
  obtain ⟨v3, t3, rfl, h3⟩ := cons_of h2
  obtain ⟨v4, t4, rfl, h4⟩ := cons_of h3
  obtain ⟨v5, t5, rfl, h5⟩ := cons_of h4
  obtain ⟨v6, t6, rfl, h6⟩ := cons_of h5
  obtain rfl := List.eq_nil_of_length_eq_zero h6
  exact ⟨_, _, _, _, _, _, _, rfl⟩
set_option maxHeartbeats 2000000 in
theorem keyed_con {W : List Tk} {E : Nat} (S : Src W E) {i d : Nat} (hi : i ≤ E) (H : ∀ j, i < j → j ≤ E → Con0 94 W (.bin j d) j d) : ConK W i d := by
  intro w p h
  have f2 := fld2
  go_enter Try.func86, Try.ntmps86
  go_wp2_with (refine al25 _ rfl rfl ?_)
  intro q w1 E1 hq B1
  have X := Sx.start h ⟨_, _, _, _, _, _, E1⟩ hq B1
  have hp := X.hp
  have hq1 := X.z.lt
  have hs1 := X.size
  clear E1 hq B1 h
  go_wp2_with fail
  refine (wordR_any X.rd (S.lt hi)).mono ?_
  rintro e w2 ⟨rfl, B2⟩
  have X2 := X.bel B2
  have hs12 : w1.heap.size ≤ w2.heap.size := B2.size
  clear X B2
  go_wp2_with (refine al25 _ rfl rfl ?_)
  intro q4 w3a E3a hq4 B3a
  go_wp2_with (refine st25 _ rfl _ _ rfl rfl _ _ _ _ _ _ _ _ _ _ _ rfl rfl E3a ?_)
  intro w3 E3 S3
  have B3 : Below w2.heap.size w2 w3 := B3a.trans (S3.below hq4)
  clear S3 E3a B3a
  have K : KBox w3 (fun b => w2.heap.size ≤ b ∧ b ≠ q4) q4 (.mk 9 [] (psW W i) 0 [] []) := KBox.new E3
  have hl4 := lt_of_block E3
  have hs23 : w2.heap.size ≤ w3.heap.size := B3.size
  replace X2 := X2.bel B3
  have hqp4 : q4 ≠ p := by have := X2.hp; omega
  have hAp : ¬ (w2.heap.size ≤ p ∧ p ≠ q4) := by have := X2.hp; omega
  clear E3 B3 f2
  go_wp2_with fail
  go_loopw [] (fun wr => ∃ (i' : Nat) (x' : Nd), KBox wr (fun b => w2.heap.size ≤ b ∧ b ≠ q4) q4 x' ∧ Sx w p q wr W i' (d : Int) 20 ∧ i ≤ i' ∧ i' ≤ E ∧ w3.heap.size ≤ wr.heap.size ∧ x'.kids.length ≤ i' ∧ Hid (x'.names = [] ∧ x'.text.length ≤ i' * 5000) ∧ Hid (∀ r, Reads W (.keys i' d x') r → Reads W (.keys i d (msgN [] (psW W i) [])) r)) (fun wr => E - atOf wr p)
  case atStart => exact ⟨i, _, K, X2, Nat.le_refl _, hi, Nat.le_refl _, Nat.zero_le _, ⟨rfl, Nat.zero_le _⟩, fun r hr => hr⟩
  case round =>
    clear K X2
    obtain ⟨i', x, K, X, hii, hi', hs5, hxl, hxn, hR⟩ := hrel
    have hat : atOf wr p = i' := X.rd.atOf
    go_wp2_with fail
    refine (is_any X.rd (S.lt hi') 2).mono ?_
    rintro e w6 ⟨rfl, B6⟩
    have hs6 : wr.heap.size ≤ w6.heap.size := B6.size
    replace K := K.bel B6
    replace X := X.bel B6
    clear B6
    by_cases hk : kdW W i' = 2
    · rw [show (kdW W i' == 2) = true by simp [hk]]
      have hlt : i' < E := S.ends.lt (by rw [hk]; decide)
      have hTx : (x.text ++ txW W i').length ≤ (i' + 1) * 5000 := by have := hxn.out.2; have := S.txt i'; rw [List.length_append]; omega
      obtain ⟨oa, oc, pa, pc, Ek, sn0, rk0⟩ := K
      have K : KBox w6 (fun b => w2.heap.size ≤ b ∧ b ≠ q4) q4 x := ⟨oa, oc, pa, pc, Ek, sn0, rk0⟩
      clear sn0 rk0
      have hszT : (strOfNums x.text).size + (strOfNums (txW W i')).size ≤ 9223372036854775807 := by rw [strOfNums_size, strOfNums_size]; have := S.txt i'; have := hxn.out.2; have := S.small; omega
      have Ekd : w6.drew.heap[q4]? = _ := Ek
      have h6d : Rdw w6.drew p W i' (d : Int) 20 ∧ Fr p w6.heap.size w6 w6.drew := ⟨X.rd.same (fun _ _ => rfl) rfl, Fr.of_below (Below.refl _ _).drew⟩
      go_wp2_with fail
      refine abstract_act fun A hA => ?_
      have hsz : A.tmps.size = 35 := by rw [hA]; rfl
      have s0 : A.tmps[0]? = some (.pointer (some ⟨p, 0, none⟩)) := by rw [hA]; rfl
      have s4 : A.tmps[4]? = some (.pointer (some ⟨q4, 0, none⟩)) := by rw [hA]; rfl
      refine wp_region_inv' (fun A D a w' => ∃ (l : List Value), a = putAll A 13 l ∧ l.length = 7 ∧ (∀ j, j < 7 → D j → l[j]? = some (keyV x p q4 i' W j)) ∧ (D 7 ∨ w'.heap[q4]? = some (.cells #[.int .i64 x.kind, .string (strOfNums x.text), .int .i64 (x.pos : Int), .int .i64 (x.n : Int), .slice oa x.names.length oc, .slice pa x.kids.length pc] 36)) ∧ (D 3 ∨ (Rdw w' p W i' (d : Int) 20 ∧ Fr p w6.heap.size w6 w')) ∧ (D 7 → ∃ w9, (Rdw w9 p W (i' + 1) (d : Int) 20 ∧ Fr p w6.heap.size w6 w9) ∧ w' = w9.setCell ⟨q4, 1, none⟩ (.string (strOfNums x.text ++ strOfNums (txW W i'))) ∧ w9.heap[q4]? = some (.cells #[.int .i64 x.kind, .string (strOfNums x.text), .int .i64 (x.pos : Int), .int .i64 (x.n : Int), .slice oa x.names.length oc, .slice pa x.kids.length pc] 36)) ∧ (D 3 → ¬ D 7 → (Rdw w' p W (i' + 1) (d : Int) 20 ∧ Fr p w6.heap.size w6 w'))) (by kernel_rfl) (by kernel_rfl) ?mono ?start ?step ?done
      case mono =>
        rintro D D' a w' hD ⟨l, ha, hlen, hl, hE, hN, hQ, hL⟩
        exact ⟨l, ha, hlen, fun j hj h => hl j hj ((hD j).2 h), hE.imp_left (hD 7).1, hN.imp_left (hD 3).1, fun h => hQ ((hD 7).2 h), fun h h' => hL ((hD 3).2 h) (fun k => h' ((hD 7).1 k))⟩
      case start => exact ⟨_, (putAll_start A 13 7 (by omega)).1, (putAll_start A 13 7 (by omega)).2, fun _ _ h => h.elim, .inr (Ekd), .inr (h6d), fun h => h.elim, fun h _ => h.elim⟩
      case step =>
        clear hA
        intro i o ho D a w' hI hn hcl hd
        obtain ⟨l, ha, hlen, hl, hE, hN, hQ, hL⟩ := hI
        match i, ho with
        | 0, ho =>
          cases Option.some.inj ho
          have ev : a.tmps[4]? = some (.pointer (some ⟨q4, 0, none⟩)) := by rw [ha, putAll_low A 13 4 l (by omega) (by decide)]; exact s4
          refine wp_value (w' := w') (v := .pointer (some ⟨q4, 1, none⟩)) (by simp [execOp, ev, go_sem]) ?_
          exact ⟨_, by rw [ha]; exact putAll_put A 13 0 l _ (by omega) (by omega), by rw [List.length_set]; exact hlen, set_known hlen (by decide) hl, hE.imp_left .inr, hN.imp_left .inr, fun h => hQ (h.resolve_left (by decide)), fun h h' => hL (h.resolve_left (by decide)) (fun k => h' (.inr k))⟩
        | 1, ho =>
          cases Option.some.inj ho
          have ev : a.tmps[13]? = some (.pointer (some ⟨q4, 1, none⟩)) := known_at ha hsz hlen hl 0 (by decide) (hd ⟨0, .data⟩ (by simp) rfl)
          have e1 := hE.resolve_left (fun h => (fun h => hn (hcl 5 _ rfl h ⟨1, .data⟩ (by simp) rfl)) (hcl 7 _ rfl h ⟨5, .data⟩ (by simp) rfl))
          obtain ⟨z0, z1, z2, z3, z4, z5, _⟩ := nd_cells e1
          refine wp_value (w' := w') (v := .string (strOfNums x.text)) (by simp [execOp, ev, go_sem, z1]) ?_
          exact ⟨_, by rw [ha]; exact putAll_put A 13 1 l _ (by omega) (by omega), by rw [List.length_set]; exact hlen, set_known hlen (by decide) hl, hE.imp_left .inr, hN.imp_left .inr, fun h => hQ (h.resolve_left (by decide)), fun h h' => hL (h.resolve_left (by decide)) (fun k => h' (.inr k))⟩
        | 2, ho =>
          cases Option.some.inj ho
          have ev : a.tmps[0]? = some (.pointer (some ⟨p, 0, none⟩)) := by rw [ha, putAll_low A 13 0 l (by omega) (by decide)]; exact s0
          refine wp_value (w' := w') (v := .pointer (some ⟨p, 0, none⟩)) (by simp [execOp, ev, go_sem]) ?_
          exact ⟨_, by rw [ha]; exact putAll_put A 13 2 l _ (by omega) (by omega), by rw [List.length_set]; exact hlen, set_known hlen (by decide) hl, hE.imp_left .inr, hN.imp_left .inr, fun h => hQ (h.resolve_left (by decide)), fun h h' => hL (h.resolve_left (by decide)) (fun k => h' (.inr k))⟩
        | 3, ho =>
          cases Option.some.inj ho
          have ev : a.tmps[15]? = some (.pointer (some ⟨p, 0, none⟩)) := known_at ha hsz hlen hl 2 (by decide) (hd ⟨2, .data⟩ (by simp) rfl)
          have h6 := hN.resolve_left hn
          refine wp_enter (f := 25) (args := #[.pointer (some ⟨p, 0, none⟩)]) (by simp [execOp, ev, go_sem]) ?_
          refine (next_any h6.1 (S.lt hi')).mono ?_
          rintro e w6 ⟨rfl, h9, F9⟩
          refine ⟨_, rfl, ?_⟩
          exact ⟨_, by rw [ha]; exact putAll_put A 13 3 l _ (by omega) (by omega), by rw [List.length_set]; exact hlen, set_known hlen (by decide) hl, hE.imp .inr (fun h => (F9.block q4 (lt_of_block h) hqp4).trans h), .inl (.inl rfl), fun h => absurd (h.resolve_left (by decide)) (fun h => (fun h => (fun h => hn (hcl 4 _ rfl h ⟨3, .data⟩ (by simp) rfl)) (hcl 5 _ rfl h ⟨4, .data⟩ (by simp) rfl)) (hcl 7 _ rfl h ⟨5, .data⟩ (by simp) rfl)), fun _ _ => ⟨h9, h6.2.trans F9 h6.2.size⟩⟩
        | 4, ho =>
          cases Option.some.inj ho
          have ev : a.tmps[16]? = some (.agg #[.int .i64 (kdW W i'), .string (strOfNums (txW W i')), .int .i64 (psW W i' : Int)]) := known_at ha hsz hlen hl 3 (by decide) (hd ⟨3, .data⟩ (by simp) rfl)
          refine wp_value (w' := w') (v := (.string (strOfNums (txW W i')))) (by simp [execOp, ev, go_sem, fld1]) ?_
          exact ⟨_, by rw [ha]; exact putAll_put A 13 4 l _ (by omega) (by omega), by rw [List.length_set]; exact hlen, set_known hlen (by decide) hl, hE.imp_left .inr, hN.imp_left .inr, fun h => hQ (h.resolve_left (by decide)), fun h h' => hL (h.resolve_left (by decide)) (fun k => h' (.inr k))⟩
        | 5, ho =>
          cases Option.some.inj ho
          have ev : a.tmps[14]? = some (.string (strOfNums x.text)) := known_at ha hsz hlen hl 1 (by decide) (hd ⟨1, .data⟩ (by simp) rfl)
          have ev' : a.tmps[17]? = some ((.string (strOfNums (txW W i')))) := known_at ha hsz hlen hl 4 (by decide) (hd ⟨4, .data⟩ (by simp) rfl)
          refine wp_value (w' := w') (v := (.string (strOfNums x.text ++ strOfNums (txW W i')))) (by simp [execOp, ev, ev', go_sem, hszT]) ?_
          exact ⟨_, by rw [ha]; exact putAll_put A 13 5 l _ (by omega) (by omega), by rw [List.length_set]; exact hlen, set_known hlen (by decide) hl, hE.imp_left .inr, hN.imp_left .inr, fun h => hQ (h.resolve_left (by decide)), fun h h' => hL (h.resolve_left (by decide)) (fun k => h' (.inr k))⟩
        | 6, ho =>
          cases Option.some.inj ho
          have ev : a.tmps[4]? = some (.pointer (some ⟨q4, 0, none⟩)) := by rw [ha, putAll_low A 13 4 l (by omega) (by decide)]; exact s4
          refine wp_value (w' := w') (v := .pointer (some ⟨q4, 1, none⟩)) (by simp [execOp, ev, go_sem]) ?_
          exact ⟨_, by rw [ha]; exact putAll_put A 13 6 l _ (by omega) (by omega), by rw [List.length_set]; exact hlen, set_known hlen (by decide) hl, hE.imp_left .inr, hN.imp_left .inr, fun h => hQ (h.resolve_left (by decide)), fun h h' => hL (h.resolve_left (by decide)) (fun k => h' (.inr k))⟩
        | 7, ho =>
          cases Option.some.inj ho
          have ev : a.tmps[19]? = some (.pointer (some ⟨q4, 1, none⟩)) := known_at ha hsz hlen hl 6 (by decide) (hd ⟨6, .data⟩ (by simp) rfl)
          have ev' : a.tmps[18]? = some ((.string (strOfNums x.text ++ strOfNums (txW W i')))) := known_at ha hsz hlen hl 5 (by decide) (hd ⟨5, .data⟩ (by simp) rfl)
          have e1 := hE.resolve_left hn
          obtain ⟨z0, z1, z2, z3, z4, z5, zf⟩ := nd_cells e1
          have zf1 := zf 1
          have L := hL (hcl 4 _ rfl (hcl 5 _ rfl (hd ⟨5, .data⟩ (by simp) rfl) ⟨4, .data⟩ (by simp) rfl) ⟨3, .data⟩ (by simp) rfl) hn
          refine wp_skipR (w' := w'.setCell ⟨q4, 1, none⟩ (.string (strOfNums x.text ++ strOfNums (txW W i')))) (by simp [execOp, Act.eval, ev, ev', go_sem, z1, zf1]) ?_
          exact ⟨l, ha, hlen, fun j hj h => hl j hj (h.resolve_left (by omega)), .inl (.inl rfl), .inl (.inr (hcl 4 _ rfl (hcl 5 _ rfl (hd ⟨5, .data⟩ (by simp) rfl) ⟨4, .data⟩ (by simp) rfl) ⟨3, .data⟩ (by simp) rfl)), fun _ => ⟨w', L, rfl, e1⟩, fun _ h' => absurd (.inl rfl) h'⟩
        | i + 8, ho => simp at ho
      case done =>
        rintro D a w' ⟨l, ha, hlen, hl, hE, hN, hQ, hL⟩ hall
        obtain ⟨v0, v1, v2, v3, v4, v5, v6, rfl⟩ := keyV_list hlen
        obtain ⟨w9, ⟨L9, F9⟩, ew, E9⟩ := hQ (hall 7 (by decide))
        subst hA
        have hfr : a = _ := ha
        rw [hfr]
        clear hfr ha
        simp only [putAll, List.take_succ_cons, List.take_zero, List.drop_succ_cons, List.drop_zero, List.cons_append, List.nil_append, List.length_cons, List.length_nil]
        clear hl hE hN hL hQ hall
        have K9 := K.fr F9 hqp4 hAp
        have X9 := X.go F9 L9
        have hs69 : w6.heap.size ≤ w9.heap.size := F9.size
        have S9 := St.cell w9 q4 1 (.string (strOfNums x.text ++ strOfNums (txW W i')))
        replace K9 := K9.say (by omega) (txW W i')
        replace X9 := X9.st S9 (by omega)
        have hs9' := S9.size
        rw [← ew] at K9 X9 S9 hs9'
        have hsz' : w6.heap.size ≤ w'.heap.size := by omega
        clear ew S9 E9 F9 L9 hs9'
        go_wp2_with fail
        refine (H (i' + 1) (by omega) (by omega) w' p X9.rd).mono ?_
        rintro e w7 ⟨r, hr, ha, F7⟩
        have hs67 : w6.heap.size ≤ w7.heap.size := Nat.le_trans hsz' F7.size
        have hsp7 : w'.heap.size ≤ w7.heap.size := F7.size
        obtain ⟨oa, oc, pa, pc, Ek, sn, rk⟩ := K9
        have hko : ∀ b, (Value.slice pa (x.say (txW W i')).kids.length pc).ownBlock = some b → (w2.heap.size ≤ b ∧ b ≠ q4) ∧ b < w'.heap.size := fun b hb => rk.own hb
        replace Ek := (F7.block _ (lt_of_block Ek) hqp4).trans Ek
        replace sn := sn.imp (fun b hb hA => ⟨hA, F7.block b hb (fun e => hAp (e ▸ hA.1))⟩)
        replace rk := rk.keep (fun b hA hb => F7.block b hb (fun e => hAp (e ▸ hA)))
        have hxk : (x.say (txW W i')).kids.length ≤ i' := hxl
        clear hxl
        generalize hxs : x.say (txW W i') = xs at *
        cases r with
        | er j c =>
          obtain ⟨v, y, d', rfl, hv, h7⟩ := ha
          obtain ⟨na, nc, ka, kc, _, rfl, _⟩ := NdV.parts hv
          have X7 := X9.go F7 h7
          go_wp2_with (refine as25 _ rfl rfl rfl 5 rfl _ rfl rfl _ _ _ _ _ _ _ _ _ _ (fun _ => rfl) (fun _ => rfl) ?_)
          intro q5 w8 E8 _ B8
          replace X7 := X7.bel B8
          obtain ⟨u0, u1, u2, u3, u4, u5, Eq⟩ := X7.z
          go_wp2_with (refine st25 _ rfl _ _ rfl rfl _ _ _ _ _ _ _ _ _ _ _ rfl rfl Eq ?_)
          intro wz Ez Sz
          go_wp2
          exact bodyPost_ret (results_cellb (a := 2) (t := 36) (b := 3) (by rfl) (by rfl) (by rfl) (load25 Ez)) (by rfl) ⟨_, hR.out _ (R_keys_er hr hk), ⟨_, rfl, (X7.fin Sz).2⟩, (X7.fin Sz).1⟩
        | ok y j =>
          obtain ⟨v, rfl, hv, h7⟩ := ha
          have hj : i' + 1 + 1 ≤ j ∧ j ≤ E := hr.adv S.ends (by show i' + 1 + 0 ≤ E; omega)
          obtain ⟨na, nc, ka, kc, _, rfl, _⟩ := NdV.parts hv
          have X7 := X9.go F7 h7
          clear X9 F7 h7
          go_wp2_with (refine as25 _ rfl rfl rfl 5 rfl _ rfl rfl _ _ _ _ _ _ _ _ _ _ (fun _ => rfl) (fun _ => rfl) ?_)
          intro q5 w8 E8 _ B8
          replace X7 := X7.bel B8
          replace Ek := (B8.block _ (lt_of_block Ek)).trans Ek
          replace sn := sn.imp (fun b hb hA => ⟨hA, B8.block b hb⟩)
          replace rk := rk.keep (fun b _ hb => B8.block b hb)
          replace hv := hv.bel B8
          have hs78 : w7.heap.size ≤ w8.heap.size := B8.size
          clear B8
          obtain ⟨y0, y1, y2, y3, y4, y5, _⟩ := nd_cells Ek
          obtain ⟨z0, z1, z2, z3, z4, z5, _⟩ := nd_cells E8
          go_wp2_with (refine bs25 _ rfl _ rfl _ _ _ _ _ _ _ _ _ _ rfl ?_)
          intro g w9 E9 hg B9
          replace Ek := (B9.block _ (lt_of_block Ek)).trans Ek
          have hs89 : w8.heap.size ≤ w9.heap.size := B9.size
          replace sn := sn.imp (fun b hb hA => ⟨hA, B9.block b hb⟩)
          replace rk := rk.keep (fun b _ hb => B9.block b hb)
          replace hv := hv.bel B9
          replace X7 := X7.bel B9
          clear y0 y1 y2 y3 y4 y5 z0 z1 z2 z3 z4 z5 B9 E8
          go_wp2_with (at_builtin; refine ap25p _ rfl _ _ rfl rfl rk rfl E9 hv ?hA ?hn ?hb ?_)
          case hA =>
            intro b hb hh
            refine ⟨⟨by omega, by omega⟩, fun g' hg' => ?_⟩
            have := hko g' hg'
            omega
          case hn => have := S.small; omega
          case hb => intro b hb; exact ⟨by omega, by omega⟩
          intro va vc w10 R10 K10 pl10
          obtain ⟨K11, S11⟩ := KBox.put Ek sn R10 K10 pl10 (by omega) (fun e => by have := hko _ e; omega)
          replace X7 := (X7.kp K10 (fun g' hg' => by have := hko g' hg'; omega)).st S11 (by omega)
          have hs10 : w9.heap.size ≤ w10.heap.size := K10.size
          have hs11 := S11.size
          obtain ⟨y0, y1, y2, y3, y4, y5, zf⟩ := nd_cells ((K10.block q4 (lt_of_block Ek) (fun e => by have := hko _ e; omega)).trans Ek)
          have zf5 := zf 5
          clear S11 K10 R10 pl10 sn rk hv E9
          go_wp2
          go_roundw
          case rel => exact ⟨j, xs.kid y, K11, X7, by omega, hj.2, by omega, by simp only [Nd.kid, Nd.kids, List.length_append, List.length_singleton]; show xs.kids.length + 1 ≤ j; omega, by subst hxs; exact ⟨hxn.out.1, by have := Nat.le_trans hTx (Nat.mul_le_mul_right 5000 (show i' + 1 ≤ j by omega)); simpa [Nd.kid, Nd.say, Nd.text] using this⟩, fun r hr' => hR.out r (R_keys_go hr (by rw [hxs]; exact hr') hk)⟩
          case measure => rw [X7.rd.atOf, hat]; omega

    · rw [show (kdW W i' == 2) = false by simp [hk]]
      have hN := K.nd (by rw [hxn.out.1]; exact Nat.zero_le _) (by have := S.small; omega) (by have := hxn.out.2; have := S.small; omega)
      obtain ⟨na, nc, ka, kc, Ek, hv⟩ := hN
      obtain ⟨y0, y1, y2, y3, y4, y5, _⟩ := nd_cells Ek
      obtain ⟨u0, u1, u2, u3', u4, u5', Eq⟩ := X.z
      go_wp2_with (refine st25 _ rfl _ _ rfl rfl _ _ _ _ _ _ _ _ _ _ _ rfl rfl Eq ?_)
      intro wz Ez Sz
      go_wp2
      exact bodyPost_ret (results_cellb (a := 2) (t := 36) (b := 3) (by rfl) (by rfl) (by rfl) (load25 Ez)) (by rfl) ⟨_, hR.out _ (R_keys_end hk), ⟨_, rfl, NdV.imp (fun b _ hA => ⟨by omega, Sz.block b (by omega)⟩) _ _ hv, by have := S.small; omega, (X.fin Sz).2⟩, (X.fin Sz).1⟩
end Go.Proofs.Ytoghhjljmhdioaa
