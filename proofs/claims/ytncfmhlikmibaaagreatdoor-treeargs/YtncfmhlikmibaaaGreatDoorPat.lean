/- pattern. -/
import Derived.Test.YtncfmhlikmibaaaGreatDoorArg
namespace Go.Proofs.YtncfmhlikmibaaaGreatDoor
open Go.RowKit
set_option maxRecDepth 100000
theorem MBox.say {w : World} {A : Nat → Prop} {q : Nat} {x : Nd} (h : MBox w A q x) (hA : ¬ A q) (t : List Int) : MBox (w.setCell ⟨q, 1, none⟩ (.string (strOfNums x.text ++ strOfNums t))) A q (x.say t) := by
  obtain ⟨na, nc, E, o, hoA⟩ := h.ex
  have S := St.cell w q 1 (.string (strOfNums x.text ++ strOfNums t))
  refine ⟨h.kids, na, nc, ?_, own_keep o (fun g hg _ => S.block g (fun e => hA (e ▸ hoA g hg))), hoA⟩
  rw [heap_setCell_same w q 1 _ _ _ E, app_strR]
  simp [Nd.say, Nd.kind, Nd.text, Nd.pos, Nd.n, Nd.names]
theorem MBox.said {w : World} {A : Nat → Prop} {q : Nat} {x : Nd} (h : MBox w A q x) (hA : ¬ A q) (h0 : x.text = []) (t : List Int) : MBox (w.setCell ⟨q, 1, none⟩ (.string (strOfNums t))) A q (x.say t) := by
  have := h.say hA t
  rw [h0, app_strR] at this
  exact this
/-- What the operations yield. -/
def patV (x : Nd) (p q4 i' : Nat) (W : List Tk) (j : Nat) : Value :=
  ([.pointer (some ⟨q4, 0, none⟩),
    .pointer (some ⟨q4, 0, none⟩),
    .pointer (some ⟨q4, 1, none⟩),
    .string (strOfNums x.text),
    .pointer (some ⟨p, 0, none⟩),
    .agg #[.int .i64 (kdW W i'), .string (strOfNums (txW W i')), .int .i64 (psW W i' : Int)],
    (.string (strOfNums (txW W i'))),
    (.string (strOfNums x.text ++ strOfNums (txW W i'))),
    .pointer (some ⟨q4, 0, none⟩),
    .pointer (some ⟨q4, 1, none⟩)] : List Value).getD j undef
theorem patV_list {l : List Value} (hh : l.length = 10) : ∃ v0 v1 v2 v3 v4 v5 v6 v7 v8 v9, l = [v0, v1, v2, v3, v4, v5, v6, v7, v8, v9] := by
  obtain ⟨v0, t0, rfl, h0⟩ := cons_of hh
  obtain ⟨v1, t1, rfl, h1⟩ := cons_of h0
  obtain ⟨v2, t2, rfl, h2⟩ := cons_of h1
  obtain ⟨v3, t3, rfl, h3⟩ := cons_of h2
  obtain ⟨v4, t4, rfl, h4⟩ := cons_of h3
  obtain ⟨v5, t5, rfl, h5⟩ := cons_of h4
  obtain ⟨v6, t6, rfl, h6⟩ := cons_of h5
  obtain ⟨v7, t7, rfl, h7⟩ := cons_of h6
  obtain ⟨v8, t8, rfl, h8⟩ := cons_of h7
  obtain ⟨v9, t9, rfl, h9⟩ := cons_of h8
  obtain rfl := List.eq_nil_of_length_eq_zero h9
  exact ⟨_, _, _, _, _, _, _, _, _, _, rfl⟩
set_option maxHeartbeats 4000000 in
theorem pattern_con {W : List Tk} {E : Nat} (S : Src W E) {n0 d : Nat} (hi : n0 ≤ E) {w : World} {p q4 B : Nat} {Z : Nat → Prop} {x0 : Nd} (G : Gd p B q4 Z w) (M : MBox w Z q4 x0) (h1 : x0.names.length ≤ n0) (h2 : x0.n ≤ n0) (h0 : x0.text = []) (h : Rdw w p W n0 (d : Int) 20) :
    Calls Tryz.prog 25 #[.pointer (some ⟨p, 0, none⟩), .pointer (some ⟨q4, 0, none⟩)] w fun e w' => ∃ r, Reads W (.pat n0 d x0) r ∧ AnsM Z p q4 W d e w' r ∧ Fr p B w w' := by
  have hqp4 : q4 ≠ p := by have := G.hp; have := G.hq; omega
  have hAp : ¬ Z p := fun e => by have := G.lo p e; have := G.hp; omega
  have hE5 := S.small
  have f0 := fld0
  have f1 := fld1
  go_enter Tryz.func25, Tryz.ntmps25
  go_wp2_with fail
  refine (wordR_any h (S.lt hi)).mono ?_
  rintro e w1 ⟨rfl, B1⟩
  replace M := M.bel B1
  replace h := h.fr B1
  have F := (Fr.of_below (p := p) B1).low G.hB
  have G1 := G.up B1.size
  clear B1
  by_cases hk1 : kdW W n0 = 1
  · have hlt : n0 < E := S.ends.lt (by rw [hk1]; decide)
    rw [hk1]
    go_wp2_with fail
    refine (next_any h (S.lt hi)).mono ?_
    rintro e w2 ⟨rfl, hr2, F2⟩
    have M2 := M.fr F2 hqp4 hAp
    obtain ⟨na, nc, Ek, _⟩ := M2.ex
    obtain ⟨z0, z1, z2, z3, z4, z5, zf⟩ := nd_cells Ek
    have zf1 := zf 1
    have S2 := St.cell w2 q4 1 (.string (strOfNums (txW W n0)))
    have M3 := M2.said G.nq h0 (txW W n0)
    have hx3 := S.txt n0
    go_wp2
    refine bodyPost_ret (v := .bool true) (by simp [results, go_sem]) rfl ⟨_, R_pat_name hk1, ⟨rfl, M3, hr2.st S2 (by have := G.hp; have := G.hq; omega), by show x0.names.length ≤ n0 + 1; omega, by show x0.n ≤ n0 + 1; omega, by show (x0.text ++ txW W n0).length ≤ _; rw [h0]; simp; omega⟩, (F.trans (F2.low G1.hB) (Nat.le_refl _)).trans (Fr.of_below (S2.below G.hq)) (Nat.le_refl _)⟩
  · by_cases hk3 : kdW W n0 = 3
    · have hlt : n0 < E := S.ends.lt (by rw [hk3]; decide)
      rw [hk3]
      go_wp2_with fail
      refine (next_any h (S.lt hi)).mono ?_
      rintro e w2 ⟨rfl, hr2, F2⟩
      have M2 := M.fr F2 hqp4 hAp
      obtain ⟨na, nc, Ek, _⟩ := M2.ex
      obtain ⟨z0, z1, z2, z3, z4, z5, zf⟩ := nd_cells Ek
      have zf1 := zf 1
      have S2 := St.cell w2 q4 1 (.string (strOfNums (txW W n0)))
      have M3 := M2.said G.nq h0 (txW W n0)
      have hx3 := S.txt n0
      have F3 := (F.trans (F2.low G1.hB) (Nat.le_refl _)).trans (Fr.of_below (S2.below G.hq)) (Nat.le_refl _)
      have hr3 := hr2.st S2 (by have := G.hp; have := G.hq; omega)
      have G3 := G.up F3.size
      go_wp2_with fail
      clear z0 z1 z2 z3 z4 z5 zf zf1 S2 Ek
      generalize w2.setCell ⟨q4, 1, none⟩ (.string (strOfNums (txW W n0))) = w3 at *
      by_cases hk1' : kdW W (n0 + 1) = 1
      · have hlt1 : n0 + 1 < E := S.ends.lt (by rw [hk1']; decide)
        refine (argument_yes S (by omega) hk1' G3 M3 (by show x0.names.length ≤ 90000; omega) (by show x0.n ≤ 90000; omega) hr3).mono ?_
        rintro e w4 ⟨rfl, M4, hr4, F4⟩
        go_wp2
        refine bodyPost_ret (v := .bool true) (by simp [results, go_sem]) rfl ⟨_, R_pat_sign hk3 hk1', ⟨rfl, M4, hr4, by show (x0.names ++ [_]).length ≤ _; rw [List.length_append, List.length_singleton]; omega, by show x0.n + 1 ≤ n0 + 2; omega, by show (x0.text ++ txW W n0).length ≤ _; rw [h0]; simp; omega⟩, F3.trans F4 (Nat.le_refl _)⟩
      · refine (argument_no S (by omega) hk1' hr3).mono ?_
        rintro e w4 ⟨rfl, B4⟩
        go_wp2
        refine bodyPost_ret (v := .bool false) (by simp [results, go_sem]) rfl ⟨_, R_pat_signer hk3 hk1', ⟨rfl, _, hr3.fr B4⟩, F3.trans ((Fr.of_below B4).low G3.hB) (Nat.le_refl _)⟩
    · by_cases hk2 : kdW W n0 = 2
      · rw [hk2]
        go_wp2_with fail
        go_loopw [] (fun wr => ∃ (i' : Nat) (x' : Nd), MBox wr Z q4 x' ∧ Rdw wr p W i' (d : Int) 20 ∧ Fr p B w wr ∧ n0 ≤ i' ∧ i' ≤ E ∧ x'.names.length ≤ i' ∧ x'.n ≤ i' ∧ x'.text.length ≤ i' * 5000 ∧ Hid (∀ r, Reads W (.keyP i' d x') r → Reads W (.keyP n0 d x0) r)) (fun wr => E - atOf wr p)
        case atStart => exact ⟨n0, x0, M, h, F, Nat.le_refl _, hi, h1, h2, by rw [h0]; exact Nat.zero_le _, fun r hr => hr⟩
        case round =>
          clear M h F h1 h2 G1 h0
          obtain ⟨i', x, M, h, F, hii, hi', h1, h2, h3, hR⟩ := hrel
          have hat : atOf wr p = i' := h.atOf
          have hG1 := G.up F.size
          go_wp2_with fail
          refine (is_any h (S.lt hi') 2).mono ?_
          rintro e w6 ⟨rfl, B6⟩
          replace M := M.bel B6
          replace h := h.fr B6
          replace F := F.trans ((Fr.of_below B6).low hG1.hB) (Nat.le_refl _)
          clear B6 hG1
          by_cases hk : kdW W i' = 2
          · rw [show (kdW W i' == 2) = true by simp [hk]]
            have hlt : i' < E := S.ends.lt (by rw [hk]; decide)
            have hszT : (strOfNums x.text).size + (strOfNums (txW W i')).size ≤ 9223372036854775807 := by rw [strOfNums_size, strOfNums_size]; have := S.txt i'; omega
            obtain ⟨oa, oc, Ek, _⟩ := M.ex
            have Ekd : w6.drew.heap[q4]? = _ := Ek
            have h6d : Rdw w6.drew p W i' (d : Int) 20 ∧ Fr p w6.heap.size w6 w6.drew := ⟨h.same (fun _ _ => rfl) rfl, Fr.of_below (Below.refl _ _).drew⟩
            go_wp2_with fail
            refine abstract_act fun A hA => ?_
            have hsz : A.tmps.size = 45 := by rw [hA]; rfl
            have s0 : A.tmps[0]? = some (.pointer (some ⟨p, 0, none⟩)) := by rw [hA]; rfl
            have s1 : A.tmps[1]? = some (.pointer (some ⟨q4, 0, none⟩)) := by rw [hA]; rfl
            refine wp_region_inv' (fun A D a w' => ∃ (l : List Value), a = putAll A 31 l ∧ l.length = 10 ∧ (∀ j, j < 10 → D j → l[j]? = some (patV x p q4 i' W j)) ∧ (D 10 ∨ w'.heap[q4]? = some (.cells #[.int .i64 x.kind, .string (strOfNums x.text), .int .i64 (x.pos : Int), .int .i64 (x.n : Int), .slice oa x.names.length oc, .slice none 0 0] 25)) ∧ (D 5 ∨ (Rdw w' p W i' (d : Int) 20 ∧ Fr p w6.heap.size w6 w')) ∧ (D 10 → ∃ w9, (Rdw w9 p W (i' + 1) (d : Int) 20 ∧ Fr p w6.heap.size w6 w9) ∧ w' = w9.setCell ⟨q4, 1, none⟩ (.string (strOfNums x.text ++ strOfNums (txW W i'))) ∧ w9.heap[q4]? = some (.cells #[.int .i64 x.kind, .string (strOfNums x.text), .int .i64 (x.pos : Int), .int .i64 (x.n : Int), .slice oa x.names.length oc, .slice none 0 0] 25)) ∧ (D 5 → ¬ D 10 → (Rdw w' p W (i' + 1) (d : Int) 20 ∧ Fr p w6.heap.size w6 w'))) (by kernel_rfl) (by kernel_rfl) ?mono ?start ?step ?done
            case mono =>
              rintro D D' a w' hD ⟨l, ha, hlen, hl, hE, hN, hQ, hL⟩
              exact ⟨l, ha, hlen, fun j hj h => hl j hj ((hD j).2 h), hE.imp_left (hD 10).1, hN.imp_left (hD 5).1, fun h => hQ ((hD 10).2 h), fun h h' => hL ((hD 5).2 h) (fun k => h' ((hD 10).1 k))⟩
            case start => exact ⟨_, (putAll_start A 31 10 (by omega)).1, (putAll_start A 31 10 (by omega)).2, fun _ _ h => h.elim, .inr (Ekd), .inr (h6d), fun h => h.elim, fun h _ => h.elim⟩
            case step =>
              clear hA
              intro i o ho D a w' hI hn hcl hd
              obtain ⟨l, ha, hlen, hl, hE, hN, hQ, hL⟩ := hI
              match i, ho with
              | 0, ho =>
                cases Option.some.inj ho
                have ev : a.tmps[1]? = some (.pointer (some ⟨q4, 0, none⟩)) := by rw [ha, putAll_low A 31 1 l (by omega) (by decide)]; exact s1
                refine wp_value (w' := w') (v := .pointer (some ⟨q4, 0, none⟩)) (by simp [execOp, ev, go_sem]) ?_
                exact ⟨_, by rw [ha]; exact putAll_put A 31 0 l _ (by omega) (by omega), by rw [List.length_set]; exact hlen, set_known hlen (by decide) hl, hE.imp_left .inr, hN.imp_left .inr, fun h => hQ (h.resolve_left (by decide)), fun h h' => hL (h.resolve_left (by decide)) (fun k => h' (.inr k))⟩
              | 1, ho =>
                cases Option.some.inj ho
                have ev : a.tmps[31]? = some (.pointer (some ⟨q4, 0, none⟩)) := known_at ha hsz hlen hl 0 (by decide) (hd ⟨0, .data⟩ (by simp) rfl)
                refine wp_value (w' := w') (v := .pointer (some ⟨q4, 0, none⟩)) (by simp [execOp, ev, go_sem]) ?_
                exact ⟨_, by rw [ha]; exact putAll_put A 31 1 l _ (by omega) (by omega), by rw [List.length_set]; exact hlen, set_known hlen (by decide) hl, hE.imp_left .inr, hN.imp_left .inr, fun h => hQ (h.resolve_left (by decide)), fun h h' => hL (h.resolve_left (by decide)) (fun k => h' (.inr k))⟩
              | 2, ho =>
                cases Option.some.inj ho
                have ev : a.tmps[32]? = some (.pointer (some ⟨q4, 0, none⟩)) := known_at ha hsz hlen hl 1 (by decide) (hd ⟨1, .data⟩ (by simp) rfl)
                refine wp_value (w' := w') (v := .pointer (some ⟨q4, 1, none⟩)) (by simp [execOp, ev, go_sem]) ?_
                exact ⟨_, by rw [ha]; exact putAll_put A 31 2 l _ (by omega) (by omega), by rw [List.length_set]; exact hlen, set_known hlen (by decide) hl, hE.imp_left .inr, hN.imp_left .inr, fun h => hQ (h.resolve_left (by decide)), fun h h' => hL (h.resolve_left (by decide)) (fun k => h' (.inr k))⟩
              | 3, ho =>
                cases Option.some.inj ho
                have ev : a.tmps[33]? = some (.pointer (some ⟨q4, 1, none⟩)) := known_at ha hsz hlen hl 2 (by decide) (hd ⟨2, .data⟩ (by simp) rfl)
                have e1 := hE.resolve_left (fun h => (fun h => hn (hcl 7 _ rfl h ⟨3, .data⟩ (by simp) rfl)) (hcl 10 _ rfl h ⟨7, .data⟩ (by simp) rfl))
                obtain ⟨z0, z1, z2, z3, z4, z5, _⟩ := nd_cells e1
                refine wp_value (w' := w') (v := .string (strOfNums x.text)) (by simp [execOp, ev, go_sem, z1]) ?_
                exact ⟨_, by rw [ha]; exact putAll_put A 31 3 l _ (by omega) (by omega), by rw [List.length_set]; exact hlen, set_known hlen (by decide) hl, hE.imp_left .inr, hN.imp_left .inr, fun h => hQ (h.resolve_left (by decide)), fun h h' => hL (h.resolve_left (by decide)) (fun k => h' (.inr k))⟩
              | 4, ho =>
                cases Option.some.inj ho
                have ev : a.tmps[0]? = some (.pointer (some ⟨p, 0, none⟩)) := by rw [ha, putAll_low A 31 0 l (by omega) (by decide)]; exact s0
                refine wp_value (w' := w') (v := .pointer (some ⟨p, 0, none⟩)) (by simp [execOp, ev, go_sem]) ?_
                exact ⟨_, by rw [ha]; exact putAll_put A 31 4 l _ (by omega) (by omega), by rw [List.length_set]; exact hlen, set_known hlen (by decide) hl, hE.imp_left .inr, hN.imp_left .inr, fun h => hQ (h.resolve_left (by decide)), fun h h' => hL (h.resolve_left (by decide)) (fun k => h' (.inr k))⟩
              | 5, ho =>
                cases Option.some.inj ho
                have ev : a.tmps[35]? = some (.pointer (some ⟨p, 0, none⟩)) := known_at ha hsz hlen hl 4 (by decide) (hd ⟨4, .data⟩ (by simp) rfl)
                have h6 := hN.resolve_left hn
                refine wp_enter (f := 39) (args := #[.pointer (some ⟨p, 0, none⟩)]) (by simp [execOp, ev, go_sem]) ?_
                refine (next_any h6.1 (S.lt hi')).mono ?_
                rintro e w6 ⟨rfl, h9, F9⟩
                refine ⟨_, rfl, ?_⟩
                exact ⟨_, by rw [ha]; exact putAll_put A 31 5 l _ (by omega) (by omega), by rw [List.length_set]; exact hlen, set_known hlen (by decide) hl, hE.imp .inr (fun h => (F9.block q4 (lt_of_block h) hqp4).trans h), .inl (.inl rfl), fun h => absurd (h.resolve_left (by decide)) (fun h => (fun h => (fun h => hn (hcl 6 _ rfl h ⟨5, .data⟩ (by simp) rfl)) (hcl 7 _ rfl h ⟨6, .data⟩ (by simp) rfl)) (hcl 10 _ rfl h ⟨7, .data⟩ (by simp) rfl)), fun _ _ => ⟨h9, h6.2.trans F9 h6.2.size⟩⟩
              | 6, ho =>
                cases Option.some.inj ho
                have ev : a.tmps[36]? = some (.agg #[.int .i64 (kdW W i'), .string (strOfNums (txW W i')), .int .i64 (psW W i' : Int)]) := known_at ha hsz hlen hl 5 (by decide) (hd ⟨5, .data⟩ (by simp) rfl)
                refine wp_value (w' := w') (v := (.string (strOfNums (txW W i')))) (by simp [execOp, ev, go_sem, fld1]) ?_
                exact ⟨_, by rw [ha]; exact putAll_put A 31 6 l _ (by omega) (by omega), by rw [List.length_set]; exact hlen, set_known hlen (by decide) hl, hE.imp_left .inr, hN.imp_left .inr, fun h => hQ (h.resolve_left (by decide)), fun h h' => hL (h.resolve_left (by decide)) (fun k => h' (.inr k))⟩
              | 7, ho =>
                cases Option.some.inj ho
                have ev : a.tmps[34]? = some (.string (strOfNums x.text)) := known_at ha hsz hlen hl 3 (by decide) (hd ⟨3, .data⟩ (by simp) rfl)
                have ev' : a.tmps[37]? = some ((.string (strOfNums (txW W i')))) := known_at ha hsz hlen hl 6 (by decide) (hd ⟨6, .data⟩ (by simp) rfl)
                refine wp_value (w' := w') (v := (.string (strOfNums x.text ++ strOfNums (txW W i')))) (by simp [execOp, ev, ev', go_sem, hszT]) ?_
                exact ⟨_, by rw [ha]; exact putAll_put A 31 7 l _ (by omega) (by omega), by rw [List.length_set]; exact hlen, set_known hlen (by decide) hl, hE.imp_left .inr, hN.imp_left .inr, fun h => hQ (h.resolve_left (by decide)), fun h h' => hL (h.resolve_left (by decide)) (fun k => h' (.inr k))⟩
              | 8, ho =>
                cases Option.some.inj ho
                have ev : a.tmps[31]? = some (.pointer (some ⟨q4, 0, none⟩)) := known_at ha hsz hlen hl 0 (by decide) (hd ⟨0, .data⟩ (by simp) rfl)
                refine wp_value (w' := w') (v := .pointer (some ⟨q4, 0, none⟩)) (by simp [execOp, ev, go_sem]) ?_
                exact ⟨_, by rw [ha]; exact putAll_put A 31 8 l _ (by omega) (by omega), by rw [List.length_set]; exact hlen, set_known hlen (by decide) hl, hE.imp_left .inr, hN.imp_left .inr, fun h => hQ (h.resolve_left (by decide)), fun h h' => hL (h.resolve_left (by decide)) (fun k => h' (.inr k))⟩
              | 9, ho =>
                cases Option.some.inj ho
                have ev : a.tmps[39]? = some (.pointer (some ⟨q4, 0, none⟩)) := known_at ha hsz hlen hl 8 (by decide) (hd ⟨8, .data⟩ (by simp) rfl)
                refine wp_value (w' := w') (v := .pointer (some ⟨q4, 1, none⟩)) (by simp [execOp, ev, go_sem]) ?_
                exact ⟨_, by rw [ha]; exact putAll_put A 31 9 l _ (by omega) (by omega), by rw [List.length_set]; exact hlen, set_known hlen (by decide) hl, hE.imp_left .inr, hN.imp_left .inr, fun h => hQ (h.resolve_left (by decide)), fun h h' => hL (h.resolve_left (by decide)) (fun k => h' (.inr k))⟩
              | 10, ho =>
                cases Option.some.inj ho
                have ev : a.tmps[40]? = some (.pointer (some ⟨q4, 1, none⟩)) := known_at ha hsz hlen hl 9 (by decide) (hd ⟨9, .data⟩ (by simp) rfl)
                have ev' : a.tmps[38]? = some ((.string (strOfNums x.text ++ strOfNums (txW W i')))) := known_at ha hsz hlen hl 7 (by decide) (hd ⟨7, .data⟩ (by simp) rfl)
                have e1 := hE.resolve_left hn
                obtain ⟨z0, z1, z2, z3, z4, z5, zf⟩ := nd_cells e1
                have zf1 := zf 1
                have L := hL (hcl 6 _ rfl (hcl 7 _ rfl (hd ⟨7, .data⟩ (by simp) rfl) ⟨6, .data⟩ (by simp) rfl) ⟨5, .data⟩ (by simp) rfl) hn
                refine wp_skipR (w' := w'.setCell ⟨q4, 1, none⟩ (.string (strOfNums x.text ++ strOfNums (txW W i')))) (by simp [execOp, Act.eval, ev, ev', go_sem, z1, zf1]) ?_
                exact ⟨l, ha, hlen, fun j hj h => hl j hj (h.resolve_left (by omega)), .inl (.inl rfl), .inl (.inr (hcl 6 _ rfl (hcl 7 _ rfl (hd ⟨7, .data⟩ (by simp) rfl) ⟨6, .data⟩ (by simp) rfl) ⟨5, .data⟩ (by simp) rfl)), fun _ => ⟨w', L, rfl, e1⟩, fun _ h' => absurd (.inl rfl) h'⟩
              | i + 11, ho => simp at ho
            case done =>
              rintro D a w' ⟨l, ha, hlen, hl, hE, hN, hQ, hL⟩ hall
              obtain ⟨v0, v1, v2, v3, v4, v5, v6, v7, v8, v9, rfl⟩ := patV_list hlen
              obtain ⟨w9, ⟨L9, F9⟩, ew, E9⟩ := hQ (hall 10 (by decide))
              subst hA
              have hfr : a = _ := ha
              rw [hfr]
              clear hfr ha
              simp only [putAll, List.take_succ_cons, List.take_zero, List.drop_succ_cons, List.drop_zero, List.cons_append, List.nil_append, List.length_cons, List.length_nil]
              clear hl hE hN hL hQ hall
              have M9 := M.fr F9 hqp4 hAp
              have S9 := St.cell w9 q4 1 (.string (strOfNums x.text ++ strOfNums (txW W i')))
              have hs9' := S9.size
              have M10 := M9.say G.nq (txW W i')
              have L10 := L9.st S9 (by have := G.hp; have := G.hq; omega)
              have F10 : Fr p B w w' := (F.trans (F9.low (Nat.le_trans G.hB F.size)) (Nat.le_refl _)).trans (Fr.of_below (by rw [ew]; exact S9.below G.hq)) (Nat.le_refl _)
              rw [← ew] at M10 L10 hs9'
              have G10 := G.up F10.size
              clear ew S9 E9 F9 L9 M9 hs9'
              by_cases hk1 : kdW W (i' + 1) = 1
              · have hlt1 : i' + 1 < E := S.ends.lt (by rw [hk1]; decide)
                go_wp2_with fail
                refine (argument_yes S (by omega) hk1 G10 M10 (by show x.names.length ≤ 90000; omega) (by show x.n ≤ 90000; omega) L10).mono ?_
                rintro e w2 ⟨rfl, M2, hr2, F2⟩
                have F02 := F10.trans F2 (Nat.le_refl _)
                go_wp2
                go_roundw
                case rel => exact ⟨i' + 2, _, M2, hr2, F02, by omega, by omega, by show (x.names ++ [_]).length ≤ _; rw [List.length_append, List.length_singleton]; omega, by show x.n + 1 ≤ i' + 2; omega, by show (x.text ++ txW W i').length ≤ _; rw [List.length_append]; have := S.txt i'; omega, fun r hr => hR.out r (R_keyP_go hr hk hk1)⟩
                case measure => rw [hr2.atOf, hat]; omega
              · go_wp2_with fail
                refine (argument_no S (by omega) hk1 L10).mono ?_
                rintro e w2 ⟨rfl, B2⟩
                go_wp2
                go_ret
                exact ⟨_, R_pat_keys (hR.out _ (R_keyP_bad hk hk1)) hk2, ⟨rfl, _, L10.fr B2⟩, F10.trans ((Fr.of_below B2).low G10.hB) (Nat.le_refl _)⟩
          · rw [show (kdW W i' == 2) = false by simp [hk]]
            go_wp2
            refine bodyPost_ret (v := .bool true) (by simp [results, go_sem]) rfl ⟨_, R_pat_keys (hR.out _ (R_keyP_end hk)) hk2, ⟨rfl, M, h, h1, h2, by omega⟩, F⟩
      · have b1 : (kdW W n0 == 1) = false := by simp [hk1]
        have b2 : (kdW W n0 == 2) = false := by simp [hk2]
        have b3 : (kdW W n0 == 3) = false := by simp [hk3]
        go_wp2
        refine bodyPost_ret (v := .bool false) (by simp [results, go_sem]) rfl ⟨_, R_pat_bad hk1 hk2 hk3, ⟨rfl, _, h⟩, F⟩
end Go.Proofs.YtncfmhlikmibaaaGreatDoor
