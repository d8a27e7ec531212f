/- pattern. -/
import Derived.Test.YtoghhjljmhdioaaArg
import Derived.Test.YtoghhjljmhdioaaLxR
import Derived.ScopeJumps
namespace Go.Proofs.Ytoghhjljmhdioaa
open Go.RowKit
set_option maxRecDepth 100000
theorem MBox.say {w : World} {A : Nat → Prop} {q : Nat} {x : Nd} (h : MBox w A q x) (hA : ¬ A q) (t : List Int) : MBox (w.setCell ⟨q, 1, none⟩ (.string (strOfNums x.text ++ strOfNums t))) A q (x.say t) := by
  obtain ⟨na, nc, E, o, hoA⟩ := h.ex
  have S := St.cell w q 1 (.string (strOfNums x.text ++ strOfNums t))
  refine ⟨h.kids, na, nc, ?_, own_keep o (fun g hg _ => S.block g (fun e => hA (e ▸ hoA g hg))), hoA⟩
  rw [heap_setCell_same w q 1 _ _ _ E, app_strR]
  simp [Nd.say, Nd.kind, Nd.text, Nd.pos, Nd.n, Nd.names]
theorem MBox.said {w : World} {A : Nat → Prop} {q : Nat} {x : Nd} (h : MBox w A q x) (hA : ¬ A q) (h0 : x.text = []) (t : List Int) : MBox (w.setCell ⟨q, 1, none⟩ (.string (strOfNums t))) A q (x.say t) := by
  have := h.say hA t
  rw [h0, app_strR] at this
  exact this
/-- What the operations yield. -/
def patV (x : Nd) (p q4 i' : Nat) (W : List Tk) (j : Nat) : Value :=
  ([.pointer (some ⟨q4, 0, none⟩),
    .pointer (some ⟨q4, 0, none⟩),
    .pointer (some ⟨q4, 1, none⟩),
    .string (strOfNums x.text),
    .pointer (some ⟨p, 0, none⟩),
    .agg #[.int .i64 (kdW W i'), .string (strOfNums (txW W i')), .int .i64 (psW W i' : Int)],
    (.string (strOfNums (txW W i'))),
    (.string (strOfNums x.text ++ strOfNums (txW W i'))),
    .pointer (some ⟨q4, 0, none⟩),
    .pointer (some ⟨q4, 1, none⟩)] : List Value).getD j undef
theorem patV_list {l : List Value} (hh : l.length = 10) : ∃ v0 v1 v2 v3 v4 v5 v6 v7 v8 v9, l = [v0, v1, v2, v3, v4, v5, v6, v7, v8, v9] := by
  obtain ⟨v0, t0, rfl, h0⟩ := cons_of hh
  obtain ⟨v1, t1, rfl, h1⟩ := cons_of h0
  obtain ⟨v2, t2, rfl, h2⟩ := cons_of h1
  obtain ⟨v3, t3, rfl, h3⟩ := cons_of h2
  obtain ⟨v4, t4, rfl, h4⟩ := cons_of h3
  obtain ⟨v5, t5, rfl, h5⟩ := cons_of h4
  obtain ⟨v6, t6, rfl, h6⟩ := cons_of h5
  obtain ⟨v7, t7, rfl, h7⟩ := cons_of h6
  obtain ⟨v8, t8, rfl, h8⟩ := cons_of h7
  obtain ⟨v9, t9, rfl, h9⟩ := cons_of h8
  obtain rfl := List.eq_nil_of_length_eq_zero h9
  exact ⟨_, _, _, _, _, _, _, _, _, _, rfl⟩
set_option maxHeartbeats 4000000 in
theorem pattern_con {W : List Tk} {E : Nat} (S : Src W E) {n0 d : Nat} (hi : n0 ≤ E) {w : World} {p q4 B : Nat} {Z : Nat → Prop} {x0 : Nd} (G : Gd p B q4 Z w) (M : MBox w Z q4 x0) (h1 : x0.names.length ≤ n0) (h2 : x0.n ≤ n0) (h0 : x0.text = []) (h : Rdw w p W n0 (d : Int) 20) :
    Calls Try.prog 16 #[.pointer (some ⟨p, 0, none⟩), .pointer (some ⟨q4, 0, none⟩)] w fun e w' => ∃ r, Reads W (.pat n0 d x0) r ∧ AnsM Z p q4 W d e w' r ∧ Fr p B w w' := by
  have hqp4 : q4 ≠ p := by have := G.hp; have := G.hq; omega
  have hAp : ¬ Z p := fun e => by have := G.lo p e; have := G.hp; omega
  have hE5 := S.small
  have f0 := fld0
  have f1 := fld1
  go_enter Try.func16, Try.ntmps16
  go_wp2_with fail
  refine (wordR_any h (S.lt hi)).mono ?_
  rintro e w1 ⟨rfl, B1⟩
  replace M := M.bel B1
  replace h := h.fr B1
  have F := (Fr.of_below (p := p) B1).low G.hB
  have G1 := G.up B1.size
  clear B1
  by_cases hk1 : kdW W n0 = 1
  · have hlt : n0 < E := S.ends.lt (by rw [hk1]; decide)
    rw [hk1]
    go_wp2_with fail
    refine (next_any h (S.lt hi)).mono ?_
    rintro e w2 ⟨rfl, hr2, F2⟩
    have M2 := M.fr F2 hqp4 hAp
    obtain ⟨na, nc, Ek, _⟩ := M2.ex
    obtain ⟨z0, z1, z2, z3, z4, z5, zf⟩ := nd_cells Ek
    have zf1 := zf 1
    have S2 := St.cell w2 q4 1 (.string (strOfNums (txW W n0)))
    have M3 := M2.said G.nq h0 (txW W n0)
    have hx3 := S.txt n0
    go_wp2
    refine bodyPost_ret (v := .bool true) (by simp [results, go_sem]) rfl ⟨_, R_pat_name hk1, ⟨rfl, M3, hr2.st S2 (by have := G.hp; have := G.hq; omega), by show x0.names.length ≤ n0 + 1; omega, by show x0.n ≤ n0 + 1; omega, by show (x0.text ++ txW W n0).length ≤ _; rw [h0]; simp; omega⟩, (F.trans (F2.low G1.hB) (Nat.le_refl _)).trans (Fr.of_below (S2.below G.hq)) (Nat.le_refl _)⟩
  · by_cases hk3 : kdW W n0 = 3
    · have hlt : n0 < E := S.ends.lt (by rw [hk3]; decide)
      rw [hk3]
      go_wp2_with fail
      refine (next_any h (S.lt hi)).mono ?_
      rintro e w2 ⟨rfl, hr2, F2⟩
      have M2 := M.fr F2 hqp4 hAp
      obtain ⟨na, nc, Ek, _⟩ := M2.ex
      obtain ⟨z0, z1, z2, z3, z4, z5, zf⟩ := nd_cells Ek
      have zf1 := zf 1
      have S2 := St.cell w2 q4 1 (.string (strOfNums (txW W n0)))
      have M3 := M2.said G.nq h0 (txW W n0)
      have hx3 := S.txt n0
      have F3 := (F.trans (F2.low G1.hB) (Nat.le_refl _)).trans (Fr.of_below (S2.below G.hq)) (Nat.le_refl _)
      have hr3 := hr2.st S2 (by have := G.hp; have := G.hq; omega)
      have G3 := G.up F3.size
      go_wp2_with fail
      clear z0 z1 z2 z3 z4 z5 zf zf1 S2 Ek
      generalize w2.setCell ⟨q4, 1, none⟩ (.string (strOfNums (txW W n0))) = w3 at *
      by_cases hk1' : kdW W (n0 + 1) = 1
      · have hlt1 : n0 + 1 < E := S.ends.lt (by rw [hk1']; decide)
        refine (argument_yes S (by omega) hk1' G3 M3 (by show x0.names.length ≤ 90000; omega) (by show x0.n ≤ 90000; omega) hr3).mono ?_
        rintro e w4 ⟨rfl, M4, hr4, F4⟩
        go_wp2
        refine bodyPost_ret (v := .bool true) (by simp [results, go_sem]) rfl ⟨_, R_pat_sign hk3 hk1', ⟨rfl, M4, hr4, by show (x0.names ++ [_]).length ≤ _; rw [List.length_append, List.length_singleton]; omega, by show x0.n + 1 ≤ n0 + 2; omega, by show (x0.text ++ txW W n0).length ≤ _; rw [h0]; simp; omega⟩, F3.trans F4 (Nat.le_refl _)⟩
      · refine (argument_no S (by omega) hk1' hr3).mono ?_
        rintro e w4 ⟨rfl, B4⟩
        go_wp2
        refine bodyPost_ret (v := .bool false) (by simp [results, go_sem]) rfl ⟨_, R_pat_signer hk3 hk1', ⟨rfl, _, hr3.fr B4⟩, F3.trans ((Fr.of_below B4).low G3.hB) (Nat.le_refl _)⟩
    · by_cases hk2 : kdW W n0 = 2
      · rw [hk2]
        go_wp2_with fail
        go_loopw [] (fun wr => ∃ (i' : Nat) (x' : Nd), MBox wr Z q4 x' ∧ Rdw wr p W i' (d : Int) 20 ∧ Fr p B w wr ∧ n0 ≤ i' ∧ i' ≤ E ∧ x'.names.length ≤ i' ∧ x'.n ≤ i' ∧ x'.text.length ≤ i' * 5000 ∧ Hid (∀ r, Reads W (.keyP i' d x') r → Reads W (.keyP n0 d x0) r)) (fun wr => E - atOf wr p)
        case atStart => exact ⟨n0, x0, M, h, F, Nat.le_refl _, hi, h1, h2, by rw [h0]; exact Nat.zero_le _, fun r hr => hr⟩
        case round =>
          clear M h F h1 h2 G1 h0
          obtain ⟨i', x, M, h, F, hii, hi', h1, h2, h3, hR⟩ := hrel
          have hat : atOf wr p = i' := h.atOf
          have hG1 := G.up F.size
          go_wp2_with fail
          refine (is_any h (S.lt hi') 2).mono ?_
          rintro e w6 ⟨rfl, B6⟩
          replace M := M.bel B6
          replace h := h.fr B6
          replace F := F.trans ((Fr.of_below B6).low hG1.hB) (Nat.le_refl _)
          clear B6 hG1
          by_cases hk : kdW W i' = 2
          · rw [show (kdW W i' == 2) = true by simp [hk]]
            have hlt : i' < E := S.ends.lt (by rw [hk]; decide)
            have hszT : (strOfNums x.text).size + (strOfNums (txW W i')).size ≤ 9223372036854775807 := by rw [strOfNums_size, strOfNums_size]; have := S.txt i'; omega
            obtain ⟨oa, oc, Ek, _⟩ := M.ex
            have Ekd : w6.drew.heap[q4]? = _ := Ek
            have h6d : Rdw w6.drew p W i' (d : Int) 20 ∧ Fr p w6.heap.size w6 w6.drew := ⟨h.same (fun _ _ => rfl) rfl, Fr.of_below (Below.refl _ _).drew⟩
            go_wp2_with fail
            refine abstract_act fun A hA => ?_
            have hsz : A.tmps.size = 45 := by rw [hA]; rfl
            have s0 : A.tmps[0]? = some (.pointer (some ⟨p, 0, none⟩)) := by rw [hA]; rfl
            have s1 : A.tmps[1]? = some (.pointer (some ⟨q4, 0, none⟩)) := by rw [hA]; rfl
            refine wp_region_inv' (fun A D a w' => ∃ (l : List Value), a = putAll A 31 l ∧ l.length = 10 ∧ (∀ j, j < 10 → D j → l[j]? = some (patV x p q4 i' W j)) ∧ (D 10 ∨ w'.heap[q4]? = some (.cells #[.int .i64 x.kind, .string (strOfNums x.text), .int .i64 (x.pos : Int), .int .i64 (x.n : Int), .slice oa x.names.length oc, .slice none 0 0] 36)) ∧ (D 5 ∨ (Rdw w' p W i' (d : Int) 20 ∧ Fr p w6.heap.size w6 w')) ∧ (D 10 → ∃ w9, (Rdw w9 p W (i' + 1) (d : Int) 20 ∧ Fr p w6.heap.size w6 w9) ∧ w' = w9.setCell ⟨q4, 1, none⟩ (.string (strOfNums x.text ++ strOfNums (txW W i'))) ∧ w9.heap[q4]? = some (.cells #[.int .i64 x.kind, .string (strOfNums x.text), .int .i64 (x.pos : Int), .int .i64 (x.n : Int), .slice oa x.names.length oc, .slice none 0 0] 36)) ∧ (D 5 → ¬ D 10 → (Rdw w' p W (i' + 1) (d : Int) 20 ∧ Fr p w6.heap.size w6 w'))) (by kernel_rfl) (by kernel_rfl) ?mono ?start ?step ?done
            case mono =>
              rintro D D' a w' hD ⟨l, ha, hlen, hl, hE, hN, hQ, hL⟩
              exact ⟨l, ha, hlen, fun j hj h => hl j hj ((hD j).2 h), hE.imp_left (hD 10).1, hN.imp_left (hD 5).1, fun h => hQ ((hD 10).2 h), fun h h' => hL ((hD 5).2 h) (fun k => h' ((hD 10).1 k))⟩
            case start => exact ⟨_, (putAll_start A 31 10 (by omega)).1, (putAll_start A 31 10 (by omega)).2, fun _ _ h => h.elim, .inr (Ekd), .inr (h6d), fun h => h.elim, fun h _ => h.elim⟩
            case step =>
              clear hA
              intro i o ho D a w' hI hn hcl hd
              obtain ⟨l, ha, hlen, hl, hE, hN, hQ, hL⟩ := hI
              match i, ho with
              | 0, ho =>
                cases Option.some.inj ho
                have ev : a.tmps[1]? = some (.pointer (some ⟨q4, 0, none⟩)) := by rw [ha, putAll_low A 31 1 l (by omega) (by decide)]; exact s1
                refine wp_value (w' := w') (v := .pointer (some ⟨q4, 0, none⟩)) (by simp [execOp, ev, go_sem]) ?_
                exact ⟨_, by rw [ha]; exact putAll_put A 31 0 l _ (by omega) (by omega), by rw [List.length_set]; exact hlen, set_known hlen (by decide) hl, hE.imp_left .inr, hN.imp_left .inr, fun h => hQ (h.resolve_left (by decide)), fun h h' => hL (h.resolve_left (by decide)) (fun k => h' (.inr k))⟩
              | 1, ho =>
                cases Option.some.inj ho
                have ev : a.tmps[31]? = some (.pointer (some ⟨q4, 0, none⟩)) := known_at ha hsz hlen hl 0 (by decide) (hd ⟨0, .data⟩ (by simp) rfl)
                refine wp_value (w' := w') (v := .pointer (some ⟨q4, 0, none⟩)) (by simp [execOp, ev, go_sem]) ?_
                exact ⟨_, by rw [ha]; exact putAll_put A 31 1 l _ (by omega) (by omega), by rw [List.length_set]; exact hlen, set_known hlen (by decide) hl, hE.imp_left .inr, hN.imp_left .inr, fun h => hQ (h.resolve_left (by decide)), fun h h' => hL (h.resolve_left (by decide)) (fun k => h' (.inr k))⟩
              | 2, ho =>
                cases Option.some.inj ho
                have ev : a.tmps[32]? = some (.pointer (some ⟨q4, 0, none⟩)) := known_at ha hsz hlen hl 1 (by decide) (hd ⟨1, .data⟩ (by simp) rfl)
                refine wp_value (w' := w') (v := .pointer (some ⟨q4, 1, none⟩)) (by simp [execOp, ev, go_sem]) ?_
                exact ⟨_, by rw [ha]; exact putAll_put A 31 2 l _ (by omega) (by omega), by rw [List.length_set]; exact hlen, set_known hlen (by decide) hl, hE.imp_left .inr, hN.imp_left .inr, fun h => hQ (h.resolve_left (by decide)), fun h h' => hL (h.resolve_left (by decide)) (fun k => h' (.inr k))⟩
              | 3, ho =>
                cases Option.some.inj ho
                have ev : a.tmps[33]? = some (.pointer (some ⟨q4, 1, none⟩)) := known_at ha hsz hlen hl 2 (by decide) (hd ⟨2, .data⟩ (by simp) rfl)
                have e1 := hE.resolve_left (fun h => (fun h => hn (hcl 7 _ rfl h ⟨3, .data⟩ (by simp) rfl)) (hcl 10 _ rfl h ⟨7, .data⟩ (by simp) rfl))
                obtain ⟨z0, z1, z2, z3, z4, z5, _⟩ := nd_cells e1
                refine wp_value (w' := w') (v := .string (strOfNums x.text)) (by simp [execOp, ev, go_sem, z1]) ?_
                exact ⟨_, by rw [ha]; exact putAll_put A 31 3 l _ (by omega) (by omega), by rw [List.length_set]; exact hlen, set_known hlen (by decide) hl, hE.imp_left .inr, hN.imp_left .inr, fun h => hQ (h.resolve_left (by decide)), fun h h' => hL (h.resolve_left (by decide)) (fun k => h' (.inr k))⟩
              | 4, ho =>
                cases Option.some.inj ho
                have ev : a.tmps[0]? = some (.pointer (some ⟨p, 0, none⟩)) := by rw [ha, putAll_low A 31 0 l (by omega) (by decide)]; exact s0
                refine wp_value (w' := w') (v := .pointer (some ⟨p, 0, none⟩)) (by simp [execOp, ev, go_sem]) ?_
                exact ⟨_, by rw [ha]; exact putAll_put A 31 4 l _ (by omega) (by omega), by rw [List.length_set]; exact hlen, set_known hlen (by decide) hl, hE.imp_left .inr, hN.imp_left .inr, fun h => hQ (h.resolve_left (by decide)), fun h h' => hL (h.resolve_left (by decide)) (fun k => h' (.inr k))⟩
              | 5, ho =>
                cases Option.some.inj ho
                have ev : a.tmps[35]? = some (.pointer (some ⟨p, 0, none⟩)) := known_at ha hsz hlen hl 4 (by decide) (hd ⟨4, .data⟩ (by simp) rfl)
                have h6 := hN.resolve_left hn
                refine wp_enter (f := 25) (args := #[.pointer (some ⟨p, 0, none⟩)]) (by simp [execOp, ev, go_sem]) ?_
                refine (next_any h6.1 (S.lt hi')).mono ?_
                rintro e w6 ⟨rfl, h9, F9⟩
                refine ⟨_, rfl, ?_⟩
                exact ⟨_, by rw [ha]; exact putAll_put A 31 5 l _ (by omega) (by omega), by rw [List.length_set]; exact hlen, set_known hlen (by decide) hl, hE.imp .inr (fun h => (F9.block q4 (lt_of_block h) hqp4).trans h), .inl (.inl rfl), fun h => absurd (h.resolve_left (by decide)) (fun h => (fun h => (fun h => hn (hcl 6 _ rfl h ⟨5, .data⟩ (by simp) rfl)) (hcl 7 _ rfl h ⟨6, .data⟩ (by simp) rfl)) (hcl 10 _ rfl h ⟨7, .data⟩ (by simp) rfl)), fun _ _ => ⟨h9, h6.2.trans F9 h6.2.size⟩⟩
              | 6, ho =>
                cases Option.some.inj ho
                have ev : a.tmps[36]? = some (.agg #[.int .i64 (kdW W i'), .string (strOfNums (txW W i')), .int .i64 (psW W i' : Int)]) := known_at ha hsz hlen hl 5 (by decide) (hd ⟨5, .data⟩ (by simp) rfl)
                refine wp_value (w' := w') (v := (.string (strOfNums (txW W i')))) (by simp [execOp, ev, go_sem, fld1]) ?_
                exact ⟨_, by rw [ha]; exact putAll_put A 31 6 l _ (by omega) (by omega), by rw [List.length_set]; exact hlen, set_known hlen (by decide) hl, hE.imp_left .inr, hN.imp_left .inr, fun h => hQ (h.resolve_left (by decide)), fun h h' => hL (h.resolve_left (by decide)) (fun k => h' (.inr k))⟩
              | 7, ho =>
                cases Option.some.inj ho
                have ev : a.tmps[34]? = some (.string (strOfNums x.text)) := known_at ha hsz hlen hl 3 (by decide) (hd ⟨3, .data⟩ (by simp) rfl)
                have ev' : a.tmps[37]? = some ((.string (strOfNums (txW W i')))) := known_at ha hsz hlen hl 6 (by decide) (hd ⟨6, .data⟩ (by simp) rfl)
                refine wp_value (w' := w') (v := (.string (strOfNums x.text ++ strOfNums (txW W i')))) (by simp [execOp, ev, ev', go_sem, hszT]) ?_
                exact ⟨_, by rw [ha]; exact putAll_put A 31 7 l _ (by omega) (by omega), by rw [List.length_set]; exact hlen, set_known hlen (by decide) hl, hE.imp_left .inr, hN.imp_left .inr, fun h => hQ (h.resolve_left (by decide)), fun h h' => hL (h.resolve_left (by decide)) (fun k => h' (.inr k))⟩
              | 8, ho =>
                cases Option.some.inj ho
                have ev : a.tmps[31]? = some (.pointer (some ⟨q4, 0, none⟩)) := known_at ha hsz hlen hl 0 (by decide) (hd ⟨0, .data⟩ (by simp) rfl)
                refine wp_value (w' := w') (v := .pointer (some ⟨q4, 0, none⟩)) (by simp [execOp, ev, go_sem]) ?_
                exact ⟨_, by rw [ha]; exact putAll_put A 31 8 l _ (by omega) (by omega), by rw [List.length_set]; exact hlen, set_known hlen (by decide) hl, hE.imp_left .inr, hN.imp_left .inr, fun h => hQ (h.resolve_left (by decide)), fun h h' => hL (h.resolve_left (by decide)) (fun k => h' (.inr k))⟩
              | 9, ho =>
                cases Option.some.inj ho
                have ev : a.tmps[39]? = some (.pointer (some ⟨q4, 0, none⟩)) := known_at ha hsz hlen hl 8 (by decide) (hd ⟨8, .data⟩ (by simp) rfl)
                refine wp_value (w' := w') (v := .pointer (some ⟨q4, 1, none⟩)) (by simp [execOp, ev, go_sem]) ?_
                exact ⟨_, by rw [ha]; exact putAll_put A 31 9 l _ (by omega) (by omega), by rw [List.length_set]; exact hlen, set_known hlen (by decide) hl, hE.imp_left .inr, hN.imp_left .inr, fun h => hQ (h.resolve_left (by decide)), fun h h' => hL (h.resolve_left (by decide)) (fun k => h' (.inr k))⟩
              | 10, ho =>
                cases Option.some.inj ho
                have ev : a.tmps[40]? = some (.pointer (some ⟨q4, 1, none⟩)) := known_at ha hsz hlen hl 9 (by decide) (hd ⟨9, .data⟩ (by simp) rfl)
                have ev' : a.tmps[38]? = some ((.string (strOfNums x.text ++ strOfNums (txW W i')))) := known_at ha hsz hlen hl 7 (by decide) (hd ⟨7, .data⟩ (by simp) rfl)
                have e1 := hE.resolve_left hn
                obtain ⟨z0, z1, z2, z3, z4, z5, zf⟩ := nd_cells e1
                have zf1 := zf 1
                have L := hL (hcl 6 _ rfl (hcl 7 _ rfl (hd ⟨7, .data⟩ (by simp) rfl) ⟨6, .data⟩ (by simp) rfl) ⟨5, .data⟩ (by simp) rfl) hn
                refine wp_skipR (w' := w'.setCell ⟨q4, 1, none⟩ (.string (strOfNums x.text ++ strOfNums (txW W i')))) (by simp [execOp, Act.eval, ev, ev', go_sem, z1, zf1]) ?_
                exact ⟨l, ha, hlen, fun j hj h => hl j hj (h.resolve_left (by omega)), .inl (.inl rfl), .inl (.inr (hcl 6 _ rfl (hcl 7 _ rfl (hd ⟨7, .data⟩ (by simp) rfl) ⟨6, .data⟩ (by simp) rfl) ⟨5, .data⟩ (by simp) rfl)), fun _ => ⟨w', L, rfl, e1⟩, fun _ h' => absurd (.inl rfl) h'⟩
              | i + 11, ho => simp at ho
            case done =>
              rintro D a w' ⟨l, ha, hlen, hl, hE, hN, hQ, hL⟩ hall
              obtain ⟨v0, v1, v2, v3, v4, v5, v6, v7, v8, v9, rfl⟩ := patV_list hlen
              obtain ⟨w9, ⟨L9, F9⟩, ew, E9⟩ := hQ (hall 10 (by decide))
              subst hA
              have hfr : a = _ := ha
              rw [hfr]
              clear hfr ha
              simp only [putAll, List.take_succ_cons, List.take_zero, List.drop_succ_cons, List.drop_zero, List.cons_append, List.nil_append, List.length_cons, List.length_nil]
              clear hl hE hN hL hQ hall
              have M9 := M.fr F9 hqp4 hAp
              have S9 := St.cell w9 q4 1 (.string (strOfNums x.text ++ strOfNums (txW W i')))
              have hs9' := S9.size
              have M10 := M9.say G.nq (txW W i')
              have L10 := L9.st S9 (by have := G.hp; have := G.hq; omega)
              have F10 : Fr p B w w' := (F.trans (F9.low (Nat.le_trans G.hB F.size)) (Nat.le_refl _)).trans (Fr.of_below (by rw [ew]; exact S9.below G.hq)) (Nat.le_refl _)
              rw [← ew] at M10 L10 hs9'
              have G10 := G.up F10.size
              clear ew S9 E9 F9 L9 M9 hs9'
              by_cases hk1 : kdW W (i' + 1) = 1
              · have hlt1 : i' + 1 < E := S.ends.lt (by rw [hk1]; decide)
                go_wp2_with fail
                refine (argument_yes S (by omega) hk1 G10 M10 (by show x.names.length ≤ 90000; omega) (by show x.n ≤ 90000; omega) L10).mono ?_
                rintro e w2 ⟨rfl, M2, hr2, F2⟩
                have F02 := F10.trans F2 (Nat.le_refl _)
                go_wp2
                go_roundw
                case rel => exact ⟨i' + 2, _, M2, hr2, F02, by omega, by omega, by show (x.names ++ [_]).length ≤ _; rw [List.length_append, List.length_singleton]; omega, by show x.n + 1 ≤ i' + 2; omega, by show (x.text ++ txW W i').length ≤ _; rw [List.length_append]; have := S.txt i'; omega, fun r hr => hR.out r (R_keyP_go hr hk hk1)⟩
                case measure => rw [hr2.atOf, hat]; omega
              · go_wp2_with fail
                refine (argument_no S (by omega) hk1 L10).mono ?_
                rintro e w2 ⟨rfl, B2⟩
                go_wp2
                go_ret
                exact ⟨_, R_pat_keys (hR.out _ (R_keyP_bad hk hk1)) hk2, ⟨rfl, _, L10.fr B2⟩, F10.trans ((Fr.of_below B2).low G10.hB) (Nat.le_refl _)⟩
          · rw [show (kdW W i' == 2) = false by simp [hk]]
            go_wp2
            refine bodyPost_ret (v := .bool true) (by simp [results, go_sem]) rfl ⟨_, R_pat_keys (hR.out _ (R_keyP_end hk)) hk2, ⟨rfl, M, h, h1, h2, by omega⟩, F⟩
      · have b1 : (kdW W n0 == 1) = false := by simp [hk1]
        have b2 : (kdW W n0 == 2) = false := by simp [hk2]
        have b3 : (kdW W n0 == 3) = false := by simp [hk3]
        go_wp2
        refine bodyPost_ret (v := .bool false) (by simp [results, go_sem]) rfl ⟨_, R_pat_bad hk1 hk2 hk3, ⟨rfl, _, h⟩, F⟩
end Go.Proofs.Ytoghhjljmhdioaa
namespace Go.Proofs.Ytoghhjljmhdioaa
open Go.RowKit
set_option maxRecDepth 100000
def u0N : Nd := .mk 12 [] 0 0 [] []
/-- What comes behind a method's pattern: the tree, its place, the error. -/
def BodyR (W : List Tk) (j : Nat) (x n : Nd) (pl : Nat) (e : Int) : Prop := ∃ r, Reads W (.body j 0 x) r ∧ match r with
  | .er k c => n = zNd ∧ pl = psW W k ∧ e = c
  | .ok y k => if kdW W k = 0 then n = y ∧ pl = 0 ∧ e = 0 else n = zNd ∧ pl = psW W k ∧ e = 20
def UnitR (W : List Tk) (m : Bool) (n : Nd) (pl : Nat) (e : Int) : Prop :=
  if m = true then ∃ r, Reads W (.pat 0 0 u0N) r ∧ match r with
    | .er j c => n = zNd ∧ pl = psW W j ∧ e = c
    | .ok x j => BodyR W j x n pl e
  else BodyR W 0 u0N n pl e
def set6 (w : World) (q : Nat) (v0 v1 v2 v3 v4 v5 : Value) : World := (((((w.setCell ⟨q, 0, none⟩ v0).setCell ⟨q, 1, none⟩ v1).setCell ⟨q, 2, none⟩ v2).setCell ⟨q, 3, none⟩ v3).setCell ⟨q, 4, none⟩ v4).setCell ⟨q, 5, none⟩ v5
theorem set6_blk {w : World} {q : Nat} {u0 u1 u2 u3 u4 u5 : Value} (E : w.heap[q]? = some (.cells #[u0, u1, u2, u3, u4, u5] 36)) (v0 v1 v2 v3 v4 v5 : Value) : (set6 w q v0 v1 v2 v3 v4 v5).heap[q]? = some (.cells #[v0, v1, v2, v3, v4, v5] 36) := by
  unfold set6
  have e0 : (w.setCell ⟨q, 0, none⟩ v0).heap[q]? = some (.cells #[v0, u1, u2, u3, u4, u5] 36) := by rw [heap_setCell_same w q 0 _ _ v0 E]; simp
  have e1 : ((w.setCell ⟨q, 0, none⟩ v0).setCell ⟨q, 1, none⟩ v1).heap[q]? = some (.cells #[v0, v1, u2, u3, u4, u5] 36) := by rw [heap_setCell_same _ q 1 _ _ v1 e0]; simp
  generalize (w.setCell ⟨q, 0, none⟩ v0).setCell ⟨q, 1, none⟩ v1 = wa at *
  have e2 : (wa.setCell ⟨q, 2, none⟩ v2).heap[q]? = some (.cells #[v0, v1, v2, u3, u4, u5] 36) := by rw [heap_setCell_same _ q 2 _ _ v2 e1]; simp
  have e3 : ((wa.setCell ⟨q, 2, none⟩ v2).setCell ⟨q, 3, none⟩ v3).heap[q]? = some (.cells #[v0, v1, v2, v3, u4, u5] 36) := by rw [heap_setCell_same _ q 3 _ _ v3 e2]; simp
  generalize (wa.setCell ⟨q, 2, none⟩ v2).setCell ⟨q, 3, none⟩ v3 = wb at *
  have e4 : (wb.setCell ⟨q, 4, none⟩ v4).heap[q]? = some (.cells #[v0, v1, v2, v3, v4, u5] 36) := by rw [heap_setCell_same _ q 4 _ _ v4 e3]; simp
  rw [heap_setCell_same _ q 5 _ _ v5 e4]
  simp
theorem St.trans' {a : Nat} {w w' w'' : World} (h : St a w w') (g : St a w' w'') : St a w w'' := ⟨g.1.trans h.1, g.2.trans h.2, g.3.trans h.3, g.size.trans h.size, fun b hb => (g.block b hb).trans (h.block b hb)⟩
theorem set6_st (w : World) (q : Nat) (v0 v1 v2 v3 v4 v5 : Value) : St q w (set6 w q v0 v1 v2 v3 v4 v5) := by
  unfold set6
  exact ((((((St.cell w q 0 v0).trans' (St.cell _ q 1 v1)).trans' (St.cell _ q 2 v2)).trans' (St.cell _ q 3 v3)).trans' (St.cell _ q 4 v4)).trans' (St.cell _ q 5 v5))
theorem results_three {P : Program} {fn : Func} {tmps : Array Value} {a t b c : Nat} {ad : Addr} {w : World} {v u x : Value} (hf : fn.results = #[.cell a t, .tmp b, .tmp c]) (ha : tmps[a]?.getD undef = .pointer (some ad)) (hu : tmps[b]?.getD undef = u) (hx : tmps[c]?.getD undef = x) (hl : (loadVar t ad).run P w = .ok v w) : (results fn tmps).run P w = .ok (.tuple #[v, u, x]) w := by
  unfold results
  rw [hf]
  simp [ha, hu, hx, asAddr, hl]
set_option maxHeartbeats 8000000 in
theorem unit_con {W : List Tk} {E : Nat} (S : Src W E) (HB : ∀ j, j ≤ E → ConN 17 W (fun x => .body j 0 x) j 0) (ss : List Int) (m : Bool) (w : World)
    (HL : ∀ w, Calls Try.prog 15 #[.string (strOfNums ss)] w fun e w' => (∃ a cap, e = .returned (.tuple #[.slice a W.length cap, .int .i64 0, .int .i64 0]) ∧ IsT w' a W.length cap W) ∧ Below w.heap.size w w') :
    Calls Try.prog 13 #[.string (strOfNums ss), .bool m] w fun e w' => ∃ n pl er v, UnitR W m n pl er ∧ e = .returned (.tuple #[v, .int .i64 (pl : Int), .int .i64 er]) ∧ NdB w.heap.size w' n v ∧ Below w.heap.size w w' := by
  go_enter Try.func13, Try.ntmps13
  go_wp2_with (refine al25 _ rfl rfl ?_)
  intro q w1 E1 hq B1
  go_wp2_with fail
  refine wp_scope_jumps 0 (fun a' w' => ∃ (pr j : Nat) (dd c : Int) (u0 u1 u2 u3 u5 u6 u7 u8 u9 u11 u12 u13 u14 u15 u16 u17 u18 u19 u20 u21 u22 u23 u24 u25 u26 u27 u28 u29 u30 u31 u32 u33 u34 u35 u36 u37 u38 u39 u40 u41 u42 u43 u44 u45 u46 u47 : Value), a' = { tmps := #[u0, u1, u2, u3, .pointer (some ⟨q, 0, none⟩), u5, u6, u7, u8, u9, .pointer (some ⟨pr, 0, none⟩), u11, u12, u13, u14, u15, u16, u17, u18, u19, u20, u21, u22, u23, u24, u25, u26, u27, u28, u29, u30, u31, u32, u33, u34, u35, u36, u37, u38, u39, u40, u41, u42, u43, u44, u45, u46, u47], defers := [] } ∧ Rdw w' pr W j dd c ∧ j ≤ E ∧ ZBox w' q ∧ (w.heap.size ≤ pr ∧ q ≠ pr) ∧ Below w.heap.size w w' ∧ Hid (UnitR W m zNd (psW W j) c)) (fun _ _ => 0) rfl ?_ ?_
  · go_wp2_with fail
    refine (HL w1).mono ?_
    rintro e w2 ⟨⟨a, cap, rfl, hT⟩, B2⟩
    have hW0 : 0 < W.length := by have := S.ends.len; omega
    obtain ⟨b, off, rfl, hc0⟩ := hT.cells hW0
    have hbl : b < w2.heap.size := block_lt_of_cell (hc0 0 hW0).1
    have B02 : Below w.heap.size w w2 := B1.trans (B2.mono B1.size)
    have E2 : w2.heap[q]? = _ := (B2.block _ (lt_of_block E1)).trans E1
    have hz2 : ZBox w2 q := ⟨_, _, _, _, _, _, E2⟩
    have hs2 : w.heap.size ≤ w2.heap.size := B02.size
    have hql := hz2.lt
    clear E1 E2 B1 B2 hc0
    have hne0 : ((0 : Int) != 0) = false := rfl
    have C1 : Below w2.heap.size w2 (w2.alloc (redO (some ⟨b, off, none⟩) W.length cap 0 0 20)) := boxO
    have Er := newO w2 (redO (some ⟨b, off, none⟩) W.length cap 0 0 20)
    have hT1 := hT.below C1
    have hsz1 := lt_of_block Er
    have hz3 := hz2.keep (fun hl => C1.block q hl)
    have B03 : Below w.heap.size w (w2.alloc (redO (some ⟨b, off, none⟩) W.length cap 0 0 20)) := B02.trans (C1.mono hs2)
    clear hT C1 hz2 B02
    unfold redO at Er hT1 hsz1 hz3 B03
    cases m with
    | false =>
      go_upto_region 5 with fail
      generalize w2.alloc (.cells #[.slice (some ⟨b, off, none⟩) W.length cap, .int .i64 0, .int .i64 0, .int .i64 20] 54) = w3 at *
      generalize w2.heap.size = pr at *
      have R3 : Rdw w3 pr W 0 0 20 := ⟨b, off, cap, Er, hbl, hT1⟩
      clear Er hT1
      go_wp2_with (refine al25 _ rfl rfl ?_)
      intro qn w4a E4a hqn B4a
      go_wp2_with (refine st25 _ rfl _ _ rfl rfl _ _ _ _ _ _ _ _ _ _ _ rfl rfl E4a ?_)
      intro w4 E4 S4
      have B4 : Below w3.heap.size w3 w4 := B4a.trans (S4.below hqn)
      have M4 : MBox w4 (fun b => pr + 1 ≤ b ∧ b ≠ qn) qn u0N := ⟨rfl, none, 0, E4, World.ownsRow_nil w4 0 9 1, fun g hg => by simp [Value.ownBlock] at hg⟩
      have hl4 := M4.lt
      have hs34 : w3.heap.size ≤ w4.heap.size := B4.size
      have R4 : Rdw w4 pr W 0 ((0 : Nat) : Int) 20 := R3.fr B4
      have hz4 := hz3.keep (fun hl => B4.block q hl)
      have B04 : Below w.heap.size w w4 := B03.trans (B4.mono B03.size)
      have G4 : Gd pr (pr + 1) qn (fun b => pr + 1 ≤ b ∧ b ≠ qn) w4 := ⟨by omega, by omega, by omega, fun b hb => hb.1, fun hb => hb.2 rfl, fun b hb => ⟨by omega, by omega⟩⟩
      have hqp : q ≠ pr := by omega
      clear S4 E4a B4a B4 R3 hz3 B03 E4
      go_wp2_with fail
      refine (HB 0 (Nat.zero_le _) w4 pr qn (pr + 1) _ u0N G4 M4 (Nat.le_refl _) (Nat.zero_le _) R4).mono ?_
      rintro e w5 ⟨r, hr, ha, F5⟩
      have B05 : Below w.heap.size w w5 := B04.trans (F5.below (by omega) (by omega))
      have hz5 := ZBox.keep hz4 (fun _ => F5.block q (by omega) hqp)
      have hs45 := F5.size
      cases r with
      | er k c =>
        obtain ⟨rfl, _, d', h5⟩ := ha
        have hkE : k ≤ E := (hr.adv S.ends (Nat.zero_le _)).2
        have hU : Hid (UnitR W false zNd (psW W k) c) := (by unfold UnitR; rw [if_neg (by decide)]; exact ⟨_, hr, rfl, rfl, rfl⟩)
        go_wp2_with fail
        go_step3
        exact ⟨rfl, pr, k, d', c, _, _, _, _, _, _, _, _, _, _, _, _, _, _, _, _, _, _, _, _, _, _, _, _, _, _, _, _, _, _, _, _, _, _, _, _, _, _, _, _, _, _, _, _, _, _, rfl, h5, hkE, hz5, ⟨hs2, hqp⟩, B05, hU⟩
      | ok y k =>
        obtain ⟨rfl, N5, h5⟩ := ha
        have hkE : k ≤ E := (hr.adv S.ends (Nat.zero_le _)).2
        go_wp2_with fail
        refine (is_any h5 (S.lt hkE) 0).mono ?_
        rintro e w6 ⟨rfl, B6⟩
        have B06 : Below w.heap.size w w6 := B05.trans (B6.mono B05.size)
        have hz6 := hz5.keep (fun hl => B6.block q hl)
        have h6 := h5.fr B6
        have hs56 := B6.size
        by_cases hk0 : kdW W k = 0
        · rw [show (kdW W k == 0) = true by simp [hk0]]
          have hU : UnitR W false y 0 0 := (by unfold UnitR; rw [if_neg (by decide)]; exact ⟨_, hr, by show (if kdW W k = 0 then _ else _); rw [if_pos hk0]; exact ⟨rfl, rfl, rfl⟩⟩)
          obtain ⟨na, nc, ka, kc, Ek, hv⟩ := N5
          replace Ek := (B6.block _ (lt_of_block Ek)).trans Ek
          replace hv := hv.bel B6
          obtain ⟨z0, z1, z2, z3, z4, z5, _⟩ := nd_cells Ek
          obtain ⟨u0, u1, u2, u3, u4, u5, Eq⟩ := hz6
          go_wp2_with (refine st25 _ rfl _ _ rfl rfl _ _ _ _ _ _ _ _ _ _ _ rfl rfl Eq ?_)
          intro wz Ez Sz
          go_wp2
          simp only [Exit.jump]
          exact bodyPost_ret (results_three (a := 4) (t := 36) (b := 5) (c := 6) (by rfl) (by rfl) (by rfl) (by rfl) (load25 Ez)) (by rfl) ⟨y, 0, 0, _, hU, rfl, hv.imp (fun b _ hA => ⟨by omega, Sz.block b (by omega)⟩) _ _, B06.trans (Sz.below hq)⟩
        · rw [show (kdW W k == 0) = false by simp [hk0]]
          have hU : Hid (UnitR W false zNd (psW W k) 20) := (by unfold UnitR; rw [if_neg (by decide)]; exact ⟨_, hr, by show (if kdW W k = 0 then _ else _); rw [if_neg hk0]; exact ⟨rfl, rfl, rfl⟩⟩)
          go_wp2_with fail
          go_step3
          exact ⟨rfl, pr, k, ((0 : Nat) : Int), 20, _, _, _, _, _, _, _, _, _, _, _, _, _, _, _, _, _, _, _, _, _, _, _, _, _, _, _, _, _, _, _, _, _, _, _, _, _, _, _, _, _, _, _, _, _, _, rfl, h6, hkE, hz6, ⟨hs2, hqp⟩, B06, hU⟩
    | true =>
      go_upto_region 5 with fail
      generalize w2.alloc (.cells #[.slice (some ⟨b, off, none⟩) W.length cap, .int .i64 0, .int .i64 0, .int .i64 20] 54) = w3 at *
      generalize w2.heap.size = pr at *
      have R3 : Rdw w3 pr W 0 0 20 := ⟨b, off, cap, Er, hbl, hT1⟩
      clear Er hT1
      go_wp2_with (refine al25 _ rfl rfl ?_)
      intro qn w4a E4a hqn B4a
      go_wp2_with (refine st25 _ rfl _ _ rfl rfl _ _ _ _ _ _ _ _ _ _ _ rfl rfl E4a ?_)
      intro w4 E4 S4
      have B4 : Below w3.heap.size w3 w4 := B4a.trans (S4.below hqn)
      have M4 : MBox w4 (fun b => pr + 1 ≤ b ∧ b ≠ qn) qn u0N := ⟨rfl, none, 0, E4, World.ownsRow_nil w4 0 9 1, fun g hg => by simp [Value.ownBlock] at hg⟩
      have hl4 := M4.lt
      have hs34 : w3.heap.size ≤ w4.heap.size := B4.size
      have R4 : Rdw w4 pr W 0 ((0 : Nat) : Int) 20 := R3.fr B4
      have hz4 := hz3.keep (fun hl => B4.block q hl)
      have B04 : Below w.heap.size w w4 := B03.trans (B4.mono B03.size)
      have G4 : Gd pr (pr + 1) qn (fun b => pr + 1 ≤ b ∧ b ≠ qn) w4 := ⟨by omega, by omega, by omega, fun b hb => hb.1, fun hb => hb.2 rfl, fun b hb => ⟨by omega, by omega⟩⟩
      have hqp : q ≠ pr := by omega
      clear S4 E4a B4a B4 R3 hz3 B03 E4
      go_wp2_with fail
      refine (pattern_con S (d := 0) (Nat.zero_le _) G4 M4 (Nat.le_refl _) (Nat.le_refl _) rfl R4).mono ?_
      rintro e wp ⟨r, hrp, ha, Fp⟩
      have B0p : Below w.heap.size w wp := B04.trans (Fp.below (by omega) (by omega))
      have hzp := hz4.keep (fun _ => Fp.block q (by omega) hqp)
      have hsp := Fp.size
      cases r with
      | er k c =>
        obtain ⟨rfl, d', h5⟩ := ha
        have hkE : k ≤ E := (hrp.adv S.ends (Nat.zero_le _)).2
        have hU : Hid (UnitR W true zNd (psW W k) c) := (by unfold UnitR; rw [if_pos rfl]; exact ⟨_, hrp, rfl, rfl, rfl⟩)
        go_wp2_with fail
        go_step3
        exact ⟨rfl, pr, k, d', c, _, _, _, _, _, _, _, _, _, _, _, _, _, _, _, _, _, _, _, _, _, _, _, _, _, _, _, _, _, _, _, _, _, _, _, _, _, _, _, _, _, _, _, _, _, _, rfl, h5, hkE, hzp, ⟨hs2, hqp⟩, B0p, hU⟩
      | ok xp jp =>
        obtain ⟨rfl, Mp, hpr5, hn1, hn2, hn3⟩ := ha
        have hjE : jp ≤ E := (hrp.adv S.ends (Nat.zero_le _)).2
        have Gp := G4.up Fp.size
        go_wp2_with fail
        refine (HB jp hjE wp pr qn (pr + 1) _ xp Gp Mp hn1 hn3 hpr5).mono ?_
        rintro e w5 ⟨r, hr, ha, F5⟩
        have B05 : Below w.heap.size w w5 := B0p.trans (F5.below (by omega) (by omega))
        have hz5 := ZBox.keep hzp (fun _ => F5.block q (by omega) hqp)
        have hs45 := F5.size
        cases r with
        | er k c =>
          obtain ⟨rfl, _, d', h5⟩ := ha
          have hkE : k ≤ E := (hr.adv S.ends hjE).2
          have hU : Hid (UnitR W true zNd (psW W k) c) := (by unfold UnitR; rw [if_pos rfl]; exact ⟨_, hrp, ⟨_, hr, rfl, rfl, rfl⟩⟩)
          go_wp2_with fail
          go_step3
          exact ⟨rfl, pr, k, d', c, _, _, _, _, _, _, _, _, _, _, _, _, _, _, _, _, _, _, _, _, _, _, _, _, _, _, _, _, _, _, _, _, _, _, _, _, _, _, _, _, _, _, _, _, _, _, rfl, h5, hkE, hz5, ⟨hs2, hqp⟩, B05, hU⟩
        | ok y k =>
          obtain ⟨rfl, N5, h5⟩ := ha
          have hkE : k ≤ E := (hr.adv S.ends hjE).2
          go_wp2_with fail
          refine (is_any h5 (S.lt hkE) 0).mono ?_
          rintro e w6 ⟨rfl, B6⟩
          have B06 : Below w.heap.size w w6 := B05.trans (B6.mono B05.size)
          have hz6 := hz5.keep (fun hl => B6.block q hl)
          have h6 := h5.fr B6
          have hs56 := B6.size
          by_cases hk0 : kdW W k = 0
          · rw [show (kdW W k == 0) = true by simp [hk0]]
            have hU : UnitR W true y 0 0 := (by unfold UnitR; rw [if_pos rfl]; exact ⟨_, hrp, ⟨_, hr, by show (if kdW W k = 0 then _ else _); rw [if_pos hk0]; exact ⟨rfl, rfl, rfl⟩⟩⟩)
            obtain ⟨na, nc, ka, kc, Ek, hv⟩ := N5
            replace Ek := (B6.block _ (lt_of_block Ek)).trans Ek
            replace hv := hv.bel B6
            obtain ⟨z0, z1, z2, z3, z4, z5, _⟩ := nd_cells Ek
            obtain ⟨u0, u1, u2, u3, u4, u5, Eq⟩ := hz6
            go_wp2_with (refine st25 _ rfl _ _ rfl rfl _ _ _ _ _ _ _ _ _ _ _ rfl rfl Eq ?_)
            intro wz Ez Sz
            go_wp2
            simp only [Exit.jump]
            exact bodyPost_ret (results_three (a := 4) (t := 36) (b := 5) (c := 6) (by rfl) (by rfl) (by rfl) (by rfl) (load25 Ez)) (by rfl) ⟨y, 0, 0, _, hU, rfl, hv.imp (fun b _ hA => ⟨by omega, Sz.block b (by omega)⟩) _ _, B06.trans (Sz.below hq)⟩
          · rw [show (kdW W k == 0) = false by simp [hk0]]
            have hU : Hid (UnitR W true zNd (psW W k) 20) := (by unfold UnitR; rw [if_pos rfl]; exact ⟨_, hrp, ⟨_, hr, by show (if kdW W k = 0 then _ else _); rw [if_neg hk0]; exact ⟨rfl, rfl, rfl⟩⟩⟩)
            go_wp2_with fail
            go_step3
            exact ⟨rfl, pr, k, ((0 : Nat) : Int), 20, _, _, _, _, _, _, _, _, _, _, _, _, _, _, _, _, _, _, _, _, _, _, _, _, _, _, _, _, _, _, _, _, _, _, _, _, _, _, _, _, _, _, _, _, _, _, rfl, h6, hkE, hz6, ⟨hs2, hqp⟩, B06, hU⟩
  · rintro a' w' ⟨pr, j, dd, c, u0, u1, u2, u3, u5, u6, u7, u8, u9, u11, u12, u13, u14, u15, u16, u17, u18, u19, u20, u21, u22, u23, u24, u25, u26, u27, u28, u29, u30, u31, u32, u33, u34, u35, u36, u37, u38, u39, u40, u41, u42, u43, u44, u45, u46, u47, rfl, hr, hj, hz, ⟨hpr, hqp⟩, hB, hU⟩
    obtain ⟨x0, x1, x2, x3, x4, x5, Eq⟩ := hz
    have f2 := fld2
    go_wp2_with fail
    have hrd : Rdw w'.drew pr W j dd c := hr.same (fun _ _ => rfl) rfl
    have Eqd : w'.drew.heap[q]? = _ := Eq
    obtain ⟨d1, d2, d3, h1, h2, h3⟩ := hrd.own
    go_region_with (go_at_call 19; go_loud (refine (wordR_any (i := j) (d := dd) (y := c) (W := W) (p := pr) ?_ (S.lt hj)).mono ?_); exact hrd; go_loud (rintro e w9 ⟨rfl, B9⟩); have hr9 := hrd.fr B9; obtain ⟨c1, c2, c3, g1, g2, g3⟩ := hr9.own; have Eq9 := (B9.block q (lt_of_block Eqd)).trans Eqd; obtain ⟨z0, z1, z2, z3, z4, z5, zf⟩ := nd_cells Eq9; have zf0 := zf 0; have zf1 := zf 1; have zf2 := zf 2; have zf3 := zf 3; have zf4 := zf 4; have zf5 := zf 5)
    all_goals
      have Ez := set6_blk Eq9 (.int .i64 0) (.string ⟨#[]⟩) (.int .i64 0) (.int .i64 0) (.slice none 0 0) (.slice none 0 0)
      have Sz := set6_st w9 q (.int .i64 0) (.string ⟨#[]⟩) (.int .i64 0) (.int .i64 0) (.slice none 0 0) (.slice none 0 0)
      unfold set6 at Ez Sz
      have hBd : Below w.heap.size w w'.drew := hB.trans ((Below.refl _ w').drew.mono hB.size)
      have hB9 : Below w.heap.size w w9 := hBd.trans (B9.mono hBd.size)
      clear c1 c2 c3 g1 g2 g3 z0 z1 z2 z3 z4 z5 zf zf0 zf1 zf2 zf3 zf4 zf5 d1 d2 d3 h1 h2 h3
      generalize (((((w9.setCell ⟨q, 0, none⟩ (.int .i64 0)).setCell ⟨q, 1, none⟩ (.string ⟨#[]⟩)).setCell ⟨q, 2, none⟩ (.int .i64 0)).setCell ⟨q, 3, none⟩ (.int .i64 0)).setCell ⟨q, 4, none⟩ (.slice none 0 0)).setCell ⟨q, 5, none⟩ (.slice none 0 0) = wz at *
      go_wp2
      simp only [Exit.jump]
      exact bodyPost_ret (results_three (a := 4) (t := 36) (b := 5) (c := 6) (by rfl) (by rfl) (by rfl) (by rfl) (load25 Ez)) (by rfl) ⟨zNd, _, _, _, hU, rfl, NdB.zero, hB9.trans (Sz.below hq)⟩
end Go.Proofs.Ytoghhjljmhdioaa
