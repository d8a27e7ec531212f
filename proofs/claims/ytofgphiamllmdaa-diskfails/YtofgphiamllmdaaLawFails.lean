/- The walk of DiskFails: the write that fails, and all behind it. -/
import Derived.Test.YtofgphiamllmdaaFailsA
namespace Go.Proofs.Ytofgphiamllmdaa
open Go.RowKit

/-- What the operations yield. -/
def valF (w : World) (dn ee gb b6 b10 b17 : Nat) (S1 S2 : ByteArray) (j : Nat) : Value :=
  ([.int .i64 0,
    .bool true,
    .bool true,
    .slice (some ⟨gb, 0, none⟩) (16 * 128) (16 * 128),
    .string (S1 ++ S2),
    .int .i64 (dn : Int),
    .slice (some ⟨b6, 0, none⟩) (128 * dn) (128 * dn),
    .string S1,
    .int .i64 (dn : Int),
    .int .i64 (ee : Int),
    .slice (some ⟨b10, 0, none⟩) (128 * ee) (128 * ee),
    .string S2,
    .string (S1 ++ S2),
    .bool true,
    .bool true,
    .bool true,
    .pointer (some ⟨w.heap.size + 2, 0, none⟩),
    .slice (some ⟨b17, 0, none⟩) (128 * 16) (128 * 16),
    .int .i64 0,
    .bool true,
    .bool true,
    .bool true,
    .bool true,
    .bool true] : List Value).getD j undef
theorem valF_list {l : List Value} (hh : l.length = 24) : ∃ v0 v1 v2 v3 v4 v5 v6 v7 v8 v9 v10 v11 v12 v13 v14 v15 v16 v17 v18 v19 v20 v21 v22 v23, l = [v0, v1, v2, v3, v4, v5, v6, v7, v8, v9, v10, v11, v12, v13, v14, v15, v16, v17, v18, v19, v20, v21, v22, v23] := by
  obtain ⟨v0, t0, rfl, h0⟩ := cons_of hh
  obtain ⟨v1, t1, rfl, h1⟩ := cons_of h0
  obtain ⟨v2, t2, rfl, h2⟩ := cons_of h1
  obtain ⟨v3, t3, rfl, h3⟩ := cons_of h2
  obtain ⟨v4, t4, rfl, h4⟩ := cons_of h3
  obtain ⟨v5, t5, rfl, h5⟩ := cons_of h4
  obtain ⟨v6, t6, rfl, h6⟩ := cons_of h5
  obtain ⟨v7, t7, rfl, h7⟩ := cons_of h6
  obtain ⟨v8, t8, rfl, h8⟩ := cons_of h7
  obtain ⟨v9, t9, rfl, h9⟩ := cons_of h8
  obtain ⟨v10, t10, rfl, h10⟩ := cons_of h9
  obtain ⟨v11, t11, rfl, h11⟩ := cons_of h10
  obtain ⟨v12, t12, rfl, h12⟩ := cons_of h11
  obtain ⟨v13, t13, rfl, h13⟩ := cons_of h12
  obtain ⟨v14, t14, rfl, h14⟩ := cons_of h13
  obtain ⟨v15, t15, rfl, h15⟩ := cons_of h14
  obtain ⟨v16, t16, rfl, h16⟩ := cons_of h15
  obtain ⟨v17, t17, rfl, h17⟩ := cons_of h16
  obtain ⟨v18, t18, rfl, h18⟩ := cons_of h17
  obtain ⟨v19, t19, rfl, h19⟩ := cons_of h18
  obtain ⟨v20, t20, rfl, h20⟩ := cons_of h19
  obtain ⟨v21, t21, rfl, h21⟩ := cons_of h20
  obtain ⟨v22, t22, rfl, h22⟩ := cons_of h21
  obtain ⟨v23, t23, rfl, h23⟩ := cons_of h22
  obtain rfl := List.eq_nil_of_length_eq_zero h23
  exact ⟨_, _, _, _, _, _, _, _, _, _, _, _, _, _, _, _, _, _, _, _, _, _, _, _, rfl⟩

set_option maxRecDepth 100000 in
set_option maxHeartbeats 16000000 in
theorem fails_law (n many : Int) (w : World) : Calls Try.prog 5 #[.int .i64 n, .int .i64 many] w fun e w' => e = .returned (.bool true) ∧ Below w.heap.size w w' := by
  go_enter Try.func5, Try.ntmps5
  go_wp2_with fail
  refine (count_any n 10 (by decide) (by decide) w).mono ?_
  rintro e w1 ⟨⟨r1, hr1, rfl⟩, rfl⟩
  obtain ⟨N, hN⟩ : ∃ N : Nat, Hid (N = r1 + 1) := ⟨_, rfl⟩
  have hwN : IntKind.i64.wrap (1 + (r1 : Int)) = (N : Int) := by have := hN.out; rw [IntKind.wrap_i64]; omega
  have bN0 : 1 ≤ N := by have := hN.out; omega
  have bN1 : N ≤ 10 := by have := hN.out; omega
  clear hN
  go_wp2_with fail
  refine (count_any many 8 (by decide) (by decide) w).mono ?_
  rintro e w1 ⟨⟨r2, hr2, rfl⟩, rfl⟩
  obtain ⟨M, hM⟩ : ∃ M : Nat, Hid (M = r2 + 1) := ⟨_, rfl⟩
  have hwM : IntKind.i64.wrap (1 + (r2 : Int)) = (M : Int) := by have := hM.out; rw [IntKind.wrap_i64]; omega
  have bM0 : 1 ≤ M := by have := hM.out; omega
  have bM1 : M ≤ 8 := by have := hM.out; omega
  clear hM
  go_wp2_with fail
  clear hwN hwM hr1 hr2
  refine (new_any w 16 (by decide) (by decide)).mono ?_
  rintro e w1 ⟨rfl, D1, hB1⟩
  go_wp2_with fail
  refine (fail_any D1 (N : Int) (by omega)).mono ?_
  rintro e w2 ⟨rfl, D2, F2⟩
  have hB2 := hB1.trans (F2.below D1)
  clear D1 F2 hB1
  go_wp2_with fail
  refine (full_row w2 M 5 (by omega)).mono ?_
  rintro e w3 ⟨b3, rfl, _, hR3, hb3⟩
  have D3 := D2.same (fun i hi => hb3.block i hi)
  have hB3 := below_size hB2 (Nat.le_refl _) hb3
  clear D2 hb3 hB2
  go_wp2_with fail
  refine (write_rep D3 (by decide) M (by omega) (by omega) 5 (by decide) (by decide) hR3 (by omega) (by omega)).mono ?_
  rintro e w4 (⟨rfl, _, hlt, pv4, D4, F4⟩ | ⟨rfl, j, hj, hjn, pv4, D4, F4⟩)
  · have hB4 := hB3.trans (F4.below D3)
    have hMN : (M : Int) < (N : Int) := by omega
    have hMN' : ¬ (N : Int) ≤ (M : Int) := by omega
    clear D3 F4 hB3 hR3 hlt
    obtain ⟨dn, rfl⟩ : ∃ dn, dn = M := ⟨_, rfl⟩
    have DT := D4
    have hBT := hB4
    clear D4 hB4
    generalize w4 = wt at *
    -- done is known: DT, hdn
    go_wp2_with fail
    refine (pending_any DT).mono ?_
    rintro e w4 ⟨rfl, rfl⟩
    rw [ws5_len]
    go_wp2
    obtain ⟨i0, hi, hz0, hz1, hz2⟩ := info_parts Try.info4
    go_loopw [11, 12] (fun v i wr => ∃ j : Nat, j ≤ dn ∧ i = .int .i64 (j : Int) ∧ wr.ownsRow wt.heap.size 4 1 v j (List.replicate j (.bool true)) ∧ Below wt.heap.size wt wr) (fun _ i _ => dn - (intOf i).toNat)
    case atStart => exact ⟨0, by omega, rfl, World.ownsRow_nil _ _ _ _, Below.refl _ _⟩
    case round =>
      obtain ⟨j', hj', rfl, hrow, hbe⟩ := hrel
      by_cases hjn : j' = dn
      · have hlt : ¬ (j' : Int) < (dn : Int) := by omega
        have DW := DT.same (fun i hi => hbe.block i hi)
        have hBW := below_size hBT (Nat.le_refl _) hbe
        have hcr := crash_all (L := ws5 5 dn) DW (v := u11) (B := wt.heap.size) (by rw [ws5_len, ← hjn]; exact hrow) DT.lt DT.safe.lt DT.now.lt (fun g hg => DT.pvlt hg) (by rw [ws5_len]; omega)
        clear hrow hbe DT hjn hBT
        go_wp2_with fail
        refine hcr.mono ?_
        rintro e w5 ⟨rfl, D5, F5⟩
        have hB5 := hBW.trans (F5.below DW)
        clear hcr DW F5 hBW
        go_wp2_with fail
        refine (Read_some D5 (by decide) (by decide) 0 16 (by decide) (by decide)).mono ?_
        rintro e w6 ⟨rfl, hR6, hg6⟩
        have hB6 := below_size hB5 (Nat.le_refl _) (below_of hg6)
        have D6 := D5.same (fun i hi => hg6.block i hi (by simp))
        obtain ⟨ee, hee⟩ : ∃ ee : Nat, Hid (ee = 16 - dn) := ⟨_, rfl⟩
        have hwe : IntKind.i64.wrap (16 - (dn : Int)) = (ee : Int) := by have := hee.out; rw [IntKind.wrap_i64]; omega
        have he1 : ee ≤ 16 := by have := hee.out; omega
        obtain ⟨S1, hS1⟩ : ∃ S, Hid (strOfNums (sv (128 * dn) 5) = S) := ⟨_, rfl⟩
        obtain ⟨S2, hS2⟩ : ∃ S, Hid (strOfNums (sv (128 * ee) 0) = S) := ⟨_, rfl⟩
        have hzz : S1.size + S2.size ≤ 9223372036854775807 := by
          rw [← hS1.out, ← hS2.out, str_size, str_size, sv, sv, List.length_replicate, List.length_replicate]
          omega
        have hSB : Hid (strOfNums (catS (appl (fun _ => z128) (ws5 5 dn)) 0 16) = S1 ++ S2) := by
          show _ = _
          rw [← hS1.out, ← hS2.out, ← str_append, cat5 dn (by omega), hee.out]
        have hBl : (catS (appl (fun _ => z128) (ws5 5 dn)) 0 16).length = 16 * 128 := catS_len (fun k => D5.now.isSec k) 0 16
        have hRw : Row8 w6 w5.heap.size (catS (appl (fun _ => z128) (ws5 5 dn)) 0 16) := hR6
        clear hR6 hg6 D5 hB5 hee
        generalize hgb : w5.heap.size = gb at *
        clear hgb
        generalize catS (appl (fun _ => z128) (ws5 5 dn)) 0 16 = BS at *
        go_wp2
        have hB0 := hB6
        have hDb := D6
        clear hB6 D6
        refine abstract_act fun A hA => ?_
        have hsz : A.tmps.size = 120 := by rw [hA]; rfl
        have st : A.tmps[4]? = some (.bool false) := by rw [hA]; rfl
        have s5 : A.tmps[5]? = some (.pointer (some ⟨w.heap.size + 2, 0, none⟩)) := by rw [hA]; rfl
        have s8 : A.tmps[8]? = some (.int .i64 (dn : Int)) := by rw [hA]; rfl
        have s13 : A.tmps[13]? = some (.slice (some ⟨gb, 0, none⟩) (16 * 128) (16 * 128)) := by rw [hA]; rfl
        have s14 : A.tmps[14]? = some (.int .i64 0) := by rw [hA]; rfl
        refine wp_region_inv2' (fun A D a w' => ∃ (l : List Value) (vt : Value) (b6 : Nat) (b10 : Nat) (b17 : Nat), a = (putAll A 96 l).put (some 4) vt ∧ l.length = 24 ∧ Below w.heap.size w w' ∧ (∀ j, j < 24 → D j → l[j]? = some (valF w dn ee gb b6 b10 b17 S1 S2 j)) ∧ (D 24 → vt = .bool true) ∧ (D 18 ∨ Dev w' w.heap.size (w.heap.size + 2) w.heap.size (w.heap.size + 1) (.slice none 0 0) 16 (appl (fun _ => z128) (ws5 5 dn)) (appl (fun _ => z128) (ws5 5 dn)) [] 0 false) ∧ (D 24 ∨ Row8 w' gb BS) ∧ (D 6 → Row8 w' b6 (sv (128 * dn) 5)) ∧ (D 10 → Row8 w' b10 (sv (128 * ee) 0)) ∧ (D 17 → Row8 w' b17 (sv (128 * 16) 8))) (by kernel_rfl) (by kernel_rfl) ?mono ?start ?step ?done
        case mono =>
          rintro D D' a w' hD ⟨l, vt, b6, b10, b17, ha, hlen, hB, hl, hvt, hDv, hRb, i6, i10, i17⟩
          exact ⟨l, vt, b6, b10, b17, ha, hlen, hB, fun j hj h => hl j hj ((hD j).2 h), fun h => hvt ((hD 24).2 h), hDv.imp_left (hD 18).1, hRb.imp_left (hD 24).1, fun h => i6 ((hD 6).2 h), fun h => i10 ((hD 10).2 h), fun h => i17 ((hD 17).2 h)⟩
        case start => exact ⟨_, _, 0, 0, 0, putT_start A 96 24 4 _ (by omega) (by decide) st, (putAll_start A 96 24 (by omega)).2, hB0.drew, fun _ _ h => h.elim, fun h => h.elim, .inr (hDb.same (fun _ _ => rfl)), .inr (hRw), fun h => h.elim, fun h => h.elim, fun h => h.elim⟩
        case step =>
          clear hA
          intro i o ho D a w' hI hn hcl hd
          obtain ⟨l, vt, b6, b10, b17, ha, hlen, hB, hl, hvt, hDv, hRb, i6, i10, i17⟩ := hI
          match i, ho with
          | 0, ho =>
            cases Option.some.inj ho
            refine ⟨rfl, ?_⟩
            have ev : a.tmps[14]? = some (.int .i64 0) := by rw [ha, putT_other _ _ _ _ (by decide), putAll_low A 96 14 l (by omega) (by decide)]; exact s14
            refine wp_value (w' := w') (v := .int .i64 0) (by simp [execOp, ev, go_sem]) ?_
            exact ⟨_, vt, b6, b10, b17, by rw [ha]; exact putT_put A 96 0 4 l _ _ (by omega) (by omega) (by decide), by rw [List.length_set]; exact hlen, hB, set_known hlen (by decide) hl, fun h => hvt (h.resolve_left (by decide)), hDv.imp_left .inr, hRb.imp_left .inr, fun h => (i6 (h.resolve_left (by decide))), fun h => (i10 (h.resolve_left (by decide))), fun h => (i17 (h.resolve_left (by decide)))⟩
          | 1, ho =>
            cases Option.some.inj ho
            refine ⟨rfl, ?_⟩
            have ev : a.tmps[96]? = some (.int .i64 0) := known_atT ha hsz hlen hl 0 (by decide) (hd ⟨0, .data⟩ (by simp) rfl)
            refine wp_value (w' := w') (v := .bool true) (by simp [execOp, ev, go_sem]) ?_
            exact ⟨_, vt, b6, b10, b17, by rw [ha]; exact putT_put A 96 1 4 l _ _ (by omega) (by omega) (by decide), by rw [List.length_set]; exact hlen, hB, set_known hlen (by decide) hl, fun h => hvt (h.resolve_left (by decide)), hDv.imp_left .inr, hRb.imp_left .inr, fun h => (i6 (h.resolve_left (by decide))), fun h => (i10 (h.resolve_left (by decide))), fun h => (i17 (h.resolve_left (by decide)))⟩
          | 2, ho =>
            cases Option.some.inj ho
            refine ⟨rfl, ?_⟩
            have ev : a.tmps[97]? = some (.bool true) := known_atT ha hsz hlen hl 1 (by decide) (hd ⟨1, .data⟩ (by simp) rfl)
            refine wp_value (w' := w') (v := .bool true) (by simp [execOp, ev, go_sem]) ?_
            exact ⟨_, vt, b6, b10, b17, by rw [ha]; exact putT_put A 96 2 4 l _ _ (by omega) (by omega) (by decide), by rw [List.length_set]; exact hlen, hB, set_known hlen (by decide) hl, fun h => hvt (h.resolve_left (by decide)), hDv.imp_left .inr, hRb.imp_left .inr, fun h => (i6 (h.resolve_left (by decide))), fun h => (i10 (h.resolve_left (by decide))), fun h => (i17 (h.resolve_left (by decide)))⟩
          | 3, ho =>
            cases Option.some.inj ho
            refine ⟨wanted_of (k := 98) rfl rfl rfl (known_atT ha hsz hlen hl 2 (by decide) (hd ⟨2, .guard⟩ (by simp) rfl)), ?_⟩
            have ev : a.tmps[13]? = some (.slice (some ⟨gb, 0, none⟩) (16 * 128) (16 * 128)) := by rw [ha, putT_other _ _ _ _ (by decide), putAll_low A 96 13 l (by omega) (by decide)]; exact s13
            refine wp_value (w' := w') (v := .slice (some ⟨gb, 0, none⟩) (16 * 128) (16 * 128)) (by simp [execOp, ev, go_sem]) ?_
            exact ⟨_, vt, b6, b10, b17, by rw [ha]; exact putT_put A 96 3 4 l _ _ (by omega) (by omega) (by decide), by rw [List.length_set]; exact hlen, hB, set_known hlen (by decide) hl, fun h => hvt (h.resolve_left (by decide)), hDv.imp_left .inr, hRb.imp_left .inr, fun h => (i6 (h.resolve_left (by decide))), fun h => (i10 (h.resolve_left (by decide))), fun h => (i17 (h.resolve_left (by decide)))⟩
          | 4, ho =>
            cases Option.some.inj ho
            refine ⟨wanted_of (k := 98) rfl rfl rfl (known_atT ha hsz hlen hl 2 (by decide) (hd ⟨2, .guard⟩ (by simp) rfl)), ?_⟩
            have ev : a.tmps[99]? = some (.slice (some ⟨gb, 0, none⟩) (16 * 128) (16 * 128)) := known_atT ha hsz hlen hl 3 (by decide) (hd ⟨3, .data⟩ (by simp) rfl)
            have hc := (hRb.resolve_left (fun h => hn (hcl 13 _ rfl (hcl 14 _ rfl (hcl 20 _ rfl (hcl 23 _ rfl (hcl 24 _ rfl h ⟨23, .data⟩ (by simp) rfl) ⟨21, .data⟩ (by simp) rfl |> fun h => hcl 21 _ rfl h ⟨20, .data⟩ (by simp) rfl) ⟨15, .data⟩ (by simp) rfl |> fun h => hcl 15 _ rfl h ⟨14, .data⟩ (by simp) rfl) ⟨13, .data⟩ (by simp) rfl) ⟨4, .data⟩ (by simp) rfl))).str hSB hBl
            refine wp_value (w' := w') (v := .string (S1 ++ S2)) (by simp [execOp, ev, go_sem, hc]) ?_
            exact ⟨_, vt, b6, b10, b17, by rw [ha]; exact putT_put A 96 4 4 l _ _ (by omega) (by omega) (by decide), by rw [List.length_set]; exact hlen, hB, set_known hlen (by decide) hl, fun h => hvt (h.resolve_left (by decide)), hDv.imp_left .inr, hRb.imp_left .inr, fun h => (i6 (h.resolve_left (by decide))), fun h => (i10 (h.resolve_left (by decide))), fun h => (i17 (h.resolve_left (by decide)))⟩
          | 5, ho =>
            cases Option.some.inj ho
            refine ⟨wanted_of (k := 98) rfl rfl rfl (known_atT ha hsz hlen hl 2 (by decide) (hd ⟨2, .guard⟩ (by simp) rfl)), ?_⟩
            have ev : a.tmps[8]? = some (.int .i64 (dn : Int)) := by rw [ha, putT_other _ _ _ _ (by decide), putAll_low A 96 8 l (by omega) (by decide)]; exact s8
            refine wp_value (w' := w') (v := .int .i64 (dn : Int)) (by simp [execOp, ev, go_sem]) ?_
            exact ⟨_, vt, b6, b10, b17, by rw [ha]; exact putT_put A 96 5 4 l _ _ (by omega) (by omega) (by decide), by rw [List.length_set]; exact hlen, hB, set_known hlen (by decide) hl, fun h => hvt (h.resolve_left (by decide)), hDv.imp_left .inr, hRb.imp_left .inr, fun h => (i6 (h.resolve_left (by decide))), fun h => (i10 (h.resolve_left (by decide))), fun h => (i17 (h.resolve_left (by decide)))⟩
          | 6, ho =>
            cases Option.some.inj ho
            refine ⟨wanted_of (k := 98) rfl rfl rfl (known_atT ha hsz hlen hl 2 (by decide) (hd ⟨2, .guard⟩ (by simp) rfl)), ?_⟩
            have ev : a.tmps[101]? = some (.int .i64 (dn : Int)) := known_atT ha hsz hlen hl 5 (by decide) (hd ⟨5, .data⟩ (by simp) rfl)
            refine wp_enter (f := 10) (args := #[.int .i64 (dn : Int), .int .u8 5]) (by simp [execOp, ev, go_sem]) ?_
            refine (full_row w' dn 5 (by omega)).mono ?_
            rintro e w6 ⟨nb, rfl, _, hR, HB⟩
            refine ⟨_, rfl, ?_⟩
            exact ⟨_, vt, nb, b10, b17, by rw [ha]; exact putT_put A 96 6 4 l _ _ (by omega) (by omega) (by decide), by rw [List.length_set]; exact hlen, below_size hB (Nat.le_refl _) HB, set_known' (val' := valF w dn ee gb nb b10 b17 S1 S2) hlen (by decide) hl (fun j hj hne => match j, hj, hne with | 0, _, _ => rfl | 1, _, _ => rfl | 2, _, _ => rfl | 3, _, _ => rfl | 4, _, _ => rfl | 5, _, _ => rfl | 6, _, hne => absurd rfl hne | 7, _, _ => rfl | 8, _, _ => rfl | 9, _, _ => rfl | 10, _, _ => rfl | 11, _, _ => rfl | 12, _, _ => rfl | 13, _, _ => rfl | 14, _, _ => rfl | 15, _, _ => rfl | 16, _, _ => rfl | 17, _, _ => rfl | 18, _, _ => rfl | 19, _, _ => rfl | 20, _, _ => rfl | 21, _, _ => rfl | 22, _, _ => rfl | 23, _, _ => rfl | j + 24, _, _ => rfl), fun h => hvt (h.resolve_left (by decide)), hDv.imp .inr (fun h => h.same (fun i hi => HB.block i hi)), hRb.imp .inr (fun h => h.below HB), fun _ => hR, fun h => (i10 (h.resolve_left (by decide))).below HB, fun h => (i17 (h.resolve_left (by decide))).below HB⟩
          | 7, ho =>
            cases Option.some.inj ho
            refine ⟨wanted_of (k := 98) rfl rfl rfl (known_atT ha hsz hlen hl 2 (by decide) (hd ⟨2, .guard⟩ (by simp) rfl)), ?_⟩
            have ev : a.tmps[102]? = some (.slice (some ⟨b6, 0, none⟩) (128 * dn) (128 * dn)) := known_atT ha hsz hlen hl 6 (by decide) (hd ⟨6, .data⟩ (by simp) rfl)
            have hc := (i6 (hd ⟨6, .data⟩ (by simp) rfl)).str hS1 List.length_replicate
            refine wp_value (w' := w') (v := .string S1) (by simp [execOp, ev, go_sem, hc]) ?_
            exact ⟨_, vt, b6, b10, b17, by rw [ha]; exact putT_put A 96 7 4 l _ _ (by omega) (by omega) (by decide), by rw [List.length_set]; exact hlen, hB, set_known hlen (by decide) hl, fun h => hvt (h.resolve_left (by decide)), hDv.imp_left .inr, hRb.imp_left .inr, fun h => (i6 (h.resolve_left (by decide))), fun h => (i10 (h.resolve_left (by decide))), fun h => (i17 (h.resolve_left (by decide)))⟩
          | 8, ho =>
            cases Option.some.inj ho
            refine ⟨wanted_of (k := 98) rfl rfl rfl (known_atT ha hsz hlen hl 2 (by decide) (hd ⟨2, .guard⟩ (by simp) rfl)), ?_⟩
            have ev : a.tmps[8]? = some (.int .i64 (dn : Int)) := by rw [ha, putT_other _ _ _ _ (by decide), putAll_low A 96 8 l (by omega) (by decide)]; exact s8
            refine wp_value (w' := w') (v := .int .i64 (dn : Int)) (by simp [execOp, ev, go_sem]) ?_
            exact ⟨_, vt, b6, b10, b17, by rw [ha]; exact putT_put A 96 8 4 l _ _ (by omega) (by omega) (by decide), by rw [List.length_set]; exact hlen, hB, set_known hlen (by decide) hl, fun h => hvt (h.resolve_left (by decide)), hDv.imp_left .inr, hRb.imp_left .inr, fun h => (i6 (h.resolve_left (by decide))), fun h => (i10 (h.resolve_left (by decide))), fun h => (i17 (h.resolve_left (by decide)))⟩
          | 9, ho =>
            cases Option.some.inj ho
            refine ⟨wanted_of (k := 98) rfl rfl rfl (known_atT ha hsz hlen hl 2 (by decide) (hd ⟨2, .guard⟩ (by simp) rfl)), ?_⟩
            have ev : a.tmps[104]? = some (.int .i64 (dn : Int)) := known_atT ha hsz hlen hl 8 (by decide) (hd ⟨8, .data⟩ (by simp) rfl)
            refine wp_value (w' := w') (v := .int .i64 (ee : Int)) (by simp [execOp, ev, go_sem, hwe]) ?_
            exact ⟨_, vt, b6, b10, b17, by rw [ha]; exact putT_put A 96 9 4 l _ _ (by omega) (by omega) (by decide), by rw [List.length_set]; exact hlen, hB, set_known hlen (by decide) hl, fun h => hvt (h.resolve_left (by decide)), hDv.imp_left .inr, hRb.imp_left .inr, fun h => (i6 (h.resolve_left (by decide))), fun h => (i10 (h.resolve_left (by decide))), fun h => (i17 (h.resolve_left (by decide)))⟩
          | 10, ho =>
            cases Option.some.inj ho
            refine ⟨wanted_of (k := 98) rfl rfl rfl (known_atT ha hsz hlen hl 2 (by decide) (hd ⟨2, .guard⟩ (by simp) rfl)), ?_⟩
            have ev : a.tmps[105]? = some (.int .i64 (ee : Int)) := known_atT ha hsz hlen hl 9 (by decide) (hd ⟨9, .data⟩ (by simp) rfl)
            refine wp_enter (f := 10) (args := #[.int .i64 (ee : Int), .int .u8 0]) (by simp [execOp, ev, go_sem]) ?_
            refine (full_row w' ee 0 (by omega)).mono ?_
            rintro e w6 ⟨nb, rfl, _, hR, HB⟩
            refine ⟨_, rfl, ?_⟩
            exact ⟨_, vt, b6, nb, b17, by rw [ha]; exact putT_put A 96 10 4 l _ _ (by omega) (by omega) (by decide), by rw [List.length_set]; exact hlen, below_size hB (Nat.le_refl _) HB, set_known' (val' := valF w dn ee gb b6 nb b17 S1 S2) hlen (by decide) hl (fun j hj hne => match j, hj, hne with | 0, _, _ => rfl | 1, _, _ => rfl | 2, _, _ => rfl | 3, _, _ => rfl | 4, _, _ => rfl | 5, _, _ => rfl | 6, _, _ => rfl | 7, _, _ => rfl | 8, _, _ => rfl | 9, _, _ => rfl | 10, _, hne => absurd rfl hne | 11, _, _ => rfl | 12, _, _ => rfl | 13, _, _ => rfl | 14, _, _ => rfl | 15, _, _ => rfl | 16, _, _ => rfl | 17, _, _ => rfl | 18, _, _ => rfl | 19, _, _ => rfl | 20, _, _ => rfl | 21, _, _ => rfl | 22, _, _ => rfl | 23, _, _ => rfl | j + 24, _, _ => rfl), fun h => hvt (h.resolve_left (by decide)), hDv.imp .inr (fun h => h.same (fun i hi => HB.block i hi)), hRb.imp .inr (fun h => h.below HB), fun h => (i6 (h.resolve_left (by decide))).below HB, fun _ => hR, fun h => (i17 (h.resolve_left (by decide))).below HB⟩
          | 11, ho =>
            cases Option.some.inj ho
            refine ⟨wanted_of (k := 98) rfl rfl rfl (known_atT ha hsz hlen hl 2 (by decide) (hd ⟨2, .guard⟩ (by simp) rfl)), ?_⟩
            have ev : a.tmps[106]? = some (.slice (some ⟨b10, 0, none⟩) (128 * ee) (128 * ee)) := known_atT ha hsz hlen hl 10 (by decide) (hd ⟨10, .data⟩ (by simp) rfl)
            have hc := (i10 (hd ⟨10, .data⟩ (by simp) rfl)).str hS2 List.length_replicate
            refine wp_value (w' := w') (v := .string S2) (by simp [execOp, ev, go_sem, hc]) ?_
            exact ⟨_, vt, b6, b10, b17, by rw [ha]; exact putT_put A 96 11 4 l _ _ (by omega) (by omega) (by decide), by rw [List.length_set]; exact hlen, hB, set_known hlen (by decide) hl, fun h => hvt (h.resolve_left (by decide)), hDv.imp_left .inr, hRb.imp_left .inr, fun h => (i6 (h.resolve_left (by decide))), fun h => (i10 (h.resolve_left (by decide))), fun h => (i17 (h.resolve_left (by decide)))⟩
          | 12, ho =>
            cases Option.some.inj ho
            refine ⟨wanted_of (k := 98) rfl rfl rfl (known_atT ha hsz hlen hl 2 (by decide) (hd ⟨2, .guard⟩ (by simp) rfl)), ?_⟩
            have ev : a.tmps[103]? = some (.string S1) := known_atT ha hsz hlen hl 7 (by decide) (hd ⟨7, .data⟩ (by simp) rfl)
            have ev' : a.tmps[107]? = some (.string S2) := known_atT ha hsz hlen hl 11 (by decide) (hd ⟨11, .data⟩ (by simp) rfl)
            refine wp_value (w' := w') (v := .string (S1 ++ S2)) (by simp [execOp, ev, ev', go_sem, hzz]) ?_
            exact ⟨_, vt, b6, b10, b17, by rw [ha]; exact putT_put A 96 12 4 l _ _ (by omega) (by omega) (by decide), by rw [List.length_set]; exact hlen, hB, set_known hlen (by decide) hl, fun h => hvt (h.resolve_left (by decide)), hDv.imp_left .inr, hRb.imp_left .inr, fun h => (i6 (h.resolve_left (by decide))), fun h => (i10 (h.resolve_left (by decide))), fun h => (i17 (h.resolve_left (by decide)))⟩
          | 13, ho =>
            cases Option.some.inj ho
            refine ⟨wanted_of (k := 98) rfl rfl rfl (known_atT ha hsz hlen hl 2 (by decide) (hd ⟨2, .guard⟩ (by simp) rfl)), ?_⟩
            have ev : a.tmps[100]? = some (.string (S1 ++ S2)) := known_atT ha hsz hlen hl 4 (by decide) (hd ⟨4, .data⟩ (by simp) rfl)
            have ev' : a.tmps[108]? = some (.string (S1 ++ S2)) := known_atT ha hsz hlen hl 12 (by decide) (hd ⟨12, .data⟩ (by simp) rfl)
            refine wp_value (w' := w') (v := .bool true) (by simp [execOp, ev, ev', go_sem]) ?_
            exact ⟨_, vt, b6, b10, b17, by rw [ha]; exact putT_put A 96 13 4 l _ _ (by omega) (by omega) (by decide), by rw [List.length_set]; exact hlen, hB, set_known hlen (by decide) hl, fun h => hvt (h.resolve_left (by decide)), hDv.imp_left .inr, hRb.imp_left .inr, fun h => (i6 (h.resolve_left (by decide))), fun h => (i10 (h.resolve_left (by decide))), fun h => (i17 (h.resolve_left (by decide)))⟩
          | 14, ho =>
            cases Option.some.inj ho
            refine ⟨rfl, ?_⟩
            have ev : a.tmps[98]? = some (.bool true) := known_atT ha hsz hlen hl 2 (by decide) (hd ⟨2, .data⟩ (by simp) rfl)
            have ev' : a.tmps[109]? = some (.bool true) := known_atT ha hsz hlen hl 13 (by decide) (hd ⟨13, .data⟩ (by simp) rfl)
            refine wp_value (w' := w') (v := .bool true) (by simp [execOp, ev, ev', go_sem]) ?_
            exact ⟨_, vt, b6, b10, b17, by rw [ha]; exact putT_put A 96 14 4 l _ _ (by omega) (by omega) (by decide), by rw [List.length_set]; exact hlen, hB, set_known hlen (by decide) hl, fun h => hvt (h.resolve_left (by decide)), hDv.imp_left .inr, hRb.imp_left .inr, fun h => (i6 (h.resolve_left (by decide))), fun h => (i10 (h.resolve_left (by decide))), fun h => (i17 (h.resolve_left (by decide)))⟩
          | 15, ho =>
            cases Option.some.inj ho
            refine ⟨rfl, ?_⟩
            have ev : a.tmps[110]? = some (.bool true) := known_atT ha hsz hlen hl 14 (by decide) (hd ⟨14, .data⟩ (by simp) rfl)
            refine wp_value (w' := w') (v := .bool true) (by simp [execOp, ev, go_sem]) ?_
            exact ⟨_, vt, b6, b10, b17, by rw [ha]; exact putT_put A 96 15 4 l _ _ (by omega) (by omega) (by decide), by rw [List.length_set]; exact hlen, hB, set_known hlen (by decide) hl, fun h => hvt (h.resolve_left (by decide)), hDv.imp_left .inr, hRb.imp_left .inr, fun h => (i6 (h.resolve_left (by decide))), fun h => (i10 (h.resolve_left (by decide))), fun h => (i17 (h.resolve_left (by decide)))⟩
          | 16, ho =>
            cases Option.some.inj ho
            refine ⟨wanted_of (k := 111) rfl rfl rfl (known_atT ha hsz hlen hl 15 (by decide) (hd ⟨15, .guard⟩ (by simp) rfl)), ?_⟩
            have ev : a.tmps[5]? = some (.pointer (some ⟨w.heap.size + 2, 0, none⟩)) := by rw [ha, putT_other _ _ _ _ (by decide), putAll_low A 96 5 l (by omega) (by decide)]; exact s5
            refine wp_value (w' := w') (v := .pointer (some ⟨w.heap.size + 2, 0, none⟩)) (by simp [execOp, ev, go_sem]) ?_
            exact ⟨_, vt, b6, b10, b17, by rw [ha]; exact putT_put A 96 16 4 l _ _ (by omega) (by omega) (by decide), by rw [List.length_set]; exact hlen, hB, set_known hlen (by decide) hl, fun h => hvt (h.resolve_left (by decide)), hDv.imp_left .inr, hRb.imp_left .inr, fun h => (i6 (h.resolve_left (by decide))), fun h => (i10 (h.resolve_left (by decide))), fun h => (i17 (h.resolve_left (by decide)))⟩
          | 17, ho =>
            cases Option.some.inj ho
            refine ⟨wanted_of (k := 111) rfl rfl rfl (known_atT ha hsz hlen hl 15 (by decide) (hd ⟨15, .guard⟩ (by simp) rfl)), ?_⟩
            refine wp_enter (f := 10) (args := #[.int .i64 16, .int .u8 8]) (by simp [execOp, go_sem]) ?_
            refine (full_16 w' 8).mono ?_
            rintro e w6 ⟨nb, rfl, hR, HB⟩
            refine ⟨_, rfl, ?_⟩
            exact ⟨_, vt, b6, b10, nb, by rw [ha]; exact putT_put A 96 17 4 l _ _ (by omega) (by omega) (by decide), by rw [List.length_set]; exact hlen, below_size hB (Nat.le_refl _) HB, set_known' (val' := valF w dn ee gb b6 b10 nb S1 S2) hlen (by decide) hl (fun j hj hne => match j, hj, hne with | 0, _, _ => rfl | 1, _, _ => rfl | 2, _, _ => rfl | 3, _, _ => rfl | 4, _, _ => rfl | 5, _, _ => rfl | 6, _, _ => rfl | 7, _, _ => rfl | 8, _, _ => rfl | 9, _, _ => rfl | 10, _, _ => rfl | 11, _, _ => rfl | 12, _, _ => rfl | 13, _, _ => rfl | 14, _, _ => rfl | 15, _, _ => rfl | 16, _, _ => rfl | 17, _, hne => absurd rfl hne | 18, _, _ => rfl | 19, _, _ => rfl | 20, _, _ => rfl | 21, _, _ => rfl | 22, _, _ => rfl | 23, _, _ => rfl | j + 24, _, _ => rfl), fun h => hvt (h.resolve_left (by decide)), hDv.imp .inr (fun h => h.same (fun i hi => HB.block i hi)), hRb.imp .inr (fun h => h.below HB), fun h => (i6 (h.resolve_left (by decide))).below HB, fun h => (i10 (h.resolve_left (by decide))).below HB, fun _ => hR⟩
          | 18, ho =>
            cases Option.some.inj ho
            refine ⟨wanted_of (k := 111) rfl rfl rfl (known_atT ha hsz hlen hl 15 (by decide) (hd ⟨15, .guard⟩ (by simp) rfl)), ?_⟩
            have ev : a.tmps[112]? = some (.pointer (some ⟨w.heap.size + 2, 0, none⟩)) := known_atT ha hsz hlen hl 16 (by decide) (hd ⟨16, .data⟩ (by simp) rfl)
            have ev' : a.tmps[113]? = some (.slice (some ⟨b17, 0, none⟩) (128 * 16) (128 * 16)) := known_atT ha hsz hlen hl 17 (by decide) (hd ⟨17, .data⟩ (by simp) rfl)
            refine wp_enter (f := 9) (args := #[.pointer (some ⟨w.heap.size + 2, 0, none⟩), .int .i64 0, .slice (some ⟨b17, 0, none⟩) (128 * 16) (128 * 16)]) (by simp [execOp, ev, ev', go_sem]) ?_
            refine (write_16 (hDv.resolve_left hn) (i17 (hd ⟨17, .data⟩ (by simp) rfl))).mono ?_
            rintro e w6 ⟨rfl, pv8, F8⟩
            refine ⟨_, rfl, ?_⟩
            exact ⟨_, vt, b6, b10, b17, by rw [ha]; exact putT_put A 96 18 4 l _ _ (by omega) (by omega) (by decide), by rw [List.length_set]; exact hlen, hB.trans (F8.below (hDv.resolve_left hn)), set_known hlen (by decide) hl, fun h => hvt (h.resolve_left (by decide)), .inl (.inl rfl), hRb.imp .inr (fun h => h.fr (hDv.resolve_left hn) F8), fun h => (i6 (h.resolve_left (by decide))).fr (hDv.resolve_left hn) F8, fun h => (i10 (h.resolve_left (by decide))).fr (hDv.resolve_left hn) F8, fun h => (i17 (h.resolve_left (by decide))).fr (hDv.resolve_left hn) F8⟩
          | 19, ho =>
            cases Option.some.inj ho
            refine ⟨wanted_of (k := 111) rfl rfl rfl (known_atT ha hsz hlen hl 15 (by decide) (hd ⟨15, .guard⟩ (by simp) rfl)), ?_⟩
            have ev : a.tmps[114]? = some (.int .i64 0) := known_atT ha hsz hlen hl 18 (by decide) (hd ⟨18, .data⟩ (by simp) rfl)
            refine wp_value (w' := w') (v := .bool true) (by simp [execOp, ev, go_sem]) ?_
            exact ⟨_, vt, b6, b10, b17, by rw [ha]; exact putT_put A 96 19 4 l _ _ (by omega) (by omega) (by decide), by rw [List.length_set]; exact hlen, hB, set_known hlen (by decide) hl, fun h => hvt (h.resolve_left (by decide)), hDv.imp_left .inr, hRb.imp_left .inr, fun h => (i6 (h.resolve_left (by decide))), fun h => (i10 (h.resolve_left (by decide))), fun h => (i17 (h.resolve_left (by decide)))⟩
          | 20, ho =>
            cases Option.some.inj ho
            refine ⟨rfl, ?_⟩
            have ev : a.tmps[111]? = some (.bool true) := known_atT ha hsz hlen hl 15 (by decide) (hd ⟨15, .data⟩ (by simp) rfl)
            have ev' : a.tmps[115]? = some (.bool true) := known_atT ha hsz hlen hl 19 (by decide) (hd ⟨19, .data⟩ (by simp) rfl)
            refine wp_value (w' := w') (v := .bool true) (by simp [execOp, ev, ev', go_sem]) ?_
            exact ⟨_, vt, b6, b10, b17, by rw [ha]; exact putT_put A 96 20 4 l _ _ (by omega) (by omega) (by decide), by rw [List.length_set]; exact hlen, hB, set_known hlen (by decide) hl, fun h => hvt (h.resolve_left (by decide)), hDv.imp_left .inr, hRb.imp_left .inr, fun h => (i6 (h.resolve_left (by decide))), fun h => (i10 (h.resolve_left (by decide))), fun h => (i17 (h.resolve_left (by decide)))⟩
          | 21, ho =>
            cases Option.some.inj ho
            refine ⟨rfl, ?_⟩
            have ev : a.tmps[116]? = some (.bool true) := known_atT ha hsz hlen hl 20 (by decide) (hd ⟨20, .data⟩ (by simp) rfl)
            refine wp_value (w' := w') (v := .bool true) (by simp [execOp, ev, go_sem]) ?_
            exact ⟨_, vt, b6, b10, b17, by rw [ha]; exact putT_put A 96 21 4 l _ _ (by omega) (by omega) (by decide), by rw [List.length_set]; exact hlen, hB, set_known hlen (by decide) hl, fun h => hvt (h.resolve_left (by decide)), hDv.imp_left .inr, hRb.imp_left .inr, fun h => (i6 (h.resolve_left (by decide))), fun h => (i10 (h.resolve_left (by decide))), fun h => (i17 (h.resolve_left (by decide)))⟩
          | 22, ho =>
            cases Option.some.inj ho
            refine ⟨wanted_of (k := 117) rfl rfl rfl (known_atT ha hsz hlen hl 21 (by decide) (hd ⟨21, .guard⟩ (by simp) rfl)), ?_⟩
            refine wp_enter (f := 16) (args := #[]) (by simp [execOp, go_sem]) ?_
            refine (known_true w').mono ?_
            rintro e w6 ⟨rfl, HB⟩
            refine ⟨_, rfl, ?_⟩
            exact ⟨_, vt, b6, b10, b17, by rw [ha]; exact putT_put A 96 22 4 l _ _ (by omega) (by omega) (by decide), by rw [List.length_set]; exact hlen, below_size hB (Nat.le_refl _) HB, set_known hlen (by decide) hl, fun h => hvt (h.resolve_left (by decide)), hDv.imp .inr (fun h => h.same (fun i hi => HB.block i hi)), hRb.imp .inr (fun h => h.below HB), fun h => (i6 (h.resolve_left (by decide))).below HB, fun h => (i10 (h.resolve_left (by decide))).below HB, fun h => (i17 (h.resolve_left (by decide))).below HB⟩
          | 23, ho =>
            cases Option.some.inj ho
            refine ⟨rfl, ?_⟩
            have ev : a.tmps[117]? = some (.bool true) := known_atT ha hsz hlen hl 21 (by decide) (hd ⟨21, .data⟩ (by simp) rfl)
            have ev' : a.tmps[118]? = some (.bool true) := known_atT ha hsz hlen hl 22 (by decide) (hd ⟨22, .data⟩ (by simp) rfl)
            refine wp_value (w' := w') (v := .bool true) (by simp [execOp, ev, ev', go_sem]) ?_
            exact ⟨_, vt, b6, b10, b17, by rw [ha]; exact putT_put A 96 23 4 l _ _ (by omega) (by omega) (by decide), by rw [List.length_set]; exact hlen, hB, set_known hlen (by decide) hl, fun h => hvt (h.resolve_left (by decide)), hDv.imp_left .inr, hRb.imp_left .inr, fun h => (i6 (h.resolve_left (by decide))), fun h => (i10 (h.resolve_left (by decide))), fun h => (i17 (h.resolve_left (by decide)))⟩
          | 24, ho =>
            cases Option.some.inj ho
            refine ⟨rfl, ?_⟩
            have ev : a.tmps[119]? = some (.bool true) := known_atT ha hsz hlen hl 23 (by decide) (hd ⟨23, .data⟩ (by simp) rfl)
            refine wp_value (w' := w') (v := .bool true) (by simp [execOp, ev, go_sem]) ?_
            exact ⟨l, (.bool true), b6, b10, b17, by rw [ha]; exact putT_again _ _ _ _, hlen, hB, fun j hj h => hl j hj (h.resolve_left (by omega)), fun _ => rfl, hDv.imp_left .inr, hRb.imp_left .inr, fun h => i6 (h.resolve_left (by decide)), fun h => i10 (h.resolve_left (by decide)), fun h => i17 (h.resolve_left (by decide))⟩
          | i + 25, ho => simp at ho
        case done =>
          rintro D a w' ⟨l, vt, b6, b10, b17, ha, hlen, hB, hl, hvt, hDv, hRb, i6, i10, i17⟩ hall
          obtain rfl := hvt (hall 24 (by decide))
          obtain ⟨v0, v1, v2, v3, v4, v5, v6, v7, v8, v9, v10, v11, v12, v13, v14, v15, v16, v17, v18, v19, v20, v21, v22, v23, rfl⟩ := valF_list hlen
          clear hl hall i6 i10 i17 hDv hRb hlen
          clear st s5 s8 s13 s14 hsz
          subst hA
          have hfr : a = _ := ha
          rw [hfr]
          clear hfr ha
          simp only [putAll, List.take_succ_cons, List.take_zero, List.drop_succ_cons, List.drop_zero, List.cons_append, List.nil_append, List.length_cons, List.length_nil]
          simp only [Act.put, List.setIfInBounds_toArray, List.set_cons_zero, List.set_cons_succ]
          go_wp2
          go_ret
          exact ⟨rfl, hB⟩
      · have hlt : (j' : Int) < (dn : Int) := by omega
        have hw1 : IntKind.i64.wrap ((j' : Int) + 1) = (j' : Int) + 1 := by rw [IntKind.wrap_i64]; omega
        have hcell : ∀ i u, ([Value.bool true] : List Value)[i]? = some u → (wr.alloc (.cells #[.bool true] 4)).cell? ((⟨wr.heap.size, 0, none⟩ : Addr).add i) = some u := by
          intro i u hu
          obtain rfl : i = 0 := by
            rcases Nat.eq_zero_or_pos i with h | h
            · exact h
            · rw [List.getElem?_eq_none (show 1 ≤ i from h)] at hu; cases hu
          have : (⟨wr.heap.size, 0, none⟩ : Addr).add 0 = ⟨wr.heap.size, 0, none⟩ := by unfold Addr.add; split <;> simp_all
          rw [this, cell_of_row _ _ 0 _ _ _ (heap_alloc_new wr (.cells #[.bool true] 4))]
          simpa using hu
        have hrow2 := own_same (w' := wr.alloc (.cells #[.bool true] 4)) hrow (fun g hg => Below.heap_alloc _ _ _ (by obtain ⟨_, _, hh⟩ := own_block hrow hg; exact lt_of_block hh))
        have hwl := hbe.size
        go_wp2_with (at_builtin; refine wpList_append_own _ rfl _ _ 23 rfl wt.heap.size 4 i0 (.bool false) 1 1 Try.underlying23 hi hz0 hz1 hz2 rfl (by decide) _ _ _ rfl hrow2 ⟨wr.heap.size, 0, none⟩ 1 1 [.bool true] rfl rfl hcell (by simp [Value.oneCell']) (by unfold maxLen; omega) (by omega) (by simp; omega) ?_; intro v' w1 hown' hgrow _; obtain ⟨g', cap', rfl⟩ := own_succ hown')
        go_roundw
        case rel =>
          refine ⟨j' + 1, by omega, rfl, ?_, ?_⟩
          · rw [List.replicate_succ']
            exact hown'
          · exact ⟨hgrow.os.trans hbe.os, hgrow.tape.trans hbe.tape, hgrow.output.trans hbe.output, Nat.le_trans (by simp; omega) hgrow.size, fun i hi' => (hgrow.block i (by simp; omega) (fun e => by obtain ⟨hb, _⟩ := own_block hrow e.symm; omega)).trans ((Below.heap_alloc _ _ _ (by omega)).trans (hbe.block i hi'))⟩
        case measure => simp [intOf]; omega
  · have hB4 := hB3.trans (F4.below D3)
    have hjN : N = j + 1 := by rcases hjn with ⟨h, _⟩ | ⟨_, h⟩
                               · cases h
                               · omega
    subst hjN
    have hMN : ¬ (M : Int) < ((j + 1 : Nat) : Int) := by omega
    have hMN' : ((j + 1 : Nat) : Int) ≤ (M : Int) := by omega
    clear D3 F4 hB3 hR3 hjn
    go_wp2_with fail
    refine (read_dead D4 (by decide) (by decide) 0 1 (by decide) (by decide)).mono ?_
    rintro e w5 ⟨rfl, rfl⟩
    go_wp2_with fail
    refine (full_one w4 6).mono ?_
    rintro e w5 ⟨b5, rfl, hR5, hb5⟩
    have D5 := D4.same (fun i hi => hb5.block i hi)
    have hB5 := below_size hB4 (Nat.le_refl _) hb5
    clear D4 hb5 hB4
    go_wp2_with fail
    refine (write_on_dead D5 hR5 (by omega) (by omega) (by rw [ws5_len]; omega)).mono ?_
    rintro e w6 ⟨rfl, pv6, D6, F6⟩
    have hB6 := hB5.trans (F6.below D5)
    clear D5 F6 hB5 hR5
    go_wp2_with fail
    refine (flush_dead D6).mono ?_
    rintro e w7 ⟨rfl, rfl⟩
    obtain ⟨dn, rfl⟩ : ∃ dn, dn = j := ⟨_, rfl⟩
    have DT := D6
    have hBT := hB6
    clear D6 hB6
    generalize w6 = wt at *
    -- done is known: DT, hdn
    go_wp2_with fail
    refine (pending_any DT).mono ?_
    rintro e w4 ⟨rfl, rfl⟩
    rw [ws5_len]
    go_wp2
    obtain ⟨i0, hi, hz0, hz1, hz2⟩ := info_parts Try.info4
    go_loopw [11, 12] (fun v i wr => ∃ j : Nat, j ≤ dn ∧ i = .int .i64 (j : Int) ∧ wr.ownsRow wt.heap.size 4 1 v j (List.replicate j (.bool true)) ∧ Below wt.heap.size wt wr) (fun _ i _ => dn - (intOf i).toNat)
    case atStart => exact ⟨0, by omega, rfl, World.ownsRow_nil _ _ _ _, Below.refl _ _⟩
    case round =>
      obtain ⟨j', hj', rfl, hrow, hbe⟩ := hrel
      by_cases hjn : j' = dn
      · have hlt : ¬ (j' : Int) < (dn : Int) := by omega
        have DW := DT.same (fun i hi => hbe.block i hi)
        have hBW := below_size hBT (Nat.le_refl _) hbe
        have hcr := crash_all (L := ws5 5 dn) DW (v := u11) (B := wt.heap.size) (by rw [ws5_len, ← hjn]; exact hrow) DT.lt DT.safe.lt DT.now.lt (fun g hg => DT.pvlt hg) (by rw [ws5_len]; omega)
        clear hrow hbe DT hjn hBT
        go_wp2_with fail
        refine hcr.mono ?_
        rintro e w5 ⟨rfl, D5, F5⟩
        have hB5 := hBW.trans (F5.below DW)
        clear hcr DW F5 hBW
        go_wp2_with fail
        refine (Read_some D5 (by decide) (by decide) 0 16 (by decide) (by decide)).mono ?_
        rintro e w6 ⟨rfl, hR6, hg6⟩
        have hB6 := below_size hB5 (Nat.le_refl _) (below_of hg6)
        have D6 := D5.same (fun i hi => hg6.block i hi (by simp))
        obtain ⟨ee, hee⟩ : ∃ ee : Nat, Hid (ee = 16 - dn) := ⟨_, rfl⟩
        have hwe : IntKind.i64.wrap (16 - (dn : Int)) = (ee : Int) := by have := hee.out; rw [IntKind.wrap_i64]; omega
        have he1 : ee ≤ 16 := by have := hee.out; omega
        obtain ⟨S1, hS1⟩ : ∃ S, Hid (strOfNums (sv (128 * dn) 5) = S) := ⟨_, rfl⟩
        obtain ⟨S2, hS2⟩ : ∃ S, Hid (strOfNums (sv (128 * ee) 0) = S) := ⟨_, rfl⟩
        have hzz : S1.size + S2.size ≤ 9223372036854775807 := by
          rw [← hS1.out, ← hS2.out, str_size, str_size, sv, sv, List.length_replicate, List.length_replicate]
          omega
        have hSB : Hid (strOfNums (catS (appl (fun _ => z128) (ws5 5 dn)) 0 16) = S1 ++ S2) := by
          show _ = _
          rw [← hS1.out, ← hS2.out, ← str_append, cat5 dn (by omega), hee.out]
        have hBl : (catS (appl (fun _ => z128) (ws5 5 dn)) 0 16).length = 16 * 128 := catS_len (fun k => D5.now.isSec k) 0 16
        have hRw : Row8 w6 w5.heap.size (catS (appl (fun _ => z128) (ws5 5 dn)) 0 16) := hR6
        clear hR6 hg6 D5 hB5 hee
        generalize hgb : w5.heap.size = gb at *
        clear hgb
        generalize catS (appl (fun _ => z128) (ws5 5 dn)) 0 16 = BS at *
        go_wp2
        have hB0 := hB6
        have hDb := D6
        clear hB6 D6
        refine abstract_act fun A hA => ?_
        have hsz : A.tmps.size = 120 := by rw [hA]; rfl
        have st : A.tmps[4]? = some (.bool false) := by rw [hA]; rfl
        have s5 : A.tmps[5]? = some (.pointer (some ⟨w.heap.size + 2, 0, none⟩)) := by rw [hA]; rfl
        have s8 : A.tmps[8]? = some (.int .i64 (dn : Int)) := by rw [hA]; rfl
        have s13 : A.tmps[13]? = some (.slice (some ⟨gb, 0, none⟩) (16 * 128) (16 * 128)) := by rw [hA]; rfl
        have s14 : A.tmps[14]? = some (.int .i64 0) := by rw [hA]; rfl
        refine wp_region_inv2' (fun A D a w' => ∃ (l : List Value) (vt : Value) (b6 : Nat) (b10 : Nat) (b17 : Nat), a = (putAll A 96 l).put (some 4) vt ∧ l.length = 24 ∧ Below w.heap.size w w' ∧ (∀ j, j < 24 → D j → l[j]? = some (valF w dn ee gb b6 b10 b17 S1 S2 j)) ∧ (D 24 → vt = .bool true) ∧ (D 18 ∨ Dev w' w.heap.size (w.heap.size + 2) w.heap.size (w.heap.size + 1) (.slice none 0 0) 16 (appl (fun _ => z128) (ws5 5 dn)) (appl (fun _ => z128) (ws5 5 dn)) [] 0 false) ∧ (D 24 ∨ Row8 w' gb BS) ∧ (D 6 → Row8 w' b6 (sv (128 * dn) 5)) ∧ (D 10 → Row8 w' b10 (sv (128 * ee) 0)) ∧ (D 17 → Row8 w' b17 (sv (128 * 16) 8))) (by kernel_rfl) (by kernel_rfl) ?mono ?start ?step ?done
        case mono =>
          rintro D D' a w' hD ⟨l, vt, b6, b10, b17, ha, hlen, hB, hl, hvt, hDv, hRb, i6, i10, i17⟩
          exact ⟨l, vt, b6, b10, b17, ha, hlen, hB, fun j hj h => hl j hj ((hD j).2 h), fun h => hvt ((hD 24).2 h), hDv.imp_left (hD 18).1, hRb.imp_left (hD 24).1, fun h => i6 ((hD 6).2 h), fun h => i10 ((hD 10).2 h), fun h => i17 ((hD 17).2 h)⟩
        case start => exact ⟨_, _, 0, 0, 0, putT_start A 96 24 4 _ (by omega) (by decide) st, (putAll_start A 96 24 (by omega)).2, hB0.drew, fun _ _ h => h.elim, fun h => h.elim, .inr (hDb.same (fun _ _ => rfl)), .inr (hRw), fun h => h.elim, fun h => h.elim, fun h => h.elim⟩
        case step =>
          clear hA
          intro i o ho D a w' hI hn hcl hd
          obtain ⟨l, vt, b6, b10, b17, ha, hlen, hB, hl, hvt, hDv, hRb, i6, i10, i17⟩ := hI
          match i, ho with
          | 0, ho =>
            cases Option.some.inj ho
            refine ⟨rfl, ?_⟩
            have ev : a.tmps[14]? = some (.int .i64 0) := by rw [ha, putT_other _ _ _ _ (by decide), putAll_low A 96 14 l (by omega) (by decide)]; exact s14
            refine wp_value (w' := w') (v := .int .i64 0) (by simp [execOp, ev, go_sem]) ?_
            exact ⟨_, vt, b6, b10, b17, by rw [ha]; exact putT_put A 96 0 4 l _ _ (by omega) (by omega) (by decide), by rw [List.length_set]; exact hlen, hB, set_known hlen (by decide) hl, fun h => hvt (h.resolve_left (by decide)), hDv.imp_left .inr, hRb.imp_left .inr, fun h => (i6 (h.resolve_left (by decide))), fun h => (i10 (h.resolve_left (by decide))), fun h => (i17 (h.resolve_left (by decide)))⟩
          | 1, ho =>
            cases Option.some.inj ho
            refine ⟨rfl, ?_⟩
            have ev : a.tmps[96]? = some (.int .i64 0) := known_atT ha hsz hlen hl 0 (by decide) (hd ⟨0, .data⟩ (by simp) rfl)
            refine wp_value (w' := w') (v := .bool true) (by simp [execOp, ev, go_sem]) ?_
            exact ⟨_, vt, b6, b10, b17, by rw [ha]; exact putT_put A 96 1 4 l _ _ (by omega) (by omega) (by decide), by rw [List.length_set]; exact hlen, hB, set_known hlen (by decide) hl, fun h => hvt (h.resolve_left (by decide)), hDv.imp_left .inr, hRb.imp_left .inr, fun h => (i6 (h.resolve_left (by decide))), fun h => (i10 (h.resolve_left (by decide))), fun h => (i17 (h.resolve_left (by decide)))⟩
          | 2, ho =>
            cases Option.some.inj ho
            refine ⟨rfl, ?_⟩
            have ev : a.tmps[97]? = some (.bool true) := known_atT ha hsz hlen hl 1 (by decide) (hd ⟨1, .data⟩ (by simp) rfl)
            refine wp_value (w' := w') (v := .bool true) (by simp [execOp, ev, go_sem]) ?_
            exact ⟨_, vt, b6, b10, b17, by rw [ha]; exact putT_put A 96 2 4 l _ _ (by omega) (by omega) (by decide), by rw [List.length_set]; exact hlen, hB, set_known hlen (by decide) hl, fun h => hvt (h.resolve_left (by decide)), hDv.imp_left .inr, hRb.imp_left .inr, fun h => (i6 (h.resolve_left (by decide))), fun h => (i10 (h.resolve_left (by decide))), fun h => (i17 (h.resolve_left (by decide)))⟩
          | 3, ho =>
            cases Option.some.inj ho
            refine ⟨wanted_of (k := 98) rfl rfl rfl (known_atT ha hsz hlen hl 2 (by decide) (hd ⟨2, .guard⟩ (by simp) rfl)), ?_⟩
            have ev : a.tmps[13]? = some (.slice (some ⟨gb, 0, none⟩) (16 * 128) (16 * 128)) := by rw [ha, putT_other _ _ _ _ (by decide), putAll_low A 96 13 l (by omega) (by decide)]; exact s13
            refine wp_value (w' := w') (v := .slice (some ⟨gb, 0, none⟩) (16 * 128) (16 * 128)) (by simp [execOp, ev, go_sem]) ?_
            exact ⟨_, vt, b6, b10, b17, by rw [ha]; exact putT_put A 96 3 4 l _ _ (by omega) (by omega) (by decide), by rw [List.length_set]; exact hlen, hB, set_known hlen (by decide) hl, fun h => hvt (h.resolve_left (by decide)), hDv.imp_left .inr, hRb.imp_left .inr, fun h => (i6 (h.resolve_left (by decide))), fun h => (i10 (h.resolve_left (by decide))), fun h => (i17 (h.resolve_left (by decide)))⟩
          | 4, ho =>
            cases Option.some.inj ho
            refine ⟨wanted_of (k := 98) rfl rfl rfl (known_atT ha hsz hlen hl 2 (by decide) (hd ⟨2, .guard⟩ (by simp) rfl)), ?_⟩
            have ev : a.tmps[99]? = some (.slice (some ⟨gb, 0, none⟩) (16 * 128) (16 * 128)) := known_atT ha hsz hlen hl 3 (by decide) (hd ⟨3, .data⟩ (by simp) rfl)
            have hc := (hRb.resolve_left (fun h => hn (hcl 13 _ rfl (hcl 14 _ rfl (hcl 20 _ rfl (hcl 23 _ rfl (hcl 24 _ rfl h ⟨23, .data⟩ (by simp) rfl) ⟨21, .data⟩ (by simp) rfl |> fun h => hcl 21 _ rfl h ⟨20, .data⟩ (by simp) rfl) ⟨15, .data⟩ (by simp) rfl |> fun h => hcl 15 _ rfl h ⟨14, .data⟩ (by simp) rfl) ⟨13, .data⟩ (by simp) rfl) ⟨4, .data⟩ (by simp) rfl))).str hSB hBl
            refine wp_value (w' := w') (v := .string (S1 ++ S2)) (by simp [execOp, ev, go_sem, hc]) ?_
            exact ⟨_, vt, b6, b10, b17, by rw [ha]; exact putT_put A 96 4 4 l _ _ (by omega) (by omega) (by decide), by rw [List.length_set]; exact hlen, hB, set_known hlen (by decide) hl, fun h => hvt (h.resolve_left (by decide)), hDv.imp_left .inr, hRb.imp_left .inr, fun h => (i6 (h.resolve_left (by decide))), fun h => (i10 (h.resolve_left (by decide))), fun h => (i17 (h.resolve_left (by decide)))⟩
          | 5, ho =>
            cases Option.some.inj ho
            refine ⟨wanted_of (k := 98) rfl rfl rfl (known_atT ha hsz hlen hl 2 (by decide) (hd ⟨2, .guard⟩ (by simp) rfl)), ?_⟩
            have ev : a.tmps[8]? = some (.int .i64 (dn : Int)) := by rw [ha, putT_other _ _ _ _ (by decide), putAll_low A 96 8 l (by omega) (by decide)]; exact s8
            refine wp_value (w' := w') (v := .int .i64 (dn : Int)) (by simp [execOp, ev, go_sem]) ?_
            exact ⟨_, vt, b6, b10, b17, by rw [ha]; exact putT_put A 96 5 4 l _ _ (by omega) (by omega) (by decide), by rw [List.length_set]; exact hlen, hB, set_known hlen (by decide) hl, fun h => hvt (h.resolve_left (by decide)), hDv.imp_left .inr, hRb.imp_left .inr, fun h => (i6 (h.resolve_left (by decide))), fun h => (i10 (h.resolve_left (by decide))), fun h => (i17 (h.resolve_left (by decide)))⟩
          | 6, ho =>
            cases Option.some.inj ho
            refine ⟨wanted_of (k := 98) rfl rfl rfl (known_atT ha hsz hlen hl 2 (by decide) (hd ⟨2, .guard⟩ (by simp) rfl)), ?_⟩
            have ev : a.tmps[101]? = some (.int .i64 (dn : Int)) := known_atT ha hsz hlen hl 5 (by decide) (hd ⟨5, .data⟩ (by simp) rfl)
            refine wp_enter (f := 10) (args := #[.int .i64 (dn : Int), .int .u8 5]) (by simp [execOp, ev, go_sem]) ?_
            refine (full_row w' dn 5 (by omega)).mono ?_
            rintro e w6 ⟨nb, rfl, _, hR, HB⟩
            refine ⟨_, rfl, ?_⟩
            exact ⟨_, vt, nb, b10, b17, by rw [ha]; exact putT_put A 96 6 4 l _ _ (by omega) (by omega) (by decide), by rw [List.length_set]; exact hlen, below_size hB (Nat.le_refl _) HB, set_known' (val' := valF w dn ee gb nb b10 b17 S1 S2) hlen (by decide) hl (fun j hj hne => match j, hj, hne with | 0, _, _ => rfl | 1, _, _ => rfl | 2, _, _ => rfl | 3, _, _ => rfl | 4, _, _ => rfl | 5, _, _ => rfl | 6, _, hne => absurd rfl hne | 7, _, _ => rfl | 8, _, _ => rfl | 9, _, _ => rfl | 10, _, _ => rfl | 11, _, _ => rfl | 12, _, _ => rfl | 13, _, _ => rfl | 14, _, _ => rfl | 15, _, _ => rfl | 16, _, _ => rfl | 17, _, _ => rfl | 18, _, _ => rfl | 19, _, _ => rfl | 20, _, _ => rfl | 21, _, _ => rfl | 22, _, _ => rfl | 23, _, _ => rfl | j + 24, _, _ => rfl), fun h => hvt (h.resolve_left (by decide)), hDv.imp .inr (fun h => h.same (fun i hi => HB.block i hi)), hRb.imp .inr (fun h => h.below HB), fun _ => hR, fun h => (i10 (h.resolve_left (by decide))).below HB, fun h => (i17 (h.resolve_left (by decide))).below HB⟩
          | 7, ho =>
            cases Option.some.inj ho
            refine ⟨wanted_of (k := 98) rfl rfl rfl (known_atT ha hsz hlen hl 2 (by decide) (hd ⟨2, .guard⟩ (by simp) rfl)), ?_⟩
            have ev : a.tmps[102]? = some (.slice (some ⟨b6, 0, none⟩) (128 * dn) (128 * dn)) := known_atT ha hsz hlen hl 6 (by decide) (hd ⟨6, .data⟩ (by simp) rfl)
            have hc := (i6 (hd ⟨6, .data⟩ (by simp) rfl)).str hS1 List.length_replicate
            refine wp_value (w' := w') (v := .string S1) (by simp [execOp, ev, go_sem, hc]) ?_
            exact ⟨_, vt, b6, b10, b17, by rw [ha]; exact putT_put A 96 7 4 l _ _ (by omega) (by omega) (by decide), by rw [List.length_set]; exact hlen, hB, set_known hlen (by decide) hl, fun h => hvt (h.resolve_left (by decide)), hDv.imp_left .inr, hRb.imp_left .inr, fun h => (i6 (h.resolve_left (by decide))), fun h => (i10 (h.resolve_left (by decide))), fun h => (i17 (h.resolve_left (by decide)))⟩
          | 8, ho =>
            cases Option.some.inj ho
            refine ⟨wanted_of (k := 98) rfl rfl rfl (known_atT ha hsz hlen hl 2 (by decide) (hd ⟨2, .guard⟩ (by simp) rfl)), ?_⟩
            have ev : a.tmps[8]? = some (.int .i64 (dn : Int)) := by rw [ha, putT_other _ _ _ _ (by decide), putAll_low A 96 8 l (by omega) (by decide)]; exact s8
            refine wp_value (w' := w') (v := .int .i64 (dn : Int)) (by simp [execOp, ev, go_sem]) ?_
            exact ⟨_, vt, b6, b10, b17, by rw [ha]; exact putT_put A 96 8 4 l _ _ (by omega) (by omega) (by decide), by rw [List.length_set]; exact hlen, hB, set_known hlen (by decide) hl, fun h => hvt (h.resolve_left (by decide)), hDv.imp_left .inr, hRb.imp_left .inr, fun h => (i6 (h.resolve_left (by decide))), fun h => (i10 (h.resolve_left (by decide))), fun h => (i17 (h.resolve_left (by decide)))⟩
          | 9, ho =>
            cases Option.some.inj ho
            refine ⟨wanted_of (k := 98) rfl rfl rfl (known_atT ha hsz hlen hl 2 (by decide) (hd ⟨2, .guard⟩ (by simp) rfl)), ?_⟩
            have ev : a.tmps[104]? = some (.int .i64 (dn : Int)) := known_atT ha hsz hlen hl 8 (by decide) (hd ⟨8, .data⟩ (by simp) rfl)
            refine wp_value (w' := w') (v := .int .i64 (ee : Int)) (by simp [execOp, ev, go_sem, hwe]) ?_
            exact ⟨_, vt, b6, b10, b17, by rw [ha]; exact putT_put A 96 9 4 l _ _ (by omega) (by omega) (by decide), by rw [List.length_set]; exact hlen, hB, set_known hlen (by decide) hl, fun h => hvt (h.resolve_left (by decide)), hDv.imp_left .inr, hRb.imp_left .inr, fun h => (i6 (h.resolve_left (by decide))), fun h => (i10 (h.resolve_left (by decide))), fun h => (i17 (h.resolve_left (by decide)))⟩
          | 10, ho =>
            cases Option.some.inj ho
            refine ⟨wanted_of (k := 98) rfl rfl rfl (known_atT ha hsz hlen hl 2 (by decide) (hd ⟨2, .guard⟩ (by simp) rfl)), ?_⟩
            have ev : a.tmps[105]? = some (.int .i64 (ee : Int)) := known_atT ha hsz hlen hl 9 (by decide) (hd ⟨9, .data⟩ (by simp) rfl)
            refine wp_enter (f := 10) (args := #[.int .i64 (ee : Int), .int .u8 0]) (by simp [execOp, ev, go_sem]) ?_
            refine (full_row w' ee 0 (by omega)).mono ?_
            rintro e w6 ⟨nb, rfl, _, hR, HB⟩
            refine ⟨_, rfl, ?_⟩
            exact ⟨_, vt, b6, nb, b17, by rw [ha]; exact putT_put A 96 10 4 l _ _ (by omega) (by omega) (by decide), by rw [List.length_set]; exact hlen, below_size hB (Nat.le_refl _) HB, set_known' (val' := valF w dn ee gb b6 nb b17 S1 S2) hlen (by decide) hl (fun j hj hne => match j, hj, hne with | 0, _, _ => rfl | 1, _, _ => rfl | 2, _, _ => rfl | 3, _, _ => rfl | 4, _, _ => rfl | 5, _, _ => rfl | 6, _, _ => rfl | 7, _, _ => rfl | 8, _, _ => rfl | 9, _, _ => rfl | 10, _, hne => absurd rfl hne | 11, _, _ => rfl | 12, _, _ => rfl | 13, _, _ => rfl | 14, _, _ => rfl | 15, _, _ => rfl | 16, _, _ => rfl | 17, _, _ => rfl | 18, _, _ => rfl | 19, _, _ => rfl | 20, _, _ => rfl | 21, _, _ => rfl | 22, _, _ => rfl | 23, _, _ => rfl | j + 24, _, _ => rfl), fun h => hvt (h.resolve_left (by decide)), hDv.imp .inr (fun h => h.same (fun i hi => HB.block i hi)), hRb.imp .inr (fun h => h.below HB), fun h => (i6 (h.resolve_left (by decide))).below HB, fun _ => hR, fun h => (i17 (h.resolve_left (by decide))).below HB⟩
          | 11, ho =>
            cases Option.some.inj ho
            refine ⟨wanted_of (k := 98) rfl rfl rfl (known_atT ha hsz hlen hl 2 (by decide) (hd ⟨2, .guard⟩ (by simp) rfl)), ?_⟩
            have ev : a.tmps[106]? = some (.slice (some ⟨b10, 0, none⟩) (128 * ee) (128 * ee)) := known_atT ha hsz hlen hl 10 (by decide) (hd ⟨10, .data⟩ (by simp) rfl)
            have hc := (i10 (hd ⟨10, .data⟩ (by simp) rfl)).str hS2 List.length_replicate
            refine wp_value (w' := w') (v := .string S2) (by simp [execOp, ev, go_sem, hc]) ?_
            exact ⟨_, vt, b6, b10, b17, by rw [ha]; exact putT_put A 96 11 4 l _ _ (by omega) (by omega) (by decide), by rw [List.length_set]; exact hlen, hB, set_known hlen (by decide) hl, fun h => hvt (h.resolve_left (by decide)), hDv.imp_left .inr, hRb.imp_left .inr, fun h => (i6 (h.resolve_left (by decide))), fun h => (i10 (h.resolve_left (by decide))), fun h => (i17 (h.resolve_left (by decide)))⟩
          | 12, ho =>
            cases Option.some.inj ho
            refine ⟨wanted_of (k := 98) rfl rfl rfl (known_atT ha hsz hlen hl 2 (by decide) (hd ⟨2, .guard⟩ (by simp) rfl)), ?_⟩
            have ev : a.tmps[103]? = some (.string S1) := known_atT ha hsz hlen hl 7 (by decide) (hd ⟨7, .data⟩ (by simp) rfl)
            have ev' : a.tmps[107]? = some (.string S2) := known_atT ha hsz hlen hl 11 (by decide) (hd ⟨11, .data⟩ (by simp) rfl)
            refine wp_value (w' := w') (v := .string (S1 ++ S2)) (by simp [execOp, ev, ev', go_sem, hzz]) ?_
            exact ⟨_, vt, b6, b10, b17, by rw [ha]; exact putT_put A 96 12 4 l _ _ (by omega) (by omega) (by decide), by rw [List.length_set]; exact hlen, hB, set_known hlen (by decide) hl, fun h => hvt (h.resolve_left (by decide)), hDv.imp_left .inr, hRb.imp_left .inr, fun h => (i6 (h.resolve_left (by decide))), fun h => (i10 (h.resolve_left (by decide))), fun h => (i17 (h.resolve_left (by decide)))⟩
          | 13, ho =>
            cases Option.some.inj ho
            refine ⟨wanted_of (k := 98) rfl rfl rfl (known_atT ha hsz hlen hl 2 (by decide) (hd ⟨2, .guard⟩ (by simp) rfl)), ?_⟩
            have ev : a.tmps[100]? = some (.string (S1 ++ S2)) := known_atT ha hsz hlen hl 4 (by decide) (hd ⟨4, .data⟩ (by simp) rfl)
            have ev' : a.tmps[108]? = some (.string (S1 ++ S2)) := known_atT ha hsz hlen hl 12 (by decide) (hd ⟨12, .data⟩ (by simp) rfl)
            refine wp_value (w' := w') (v := .bool true) (by simp [execOp, ev, ev', go_sem]) ?_
            exact ⟨_, vt, b6, b10, b17, by rw [ha]; exact putT_put A 96 13 4 l _ _ (by omega) (by omega) (by decide), by rw [List.length_set]; exact hlen, hB, set_known hlen (by decide) hl, fun h => hvt (h.resolve_left (by decide)), hDv.imp_left .inr, hRb.imp_left .inr, fun h => (i6 (h.resolve_left (by decide))), fun h => (i10 (h.resolve_left (by decide))), fun h => (i17 (h.resolve_left (by decide)))⟩
          | 14, ho =>
            cases Option.some.inj ho
            refine ⟨rfl, ?_⟩
            have ev : a.tmps[98]? = some (.bool true) := known_atT ha hsz hlen hl 2 (by decide) (hd ⟨2, .data⟩ (by simp) rfl)
            have ev' : a.tmps[109]? = some (.bool true) := known_atT ha hsz hlen hl 13 (by decide) (hd ⟨13, .data⟩ (by simp) rfl)
            refine wp_value (w' := w') (v := .bool true) (by simp [execOp, ev, ev', go_sem]) ?_
            exact ⟨_, vt, b6, b10, b17, by rw [ha]; exact putT_put A 96 14 4 l _ _ (by omega) (by omega) (by decide), by rw [List.length_set]; exact hlen, hB, set_known hlen (by decide) hl, fun h => hvt (h.resolve_left (by decide)), hDv.imp_left .inr, hRb.imp_left .inr, fun h => (i6 (h.resolve_left (by decide))), fun h => (i10 (h.resolve_left (by decide))), fun h => (i17 (h.resolve_left (by decide)))⟩
          | 15, ho =>
            cases Option.some.inj ho
            refine ⟨rfl, ?_⟩
            have ev : a.tmps[110]? = some (.bool true) := known_atT ha hsz hlen hl 14 (by decide) (hd ⟨14, .data⟩ (by simp) rfl)
            refine wp_value (w' := w') (v := .bool true) (by simp [execOp, ev, go_sem]) ?_
            exact ⟨_, vt, b6, b10, b17, by rw [ha]; exact putT_put A 96 15 4 l _ _ (by omega) (by omega) (by decide), by rw [List.length_set]; exact hlen, hB, set_known hlen (by decide) hl, fun h => hvt (h.resolve_left (by decide)), hDv.imp_left .inr, hRb.imp_left .inr, fun h => (i6 (h.resolve_left (by decide))), fun h => (i10 (h.resolve_left (by decide))), fun h => (i17 (h.resolve_left (by decide)))⟩
          | 16, ho =>
            cases Option.some.inj ho
            refine ⟨wanted_of (k := 111) rfl rfl rfl (known_atT ha hsz hlen hl 15 (by decide) (hd ⟨15, .guard⟩ (by simp) rfl)), ?_⟩
            have ev : a.tmps[5]? = some (.pointer (some ⟨w.heap.size + 2, 0, none⟩)) := by rw [ha, putT_other _ _ _ _ (by decide), putAll_low A 96 5 l (by omega) (by decide)]; exact s5
            refine wp_value (w' := w') (v := .pointer (some ⟨w.heap.size + 2, 0, none⟩)) (by simp [execOp, ev, go_sem]) ?_
            exact ⟨_, vt, b6, b10, b17, by rw [ha]; exact putT_put A 96 16 4 l _ _ (by omega) (by omega) (by decide), by rw [List.length_set]; exact hlen, hB, set_known hlen (by decide) hl, fun h => hvt (h.resolve_left (by decide)), hDv.imp_left .inr, hRb.imp_left .inr, fun h => (i6 (h.resolve_left (by decide))), fun h => (i10 (h.resolve_left (by decide))), fun h => (i17 (h.resolve_left (by decide)))⟩
          | 17, ho =>
            cases Option.some.inj ho
            refine ⟨wanted_of (k := 111) rfl rfl rfl (known_atT ha hsz hlen hl 15 (by decide) (hd ⟨15, .guard⟩ (by simp) rfl)), ?_⟩
            refine wp_enter (f := 10) (args := #[.int .i64 16, .int .u8 8]) (by simp [execOp, go_sem]) ?_
            refine (full_16 w' 8).mono ?_
            rintro e w6 ⟨nb, rfl, hR, HB⟩
            refine ⟨_, rfl, ?_⟩
            exact ⟨_, vt, b6, b10, nb, by rw [ha]; exact putT_put A 96 17 4 l _ _ (by omega) (by omega) (by decide), by rw [List.length_set]; exact hlen, below_size hB (Nat.le_refl _) HB, set_known' (val' := valF w dn ee gb b6 b10 nb S1 S2) hlen (by decide) hl (fun j hj hne => match j, hj, hne with | 0, _, _ => rfl | 1, _, _ => rfl | 2, _, _ => rfl | 3, _, _ => rfl | 4, _, _ => rfl | 5, _, _ => rfl | 6, _, _ => rfl | 7, _, _ => rfl | 8, _, _ => rfl | 9, _, _ => rfl | 10, _, _ => rfl | 11, _, _ => rfl | 12, _, _ => rfl | 13, _, _ => rfl | 14, _, _ => rfl | 15, _, _ => rfl | 16, _, _ => rfl | 17, _, hne => absurd rfl hne | 18, _, _ => rfl | 19, _, _ => rfl | 20, _, _ => rfl | 21, _, _ => rfl | 22, _, _ => rfl | 23, _, _ => rfl | j + 24, _, _ => rfl), fun h => hvt (h.resolve_left (by decide)), hDv.imp .inr (fun h => h.same (fun i hi => HB.block i hi)), hRb.imp .inr (fun h => h.below HB), fun h => (i6 (h.resolve_left (by decide))).below HB, fun h => (i10 (h.resolve_left (by decide))).below HB, fun _ => hR⟩
          | 18, ho =>
            cases Option.some.inj ho
            refine ⟨wanted_of (k := 111) rfl rfl rfl (known_atT ha hsz hlen hl 15 (by decide) (hd ⟨15, .guard⟩ (by simp) rfl)), ?_⟩
            have ev : a.tmps[112]? = some (.pointer (some ⟨w.heap.size + 2, 0, none⟩)) := known_atT ha hsz hlen hl 16 (by decide) (hd ⟨16, .data⟩ (by simp) rfl)
            have ev' : a.tmps[113]? = some (.slice (some ⟨b17, 0, none⟩) (128 * 16) (128 * 16)) := known_atT ha hsz hlen hl 17 (by decide) (hd ⟨17, .data⟩ (by simp) rfl)
            refine wp_enter (f := 9) (args := #[.pointer (some ⟨w.heap.size + 2, 0, none⟩), .int .i64 0, .slice (some ⟨b17, 0, none⟩) (128 * 16) (128 * 16)]) (by simp [execOp, ev, ev', go_sem]) ?_
            refine (write_16 (hDv.resolve_left hn) (i17 (hd ⟨17, .data⟩ (by simp) rfl))).mono ?_
            rintro e w6 ⟨rfl, pv8, F8⟩
            refine ⟨_, rfl, ?_⟩
            exact ⟨_, vt, b6, b10, b17, by rw [ha]; exact putT_put A 96 18 4 l _ _ (by omega) (by omega) (by decide), by rw [List.length_set]; exact hlen, hB.trans (F8.below (hDv.resolve_left hn)), set_known hlen (by decide) hl, fun h => hvt (h.resolve_left (by decide)), .inl (.inl rfl), hRb.imp .inr (fun h => h.fr (hDv.resolve_left hn) F8), fun h => (i6 (h.resolve_left (by decide))).fr (hDv.resolve_left hn) F8, fun h => (i10 (h.resolve_left (by decide))).fr (hDv.resolve_left hn) F8, fun h => (i17 (h.resolve_left (by decide))).fr (hDv.resolve_left hn) F8⟩
          | 19, ho =>
            cases Option.some.inj ho
            refine ⟨wanted_of (k := 111) rfl rfl rfl (known_atT ha hsz hlen hl 15 (by decide) (hd ⟨15, .guard⟩ (by simp) rfl)), ?_⟩
            have ev : a.tmps[114]? = some (.int .i64 0) := known_atT ha hsz hlen hl 18 (by decide) (hd ⟨18, .data⟩ (by simp) rfl)
            refine wp_value (w' := w') (v := .bool true) (by simp [execOp, ev, go_sem]) ?_
            exact ⟨_, vt, b6, b10, b17, by rw [ha]; exact putT_put A 96 19 4 l _ _ (by omega) (by omega) (by decide), by rw [List.length_set]; exact hlen, hB, set_known hlen (by decide) hl, fun h => hvt (h.resolve_left (by decide)), hDv.imp_left .inr, hRb.imp_left .inr, fun h => (i6 (h.resolve_left (by decide))), fun h => (i10 (h.resolve_left (by decide))), fun h => (i17 (h.resolve_left (by decide)))⟩
          | 20, ho =>
            cases Option.some.inj ho
            refine ⟨rfl, ?_⟩
            have ev : a.tmps[111]? = some (.bool true) := known_atT ha hsz hlen hl 15 (by decide) (hd ⟨15, .data⟩ (by simp) rfl)
            have ev' : a.tmps[115]? = some (.bool true) := known_atT ha hsz hlen hl 19 (by decide) (hd ⟨19, .data⟩ (by simp) rfl)
            refine wp_value (w' := w') (v := .bool true) (by simp [execOp, ev, ev', go_sem]) ?_
            exact ⟨_, vt, b6, b10, b17, by rw [ha]; exact putT_put A 96 20 4 l _ _ (by omega) (by omega) (by decide), by rw [List.length_set]; exact hlen, hB, set_known hlen (by decide) hl, fun h => hvt (h.resolve_left (by decide)), hDv.imp_left .inr, hRb.imp_left .inr, fun h => (i6 (h.resolve_left (by decide))), fun h => (i10 (h.resolve_left (by decide))), fun h => (i17 (h.resolve_left (by decide)))⟩
          | 21, ho =>
            cases Option.some.inj ho
            refine ⟨rfl, ?_⟩
            have ev : a.tmps[116]? = some (.bool true) := known_atT ha hsz hlen hl 20 (by decide) (hd ⟨20, .data⟩ (by simp) rfl)
            refine wp_value (w' := w') (v := .bool true) (by simp [execOp, ev, go_sem]) ?_
            exact ⟨_, vt, b6, b10, b17, by rw [ha]; exact putT_put A 96 21 4 l _ _ (by omega) (by omega) (by decide), by rw [List.length_set]; exact hlen, hB, set_known hlen (by decide) hl, fun h => hvt (h.resolve_left (by decide)), hDv.imp_left .inr, hRb.imp_left .inr, fun h => (i6 (h.resolve_left (by decide))), fun h => (i10 (h.resolve_left (by decide))), fun h => (i17 (h.resolve_left (by decide)))⟩
          | 22, ho =>
            cases Option.some.inj ho
            refine ⟨wanted_of (k := 117) rfl rfl rfl (known_atT ha hsz hlen hl 21 (by decide) (hd ⟨21, .guard⟩ (by simp) rfl)), ?_⟩
            refine wp_enter (f := 16) (args := #[]) (by simp [execOp, go_sem]) ?_
            refine (known_true w').mono ?_
            rintro e w6 ⟨rfl, HB⟩
            refine ⟨_, rfl, ?_⟩
            exact ⟨_, vt, b6, b10, b17, by rw [ha]; exact putT_put A 96 22 4 l _ _ (by omega) (by omega) (by decide), by rw [List.length_set]; exact hlen, below_size hB (Nat.le_refl _) HB, set_known hlen (by decide) hl, fun h => hvt (h.resolve_left (by decide)), hDv.imp .inr (fun h => h.same (fun i hi => HB.block i hi)), hRb.imp .inr (fun h => h.below HB), fun h => (i6 (h.resolve_left (by decide))).below HB, fun h => (i10 (h.resolve_left (by decide))).below HB, fun h => (i17 (h.resolve_left (by decide))).below HB⟩
          | 23, ho =>
            cases Option.some.inj ho
            refine ⟨rfl, ?_⟩
            have ev : a.tmps[117]? = some (.bool true) := known_atT ha hsz hlen hl 21 (by decide) (hd ⟨21, .data⟩ (by simp) rfl)
            have ev' : a.tmps[118]? = some (.bool true) := known_atT ha hsz hlen hl 22 (by decide) (hd ⟨22, .data⟩ (by simp) rfl)
            refine wp_value (w' := w') (v := .bool true) (by simp [execOp, ev, ev', go_sem]) ?_
            exact ⟨_, vt, b6, b10, b17, by rw [ha]; exact putT_put A 96 23 4 l _ _ (by omega) (by omega) (by decide), by rw [List.length_set]; exact hlen, hB, set_known hlen (by decide) hl, fun h => hvt (h.resolve_left (by decide)), hDv.imp_left .inr, hRb.imp_left .inr, fun h => (i6 (h.resolve_left (by decide))), fun h => (i10 (h.resolve_left (by decide))), fun h => (i17 (h.resolve_left (by decide)))⟩
          | 24, ho =>
            cases Option.some.inj ho
            refine ⟨rfl, ?_⟩
            have ev : a.tmps[119]? = some (.bool true) := known_atT ha hsz hlen hl 23 (by decide) (hd ⟨23, .data⟩ (by simp) rfl)
            refine wp_value (w' := w') (v := .bool true) (by simp [execOp, ev, go_sem]) ?_
            exact ⟨l, (.bool true), b6, b10, b17, by rw [ha]; exact putT_again _ _ _ _, hlen, hB, fun j hj h => hl j hj (h.resolve_left (by omega)), fun _ => rfl, hDv.imp_left .inr, hRb.imp_left .inr, fun h => i6 (h.resolve_left (by decide)), fun h => i10 (h.resolve_left (by decide)), fun h => i17 (h.resolve_left (by decide))⟩
          | i + 25, ho => simp at ho
        case done =>
          rintro D a w' ⟨l, vt, b6, b10, b17, ha, hlen, hB, hl, hvt, hDv, hRb, i6, i10, i17⟩ hall
          obtain rfl := hvt (hall 24 (by decide))
          obtain ⟨v0, v1, v2, v3, v4, v5, v6, v7, v8, v9, v10, v11, v12, v13, v14, v15, v16, v17, v18, v19, v20, v21, v22, v23, rfl⟩ := valF_list hlen
          clear hl hall i6 i10 i17 hDv hRb hlen
          clear st s5 s8 s13 s14 hsz
          subst hA
          have hfr : a = _ := ha
          rw [hfr]
          clear hfr ha
          simp only [putAll, List.take_succ_cons, List.take_zero, List.drop_succ_cons, List.drop_zero, List.cons_append, List.nil_append, List.length_cons, List.length_nil]
          simp only [Act.put, List.setIfInBounds_toArray, List.set_cons_zero, List.set_cons_succ]
          go_wp2
          go_ret
          exact ⟨rfl, hB⟩
      · have hlt : (j' : Int) < (dn : Int) := by omega
        have hw1 : IntKind.i64.wrap ((j' : Int) + 1) = (j' : Int) + 1 := by rw [IntKind.wrap_i64]; omega
        have hcell : ∀ i u, ([Value.bool true] : List Value)[i]? = some u → (wr.alloc (.cells #[.bool true] 4)).cell? ((⟨wr.heap.size, 0, none⟩ : Addr).add i) = some u := by
          intro i u hu
          obtain rfl : i = 0 := by
            rcases Nat.eq_zero_or_pos i with h | h
            · exact h
            · rw [List.getElem?_eq_none (show 1 ≤ i from h)] at hu; cases hu
          have : (⟨wr.heap.size, 0, none⟩ : Addr).add 0 = ⟨wr.heap.size, 0, none⟩ := by unfold Addr.add; split <;> simp_all
          rw [this, cell_of_row _ _ 0 _ _ _ (heap_alloc_new wr (.cells #[.bool true] 4))]
          simpa using hu
        have hrow2 := own_same (w' := wr.alloc (.cells #[.bool true] 4)) hrow (fun g hg => Below.heap_alloc _ _ _ (by obtain ⟨_, _, hh⟩ := own_block hrow hg; exact lt_of_block hh))
        have hwl := hbe.size
        go_wp2_with (at_builtin; refine wpList_append_own _ rfl _ _ 23 rfl wt.heap.size 4 i0 (.bool false) 1 1 Try.underlying23 hi hz0 hz1 hz2 rfl (by decide) _ _ _ rfl hrow2 ⟨wr.heap.size, 0, none⟩ 1 1 [.bool true] rfl rfl hcell (by simp [Value.oneCell']) (by unfold maxLen; omega) (by omega) (by simp; omega) ?_; intro v' w1 hown' hgrow _; obtain ⟨g', cap', rfl⟩ := own_succ hown')
        go_roundw
        case rel =>
          refine ⟨j' + 1, by omega, rfl, ?_, ?_⟩
          · rw [List.replicate_succ']
            exact hown'
          · exact ⟨hgrow.os.trans hbe.os, hgrow.tape.trans hbe.tape, hgrow.output.trans hbe.output, Nat.le_trans (by simp; omega) hgrow.size, fun i hi' => (hgrow.block i (by simp; omega) (fun e => by obtain ⟨hb, _⟩ := own_block hrow e.symm; omega)).trans ((Below.heap_alloc _ _ _ (by omega)).trans (hbe.block i hi'))⟩
        case measure => simp [intOf]; omega
end Go.Proofs.Ytofgphiamllmdaa
