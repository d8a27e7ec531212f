/- The document's Add. -/
import Derived.Test.YtgammgdckneoiabDoorFits
namespace Go.Proofs.YtgammgdckneoiabDoor
open Go.RowKit

theorem OwnB.isB {w : World} {base n c : Nat} {a : Option Addr} {xs : List Int} (h : OwnB w base (.slice a n c) xs) : IsB w a n c xs := by
  obtain ⟨_, a', c', hv, hI⟩ := h
  injection hv with h1 h2 h3
  subst h1 h2 h3
  exact hI
theorem size24' {u v : Value} : (Tryd.prog.info? 24).map (·.size) = some (#[u, v] : Array Value).size := by
  have : (Tryd.prog.info? 24).map (·.size) = some 2 := by kernel_rfl
  exact this

set_option maxRecDepth 100000 in
set_option maxHeartbeats 8000000 in
theorem radd_any {a1 a2 : Option Addr} {l1 l2 c1 c2 : Nat} {xs ys : List Int} {w : World} (n1 n2 : Bool) (h1 : IsB w a1 l1 c1 xs) (h2 : IsB w a2 l2 c2 ys) :
    Calls Tryd.prog 22 #[.agg #[.bool n1, .slice a1 l1 c1], .agg #[.bool n2, .slice a2 l2 c2]] w fun e w' => ∃ v, e = .returned (.tuple #[.agg #[.bool (addB n1 xs n2 n2 ys), v], .int .i64 (addE n1 xs n2 n2 ys)]) ∧ OwnB w' w.heap.size v (addM n1 xs n2 n2 ys) ∧ Below w.heap.size w w' := by
  go_enter Tryd.func22, Tryd.ntmps22
  go_wp2_with fail
  obtain ⟨z0, z1, z2, hb, hs3⟩ := alloc3 w (.cells #[.bool n1, .slice a1 l1 c1] 24) (.cells #[.bool n2, .slice a2 l2 c2] 24) (.cells #[.bool false, .slice none 0 0] 24)
  have k1 := h1.below hb
  have k2 := h2.below hb
  generalize (((w.alloc (.cells #[.bool n1, .slice a1 l1 c1] 24)).alloc (.cells #[.bool n2, .slice a2 l2 c2] 24)).alloc (.cells #[.bool false, .slice none 0 0] 24)) = w1 at *
  refine (rright_any n1 k1).mono ?_
  rintro e w2 ⟨rfl, hb2⟩
  have u0 := (hb2.block _ (lt_of_block z0)).trans z0
  have u1 := (hb2.block _ (lt_of_block z1)).trans z1
  have u2 := (hb2.block _ (lt_of_block z2)).trans z2
  have hB2 := below_size hb (Nat.le_refl _) hb2
  have hsz2 := hb2.size
  rw [hs3] at hsz2
  replace k2 := k2.below hb2
  clear z0 z1 z2 hb hb2 hs3 k1
  obtain ⟨x0, x1, _, _⟩ := intVarT u0
  obtain ⟨y0, y1, _, _⟩ := intVarT u1
  obtain ⟨q0, q1, qf0, qf1⟩ := intVarT u2
  cases r1 : rightB n1 xs with
  | false =>
    have e1 : Hid (addB n1 xs n2 n2 ys = false) := by show _ = _; simp [addB, r1]
    have e2 : Hid (addE n1 xs n2 n2 ys = 1) := by show _ = _; simp [addE, r1]
    have e3 : Hid (addM n1 xs n2 n2 ys = []) := by show _ = _; simp [addM, r1]
    go_wp2
    exact bodyPost_ret (v := .tuple #[.agg #[.bool false, .slice none 0 0], .int .i64 1]) (by simp [results, Tryd.results22, go_sem, q0, q1]) rfl ⟨.slice none 0 0, by rw [e1.out, e2.out], by rw [e3.out]; exact ownB_of (n := 0) (World.ownsRow_nil _ _ _ _) (by simp), below_put (b := w.heap.size + 2) hB2 (by omega)⟩
  | true =>
    go_wp2_with fail
    refine (rright_any n2 k2).mono ?_
    rintro e w3 ⟨rfl, hb3⟩
    replace u0 := (hb3.block _ (lt_of_block u0)).trans u0
    replace u1 := (hb3.block _ (lt_of_block u1)).trans u1
    replace u2 := (hb3.block _ (lt_of_block u2)).trans u2
    have hB3 := below_size hB2 (Nat.le_refl _) hb3
    have hsz3 := Nat.le_trans hsz2 hb3.size
    clear x0 x1 y0 y1 q0 q1 qf0 qf1 hb3 hB2 hsz2 k2
    obtain ⟨x0, x1, xf0, xf1⟩ := intVarT u0
    obtain ⟨y0, y1, yf0, yf1⟩ := intVarT u1
    obtain ⟨q0, q1, qf0, qf1⟩ := intVarT u2
    cases r2 : rightB n2 ys with
    | false =>
      have e1 : Hid (addB n1 xs n2 n2 ys = false) := by show _ = _; simp [addB, r2]
      have e2 : Hid (addE n1 xs n2 n2 ys = 1) := by show _ = _; simp [addE, r2]
      have e3 : Hid (addM n1 xs n2 n2 ys = []) := by show _ = _; simp [addM, r2]
      go_wp2
      exact bodyPost_ret (v := .tuple #[.agg #[.bool false, .slice none 0 0], .int .i64 1]) (by simp [results, Tryd.results22, go_sem, q0, q1]) rfl ⟨.slice none 0 0, by rw [e1.out, e2.out], by rw [e3.out]; exact ownB_of (n := 0) (World.ownsRow_nil _ _ _ _) (by simp), below_put (b := w.heap.size + 2) hB3 (by omega)⟩
    | true =>
      obtain ⟨d1, m1⟩ := lead_right r1
      obtain ⟨d2, m2⟩ := lead_right r2
      rw [h1.size] at m1
      rw [h2.size] at m2
      have f1 : addB n1 xs n2 n2 ys = fitB (sumNeg n1 n2 (val8 xs) (val8 ys)) (sumMag n1 n2 (val8 xs) (val8 ys)) := by simp [addB, r1, r2]
      have f2 : addE n1 xs n2 n2 ys = fitE (sumMag n1 n2 (val8 xs) (val8 ys)) := by simp [addE, r1, r2]
      have f3 : addM n1 xs n2 n2 ys = fitM (sumMag n1 n2 (val8 xs) (val8 ys)) := by simp [addM, r1, r2]
      obtain ⟨X, HX⟩ : ∃ X, Hid (val8 xs = X) := ⟨_, rfl⟩
      obtain ⟨Y, HY⟩ : ∃ Y, Hid (val8 ys = Y) := ⟨_, rfl⟩
      rw [HX.out, HY.out] at f1 f2 f3
      by_cases hn : n1 = n2
      · have hnb : (n1 == n2) = true := by simpa using hn
        have e1' : Hid (addB n1 xs n2 n2 ys = fitB n1 (X + Y)) := by show _ = _; rw [f1]; unfold sumNeg sumMag; rw [if_pos hn, if_pos hn]
        have e2' : Hid (addE n1 xs n2 n2 ys = fitE (X + Y)) := by show _ = _; rw [f2]; unfold sumMag; rw [if_pos hn]
        have e3' : Hid (addM n1 xs n2 n2 ys = fitM (X + Y)) := by show _ = _; rw [f3]; unfold sumMag; rw [if_pos hn]
        clear f1 f2 f3
        go_wp2
        refine wp_region_inv' (fun A D a w' => ∃ v5 v20 v21 v22 v23 v24 v25 v26 v27 v28 v29 sp sn sc pv u0 u1, a = (((((((((((A.put (some 5) v5).put (some 20) v20).put (some 21) v21).put (some 22) v22).put (some 23) v23).put (some 24) v24).put (some 25) v25).put (some 26) v26).put (some 27) v27).put (some 28) v28).put (some 29) v29) ∧ Below w.heap.size w w' ∧ w.heap.size + 3 ≤ w'.heap.size ∧ w'.heap[w.heap.size]? = some (.cells #[.bool n1, .slice a1 l1 c1] 24 (0, 0)) ∧ w'.heap[w.heap.size + 1]? = some (.cells #[.bool n2, .slice a2 l2 c2] 24 (0, 0)) ∧ w'.heap[w.heap.size + 2]? = some (.cells #[u0, u1] 24 (0, 0)) ∧ (D 0 → v20 = .pointer (some ⟨w.heap.size, 0, none⟩)) ∧ (D 1 → v21 = .bool n1) ∧ (D 2 → v22 = .pointer (some ⟨w.heap.size, 1, none⟩)) ∧ (D 3 → v23 = .slice a1 l1 c1) ∧ (D 4 → v24 = .pointer (some ⟨w.heap.size + 1, 1, none⟩)) ∧ (D 5 → v25 = .slice a2 l2 c2) ∧ (D 6 → v26 = .slice sp sn sc) ∧ (D 7 → v27 = .tuple #[.agg #[.bool (fitB n1 (X + Y)), pv], .int .i64 (fitE (X + Y))]) ∧ (D 8 → v28 = .agg #[.bool (fitB n1 (X + Y)), pv]) ∧ (D 9 → v29 = .int .i64 (fitE (X + Y))) ∧ (D 6 → ∃ zs, OwnB w' (w.heap.size + 3) (.slice sp sn sc) zs ∧ val8 zs = (X + Y) ∧ sn ≤ 100000) ∧ (D 7 → OwnB w' (w.heap.size + 3) pv (fitM (X + Y))) ∧ (D 10 → u0 = .bool (fitB n1 (X + Y)) ∧ u1 = pv) ∧ (D 11 → v5 = .int .i64 (fitE (X + Y)))) (by kernel_rfl) (by kernel_rfl) ?mono ?start ?step ?done
        case mono =>
          rintro D D' a w' hD ⟨v5, v20, v21, v22, v23, v24, v25, v26, v27, v28, v29, sp, sn, sc, pv, u0, u1, ha, hB, hsz, k0, k1, k2, e0, e1, e2, e3, e4, e5, e6, e7, e8, e9, s6, o7, u10, f11⟩
          exact ⟨v5, v20, v21, v22, v23, v24, v25, v26, v27, v28, v29, sp, sn, sc, pv, u0, u1, ha, hB, hsz, k0, k1, k2, fun h => e0 ((hD 0).2 h), fun h => e1 ((hD 1).2 h), fun h => e2 ((hD 2).2 h), fun h => e3 ((hD 3).2 h), fun h => e4 ((hD 4).2 h), fun h => e5 ((hD 5).2 h), fun h => e6 ((hD 6).2 h), fun h => e7 ((hD 7).2 h), fun h => e8 ((hD 8).2 h), fun h => e9 ((hD 9).2 h), fun h => s6 ((hD 6).2 h), fun h => o7 ((hD 7).2 h), fun h => u10 ((hD 10).2 h), fun h => f11 ((hD 11).2 h)⟩
        case start => exact ⟨(.int .i64 0), undef, undef, undef, undef, undef, undef, undef, undef, undef, undef, none, 0, 0, undef, _, _, by kernel_rfl, hB3.drew, hsz3, u0, u1, u2, fun h => h.elim, fun h => h.elim, fun h => h.elim, fun h => h.elim, fun h => h.elim, fun h => h.elim, fun h => h.elim, fun h => h.elim, fun h => h.elim, fun h => h.elim, fun h => h.elim, fun h => h.elim, fun h => h.elim, fun h => h.elim⟩
        case step =>
          intro i o ho D a w' hI hn hcl hd
          obtain ⟨v5, v20, v21, v22, v23, v24, v25, v26, v27, v28, v29, sp, sn, sc, pv, u0, u1, ha, hB, hsz, k0, k1, k2, e0, e1, e2, e3, e4, e5, e6, e7, e8, e9, s6, o7, u10, f11⟩ := hI
          match i, ho with
          | 0, ho =>
            cases Option.some.inj ho
            have ev : a.tmps[2]?.getD undef = .pointer (some ⟨w.heap.size, 0, none⟩) := by rw [ha]; kernel_rfl
            refine wp_value (w' := w') (v := .pointer (some ⟨w.heap.size, 0, none⟩)) (by simp [execOp, ev, go_sem]) ?_
            exact ⟨v5, (.pointer (some ⟨w.heap.size, 0, none⟩)), v21, v22, v23, v24, v25, v26, v27, v28, v29, sp, sn, sc, pv, u0, u1, by rw [ha]; kernel_rfl, hB, hsz, k0, k1, k2, fun _ => rfl, fun h => e1 (h.resolve_left (by decide)), fun h => e2 (h.resolve_left (by decide)), fun h => e3 (h.resolve_left (by decide)), fun h => e4 (h.resolve_left (by decide)), fun h => e5 (h.resolve_left (by decide)), fun h => e6 (h.resolve_left (by decide)), fun h => e7 (h.resolve_left (by decide)), fun h => e8 (h.resolve_left (by decide)), fun h => e9 (h.resolve_left (by decide)), fun h => s6 (h.resolve_left (by decide)), fun h => o7 (h.resolve_left (by decide)), fun h => u10 (h.resolve_left (by decide)), fun h => f11 (h.resolve_left (by decide))⟩
          | 1, ho =>
            cases Option.some.inj ho
            have ev : a.tmps[20]?.getD undef = .pointer (some ⟨w.heap.size, 0, none⟩) := by rw [ha, e0 (hd ⟨0, .data⟩ (by simp) rfl)]; kernel_rfl
            have hc := (intVarT k0).1
            refine wp_value (w' := w') (v := .bool n1) (by simp [execOp, ev, hc, go_sem]) ?_
            exact ⟨v5, v20, (.bool n1), v22, v23, v24, v25, v26, v27, v28, v29, sp, sn, sc, pv, u0, u1, by rw [ha]; kernel_rfl, hB, hsz, k0, k1, k2, fun h => e0 (h.resolve_left (by decide)), fun _ => rfl, fun h => e2 (h.resolve_left (by decide)), fun h => e3 (h.resolve_left (by decide)), fun h => e4 (h.resolve_left (by decide)), fun h => e5 (h.resolve_left (by decide)), fun h => e6 (h.resolve_left (by decide)), fun h => e7 (h.resolve_left (by decide)), fun h => e8 (h.resolve_left (by decide)), fun h => e9 (h.resolve_left (by decide)), fun h => s6 (h.resolve_left (by decide)), fun h => o7 (h.resolve_left (by decide)), fun h => u10 (h.resolve_left (by decide)), fun h => f11 (h.resolve_left (by decide))⟩
          | 2, ho =>
            cases Option.some.inj ho
            have ev : a.tmps[2]?.getD undef = .pointer (some ⟨w.heap.size, 0, none⟩) := by rw [ha]; kernel_rfl
            refine wp_value (w' := w') (v := .pointer (some ⟨w.heap.size, 1, none⟩)) (by simp [execOp, ev, go_sem]) ?_
            exact ⟨v5, v20, v21, (.pointer (some ⟨w.heap.size, 1, none⟩)), v23, v24, v25, v26, v27, v28, v29, sp, sn, sc, pv, u0, u1, by rw [ha]; kernel_rfl, hB, hsz, k0, k1, k2, fun h => e0 (h.resolve_left (by decide)), fun h => e1 (h.resolve_left (by decide)), fun _ => rfl, fun h => e3 (h.resolve_left (by decide)), fun h => e4 (h.resolve_left (by decide)), fun h => e5 (h.resolve_left (by decide)), fun h => e6 (h.resolve_left (by decide)), fun h => e7 (h.resolve_left (by decide)), fun h => e8 (h.resolve_left (by decide)), fun h => e9 (h.resolve_left (by decide)), fun h => s6 (h.resolve_left (by decide)), fun h => o7 (h.resolve_left (by decide)), fun h => u10 (h.resolve_left (by decide)), fun h => f11 (h.resolve_left (by decide))⟩
          | 3, ho =>
            cases Option.some.inj ho
            have ev : a.tmps[22]?.getD undef = .pointer (some ⟨w.heap.size, 1, none⟩) := by rw [ha, e2 (hd ⟨2, .data⟩ (by simp) rfl)]; kernel_rfl
            have hc := (intVarT k0).2.1
            rw [Nat.zero_add] at hc
            refine wp_value (w' := w') (v := .slice a1 l1 c1) (by simp [execOp, ev, hc, go_sem]) ?_
            exact ⟨v5, v20, v21, v22, (.slice a1 l1 c1), v24, v25, v26, v27, v28, v29, sp, sn, sc, pv, u0, u1, by rw [ha]; kernel_rfl, hB, hsz, k0, k1, k2, fun h => e0 (h.resolve_left (by decide)), fun h => e1 (h.resolve_left (by decide)), fun h => e2 (h.resolve_left (by decide)), fun _ => rfl, fun h => e4 (h.resolve_left (by decide)), fun h => e5 (h.resolve_left (by decide)), fun h => e6 (h.resolve_left (by decide)), fun h => e7 (h.resolve_left (by decide)), fun h => e8 (h.resolve_left (by decide)), fun h => e9 (h.resolve_left (by decide)), fun h => s6 (h.resolve_left (by decide)), fun h => o7 (h.resolve_left (by decide)), fun h => u10 (h.resolve_left (by decide)), fun h => f11 (h.resolve_left (by decide))⟩
          | 4, ho =>
            cases Option.some.inj ho
            have ev : a.tmps[3]?.getD undef = .pointer (some ⟨w.heap.size + 1, 0, none⟩) := by rw [ha]; kernel_rfl
            refine wp_value (w' := w') (v := .pointer (some ⟨w.heap.size + 1, 1, none⟩)) (by simp [execOp, ev, go_sem]) ?_
            exact ⟨v5, v20, v21, v22, v23, (.pointer (some ⟨w.heap.size + 1, 1, none⟩)), v25, v26, v27, v28, v29, sp, sn, sc, pv, u0, u1, by rw [ha]; kernel_rfl, hB, hsz, k0, k1, k2, fun h => e0 (h.resolve_left (by decide)), fun h => e1 (h.resolve_left (by decide)), fun h => e2 (h.resolve_left (by decide)), fun h => e3 (h.resolve_left (by decide)), fun _ => rfl, fun h => e5 (h.resolve_left (by decide)), fun h => e6 (h.resolve_left (by decide)), fun h => e7 (h.resolve_left (by decide)), fun h => e8 (h.resolve_left (by decide)), fun h => e9 (h.resolve_left (by decide)), fun h => s6 (h.resolve_left (by decide)), fun h => o7 (h.resolve_left (by decide)), fun h => u10 (h.resolve_left (by decide)), fun h => f11 (h.resolve_left (by decide))⟩
          | 5, ho =>
            cases Option.some.inj ho
            have ev : a.tmps[24]?.getD undef = .pointer (some ⟨w.heap.size + 1, 1, none⟩) := by rw [ha, e4 (hd ⟨4, .data⟩ (by simp) rfl)]; kernel_rfl
            have hc := (intVarT k1).2.1
            rw [Nat.zero_add] at hc
            refine wp_value (w' := w') (v := .slice a2 l2 c2) (by simp [execOp, ev, hc, go_sem]) ?_
            exact ⟨v5, v20, v21, v22, v23, v24, (.slice a2 l2 c2), v26, v27, v28, v29, sp, sn, sc, pv, u0, u1, by rw [ha]; kernel_rfl, hB, hsz, k0, k1, k2, fun h => e0 (h.resolve_left (by decide)), fun h => e1 (h.resolve_left (by decide)), fun h => e2 (h.resolve_left (by decide)), fun h => e3 (h.resolve_left (by decide)), fun h => e4 (h.resolve_left (by decide)), fun _ => rfl, fun h => e6 (h.resolve_left (by decide)), fun h => e7 (h.resolve_left (by decide)), fun h => e8 (h.resolve_left (by decide)), fun h => e9 (h.resolve_left (by decide)), fun h => s6 (h.resolve_left (by decide)), fun h => o7 (h.resolve_left (by decide)), fun h => u10 (h.resolve_left (by decide)), fun h => f11 (h.resolve_left (by decide))⟩
          | 6, ho =>
            cases Option.some.inj ho
            have n7 : ¬ D 7 := fun h => hn (hcl 7 _ rfl h ⟨6, .data⟩ (by simp) rfl)
            have ev : a.tmps[23]?.getD undef = .slice a1 l1 c1 := by rw [ha, e3 (hd ⟨3, .data⟩ (by simp) rfl)]; kernel_rfl
            have ev' : a.tmps[25]?.getD undef = .slice a2 l2 c2 := by rw [ha, e5 (hd ⟨5, .data⟩ (by simp) rfl)]; kernel_rfl
            refine wp_enter (f := 43) (args := #[.slice a1 l1 c1, .slice a2 l2 c2]) (by simp [execOp, ev, ev', go_sem]) ?_
            refine (rsum_any (h1.below hB) (h2.below hB) (by omega) (by omega)).mono ?_
            rintro e w6 ⟨nv, zs, rfl, hO, hzv, hzl, HB⟩
            obtain ⟨np, nc, rfl, hI⟩ := hO.2
            refine ⟨_, rfl, ?_⟩
            exact ⟨v5, v20, v21, v22, v23, v24, v25, (.slice np zs.length nc), v27, v28, v29, np, zs.length, nc, pv, u0, u1, by rw [ha]; kernel_rfl, below_size hB (Nat.le_refl _) HB, Nat.le_trans hsz HB.size, (HB.block _ (lt_of_block k0)).trans k0, (HB.block _ (lt_of_block k1)).trans k1, (HB.block _ (lt_of_block k2)).trans k2, fun h => e0 (h.resolve_left (by decide)), fun h => e1 (h.resolve_left (by decide)), fun h => e2 (h.resolve_left (by decide)), fun h => e3 (h.resolve_left (by decide)), fun h => e4 (h.resolve_left (by decide)), fun h => e5 (h.resolve_left (by decide)), fun _ => rfl, fun h => e7 (h.resolve_left (by decide)), fun h => e8 (h.resolve_left (by decide)), fun h => e9 (h.resolve_left (by decide)), fun _ => ⟨zs, hO.mono hsz, by rw [hzv, HX.out, HY.out], by omega⟩, fun h => absurd (h.resolve_left (by decide)) n7, fun h => u10 (h.resolve_left (by decide)), fun h => f11 (h.resolve_left (by decide))⟩
          | 7, ho =>
            cases Option.some.inj ho
            have n8 : ¬ D 8 := fun h => hn (hcl 8 _ rfl h ⟨7, .data⟩ (by simp) rfl)
            have n10 : ¬ D 10 := fun h => n8 (hcl 10 _ rfl h ⟨8, .data⟩ (by simp) rfl)
            have ev : a.tmps[21]?.getD undef = .bool n1 := by rw [ha, e1 (hd ⟨1, .data⟩ (by simp) rfl)]; kernel_rfl
            have ev' : a.tmps[26]?.getD undef = .slice sp sn sc := by rw [ha, e6 (hd ⟨6, .data⟩ (by simp) rfl)]; kernel_rfl
            obtain ⟨zs, q1, q2, q3⟩ := s6 (hd ⟨6, .data⟩ (by simp) rfl)
            refine wp_enter (f := 42) (args := #[.bool n1, .slice sp sn sc]) (by simp [execOp, ev, ev', go_sem]) ?_
            refine (fits_any n1 q1.isB q3).mono ?_
            rintro e w6 ⟨nv, rfl, hO, HB⟩
            rw [q2] at hO ⊢
            refine ⟨_, rfl, ?_⟩
            exact ⟨v5, v20, v21, v22, v23, v24, v25, v26, (.tuple #[.agg #[.bool (fitB n1 (X + Y)), nv], .int .i64 (fitE (X + Y))]), v28, v29, sp, sn, sc, nv, u0, u1, by rw [ha]; kernel_rfl, below_size hB (Nat.le_refl _) HB, Nat.le_trans hsz HB.size, (HB.block _ (lt_of_block k0)).trans k0, (HB.block _ (lt_of_block k1)).trans k1, (HB.block _ (lt_of_block k2)).trans k2, fun h => e0 (h.resolve_left (by decide)), fun h => e1 (h.resolve_left (by decide)), fun h => e2 (h.resolve_left (by decide)), fun h => e3 (h.resolve_left (by decide)), fun h => e4 (h.resolve_left (by decide)), fun h => e5 (h.resolve_left (by decide)), fun h => e6 (h.resolve_left (by decide)), fun _ => rfl, fun h => absurd (h.resolve_left (by decide)) n8, fun h => e9 (h.resolve_left (by decide)), fun h => by obtain ⟨zs, q1, q2⟩ := s6 (h.resolve_left (by decide)); exact ⟨zs, q1.below HB, q2⟩, fun _ => hO.mono hsz, fun h => absurd (h.resolve_left (by decide)) n10, fun h => f11 (h.resolve_left (by decide))⟩
          | 8, ho =>
            cases Option.some.inj ho
            have ev : a.tmps[27]?.getD undef = .tuple #[.agg #[.bool (fitB n1 (X + Y)), pv], .int .i64 (fitE (X + Y))] := by rw [ha, e7 (hd ⟨7, .data⟩ (by simp) rfl)]; kernel_rfl
            refine wp_value (w' := w') (v := .agg #[.bool (fitB n1 (X + Y)), pv]) (by simp [execOp, ev, go_sem]) ?_
            exact ⟨v5, v20, v21, v22, v23, v24, v25, v26, v27, (.agg #[.bool (fitB n1 (X + Y)), pv]), v29, sp, sn, sc, pv, u0, u1, by rw [ha]; kernel_rfl, hB, hsz, k0, k1, k2, fun h => e0 (h.resolve_left (by decide)), fun h => e1 (h.resolve_left (by decide)), fun h => e2 (h.resolve_left (by decide)), fun h => e3 (h.resolve_left (by decide)), fun h => e4 (h.resolve_left (by decide)), fun h => e5 (h.resolve_left (by decide)), fun h => e6 (h.resolve_left (by decide)), fun h => e7 (h.resolve_left (by decide)), fun _ => rfl, fun h => e9 (h.resolve_left (by decide)), fun h => s6 (h.resolve_left (by decide)), fun h => o7 (h.resolve_left (by decide)), fun h => u10 (h.resolve_left (by decide)), fun h => f11 (h.resolve_left (by decide))⟩
          | 9, ho =>
            cases Option.some.inj ho
            have ev : a.tmps[27]?.getD undef = .tuple #[.agg #[.bool (fitB n1 (X + Y)), pv], .int .i64 (fitE (X + Y))] := by rw [ha, e7 (hd ⟨7, .data⟩ (by simp) rfl)]; kernel_rfl
            refine wp_value (w' := w') (v := .int .i64 (fitE (X + Y))) (by simp [execOp, ev, go_sem]) ?_
            exact ⟨v5, v20, v21, v22, v23, v24, v25, v26, v27, v28, (.int .i64 (fitE (X + Y))), sp, sn, sc, pv, u0, u1, by rw [ha]; kernel_rfl, hB, hsz, k0, k1, k2, fun h => e0 (h.resolve_left (by decide)), fun h => e1 (h.resolve_left (by decide)), fun h => e2 (h.resolve_left (by decide)), fun h => e3 (h.resolve_left (by decide)), fun h => e4 (h.resolve_left (by decide)), fun h => e5 (h.resolve_left (by decide)), fun h => e6 (h.resolve_left (by decide)), fun h => e7 (h.resolve_left (by decide)), fun h => e8 (h.resolve_left (by decide)), fun _ => rfl, fun h => s6 (h.resolve_left (by decide)), fun h => o7 (h.resolve_left (by decide)), fun h => u10 (h.resolve_left (by decide)), fun h => f11 (h.resolve_left (by decide))⟩
          | 10, ho =>
            cases Option.some.inj ho
            have ev : a.tmps[28]?.getD undef = .agg #[.bool (fitB n1 (X + Y)), pv] := by rw [ha, e8 (hd ⟨8, .data⟩ (by simp) rfl)]; kernel_rfl
            have ev' : a.tmps[4]?.getD undef = .pointer (some ⟨w.heap.size + 2, 0, none⟩) := by rw [ha]; kernel_rfl
            have d7 : D 7 := hcl 8 _ rfl (hd ⟨8, .data⟩ (by simp) rfl) ⟨7, .data⟩ (by simp) rfl
            have hO := o7 d7
            obtain ⟨av, cv, rfl, _⟩ := hO.2
            refine wp_store_row 24 (.tmp 4) (.tmp 28) rfl (w.heap.size + 2) _ (eval_of ev') (eval_of ev) 24 _ k2 size24' rfl (by simp [Value.oneCell']) ?_
            exact ⟨v5, v20, v21, v22, v23, v24, v25, v26, v27, v28, v29, sp, sn, sc, _, (.bool (fitB n1 (X + Y))), _, by rw [ha]; kernel_rfl, below_setRow hB (by omega) _, (by simpa using hsz), (setRow_other _ _ _ _ (by omega)).trans k0, (setRow_other _ _ _ _ (by omega)).trans k1, setRow_heap _ _ _ _ _ _ k2, fun h => e0 (h.resolve_left (by decide)), fun h => e1 (h.resolve_left (by decide)), fun h => e2 (h.resolve_left (by decide)), fun h => e3 (h.resolve_left (by decide)), fun h => e4 (h.resolve_left (by decide)), fun h => e5 (h.resolve_left (by decide)), fun h => e6 (h.resolve_left (by decide)), fun h => e7 (h.resolve_left (by decide)), fun h => e8 (h.resolve_left (by decide)), fun h => e9 (h.resolve_left (by decide)), fun h => by obtain ⟨zs, q1, q2⟩ := s6 (h.resolve_left (by decide)); exact ⟨zs, ownB_setRow q1 (by omega), q2⟩, fun _ => ownB_setRow hO (by omega), fun _ => ⟨rfl, rfl⟩, fun h => f11 (h.resolve_left (by decide))⟩
          | 11, ho =>
            cases Option.some.inj ho
            have ev : a.tmps[29]?.getD undef = .int .i64 (fitE (X + Y)) := by rw [ha, e9 (hd ⟨9, .data⟩ (by simp) rfl)]; kernel_rfl
            refine wp_value (w' := w') (v := .int .i64 (fitE (X + Y))) (by simp [execOp, ev, go_sem]) ?_
            exact ⟨(.int .i64 (fitE (X + Y))), v20, v21, v22, v23, v24, v25, v26, v27, v28, v29, sp, sn, sc, pv, u0, u1, by rw [ha]; kernel_rfl, hB, hsz, k0, k1, k2, fun h => e0 (h.resolve_left (by decide)), fun h => e1 (h.resolve_left (by decide)), fun h => e2 (h.resolve_left (by decide)), fun h => e3 (h.resolve_left (by decide)), fun h => e4 (h.resolve_left (by decide)), fun h => e5 (h.resolve_left (by decide)), fun h => e6 (h.resolve_left (by decide)), fun h => e7 (h.resolve_left (by decide)), fun h => e8 (h.resolve_left (by decide)), fun h => e9 (h.resolve_left (by decide)), fun h => s6 (h.resolve_left (by decide)), fun h => o7 (h.resolve_left (by decide)), fun h => u10 (h.resolve_left (by decide)), fun _ => rfl⟩
          | i + 12, ho => simp at ho
        case done =>
          rintro D a w' ⟨v5, v20, v21, v22, v23, v24, v25, v26, v27, v28, v29, sp, sn, sc, pv, u0, u1, ha, hB, hsz, k0, k1, k2, e0, e1, e2, e3, e4, e5, e6, e7, e8, e9, s6, o7, u10, f11⟩ hall
          have oV := o7 (hall 7 (by decide))
          obtain ⟨hu0, hu1⟩ := u10 (hall 10 (by decide))
          rw [hu0, hu1] at k2
          obtain rfl := f11 (hall 11 (by decide))
          clear hu0 hu1 e0 e1 e2 e3 e4 e5 e6 e7 e8 e9 s6 o7 u10 f11 hall k0 k1
          obtain ⟨p0, p1, _, _⟩ := intVarT k2
          rw [ha]
          clear ha
          simp only [Act.put, List.setIfInBounds_toArray, List.set_cons_zero, List.set_cons_succ]
          go_wp2
          exact bodyPost_ret (v := .tuple #[.agg #[.bool (fitB n1 (X + Y)), pv], .int .i64 (fitE (X + Y))]) (by simp [results, Tryd.results22, go_sem, p0, p1]) rfl ⟨pv, by rw [e1'.out, e2'.out], by rw [e3'.out]; exact oV.mono (by omega), hB⟩
      · have hnb : (n1 == n2) = false := by simpa using hn
        go_wp2_with fail
        refine (rcmp_any (h1.below hB3) (h2.below hB3) d1 d2 (by omega) (by omega)).mono ?_
        rintro e w4 ⟨m, rfl, hT, hb4⟩
        rw [HX.out, HY.out] at hT
        replace u0 := (hb4.block _ (lt_of_block u0)).trans u0
        replace u1 := (hb4.block _ (lt_of_block u1)).trans u1
        replace u2 := (hb4.block _ (lt_of_block u2)).trans u2
        replace hB3 := below_size hB3 (Nat.le_refl _) hb4
        replace hsz3 := Nat.le_trans hsz3 hb4.size
        obtain ⟨t1, t2, t3, _, _⟩ := hT
        clear x0 x1 y0 y1 q0 q1 qf0 qf1 xf0 xf1 yf0 yf1 hb4
        by_cases hlt : X < Y
        · have hm : ¬ (0 : Int) ≤ m := by have := t1 hlt; omega
          have e1' : Hid (addB n1 xs n2 n2 ys = fitB n2 (Y - X)) := by show _ = _; rw [f1]; unfold sumNeg sumMag; rw [if_neg hn, if_neg hn, if_pos hlt, if_pos hlt]
          have e2' : Hid (addE n1 xs n2 n2 ys = fitE (Y - X)) := by show _ = _; rw [f2]; unfold sumMag; rw [if_neg hn, if_pos hlt]
          have e3' : Hid (addM n1 xs n2 n2 ys = fitM (Y - X)) := by show _ = _; rw [f3]; unfold sumMag; rw [if_neg hn, if_pos hlt]
          have hle : val8 xs ≤ val8 ys := by rw [HX.out, HY.out]; omega
          clear f1 f2 f3 t1 t2 t3
          go_wp2
          refine wp_region_inv' (fun A D a w' => ∃ v5 v46 v47 v48 v49 v50 v51 v52 v53 v54 v55 sp sn sc pv u0 u1, a = (((((((((((A.put (some 5) v5).put (some 46) v46).put (some 47) v47).put (some 48) v48).put (some 49) v49).put (some 50) v50).put (some 51) v51).put (some 52) v52).put (some 53) v53).put (some 54) v54).put (some 55) v55) ∧ Below w.heap.size w w' ∧ w.heap.size + 3 ≤ w'.heap.size ∧ w'.heap[w.heap.size]? = some (.cells #[.bool n1, .slice a1 l1 c1] 24 (0, 0)) ∧ w'.heap[w.heap.size + 1]? = some (.cells #[.bool n2, .slice a2 l2 c2] 24 (0, 0)) ∧ w'.heap[w.heap.size + 2]? = some (.cells #[u0, u1] 24 (0, 0)) ∧ (D 0 → v46 = .pointer (some ⟨w.heap.size + 1, 0, none⟩)) ∧ (D 1 → v47 = .bool n2) ∧ (D 2 → v48 = .pointer (some ⟨w.heap.size + 1, 1, none⟩)) ∧ (D 3 → v49 = .slice a2 l2 c2) ∧ (D 4 → v50 = .pointer (some ⟨w.heap.size, 1, none⟩)) ∧ (D 5 → v51 = .slice a1 l1 c1) ∧ (D 6 → v52 = .slice sp sn sc) ∧ (D 7 → v53 = .tuple #[.agg #[.bool (fitB n2 (Y - X)), pv], .int .i64 (fitE (Y - X))]) ∧ (D 8 → v54 = .agg #[.bool (fitB n2 (Y - X)), pv]) ∧ (D 9 → v55 = .int .i64 (fitE (Y - X))) ∧ (D 6 → ∃ zs, OwnB w' (w.heap.size + 3) (.slice sp sn sc) zs ∧ val8 zs = (Y - X) ∧ sn ≤ 100000) ∧ (D 7 → OwnB w' (w.heap.size + 3) pv (fitM (Y - X))) ∧ (D 10 → u0 = .bool (fitB n2 (Y - X)) ∧ u1 = pv) ∧ (D 11 → v5 = .int .i64 (fitE (Y - X)))) (by kernel_rfl) (by kernel_rfl) ?mono ?start ?step ?done
          case mono =>
            rintro D D' a w' hD ⟨v5, v46, v47, v48, v49, v50, v51, v52, v53, v54, v55, sp, sn, sc, pv, u0, u1, ha, hB, hsz, k0, k1, k2, e0, e1, e2, e3, e4, e5, e6, e7, e8, e9, s6, o7, u10, f11⟩
            exact ⟨v5, v46, v47, v48, v49, v50, v51, v52, v53, v54, v55, sp, sn, sc, pv, u0, u1, ha, hB, hsz, k0, k1, k2, fun h => e0 ((hD 0).2 h), fun h => e1 ((hD 1).2 h), fun h => e2 ((hD 2).2 h), fun h => e3 ((hD 3).2 h), fun h => e4 ((hD 4).2 h), fun h => e5 ((hD 5).2 h), fun h => e6 ((hD 6).2 h), fun h => e7 ((hD 7).2 h), fun h => e8 ((hD 8).2 h), fun h => e9 ((hD 9).2 h), fun h => s6 ((hD 6).2 h), fun h => o7 ((hD 7).2 h), fun h => u10 ((hD 10).2 h), fun h => f11 ((hD 11).2 h)⟩
          case start => exact ⟨(.int .i64 0), undef, undef, undef, undef, undef, undef, undef, undef, undef, undef, none, 0, 0, undef, _, _, by kernel_rfl, hB3.drew, hsz3, u0, u1, u2, fun h => h.elim, fun h => h.elim, fun h => h.elim, fun h => h.elim, fun h => h.elim, fun h => h.elim, fun h => h.elim, fun h => h.elim, fun h => h.elim, fun h => h.elim, fun h => h.elim, fun h => h.elim, fun h => h.elim, fun h => h.elim⟩
          case step =>
            intro i o ho D a w' hI hn hcl hd
            obtain ⟨v5, v46, v47, v48, v49, v50, v51, v52, v53, v54, v55, sp, sn, sc, pv, u0, u1, ha, hB, hsz, k0, k1, k2, e0, e1, e2, e3, e4, e5, e6, e7, e8, e9, s6, o7, u10, f11⟩ := hI
            match i, ho with
            | 0, ho =>
              cases Option.some.inj ho
              have ev : a.tmps[3]?.getD undef = .pointer (some ⟨w.heap.size + 1, 0, none⟩) := by rw [ha]; kernel_rfl
              refine wp_value (w' := w') (v := .pointer (some ⟨w.heap.size + 1, 0, none⟩)) (by simp [execOp, ev, go_sem]) ?_
              exact ⟨v5, (.pointer (some ⟨w.heap.size + 1, 0, none⟩)), v47, v48, v49, v50, v51, v52, v53, v54, v55, sp, sn, sc, pv, u0, u1, by rw [ha]; kernel_rfl, hB, hsz, k0, k1, k2, fun _ => rfl, fun h => e1 (h.resolve_left (by decide)), fun h => e2 (h.resolve_left (by decide)), fun h => e3 (h.resolve_left (by decide)), fun h => e4 (h.resolve_left (by decide)), fun h => e5 (h.resolve_left (by decide)), fun h => e6 (h.resolve_left (by decide)), fun h => e7 (h.resolve_left (by decide)), fun h => e8 (h.resolve_left (by decide)), fun h => e9 (h.resolve_left (by decide)), fun h => s6 (h.resolve_left (by decide)), fun h => o7 (h.resolve_left (by decide)), fun h => u10 (h.resolve_left (by decide)), fun h => f11 (h.resolve_left (by decide))⟩
            | 1, ho =>
              cases Option.some.inj ho
              have ev : a.tmps[46]?.getD undef = .pointer (some ⟨w.heap.size + 1, 0, none⟩) := by rw [ha, e0 (hd ⟨0, .data⟩ (by simp) rfl)]; kernel_rfl
              have hc := (intVarT k1).1
              refine wp_value (w' := w') (v := .bool n2) (by simp [execOp, ev, hc, go_sem]) ?_
              exact ⟨v5, v46, (.bool n2), v48, v49, v50, v51, v52, v53, v54, v55, sp, sn, sc, pv, u0, u1, by rw [ha]; kernel_rfl, hB, hsz, k0, k1, k2, fun h => e0 (h.resolve_left (by decide)), fun _ => rfl, fun h => e2 (h.resolve_left (by decide)), fun h => e3 (h.resolve_left (by decide)), fun h => e4 (h.resolve_left (by decide)), fun h => e5 (h.resolve_left (by decide)), fun h => e6 (h.resolve_left (by decide)), fun h => e7 (h.resolve_left (by decide)), fun h => e8 (h.resolve_left (by decide)), fun h => e9 (h.resolve_left (by decide)), fun h => s6 (h.resolve_left (by decide)), fun h => o7 (h.resolve_left (by decide)), fun h => u10 (h.resolve_left (by decide)), fun h => f11 (h.resolve_left (by decide))⟩
            | 2, ho =>
              cases Option.some.inj ho
              have ev : a.tmps[3]?.getD undef = .pointer (some ⟨w.heap.size + 1, 0, none⟩) := by rw [ha]; kernel_rfl
              refine wp_value (w' := w') (v := .pointer (some ⟨w.heap.size + 1, 1, none⟩)) (by simp [execOp, ev, go_sem]) ?_
              exact ⟨v5, v46, v47, (.pointer (some ⟨w.heap.size + 1, 1, none⟩)), v49, v50, v51, v52, v53, v54, v55, sp, sn, sc, pv, u0, u1, by rw [ha]; kernel_rfl, hB, hsz, k0, k1, k2, fun h => e0 (h.resolve_left (by decide)), fun h => e1 (h.resolve_left (by decide)), fun _ => rfl, fun h => e3 (h.resolve_left (by decide)), fun h => e4 (h.resolve_left (by decide)), fun h => e5 (h.resolve_left (by decide)), fun h => e6 (h.resolve_left (by decide)), fun h => e7 (h.resolve_left (by decide)), fun h => e8 (h.resolve_left (by decide)), fun h => e9 (h.resolve_left (by decide)), fun h => s6 (h.resolve_left (by decide)), fun h => o7 (h.resolve_left (by decide)), fun h => u10 (h.resolve_left (by decide)), fun h => f11 (h.resolve_left (by decide))⟩
            | 3, ho =>
              cases Option.some.inj ho
              have ev : a.tmps[48]?.getD undef = .pointer (some ⟨w.heap.size + 1, 1, none⟩) := by rw [ha, e2 (hd ⟨2, .data⟩ (by simp) rfl)]; kernel_rfl
              have hc := (intVarT k1).2.1
              rw [Nat.zero_add] at hc
              refine wp_value (w' := w') (v := .slice a2 l2 c2) (by simp [execOp, ev, hc, go_sem]) ?_
              exact ⟨v5, v46, v47, v48, (.slice a2 l2 c2), v50, v51, v52, v53, v54, v55, sp, sn, sc, pv, u0, u1, by rw [ha]; kernel_rfl, hB, hsz, k0, k1, k2, fun h => e0 (h.resolve_left (by decide)), fun h => e1 (h.resolve_left (by decide)), fun h => e2 (h.resolve_left (by decide)), fun _ => rfl, fun h => e4 (h.resolve_left (by decide)), fun h => e5 (h.resolve_left (by decide)), fun h => e6 (h.resolve_left (by decide)), fun h => e7 (h.resolve_left (by decide)), fun h => e8 (h.resolve_left (by decide)), fun h => e9 (h.resolve_left (by decide)), fun h => s6 (h.resolve_left (by decide)), fun h => o7 (h.resolve_left (by decide)), fun h => u10 (h.resolve_left (by decide)), fun h => f11 (h.resolve_left (by decide))⟩
            | 4, ho =>
              cases Option.some.inj ho
              have ev : a.tmps[2]?.getD undef = .pointer (some ⟨w.heap.size, 0, none⟩) := by rw [ha]; kernel_rfl
              refine wp_value (w' := w') (v := .pointer (some ⟨w.heap.size, 1, none⟩)) (by simp [execOp, ev, go_sem]) ?_
              exact ⟨v5, v46, v47, v48, v49, (.pointer (some ⟨w.heap.size, 1, none⟩)), v51, v52, v53, v54, v55, sp, sn, sc, pv, u0, u1, by rw [ha]; kernel_rfl, hB, hsz, k0, k1, k2, fun h => e0 (h.resolve_left (by decide)), fun h => e1 (h.resolve_left (by decide)), fun h => e2 (h.resolve_left (by decide)), fun h => e3 (h.resolve_left (by decide)), fun _ => rfl, fun h => e5 (h.resolve_left (by decide)), fun h => e6 (h.resolve_left (by decide)), fun h => e7 (h.resolve_left (by decide)), fun h => e8 (h.resolve_left (by decide)), fun h => e9 (h.resolve_left (by decide)), fun h => s6 (h.resolve_left (by decide)), fun h => o7 (h.resolve_left (by decide)), fun h => u10 (h.resolve_left (by decide)), fun h => f11 (h.resolve_left (by decide))⟩
            | 5, ho =>
              cases Option.some.inj ho
              have ev : a.tmps[50]?.getD undef = .pointer (some ⟨w.heap.size, 1, none⟩) := by rw [ha, e4 (hd ⟨4, .data⟩ (by simp) rfl)]; kernel_rfl
              have hc := (intVarT k0).2.1
              rw [Nat.zero_add] at hc
              refine wp_value (w' := w') (v := .slice a1 l1 c1) (by simp [execOp, ev, hc, go_sem]) ?_
              exact ⟨v5, v46, v47, v48, v49, v50, (.slice a1 l1 c1), v52, v53, v54, v55, sp, sn, sc, pv, u0, u1, by rw [ha]; kernel_rfl, hB, hsz, k0, k1, k2, fun h => e0 (h.resolve_left (by decide)), fun h => e1 (h.resolve_left (by decide)), fun h => e2 (h.resolve_left (by decide)), fun h => e3 (h.resolve_left (by decide)), fun h => e4 (h.resolve_left (by decide)), fun _ => rfl, fun h => e6 (h.resolve_left (by decide)), fun h => e7 (h.resolve_left (by decide)), fun h => e8 (h.resolve_left (by decide)), fun h => e9 (h.resolve_left (by decide)), fun h => s6 (h.resolve_left (by decide)), fun h => o7 (h.resolve_left (by decide)), fun h => u10 (h.resolve_left (by decide)), fun h => f11 (h.resolve_left (by decide))⟩
            | 6, ho =>
              cases Option.some.inj ho
              have n7 : ¬ D 7 := fun h => hn (hcl 7 _ rfl h ⟨6, .data⟩ (by simp) rfl)
              have ev : a.tmps[49]?.getD undef = .slice a2 l2 c2 := by rw [ha, e3 (hd ⟨3, .data⟩ (by simp) rfl)]; kernel_rfl
              have ev' : a.tmps[51]?.getD undef = .slice a1 l1 c1 := by rw [ha, e5 (hd ⟨5, .data⟩ (by simp) rfl)]; kernel_rfl
              refine wp_enter (f := 44) (args := #[.slice a2 l2 c2, .slice a1 l1 c1]) (by simp [execOp, ev, ev', go_sem]) ?_
              refine (rless_any (h2.below hB) (h1.below hB) (by omega) (by omega) hle).mono ?_
              rintro e w6 ⟨nv, zs, rfl, hO, hzv, hzl, HB⟩
              obtain ⟨np, nc, rfl, hI⟩ := hO.2
              refine ⟨_, rfl, ?_⟩
              exact ⟨v5, v46, v47, v48, v49, v50, v51, (.slice np zs.length nc), v53, v54, v55, np, zs.length, nc, pv, u0, u1, by rw [ha]; kernel_rfl, below_size hB (Nat.le_refl _) HB, Nat.le_trans hsz HB.size, (HB.block _ (lt_of_block k0)).trans k0, (HB.block _ (lt_of_block k1)).trans k1, (HB.block _ (lt_of_block k2)).trans k2, fun h => e0 (h.resolve_left (by decide)), fun h => e1 (h.resolve_left (by decide)), fun h => e2 (h.resolve_left (by decide)), fun h => e3 (h.resolve_left (by decide)), fun h => e4 (h.resolve_left (by decide)), fun h => e5 (h.resolve_left (by decide)), fun _ => rfl, fun h => e7 (h.resolve_left (by decide)), fun h => e8 (h.resolve_left (by decide)), fun h => e9 (h.resolve_left (by decide)), fun _ => ⟨zs, hO.mono hsz, by rw [hzv, HX.out, HY.out], by omega⟩, fun h => absurd (h.resolve_left (by decide)) n7, fun h => u10 (h.resolve_left (by decide)), fun h => f11 (h.resolve_left (by decide))⟩
            | 7, ho =>
              cases Option.some.inj ho
              have n8 : ¬ D 8 := fun h => hn (hcl 8 _ rfl h ⟨7, .data⟩ (by simp) rfl)
              have n10 : ¬ D 10 := fun h => n8 (hcl 10 _ rfl h ⟨8, .data⟩ (by simp) rfl)
              have ev : a.tmps[47]?.getD undef = .bool n2 := by rw [ha, e1 (hd ⟨1, .data⟩ (by simp) rfl)]; kernel_rfl
              have ev' : a.tmps[52]?.getD undef = .slice sp sn sc := by rw [ha, e6 (hd ⟨6, .data⟩ (by simp) rfl)]; kernel_rfl
              obtain ⟨zs, q1, q2, q3⟩ := s6 (hd ⟨6, .data⟩ (by simp) rfl)
              refine wp_enter (f := 42) (args := #[.bool n2, .slice sp sn sc]) (by simp [execOp, ev, ev', go_sem]) ?_
              refine (fits_any n2 q1.isB q3).mono ?_
              rintro e w6 ⟨nv, rfl, hO, HB⟩
              rw [q2] at hO ⊢
              refine ⟨_, rfl, ?_⟩
              exact ⟨v5, v46, v47, v48, v49, v50, v51, v52, (.tuple #[.agg #[.bool (fitB n2 (Y - X)), nv], .int .i64 (fitE (Y - X))]), v54, v55, sp, sn, sc, nv, u0, u1, by rw [ha]; kernel_rfl, below_size hB (Nat.le_refl _) HB, Nat.le_trans hsz HB.size, (HB.block _ (lt_of_block k0)).trans k0, (HB.block _ (lt_of_block k1)).trans k1, (HB.block _ (lt_of_block k2)).trans k2, fun h => e0 (h.resolve_left (by decide)), fun h => e1 (h.resolve_left (by decide)), fun h => e2 (h.resolve_left (by decide)), fun h => e3 (h.resolve_left (by decide)), fun h => e4 (h.resolve_left (by decide)), fun h => e5 (h.resolve_left (by decide)), fun h => e6 (h.resolve_left (by decide)), fun _ => rfl, fun h => absurd (h.resolve_left (by decide)) n8, fun h => e9 (h.resolve_left (by decide)), fun h => by obtain ⟨zs, q1, q2⟩ := s6 (h.resolve_left (by decide)); exact ⟨zs, q1.below HB, q2⟩, fun _ => hO.mono hsz, fun h => absurd (h.resolve_left (by decide)) n10, fun h => f11 (h.resolve_left (by decide))⟩
            | 8, ho =>
              cases Option.some.inj ho
              have ev : a.tmps[53]?.getD undef = .tuple #[.agg #[.bool (fitB n2 (Y - X)), pv], .int .i64 (fitE (Y - X))] := by rw [ha, e7 (hd ⟨7, .data⟩ (by simp) rfl)]; kernel_rfl
              refine wp_value (w' := w') (v := .agg #[.bool (fitB n2 (Y - X)), pv]) (by simp [execOp, ev, go_sem]) ?_
              exact ⟨v5, v46, v47, v48, v49, v50, v51, v52, v53, (.agg #[.bool (fitB n2 (Y - X)), pv]), v55, sp, sn, sc, pv, u0, u1, by rw [ha]; kernel_rfl, hB, hsz, k0, k1, k2, fun h => e0 (h.resolve_left (by decide)), fun h => e1 (h.resolve_left (by decide)), fun h => e2 (h.resolve_left (by decide)), fun h => e3 (h.resolve_left (by decide)), fun h => e4 (h.resolve_left (by decide)), fun h => e5 (h.resolve_left (by decide)), fun h => e6 (h.resolve_left (by decide)), fun h => e7 (h.resolve_left (by decide)), fun _ => rfl, fun h => e9 (h.resolve_left (by decide)), fun h => s6 (h.resolve_left (by decide)), fun h => o7 (h.resolve_left (by decide)), fun h => u10 (h.resolve_left (by decide)), fun h => f11 (h.resolve_left (by decide))⟩
            | 9, ho =>
              cases Option.some.inj ho
              have ev : a.tmps[53]?.getD undef = .tuple #[.agg #[.bool (fitB n2 (Y - X)), pv], .int .i64 (fitE (Y - X))] := by rw [ha, e7 (hd ⟨7, .data⟩ (by simp) rfl)]; kernel_rfl
              refine wp_value (w' := w') (v := .int .i64 (fitE (Y - X))) (by simp [execOp, ev, go_sem]) ?_
              exact ⟨v5, v46, v47, v48, v49, v50, v51, v52, v53, v54, (.int .i64 (fitE (Y - X))), sp, sn, sc, pv, u0, u1, by rw [ha]; kernel_rfl, hB, hsz, k0, k1, k2, fun h => e0 (h.resolve_left (by decide)), fun h => e1 (h.resolve_left (by decide)), fun h => e2 (h.resolve_left (by decide)), fun h => e3 (h.resolve_left (by decide)), fun h => e4 (h.resolve_left (by decide)), fun h => e5 (h.resolve_left (by decide)), fun h => e6 (h.resolve_left (by decide)), fun h => e7 (h.resolve_left (by decide)), fun h => e8 (h.resolve_left (by decide)), fun _ => rfl, fun h => s6 (h.resolve_left (by decide)), fun h => o7 (h.resolve_left (by decide)), fun h => u10 (h.resolve_left (by decide)), fun h => f11 (h.resolve_left (by decide))⟩
            | 10, ho =>
              cases Option.some.inj ho
              have ev : a.tmps[54]?.getD undef = .agg #[.bool (fitB n2 (Y - X)), pv] := by rw [ha, e8 (hd ⟨8, .data⟩ (by simp) rfl)]; kernel_rfl
              have ev' : a.tmps[4]?.getD undef = .pointer (some ⟨w.heap.size + 2, 0, none⟩) := by rw [ha]; kernel_rfl
              have d7 : D 7 := hcl 8 _ rfl (hd ⟨8, .data⟩ (by simp) rfl) ⟨7, .data⟩ (by simp) rfl
              have hO := o7 d7
              obtain ⟨av, cv, rfl, _⟩ := hO.2
              refine wp_store_row 24 (.tmp 4) (.tmp 54) rfl (w.heap.size + 2) _ (eval_of ev') (eval_of ev) 24 _ k2 size24' rfl (by simp [Value.oneCell']) ?_
              exact ⟨v5, v46, v47, v48, v49, v50, v51, v52, v53, v54, v55, sp, sn, sc, _, (.bool (fitB n2 (Y - X))), _, by rw [ha]; kernel_rfl, below_setRow hB (by omega) _, (by simpa using hsz), (setRow_other _ _ _ _ (by omega)).trans k0, (setRow_other _ _ _ _ (by omega)).trans k1, setRow_heap _ _ _ _ _ _ k2, fun h => e0 (h.resolve_left (by decide)), fun h => e1 (h.resolve_left (by decide)), fun h => e2 (h.resolve_left (by decide)), fun h => e3 (h.resolve_left (by decide)), fun h => e4 (h.resolve_left (by decide)), fun h => e5 (h.resolve_left (by decide)), fun h => e6 (h.resolve_left (by decide)), fun h => e7 (h.resolve_left (by decide)), fun h => e8 (h.resolve_left (by decide)), fun h => e9 (h.resolve_left (by decide)), fun h => by obtain ⟨zs, q1, q2⟩ := s6 (h.resolve_left (by decide)); exact ⟨zs, ownB_setRow q1 (by omega), q2⟩, fun _ => ownB_setRow hO (by omega), fun _ => ⟨rfl, rfl⟩, fun h => f11 (h.resolve_left (by decide))⟩
            | 11, ho =>
              cases Option.some.inj ho
              have ev : a.tmps[55]?.getD undef = .int .i64 (fitE (Y - X)) := by rw [ha, e9 (hd ⟨9, .data⟩ (by simp) rfl)]; kernel_rfl
              refine wp_value (w' := w') (v := .int .i64 (fitE (Y - X))) (by simp [execOp, ev, go_sem]) ?_
              exact ⟨(.int .i64 (fitE (Y - X))), v46, v47, v48, v49, v50, v51, v52, v53, v54, v55, sp, sn, sc, pv, u0, u1, by rw [ha]; kernel_rfl, hB, hsz, k0, k1, k2, fun h => e0 (h.resolve_left (by decide)), fun h => e1 (h.resolve_left (by decide)), fun h => e2 (h.resolve_left (by decide)), fun h => e3 (h.resolve_left (by decide)), fun h => e4 (h.resolve_left (by decide)), fun h => e5 (h.resolve_left (by decide)), fun h => e6 (h.resolve_left (by decide)), fun h => e7 (h.resolve_left (by decide)), fun h => e8 (h.resolve_left (by decide)), fun h => e9 (h.resolve_left (by decide)), fun h => s6 (h.resolve_left (by decide)), fun h => o7 (h.resolve_left (by decide)), fun h => u10 (h.resolve_left (by decide)), fun _ => rfl⟩
            | i + 12, ho => simp at ho
          case done =>
            rintro D a w' ⟨v5, v46, v47, v48, v49, v50, v51, v52, v53, v54, v55, sp, sn, sc, pv, u0, u1, ha, hB, hsz, k0, k1, k2, e0, e1, e2, e3, e4, e5, e6, e7, e8, e9, s6, o7, u10, f11⟩ hall
            have oV := o7 (hall 7 (by decide))
            obtain ⟨hu0, hu1⟩ := u10 (hall 10 (by decide))
            rw [hu0, hu1] at k2
            obtain rfl := f11 (hall 11 (by decide))
            clear hu0 hu1 e0 e1 e2 e3 e4 e5 e6 e7 e8 e9 s6 o7 u10 f11 hall k0 k1
            obtain ⟨p0, p1, _, _⟩ := intVarT k2
            rw [ha]
            clear ha
            simp only [Act.put, List.setIfInBounds_toArray, List.set_cons_zero, List.set_cons_succ]
            go_wp2
            exact bodyPost_ret (v := .tuple #[.agg #[.bool (fitB n2 (Y - X)), pv], .int .i64 (fitE (Y - X))]) (by simp [results, Tryd.results22, go_sem, p0, p1]) rfl ⟨pv, by rw [e1'.out, e2'.out], by rw [e3'.out]; exact oV.mono (by omega), hB⟩
        · have hm : (0 : Int) ≤ m := by
            rcases Nat.lt_or_ge Y X with h | h
            · have := t3 h; omega
            · have := t2 (by omega); omega
          have e1' : Hid (addB n1 xs n2 n2 ys = fitB n1 (X - Y)) := by show _ = _; rw [f1]; unfold sumNeg sumMag; rw [if_neg hn, if_neg hn, if_neg hlt, if_neg hlt]
          have e2' : Hid (addE n1 xs n2 n2 ys = fitE (X - Y)) := by show _ = _; rw [f2]; unfold sumMag; rw [if_neg hn, if_neg hlt]
          have e3' : Hid (addM n1 xs n2 n2 ys = fitM (X - Y)) := by show _ = _; rw [f3]; unfold sumMag; rw [if_neg hn, if_neg hlt]
          have hle : val8 ys ≤ val8 xs := by rw [HX.out, HY.out]; omega
          clear f1 f2 f3 t1 t2 t3
          go_wp2
          refine wp_region_inv' (fun A D a w' => ∃ v5 v36 v37 v38 v39 v40 v41 v42 v43 v44 v45 sp sn sc pv u0 u1, a = (((((((((((A.put (some 5) v5).put (some 36) v36).put (some 37) v37).put (some 38) v38).put (some 39) v39).put (some 40) v40).put (some 41) v41).put (some 42) v42).put (some 43) v43).put (some 44) v44).put (some 45) v45) ∧ Below w.heap.size w w' ∧ w.heap.size + 3 ≤ w'.heap.size ∧ w'.heap[w.heap.size]? = some (.cells #[.bool n1, .slice a1 l1 c1] 24 (0, 0)) ∧ w'.heap[w.heap.size + 1]? = some (.cells #[.bool n2, .slice a2 l2 c2] 24 (0, 0)) ∧ w'.heap[w.heap.size + 2]? = some (.cells #[u0, u1] 24 (0, 0)) ∧ (D 0 → v36 = .pointer (some ⟨w.heap.size, 0, none⟩)) ∧ (D 1 → v37 = .bool n1) ∧ (D 2 → v38 = .pointer (some ⟨w.heap.size, 1, none⟩)) ∧ (D 3 → v39 = .slice a1 l1 c1) ∧ (D 4 → v40 = .pointer (some ⟨w.heap.size + 1, 1, none⟩)) ∧ (D 5 → v41 = .slice a2 l2 c2) ∧ (D 6 → v42 = .slice sp sn sc) ∧ (D 7 → v43 = .tuple #[.agg #[.bool (fitB n1 (X - Y)), pv], .int .i64 (fitE (X - Y))]) ∧ (D 8 → v44 = .agg #[.bool (fitB n1 (X - Y)), pv]) ∧ (D 9 → v45 = .int .i64 (fitE (X - Y))) ∧ (D 6 → ∃ zs, OwnB w' (w.heap.size + 3) (.slice sp sn sc) zs ∧ val8 zs = (X - Y) ∧ sn ≤ 100000) ∧ (D 7 → OwnB w' (w.heap.size + 3) pv (fitM (X - Y))) ∧ (D 10 → u0 = .bool (fitB n1 (X - Y)) ∧ u1 = pv) ∧ (D 11 → v5 = .int .i64 (fitE (X - Y)))) (by kernel_rfl) (by kernel_rfl) ?mono ?start ?step ?done
          case mono =>
            rintro D D' a w' hD ⟨v5, v36, v37, v38, v39, v40, v41, v42, v43, v44, v45, sp, sn, sc, pv, u0, u1, ha, hB, hsz, k0, k1, k2, e0, e1, e2, e3, e4, e5, e6, e7, e8, e9, s6, o7, u10, f11⟩
            exact ⟨v5, v36, v37, v38, v39, v40, v41, v42, v43, v44, v45, sp, sn, sc, pv, u0, u1, ha, hB, hsz, k0, k1, k2, fun h => e0 ((hD 0).2 h), fun h => e1 ((hD 1).2 h), fun h => e2 ((hD 2).2 h), fun h => e3 ((hD 3).2 h), fun h => e4 ((hD 4).2 h), fun h => e5 ((hD 5).2 h), fun h => e6 ((hD 6).2 h), fun h => e7 ((hD 7).2 h), fun h => e8 ((hD 8).2 h), fun h => e9 ((hD 9).2 h), fun h => s6 ((hD 6).2 h), fun h => o7 ((hD 7).2 h), fun h => u10 ((hD 10).2 h), fun h => f11 ((hD 11).2 h)⟩
          case start => exact ⟨(.int .i64 0), undef, undef, undef, undef, undef, undef, undef, undef, undef, undef, none, 0, 0, undef, _, _, by kernel_rfl, hB3.drew, hsz3, u0, u1, u2, fun h => h.elim, fun h => h.elim, fun h => h.elim, fun h => h.elim, fun h => h.elim, fun h => h.elim, fun h => h.elim, fun h => h.elim, fun h => h.elim, fun h => h.elim, fun h => h.elim, fun h => h.elim, fun h => h.elim, fun h => h.elim⟩
          case step =>
            intro i o ho D a w' hI hn hcl hd
            obtain ⟨v5, v36, v37, v38, v39, v40, v41, v42, v43, v44, v45, sp, sn, sc, pv, u0, u1, ha, hB, hsz, k0, k1, k2, e0, e1, e2, e3, e4, e5, e6, e7, e8, e9, s6, o7, u10, f11⟩ := hI
            match i, ho with
            | 0, ho =>
              cases Option.some.inj ho
              have ev : a.tmps[2]?.getD undef = .pointer (some ⟨w.heap.size, 0, none⟩) := by rw [ha]; kernel_rfl
              refine wp_value (w' := w') (v := .pointer (some ⟨w.heap.size, 0, none⟩)) (by simp [execOp, ev, go_sem]) ?_
              exact ⟨v5, (.pointer (some ⟨w.heap.size, 0, none⟩)), v37, v38, v39, v40, v41, v42, v43, v44, v45, sp, sn, sc, pv, u0, u1, by rw [ha]; kernel_rfl, hB, hsz, k0, k1, k2, fun _ => rfl, fun h => e1 (h.resolve_left (by decide)), fun h => e2 (h.resolve_left (by decide)), fun h => e3 (h.resolve_left (by decide)), fun h => e4 (h.resolve_left (by decide)), fun h => e5 (h.resolve_left (by decide)), fun h => e6 (h.resolve_left (by decide)), fun h => e7 (h.resolve_left (by decide)), fun h => e8 (h.resolve_left (by decide)), fun h => e9 (h.resolve_left (by decide)), fun h => s6 (h.resolve_left (by decide)), fun h => o7 (h.resolve_left (by decide)), fun h => u10 (h.resolve_left (by decide)), fun h => f11 (h.resolve_left (by decide))⟩
            | 1, ho =>
              cases Option.some.inj ho
              have ev : a.tmps[36]?.getD undef = .pointer (some ⟨w.heap.size, 0, none⟩) := by rw [ha, e0 (hd ⟨0, .data⟩ (by simp) rfl)]; kernel_rfl
              have hc := (intVarT k0).1
              refine wp_value (w' := w') (v := .bool n1) (by simp [execOp, ev, hc, go_sem]) ?_
              exact ⟨v5, v36, (.bool n1), v38, v39, v40, v41, v42, v43, v44, v45, sp, sn, sc, pv, u0, u1, by rw [ha]; kernel_rfl, hB, hsz, k0, k1, k2, fun h => e0 (h.resolve_left (by decide)), fun _ => rfl, fun h => e2 (h.resolve_left (by decide)), fun h => e3 (h.resolve_left (by decide)), fun h => e4 (h.resolve_left (by decide)), fun h => e5 (h.resolve_left (by decide)), fun h => e6 (h.resolve_left (by decide)), fun h => e7 (h.resolve_left (by decide)), fun h => e8 (h.resolve_left (by decide)), fun h => e9 (h.resolve_left (by decide)), fun h => s6 (h.resolve_left (by decide)), fun h => o7 (h.resolve_left (by decide)), fun h => u10 (h.resolve_left (by decide)), fun h => f11 (h.resolve_left (by decide))⟩
            | 2, ho =>
              cases Option.some.inj ho
              have ev : a.tmps[2]?.getD undef = .pointer (some ⟨w.heap.size, 0, none⟩) := by rw [ha]; kernel_rfl
              refine wp_value (w' := w') (v := .pointer (some ⟨w.heap.size, 1, none⟩)) (by simp [execOp, ev, go_sem]) ?_
              exact ⟨v5, v36, v37, (.pointer (some ⟨w.heap.size, 1, none⟩)), v39, v40, v41, v42, v43, v44, v45, sp, sn, sc, pv, u0, u1, by rw [ha]; kernel_rfl, hB, hsz, k0, k1, k2, fun h => e0 (h.resolve_left (by decide)), fun h => e1 (h.resolve_left (by decide)), fun _ => rfl, fun h => e3 (h.resolve_left (by decide)), fun h => e4 (h.resolve_left (by decide)), fun h => e5 (h.resolve_left (by decide)), fun h => e6 (h.resolve_left (by decide)), fun h => e7 (h.resolve_left (by decide)), fun h => e8 (h.resolve_left (by decide)), fun h => e9 (h.resolve_left (by decide)), fun h => s6 (h.resolve_left (by decide)), fun h => o7 (h.resolve_left (by decide)), fun h => u10 (h.resolve_left (by decide)), fun h => f11 (h.resolve_left (by decide))⟩
            | 3, ho =>
              cases Option.some.inj ho
              have ev : a.tmps[38]?.getD undef = .pointer (some ⟨w.heap.size, 1, none⟩) := by rw [ha, e2 (hd ⟨2, .data⟩ (by simp) rfl)]; kernel_rfl
              have hc := (intVarT k0).2.1
              rw [Nat.zero_add] at hc
              refine wp_value (w' := w') (v := .slice a1 l1 c1) (by simp [execOp, ev, hc, go_sem]) ?_
              exact ⟨v5, v36, v37, v38, (.slice a1 l1 c1), v40, v41, v42, v43, v44, v45, sp, sn, sc, pv, u0, u1, by rw [ha]; kernel_rfl, hB, hsz, k0, k1, k2, fun h => e0 (h.resolve_left (by decide)), fun h => e1 (h.resolve_left (by decide)), fun h => e2 (h.resolve_left (by decide)), fun _ => rfl, fun h => e4 (h.resolve_left (by decide)), fun h => e5 (h.resolve_left (by decide)), fun h => e6 (h.resolve_left (by decide)), fun h => e7 (h.resolve_left (by decide)), fun h => e8 (h.resolve_left (by decide)), fun h => e9 (h.resolve_left (by decide)), fun h => s6 (h.resolve_left (by decide)), fun h => o7 (h.resolve_left (by decide)), fun h => u10 (h.resolve_left (by decide)), fun h => f11 (h.resolve_left (by decide))⟩
            | 4, ho =>
              cases Option.some.inj ho
              have ev : a.tmps[3]?.getD undef = .pointer (some ⟨w.heap.size + 1, 0, none⟩) := by rw [ha]; kernel_rfl
              refine wp_value (w' := w') (v := .pointer (some ⟨w.heap.size + 1, 1, none⟩)) (by simp [execOp, ev, go_sem]) ?_
              exact ⟨v5, v36, v37, v38, v39, (.pointer (some ⟨w.heap.size + 1, 1, none⟩)), v41, v42, v43, v44, v45, sp, sn, sc, pv, u0, u1, by rw [ha]; kernel_rfl, hB, hsz, k0, k1, k2, fun h => e0 (h.resolve_left (by decide)), fun h => e1 (h.resolve_left (by decide)), fun h => e2 (h.resolve_left (by decide)), fun h => e3 (h.resolve_left (by decide)), fun _ => rfl, fun h => e5 (h.resolve_left (by decide)), fun h => e6 (h.resolve_left (by decide)), fun h => e7 (h.resolve_left (by decide)), fun h => e8 (h.resolve_left (by decide)), fun h => e9 (h.resolve_left (by decide)), fun h => s6 (h.resolve_left (by decide)), fun h => o7 (h.resolve_left (by decide)), fun h => u10 (h.resolve_left (by decide)), fun h => f11 (h.resolve_left (by decide))⟩
            | 5, ho =>
              cases Option.some.inj ho
              have ev : a.tmps[40]?.getD undef = .pointer (some ⟨w.heap.size + 1, 1, none⟩) := by rw [ha, e4 (hd ⟨4, .data⟩ (by simp) rfl)]; kernel_rfl
              have hc := (intVarT k1).2.1
              rw [Nat.zero_add] at hc
              refine wp_value (w' := w') (v := .slice a2 l2 c2) (by simp [execOp, ev, hc, go_sem]) ?_
              exact ⟨v5, v36, v37, v38, v39, v40, (.slice a2 l2 c2), v42, v43, v44, v45, sp, sn, sc, pv, u0, u1, by rw [ha]; kernel_rfl, hB, hsz, k0, k1, k2, fun h => e0 (h.resolve_left (by decide)), fun h => e1 (h.resolve_left (by decide)), fun h => e2 (h.resolve_left (by decide)), fun h => e3 (h.resolve_left (by decide)), fun h => e4 (h.resolve_left (by decide)), fun _ => rfl, fun h => e6 (h.resolve_left (by decide)), fun h => e7 (h.resolve_left (by decide)), fun h => e8 (h.resolve_left (by decide)), fun h => e9 (h.resolve_left (by decide)), fun h => s6 (h.resolve_left (by decide)), fun h => o7 (h.resolve_left (by decide)), fun h => u10 (h.resolve_left (by decide)), fun h => f11 (h.resolve_left (by decide))⟩
            | 6, ho =>
              cases Option.some.inj ho
              have n7 : ¬ D 7 := fun h => hn (hcl 7 _ rfl h ⟨6, .data⟩ (by simp) rfl)
              have ev : a.tmps[39]?.getD undef = .slice a1 l1 c1 := by rw [ha, e3 (hd ⟨3, .data⟩ (by simp) rfl)]; kernel_rfl
              have ev' : a.tmps[41]?.getD undef = .slice a2 l2 c2 := by rw [ha, e5 (hd ⟨5, .data⟩ (by simp) rfl)]; kernel_rfl
              refine wp_enter (f := 44) (args := #[.slice a1 l1 c1, .slice a2 l2 c2]) (by simp [execOp, ev, ev', go_sem]) ?_
              refine (rless_any (h1.below hB) (h2.below hB) (by omega) (by omega) hle).mono ?_
              rintro e w6 ⟨nv, zs, rfl, hO, hzv, hzl, HB⟩
              obtain ⟨np, nc, rfl, hI⟩ := hO.2
              refine ⟨_, rfl, ?_⟩
              exact ⟨v5, v36, v37, v38, v39, v40, v41, (.slice np zs.length nc), v43, v44, v45, np, zs.length, nc, pv, u0, u1, by rw [ha]; kernel_rfl, below_size hB (Nat.le_refl _) HB, Nat.le_trans hsz HB.size, (HB.block _ (lt_of_block k0)).trans k0, (HB.block _ (lt_of_block k1)).trans k1, (HB.block _ (lt_of_block k2)).trans k2, fun h => e0 (h.resolve_left (by decide)), fun h => e1 (h.resolve_left (by decide)), fun h => e2 (h.resolve_left (by decide)), fun h => e3 (h.resolve_left (by decide)), fun h => e4 (h.resolve_left (by decide)), fun h => e5 (h.resolve_left (by decide)), fun _ => rfl, fun h => e7 (h.resolve_left (by decide)), fun h => e8 (h.resolve_left (by decide)), fun h => e9 (h.resolve_left (by decide)), fun _ => ⟨zs, hO.mono hsz, by rw [hzv, HX.out, HY.out], by omega⟩, fun h => absurd (h.resolve_left (by decide)) n7, fun h => u10 (h.resolve_left (by decide)), fun h => f11 (h.resolve_left (by decide))⟩
            | 7, ho =>
              cases Option.some.inj ho
              have n8 : ¬ D 8 := fun h => hn (hcl 8 _ rfl h ⟨7, .data⟩ (by simp) rfl)
              have n10 : ¬ D 10 := fun h => n8 (hcl 10 _ rfl h ⟨8, .data⟩ (by simp) rfl)
              have ev : a.tmps[37]?.getD undef = .bool n1 := by rw [ha, e1 (hd ⟨1, .data⟩ (by simp) rfl)]; kernel_rfl
              have ev' : a.tmps[42]?.getD undef = .slice sp sn sc := by rw [ha, e6 (hd ⟨6, .data⟩ (by simp) rfl)]; kernel_rfl
              obtain ⟨zs, q1, q2, q3⟩ := s6 (hd ⟨6, .data⟩ (by simp) rfl)
              refine wp_enter (f := 42) (args := #[.bool n1, .slice sp sn sc]) (by simp [execOp, ev, ev', go_sem]) ?_
              refine (fits_any n1 q1.isB q3).mono ?_
              rintro e w6 ⟨nv, rfl, hO, HB⟩
              rw [q2] at hO ⊢
              refine ⟨_, rfl, ?_⟩
              exact ⟨v5, v36, v37, v38, v39, v40, v41, v42, (.tuple #[.agg #[.bool (fitB n1 (X - Y)), nv], .int .i64 (fitE (X - Y))]), v44, v45, sp, sn, sc, nv, u0, u1, by rw [ha]; kernel_rfl, below_size hB (Nat.le_refl _) HB, Nat.le_trans hsz HB.size, (HB.block _ (lt_of_block k0)).trans k0, (HB.block _ (lt_of_block k1)).trans k1, (HB.block _ (lt_of_block k2)).trans k2, fun h => e0 (h.resolve_left (by decide)), fun h => e1 (h.resolve_left (by decide)), fun h => e2 (h.resolve_left (by decide)), fun h => e3 (h.resolve_left (by decide)), fun h => e4 (h.resolve_left (by decide)), fun h => e5 (h.resolve_left (by decide)), fun h => e6 (h.resolve_left (by decide)), fun _ => rfl, fun h => absurd (h.resolve_left (by decide)) n8, fun h => e9 (h.resolve_left (by decide)), fun h => by obtain ⟨zs, q1, q2⟩ := s6 (h.resolve_left (by decide)); exact ⟨zs, q1.below HB, q2⟩, fun _ => hO.mono hsz, fun h => absurd (h.resolve_left (by decide)) n10, fun h => f11 (h.resolve_left (by decide))⟩
            | 8, ho =>
              cases Option.some.inj ho
              have ev : a.tmps[43]?.getD undef = .tuple #[.agg #[.bool (fitB n1 (X - Y)), pv], .int .i64 (fitE (X - Y))] := by rw [ha, e7 (hd ⟨7, .data⟩ (by simp) rfl)]; kernel_rfl
              refine wp_value (w' := w') (v := .agg #[.bool (fitB n1 (X - Y)), pv]) (by simp [execOp, ev, go_sem]) ?_
              exact ⟨v5, v36, v37, v38, v39, v40, v41, v42, v43, (.agg #[.bool (fitB n1 (X - Y)), pv]), v45, sp, sn, sc, pv, u0, u1, by rw [ha]; kernel_rfl, hB, hsz, k0, k1, k2, fun h => e0 (h.resolve_left (by decide)), fun h => e1 (h.resolve_left (by decide)), fun h => e2 (h.resolve_left (by decide)), fun h => e3 (h.resolve_left (by decide)), fun h => e4 (h.resolve_left (by decide)), fun h => e5 (h.resolve_left (by decide)), fun h => e6 (h.resolve_left (by decide)), fun h => e7 (h.resolve_left (by decide)), fun _ => rfl, fun h => e9 (h.resolve_left (by decide)), fun h => s6 (h.resolve_left (by decide)), fun h => o7 (h.resolve_left (by decide)), fun h => u10 (h.resolve_left (by decide)), fun h => f11 (h.resolve_left (by decide))⟩
            | 9, ho =>
              cases Option.some.inj ho
              have ev : a.tmps[43]?.getD undef = .tuple #[.agg #[.bool (fitB n1 (X - Y)), pv], .int .i64 (fitE (X - Y))] := by rw [ha, e7 (hd ⟨7, .data⟩ (by simp) rfl)]; kernel_rfl
              refine wp_value (w' := w') (v := .int .i64 (fitE (X - Y))) (by simp [execOp, ev, go_sem]) ?_
              exact ⟨v5, v36, v37, v38, v39, v40, v41, v42, v43, v44, (.int .i64 (fitE (X - Y))), sp, sn, sc, pv, u0, u1, by rw [ha]; kernel_rfl, hB, hsz, k0, k1, k2, fun h => e0 (h.resolve_left (by decide)), fun h => e1 (h.resolve_left (by decide)), fun h => e2 (h.resolve_left (by decide)), fun h => e3 (h.resolve_left (by decide)), fun h => e4 (h.resolve_left (by decide)), fun h => e5 (h.resolve_left (by decide)), fun h => e6 (h.resolve_left (by decide)), fun h => e7 (h.resolve_left (by decide)), fun h => e8 (h.resolve_left (by decide)), fun _ => rfl, fun h => s6 (h.resolve_left (by decide)), fun h => o7 (h.resolve_left (by decide)), fun h => u10 (h.resolve_left (by decide)), fun h => f11 (h.resolve_left (by decide))⟩
            | 10, ho =>
              cases Option.some.inj ho
              have ev : a.tmps[44]?.getD undef = .agg #[.bool (fitB n1 (X - Y)), pv] := by rw [ha, e8 (hd ⟨8, .data⟩ (by simp) rfl)]; kernel_rfl
              have ev' : a.tmps[4]?.getD undef = .pointer (some ⟨w.heap.size + 2, 0, none⟩) := by rw [ha]; kernel_rfl
              have d7 : D 7 := hcl 8 _ rfl (hd ⟨8, .data⟩ (by simp) rfl) ⟨7, .data⟩ (by simp) rfl
              have hO := o7 d7
              obtain ⟨av, cv, rfl, _⟩ := hO.2
              refine wp_store_row 24 (.tmp 4) (.tmp 44) rfl (w.heap.size + 2) _ (eval_of ev') (eval_of ev) 24 _ k2 size24' rfl (by simp [Value.oneCell']) ?_
              exact ⟨v5, v36, v37, v38, v39, v40, v41, v42, v43, v44, v45, sp, sn, sc, _, (.bool (fitB n1 (X - Y))), _, by rw [ha]; kernel_rfl, below_setRow hB (by omega) _, (by simpa using hsz), (setRow_other _ _ _ _ (by omega)).trans k0, (setRow_other _ _ _ _ (by omega)).trans k1, setRow_heap _ _ _ _ _ _ k2, fun h => e0 (h.resolve_left (by decide)), fun h => e1 (h.resolve_left (by decide)), fun h => e2 (h.resolve_left (by decide)), fun h => e3 (h.resolve_left (by decide)), fun h => e4 (h.resolve_left (by decide)), fun h => e5 (h.resolve_left (by decide)), fun h => e6 (h.resolve_left (by decide)), fun h => e7 (h.resolve_left (by decide)), fun h => e8 (h.resolve_left (by decide)), fun h => e9 (h.resolve_left (by decide)), fun h => by obtain ⟨zs, q1, q2⟩ := s6 (h.resolve_left (by decide)); exact ⟨zs, ownB_setRow q1 (by omega), q2⟩, fun _ => ownB_setRow hO (by omega), fun _ => ⟨rfl, rfl⟩, fun h => f11 (h.resolve_left (by decide))⟩
            | 11, ho =>
              cases Option.some.inj ho
              have ev : a.tmps[45]?.getD undef = .int .i64 (fitE (X - Y)) := by rw [ha, e9 (hd ⟨9, .data⟩ (by simp) rfl)]; kernel_rfl
              refine wp_value (w' := w') (v := .int .i64 (fitE (X - Y))) (by simp [execOp, ev, go_sem]) ?_
              exact ⟨(.int .i64 (fitE (X - Y))), v36, v37, v38, v39, v40, v41, v42, v43, v44, v45, sp, sn, sc, pv, u0, u1, by rw [ha]; kernel_rfl, hB, hsz, k0, k1, k2, fun h => e0 (h.resolve_left (by decide)), fun h => e1 (h.resolve_left (by decide)), fun h => e2 (h.resolve_left (by decide)), fun h => e3 (h.resolve_left (by decide)), fun h => e4 (h.resolve_left (by decide)), fun h => e5 (h.resolve_left (by decide)), fun h => e6 (h.resolve_left (by decide)), fun h => e7 (h.resolve_left (by decide)), fun h => e8 (h.resolve_left (by decide)), fun h => e9 (h.resolve_left (by decide)), fun h => s6 (h.resolve_left (by decide)), fun h => o7 (h.resolve_left (by decide)), fun h => u10 (h.resolve_left (by decide)), fun _ => rfl⟩
            | i + 12, ho => simp at ho
          case done =>
            rintro D a w' ⟨v5, v36, v37, v38, v39, v40, v41, v42, v43, v44, v45, sp, sn, sc, pv, u0, u1, ha, hB, hsz, k0, k1, k2, e0, e1, e2, e3, e4, e5, e6, e7, e8, e9, s6, o7, u10, f11⟩ hall
            have oV := o7 (hall 7 (by decide))
            obtain ⟨hu0, hu1⟩ := u10 (hall 10 (by decide))
            rw [hu0, hu1] at k2
            obtain rfl := f11 (hall 11 (by decide))
            clear hu0 hu1 e0 e1 e2 e3 e4 e5 e6 e7 e8 e9 s6 o7 u10 f11 hall k0 k1
            obtain ⟨p0, p1, _, _⟩ := intVarT k2
            rw [ha]
            clear ha
            simp only [Act.put, List.setIfInBounds_toArray, List.set_cons_zero, List.set_cons_succ]
            go_wp2
            exact bodyPost_ret (v := .tuple #[.agg #[.bool (fitB n1 (X - Y)), pv], .int .i64 (fitE (X - Y))]) (by simp [results, Tryd.results22, go_sem, p0, p1]) rfl ⟨pv, by rw [e1'.out, e2'.out], by rw [e3'.out]; exact oV.mono (by omega), hB⟩
end Go.Proofs.YtgammgdckneoiabDoor
