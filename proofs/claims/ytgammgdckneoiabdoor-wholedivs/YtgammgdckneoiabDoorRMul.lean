/- The document's Mul. -/
import Derived.Test.YtgammgdckneoiabDoorMul
import Derived.Test.YtgammgdckneoiabDoorTimes
import Derived.Test.YtgammgdckneoiabDoorRAdd
namespace Go.Proofs.YtgammgdckneoiabDoor
open Go.RowKit

set_option maxRecDepth 100000 in
set_option maxHeartbeats 8000000 in
theorem rmul_any {a1 a2 : Option Addr} {l1 l2 c1 c2 : Nat} {xs ys : List Int} {w : World} (n1 n2 : Bool) (h1 : IsB w a1 l1 c1 xs) (h2 : IsB w a2 l2 c2 ys) :
    Calls Tryd.prog 27 #[.agg #[.bool n1, .slice a1 l1 c1], .agg #[.bool n2, .slice a2 l2 c2]] w fun e w' => ∃ v, e = .returned (.tuple #[.agg #[.bool (mulB n1 xs n2 ys), v], .int .i64 (mulE n1 xs n2 ys)]) ∧ OwnB w' w.heap.size v (mulM n1 xs n2 ys) ∧ Below w.heap.size w w' := by
  go_enter Tryd.func27, Tryd.ntmps27
  go_wp2_with fail
  obtain ⟨z0, z1, z2, hb, hs3⟩ := alloc3 w (.cells #[.bool n1, .slice a1 l1 c1] 24) (.cells #[.bool n2, .slice a2 l2 c2] 24) (.cells #[.bool false, .slice none 0 0] 24)
  have k1 := h1.below hb
  have k2 := h2.below hb
  generalize (((w.alloc (.cells #[.bool n1, .slice a1 l1 c1] 24)).alloc (.cells #[.bool n2, .slice a2 l2 c2] 24)).alloc (.cells #[.bool false, .slice none 0 0] 24)) = w1 at *
  refine (rright_any n1 k1).mono ?_
  rintro e w2 ⟨rfl, hb2⟩
  have u0 := (hb2.block _ (lt_of_block z0)).trans z0
  have u1 := (hb2.block _ (lt_of_block z1)).trans z1
  have u2 := (hb2.block _ (lt_of_block z2)).trans z2
  have hB2 := below_size hb (Nat.le_refl _) hb2
  have hsz2 := hb2.size
  rw [hs3] at hsz2
  replace k1 := k1.below hb2
  replace k2 := k2.below hb2
  clear z0 z1 z2 hb hb2 hs3
  obtain ⟨x0, x1, _, _⟩ := intVarT u0
  obtain ⟨y0, y1, _, _⟩ := intVarT u1
  obtain ⟨q0, q1, qf0, qf1⟩ := intVarT u2
  cases r1 : rightB n1 xs with
  | false =>
    have e1 : Hid (mulB n1 xs n2 ys = false) := by show _ = _; simp [mulB, r1]
    have e2 : Hid (mulE n1 xs n2 ys = 1) := by show _ = _; simp [mulE, r1]
    have e3 : Hid (mulM n1 xs n2 ys = []) := by show _ = _; simp [mulM, r1]
    go_wp2
    exact bodyPost_ret (v := .tuple #[.agg #[.bool false, .slice none 0 0], .int .i64 1]) (by simp [results, Tryd.results27, go_sem, q0, q1]) rfl ⟨.slice none 0 0, by rw [e1.out, e2.out], by rw [e3.out]; exact ownB_of (n := 0) (World.ownsRow_nil _ _ _ _) (by simp), below_put (b := w.heap.size + 2) hB2 (by omega)⟩
  | true =>
    go_wp2_with fail
    refine (rright_any n2 k2).mono ?_
    rintro e w3 ⟨rfl, hb3⟩
    replace u0 := (hb3.block _ (lt_of_block u0)).trans u0
    replace u1 := (hb3.block _ (lt_of_block u1)).trans u1
    replace u2 := (hb3.block _ (lt_of_block u2)).trans u2
    have hB3 := below_size hB2 (Nat.le_refl _) hb3
    have hsz3 := Nat.le_trans hsz2 hb3.size
    replace k1 := k1.below hb3
    replace k2 := k2.below hb3
    clear x0 x1 y0 y1 q0 q1 qf0 qf1 hb3 hB2 hsz2
    cases r2 : rightB n2 ys with
    | false =>
      obtain ⟨q0, q1, qf0, qf1⟩ := intVarT u2
      have e1 : Hid (mulB n1 xs n2 ys = false) := by show _ = _; simp [mulB, r2]
      have e2 : Hid (mulE n1 xs n2 ys = 1) := by show _ = _; simp [mulE, r2]
      have e3 : Hid (mulM n1 xs n2 ys = []) := by show _ = _; simp [mulM, r2]
      go_wp2
      exact bodyPost_ret (v := .tuple #[.agg #[.bool false, .slice none 0 0], .int .i64 1]) (by simp [results, Tryd.results27, go_sem, q0, q1]) rfl ⟨.slice none 0 0, by rw [e1.out, e2.out], by rw [e3.out]; exact ownB_of (n := 0) (World.ownsRow_nil _ _ _ _) (by simp), below_put (b := w.heap.size + 2) hB3 (by omega)⟩
    | true =>
      have Hb : Hid (mulB n1 xs n2 ys = fitB (n1 != n2) (val8 xs * val8 ys)) := by show _ = _; simp [mulB, r1, r2]
      have He : Hid (mulE n1 xs n2 ys = fitE (val8 xs * val8 ys)) := by show _ = _; simp [mulE, r1, r2]
      have Hm : Hid (mulM n1 xs n2 ys = fitM (val8 xs * val8 ys)) := by show _ = _; simp [mulM, r1, r2]
      obtain ⟨d1, m1⟩ := lead_right r1
      obtain ⟨d2, m2⟩ := lead_right r2
      obtain ⟨hXb, hYb, hVb⟩ := mul_bound h1.byte h2.byte m1 m2
      rw [h1.size] at m1
      rw [h2.size] at m2
      obtain ⟨X, HX⟩ : ∃ X, Hid (val8 xs = X) := ⟨_, rfl⟩
      obtain ⟨Y, HY⟩ : ∃ Y, Hid (val8 ys = Y) := ⟨_, rfl⟩
      have hYl : Y < 256 ^ l2 := by have := val8_lt ys h2.byte; rw [h2.size, HY.out] at this; exact this
      rw [HX.out, HY.out] at Hb He Hm
      clear hXb hYb hVb d1 d2
      obtain ⟨B, hBs⟩ : ∃ B, B = w.heap.size + 3 := ⟨_, rfl⟩
      rw [← hBs] at hsz3
      go_wp2
      go_loopw [7, 6] (fun i v wr => ∃ (k : Nat) (zs : List Int), k ≤ l2 ∧ i = .int .i64 k ∧ OwnB wr B v zs ∧ Hid (val8 zs = X * (Y % 256 ^ k)) ∧ zs.length ≤ l1 + k + 1 ∧ Below w3.heap.size w3 wr) (fun i _ _ => l2 - (intOf i).toNat)
      case atStart => exact ⟨0, [], Nat.zero_le _, rfl, ownB_of (n := 0) (World.ownsRow_nil _ _ _ _) (by simp), by show _ = _; simp [val8, Nat.mod_one], Nat.zero_le _, Below.refl _ _⟩
      case round =>
        obtain ⟨k, zs, hk, rfl, hO, hv, hzl, hW⟩ := hrel
        have t0 := (hW.block _ (lt_of_block u0)).trans u0
        have t1 := (hW.block _ (lt_of_block u1)).trans u1
        have t2 := (hW.block _ (lt_of_block u2)).trans u2
        have j1 := k1.below hW
        have j2 := k2.below hW
        obtain ⟨p, c, rfl, hI⟩ := hO.2
        have hsz := Nat.le_trans hsz3 hW.size
        obtain ⟨x0, x1, _, _⟩ := intVarT t0
        obtain ⟨y0, y1, _, _⟩ := intVarT t1
        obtain ⟨q0, q1, qf0, qf1⟩ := intVarT t2
        by_cases hlt : k < l2
        · have hltI : (k : Int) < (l2 : Int) := by omega
          obtain ⟨d, Hd⟩ : ∃ d, Hid (Y / 256 ^ k % 256 = d) := ⟨_, rfl⟩
          have hd8 : d < 256 := by rw [← Hd.out]; exact Nat.mod_lt _ (by decide)
          go_wp2
          refine wp_region_inv' (fun A D a w' => ∃ v6 v24 v25 v26 v27 v28 v29 v30 v31 v32 v33 tv tz sv sz, a = (((((((((((A.put (some 6) v6).put (some 24) v24).put (some 25) v25).put (some 26) v26).put (some 27) v27).put (some 28) v28).put (some 29) v29).put (some 30) v30).put (some 31) v31).put (some 32) v32).put (some 33) v33) ∧ Below wr.heap.size wr w' ∧ (D 10 ∨ v6 = .slice p zs.length c) ∧ (D 0 → v24 = .slice p zs.length c) ∧ (D 1 → v25 = .pointer (some ⟨w.heap.size, 1, none⟩)) ∧ (D 2 → v26 = .slice a1 l1 c1) ∧ (D 3 → v27 = .pointer (some ⟨w.heap.size + 1, 1, none⟩)) ∧ (D 4 → v28 = .slice a2 l2 c2) ∧ (D 5 → v29 = .int .i64 (k : Int)) ∧ (D 6 → v30 = .int .i64 (d : Int)) ∧ (D 7 → v31 = .int .i64 (k : Int)) ∧ (D 8 → v32 = tv) ∧ (D 9 → v33 = sv) ∧ (D 10 → v6 = sv) ∧ (D 8 → OwnB w' B tv tz) ∧ (D 8 → val8 tz = X * d * 256 ^ k) ∧ (D 8 → tz.length ≤ k + l1 + 1) ∧ (D 9 → OwnB w' B sv sz) ∧ (D 9 → val8 sz = X * (Y % 256 ^ (k + 1))) ∧ (D 9 → sz.length ≤ l1 + (k + 1) + 1)) (by kernel_rfl) (by kernel_rfl) ?mono ?start ?step ?done
          case mono =>
            rintro D D' a w' hD ⟨v6, v24, v25, v26, v27, v28, v29, v30, v31, v32, v33, tv, tz, sv, sz, ha, hB, y6, e0, e1, e2, e3, e4, e5, e6, e7, e8, e9, e10, O8, V8, L8, O9, V9, L9⟩
            exact ⟨v6, v24, v25, v26, v27, v28, v29, v30, v31, v32, v33, tv, tz, sv, sz, ha, hB, y6.imp_left (hD 10).1, fun h => e0 ((hD 0).2 h), fun h => e1 ((hD 1).2 h), fun h => e2 ((hD 2).2 h), fun h => e3 ((hD 3).2 h), fun h => e4 ((hD 4).2 h), fun h => e5 ((hD 5).2 h), fun h => e6 ((hD 6).2 h), fun h => e7 ((hD 7).2 h), fun h => e8 ((hD 8).2 h), fun h => e9 ((hD 9).2 h), fun h => e10 ((hD 10).2 h), fun h => O8 ((hD 8).2 h), fun h => V8 ((hD 8).2 h), fun h => L8 ((hD 8).2 h), fun h => O9 ((hD 9).2 h), fun h => V9 ((hD 9).2 h), fun h => L9 ((hD 9).2 h)⟩
          case start => exact ⟨(.slice p zs.length c), u24, u25, u26, u27, u28, u29, u30, u31, u32, u33, undef, [], undef, [], by kernel_rfl, (Below.refl _ _).drew, .inr rfl, fun h => h.elim, fun h => h.elim, fun h => h.elim, fun h => h.elim, fun h => h.elim, fun h => h.elim, fun h => h.elim, fun h => h.elim, fun h => h.elim, fun h => h.elim, fun h => h.elim, fun h => h.elim, fun h => h.elim, fun h => h.elim, fun h => h.elim, fun h => h.elim, fun h => h.elim⟩
          case step =>
            intro i o ho D a w' hI hn hcl hd
            obtain ⟨v6, v24, v25, v26, v27, v28, v29, v30, v31, v32, v33, tv, tz, sv, sz, ha, hB, y6, e0, e1, e2, e3, e4, e5, e6, e7, e8, e9, e10, O8, V8, L8, O9, V9, L9⟩ := hI
            match i, ho with
            | 0, ho =>
              cases Option.some.inj ho
              have ev : a.tmps[6]?.getD undef = .slice p zs.length c := by rw [ha, y6.resolve_left (fun h => (fun h => hn (hcl 9 _ rfl h ⟨0, .data⟩ (by simp) rfl)) (hcl 10 _ rfl h ⟨9, .data⟩ (by simp) rfl))]; kernel_rfl
              refine wp_value (w' := w') (v := .slice p zs.length c) (by simp [execOp, ev, go_sem]) ?_
              exact ⟨v6, (.slice p zs.length c), v25, v26, v27, v28, v29, v30, v31, v32, v33, tv, tz, sv, sz, by rw [ha]; kernel_rfl, hB, y6.imp_left .inr, fun _ => rfl, fun h => e1 (h.resolve_left (by decide)), fun h => e2 (h.resolve_left (by decide)), fun h => e3 (h.resolve_left (by decide)), fun h => e4 (h.resolve_left (by decide)), fun h => e5 (h.resolve_left (by decide)), fun h => e6 (h.resolve_left (by decide)), fun h => e7 (h.resolve_left (by decide)), fun h => e8 (h.resolve_left (by decide)), fun h => e9 (h.resolve_left (by decide)), fun h => e10 (h.resolve_left (by decide)), fun h => O8 (h.resolve_left (by decide)), fun h => V8 (h.resolve_left (by decide)), fun h => L8 (h.resolve_left (by decide)), fun h => O9 (h.resolve_left (by decide)), fun h => V9 (h.resolve_left (by decide)), fun h => L9 (h.resolve_left (by decide))⟩
            | 1, ho =>
              cases Option.some.inj ho
              have ev : a.tmps[2]?.getD undef = .pointer (some ⟨w.heap.size, 0, none⟩) := by rw [ha]; kernel_rfl
              refine wp_value (w' := w') (v := .pointer (some ⟨w.heap.size, 1, none⟩)) (by simp [execOp, ev, go_sem]) ?_
              exact ⟨v6, v24, (.pointer (some ⟨w.heap.size, 1, none⟩)), v26, v27, v28, v29, v30, v31, v32, v33, tv, tz, sv, sz, by rw [ha]; kernel_rfl, hB, y6.imp_left .inr, fun h => e0 (h.resolve_left (by decide)), fun _ => rfl, fun h => e2 (h.resolve_left (by decide)), fun h => e3 (h.resolve_left (by decide)), fun h => e4 (h.resolve_left (by decide)), fun h => e5 (h.resolve_left (by decide)), fun h => e6 (h.resolve_left (by decide)), fun h => e7 (h.resolve_left (by decide)), fun h => e8 (h.resolve_left (by decide)), fun h => e9 (h.resolve_left (by decide)), fun h => e10 (h.resolve_left (by decide)), fun h => O8 (h.resolve_left (by decide)), fun h => V8 (h.resolve_left (by decide)), fun h => L8 (h.resolve_left (by decide)), fun h => O9 (h.resolve_left (by decide)), fun h => V9 (h.resolve_left (by decide)), fun h => L9 (h.resolve_left (by decide))⟩
            | 2, ho =>
              cases Option.some.inj ho
              have ev : a.tmps[25]?.getD undef = .pointer (some ⟨w.heap.size, 1, none⟩) := by rw [ha, e1 (hd ⟨1, .data⟩ (by simp) rfl)]; kernel_rfl
              have hc := (intVarT ((hB.block _ (lt_of_block t0)).trans t0)).2.1
              rw [Nat.zero_add] at hc
              refine wp_value (w' := w') (v := .slice a1 l1 c1) (by simp [execOp, ev, go_sem, hc]) ?_
              exact ⟨v6, v24, v25, (.slice a1 l1 c1), v27, v28, v29, v30, v31, v32, v33, tv, tz, sv, sz, by rw [ha]; kernel_rfl, hB, y6.imp_left .inr, fun h => e0 (h.resolve_left (by decide)), fun h => e1 (h.resolve_left (by decide)), fun _ => rfl, fun h => e3 (h.resolve_left (by decide)), fun h => e4 (h.resolve_left (by decide)), fun h => e5 (h.resolve_left (by decide)), fun h => e6 (h.resolve_left (by decide)), fun h => e7 (h.resolve_left (by decide)), fun h => e8 (h.resolve_left (by decide)), fun h => e9 (h.resolve_left (by decide)), fun h => e10 (h.resolve_left (by decide)), fun h => O8 (h.resolve_left (by decide)), fun h => V8 (h.resolve_left (by decide)), fun h => L8 (h.resolve_left (by decide)), fun h => O9 (h.resolve_left (by decide)), fun h => V9 (h.resolve_left (by decide)), fun h => L9 (h.resolve_left (by decide))⟩
            | 3, ho =>
              cases Option.some.inj ho
              have ev : a.tmps[3]?.getD undef = .pointer (some ⟨w.heap.size + 1, 0, none⟩) := by rw [ha]; kernel_rfl
              refine wp_value (w' := w') (v := .pointer (some ⟨w.heap.size + 1, 1, none⟩)) (by simp [execOp, ev, go_sem]) ?_
              exact ⟨v6, v24, v25, v26, (.pointer (some ⟨w.heap.size + 1, 1, none⟩)), v28, v29, v30, v31, v32, v33, tv, tz, sv, sz, by rw [ha]; kernel_rfl, hB, y6.imp_left .inr, fun h => e0 (h.resolve_left (by decide)), fun h => e1 (h.resolve_left (by decide)), fun h => e2 (h.resolve_left (by decide)), fun _ => rfl, fun h => e4 (h.resolve_left (by decide)), fun h => e5 (h.resolve_left (by decide)), fun h => e6 (h.resolve_left (by decide)), fun h => e7 (h.resolve_left (by decide)), fun h => e8 (h.resolve_left (by decide)), fun h => e9 (h.resolve_left (by decide)), fun h => e10 (h.resolve_left (by decide)), fun h => O8 (h.resolve_left (by decide)), fun h => V8 (h.resolve_left (by decide)), fun h => L8 (h.resolve_left (by decide)), fun h => O9 (h.resolve_left (by decide)), fun h => V9 (h.resolve_left (by decide)), fun h => L9 (h.resolve_left (by decide))⟩
            | 4, ho =>
              cases Option.some.inj ho
              have ev : a.tmps[27]?.getD undef = .pointer (some ⟨w.heap.size + 1, 1, none⟩) := by rw [ha, e3 (hd ⟨3, .data⟩ (by simp) rfl)]; kernel_rfl
              have hc := (intVarT ((hB.block _ (lt_of_block t1)).trans t1)).2.1
              rw [Nat.zero_add] at hc
              refine wp_value (w' := w') (v := .slice a2 l2 c2) (by simp [execOp, ev, go_sem, hc]) ?_
              exact ⟨v6, v24, v25, v26, v27, (.slice a2 l2 c2), v29, v30, v31, v32, v33, tv, tz, sv, sz, by rw [ha]; kernel_rfl, hB, y6.imp_left .inr, fun h => e0 (h.resolve_left (by decide)), fun h => e1 (h.resolve_left (by decide)), fun h => e2 (h.resolve_left (by decide)), fun h => e3 (h.resolve_left (by decide)), fun _ => rfl, fun h => e5 (h.resolve_left (by decide)), fun h => e6 (h.resolve_left (by decide)), fun h => e7 (h.resolve_left (by decide)), fun h => e8 (h.resolve_left (by decide)), fun h => e9 (h.resolve_left (by decide)), fun h => e10 (h.resolve_left (by decide)), fun h => O8 (h.resolve_left (by decide)), fun h => V8 (h.resolve_left (by decide)), fun h => L8 (h.resolve_left (by decide)), fun h => O9 (h.resolve_left (by decide)), fun h => V9 (h.resolve_left (by decide)), fun h => L9 (h.resolve_left (by decide))⟩
            | 5, ho =>
              cases Option.some.inj ho
              have ev : a.tmps[7]?.getD undef = .int .i64 (k : Int) := by rw [ha]; kernel_rfl
              refine wp_value (w' := w') (v := .int .i64 (k : Int)) (by simp [execOp, ev, go_sem]) ?_
              exact ⟨v6, v24, v25, v26, v27, v28, (.int .i64 (k : Int)), v30, v31, v32, v33, tv, tz, sv, sz, by rw [ha]; kernel_rfl, hB, y6.imp_left .inr, fun h => e0 (h.resolve_left (by decide)), fun h => e1 (h.resolve_left (by decide)), fun h => e2 (h.resolve_left (by decide)), fun h => e3 (h.resolve_left (by decide)), fun h => e4 (h.resolve_left (by decide)), fun _ => rfl, fun h => e6 (h.resolve_left (by decide)), fun h => e7 (h.resolve_left (by decide)), fun h => e8 (h.resolve_left (by decide)), fun h => e9 (h.resolve_left (by decide)), fun h => e10 (h.resolve_left (by decide)), fun h => O8 (h.resolve_left (by decide)), fun h => V8 (h.resolve_left (by decide)), fun h => L8 (h.resolve_left (by decide)), fun h => O9 (h.resolve_left (by decide)), fun h => V9 (h.resolve_left (by decide)), fun h => L9 (h.resolve_left (by decide))⟩
            | 6, ho =>
              cases Option.some.inj ho
              have ev : a.tmps[28]?.getD undef = .slice a2 l2 c2 := by rw [ha, e4 (hd ⟨4, .data⟩ (by simp) rfl)]; kernel_rfl
              have ev' : a.tmps[29]?.getD undef = .int .i64 (k : Int) := by rw [ha, e5 (hd ⟨5, .data⟩ (by simp) rfl)]; kernel_rfl
              refine wp_enter (f := 49) (args := #[.slice a2 l2 c2, .int .i64 (k : Int)]) (by simp [execOp, ev, ev', go_sem]) ?_
              refine (at_any (j2.below hB) k (by omega) (by omega)).mono ?_
              rintro e w6 ⟨rfl, rfl⟩
              refine ⟨_, rfl, ?_⟩
              rw [HY.out, Hd.out]
              exact ⟨v6, v24, v25, v26, v27, v28, v29, (.int .i64 (d : Int)), v31, v32, v33, tv, tz, sv, sz, by rw [ha]; kernel_rfl, hB, y6.imp_left .inr, fun h => e0 (h.resolve_left (by decide)), fun h => e1 (h.resolve_left (by decide)), fun h => e2 (h.resolve_left (by decide)), fun h => e3 (h.resolve_left (by decide)), fun h => e4 (h.resolve_left (by decide)), fun h => e5 (h.resolve_left (by decide)), fun _ => rfl, fun h => e7 (h.resolve_left (by decide)), fun h => e8 (h.resolve_left (by decide)), fun h => e9 (h.resolve_left (by decide)), fun h => e10 (h.resolve_left (by decide)), fun h => O8 (h.resolve_left (by decide)), fun h => V8 (h.resolve_left (by decide)), fun h => L8 (h.resolve_left (by decide)), fun h => O9 (h.resolve_left (by decide)), fun h => V9 (h.resolve_left (by decide)), fun h => L9 (h.resolve_left (by decide))⟩
            | 7, ho =>
              cases Option.some.inj ho
              have ev : a.tmps[7]?.getD undef = .int .i64 (k : Int) := by rw [ha]; kernel_rfl
              refine wp_value (w' := w') (v := .int .i64 (k : Int)) (by simp [execOp, ev, go_sem]) ?_
              exact ⟨v6, v24, v25, v26, v27, v28, v29, v30, (.int .i64 (k : Int)), v32, v33, tv, tz, sv, sz, by rw [ha]; kernel_rfl, hB, y6.imp_left .inr, fun h => e0 (h.resolve_left (by decide)), fun h => e1 (h.resolve_left (by decide)), fun h => e2 (h.resolve_left (by decide)), fun h => e3 (h.resolve_left (by decide)), fun h => e4 (h.resolve_left (by decide)), fun h => e5 (h.resolve_left (by decide)), fun h => e6 (h.resolve_left (by decide)), fun _ => rfl, fun h => e8 (h.resolve_left (by decide)), fun h => e9 (h.resolve_left (by decide)), fun h => e10 (h.resolve_left (by decide)), fun h => O8 (h.resolve_left (by decide)), fun h => V8 (h.resolve_left (by decide)), fun h => L8 (h.resolve_left (by decide)), fun h => O9 (h.resolve_left (by decide)), fun h => V9 (h.resolve_left (by decide)), fun h => L9 (h.resolve_left (by decide))⟩
            | 8, ho =>
              cases Option.some.inj ho
              have ev : a.tmps[26]?.getD undef = .slice a1 l1 c1 := by rw [ha, e2 (hd ⟨2, .data⟩ (by simp) rfl)]; kernel_rfl
              have ev' : a.tmps[30]?.getD undef = .int .i64 (d : Int) := by rw [ha, e6 (hd ⟨6, .data⟩ (by simp) rfl)]; kernel_rfl
              have ev'' : a.tmps[31]?.getD undef = .int .i64 (k : Int) := by rw [ha, e7 (hd ⟨7, .data⟩ (by simp) rfl)]; kernel_rfl
              refine wp_enter (f := 48) (args := #[.slice a1 l1 c1, .int .i64 (d : Int), .int .i64 (k : Int)]) (by simp [execOp, ev, ev', ev'', go_sem]) ?_
              refine (times_any d k (j1.below hB) (by omega) hd8 (by omega)).mono ?_
              rintro e w6 ⟨nv, nz, rfl, nO, nV, nL, HB⟩
              refine ⟨_, rfl, ?_⟩
              exact ⟨v6, v24, v25, v26, v27, v28, v29, v30, v31, (nv), v33, nv, nz, sv, sz, by rw [ha]; kernel_rfl, below_size hB (Nat.le_refl _) HB, y6.imp_left .inr, fun h => e0 (h.resolve_left (by decide)), fun h => e1 (h.resolve_left (by decide)), fun h => e2 (h.resolve_left (by decide)), fun h => e3 (h.resolve_left (by decide)), fun h => e4 (h.resolve_left (by decide)), fun h => e5 (h.resolve_left (by decide)), fun h => e6 (h.resolve_left (by decide)), fun h => e7 (h.resolve_left (by decide)), fun _ => rfl, fun h => e9 (h.resolve_left (by decide)), fun h => e10 (h.resolve_left (by decide)), fun _ => nO.mono (Nat.le_trans hsz hB.size), fun _ => by rw [nV, HX.out], fun _ => nL, fun h => (O9 (h.resolve_left (by decide))).below HB, fun h => V9 (h.resolve_left (by decide)), fun h => L9 (h.resolve_left (by decide))⟩
            | 9, ho =>
              cases Option.some.inj ho
              have ev : a.tmps[24]?.getD undef = .slice p zs.length c := by rw [ha, e0 (hd ⟨0, .data⟩ (by simp) rfl)]; kernel_rfl
              have ev' : a.tmps[32]?.getD undef = tv := by rw [ha, e8 (hd ⟨8, .data⟩ (by simp) rfl)]; kernel_rfl
              have hT := O8 (hd ⟨8, .data⟩ (by simp) rfl)
              have hV8 := V8 (hd ⟨8, .data⟩ (by simp) rfl)
              have hL8 := L8 (hd ⟨8, .data⟩ (by simp) rfl)
              obtain ⟨ta, tc, rfl, hTI⟩ := hT.2
              refine wp_enter (f := 43) (args := #[.slice p zs.length c, .slice ta tz.length tc]) (by simp [execOp, ev, ev', go_sem]) ?_
              refine (rsum_any (hI.below hB) hTI (by omega) (by omega)).mono ?_
              rintro e w6 ⟨nv, nz, rfl, nO, nV, nL, HB⟩
              refine ⟨_, rfl, ?_⟩
              exact ⟨v6, v24, v25, v26, v27, v28, v29, v30, v31, v32, (nv), _, tz, nv, nz, by rw [ha]; kernel_rfl, below_size hB (Nat.le_refl _) HB, y6.imp_left .inr, fun h => e0 (h.resolve_left (by decide)), fun h => e1 (h.resolve_left (by decide)), fun h => e2 (h.resolve_left (by decide)), fun h => e3 (h.resolve_left (by decide)), fun h => e4 (h.resolve_left (by decide)), fun h => e5 (h.resolve_left (by decide)), fun h => e6 (h.resolve_left (by decide)), fun h => e7 (h.resolve_left (by decide)), fun h => e8 (h.resolve_left (by decide)), fun _ => rfl, fun h => absurd (h.resolve_left (by decide)) (fun h => hn (hcl 10 _ rfl h ⟨9, .data⟩ (by simp) rfl)), fun h => (O8 (h.resolve_left (by decide))).below HB, fun h => V8 (h.resolve_left (by decide)), fun h => L8 (h.resolve_left (by decide)), fun _ => nO.mono (Nat.le_trans hsz hB.size), fun _ => by rw [nV, hv.out, hV8, ← Hd.out]; exact rmul_step X Y k, fun _ => by omega⟩
            | 10, ho =>
              cases Option.some.inj ho
              have ev : a.tmps[33]?.getD undef = sv := by rw [ha, e9 (hd ⟨9, .data⟩ (by simp) rfl)]; kernel_rfl
              refine wp_value (w' := w') (v := sv) (by simp [execOp, ev, go_sem]) ?_
              exact ⟨(sv), v24, v25, v26, v27, v28, v29, v30, v31, v32, v33, tv, tz, sv, sz, by rw [ha]; kernel_rfl, hB, .inl (.inl rfl), fun h => e0 (h.resolve_left (by decide)), fun h => e1 (h.resolve_left (by decide)), fun h => e2 (h.resolve_left (by decide)), fun h => e3 (h.resolve_left (by decide)), fun h => e4 (h.resolve_left (by decide)), fun h => e5 (h.resolve_left (by decide)), fun h => e6 (h.resolve_left (by decide)), fun h => e7 (h.resolve_left (by decide)), fun h => e8 (h.resolve_left (by decide)), fun h => e9 (h.resolve_left (by decide)), fun _ => rfl, fun h => O8 (h.resolve_left (by decide)), fun h => V8 (h.resolve_left (by decide)), fun h => L8 (h.resolve_left (by decide)), fun h => O9 (h.resolve_left (by decide)), fun h => V9 (h.resolve_left (by decide)), fun h => L9 (h.resolve_left (by decide))⟩
            | i + 11, ho => simp at ho
          case done =>
            rintro D a w' ⟨v6, v24, v25, v26, v27, v28, v29, v30, v31, v32, v33, tv, tz, sv, sz, ha, hB, y6, e0, e1, e2, e3, e4, e5, e6, e7, e8, e9, e10, O8, V8, L8, O9, V9, L9⟩ hall
            obtain rfl := e10 (hall 10 (by decide))
            have oN := O9 (hall 9 (by decide))
            have vN := V9 (hall 9 (by decide))
            have lN := L9 (hall 9 (by decide))
            clear e0 e1 e2 e3 e4 e5 e6 e7 e8 e9 e10 O8 V8 L8 O9 V9 L9 hall x0 x1 y0 y1 q0 q1 qf0 qf1
            have hW2 := below_size hW (Nat.le_refl _) hB
            rw [ha]
            clear ha
            simp only [Act.put, List.setIfInBounds_toArray, List.set_cons_zero, List.set_cons_succ]
            go_wp2
            go_roundw
            case rel => exact ⟨k + 1, sz, by omega, by go_num, oN, vN, lN, hW2⟩
            case measure => simp [intOf]; omega
        · obtain rfl : k = l2 := by omega
          have hv' := hv.out
          rw [Nat.mod_eq_of_lt hYl] at hv'
          have Hv : Hid (val8 zs = X * Y) := hv'
          have hltI : ¬ (k : Int) < (k : Int) := by omega
          go_wp2_with fail
          refine (fits_any (n1 != n2) hI (by omega)).mono ?_
          rintro e w6 ⟨nv, rfl, nO, HB⟩
          rw [Hv.out] at nO ⊢
          rw [← Hm.out] at nO
          rw [← Hb.out, ← He.out]
          obtain ⟨bb, Kb⟩ : ∃ bb, Hid (mulB n1 xs n2 ys = bb) := ⟨_, rfl⟩
          obtain ⟨ee, Ke⟩ : ∃ ee, Hid (mulE n1 xs n2 ys = ee) := ⟨_, rfl⟩
          obtain ⟨mm, Km⟩ : ∃ mm, Hid (mulM n1 xs n2 ys = mm) := ⟨_, rfl⟩
          rw [Km.out] at nO
          rw [Kb.out, Ke.out]
          obtain ⟨av, cv, rfl, _⟩ := nO.2
          replace t2 := (HB.block _ (lt_of_block t2)).trans t2
          have hB6 := below_size (below_size hB3 (Nat.le_refl _) hW) (Nat.le_refl _) HB
          clear x0 x1 y0 y1 q0 q1 qf0 qf1 Hb He Hm hv hv' Hv
          obtain ⟨q0, q1, qf0, qf1⟩ := intVarT t2
          go_wp2
          exact bodyPost_ret (v := .tuple #[.agg #[.bool bb, .slice av mm.length cv], .int .i64 ee]) (by simp [results, Tryd.results27, go_sem, q0, q1]) rfl ⟨_, by rw [Kb.out, Ke.out], by rw [Km.out]; exact OwnB.put (base := w.heap.size + 3) (b := w.heap.size + 2) (b0 := w.heap.size) (nO.mono (by omega)) (by omega) (by omega), below_put (b := w.heap.size + 2) hB6 (by omega)⟩
end Go.Proofs.YtgammgdckneoiabDoor
