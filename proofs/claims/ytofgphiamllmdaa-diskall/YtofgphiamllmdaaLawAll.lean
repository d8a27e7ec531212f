/- The walk of DiskAll: all writes stay; behind a flush none is lost. -/
import Derived.Test.YtofgphiamllmdaaMix
namespace Go.Proofs.Ytofgphiamllmdaa
open Go.RowKit

set_option maxRecDepth 100000 in
set_option maxHeartbeats 16000000 in
theorem all_law (w : World) (sa : Option Addr) (ac : Nat) (l : List (Int × Int × Int)) (hA : Acts w sa l) (ka : Option Addr) (kn kc : Nat) (ks : List Bool) (hk : Bools w ka kn ks) (hkb : ∀ b off, ka = some ⟨b, off, none⟩ → 0 < kn → b < w.heap.size) (hkn : kn ≤ 140737488355328) :
    Calls Try.prog 4 #[.slice sa l.length ac, .slice ka kn kc] w fun e w' => e = .returned (.bool true) ∧ Below w.heap.size w w' := by
  go_enter Try.func4, Try.ntmps4
  go_wp2_with fail
  refine (new_ex w).mono ?_
  rintro e w1 ⟨p, bs, bn, Z, rfl, D1, hB1⟩
  obtain ⟨al, hal⟩ : ∃ al, Hid (l.length = al) := ⟨_, rfl⟩
  rw [hal.out]
  go_wp2
  go_loopw [7] (fun i wr => ∃ (j : Nat) (L : List (Int × List Int)) (pv : Value), j ≤ al ∧ j ≤ 40 ∧ i = .int .i64 (j : Int) ∧ L.length ≤ 3 * j ∧ Dev wr w.heap.size p bs bn pv 8 Z (appl Z L) L 0 false ∧ Below w.heap.size w wr) (fun i _ => al - (intOf i).toNat)
  case atStart => exact ⟨0, [], _, by omega, by omega, rfl, by simp, D1, hB1⟩
  case round =>
    obtain ⟨j, L, pv, hj1, hj2, rfl, hL, hDv0, hB0⟩ := hrel
    clear D1 hB1
    by_cases hgo : j < al ∧ j < 40
    · obtain ⟨hlt1, hlt2⟩ : (j : Int) < (al : Int) ∧ (j : Int) < 40 := by omega
      have hidx : j < al := hgo.1
      obtain ⟨q, hq⟩ : ∃ q, l[j]? = some q := ⟨l[j]'(by rw [hal.out]; exact hidx), List.getElem?_eq_getElem _⟩
      obtain ⟨hq1, hq2, hq3⟩ := hA.ok q (List.mem_of_getElem? hq)
      obtain ⟨ab, ao, rfl, hab, hc1, hc2, hc3⟩ := hA.lies j q hq
      have hr3 := cnt_lt q.2.1
      have hcount := fun w' => count3 q.2.1 w'
      obtain ⟨r, hr⟩ : ∃ r, cnt q.2.1 = r := ⟨_, rfl⟩
      rw [hr] at hr3
      simp only [hr] at hcount
      clear hr
      obtain ⟨m, hm⟩ : ∃ m : Nat, Hid (m = r + 1) := ⟨_, rfl⟩
      have hwm : IntKind.i64.wrap (1 + (r : Int)) = (m : Int) := by have := hm.out; rw [IntKind.wrap_i64]; omega
      have hm0 : 1 ≤ m := by have := hm.out; omega
      have hm3 : m ≤ 3 := by have := hm.out; omega
      obtain ⟨G1, hG1⟩ : ∃ G1, Hid (appl Z L = G1) := ⟨_, rfl⟩
      rw [hG1.out] at hDv0
      clear hgo
      go_wp2
      refine wp_region_inv' (fun A D a w' => ∃ v38 v39 v40 v41 v42 v43 v44 v45 v46 v47 v48 v49 v50 v51 v52 v53 v54 v55 v56 v57 nb, a = ((((((((((((((((((((A.put (some 38) v38).put (some 39) v39).put (some 40) v40).put (some 41) v41).put (some 42) v42).put (some 43) v43).put (some 44) v44).put (some 45) v45).put (some 46) v46).put (some 47) v47).put (some 48) v48).put (some 49) v49).put (some 50) v50).put (some 51) v51).put (some 52) v52).put (some 53) v53).put (some 54) v54).put (some 55) v55).put (some 56) v56).put (some 57) v57) ∧ Below w.heap.size w w' ∧ (D 19 ∨ Dev w' w.heap.size p bs bn pv 8 Z G1 L 0 false) ∧ (D 0 → v38 = .pointer (some ⟨p, 0, none⟩)) ∧ (D 1 → v39 = .slice (some ⟨ab, ao, none⟩) al ac) ∧ (D 2 → v40 = .int .i64 (j : Int)) ∧ (D 3 → v41 = .pointer (some ⟨ab, ao + j * 6, none⟩)) ∧ (D 4 → v42 = .pointer (some ⟨ab, ao + j * 6 + 1, none⟩)) ∧ (D 5 → v43 = .int .i64 q.1) ∧ (D 6 → v44 = .slice (some ⟨ab, ao, none⟩) al ac) ∧ (D 7 → v45 = .int .i64 (j : Int)) ∧ (D 8 → v46 = .pointer (some ⟨ab, ao + j * 6, none⟩)) ∧ (D 9 → v47 = .pointer (some ⟨ab, ao + j * 6 + 2, none⟩)) ∧ (D 10 → v48 = .int .i64 q.2.1) ∧ (D 11 → v49 = .int .i64 (r : Int)) ∧ (D 12 → v50 = .int .i64 (m : Int)) ∧ (D 13 → v51 = .slice (some ⟨ab, ao, none⟩) al ac) ∧ (D 14 → v52 = .int .i64 (j : Int)) ∧ (D 15 → v53 = .pointer (some ⟨ab, ao + j * 6, none⟩)) ∧ (D 16 → v54 = .pointer (some ⟨ab, ao + j * 6 + 3, none⟩)) ∧ (D 17 → v55 = .int .u8 q.2.2) ∧ (D 18 → v56 = .slice (some ⟨nb, 0, none⟩) (128 * m) (128 * m)) ∧ (D 18 → Row8 w' nb (sv (128 * m) q.2.2)) ∧ (D 19 → v57 = .int .i64 (if 0 ≤ q.1 ∧ q.1 + m ≤ 8 then 0 else 13)) ∧ (D 19 → ∃ pv2, Dev w' w.heap.size p bs bn pv2 8 Z (appl G1 (actW q.1 q.2.2 m)) (L ++ actW q.1 q.2.2 m) 0 false)) (by kernel_rfl) (by kernel_rfl) ?mono ?start ?step ?done
      case mono =>
        rintro D D' a w' hD ⟨v38, v39, v40, v41, v42, v43, v44, v45, v46, v47, v48, v49, v50, v51, v52, v53, v54, v55, v56, v57, nb, ha, hB, hDv, e0, e1, e2, e3, e4, e5, e6, e7, e8, e9, e10, e11, e12, e13, e14, e15, e16, e17, e18, hr, e19, hz⟩
        exact ⟨v38, v39, v40, v41, v42, v43, v44, v45, v46, v47, v48, v49, v50, v51, v52, v53, v54, v55, v56, v57, nb, ha, hB, hDv.imp_left (hD 19).1, fun h => e0 ((hD 0).2 h), fun h => e1 ((hD 1).2 h), fun h => e2 ((hD 2).2 h), fun h => e3 ((hD 3).2 h), fun h => e4 ((hD 4).2 h), fun h => e5 ((hD 5).2 h), fun h => e6 ((hD 6).2 h), fun h => e7 ((hD 7).2 h), fun h => e8 ((hD 8).2 h), fun h => e9 ((hD 9).2 h), fun h => e10 ((hD 10).2 h), fun h => e11 ((hD 11).2 h), fun h => e12 ((hD 12).2 h), fun h => e13 ((hD 13).2 h), fun h => e14 ((hD 14).2 h), fun h => e15 ((hD 15).2 h), fun h => e16 ((hD 16).2 h), fun h => e17 ((hD 17).2 h), fun h => e18 ((hD 18).2 h), fun h => hr ((hD 18).2 h), fun h => e19 ((hD 19).2 h), fun h => hz ((hD 19).2 h)⟩
      case start => exact ⟨u38, u39, u40, u41, u42, u43, u44, u45, u46, u47, u48, u49, u50, u51, u52, u53, u54, u55, u56, u57, 0, by kernel_rfl, hB0.drew, .inr (hDv0.same (fun _ _ => rfl)), fun h => h.elim, fun h => h.elim, fun h => h.elim, fun h => h.elim, fun h => h.elim, fun h => h.elim, fun h => h.elim, fun h => h.elim, fun h => h.elim, fun h => h.elim, fun h => h.elim, fun h => h.elim, fun h => h.elim, fun h => h.elim, fun h => h.elim, fun h => h.elim, fun h => h.elim, fun h => h.elim, fun h => h.elim, fun h => h.elim, fun h => h.elim, fun h => h.elim⟩
      case step =>
        intro i o ho D a w' hI hn hcl hd
        obtain ⟨v38, v39, v40, v41, v42, v43, v44, v45, v46, v47, v48, v49, v50, v51, v52, v53, v54, v55, v56, v57, nb, ha, hB, hDv, e0, e1, e2, e3, e4, e5, e6, e7, e8, e9, e10, e11, e12, e13, e14, e15, e16, e17, e18, hr, e19, hz⟩ := hI
        match i, ho with
        | 0, ho =>
          cases Option.some.inj ho
          have ev : a.tmps[5]?.getD undef = .pointer (some ⟨p, 0, none⟩) := by rw [ha]; kernel_rfl
          refine wp_value (w' := w') (v := .pointer (some ⟨p, 0, none⟩)) (by simp [execOp, ev, go_sem]) ?_
          exact ⟨(.pointer (some ⟨p, 0, none⟩)), v39, v40, v41, v42, v43, v44, v45, v46, v47, v48, v49, v50, v51, v52, v53, v54, v55, v56, v57, nb, by rw [ha]; kernel_rfl, hB, hDv.imp_left .inr, fun _ => rfl, fun h => e1 (h.resolve_left (by decide)), fun h => e2 (h.resolve_left (by decide)), fun h => e3 (h.resolve_left (by decide)), fun h => e4 (h.resolve_left (by decide)), fun h => e5 (h.resolve_left (by decide)), fun h => e6 (h.resolve_left (by decide)), fun h => e7 (h.resolve_left (by decide)), fun h => e8 (h.resolve_left (by decide)), fun h => e9 (h.resolve_left (by decide)), fun h => e10 (h.resolve_left (by decide)), fun h => e11 (h.resolve_left (by decide)), fun h => e12 (h.resolve_left (by decide)), fun h => e13 (h.resolve_left (by decide)), fun h => e14 (h.resolve_left (by decide)), fun h => e15 (h.resolve_left (by decide)), fun h => e16 (h.resolve_left (by decide)), fun h => e17 (h.resolve_left (by decide)), fun h => e18 (h.resolve_left (by decide)), fun h => hr (h.resolve_left (by decide)), fun h => e19 (h.resolve_left (by decide)), fun h => hz (h.resolve_left (by decide))⟩
        | 1, ho =>
          cases Option.some.inj ho
          have ev : a.tmps[0]?.getD undef = .slice (some ⟨ab, ao, none⟩) al ac := by rw [ha]; kernel_rfl
          refine wp_value (w' := w') (v := .slice (some ⟨ab, ao, none⟩) al ac) (by simp [execOp, ev, go_sem]) ?_
          exact ⟨v38, (.slice (some ⟨ab, ao, none⟩) al ac), v40, v41, v42, v43, v44, v45, v46, v47, v48, v49, v50, v51, v52, v53, v54, v55, v56, v57, nb, by rw [ha]; kernel_rfl, hB, hDv.imp_left .inr, fun h => e0 (h.resolve_left (by decide)), fun _ => rfl, fun h => e2 (h.resolve_left (by decide)), fun h => e3 (h.resolve_left (by decide)), fun h => e4 (h.resolve_left (by decide)), fun h => e5 (h.resolve_left (by decide)), fun h => e6 (h.resolve_left (by decide)), fun h => e7 (h.resolve_left (by decide)), fun h => e8 (h.resolve_left (by decide)), fun h => e9 (h.resolve_left (by decide)), fun h => e10 (h.resolve_left (by decide)), fun h => e11 (h.resolve_left (by decide)), fun h => e12 (h.resolve_left (by decide)), fun h => e13 (h.resolve_left (by decide)), fun h => e14 (h.resolve_left (by decide)), fun h => e15 (h.resolve_left (by decide)), fun h => e16 (h.resolve_left (by decide)), fun h => e17 (h.resolve_left (by decide)), fun h => e18 (h.resolve_left (by decide)), fun h => hr (h.resolve_left (by decide)), fun h => e19 (h.resolve_left (by decide)), fun h => hz (h.resolve_left (by decide))⟩
        | 2, ho =>
          cases Option.some.inj ho
          have ev : a.tmps[7]?.getD undef = .int .i64 (j : Int) := by rw [ha]; kernel_rfl
          refine wp_value (w' := w') (v := .int .i64 (j : Int)) (by simp [execOp, ev, go_sem]) ?_
          exact ⟨v38, v39, (.int .i64 (j : Int)), v41, v42, v43, v44, v45, v46, v47, v48, v49, v50, v51, v52, v53, v54, v55, v56, v57, nb, by rw [ha]; kernel_rfl, hB, hDv.imp_left .inr, fun h => e0 (h.resolve_left (by decide)), fun h => e1 (h.resolve_left (by decide)), fun _ => rfl, fun h => e3 (h.resolve_left (by decide)), fun h => e4 (h.resolve_left (by decide)), fun h => e5 (h.resolve_left (by decide)), fun h => e6 (h.resolve_left (by decide)), fun h => e7 (h.resolve_left (by decide)), fun h => e8 (h.resolve_left (by decide)), fun h => e9 (h.resolve_left (by decide)), fun h => e10 (h.resolve_left (by decide)), fun h => e11 (h.resolve_left (by decide)), fun h => e12 (h.resolve_left (by decide)), fun h => e13 (h.resolve_left (by decide)), fun h => e14 (h.resolve_left (by decide)), fun h => e15 (h.resolve_left (by decide)), fun h => e16 (h.resolve_left (by decide)), fun h => e17 (h.resolve_left (by decide)), fun h => e18 (h.resolve_left (by decide)), fun h => hr (h.resolve_left (by decide)), fun h => e19 (h.resolve_left (by decide)), fun h => hz (h.resolve_left (by decide))⟩
        | 3, ho =>
          cases Option.some.inj ho
          have ev : a.tmps[39]?.getD undef = .slice (some ⟨ab, ao, none⟩) al ac := by rw [ha, e1 (hd ⟨1, .data⟩ (by simp) rfl)]; kernel_rfl
          have ev' : a.tmps[40]?.getD undef = .int .i64 (j : Int) := by rw [ha, e2 (hd ⟨2, .data⟩ (by simp) rfl)]; kernel_rfl
          refine wp_value (w' := w') (v := .pointer (some ⟨ab, ao + j * 6, none⟩)) (by simp [execOp, ev, ev', go_sem, hidx, Addr.add_lit]) ?_
          exact ⟨v38, v39, v40, (.pointer (some ⟨ab, ao + j * 6, none⟩)), v42, v43, v44, v45, v46, v47, v48, v49, v50, v51, v52, v53, v54, v55, v56, v57, nb, by rw [ha]; kernel_rfl, hB, hDv.imp_left .inr, fun h => e0 (h.resolve_left (by decide)), fun h => e1 (h.resolve_left (by decide)), fun h => e2 (h.resolve_left (by decide)), fun _ => rfl, fun h => e4 (h.resolve_left (by decide)), fun h => e5 (h.resolve_left (by decide)), fun h => e6 (h.resolve_left (by decide)), fun h => e7 (h.resolve_left (by decide)), fun h => e8 (h.resolve_left (by decide)), fun h => e9 (h.resolve_left (by decide)), fun h => e10 (h.resolve_left (by decide)), fun h => e11 (h.resolve_left (by decide)), fun h => e12 (h.resolve_left (by decide)), fun h => e13 (h.resolve_left (by decide)), fun h => e14 (h.resolve_left (by decide)), fun h => e15 (h.resolve_left (by decide)), fun h => e16 (h.resolve_left (by decide)), fun h => e17 (h.resolve_left (by decide)), fun h => e18 (h.resolve_left (by decide)), fun h => hr (h.resolve_left (by decide)), fun h => e19 (h.resolve_left (by decide)), fun h => hz (h.resolve_left (by decide))⟩
        | 4, ho =>
          cases Option.some.inj ho
          have ev : a.tmps[41]?.getD undef = .pointer (some ⟨ab, ao + j * 6, none⟩) := by rw [ha, e3 (hd ⟨3, .data⟩ (by simp) rfl)]; kernel_rfl
          refine wp_value (w' := w') (v := .pointer (some ⟨ab, ao + j * 6 + 1, none⟩)) (by simp [execOp, ev, go_sem, Addr.add_lit]) ?_
          exact ⟨v38, v39, v40, v41, (.pointer (some ⟨ab, ao + j * 6 + 1, none⟩)), v43, v44, v45, v46, v47, v48, v49, v50, v51, v52, v53, v54, v55, v56, v57, nb, by rw [ha]; kernel_rfl, hB, hDv.imp_left .inr, fun h => e0 (h.resolve_left (by decide)), fun h => e1 (h.resolve_left (by decide)), fun h => e2 (h.resolve_left (by decide)), fun h => e3 (h.resolve_left (by decide)), fun _ => rfl, fun h => e5 (h.resolve_left (by decide)), fun h => e6 (h.resolve_left (by decide)), fun h => e7 (h.resolve_left (by decide)), fun h => e8 (h.resolve_left (by decide)), fun h => e9 (h.resolve_left (by decide)), fun h => e10 (h.resolve_left (by decide)), fun h => e11 (h.resolve_left (by decide)), fun h => e12 (h.resolve_left (by decide)), fun h => e13 (h.resolve_left (by decide)), fun h => e14 (h.resolve_left (by decide)), fun h => e15 (h.resolve_left (by decide)), fun h => e16 (h.resolve_left (by decide)), fun h => e17 (h.resolve_left (by decide)), fun h => e18 (h.resolve_left (by decide)), fun h => hr (h.resolve_left (by decide)), fun h => e19 (h.resolve_left (by decide)), fun h => hz (h.resolve_left (by decide))⟩
        | 5, ho =>
          cases Option.some.inj ho
          have ev : a.tmps[42]?.getD undef = .pointer (some ⟨ab, ao + j * 6 + 1, none⟩) := by rw [ha, e4 (hd ⟨4, .data⟩ (by simp) rfl)]; kernel_rfl
          have hc := (World.cell?_of_block (hB.block ab hab)).trans hc1
          refine wp_value (w' := w') (v := .int .i64 q.1) (by simp [execOp, ev, go_sem, hc]) ?_
          exact ⟨v38, v39, v40, v41, v42, (.int .i64 q.1), v44, v45, v46, v47, v48, v49, v50, v51, v52, v53, v54, v55, v56, v57, nb, by rw [ha]; kernel_rfl, hB, hDv.imp_left .inr, fun h => e0 (h.resolve_left (by decide)), fun h => e1 (h.resolve_left (by decide)), fun h => e2 (h.resolve_left (by decide)), fun h => e3 (h.resolve_left (by decide)), fun h => e4 (h.resolve_left (by decide)), fun _ => rfl, fun h => e6 (h.resolve_left (by decide)), fun h => e7 (h.resolve_left (by decide)), fun h => e8 (h.resolve_left (by decide)), fun h => e9 (h.resolve_left (by decide)), fun h => e10 (h.resolve_left (by decide)), fun h => e11 (h.resolve_left (by decide)), fun h => e12 (h.resolve_left (by decide)), fun h => e13 (h.resolve_left (by decide)), fun h => e14 (h.resolve_left (by decide)), fun h => e15 (h.resolve_left (by decide)), fun h => e16 (h.resolve_left (by decide)), fun h => e17 (h.resolve_left (by decide)), fun h => e18 (h.resolve_left (by decide)), fun h => hr (h.resolve_left (by decide)), fun h => e19 (h.resolve_left (by decide)), fun h => hz (h.resolve_left (by decide))⟩
        | 6, ho =>
          cases Option.some.inj ho
          have ev : a.tmps[0]?.getD undef = .slice (some ⟨ab, ao, none⟩) al ac := by rw [ha]; kernel_rfl
          refine wp_value (w' := w') (v := .slice (some ⟨ab, ao, none⟩) al ac) (by simp [execOp, ev, go_sem]) ?_
          exact ⟨v38, v39, v40, v41, v42, v43, (.slice (some ⟨ab, ao, none⟩) al ac), v45, v46, v47, v48, v49, v50, v51, v52, v53, v54, v55, v56, v57, nb, by rw [ha]; kernel_rfl, hB, hDv.imp_left .inr, fun h => e0 (h.resolve_left (by decide)), fun h => e1 (h.resolve_left (by decide)), fun h => e2 (h.resolve_left (by decide)), fun h => e3 (h.resolve_left (by decide)), fun h => e4 (h.resolve_left (by decide)), fun h => e5 (h.resolve_left (by decide)), fun _ => rfl, fun h => e7 (h.resolve_left (by decide)), fun h => e8 (h.resolve_left (by decide)), fun h => e9 (h.resolve_left (by decide)), fun h => e10 (h.resolve_left (by decide)), fun h => e11 (h.resolve_left (by decide)), fun h => e12 (h.resolve_left (by decide)), fun h => e13 (h.resolve_left (by decide)), fun h => e14 (h.resolve_left (by decide)), fun h => e15 (h.resolve_left (by decide)), fun h => e16 (h.resolve_left (by decide)), fun h => e17 (h.resolve_left (by decide)), fun h => e18 (h.resolve_left (by decide)), fun h => hr (h.resolve_left (by decide)), fun h => e19 (h.resolve_left (by decide)), fun h => hz (h.resolve_left (by decide))⟩
        | 7, ho =>
          cases Option.some.inj ho
          have ev : a.tmps[7]?.getD undef = .int .i64 (j : Int) := by rw [ha]; kernel_rfl
          refine wp_value (w' := w') (v := .int .i64 (j : Int)) (by simp [execOp, ev, go_sem]) ?_
          exact ⟨v38, v39, v40, v41, v42, v43, v44, (.int .i64 (j : Int)), v46, v47, v48, v49, v50, v51, v52, v53, v54, v55, v56, v57, nb, by rw [ha]; kernel_rfl, hB, hDv.imp_left .inr, fun h => e0 (h.resolve_left (by decide)), fun h => e1 (h.resolve_left (by decide)), fun h => e2 (h.resolve_left (by decide)), fun h => e3 (h.resolve_left (by decide)), fun h => e4 (h.resolve_left (by decide)), fun h => e5 (h.resolve_left (by decide)), fun h => e6 (h.resolve_left (by decide)), fun _ => rfl, fun h => e8 (h.resolve_left (by decide)), fun h => e9 (h.resolve_left (by decide)), fun h => e10 (h.resolve_left (by decide)), fun h => e11 (h.resolve_left (by decide)), fun h => e12 (h.resolve_left (by decide)), fun h => e13 (h.resolve_left (by decide)), fun h => e14 (h.resolve_left (by decide)), fun h => e15 (h.resolve_left (by decide)), fun h => e16 (h.resolve_left (by decide)), fun h => e17 (h.resolve_left (by decide)), fun h => e18 (h.resolve_left (by decide)), fun h => hr (h.resolve_left (by decide)), fun h => e19 (h.resolve_left (by decide)), fun h => hz (h.resolve_left (by decide))⟩
        | 8, ho =>
          cases Option.some.inj ho
          have ev : a.tmps[44]?.getD undef = .slice (some ⟨ab, ao, none⟩) al ac := by rw [ha, e6 (hd ⟨6, .data⟩ (by simp) rfl)]; kernel_rfl
          have ev' : a.tmps[45]?.getD undef = .int .i64 (j : Int) := by rw [ha, e7 (hd ⟨7, .data⟩ (by simp) rfl)]; kernel_rfl
          refine wp_value (w' := w') (v := .pointer (some ⟨ab, ao + j * 6, none⟩)) (by simp [execOp, ev, ev', go_sem, hidx, Addr.add_lit]) ?_
          exact ⟨v38, v39, v40, v41, v42, v43, v44, v45, (.pointer (some ⟨ab, ao + j * 6, none⟩)), v47, v48, v49, v50, v51, v52, v53, v54, v55, v56, v57, nb, by rw [ha]; kernel_rfl, hB, hDv.imp_left .inr, fun h => e0 (h.resolve_left (by decide)), fun h => e1 (h.resolve_left (by decide)), fun h => e2 (h.resolve_left (by decide)), fun h => e3 (h.resolve_left (by decide)), fun h => e4 (h.resolve_left (by decide)), fun h => e5 (h.resolve_left (by decide)), fun h => e6 (h.resolve_left (by decide)), fun h => e7 (h.resolve_left (by decide)), fun _ => rfl, fun h => e9 (h.resolve_left (by decide)), fun h => e10 (h.resolve_left (by decide)), fun h => e11 (h.resolve_left (by decide)), fun h => e12 (h.resolve_left (by decide)), fun h => e13 (h.resolve_left (by decide)), fun h => e14 (h.resolve_left (by decide)), fun h => e15 (h.resolve_left (by decide)), fun h => e16 (h.resolve_left (by decide)), fun h => e17 (h.resolve_left (by decide)), fun h => e18 (h.resolve_left (by decide)), fun h => hr (h.resolve_left (by decide)), fun h => e19 (h.resolve_left (by decide)), fun h => hz (h.resolve_left (by decide))⟩
        | 9, ho =>
          cases Option.some.inj ho
          have ev : a.tmps[46]?.getD undef = .pointer (some ⟨ab, ao + j * 6, none⟩) := by rw [ha, e8 (hd ⟨8, .data⟩ (by simp) rfl)]; kernel_rfl
          refine wp_value (w' := w') (v := .pointer (some ⟨ab, ao + j * 6 + 2, none⟩)) (by simp [execOp, ev, go_sem, Addr.add_lit]) ?_
          exact ⟨v38, v39, v40, v41, v42, v43, v44, v45, v46, (.pointer (some ⟨ab, ao + j * 6 + 2, none⟩)), v48, v49, v50, v51, v52, v53, v54, v55, v56, v57, nb, by rw [ha]; kernel_rfl, hB, hDv.imp_left .inr, fun h => e0 (h.resolve_left (by decide)), fun h => e1 (h.resolve_left (by decide)), fun h => e2 (h.resolve_left (by decide)), fun h => e3 (h.resolve_left (by decide)), fun h => e4 (h.resolve_left (by decide)), fun h => e5 (h.resolve_left (by decide)), fun h => e6 (h.resolve_left (by decide)), fun h => e7 (h.resolve_left (by decide)), fun h => e8 (h.resolve_left (by decide)), fun _ => rfl, fun h => e10 (h.resolve_left (by decide)), fun h => e11 (h.resolve_left (by decide)), fun h => e12 (h.resolve_left (by decide)), fun h => e13 (h.resolve_left (by decide)), fun h => e14 (h.resolve_left (by decide)), fun h => e15 (h.resolve_left (by decide)), fun h => e16 (h.resolve_left (by decide)), fun h => e17 (h.resolve_left (by decide)), fun h => e18 (h.resolve_left (by decide)), fun h => hr (h.resolve_left (by decide)), fun h => e19 (h.resolve_left (by decide)), fun h => hz (h.resolve_left (by decide))⟩
        | 10, ho =>
          cases Option.some.inj ho
          have ev : a.tmps[47]?.getD undef = .pointer (some ⟨ab, ao + j * 6 + 2, none⟩) := by rw [ha, e9 (hd ⟨9, .data⟩ (by simp) rfl)]; kernel_rfl
          have hc := (World.cell?_of_block (hB.block ab hab)).trans hc2
          refine wp_value (w' := w') (v := .int .i64 q.2.1) (by simp [execOp, ev, go_sem, hc]) ?_
          exact ⟨v38, v39, v40, v41, v42, v43, v44, v45, v46, v47, (.int .i64 q.2.1), v49, v50, v51, v52, v53, v54, v55, v56, v57, nb, by rw [ha]; kernel_rfl, hB, hDv.imp_left .inr, fun h => e0 (h.resolve_left (by decide)), fun h => e1 (h.resolve_left (by decide)), fun h => e2 (h.resolve_left (by decide)), fun h => e3 (h.resolve_left (by decide)), fun h => e4 (h.resolve_left (by decide)), fun h => e5 (h.resolve_left (by decide)), fun h => e6 (h.resolve_left (by decide)), fun h => e7 (h.resolve_left (by decide)), fun h => e8 (h.resolve_left (by decide)), fun h => e9 (h.resolve_left (by decide)), fun _ => rfl, fun h => e11 (h.resolve_left (by decide)), fun h => e12 (h.resolve_left (by decide)), fun h => e13 (h.resolve_left (by decide)), fun h => e14 (h.resolve_left (by decide)), fun h => e15 (h.resolve_left (by decide)), fun h => e16 (h.resolve_left (by decide)), fun h => e17 (h.resolve_left (by decide)), fun h => e18 (h.resolve_left (by decide)), fun h => hr (h.resolve_left (by decide)), fun h => e19 (h.resolve_left (by decide)), fun h => hz (h.resolve_left (by decide))⟩
        | 11, ho =>
          cases Option.some.inj ho
          have ev : a.tmps[48]?.getD undef = .int .i64 q.2.1 := by rw [ha, e10 (hd ⟨10, .data⟩ (by simp) rfl)]; kernel_rfl
          refine wp_enter (f := 11) (args := #[.int .i64 q.2.1, .int .i64 3]) (by simp [execOp, ev, go_sem]) ?_
          refine (hcount w').mono ?_
          rintro e w6 ⟨rfl, rfl⟩
          refine ⟨_, rfl, ?_⟩
          exact ⟨v38, v39, v40, v41, v42, v43, v44, v45, v46, v47, v48, (.int .i64 (r : Int)), v50, v51, v52, v53, v54, v55, v56, v57, nb, by rw [ha]; kernel_rfl, hB, hDv.imp_left .inr, fun h => e0 (h.resolve_left (by decide)), fun h => e1 (h.resolve_left (by decide)), fun h => e2 (h.resolve_left (by decide)), fun h => e3 (h.resolve_left (by decide)), fun h => e4 (h.resolve_left (by decide)), fun h => e5 (h.resolve_left (by decide)), fun h => e6 (h.resolve_left (by decide)), fun h => e7 (h.resolve_left (by decide)), fun h => e8 (h.resolve_left (by decide)), fun h => e9 (h.resolve_left (by decide)), fun h => e10 (h.resolve_left (by decide)), fun _ => rfl, fun h => e12 (h.resolve_left (by decide)), fun h => e13 (h.resolve_left (by decide)), fun h => e14 (h.resolve_left (by decide)), fun h => e15 (h.resolve_left (by decide)), fun h => e16 (h.resolve_left (by decide)), fun h => e17 (h.resolve_left (by decide)), fun h => e18 (h.resolve_left (by decide)), fun h => hr (h.resolve_left (by decide)), fun h => e19 (h.resolve_left (by decide)), fun h => hz (h.resolve_left (by decide))⟩
        | 12, ho =>
          cases Option.some.inj ho
          have ev : a.tmps[49]?.getD undef = .int .i64 (r : Int) := by rw [ha, e11 (hd ⟨11, .data⟩ (by simp) rfl)]; kernel_rfl
          refine wp_value (w' := w') (v := .int .i64 (m : Int)) (by simp [execOp, ev, go_sem, hwm]) ?_
          exact ⟨v38, v39, v40, v41, v42, v43, v44, v45, v46, v47, v48, v49, (.int .i64 (m : Int)), v51, v52, v53, v54, v55, v56, v57, nb, by rw [ha]; kernel_rfl, hB, hDv.imp_left .inr, fun h => e0 (h.resolve_left (by decide)), fun h => e1 (h.resolve_left (by decide)), fun h => e2 (h.resolve_left (by decide)), fun h => e3 (h.resolve_left (by decide)), fun h => e4 (h.resolve_left (by decide)), fun h => e5 (h.resolve_left (by decide)), fun h => e6 (h.resolve_left (by decide)), fun h => e7 (h.resolve_left (by decide)), fun h => e8 (h.resolve_left (by decide)), fun h => e9 (h.resolve_left (by decide)), fun h => e10 (h.resolve_left (by decide)), fun h => e11 (h.resolve_left (by decide)), fun _ => rfl, fun h => e13 (h.resolve_left (by decide)), fun h => e14 (h.resolve_left (by decide)), fun h => e15 (h.resolve_left (by decide)), fun h => e16 (h.resolve_left (by decide)), fun h => e17 (h.resolve_left (by decide)), fun h => e18 (h.resolve_left (by decide)), fun h => hr (h.resolve_left (by decide)), fun h => e19 (h.resolve_left (by decide)), fun h => hz (h.resolve_left (by decide))⟩
        | 13, ho =>
          cases Option.some.inj ho
          have ev : a.tmps[0]?.getD undef = .slice (some ⟨ab, ao, none⟩) al ac := by rw [ha]; kernel_rfl
          refine wp_value (w' := w') (v := .slice (some ⟨ab, ao, none⟩) al ac) (by simp [execOp, ev, go_sem]) ?_
          exact ⟨v38, v39, v40, v41, v42, v43, v44, v45, v46, v47, v48, v49, v50, (.slice (some ⟨ab, ao, none⟩) al ac), v52, v53, v54, v55, v56, v57, nb, by rw [ha]; kernel_rfl, hB, hDv.imp_left .inr, fun h => e0 (h.resolve_left (by decide)), fun h => e1 (h.resolve_left (by decide)), fun h => e2 (h.resolve_left (by decide)), fun h => e3 (h.resolve_left (by decide)), fun h => e4 (h.resolve_left (by decide)), fun h => e5 (h.resolve_left (by decide)), fun h => e6 (h.resolve_left (by decide)), fun h => e7 (h.resolve_left (by decide)), fun h => e8 (h.resolve_left (by decide)), fun h => e9 (h.resolve_left (by decide)), fun h => e10 (h.resolve_left (by decide)), fun h => e11 (h.resolve_left (by decide)), fun h => e12 (h.resolve_left (by decide)), fun _ => rfl, fun h => e14 (h.resolve_left (by decide)), fun h => e15 (h.resolve_left (by decide)), fun h => e16 (h.resolve_left (by decide)), fun h => e17 (h.resolve_left (by decide)), fun h => e18 (h.resolve_left (by decide)), fun h => hr (h.resolve_left (by decide)), fun h => e19 (h.resolve_left (by decide)), fun h => hz (h.resolve_left (by decide))⟩
        | 14, ho =>
          cases Option.some.inj ho
          have ev : a.tmps[7]?.getD undef = .int .i64 (j : Int) := by rw [ha]; kernel_rfl
          refine wp_value (w' := w') (v := .int .i64 (j : Int)) (by simp [execOp, ev, go_sem]) ?_
          exact ⟨v38, v39, v40, v41, v42, v43, v44, v45, v46, v47, v48, v49, v50, v51, (.int .i64 (j : Int)), v53, v54, v55, v56, v57, nb, by rw [ha]; kernel_rfl, hB, hDv.imp_left .inr, fun h => e0 (h.resolve_left (by decide)), fun h => e1 (h.resolve_left (by decide)), fun h => e2 (h.resolve_left (by decide)), fun h => e3 (h.resolve_left (by decide)), fun h => e4 (h.resolve_left (by decide)), fun h => e5 (h.resolve_left (by decide)), fun h => e6 (h.resolve_left (by decide)), fun h => e7 (h.resolve_left (by decide)), fun h => e8 (h.resolve_left (by decide)), fun h => e9 (h.resolve_left (by decide)), fun h => e10 (h.resolve_left (by decide)), fun h => e11 (h.resolve_left (by decide)), fun h => e12 (h.resolve_left (by decide)), fun h => e13 (h.resolve_left (by decide)), fun _ => rfl, fun h => e15 (h.resolve_left (by decide)), fun h => e16 (h.resolve_left (by decide)), fun h => e17 (h.resolve_left (by decide)), fun h => e18 (h.resolve_left (by decide)), fun h => hr (h.resolve_left (by decide)), fun h => e19 (h.resolve_left (by decide)), fun h => hz (h.resolve_left (by decide))⟩
        | 15, ho =>
          cases Option.some.inj ho
          have ev : a.tmps[51]?.getD undef = .slice (some ⟨ab, ao, none⟩) al ac := by rw [ha, e13 (hd ⟨13, .data⟩ (by simp) rfl)]; kernel_rfl
          have ev' : a.tmps[52]?.getD undef = .int .i64 (j : Int) := by rw [ha, e14 (hd ⟨14, .data⟩ (by simp) rfl)]; kernel_rfl
          refine wp_value (w' := w') (v := .pointer (some ⟨ab, ao + j * 6, none⟩)) (by simp [execOp, ev, ev', go_sem, hidx, Addr.add_lit]) ?_
          exact ⟨v38, v39, v40, v41, v42, v43, v44, v45, v46, v47, v48, v49, v50, v51, v52, (.pointer (some ⟨ab, ao + j * 6, none⟩)), v54, v55, v56, v57, nb, by rw [ha]; kernel_rfl, hB, hDv.imp_left .inr, fun h => e0 (h.resolve_left (by decide)), fun h => e1 (h.resolve_left (by decide)), fun h => e2 (h.resolve_left (by decide)), fun h => e3 (h.resolve_left (by decide)), fun h => e4 (h.resolve_left (by decide)), fun h => e5 (h.resolve_left (by decide)), fun h => e6 (h.resolve_left (by decide)), fun h => e7 (h.resolve_left (by decide)), fun h => e8 (h.resolve_left (by decide)), fun h => e9 (h.resolve_left (by decide)), fun h => e10 (h.resolve_left (by decide)), fun h => e11 (h.resolve_left (by decide)), fun h => e12 (h.resolve_left (by decide)), fun h => e13 (h.resolve_left (by decide)), fun h => e14 (h.resolve_left (by decide)), fun _ => rfl, fun h => e16 (h.resolve_left (by decide)), fun h => e17 (h.resolve_left (by decide)), fun h => e18 (h.resolve_left (by decide)), fun h => hr (h.resolve_left (by decide)), fun h => e19 (h.resolve_left (by decide)), fun h => hz (h.resolve_left (by decide))⟩
        | 16, ho =>
          cases Option.some.inj ho
          have ev : a.tmps[53]?.getD undef = .pointer (some ⟨ab, ao + j * 6, none⟩) := by rw [ha, e15 (hd ⟨15, .data⟩ (by simp) rfl)]; kernel_rfl
          refine wp_value (w' := w') (v := .pointer (some ⟨ab, ao + j * 6 + 3, none⟩)) (by simp [execOp, ev, go_sem, Addr.add_lit]) ?_
          exact ⟨v38, v39, v40, v41, v42, v43, v44, v45, v46, v47, v48, v49, v50, v51, v52, v53, (.pointer (some ⟨ab, ao + j * 6 + 3, none⟩)), v55, v56, v57, nb, by rw [ha]; kernel_rfl, hB, hDv.imp_left .inr, fun h => e0 (h.resolve_left (by decide)), fun h => e1 (h.resolve_left (by decide)), fun h => e2 (h.resolve_left (by decide)), fun h => e3 (h.resolve_left (by decide)), fun h => e4 (h.resolve_left (by decide)), fun h => e5 (h.resolve_left (by decide)), fun h => e6 (h.resolve_left (by decide)), fun h => e7 (h.resolve_left (by decide)), fun h => e8 (h.resolve_left (by decide)), fun h => e9 (h.resolve_left (by decide)), fun h => e10 (h.resolve_left (by decide)), fun h => e11 (h.resolve_left (by decide)), fun h => e12 (h.resolve_left (by decide)), fun h => e13 (h.resolve_left (by decide)), fun h => e14 (h.resolve_left (by decide)), fun h => e15 (h.resolve_left (by decide)), fun _ => rfl, fun h => e17 (h.resolve_left (by decide)), fun h => e18 (h.resolve_left (by decide)), fun h => hr (h.resolve_left (by decide)), fun h => e19 (h.resolve_left (by decide)), fun h => hz (h.resolve_left (by decide))⟩
        | 17, ho =>
          cases Option.some.inj ho
          have ev : a.tmps[54]?.getD undef = .pointer (some ⟨ab, ao + j * 6 + 3, none⟩) := by rw [ha, e16 (hd ⟨16, .data⟩ (by simp) rfl)]; kernel_rfl
          have hc := (World.cell?_of_block (hB.block ab hab)).trans hc3
          refine wp_value (w' := w') (v := .int .u8 q.2.2) (by simp [execOp, ev, go_sem, hc]) ?_
          exact ⟨v38, v39, v40, v41, v42, v43, v44, v45, v46, v47, v48, v49, v50, v51, v52, v53, v54, (.int .u8 q.2.2), v56, v57, nb, by rw [ha]; kernel_rfl, hB, hDv.imp_left .inr, fun h => e0 (h.resolve_left (by decide)), fun h => e1 (h.resolve_left (by decide)), fun h => e2 (h.resolve_left (by decide)), fun h => e3 (h.resolve_left (by decide)), fun h => e4 (h.resolve_left (by decide)), fun h => e5 (h.resolve_left (by decide)), fun h => e6 (h.resolve_left (by decide)), fun h => e7 (h.resolve_left (by decide)), fun h => e8 (h.resolve_left (by decide)), fun h => e9 (h.resolve_left (by decide)), fun h => e10 (h.resolve_left (by decide)), fun h => e11 (h.resolve_left (by decide)), fun h => e12 (h.resolve_left (by decide)), fun h => e13 (h.resolve_left (by decide)), fun h => e14 (h.resolve_left (by decide)), fun h => e15 (h.resolve_left (by decide)), fun h => e16 (h.resolve_left (by decide)), fun _ => rfl, fun h => e18 (h.resolve_left (by decide)), fun h => hr (h.resolve_left (by decide)), fun h => e19 (h.resolve_left (by decide)), fun h => hz (h.resolve_left (by decide))⟩
        | 18, ho =>
          cases Option.some.inj ho
          have ev : a.tmps[50]?.getD undef = .int .i64 (m : Int) := by rw [ha, e12 (hd ⟨12, .data⟩ (by simp) rfl)]; kernel_rfl
          have ev' : a.tmps[55]?.getD undef = .int .u8 q.2.2 := by rw [ha, e17 (hd ⟨17, .data⟩ (by simp) rfl)]; kernel_rfl
          refine wp_enter (f := 10) (args := #[.int .i64 (m : Int), .int .u8 q.2.2]) (by simp [execOp, ev, ev', go_sem]) ?_
          refine (full_row w' m q.2.2 (by omega)).mono ?_
          rintro e w6 ⟨nb2, rfl, _, hR, HB⟩
          refine ⟨_, rfl, ?_⟩
          exact ⟨v38, v39, v40, v41, v42, v43, v44, v45, v46, v47, v48, v49, v50, v51, v52, v53, v54, v55, (.slice (some ⟨nb2, 0, none⟩) (128 * m) (128 * m)), v57, nb2, by rw [ha]; kernel_rfl, below_size hB (Nat.le_refl _) HB, hDv.imp .inr (fun h => h.same (fun i hi => HB.block i hi)), fun h => e0 (h.resolve_left (by decide)), fun h => e1 (h.resolve_left (by decide)), fun h => e2 (h.resolve_left (by decide)), fun h => e3 (h.resolve_left (by decide)), fun h => e4 (h.resolve_left (by decide)), fun h => e5 (h.resolve_left (by decide)), fun h => e6 (h.resolve_left (by decide)), fun h => e7 (h.resolve_left (by decide)), fun h => e8 (h.resolve_left (by decide)), fun h => e9 (h.resolve_left (by decide)), fun h => e10 (h.resolve_left (by decide)), fun h => e11 (h.resolve_left (by decide)), fun h => e12 (h.resolve_left (by decide)), fun h => e13 (h.resolve_left (by decide)), fun h => e14 (h.resolve_left (by decide)), fun h => e15 (h.resolve_left (by decide)), fun h => e16 (h.resolve_left (by decide)), fun h => e17 (h.resolve_left (by decide)), fun _ => rfl, fun _ => hR, fun h => e19 (h.resolve_left (by decide)), fun h => absurd (h.resolve_left (by decide)) (fun h => hn (hcl 19 _ rfl h ⟨18, .data⟩ (by simp) rfl))⟩
        | 19, ho =>
          cases Option.some.inj ho
          have ev : a.tmps[38]?.getD undef = .pointer (some ⟨p, 0, none⟩) := by rw [ha, e0 (hd ⟨0, .data⟩ (by simp) rfl)]; kernel_rfl
          have ev' : a.tmps[43]?.getD undef = .int .i64 q.1 := by rw [ha, e5 (hd ⟨5, .data⟩ (by simp) rfl)]; kernel_rfl
          have ev'' : a.tmps[56]?.getD undef = .slice (some ⟨nb, 0, none⟩) (128 * m) (128 * m) := by rw [ha, e18 (hd ⟨18, .data⟩ (by simp) rfl)]; kernel_rfl
          refine wp_enter (f := 9) (args := #[.pointer (some ⟨p, 0, none⟩), .int .i64 q.1, .slice (some ⟨nb, 0, none⟩) (128 * m) (128 * m)]) (by simp [execOp, ev, ev', ev'', go_sem]) ?_
          refine (act_write (hDv.resolve_left hn) q.1 q.2.2 hq1 m (by omega) (by omega) hq2 hq3 (hr (hd ⟨18, .data⟩ (by simp) rfl)) (by omega)).mono ?_
          rintro e w6 ⟨rfl, pv2, D2, F2⟩
          refine ⟨_, rfl, ?_⟩
          exact ⟨v38, v39, v40, v41, v42, v43, v44, v45, v46, v47, v48, v49, v50, v51, v52, v53, v54, v55, v56, (.int .i64 (if 0 ≤ q.1 ∧ q.1 + m ≤ 8 then 0 else 13)), nb, by rw [ha]; kernel_rfl, hB.trans (F2.below (hDv.resolve_left hn)), .inl (.inl rfl), fun h => e0 (h.resolve_left (by decide)), fun h => e1 (h.resolve_left (by decide)), fun h => e2 (h.resolve_left (by decide)), fun h => e3 (h.resolve_left (by decide)), fun h => e4 (h.resolve_left (by decide)), fun h => e5 (h.resolve_left (by decide)), fun h => e6 (h.resolve_left (by decide)), fun h => e7 (h.resolve_left (by decide)), fun h => e8 (h.resolve_left (by decide)), fun h => e9 (h.resolve_left (by decide)), fun h => e10 (h.resolve_left (by decide)), fun h => e11 (h.resolve_left (by decide)), fun h => e12 (h.resolve_left (by decide)), fun h => e13 (h.resolve_left (by decide)), fun h => e14 (h.resolve_left (by decide)), fun h => e15 (h.resolve_left (by decide)), fun h => e16 (h.resolve_left (by decide)), fun h => e17 (h.resolve_left (by decide)), fun h => e18 (h.resolve_left (by decide)), fun h => (hr (h.resolve_left (by decide))).fr (hDv.resolve_left hn) F2, fun _ => rfl, fun _ => ⟨pv2, D2⟩⟩
        | i + 20, ho => simp at ho
      case done =>
        rintro D a w' ⟨v38, v39, v40, v41, v42, v43, v44, v45, v46, v47, v48, v49, v50, v51, v52, v53, v54, v55, v56, v57, nb, ha, hB, hDv, e0, e1, e2, e3, e4, e5, e6, e7, e8, e9, e10, e11, e12, e13, e14, e15, e16, e17, e18, hr, e19, hz⟩ hall
        obtain ⟨pv2, D2⟩ := hz (hall 19 (by decide))
        obtain rfl := e0 (hall 0 (by decide))
        obtain rfl := e1 (hall 1 (by decide))
        obtain rfl := e2 (hall 2 (by decide))
        obtain rfl := e3 (hall 3 (by decide))
        obtain rfl := e4 (hall 4 (by decide))
        obtain rfl := e5 (hall 5 (by decide))
        obtain rfl := e6 (hall 6 (by decide))
        obtain rfl := e7 (hall 7 (by decide))
        obtain rfl := e8 (hall 8 (by decide))
        obtain rfl := e9 (hall 9 (by decide))
        obtain rfl := e10 (hall 10 (by decide))
        obtain rfl := e11 (hall 11 (by decide))
        obtain rfl := e12 (hall 12 (by decide))
        obtain rfl := e13 (hall 13 (by decide))
        obtain rfl := e14 (hall 14 (by decide))
        obtain rfl := e15 (hall 15 (by decide))
        obtain rfl := e16 (hall 16 (by decide))
        obtain rfl := e17 (hall 17 (by decide))
        obtain rfl := e18 (hall 18 (by decide))
        obtain rfl := e19 (hall 19 (by decide))
        clear hr hz hDv hall e0 e1 e2 e3 e4 e5 e6 e7 e8 e9 e10 e11 e12 e13 e14 e15 e16 e17 e18 e19
        rw [ha]
        clear ha
        simp only [Act.put, List.setIfInBounds_toArray, List.set_cons_zero, List.set_cons_succ]
        rw [← hG1.out, appl_append] at D2
        have hw1 : IntKind.i64.wrap ((j : Int) + 1) = (j : Int) + 1 := by rw [IntKind.wrap_i64]; omega
        have hlen2 := actW_len q.1 q.2.2 m
        go_wp2
        go_roundw
        case rel => exact ⟨j + 1, _, pv2, by omega, by omega, rfl, by rw [List.length_append]; omega, D2, hB⟩
        case measure => simp [intOf]; omega
    · by_cases hex : j < al
      · have hlt1 : (j : Int) < (al : Int) := by omega
        have hlt2 : ¬ (j : Int) < 40 := by omega
        clear hgo
        have hL120 : L.length ≤ 120 := by omega
        generalize wr = wt at *
        have hlen := cat8_len hDv0
        obtain ⟨S, hS⟩ : ∃ S, Hid (strOfNums (catS (appl Z L) 0 8) = S) := ⟨_, rfl⟩
        obtain ⟨n, hn⟩ : ∃ n, Hid (L.length = n) := ⟨_, rfl⟩
        rw [hn.out] at hL120 hL
        go_wp2
        obtain ⟨i0, hi, hz0, hz1, hz2⟩ := info_parts Try.info4
        go_loopw [8, 9] (fun v i wr => ∃ k : Nat, k ≤ n ∧ i = .int .i64 (k : Int) ∧ wr.ownsRow wt.heap.size 4 1 v k (List.replicate k (.bool true)) ∧ Below wt.heap.size wt wr) (fun _ i _ => n - (intOf i).toNat)
        case atStart => exact ⟨0, by omega, rfl, World.ownsRow_nil _ _ _ _, Below.refl _ _⟩
        case round =>
          obtain ⟨k, hk1, rfl, hrow, hbe⟩ := hrel
          have DW := hDv0.below hbe
          have hBW := below_size hB0 (Nat.le_refl _) hbe
          have hww := hBW.size
          go_wp2_with fail
          refine (pending_any DW).mono ?_
          rintro e w4 ⟨rfl, rfl⟩
          rw [hn.out]
          have hlt5 : (k : Int) < 500 := by omega
          by_cases hkn2 : k = n
          · have hlt : ¬ (k : Int) < (n : Int) := by omega
            go_wp2_with fail
            refine (Copy_some DW (by rw [hn.out]; omega)).mono ?_
            rintro e w5 ⟨c, cs, cn, cv, rfl, C5, hB5⟩
            have D5 := DW.below hB5
            have hrow5 := own_below hrow hB5
            have hBA := below_size hBW (Nat.le_refl _) hB5
            have hpl := DW.lt
            have hsl := DW.safe.lt
            have hnl := DW.now.lt
            have hvl := fun g (hg : pv.ownBlock = some g) => DW.pvlt hg
            clear DW hrow hBW hB5
            go_wp2_with fail
            refine (read_8 D5).mono ?_
            rintro e w6 ⟨b6, rfl, _, hR6, hb6⟩
            have D6 := D5.below hb6
            have C6 := C5.below hb6
            have hrow6 := own_below hrow5 hb6
            have hBB := below_size hBA (Nat.le_refl _) hb6
            clear D5 C5 hrow5 hBA hb6
            have hcr := crash_all (L := L) D6 (v := u8) (B := wt.heap.size) (by rw [hn.out, ← hkn2]; exact hrow6) hDv0.lt hDv0.safe.lt hDv0.now.lt (fun g hg => hDv0.pvlt hg) (by rw [hn.out]; omega)
            go_wp2_with fail
            refine hcr.mono ?_
            rintro e w7 ⟨rfl, D7, F7⟩
            have C7 := C6.fr F7 hpl hsl hnl hvl
            have hR7 := hR6.fr D6 F7
            have hBC := hBB.trans (F7.below D6)
            clear hcr D6 F7 C6 hR6 hBB hrow6
            go_wp2_with fail
            refine (read_8 D7).mono ?_
            rintro e w8 ⟨b8, rfl, _, hR8, hb8⟩
            have C8 := C7.below hb8
            have hRa := hR7.below hb8
            have hBD := below_size hBC (Nat.le_refl _) hb8
            clear D7 C7 hR7 hBC hb8
            go_wp2_with fail
            refine (Flush_some C8 (by rw [hn.out]; omega)).mono ?_
            rintro e w9 ⟨rfl, C9, F9⟩
            have hRb := hRa.fr C8 F9
            have hRc := hR8.fr C8 F9
            have hBE := hBD.trans ((F9.below C8).mono (by omega))
            clear C8 F9 hRa hR8 hBD
            go_wp2_with fail
            refine (Crash_some C9 (fun _ => rfl) ka kn kc ks (hk.below hkb hBE) hkn (by simp) (fun b off e h0 => ?_)).mono ?_
            · have hb := hkb b off e h0
              refine ⟨?_, ?_, ?_, by simp [Value.ownBlock]⟩
              · have := C9.fromP; omega
              · have := C9.fromS; omega
              · have := C9.fromN; omega
            rintro e w10 ⟨rfl, C10, F10⟩
            have hRd := hRb.fr C9 F10
            have hRe := hRc.fr C9 F10
            have hBF := hBE.trans ((F10.below C9).mono (by omega))
            rw [keptL_nil, appl_nil] at C10
            clear C9 F10 hRb hRc hBE
            go_wp2_with fail
            refine (read_8 C10).mono ?_
            rintro e w11 ⟨b11, rfl, _, hR11, hb11⟩
            have s1 := (hRd.below hb11).str hS hlen
            have s2 := (hRe.below hb11).str hS hlen
            have s3 := hR11.str hS hlen
            have hBG := below_size hBF (Nat.le_refl _) hb11
            clear C10 hRd hRe hR11 hBF hb11 hlt hlt5 hkn2 hk1 hDv0 hB0 hi hz0 hz1 hz2 hbe
            go_wp2_with fail
            refine (known_true w11).mono ?_
            rintro e w12 ⟨rfl, hb12⟩
            have hBH := below_size hBG (Nat.le_refl _) hb12
            clear s1 s2 s3 hBG hb12
            go_wp2
            go_ret
            exact ⟨rfl, hBH⟩
          · have hlt : (k : Int) < (n : Int) := by omega
            clear DW
            have hw1 : IntKind.i64.wrap ((k : Int) + 1) = (k : Int) + 1 := by rw [IntKind.wrap_i64]; omega
            have hcell : ∀ i u, ([Value.bool true] : List Value)[i]? = some u → (wr.alloc (.cells #[.bool true] 4)).cell? ((⟨wr.heap.size, 0, none⟩ : Addr).add i) = some u := by
              intro i u hu
              obtain rfl : i = 0 := by
                rcases Nat.eq_zero_or_pos i with h | h
                · exact h
                · rw [List.getElem?_eq_none (show 1 ≤ i from h)] at hu; cases hu
              have : (⟨wr.heap.size, 0, none⟩ : Addr).add 0 = ⟨wr.heap.size, 0, none⟩ := by unfold Addr.add; split <;> simp_all
              rw [this, cell_of_row _ _ 0 _ _ _ (heap_alloc_new wr (.cells #[.bool true] 4))]
              simpa using hu
            have hrow2 := own_same (w' := wr.alloc (.cells #[.bool true] 4)) hrow (fun g hg => Below.heap_alloc _ _ _ (by obtain ⟨_, _, hh⟩ := own_block hrow hg; exact lt_of_block hh))
            have hwl := hbe.size
            go_wp2_with (at_builtin; refine wpList_append_own _ rfl _ _ 23 rfl wt.heap.size 4 i0 (.bool false) 1 1 Try.underlying23 hi hz0 hz1 hz2 rfl (by decide) _ _ _ rfl hrow2 ⟨wr.heap.size, 0, none⟩ 1 1 [.bool true] rfl rfl hcell (by simp [Value.oneCell']) (by unfold maxLen; omega) (by omega) (by simp; omega) ?_; intro v' w1 hown' hgrow _; obtain ⟨g', cap', rfl⟩ := own_succ hown')
            go_roundw
            case rel =>
              refine ⟨k + 1, by omega, rfl, ?_, ?_⟩
              · rw [List.replicate_succ']
                exact hown'
              · exact ⟨hgrow.os.trans hbe.os, hgrow.tape.trans hbe.tape, hgrow.output.trans hbe.output, Nat.le_trans (by simp; omega) hgrow.size, fun i hi' => (hgrow.block i (by simp; omega) (fun e => by obtain ⟨hb, _⟩ := own_block hrow e.symm; omega)).trans ((Below.heap_alloc _ _ _ (by omega)).trans (hbe.block i hi'))⟩
            case measure => simp [intOf]; omega
      · have hlt1 : ¬ (j : Int) < (al : Int) := by omega
        clear hgo
        have hL120 : L.length ≤ 120 := by omega
        generalize wr = wt at *
        have hlen := cat8_len hDv0
        obtain ⟨S, hS⟩ : ∃ S, Hid (strOfNums (catS (appl Z L) 0 8) = S) := ⟨_, rfl⟩
        obtain ⟨n, hn⟩ : ∃ n, Hid (L.length = n) := ⟨_, rfl⟩
        rw [hn.out] at hL120 hL
        go_wp2
        obtain ⟨i0, hi, hz0, hz1, hz2⟩ := info_parts Try.info4
        go_loopw [8, 9] (fun v i wr => ∃ k : Nat, k ≤ n ∧ i = .int .i64 (k : Int) ∧ wr.ownsRow wt.heap.size 4 1 v k (List.replicate k (.bool true)) ∧ Below wt.heap.size wt wr) (fun _ i _ => n - (intOf i).toNat)
        case atStart => exact ⟨0, by omega, rfl, World.ownsRow_nil _ _ _ _, Below.refl _ _⟩
        case round =>
          obtain ⟨k, hk1, rfl, hrow, hbe⟩ := hrel
          have DW := hDv0.below hbe
          have hBW := below_size hB0 (Nat.le_refl _) hbe
          have hww := hBW.size
          go_wp2_with fail
          refine (pending_any DW).mono ?_
          rintro e w4 ⟨rfl, rfl⟩
          rw [hn.out]
          have hlt5 : (k : Int) < 500 := by omega
          by_cases hkn2 : k = n
          · have hlt : ¬ (k : Int) < (n : Int) := by omega
            go_wp2_with fail
            refine (Copy_some DW (by rw [hn.out]; omega)).mono ?_
            rintro e w5 ⟨c, cs, cn, cv, rfl, C5, hB5⟩
            have D5 := DW.below hB5
            have hrow5 := own_below hrow hB5
            have hBA := below_size hBW (Nat.le_refl _) hB5
            have hpl := DW.lt
            have hsl := DW.safe.lt
            have hnl := DW.now.lt
            have hvl := fun g (hg : pv.ownBlock = some g) => DW.pvlt hg
            clear DW hrow hBW hB5
            go_wp2_with fail
            refine (read_8 D5).mono ?_
            rintro e w6 ⟨b6, rfl, _, hR6, hb6⟩
            have D6 := D5.below hb6
            have C6 := C5.below hb6
            have hrow6 := own_below hrow5 hb6
            have hBB := below_size hBA (Nat.le_refl _) hb6
            clear D5 C5 hrow5 hBA hb6
            have hcr := crash_all (L := L) D6 (v := u8) (B := wt.heap.size) (by rw [hn.out, ← hkn2]; exact hrow6) hDv0.lt hDv0.safe.lt hDv0.now.lt (fun g hg => hDv0.pvlt hg) (by rw [hn.out]; omega)
            go_wp2_with fail
            refine hcr.mono ?_
            rintro e w7 ⟨rfl, D7, F7⟩
            have C7 := C6.fr F7 hpl hsl hnl hvl
            have hR7 := hR6.fr D6 F7
            have hBC := hBB.trans (F7.below D6)
            clear hcr D6 F7 C6 hR6 hBB hrow6
            go_wp2_with fail
            refine (read_8 D7).mono ?_
            rintro e w8 ⟨b8, rfl, _, hR8, hb8⟩
            have C8 := C7.below hb8
            have hRa := hR7.below hb8
            have hBD := below_size hBC (Nat.le_refl _) hb8
            clear D7 C7 hR7 hBC hb8
            go_wp2_with fail
            refine (Flush_some C8 (by rw [hn.out]; omega)).mono ?_
            rintro e w9 ⟨rfl, C9, F9⟩
            have hRb := hRa.fr C8 F9
            have hRc := hR8.fr C8 F9
            have hBE := hBD.trans ((F9.below C8).mono (by omega))
            clear C8 F9 hRa hR8 hBD
            go_wp2_with fail
            refine (Crash_some C9 (fun _ => rfl) ka kn kc ks (hk.below hkb hBE) hkn (by simp) (fun b off e h0 => ?_)).mono ?_
            · have hb := hkb b off e h0
              refine ⟨?_, ?_, ?_, by simp [Value.ownBlock]⟩
              · have := C9.fromP; omega
              · have := C9.fromS; omega
              · have := C9.fromN; omega
            rintro e w10 ⟨rfl, C10, F10⟩
            have hRd := hRb.fr C9 F10
            have hRe := hRc.fr C9 F10
            have hBF := hBE.trans ((F10.below C9).mono (by omega))
            rw [keptL_nil, appl_nil] at C10
            clear C9 F10 hRb hRc hBE
            go_wp2_with fail
            refine (read_8 C10).mono ?_
            rintro e w11 ⟨b11, rfl, _, hR11, hb11⟩
            have s1 := (hRd.below hb11).str hS hlen
            have s2 := (hRe.below hb11).str hS hlen
            have s3 := hR11.str hS hlen
            have hBG := below_size hBF (Nat.le_refl _) hb11
            clear C10 hRd hRe hR11 hBF hb11 hlt hlt5 hkn2 hk1 hDv0 hB0 hi hz0 hz1 hz2 hbe
            go_wp2_with fail
            refine (known_true w11).mono ?_
            rintro e w12 ⟨rfl, hb12⟩
            have hBH := below_size hBG (Nat.le_refl _) hb12
            clear s1 s2 s3 hBG hb12
            go_wp2
            go_ret
            exact ⟨rfl, hBH⟩
          · have hlt : (k : Int) < (n : Int) := by omega
            clear DW
            have hw1 : IntKind.i64.wrap ((k : Int) + 1) = (k : Int) + 1 := by rw [IntKind.wrap_i64]; omega
            have hcell : ∀ i u, ([Value.bool true] : List Value)[i]? = some u → (wr.alloc (.cells #[.bool true] 4)).cell? ((⟨wr.heap.size, 0, none⟩ : Addr).add i) = some u := by
              intro i u hu
              obtain rfl : i = 0 := by
                rcases Nat.eq_zero_or_pos i with h | h
                · exact h
                · rw [List.getElem?_eq_none (show 1 ≤ i from h)] at hu; cases hu
              have : (⟨wr.heap.size, 0, none⟩ : Addr).add 0 = ⟨wr.heap.size, 0, none⟩ := by unfold Addr.add; split <;> simp_all
              rw [this, cell_of_row _ _ 0 _ _ _ (heap_alloc_new wr (.cells #[.bool true] 4))]
              simpa using hu
            have hrow2 := own_same (w' := wr.alloc (.cells #[.bool true] 4)) hrow (fun g hg => Below.heap_alloc _ _ _ (by obtain ⟨_, _, hh⟩ := own_block hrow hg; exact lt_of_block hh))
            have hwl := hbe.size
            go_wp2_with (at_builtin; refine wpList_append_own _ rfl _ _ 23 rfl wt.heap.size 4 i0 (.bool false) 1 1 Try.underlying23 hi hz0 hz1 hz2 rfl (by decide) _ _ _ rfl hrow2 ⟨wr.heap.size, 0, none⟩ 1 1 [.bool true] rfl rfl hcell (by simp [Value.oneCell']) (by unfold maxLen; omega) (by omega) (by simp; omega) ?_; intro v' w1 hown' hgrow _; obtain ⟨g', cap', rfl⟩ := own_succ hown')
            go_roundw
            case rel =>
              refine ⟨k + 1, by omega, rfl, ?_, ?_⟩
              · rw [List.replicate_succ']
                exact hown'
              · exact ⟨hgrow.os.trans hbe.os, hgrow.tape.trans hbe.tape, hgrow.output.trans hbe.output, Nat.le_trans (by simp; omega) hgrow.size, fun i hi' => (hgrow.block i (by simp; omega) (fun e => by obtain ⟨hb, _⟩ := own_block hrow e.symm; omega)).trans ((Below.heap_alloc _ _ _ (by omega)).trans (hbe.block i hi'))⟩
            case measure => simp [intOf]; omega
end Go.Proofs.Ytofgphiamllmdaa
