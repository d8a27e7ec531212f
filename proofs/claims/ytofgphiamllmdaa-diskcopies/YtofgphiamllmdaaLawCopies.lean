/- The walk of DiskCopies: a copy goes on alone. -/
import Derived.Test.YtofgphiamllmdaaBeside
import Derived.Deep.CutRange
namespace Go.Proofs.Ytofgphiamllmdaa
open Go.RowKit

set_option maxRecDepth 100000 in
set_option maxHeartbeats 16000000 in
theorem copies_law (w : World) (sa : Option Addr) (ac : Nat) (l : List (Int × Int × Int)) (hA : Acts w sa l) (sb : Option Addr) (bc : Nat) (l2 : List (Int × Int × Int)) (hA2 : Acts w sb l2) (ka : Option Addr) (kn kc : Nat) (ks : List Bool) (hk : Bools w ka kn ks) (hkb : ∀ b off, ka = some ⟨b, off, none⟩ → 0 < kn → b < w.heap.size) (hkn : kn ≤ 140737488355328) :
    Calls Try.prog 7 #[.slice sa l.length ac, .slice sb l2.length bc, .slice ka kn kc] w fun e w' => e = .returned (.bool true) ∧ Below w.heap.size w w' := by
  go_enter Try.func7, Try.ntmps7
  go_wp2_with fail
  refine (new_ex w).mono ?_
  rintro e w1 ⟨p, bs, bn, Z, rfl, D1, hB1⟩
  obtain ⟨al, hal⟩ : ∃ al, Hid (l.length = al) := ⟨_, rfl⟩
  obtain ⟨bl, hbl⟩ : ∃ bl, Hid (l2.length = bl) := ⟨_, rfl⟩
  rw [hal.out, hbl.out]
  go_wp2
  go_loopw [9] (fun i wr => ∃ (j : Nat) (L : List (Int × List Int)) (pv : Value), j ≤ al ∧ j ≤ 40 ∧ i = .int .i64 (j : Int) ∧ L.length ≤ 3 * j ∧ Dev wr w.heap.size p bs bn pv 8 Z (appl Z L) L 0 false ∧ Below w.heap.size w wr) (fun i _ => al - (intOf i).toNat)
  case atStart => exact ⟨0, [], _, by omega, by omega, rfl, by simp, D1, hB1⟩
  case round =>
    obtain ⟨j, L, pv, hj1, hj2, rfl, hL, hDv0, hB0⟩ := hrel
    clear D1 hB1
    go_upto_region 5 with fail
    go_cut [33] from 26 to 55 (fun v wx => v = .bool (decide (j < al ∧ j < 40)) ∧ wx = wr)
    case first =>
      by_cases h1 : j < al
      · have hlt1 : (j : Int) < (al : Int) := by omega
        by_cases h2 : j < 40
        · have hlt2 : (j : Int) < 40 := by omega
          go_wp2
          go_meet
          case rel => exact ⟨by simp [h1, h2], rfl⟩
        · have hlt2 : ¬ (j : Int) < 40 := by omega
          go_wp2
          go_meet
          case rel => exact ⟨by simp [h1, h2], rfl⟩
      · have hlt1 : ¬ (j : Int) < (al : Int) := by omega
        go_wp2
        go_meet
        case rel => exact ⟨by simp [h1], rfl⟩
    case rest =>
      obtain ⟨rfl, rfl⟩ := hcut
      by_cases hgo : j < al ∧ j < 40
      · have hgd : decide (j < al ∧ j < 40) = true := decide_eq_true hgo
        rw [hgd]
        obtain ⟨hlt1, hlt2⟩ : (j : Int) < (al : Int) ∧ (j : Int) < 40 := by omega
        have hidx : j < al := hgo.1
        obtain ⟨q, hq⟩ : ∃ q, l[j]? = some q := ⟨l[j]'(by rw [hal.out]; exact hidx), List.getElem?_eq_getElem _⟩
        obtain ⟨hq1, hq2, hq3⟩ := hA.ok q (List.mem_of_getElem? hq)
        obtain ⟨ab, ao, rfl, hab, hc1, hc2, hc3⟩ := hA.lies j q hq
        have hr3 := cnt_lt q.2.1
        have hcount := fun w' => count3 q.2.1 w'
        obtain ⟨r, hr⟩ : ∃ r, cnt q.2.1 = r := ⟨_, rfl⟩
        rw [hr] at hr3
        simp only [hr] at hcount
        clear hr
        obtain ⟨m, hm⟩ : ∃ m : Nat, Hid (m = r + 1) := ⟨_, rfl⟩
        have hwm : IntKind.i64.wrap (1 + (r : Int)) = (m : Int) := by have := hm.out; rw [IntKind.wrap_i64]; omega
        have hm0 : 1 ≤ m := by have := hm.out; omega
        have hm3 : m ≤ 3 := by have := hm.out; omega
        obtain ⟨G1, hG1⟩ : ∃ G1, Hid (appl Z L = G1) := ⟨_, rfl⟩
        rw [hG1.out] at hDv0
        clear hgo
        go_wp2
        refine wp_region_inv' (fun A D a w' => ∃ v36 v37 v38 v39 v40 v41 v42 v43 v44 v45 v46 v47 v48 v49 v50 v51 v52 v53 v54 v55 nb, a = ((((((((((((((((((((A.put (some 36) v36).put (some 37) v37).put (some 38) v38).put (some 39) v39).put (some 40) v40).put (some 41) v41).put (some 42) v42).put (some 43) v43).put (some 44) v44).put (some 45) v45).put (some 46) v46).put (some 47) v47).put (some 48) v48).put (some 49) v49).put (some 50) v50).put (some 51) v51).put (some 52) v52).put (some 53) v53).put (some 54) v54).put (some 55) v55) ∧ Below w.heap.size w w' ∧ (D 19 ∨ Dev w' w.heap.size p bs bn pv 8 Z G1 L 0 false) ∧ (D 0 → v36 = .pointer (some ⟨p, 0, none⟩)) ∧ (D 1 → v37 = .slice (some ⟨ab, ao, none⟩) al ac) ∧ (D 2 → v38 = .int .i64 (j : Int)) ∧ (D 3 → v39 = .pointer (some ⟨ab, ao + j * 6, none⟩)) ∧ (D 4 → v40 = .pointer (some ⟨ab, ao + j * 6 + 1, none⟩)) ∧ (D 5 → v41 = .int .i64 q.1) ∧ (D 6 → v42 = .slice (some ⟨ab, ao, none⟩) al ac) ∧ (D 7 → v43 = .int .i64 (j : Int)) ∧ (D 8 → v44 = .pointer (some ⟨ab, ao + j * 6, none⟩)) ∧ (D 9 → v45 = .pointer (some ⟨ab, ao + j * 6 + 2, none⟩)) ∧ (D 10 → v46 = .int .i64 q.2.1) ∧ (D 11 → v47 = .int .i64 (r : Int)) ∧ (D 12 → v48 = .int .i64 (m : Int)) ∧ (D 13 → v49 = .slice (some ⟨ab, ao, none⟩) al ac) ∧ (D 14 → v50 = .int .i64 (j : Int)) ∧ (D 15 → v51 = .pointer (some ⟨ab, ao + j * 6, none⟩)) ∧ (D 16 → v52 = .pointer (some ⟨ab, ao + j * 6 + 3, none⟩)) ∧ (D 17 → v53 = .int .u8 q.2.2) ∧ (D 18 → v54 = .slice (some ⟨nb, 0, none⟩) (128 * m) (128 * m)) ∧ (D 18 → Row8 w' nb (sv (128 * m) q.2.2)) ∧ (D 19 → v55 = .int .i64 (if 0 ≤ q.1 ∧ q.1 + m ≤ 8 then 0 else 13)) ∧ (D 19 → ∃ pv2, Dev w' w.heap.size p bs bn pv2 8 Z (appl G1 (actW q.1 q.2.2 m)) (L ++ actW q.1 q.2.2 m) 0 false)) (by kernel_rfl) (by kernel_rfl) ?mono ?start ?step ?done
        case mono =>
          rintro D D' a w' hD ⟨v36, v37, v38, v39, v40, v41, v42, v43, v44, v45, v46, v47, v48, v49, v50, v51, v52, v53, v54, v55, nb, ha, hB, hDv, e0, e1, e2, e3, e4, e5, e6, e7, e8, e9, e10, e11, e12, e13, e14, e15, e16, e17, e18, hr, e19, hz⟩
          exact ⟨v36, v37, v38, v39, v40, v41, v42, v43, v44, v45, v46, v47, v48, v49, v50, v51, v52, v53, v54, v55, nb, ha, hB, hDv.imp_left (hD 19).1, fun h => e0 ((hD 0).2 h), fun h => e1 ((hD 1).2 h), fun h => e2 ((hD 2).2 h), fun h => e3 ((hD 3).2 h), fun h => e4 ((hD 4).2 h), fun h => e5 ((hD 5).2 h), fun h => e6 ((hD 6).2 h), fun h => e7 ((hD 7).2 h), fun h => e8 ((hD 8).2 h), fun h => e9 ((hD 9).2 h), fun h => e10 ((hD 10).2 h), fun h => e11 ((hD 11).2 h), fun h => e12 ((hD 12).2 h), fun h => e13 ((hD 13).2 h), fun h => e14 ((hD 14).2 h), fun h => e15 ((hD 15).2 h), fun h => e16 ((hD 16).2 h), fun h => e17 ((hD 17).2 h), fun h => e18 ((hD 18).2 h), fun h => hr ((hD 18).2 h), fun h => e19 ((hD 19).2 h), fun h => hz ((hD 19).2 h)⟩
        case start => exact ⟨u36, u37, u38, u39, u40, u41, u42, u43, u44, u45, u46, u47, u48, u49, u50, u51, u52, u53, u54, u55, 0, by kernel_rfl, hB0.drew, .inr (hDv0.same (fun _ _ => rfl)), fun h => h.elim, fun h => h.elim, fun h => h.elim, fun h => h.elim, fun h => h.elim, fun h => h.elim, fun h => h.elim, fun h => h.elim, fun h => h.elim, fun h => h.elim, fun h => h.elim, fun h => h.elim, fun h => h.elim, fun h => h.elim, fun h => h.elim, fun h => h.elim, fun h => h.elim, fun h => h.elim, fun h => h.elim, fun h => h.elim, fun h => h.elim, fun h => h.elim⟩
        case step =>
          intro i o ho D a w' hI hn hcl hd
          obtain ⟨v36, v37, v38, v39, v40, v41, v42, v43, v44, v45, v46, v47, v48, v49, v50, v51, v52, v53, v54, v55, nb, ha, hB, hDv, e0, e1, e2, e3, e4, e5, e6, e7, e8, e9, e10, e11, e12, e13, e14, e15, e16, e17, e18, hr, e19, hz⟩ := hI
          match i, ho with
          | 0, ho =>
            cases Option.some.inj ho
            have ev : a.tmps[7]?.getD undef = .pointer (some ⟨p, 0, none⟩) := by rw [ha]; kernel_rfl
            refine wp_value (w' := w') (v := .pointer (some ⟨p, 0, none⟩)) (by simp [execOp, ev, go_sem]) ?_
            exact ⟨(.pointer (some ⟨p, 0, none⟩)), v37, v38, v39, v40, v41, v42, v43, v44, v45, v46, v47, v48, v49, v50, v51, v52, v53, v54, v55, nb, by rw [ha]; kernel_rfl, hB, hDv.imp_left .inr, fun _ => rfl, fun h => e1 (h.resolve_left (by decide)), fun h => e2 (h.resolve_left (by decide)), fun h => e3 (h.resolve_left (by decide)), fun h => e4 (h.resolve_left (by decide)), fun h => e5 (h.resolve_left (by decide)), fun h => e6 (h.resolve_left (by decide)), fun h => e7 (h.resolve_left (by decide)), fun h => e8 (h.resolve_left (by decide)), fun h => e9 (h.resolve_left (by decide)), fun h => e10 (h.resolve_left (by decide)), fun h => e11 (h.resolve_left (by decide)), fun h => e12 (h.resolve_left (by decide)), fun h => e13 (h.resolve_left (by decide)), fun h => e14 (h.resolve_left (by decide)), fun h => e15 (h.resolve_left (by decide)), fun h => e16 (h.resolve_left (by decide)), fun h => e17 (h.resolve_left (by decide)), fun h => e18 (h.resolve_left (by decide)), fun h => hr (h.resolve_left (by decide)), fun h => e19 (h.resolve_left (by decide)), fun h => hz (h.resolve_left (by decide))⟩
          | 1, ho =>
            cases Option.some.inj ho
            have ev : a.tmps[0]?.getD undef = .slice (some ⟨ab, ao, none⟩) al ac := by rw [ha]; kernel_rfl
            refine wp_value (w' := w') (v := .slice (some ⟨ab, ao, none⟩) al ac) (by simp [execOp, ev, go_sem]) ?_
            exact ⟨v36, (.slice (some ⟨ab, ao, none⟩) al ac), v38, v39, v40, v41, v42, v43, v44, v45, v46, v47, v48, v49, v50, v51, v52, v53, v54, v55, nb, by rw [ha]; kernel_rfl, hB, hDv.imp_left .inr, fun h => e0 (h.resolve_left (by decide)), fun _ => rfl, fun h => e2 (h.resolve_left (by decide)), fun h => e3 (h.resolve_left (by decide)), fun h => e4 (h.resolve_left (by decide)), fun h => e5 (h.resolve_left (by decide)), fun h => e6 (h.resolve_left (by decide)), fun h => e7 (h.resolve_left (by decide)), fun h => e8 (h.resolve_left (by decide)), fun h => e9 (h.resolve_left (by decide)), fun h => e10 (h.resolve_left (by decide)), fun h => e11 (h.resolve_left (by decide)), fun h => e12 (h.resolve_left (by decide)), fun h => e13 (h.resolve_left (by decide)), fun h => e14 (h.resolve_left (by decide)), fun h => e15 (h.resolve_left (by decide)), fun h => e16 (h.resolve_left (by decide)), fun h => e17 (h.resolve_left (by decide)), fun h => e18 (h.resolve_left (by decide)), fun h => hr (h.resolve_left (by decide)), fun h => e19 (h.resolve_left (by decide)), fun h => hz (h.resolve_left (by decide))⟩
          | 2, ho =>
            cases Option.some.inj ho
            have ev : a.tmps[9]?.getD undef = .int .i64 (j : Int) := by rw [ha]; kernel_rfl
            refine wp_value (w' := w') (v := .int .i64 (j : Int)) (by simp [execOp, ev, go_sem]) ?_
            exact ⟨v36, v37, (.int .i64 (j : Int)), v39, v40, v41, v42, v43, v44, v45, v46, v47, v48, v49, v50, v51, v52, v53, v54, v55, nb, by rw [ha]; kernel_rfl, hB, hDv.imp_left .inr, fun h => e0 (h.resolve_left (by decide)), fun h => e1 (h.resolve_left (by decide)), fun _ => rfl, fun h => e3 (h.resolve_left (by decide)), fun h => e4 (h.resolve_left (by decide)), fun h => e5 (h.resolve_left (by decide)), fun h => e6 (h.resolve_left (by decide)), fun h => e7 (h.resolve_left (by decide)), fun h => e8 (h.resolve_left (by decide)), fun h => e9 (h.resolve_left (by decide)), fun h => e10 (h.resolve_left (by decide)), fun h => e11 (h.resolve_left (by decide)), fun h => e12 (h.resolve_left (by decide)), fun h => e13 (h.resolve_left (by decide)), fun h => e14 (h.resolve_left (by decide)), fun h => e15 (h.resolve_left (by decide)), fun h => e16 (h.resolve_left (by decide)), fun h => e17 (h.resolve_left (by decide)), fun h => e18 (h.resolve_left (by decide)), fun h => hr (h.resolve_left (by decide)), fun h => e19 (h.resolve_left (by decide)), fun h => hz (h.resolve_left (by decide))⟩
          | 3, ho =>
            cases Option.some.inj ho
            have ev : a.tmps[37]?.getD undef = .slice (some ⟨ab, ao, none⟩) al ac := by rw [ha, e1 (hd ⟨1, .data⟩ (by simp) rfl)]; kernel_rfl
            have ev' : a.tmps[38]?.getD undef = .int .i64 (j : Int) := by rw [ha, e2 (hd ⟨2, .data⟩ (by simp) rfl)]; kernel_rfl
            refine wp_value (w' := w') (v := .pointer (some ⟨ab, ao + j * 6, none⟩)) (by simp [execOp, ev, ev', go_sem, hidx, Addr.add_lit]) ?_
            exact ⟨v36, v37, v38, (.pointer (some ⟨ab, ao + j * 6, none⟩)), v40, v41, v42, v43, v44, v45, v46, v47, v48, v49, v50, v51, v52, v53, v54, v55, nb, by rw [ha]; kernel_rfl, hB, hDv.imp_left .inr, fun h => e0 (h.resolve_left (by decide)), fun h => e1 (h.resolve_left (by decide)), fun h => e2 (h.resolve_left (by decide)), fun _ => rfl, fun h => e4 (h.resolve_left (by decide)), fun h => e5 (h.resolve_left (by decide)), fun h => e6 (h.resolve_left (by decide)), fun h => e7 (h.resolve_left (by decide)), fun h => e8 (h.resolve_left (by decide)), fun h => e9 (h.resolve_left (by decide)), fun h => e10 (h.resolve_left (by decide)), fun h => e11 (h.resolve_left (by decide)), fun h => e12 (h.resolve_left (by decide)), fun h => e13 (h.resolve_left (by decide)), fun h => e14 (h.resolve_left (by decide)), fun h => e15 (h.resolve_left (by decide)), fun h => e16 (h.resolve_left (by decide)), fun h => e17 (h.resolve_left (by decide)), fun h => e18 (h.resolve_left (by decide)), fun h => hr (h.resolve_left (by decide)), fun h => e19 (h.resolve_left (by decide)), fun h => hz (h.resolve_left (by decide))⟩
          | 4, ho =>
            cases Option.some.inj ho
            have ev : a.tmps[39]?.getD undef = .pointer (some ⟨ab, ao + j * 6, none⟩) := by rw [ha, e3 (hd ⟨3, .data⟩ (by simp) rfl)]; kernel_rfl
            refine wp_value (w' := w') (v := .pointer (some ⟨ab, ao + j * 6 + 1, none⟩)) (by simp [execOp, ev, go_sem, Addr.add_lit]) ?_
            exact ⟨v36, v37, v38, v39, (.pointer (some ⟨ab, ao + j * 6 + 1, none⟩)), v41, v42, v43, v44, v45, v46, v47, v48, v49, v50, v51, v52, v53, v54, v55, nb, by rw [ha]; kernel_rfl, hB, hDv.imp_left .inr, fun h => e0 (h.resolve_left (by decide)), fun h => e1 (h.resolve_left (by decide)), fun h => e2 (h.resolve_left (by decide)), fun h => e3 (h.resolve_left (by decide)), fun _ => rfl, fun h => e5 (h.resolve_left (by decide)), fun h => e6 (h.resolve_left (by decide)), fun h => e7 (h.resolve_left (by decide)), fun h => e8 (h.resolve_left (by decide)), fun h => e9 (h.resolve_left (by decide)), fun h => e10 (h.resolve_left (by decide)), fun h => e11 (h.resolve_left (by decide)), fun h => e12 (h.resolve_left (by decide)), fun h => e13 (h.resolve_left (by decide)), fun h => e14 (h.resolve_left (by decide)), fun h => e15 (h.resolve_left (by decide)), fun h => e16 (h.resolve_left (by decide)), fun h => e17 (h.resolve_left (by decide)), fun h => e18 (h.resolve_left (by decide)), fun h => hr (h.resolve_left (by decide)), fun h => e19 (h.resolve_left (by decide)), fun h => hz (h.resolve_left (by decide))⟩
          | 5, ho =>
            cases Option.some.inj ho
            have ev : a.tmps[40]?.getD undef = .pointer (some ⟨ab, ao + j * 6 + 1, none⟩) := by rw [ha, e4 (hd ⟨4, .data⟩ (by simp) rfl)]; kernel_rfl
            have hc := (World.cell?_of_block (hB.block ab hab)).trans hc1
            refine wp_value (w' := w') (v := .int .i64 q.1) (by simp [execOp, ev, go_sem, hc]) ?_
            exact ⟨v36, v37, v38, v39, v40, (.int .i64 q.1), v42, v43, v44, v45, v46, v47, v48, v49, v50, v51, v52, v53, v54, v55, nb, by rw [ha]; kernel_rfl, hB, hDv.imp_left .inr, fun h => e0 (h.resolve_left (by decide)), fun h => e1 (h.resolve_left (by decide)), fun h => e2 (h.resolve_left (by decide)), fun h => e3 (h.resolve_left (by decide)), fun h => e4 (h.resolve_left (by decide)), fun _ => rfl, fun h => e6 (h.resolve_left (by decide)), fun h => e7 (h.resolve_left (by decide)), fun h => e8 (h.resolve_left (by decide)), fun h => e9 (h.resolve_left (by decide)), fun h => e10 (h.resolve_left (by decide)), fun h => e11 (h.resolve_left (by decide)), fun h => e12 (h.resolve_left (by decide)), fun h => e13 (h.resolve_left (by decide)), fun h => e14 (h.resolve_left (by decide)), fun h => e15 (h.resolve_left (by decide)), fun h => e16 (h.resolve_left (by decide)), fun h => e17 (h.resolve_left (by decide)), fun h => e18 (h.resolve_left (by decide)), fun h => hr (h.resolve_left (by decide)), fun h => e19 (h.resolve_left (by decide)), fun h => hz (h.resolve_left (by decide))⟩
          | 6, ho =>
            cases Option.some.inj ho
            have ev : a.tmps[0]?.getD undef = .slice (some ⟨ab, ao, none⟩) al ac := by rw [ha]; kernel_rfl
            refine wp_value (w' := w') (v := .slice (some ⟨ab, ao, none⟩) al ac) (by simp [execOp, ev, go_sem]) ?_
            exact ⟨v36, v37, v38, v39, v40, v41, (.slice (some ⟨ab, ao, none⟩) al ac), v43, v44, v45, v46, v47, v48, v49, v50, v51, v52, v53, v54, v55, nb, by rw [ha]; kernel_rfl, hB, hDv.imp_left .inr, fun h => e0 (h.resolve_left (by decide)), fun h => e1 (h.resolve_left (by decide)), fun h => e2 (h.resolve_left (by decide)), fun h => e3 (h.resolve_left (by decide)), fun h => e4 (h.resolve_left (by decide)), fun h => e5 (h.resolve_left (by decide)), fun _ => rfl, fun h => e7 (h.resolve_left (by decide)), fun h => e8 (h.resolve_left (by decide)), fun h => e9 (h.resolve_left (by decide)), fun h => e10 (h.resolve_left (by decide)), fun h => e11 (h.resolve_left (by decide)), fun h => e12 (h.resolve_left (by decide)), fun h => e13 (h.resolve_left (by decide)), fun h => e14 (h.resolve_left (by decide)), fun h => e15 (h.resolve_left (by decide)), fun h => e16 (h.resolve_left (by decide)), fun h => e17 (h.resolve_left (by decide)), fun h => e18 (h.resolve_left (by decide)), fun h => hr (h.resolve_left (by decide)), fun h => e19 (h.resolve_left (by decide)), fun h => hz (h.resolve_left (by decide))⟩
          | 7, ho =>
            cases Option.some.inj ho
            have ev : a.tmps[9]?.getD undef = .int .i64 (j : Int) := by rw [ha]; kernel_rfl
            refine wp_value (w' := w') (v := .int .i64 (j : Int)) (by simp [execOp, ev, go_sem]) ?_
            exact ⟨v36, v37, v38, v39, v40, v41, v42, (.int .i64 (j : Int)), v44, v45, v46, v47, v48, v49, v50, v51, v52, v53, v54, v55, nb, by rw [ha]; kernel_rfl, hB, hDv.imp_left .inr, fun h => e0 (h.resolve_left (by decide)), fun h => e1 (h.resolve_left (by decide)), fun h => e2 (h.resolve_left (by decide)), fun h => e3 (h.resolve_left (by decide)), fun h => e4 (h.resolve_left (by decide)), fun h => e5 (h.resolve_left (by decide)), fun h => e6 (h.resolve_left (by decide)), fun _ => rfl, fun h => e8 (h.resolve_left (by decide)), fun h => e9 (h.resolve_left (by decide)), fun h => e10 (h.resolve_left (by decide)), fun h => e11 (h.resolve_left (by decide)), fun h => e12 (h.resolve_left (by decide)), fun h => e13 (h.resolve_left (by decide)), fun h => e14 (h.resolve_left (by decide)), fun h => e15 (h.resolve_left (by decide)), fun h => e16 (h.resolve_left (by decide)), fun h => e17 (h.resolve_left (by decide)), fun h => e18 (h.resolve_left (by decide)), fun h => hr (h.resolve_left (by decide)), fun h => e19 (h.resolve_left (by decide)), fun h => hz (h.resolve_left (by decide))⟩
          | 8, ho =>
            cases Option.some.inj ho
            have ev : a.tmps[42]?.getD undef = .slice (some ⟨ab, ao, none⟩) al ac := by rw [ha, e6 (hd ⟨6, .data⟩ (by simp) rfl)]; kernel_rfl
            have ev' : a.tmps[43]?.getD undef = .int .i64 (j : Int) := by rw [ha, e7 (hd ⟨7, .data⟩ (by simp) rfl)]; kernel_rfl
            refine wp_value (w' := w') (v := .pointer (some ⟨ab, ao + j * 6, none⟩)) (by simp [execOp, ev, ev', go_sem, hidx, Addr.add_lit]) ?_
            exact ⟨v36, v37, v38, v39, v40, v41, v42, v43, (.pointer (some ⟨ab, ao + j * 6, none⟩)), v45, v46, v47, v48, v49, v50, v51, v52, v53, v54, v55, nb, by rw [ha]; kernel_rfl, hB, hDv.imp_left .inr, fun h => e0 (h.resolve_left (by decide)), fun h => e1 (h.resolve_left (by decide)), fun h => e2 (h.resolve_left (by decide)), fun h => e3 (h.resolve_left (by decide)), fun h => e4 (h.resolve_left (by decide)), fun h => e5 (h.resolve_left (by decide)), fun h => e6 (h.resolve_left (by decide)), fun h => e7 (h.resolve_left (by decide)), fun _ => rfl, fun h => e9 (h.resolve_left (by decide)), fun h => e10 (h.resolve_left (by decide)), fun h => e11 (h.resolve_left (by decide)), fun h => e12 (h.resolve_left (by decide)), fun h => e13 (h.resolve_left (by decide)), fun h => e14 (h.resolve_left (by decide)), fun h => e15 (h.resolve_left (by decide)), fun h => e16 (h.resolve_left (by decide)), fun h => e17 (h.resolve_left (by decide)), fun h => e18 (h.resolve_left (by decide)), fun h => hr (h.resolve_left (by decide)), fun h => e19 (h.resolve_left (by decide)), fun h => hz (h.resolve_left (by decide))⟩
          | 9, ho =>
            cases Option.some.inj ho
            have ev : a.tmps[44]?.getD undef = .pointer (some ⟨ab, ao + j * 6, none⟩) := by rw [ha, e8 (hd ⟨8, .data⟩ (by simp) rfl)]; kernel_rfl
            refine wp_value (w' := w') (v := .pointer (some ⟨ab, ao + j * 6 + 2, none⟩)) (by simp [execOp, ev, go_sem, Addr.add_lit]) ?_
            exact ⟨v36, v37, v38, v39, v40, v41, v42, v43, v44, (.pointer (some ⟨ab, ao + j * 6 + 2, none⟩)), v46, v47, v48, v49, v50, v51, v52, v53, v54, v55, nb, by rw [ha]; kernel_rfl, hB, hDv.imp_left .inr, fun h => e0 (h.resolve_left (by decide)), fun h => e1 (h.resolve_left (by decide)), fun h => e2 (h.resolve_left (by decide)), fun h => e3 (h.resolve_left (by decide)), fun h => e4 (h.resolve_left (by decide)), fun h => e5 (h.resolve_left (by decide)), fun h => e6 (h.resolve_left (by decide)), fun h => e7 (h.resolve_left (by decide)), fun h => e8 (h.resolve_left (by decide)), fun _ => rfl, fun h => e10 (h.resolve_left (by decide)), fun h => e11 (h.resolve_left (by decide)), fun h => e12 (h.resolve_left (by decide)), fun h => e13 (h.resolve_left (by decide)), fun h => e14 (h.resolve_left (by decide)), fun h => e15 (h.resolve_left (by decide)), fun h => e16 (h.resolve_left (by decide)), fun h => e17 (h.resolve_left (by decide)), fun h => e18 (h.resolve_left (by decide)), fun h => hr (h.resolve_left (by decide)), fun h => e19 (h.resolve_left (by decide)), fun h => hz (h.resolve_left (by decide))⟩
          | 10, ho =>
            cases Option.some.inj ho
            have ev : a.tmps[45]?.getD undef = .pointer (some ⟨ab, ao + j * 6 + 2, none⟩) := by rw [ha, e9 (hd ⟨9, .data⟩ (by simp) rfl)]; kernel_rfl
            have hc := (World.cell?_of_block (hB.block ab hab)).trans hc2
            refine wp_value (w' := w') (v := .int .i64 q.2.1) (by simp [execOp, ev, go_sem, hc]) ?_
            exact ⟨v36, v37, v38, v39, v40, v41, v42, v43, v44, v45, (.int .i64 q.2.1), v47, v48, v49, v50, v51, v52, v53, v54, v55, nb, by rw [ha]; kernel_rfl, hB, hDv.imp_left .inr, fun h => e0 (h.resolve_left (by decide)), fun h => e1 (h.resolve_left (by decide)), fun h => e2 (h.resolve_left (by decide)), fun h => e3 (h.resolve_left (by decide)), fun h => e4 (h.resolve_left (by decide)), fun h => e5 (h.resolve_left (by decide)), fun h => e6 (h.resolve_left (by decide)), fun h => e7 (h.resolve_left (by decide)), fun h => e8 (h.resolve_left (by decide)), fun h => e9 (h.resolve_left (by decide)), fun _ => rfl, fun h => e11 (h.resolve_left (by decide)), fun h => e12 (h.resolve_left (by decide)), fun h => e13 (h.resolve_left (by decide)), fun h => e14 (h.resolve_left (by decide)), fun h => e15 (h.resolve_left (by decide)), fun h => e16 (h.resolve_left (by decide)), fun h => e17 (h.resolve_left (by decide)), fun h => e18 (h.resolve_left (by decide)), fun h => hr (h.resolve_left (by decide)), fun h => e19 (h.resolve_left (by decide)), fun h => hz (h.resolve_left (by decide))⟩
          | 11, ho =>
            cases Option.some.inj ho
            have ev : a.tmps[46]?.getD undef = .int .i64 q.2.1 := by rw [ha, e10 (hd ⟨10, .data⟩ (by simp) rfl)]; kernel_rfl
            refine wp_enter (f := 11) (args := #[.int .i64 q.2.1, .int .i64 3]) (by simp [execOp, ev, go_sem]) ?_
            refine (hcount w').mono ?_
            rintro e w6 ⟨rfl, rfl⟩
            refine ⟨_, rfl, ?_⟩
            exact ⟨v36, v37, v38, v39, v40, v41, v42, v43, v44, v45, v46, (.int .i64 (r : Int)), v48, v49, v50, v51, v52, v53, v54, v55, nb, by rw [ha]; kernel_rfl, hB, hDv.imp_left .inr, fun h => e0 (h.resolve_left (by decide)), fun h => e1 (h.resolve_left (by decide)), fun h => e2 (h.resolve_left (by decide)), fun h => e3 (h.resolve_left (by decide)), fun h => e4 (h.resolve_left (by decide)), fun h => e5 (h.resolve_left (by decide)), fun h => e6 (h.resolve_left (by decide)), fun h => e7 (h.resolve_left (by decide)), fun h => e8 (h.resolve_left (by decide)), fun h => e9 (h.resolve_left (by decide)), fun h => e10 (h.resolve_left (by decide)), fun _ => rfl, fun h => e12 (h.resolve_left (by decide)), fun h => e13 (h.resolve_left (by decide)), fun h => e14 (h.resolve_left (by decide)), fun h => e15 (h.resolve_left (by decide)), fun h => e16 (h.resolve_left (by decide)), fun h => e17 (h.resolve_left (by decide)), fun h => e18 (h.resolve_left (by decide)), fun h => hr (h.resolve_left (by decide)), fun h => e19 (h.resolve_left (by decide)), fun h => hz (h.resolve_left (by decide))⟩
          | 12, ho =>
            cases Option.some.inj ho
            have ev : a.tmps[47]?.getD undef = .int .i64 (r : Int) := by rw [ha, e11 (hd ⟨11, .data⟩ (by simp) rfl)]; kernel_rfl
            refine wp_value (w' := w') (v := .int .i64 (m : Int)) (by simp [execOp, ev, go_sem, hwm]) ?_
            exact ⟨v36, v37, v38, v39, v40, v41, v42, v43, v44, v45, v46, v47, (.int .i64 (m : Int)), v49, v50, v51, v52, v53, v54, v55, nb, by rw [ha]; kernel_rfl, hB, hDv.imp_left .inr, fun h => e0 (h.resolve_left (by decide)), fun h => e1 (h.resolve_left (by decide)), fun h => e2 (h.resolve_left (by decide)), fun h => e3 (h.resolve_left (by decide)), fun h => e4 (h.resolve_left (by decide)), fun h => e5 (h.resolve_left (by decide)), fun h => e6 (h.resolve_left (by decide)), fun h => e7 (h.resolve_left (by decide)), fun h => e8 (h.resolve_left (by decide)), fun h => e9 (h.resolve_left (by decide)), fun h => e10 (h.resolve_left (by decide)), fun h => e11 (h.resolve_left (by decide)), fun _ => rfl, fun h => e13 (h.resolve_left (by decide)), fun h => e14 (h.resolve_left (by decide)), fun h => e15 (h.resolve_left (by decide)), fun h => e16 (h.resolve_left (by decide)), fun h => e17 (h.resolve_left (by decide)), fun h => e18 (h.resolve_left (by decide)), fun h => hr (h.resolve_left (by decide)), fun h => e19 (h.resolve_left (by decide)), fun h => hz (h.resolve_left (by decide))⟩
          | 13, ho =>
            cases Option.some.inj ho
            have ev : a.tmps[0]?.getD undef = .slice (some ⟨ab, ao, none⟩) al ac := by rw [ha]; kernel_rfl
            refine wp_value (w' := w') (v := .slice (some ⟨ab, ao, none⟩) al ac) (by simp [execOp, ev, go_sem]) ?_
            exact ⟨v36, v37, v38, v39, v40, v41, v42, v43, v44, v45, v46, v47, v48, (.slice (some ⟨ab, ao, none⟩) al ac), v50, v51, v52, v53, v54, v55, nb, by rw [ha]; kernel_rfl, hB, hDv.imp_left .inr, fun h => e0 (h.resolve_left (by decide)), fun h => e1 (h.resolve_left (by decide)), fun h => e2 (h.resolve_left (by decide)), fun h => e3 (h.resolve_left (by decide)), fun h => e4 (h.resolve_left (by decide)), fun h => e5 (h.resolve_left (by decide)), fun h => e6 (h.resolve_left (by decide)), fun h => e7 (h.resolve_left (by decide)), fun h => e8 (h.resolve_left (by decide)), fun h => e9 (h.resolve_left (by decide)), fun h => e10 (h.resolve_left (by decide)), fun h => e11 (h.resolve_left (by decide)), fun h => e12 (h.resolve_left (by decide)), fun _ => rfl, fun h => e14 (h.resolve_left (by decide)), fun h => e15 (h.resolve_left (by decide)), fun h => e16 (h.resolve_left (by decide)), fun h => e17 (h.resolve_left (by decide)), fun h => e18 (h.resolve_left (by decide)), fun h => hr (h.resolve_left (by decide)), fun h => e19 (h.resolve_left (by decide)), fun h => hz (h.resolve_left (by decide))⟩
          | 14, ho =>
            cases Option.some.inj ho
            have ev : a.tmps[9]?.getD undef = .int .i64 (j : Int) := by rw [ha]; kernel_rfl
            refine wp_value (w' := w') (v := .int .i64 (j : Int)) (by simp [execOp, ev, go_sem]) ?_
            exact ⟨v36, v37, v38, v39, v40, v41, v42, v43, v44, v45, v46, v47, v48, v49, (.int .i64 (j : Int)), v51, v52, v53, v54, v55, nb, by rw [ha]; kernel_rfl, hB, hDv.imp_left .inr, fun h => e0 (h.resolve_left (by decide)), fun h => e1 (h.resolve_left (by decide)), fun h => e2 (h.resolve_left (by decide)), fun h => e3 (h.resolve_left (by decide)), fun h => e4 (h.resolve_left (by decide)), fun h => e5 (h.resolve_left (by decide)), fun h => e6 (h.resolve_left (by decide)), fun h => e7 (h.resolve_left (by decide)), fun h => e8 (h.resolve_left (by decide)), fun h => e9 (h.resolve_left (by decide)), fun h => e10 (h.resolve_left (by decide)), fun h => e11 (h.resolve_left (by decide)), fun h => e12 (h.resolve_left (by decide)), fun h => e13 (h.resolve_left (by decide)), fun _ => rfl, fun h => e15 (h.resolve_left (by decide)), fun h => e16 (h.resolve_left (by decide)), fun h => e17 (h.resolve_left (by decide)), fun h => e18 (h.resolve_left (by decide)), fun h => hr (h.resolve_left (by decide)), fun h => e19 (h.resolve_left (by decide)), fun h => hz (h.resolve_left (by decide))⟩
          | 15, ho =>
            cases Option.some.inj ho
            have ev : a.tmps[49]?.getD undef = .slice (some ⟨ab, ao, none⟩) al ac := by rw [ha, e13 (hd ⟨13, .data⟩ (by simp) rfl)]; kernel_rfl
            have ev' : a.tmps[50]?.getD undef = .int .i64 (j : Int) := by rw [ha, e14 (hd ⟨14, .data⟩ (by simp) rfl)]; kernel_rfl
            refine wp_value (w' := w') (v := .pointer (some ⟨ab, ao + j * 6, none⟩)) (by simp [execOp, ev, ev', go_sem, hidx, Addr.add_lit]) ?_
            exact ⟨v36, v37, v38, v39, v40, v41, v42, v43, v44, v45, v46, v47, v48, v49, v50, (.pointer (some ⟨ab, ao + j * 6, none⟩)), v52, v53, v54, v55, nb, by rw [ha]; kernel_rfl, hB, hDv.imp_left .inr, fun h => e0 (h.resolve_left (by decide)), fun h => e1 (h.resolve_left (by decide)), fun h => e2 (h.resolve_left (by decide)), fun h => e3 (h.resolve_left (by decide)), fun h => e4 (h.resolve_left (by decide)), fun h => e5 (h.resolve_left (by decide)), fun h => e6 (h.resolve_left (by decide)), fun h => e7 (h.resolve_left (by decide)), fun h => e8 (h.resolve_left (by decide)), fun h => e9 (h.resolve_left (by decide)), fun h => e10 (h.resolve_left (by decide)), fun h => e11 (h.resolve_left (by decide)), fun h => e12 (h.resolve_left (by decide)), fun h => e13 (h.resolve_left (by decide)), fun h => e14 (h.resolve_left (by decide)), fun _ => rfl, fun h => e16 (h.resolve_left (by decide)), fun h => e17 (h.resolve_left (by decide)), fun h => e18 (h.resolve_left (by decide)), fun h => hr (h.resolve_left (by decide)), fun h => e19 (h.resolve_left (by decide)), fun h => hz (h.resolve_left (by decide))⟩
          | 16, ho =>
            cases Option.some.inj ho
            have ev : a.tmps[51]?.getD undef = .pointer (some ⟨ab, ao + j * 6, none⟩) := by rw [ha, e15 (hd ⟨15, .data⟩ (by simp) rfl)]; kernel_rfl
            refine wp_value (w' := w') (v := .pointer (some ⟨ab, ao + j * 6 + 3, none⟩)) (by simp [execOp, ev, go_sem, Addr.add_lit]) ?_
            exact ⟨v36, v37, v38, v39, v40, v41, v42, v43, v44, v45, v46, v47, v48, v49, v50, v51, (.pointer (some ⟨ab, ao + j * 6 + 3, none⟩)), v53, v54, v55, nb, by rw [ha]; kernel_rfl, hB, hDv.imp_left .inr, fun h => e0 (h.resolve_left (by decide)), fun h => e1 (h.resolve_left (by decide)), fun h => e2 (h.resolve_left (by decide)), fun h => e3 (h.resolve_left (by decide)), fun h => e4 (h.resolve_left (by decide)), fun h => e5 (h.resolve_left (by decide)), fun h => e6 (h.resolve_left (by decide)), fun h => e7 (h.resolve_left (by decide)), fun h => e8 (h.resolve_left (by decide)), fun h => e9 (h.resolve_left (by decide)), fun h => e10 (h.resolve_left (by decide)), fun h => e11 (h.resolve_left (by decide)), fun h => e12 (h.resolve_left (by decide)), fun h => e13 (h.resolve_left (by decide)), fun h => e14 (h.resolve_left (by decide)), fun h => e15 (h.resolve_left (by decide)), fun _ => rfl, fun h => e17 (h.resolve_left (by decide)), fun h => e18 (h.resolve_left (by decide)), fun h => hr (h.resolve_left (by decide)), fun h => e19 (h.resolve_left (by decide)), fun h => hz (h.resolve_left (by decide))⟩
          | 17, ho =>
            cases Option.some.inj ho
            have ev : a.tmps[52]?.getD undef = .pointer (some ⟨ab, ao + j * 6 + 3, none⟩) := by rw [ha, e16 (hd ⟨16, .data⟩ (by simp) rfl)]; kernel_rfl
            have hc := (World.cell?_of_block (hB.block ab hab)).trans hc3
            refine wp_value (w' := w') (v := .int .u8 q.2.2) (by simp [execOp, ev, go_sem, hc]) ?_
            exact ⟨v36, v37, v38, v39, v40, v41, v42, v43, v44, v45, v46, v47, v48, v49, v50, v51, v52, (.int .u8 q.2.2), v54, v55, nb, by rw [ha]; kernel_rfl, hB, hDv.imp_left .inr, fun h => e0 (h.resolve_left (by decide)), fun h => e1 (h.resolve_left (by decide)), fun h => e2 (h.resolve_left (by decide)), fun h => e3 (h.resolve_left (by decide)), fun h => e4 (h.resolve_left (by decide)), fun h => e5 (h.resolve_left (by decide)), fun h => e6 (h.resolve_left (by decide)), fun h => e7 (h.resolve_left (by decide)), fun h => e8 (h.resolve_left (by decide)), fun h => e9 (h.resolve_left (by decide)), fun h => e10 (h.resolve_left (by decide)), fun h => e11 (h.resolve_left (by decide)), fun h => e12 (h.resolve_left (by decide)), fun h => e13 (h.resolve_left (by decide)), fun h => e14 (h.resolve_left (by decide)), fun h => e15 (h.resolve_left (by decide)), fun h => e16 (h.resolve_left (by decide)), fun _ => rfl, fun h => e18 (h.resolve_left (by decide)), fun h => hr (h.resolve_left (by decide)), fun h => e19 (h.resolve_left (by decide)), fun h => hz (h.resolve_left (by decide))⟩
          | 18, ho =>
            cases Option.some.inj ho
            have ev : a.tmps[48]?.getD undef = .int .i64 (m : Int) := by rw [ha, e12 (hd ⟨12, .data⟩ (by simp) rfl)]; kernel_rfl
            have ev' : a.tmps[53]?.getD undef = .int .u8 q.2.2 := by rw [ha, e17 (hd ⟨17, .data⟩ (by simp) rfl)]; kernel_rfl
            refine wp_enter (f := 10) (args := #[.int .i64 (m : Int), .int .u8 q.2.2]) (by simp [execOp, ev, ev', go_sem]) ?_
            refine (full_row w' m q.2.2 (by omega)).mono ?_
            rintro e w6 ⟨nb2, rfl, _, hR, HB⟩
            refine ⟨_, rfl, ?_⟩
            exact ⟨v36, v37, v38, v39, v40, v41, v42, v43, v44, v45, v46, v47, v48, v49, v50, v51, v52, v53, (.slice (some ⟨nb2, 0, none⟩) (128 * m) (128 * m)), v55, nb2, by rw [ha]; kernel_rfl, below_size hB (Nat.le_refl _) HB, hDv.imp .inr (fun h => h.same (fun i hi => HB.block i hi)), fun h => e0 (h.resolve_left (by decide)), fun h => e1 (h.resolve_left (by decide)), fun h => e2 (h.resolve_left (by decide)), fun h => e3 (h.resolve_left (by decide)), fun h => e4 (h.resolve_left (by decide)), fun h => e5 (h.resolve_left (by decide)), fun h => e6 (h.resolve_left (by decide)), fun h => e7 (h.resolve_left (by decide)), fun h => e8 (h.resolve_left (by decide)), fun h => e9 (h.resolve_left (by decide)), fun h => e10 (h.resolve_left (by decide)), fun h => e11 (h.resolve_left (by decide)), fun h => e12 (h.resolve_left (by decide)), fun h => e13 (h.resolve_left (by decide)), fun h => e14 (h.resolve_left (by decide)), fun h => e15 (h.resolve_left (by decide)), fun h => e16 (h.resolve_left (by decide)), fun h => e17 (h.resolve_left (by decide)), fun _ => rfl, fun _ => hR, fun h => e19 (h.resolve_left (by decide)), fun h => absurd (h.resolve_left (by decide)) (fun h => hn (hcl 19 _ rfl h ⟨18, .data⟩ (by simp) rfl))⟩
          | 19, ho =>
            cases Option.some.inj ho
            have ev : a.tmps[36]?.getD undef = .pointer (some ⟨p, 0, none⟩) := by rw [ha, e0 (hd ⟨0, .data⟩ (by simp) rfl)]; kernel_rfl
            have ev' : a.tmps[41]?.getD undef = .int .i64 q.1 := by rw [ha, e5 (hd ⟨5, .data⟩ (by simp) rfl)]; kernel_rfl
            have ev'' : a.tmps[54]?.getD undef = .slice (some ⟨nb, 0, none⟩) (128 * m) (128 * m) := by rw [ha, e18 (hd ⟨18, .data⟩ (by simp) rfl)]; kernel_rfl
            refine wp_enter (f := 9) (args := #[.pointer (some ⟨p, 0, none⟩), .int .i64 q.1, .slice (some ⟨nb, 0, none⟩) (128 * m) (128 * m)]) (by simp [execOp, ev, ev', ev'', go_sem]) ?_
            refine (act_write (hDv.resolve_left hn) q.1 q.2.2 hq1 m (by omega) (by omega) hq2 hq3 (hr (hd ⟨18, .data⟩ (by simp) rfl)) (by omega)).mono ?_
            rintro e w6 ⟨rfl, pv2, D2, F2⟩
            refine ⟨_, rfl, ?_⟩
            exact ⟨v36, v37, v38, v39, v40, v41, v42, v43, v44, v45, v46, v47, v48, v49, v50, v51, v52, v53, v54, (.int .i64 (if 0 ≤ q.1 ∧ q.1 + m ≤ 8 then 0 else 13)), nb, by rw [ha]; kernel_rfl, hB.trans (F2.below (hDv.resolve_left hn)), .inl (.inl rfl), fun h => e0 (h.resolve_left (by decide)), fun h => e1 (h.resolve_left (by decide)), fun h => e2 (h.resolve_left (by decide)), fun h => e3 (h.resolve_left (by decide)), fun h => e4 (h.resolve_left (by decide)), fun h => e5 (h.resolve_left (by decide)), fun h => e6 (h.resolve_left (by decide)), fun h => e7 (h.resolve_left (by decide)), fun h => e8 (h.resolve_left (by decide)), fun h => e9 (h.resolve_left (by decide)), fun h => e10 (h.resolve_left (by decide)), fun h => e11 (h.resolve_left (by decide)), fun h => e12 (h.resolve_left (by decide)), fun h => e13 (h.resolve_left (by decide)), fun h => e14 (h.resolve_left (by decide)), fun h => e15 (h.resolve_left (by decide)), fun h => e16 (h.resolve_left (by decide)), fun h => e17 (h.resolve_left (by decide)), fun h => e18 (h.resolve_left (by decide)), fun h => (hr (h.resolve_left (by decide))).fr (hDv.resolve_left hn) F2, fun _ => rfl, fun _ => ⟨pv2, D2⟩⟩
          | i + 20, ho => simp at ho
        case done =>
          rintro D a w' ⟨v36, v37, v38, v39, v40, v41, v42, v43, v44, v45, v46, v47, v48, v49, v50, v51, v52, v53, v54, v55, nb, ha, hB, hDv, e0, e1, e2, e3, e4, e5, e6, e7, e8, e9, e10, e11, e12, e13, e14, e15, e16, e17, e18, hr, e19, hz⟩ hall
          obtain ⟨pv2, D2⟩ := hz (hall 19 (by decide))
          obtain rfl := e0 (hall 0 (by decide))
          obtain rfl := e1 (hall 1 (by decide))
          obtain rfl := e2 (hall 2 (by decide))
          obtain rfl := e3 (hall 3 (by decide))
          obtain rfl := e4 (hall 4 (by decide))
          obtain rfl := e5 (hall 5 (by decide))
          obtain rfl := e6 (hall 6 (by decide))
          obtain rfl := e7 (hall 7 (by decide))
          obtain rfl := e8 (hall 8 (by decide))
          obtain rfl := e9 (hall 9 (by decide))
          obtain rfl := e10 (hall 10 (by decide))
          obtain rfl := e11 (hall 11 (by decide))
          obtain rfl := e12 (hall 12 (by decide))
          obtain rfl := e13 (hall 13 (by decide))
          obtain rfl := e14 (hall 14 (by decide))
          obtain rfl := e15 (hall 15 (by decide))
          obtain rfl := e16 (hall 16 (by decide))
          obtain rfl := e17 (hall 17 (by decide))
          obtain rfl := e18 (hall 18 (by decide))
          obtain rfl := e19 (hall 19 (by decide))
          clear hr hz hDv hall e0 e1 e2 e3 e4 e5 e6 e7 e8 e9 e10 e11 e12 e13 e14 e15 e16 e17 e18 e19
          rw [ha]
          clear ha
          simp only [Act.put, List.setIfInBounds_toArray, List.set_cons_zero, List.set_cons_succ]
          rw [← hG1.out, appl_append] at D2
          have hw1 : IntKind.i64.wrap ((j : Int) + 1) = (j : Int) + 1 := by rw [IntKind.wrap_i64]; omega
          have hlen2 := actW_len q.1 q.2.2 m
          go_wp2
          go_roundw
          case rel => exact ⟨j + 1, _, pv2, by omega, by omega, rfl, by rw [List.length_append]; omega, D2, hB⟩
          case measure => simp [intOf]; omega
      · have hgd : decide (j < al ∧ j < 40) = false := decide_eq_false hgo
        rw [hgd]
        clear hgo hgd
        have hL120 : L.length ≤ 120 := by omega
        generalize wc = wt at *
        have hlen := cat8_len hDv0
        obtain ⟨S, hS⟩ : ∃ S, Hid (strOfNums (catS (appl Z L) 0 8) = S) := ⟨_, rfl⟩
        go_wp2_with fail
        refine (Copy_some hDv0 (by omega)).mono ?_
        rintro e w5 ⟨c, cs, cn, cv, rfl, C5, hB5⟩
        have D5 := hDv0.below hB5
        have hBA := below_size hB0 (Nat.le_refl _) hB5
        have hww := hB0.size
        have hpl := hDv0.lt
        have hsl := hDv0.safe.lt
        have hnl := hDv0.now.lt
        have hvl := fun g (hg : pv.ownBlock = some g) => hDv0.pvlt hg
        clear hDv0 hB0 hB5
        generalize wt.heap.size = NC at *
        go_wp2_with fail
        refine (read_8 D5).mono ?_
        rintro e w6 ⟨b6, rfl, _, hR6, hb6⟩
        have D6 := D5.below hb6
        have C6 := C5.below hb6
        have hBB := below_size hBA (Nat.le_refl _) hb6
        have hNC : NC ≤ w6.heap.size := C6.base
        clear D5 C5 hBA hb6 hL hj1 hj2
        obtain ⟨BS, HBS⟩ : ∃ BS, Hid (catS (appl Z L) 0 8 = BS) := ⟨_, rfl⟩
        rw [HBS.out] at hR6 hS hlen
        go_wp2
        go_loopw [13] (fun i wr => ∃ (j : Nat) (L : List (Int × List Int)) (cv : Value), j ≤ bl ∧ j ≤ 40 ∧ i = .int .i64 (j : Int) ∧ L.length ≤ 120 + 3 * j ∧ Dev wr NC c cs cn cv 8 Z (appl Z L) L 0 false ∧ Below NC w6 wr ∧ Row8 wr b6 BS) (fun i _ => bl - (intOf i).toNat)
        case atStart => exact ⟨0, L, cv, by omega, by omega, rfl, by omega, C6, Below.refl _ _, hR6⟩
        case round =>
          clear C6 hR6
          obtain ⟨j, M, cv, hj1, hj2, rfl, hL, hDv0, hB0, hRb0⟩ := hrel
          go_upto_region 13 with fail
          go_cut [76] from 69 to 98 (fun v wx => v = .bool (decide (j < bl ∧ j < 40)) ∧ wx = wr)
          case first =>
            by_cases h1 : j < bl
            · have hlt1 : (j : Int) < (bl : Int) := by omega
              by_cases h2 : j < 40
              · have hlt2 : (j : Int) < 40 := by omega
                go_wp2
                go_meet
                case rel => exact ⟨by simp [h1, h2], rfl⟩
              · have hlt2 : ¬ (j : Int) < 40 := by omega
                go_wp2
                go_meet
                case rel => exact ⟨by simp [h1, h2], rfl⟩
            · have hlt1 : ¬ (j : Int) < (bl : Int) := by omega
              go_wp2
              go_meet
              case rel => exact ⟨by simp [h1], rfl⟩
          case rest =>
            obtain ⟨rfl, rfl⟩ := hcut
            by_cases hgo : j < bl ∧ j < 40
            · have hgd : decide (j < bl ∧ j < 40) = true := decide_eq_true hgo
              rw [hgd]
              obtain ⟨hlt1, hlt2⟩ : (j : Int) < (bl : Int) ∧ (j : Int) < 40 := by omega
              have hidx : j < bl := hgo.1
              obtain ⟨q, hq⟩ : ∃ q, l2[j]? = some q := ⟨l2[j]'(by rw [hbl.out]; exact hidx), List.getElem?_eq_getElem _⟩
              obtain ⟨hq1, hq2, hq3⟩ := hA2.ok q (List.mem_of_getElem? hq)
              obtain ⟨ab, ao, rfl, hab0, hk1, hk2, hk3⟩ := hA2.lies j q hq
              have hc1 := (World.cell?_of_block (hBB.block ab hab0)).trans hk1
              have hc2 := (World.cell?_of_block (hBB.block ab hab0)).trans hk2
              have hc3 := (World.cell?_of_block (hBB.block ab hab0)).trans hk3
              have hab : ab < NC := by omega
              clear hk1 hk2 hk3
              have hr3 := cnt_lt q.2.1
              have hcount := fun w' => count3 q.2.1 w'
              obtain ⟨r, hr⟩ : ∃ r, cnt q.2.1 = r := ⟨_, rfl⟩
              rw [hr] at hr3
              simp only [hr] at hcount
              clear hr
              obtain ⟨m, hm⟩ : ∃ m : Nat, Hid (m = r + 1) := ⟨_, rfl⟩
              have hwm : IntKind.i64.wrap (1 + (r : Int)) = (m : Int) := by have := hm.out; rw [IntKind.wrap_i64]; omega
              have hm0 : 1 ≤ m := by have := hm.out; omega
              have hm3 : m ≤ 3 := by have := hm.out; omega
              obtain ⟨G1, hG1⟩ : ∃ G1, Hid (appl Z M = G1) := ⟨_, rfl⟩
              rw [hG1.out] at hDv0
              clear hgo
              go_wp2
              refine wp_region_inv' (fun A D a w' => ∃ v79 v80 v81 v82 v83 v84 v85 v86 v87 v88 v89 v90 v91 v92 v93 v94 v95 v96 v97 v98 nb, a = ((((((((((((((((((((A.put (some 79) v79).put (some 80) v80).put (some 81) v81).put (some 82) v82).put (some 83) v83).put (some 84) v84).put (some 85) v85).put (some 86) v86).put (some 87) v87).put (some 88) v88).put (some 89) v89).put (some 90) v90).put (some 91) v91).put (some 92) v92).put (some 93) v93).put (some 94) v94).put (some 95) v95).put (some 96) v96).put (some 97) v97).put (some 98) v98) ∧ Below NC w6 w' ∧ Row8 w' b6 BS ∧ (D 19 ∨ Dev w' NC c cs cn cv 8 Z G1 M 0 false) ∧ (D 0 → v79 = .pointer (some ⟨c, 0, none⟩)) ∧ (D 1 → v80 = .slice (some ⟨ab, ao, none⟩) bl bc) ∧ (D 2 → v81 = .int .i64 (j : Int)) ∧ (D 3 → v82 = .pointer (some ⟨ab, ao + j * 6, none⟩)) ∧ (D 4 → v83 = .pointer (some ⟨ab, ao + j * 6 + 1, none⟩)) ∧ (D 5 → v84 = .int .i64 q.1) ∧ (D 6 → v85 = .slice (some ⟨ab, ao, none⟩) bl bc) ∧ (D 7 → v86 = .int .i64 (j : Int)) ∧ (D 8 → v87 = .pointer (some ⟨ab, ao + j * 6, none⟩)) ∧ (D 9 → v88 = .pointer (some ⟨ab, ao + j * 6 + 2, none⟩)) ∧ (D 10 → v89 = .int .i64 q.2.1) ∧ (D 11 → v90 = .int .i64 (r : Int)) ∧ (D 12 → v91 = .int .i64 (m : Int)) ∧ (D 13 → v92 = .slice (some ⟨ab, ao, none⟩) bl bc) ∧ (D 14 → v93 = .int .i64 (j : Int)) ∧ (D 15 → v94 = .pointer (some ⟨ab, ao + j * 6, none⟩)) ∧ (D 16 → v95 = .pointer (some ⟨ab, ao + j * 6 + 3, none⟩)) ∧ (D 17 → v96 = .int .u8 q.2.2) ∧ (D 18 → v97 = .slice (some ⟨nb, 0, none⟩) (128 * m) (128 * m)) ∧ (D 18 → Row8 w' nb (sv (128 * m) q.2.2)) ∧ (D 19 → v98 = .int .i64 (if 0 ≤ q.1 ∧ q.1 + m ≤ 8 then 0 else 13)) ∧ (D 19 → ∃ pv2, Dev w' NC c cs cn pv2 8 Z (appl G1 (actW q.1 q.2.2 m)) (M ++ actW q.1 q.2.2 m) 0 false)) (by kernel_rfl) (by kernel_rfl) ?mono ?start ?step ?done
              case mono =>
                rintro D D' a w' hD ⟨v79, v80, v81, v82, v83, v84, v85, v86, v87, v88, v89, v90, v91, v92, v93, v94, v95, v96, v97, v98, nb, ha, hB, hRb, hDv, e0, e1, e2, e3, e4, e5, e6, e7, e8, e9, e10, e11, e12, e13, e14, e15, e16, e17, e18, hr, e19, hz⟩
                exact ⟨v79, v80, v81, v82, v83, v84, v85, v86, v87, v88, v89, v90, v91, v92, v93, v94, v95, v96, v97, v98, nb, ha, hB, hRb, hDv.imp_left (hD 19).1, fun h => e0 ((hD 0).2 h), fun h => e1 ((hD 1).2 h), fun h => e2 ((hD 2).2 h), fun h => e3 ((hD 3).2 h), fun h => e4 ((hD 4).2 h), fun h => e5 ((hD 5).2 h), fun h => e6 ((hD 6).2 h), fun h => e7 ((hD 7).2 h), fun h => e8 ((hD 8).2 h), fun h => e9 ((hD 9).2 h), fun h => e10 ((hD 10).2 h), fun h => e11 ((hD 11).2 h), fun h => e12 ((hD 12).2 h), fun h => e13 ((hD 13).2 h), fun h => e14 ((hD 14).2 h), fun h => e15 ((hD 15).2 h), fun h => e16 ((hD 16).2 h), fun h => e17 ((hD 17).2 h), fun h => e18 ((hD 18).2 h), fun h => hr ((hD 18).2 h), fun h => e19 ((hD 19).2 h), fun h => hz ((hD 19).2 h)⟩
              case start => exact ⟨u79, u80, u81, u82, u83, u84, u85, u86, u87, u88, u89, u90, u91, u92, u93, u94, u95, u96, u97, u98, 0, by kernel_rfl, hB0.drew, hRb0, .inr (hDv0.same (fun _ _ => rfl)), fun h => h.elim, fun h => h.elim, fun h => h.elim, fun h => h.elim, fun h => h.elim, fun h => h.elim, fun h => h.elim, fun h => h.elim, fun h => h.elim, fun h => h.elim, fun h => h.elim, fun h => h.elim, fun h => h.elim, fun h => h.elim, fun h => h.elim, fun h => h.elim, fun h => h.elim, fun h => h.elim, fun h => h.elim, fun h => h.elim, fun h => h.elim, fun h => h.elim⟩
              case step =>
                intro i o ho D a w' hI hn hcl hd
                obtain ⟨v79, v80, v81, v82, v83, v84, v85, v86, v87, v88, v89, v90, v91, v92, v93, v94, v95, v96, v97, v98, nb, ha, hB, hRb, hDv, e0, e1, e2, e3, e4, e5, e6, e7, e8, e9, e10, e11, e12, e13, e14, e15, e16, e17, e18, hr, e19, hz⟩ := hI
                match i, ho with
                | 0, ho =>
                  cases Option.some.inj ho
                  have ev : a.tmps[10]?.getD undef = .pointer (some ⟨c, 0, none⟩) := by rw [ha]; kernel_rfl
                  refine wp_value (w' := w') (v := .pointer (some ⟨c, 0, none⟩)) (by simp [execOp, ev, go_sem]) ?_
                  exact ⟨(.pointer (some ⟨c, 0, none⟩)), v80, v81, v82, v83, v84, v85, v86, v87, v88, v89, v90, v91, v92, v93, v94, v95, v96, v97, v98, nb, by rw [ha]; kernel_rfl, hB, hRb, hDv.imp_left .inr, fun _ => rfl, fun h => e1 (h.resolve_left (by decide)), fun h => e2 (h.resolve_left (by decide)), fun h => e3 (h.resolve_left (by decide)), fun h => e4 (h.resolve_left (by decide)), fun h => e5 (h.resolve_left (by decide)), fun h => e6 (h.resolve_left (by decide)), fun h => e7 (h.resolve_left (by decide)), fun h => e8 (h.resolve_left (by decide)), fun h => e9 (h.resolve_left (by decide)), fun h => e10 (h.resolve_left (by decide)), fun h => e11 (h.resolve_left (by decide)), fun h => e12 (h.resolve_left (by decide)), fun h => e13 (h.resolve_left (by decide)), fun h => e14 (h.resolve_left (by decide)), fun h => e15 (h.resolve_left (by decide)), fun h => e16 (h.resolve_left (by decide)), fun h => e17 (h.resolve_left (by decide)), fun h => e18 (h.resolve_left (by decide)), fun h => hr (h.resolve_left (by decide)), fun h => e19 (h.resolve_left (by decide)), fun h => hz (h.resolve_left (by decide))⟩
                | 1, ho =>
                  cases Option.some.inj ho
                  have ev : a.tmps[1]?.getD undef = .slice (some ⟨ab, ao, none⟩) bl bc := by rw [ha]; kernel_rfl
                  refine wp_value (w' := w') (v := .slice (some ⟨ab, ao, none⟩) bl bc) (by simp [execOp, ev, go_sem]) ?_
                  exact ⟨v79, (.slice (some ⟨ab, ao, none⟩) bl bc), v81, v82, v83, v84, v85, v86, v87, v88, v89, v90, v91, v92, v93, v94, v95, v96, v97, v98, nb, by rw [ha]; kernel_rfl, hB, hRb, hDv.imp_left .inr, fun h => e0 (h.resolve_left (by decide)), fun _ => rfl, fun h => e2 (h.resolve_left (by decide)), fun h => e3 (h.resolve_left (by decide)), fun h => e4 (h.resolve_left (by decide)), fun h => e5 (h.resolve_left (by decide)), fun h => e6 (h.resolve_left (by decide)), fun h => e7 (h.resolve_left (by decide)), fun h => e8 (h.resolve_left (by decide)), fun h => e9 (h.resolve_left (by decide)), fun h => e10 (h.resolve_left (by decide)), fun h => e11 (h.resolve_left (by decide)), fun h => e12 (h.resolve_left (by decide)), fun h => e13 (h.resolve_left (by decide)), fun h => e14 (h.resolve_left (by decide)), fun h => e15 (h.resolve_left (by decide)), fun h => e16 (h.resolve_left (by decide)), fun h => e17 (h.resolve_left (by decide)), fun h => e18 (h.resolve_left (by decide)), fun h => hr (h.resolve_left (by decide)), fun h => e19 (h.resolve_left (by decide)), fun h => hz (h.resolve_left (by decide))⟩
                | 2, ho =>
                  cases Option.some.inj ho
                  have ev : a.tmps[13]?.getD undef = .int .i64 (j : Int) := by rw [ha]; kernel_rfl
                  refine wp_value (w' := w') (v := .int .i64 (j : Int)) (by simp [execOp, ev, go_sem]) ?_
                  exact ⟨v79, v80, (.int .i64 (j : Int)), v82, v83, v84, v85, v86, v87, v88, v89, v90, v91, v92, v93, v94, v95, v96, v97, v98, nb, by rw [ha]; kernel_rfl, hB, hRb, hDv.imp_left .inr, fun h => e0 (h.resolve_left (by decide)), fun h => e1 (h.resolve_left (by decide)), fun _ => rfl, fun h => e3 (h.resolve_left (by decide)), fun h => e4 (h.resolve_left (by decide)), fun h => e5 (h.resolve_left (by decide)), fun h => e6 (h.resolve_left (by decide)), fun h => e7 (h.resolve_left (by decide)), fun h => e8 (h.resolve_left (by decide)), fun h => e9 (h.resolve_left (by decide)), fun h => e10 (h.resolve_left (by decide)), fun h => e11 (h.resolve_left (by decide)), fun h => e12 (h.resolve_left (by decide)), fun h => e13 (h.resolve_left (by decide)), fun h => e14 (h.resolve_left (by decide)), fun h => e15 (h.resolve_left (by decide)), fun h => e16 (h.resolve_left (by decide)), fun h => e17 (h.resolve_left (by decide)), fun h => e18 (h.resolve_left (by decide)), fun h => hr (h.resolve_left (by decide)), fun h => e19 (h.resolve_left (by decide)), fun h => hz (h.resolve_left (by decide))⟩
                | 3, ho =>
                  cases Option.some.inj ho
                  have ev : a.tmps[80]?.getD undef = .slice (some ⟨ab, ao, none⟩) bl bc := by rw [ha, e1 (hd ⟨1, .data⟩ (by simp) rfl)]; kernel_rfl
                  have ev' : a.tmps[81]?.getD undef = .int .i64 (j : Int) := by rw [ha, e2 (hd ⟨2, .data⟩ (by simp) rfl)]; kernel_rfl
                  refine wp_value (w' := w') (v := .pointer (some ⟨ab, ao + j * 6, none⟩)) (by simp [execOp, ev, ev', go_sem, hidx, Addr.add_lit]) ?_
                  exact ⟨v79, v80, v81, (.pointer (some ⟨ab, ao + j * 6, none⟩)), v83, v84, v85, v86, v87, v88, v89, v90, v91, v92, v93, v94, v95, v96, v97, v98, nb, by rw [ha]; kernel_rfl, hB, hRb, hDv.imp_left .inr, fun h => e0 (h.resolve_left (by decide)), fun h => e1 (h.resolve_left (by decide)), fun h => e2 (h.resolve_left (by decide)), fun _ => rfl, fun h => e4 (h.resolve_left (by decide)), fun h => e5 (h.resolve_left (by decide)), fun h => e6 (h.resolve_left (by decide)), fun h => e7 (h.resolve_left (by decide)), fun h => e8 (h.resolve_left (by decide)), fun h => e9 (h.resolve_left (by decide)), fun h => e10 (h.resolve_left (by decide)), fun h => e11 (h.resolve_left (by decide)), fun h => e12 (h.resolve_left (by decide)), fun h => e13 (h.resolve_left (by decide)), fun h => e14 (h.resolve_left (by decide)), fun h => e15 (h.resolve_left (by decide)), fun h => e16 (h.resolve_left (by decide)), fun h => e17 (h.resolve_left (by decide)), fun h => e18 (h.resolve_left (by decide)), fun h => hr (h.resolve_left (by decide)), fun h => e19 (h.resolve_left (by decide)), fun h => hz (h.resolve_left (by decide))⟩
                | 4, ho =>
                  cases Option.some.inj ho
                  have ev : a.tmps[82]?.getD undef = .pointer (some ⟨ab, ao + j * 6, none⟩) := by rw [ha, e3 (hd ⟨3, .data⟩ (by simp) rfl)]; kernel_rfl
                  refine wp_value (w' := w') (v := .pointer (some ⟨ab, ao + j * 6 + 1, none⟩)) (by simp [execOp, ev, go_sem, Addr.add_lit]) ?_
                  exact ⟨v79, v80, v81, v82, (.pointer (some ⟨ab, ao + j * 6 + 1, none⟩)), v84, v85, v86, v87, v88, v89, v90, v91, v92, v93, v94, v95, v96, v97, v98, nb, by rw [ha]; kernel_rfl, hB, hRb, hDv.imp_left .inr, fun h => e0 (h.resolve_left (by decide)), fun h => e1 (h.resolve_left (by decide)), fun h => e2 (h.resolve_left (by decide)), fun h => e3 (h.resolve_left (by decide)), fun _ => rfl, fun h => e5 (h.resolve_left (by decide)), fun h => e6 (h.resolve_left (by decide)), fun h => e7 (h.resolve_left (by decide)), fun h => e8 (h.resolve_left (by decide)), fun h => e9 (h.resolve_left (by decide)), fun h => e10 (h.resolve_left (by decide)), fun h => e11 (h.resolve_left (by decide)), fun h => e12 (h.resolve_left (by decide)), fun h => e13 (h.resolve_left (by decide)), fun h => e14 (h.resolve_left (by decide)), fun h => e15 (h.resolve_left (by decide)), fun h => e16 (h.resolve_left (by decide)), fun h => e17 (h.resolve_left (by decide)), fun h => e18 (h.resolve_left (by decide)), fun h => hr (h.resolve_left (by decide)), fun h => e19 (h.resolve_left (by decide)), fun h => hz (h.resolve_left (by decide))⟩
                | 5, ho =>
                  cases Option.some.inj ho
                  have ev : a.tmps[83]?.getD undef = .pointer (some ⟨ab, ao + j * 6 + 1, none⟩) := by rw [ha, e4 (hd ⟨4, .data⟩ (by simp) rfl)]; kernel_rfl
                  have hc := (World.cell?_of_block (hB.block ab hab)).trans hc1
                  refine wp_value (w' := w') (v := .int .i64 q.1) (by simp [execOp, ev, go_sem, hc]) ?_
                  exact ⟨v79, v80, v81, v82, v83, (.int .i64 q.1), v85, v86, v87, v88, v89, v90, v91, v92, v93, v94, v95, v96, v97, v98, nb, by rw [ha]; kernel_rfl, hB, hRb, hDv.imp_left .inr, fun h => e0 (h.resolve_left (by decide)), fun h => e1 (h.resolve_left (by decide)), fun h => e2 (h.resolve_left (by decide)), fun h => e3 (h.resolve_left (by decide)), fun h => e4 (h.resolve_left (by decide)), fun _ => rfl, fun h => e6 (h.resolve_left (by decide)), fun h => e7 (h.resolve_left (by decide)), fun h => e8 (h.resolve_left (by decide)), fun h => e9 (h.resolve_left (by decide)), fun h => e10 (h.resolve_left (by decide)), fun h => e11 (h.resolve_left (by decide)), fun h => e12 (h.resolve_left (by decide)), fun h => e13 (h.resolve_left (by decide)), fun h => e14 (h.resolve_left (by decide)), fun h => e15 (h.resolve_left (by decide)), fun h => e16 (h.resolve_left (by decide)), fun h => e17 (h.resolve_left (by decide)), fun h => e18 (h.resolve_left (by decide)), fun h => hr (h.resolve_left (by decide)), fun h => e19 (h.resolve_left (by decide)), fun h => hz (h.resolve_left (by decide))⟩
                | 6, ho =>
                  cases Option.some.inj ho
                  have ev : a.tmps[1]?.getD undef = .slice (some ⟨ab, ao, none⟩) bl bc := by rw [ha]; kernel_rfl
                  refine wp_value (w' := w') (v := .slice (some ⟨ab, ao, none⟩) bl bc) (by simp [execOp, ev, go_sem]) ?_
                  exact ⟨v79, v80, v81, v82, v83, v84, (.slice (some ⟨ab, ao, none⟩) bl bc), v86, v87, v88, v89, v90, v91, v92, v93, v94, v95, v96, v97, v98, nb, by rw [ha]; kernel_rfl, hB, hRb, hDv.imp_left .inr, fun h => e0 (h.resolve_left (by decide)), fun h => e1 (h.resolve_left (by decide)), fun h => e2 (h.resolve_left (by decide)), fun h => e3 (h.resolve_left (by decide)), fun h => e4 (h.resolve_left (by decide)), fun h => e5 (h.resolve_left (by decide)), fun _ => rfl, fun h => e7 (h.resolve_left (by decide)), fun h => e8 (h.resolve_left (by decide)), fun h => e9 (h.resolve_left (by decide)), fun h => e10 (h.resolve_left (by decide)), fun h => e11 (h.resolve_left (by decide)), fun h => e12 (h.resolve_left (by decide)), fun h => e13 (h.resolve_left (by decide)), fun h => e14 (h.resolve_left (by decide)), fun h => e15 (h.resolve_left (by decide)), fun h => e16 (h.resolve_left (by decide)), fun h => e17 (h.resolve_left (by decide)), fun h => e18 (h.resolve_left (by decide)), fun h => hr (h.resolve_left (by decide)), fun h => e19 (h.resolve_left (by decide)), fun h => hz (h.resolve_left (by decide))⟩
                | 7, ho =>
                  cases Option.some.inj ho
                  have ev : a.tmps[13]?.getD undef = .int .i64 (j : Int) := by rw [ha]; kernel_rfl
                  refine wp_value (w' := w') (v := .int .i64 (j : Int)) (by simp [execOp, ev, go_sem]) ?_
                  exact ⟨v79, v80, v81, v82, v83, v84, v85, (.int .i64 (j : Int)), v87, v88, v89, v90, v91, v92, v93, v94, v95, v96, v97, v98, nb, by rw [ha]; kernel_rfl, hB, hRb, hDv.imp_left .inr, fun h => e0 (h.resolve_left (by decide)), fun h => e1 (h.resolve_left (by decide)), fun h => e2 (h.resolve_left (by decide)), fun h => e3 (h.resolve_left (by decide)), fun h => e4 (h.resolve_left (by decide)), fun h => e5 (h.resolve_left (by decide)), fun h => e6 (h.resolve_left (by decide)), fun _ => rfl, fun h => e8 (h.resolve_left (by decide)), fun h => e9 (h.resolve_left (by decide)), fun h => e10 (h.resolve_left (by decide)), fun h => e11 (h.resolve_left (by decide)), fun h => e12 (h.resolve_left (by decide)), fun h => e13 (h.resolve_left (by decide)), fun h => e14 (h.resolve_left (by decide)), fun h => e15 (h.resolve_left (by decide)), fun h => e16 (h.resolve_left (by decide)), fun h => e17 (h.resolve_left (by decide)), fun h => e18 (h.resolve_left (by decide)), fun h => hr (h.resolve_left (by decide)), fun h => e19 (h.resolve_left (by decide)), fun h => hz (h.resolve_left (by decide))⟩
                | 8, ho =>
                  cases Option.some.inj ho
                  have ev : a.tmps[85]?.getD undef = .slice (some ⟨ab, ao, none⟩) bl bc := by rw [ha, e6 (hd ⟨6, .data⟩ (by simp) rfl)]; kernel_rfl
                  have ev' : a.tmps[86]?.getD undef = .int .i64 (j : Int) := by rw [ha, e7 (hd ⟨7, .data⟩ (by simp) rfl)]; kernel_rfl
                  refine wp_value (w' := w') (v := .pointer (some ⟨ab, ao + j * 6, none⟩)) (by simp [execOp, ev, ev', go_sem, hidx, Addr.add_lit]) ?_
                  exact ⟨v79, v80, v81, v82, v83, v84, v85, v86, (.pointer (some ⟨ab, ao + j * 6, none⟩)), v88, v89, v90, v91, v92, v93, v94, v95, v96, v97, v98, nb, by rw [ha]; kernel_rfl, hB, hRb, hDv.imp_left .inr, fun h => e0 (h.resolve_left (by decide)), fun h => e1 (h.resolve_left (by decide)), fun h => e2 (h.resolve_left (by decide)), fun h => e3 (h.resolve_left (by decide)), fun h => e4 (h.resolve_left (by decide)), fun h => e5 (h.resolve_left (by decide)), fun h => e6 (h.resolve_left (by decide)), fun h => e7 (h.resolve_left (by decide)), fun _ => rfl, fun h => e9 (h.resolve_left (by decide)), fun h => e10 (h.resolve_left (by decide)), fun h => e11 (h.resolve_left (by decide)), fun h => e12 (h.resolve_left (by decide)), fun h => e13 (h.resolve_left (by decide)), fun h => e14 (h.resolve_left (by decide)), fun h => e15 (h.resolve_left (by decide)), fun h => e16 (h.resolve_left (by decide)), fun h => e17 (h.resolve_left (by decide)), fun h => e18 (h.resolve_left (by decide)), fun h => hr (h.resolve_left (by decide)), fun h => e19 (h.resolve_left (by decide)), fun h => hz (h.resolve_left (by decide))⟩
                | 9, ho =>
                  cases Option.some.inj ho
                  have ev : a.tmps[87]?.getD undef = .pointer (some ⟨ab, ao + j * 6, none⟩) := by rw [ha, e8 (hd ⟨8, .data⟩ (by simp) rfl)]; kernel_rfl
                  refine wp_value (w' := w') (v := .pointer (some ⟨ab, ao + j * 6 + 2, none⟩)) (by simp [execOp, ev, go_sem, Addr.add_lit]) ?_
                  exact ⟨v79, v80, v81, v82, v83, v84, v85, v86, v87, (.pointer (some ⟨ab, ao + j * 6 + 2, none⟩)), v89, v90, v91, v92, v93, v94, v95, v96, v97, v98, nb, by rw [ha]; kernel_rfl, hB, hRb, hDv.imp_left .inr, fun h => e0 (h.resolve_left (by decide)), fun h => e1 (h.resolve_left (by decide)), fun h => e2 (h.resolve_left (by decide)), fun h => e3 (h.resolve_left (by decide)), fun h => e4 (h.resolve_left (by decide)), fun h => e5 (h.resolve_left (by decide)), fun h => e6 (h.resolve_left (by decide)), fun h => e7 (h.resolve_left (by decide)), fun h => e8 (h.resolve_left (by decide)), fun _ => rfl, fun h => e10 (h.resolve_left (by decide)), fun h => e11 (h.resolve_left (by decide)), fun h => e12 (h.resolve_left (by decide)), fun h => e13 (h.resolve_left (by decide)), fun h => e14 (h.resolve_left (by decide)), fun h => e15 (h.resolve_left (by decide)), fun h => e16 (h.resolve_left (by decide)), fun h => e17 (h.resolve_left (by decide)), fun h => e18 (h.resolve_left (by decide)), fun h => hr (h.resolve_left (by decide)), fun h => e19 (h.resolve_left (by decide)), fun h => hz (h.resolve_left (by decide))⟩
                | 10, ho =>
                  cases Option.some.inj ho
                  have ev : a.tmps[88]?.getD undef = .pointer (some ⟨ab, ao + j * 6 + 2, none⟩) := by rw [ha, e9 (hd ⟨9, .data⟩ (by simp) rfl)]; kernel_rfl
                  have hc := (World.cell?_of_block (hB.block ab hab)).trans hc2
                  refine wp_value (w' := w') (v := .int .i64 q.2.1) (by simp [execOp, ev, go_sem, hc]) ?_
                  exact ⟨v79, v80, v81, v82, v83, v84, v85, v86, v87, v88, (.int .i64 q.2.1), v90, v91, v92, v93, v94, v95, v96, v97, v98, nb, by rw [ha]; kernel_rfl, hB, hRb, hDv.imp_left .inr, fun h => e0 (h.resolve_left (by decide)), fun h => e1 (h.resolve_left (by decide)), fun h => e2 (h.resolve_left (by decide)), fun h => e3 (h.resolve_left (by decide)), fun h => e4 (h.resolve_left (by decide)), fun h => e5 (h.resolve_left (by decide)), fun h => e6 (h.resolve_left (by decide)), fun h => e7 (h.resolve_left (by decide)), fun h => e8 (h.resolve_left (by decide)), fun h => e9 (h.resolve_left (by decide)), fun _ => rfl, fun h => e11 (h.resolve_left (by decide)), fun h => e12 (h.resolve_left (by decide)), fun h => e13 (h.resolve_left (by decide)), fun h => e14 (h.resolve_left (by decide)), fun h => e15 (h.resolve_left (by decide)), fun h => e16 (h.resolve_left (by decide)), fun h => e17 (h.resolve_left (by decide)), fun h => e18 (h.resolve_left (by decide)), fun h => hr (h.resolve_left (by decide)), fun h => e19 (h.resolve_left (by decide)), fun h => hz (h.resolve_left (by decide))⟩
                | 11, ho =>
                  cases Option.some.inj ho
                  have ev : a.tmps[89]?.getD undef = .int .i64 q.2.1 := by rw [ha, e10 (hd ⟨10, .data⟩ (by simp) rfl)]; kernel_rfl
                  refine wp_enter (f := 11) (args := #[.int .i64 q.2.1, .int .i64 3]) (by simp [execOp, ev, go_sem]) ?_
                  refine (hcount w').mono ?_
                  rintro e w6 ⟨rfl, rfl⟩
                  refine ⟨_, rfl, ?_⟩
                  exact ⟨v79, v80, v81, v82, v83, v84, v85, v86, v87, v88, v89, (.int .i64 (r : Int)), v91, v92, v93, v94, v95, v96, v97, v98, nb, by rw [ha]; kernel_rfl, hB, hRb, hDv.imp_left .inr, fun h => e0 (h.resolve_left (by decide)), fun h => e1 (h.resolve_left (by decide)), fun h => e2 (h.resolve_left (by decide)), fun h => e3 (h.resolve_left (by decide)), fun h => e4 (h.resolve_left (by decide)), fun h => e5 (h.resolve_left (by decide)), fun h => e6 (h.resolve_left (by decide)), fun h => e7 (h.resolve_left (by decide)), fun h => e8 (h.resolve_left (by decide)), fun h => e9 (h.resolve_left (by decide)), fun h => e10 (h.resolve_left (by decide)), fun _ => rfl, fun h => e12 (h.resolve_left (by decide)), fun h => e13 (h.resolve_left (by decide)), fun h => e14 (h.resolve_left (by decide)), fun h => e15 (h.resolve_left (by decide)), fun h => e16 (h.resolve_left (by decide)), fun h => e17 (h.resolve_left (by decide)), fun h => e18 (h.resolve_left (by decide)), fun h => hr (h.resolve_left (by decide)), fun h => e19 (h.resolve_left (by decide)), fun h => hz (h.resolve_left (by decide))⟩
                | 12, ho =>
                  cases Option.some.inj ho
                  have ev : a.tmps[90]?.getD undef = .int .i64 (r : Int) := by rw [ha, e11 (hd ⟨11, .data⟩ (by simp) rfl)]; kernel_rfl
                  refine wp_value (w' := w') (v := .int .i64 (m : Int)) (by simp [execOp, ev, go_sem, hwm]) ?_
                  exact ⟨v79, v80, v81, v82, v83, v84, v85, v86, v87, v88, v89, v90, (.int .i64 (m : Int)), v92, v93, v94, v95, v96, v97, v98, nb, by rw [ha]; kernel_rfl, hB, hRb, hDv.imp_left .inr, fun h => e0 (h.resolve_left (by decide)), fun h => e1 (h.resolve_left (by decide)), fun h => e2 (h.resolve_left (by decide)), fun h => e3 (h.resolve_left (by decide)), fun h => e4 (h.resolve_left (by decide)), fun h => e5 (h.resolve_left (by decide)), fun h => e6 (h.resolve_left (by decide)), fun h => e7 (h.resolve_left (by decide)), fun h => e8 (h.resolve_left (by decide)), fun h => e9 (h.resolve_left (by decide)), fun h => e10 (h.resolve_left (by decide)), fun h => e11 (h.resolve_left (by decide)), fun _ => rfl, fun h => e13 (h.resolve_left (by decide)), fun h => e14 (h.resolve_left (by decide)), fun h => e15 (h.resolve_left (by decide)), fun h => e16 (h.resolve_left (by decide)), fun h => e17 (h.resolve_left (by decide)), fun h => e18 (h.resolve_left (by decide)), fun h => hr (h.resolve_left (by decide)), fun h => e19 (h.resolve_left (by decide)), fun h => hz (h.resolve_left (by decide))⟩
                | 13, ho =>
                  cases Option.some.inj ho
                  have ev : a.tmps[1]?.getD undef = .slice (some ⟨ab, ao, none⟩) bl bc := by rw [ha]; kernel_rfl
                  refine wp_value (w' := w') (v := .slice (some ⟨ab, ao, none⟩) bl bc) (by simp [execOp, ev, go_sem]) ?_
                  exact ⟨v79, v80, v81, v82, v83, v84, v85, v86, v87, v88, v89, v90, v91, (.slice (some ⟨ab, ao, none⟩) bl bc), v93, v94, v95, v96, v97, v98, nb, by rw [ha]; kernel_rfl, hB, hRb, hDv.imp_left .inr, fun h => e0 (h.resolve_left (by decide)), fun h => e1 (h.resolve_left (by decide)), fun h => e2 (h.resolve_left (by decide)), fun h => e3 (h.resolve_left (by decide)), fun h => e4 (h.resolve_left (by decide)), fun h => e5 (h.resolve_left (by decide)), fun h => e6 (h.resolve_left (by decide)), fun h => e7 (h.resolve_left (by decide)), fun h => e8 (h.resolve_left (by decide)), fun h => e9 (h.resolve_left (by decide)), fun h => e10 (h.resolve_left (by decide)), fun h => e11 (h.resolve_left (by decide)), fun h => e12 (h.resolve_left (by decide)), fun _ => rfl, fun h => e14 (h.resolve_left (by decide)), fun h => e15 (h.resolve_left (by decide)), fun h => e16 (h.resolve_left (by decide)), fun h => e17 (h.resolve_left (by decide)), fun h => e18 (h.resolve_left (by decide)), fun h => hr (h.resolve_left (by decide)), fun h => e19 (h.resolve_left (by decide)), fun h => hz (h.resolve_left (by decide))⟩
                | 14, ho =>
                  cases Option.some.inj ho
                  have ev : a.tmps[13]?.getD undef = .int .i64 (j : Int) := by rw [ha]; kernel_rfl
                  refine wp_value (w' := w') (v := .int .i64 (j : Int)) (by simp [execOp, ev, go_sem]) ?_
                  exact ⟨v79, v80, v81, v82, v83, v84, v85, v86, v87, v88, v89, v90, v91, v92, (.int .i64 (j : Int)), v94, v95, v96, v97, v98, nb, by rw [ha]; kernel_rfl, hB, hRb, hDv.imp_left .inr, fun h => e0 (h.resolve_left (by decide)), fun h => e1 (h.resolve_left (by decide)), fun h => e2 (h.resolve_left (by decide)), fun h => e3 (h.resolve_left (by decide)), fun h => e4 (h.resolve_left (by decide)), fun h => e5 (h.resolve_left (by decide)), fun h => e6 (h.resolve_left (by decide)), fun h => e7 (h.resolve_left (by decide)), fun h => e8 (h.resolve_left (by decide)), fun h => e9 (h.resolve_left (by decide)), fun h => e10 (h.resolve_left (by decide)), fun h => e11 (h.resolve_left (by decide)), fun h => e12 (h.resolve_left (by decide)), fun h => e13 (h.resolve_left (by decide)), fun _ => rfl, fun h => e15 (h.resolve_left (by decide)), fun h => e16 (h.resolve_left (by decide)), fun h => e17 (h.resolve_left (by decide)), fun h => e18 (h.resolve_left (by decide)), fun h => hr (h.resolve_left (by decide)), fun h => e19 (h.resolve_left (by decide)), fun h => hz (h.resolve_left (by decide))⟩
                | 15, ho =>
                  cases Option.some.inj ho
                  have ev : a.tmps[92]?.getD undef = .slice (some ⟨ab, ao, none⟩) bl bc := by rw [ha, e13 (hd ⟨13, .data⟩ (by simp) rfl)]; kernel_rfl
                  have ev' : a.tmps[93]?.getD undef = .int .i64 (j : Int) := by rw [ha, e14 (hd ⟨14, .data⟩ (by simp) rfl)]; kernel_rfl
                  refine wp_value (w' := w') (v := .pointer (some ⟨ab, ao + j * 6, none⟩)) (by simp [execOp, ev, ev', go_sem, hidx, Addr.add_lit]) ?_
                  exact ⟨v79, v80, v81, v82, v83, v84, v85, v86, v87, v88, v89, v90, v91, v92, v93, (.pointer (some ⟨ab, ao + j * 6, none⟩)), v95, v96, v97, v98, nb, by rw [ha]; kernel_rfl, hB, hRb, hDv.imp_left .inr, fun h => e0 (h.resolve_left (by decide)), fun h => e1 (h.resolve_left (by decide)), fun h => e2 (h.resolve_left (by decide)), fun h => e3 (h.resolve_left (by decide)), fun h => e4 (h.resolve_left (by decide)), fun h => e5 (h.resolve_left (by decide)), fun h => e6 (h.resolve_left (by decide)), fun h => e7 (h.resolve_left (by decide)), fun h => e8 (h.resolve_left (by decide)), fun h => e9 (h.resolve_left (by decide)), fun h => e10 (h.resolve_left (by decide)), fun h => e11 (h.resolve_left (by decide)), fun h => e12 (h.resolve_left (by decide)), fun h => e13 (h.resolve_left (by decide)), fun h => e14 (h.resolve_left (by decide)), fun _ => rfl, fun h => e16 (h.resolve_left (by decide)), fun h => e17 (h.resolve_left (by decide)), fun h => e18 (h.resolve_left (by decide)), fun h => hr (h.resolve_left (by decide)), fun h => e19 (h.resolve_left (by decide)), fun h => hz (h.resolve_left (by decide))⟩
                | 16, ho =>
                  cases Option.some.inj ho
                  have ev : a.tmps[94]?.getD undef = .pointer (some ⟨ab, ao + j * 6, none⟩) := by rw [ha, e15 (hd ⟨15, .data⟩ (by simp) rfl)]; kernel_rfl
                  refine wp_value (w' := w') (v := .pointer (some ⟨ab, ao + j * 6 + 3, none⟩)) (by simp [execOp, ev, go_sem, Addr.add_lit]) ?_
                  exact ⟨v79, v80, v81, v82, v83, v84, v85, v86, v87, v88, v89, v90, v91, v92, v93, v94, (.pointer (some ⟨ab, ao + j * 6 + 3, none⟩)), v96, v97, v98, nb, by rw [ha]; kernel_rfl, hB, hRb, hDv.imp_left .inr, fun h => e0 (h.resolve_left (by decide)), fun h => e1 (h.resolve_left (by decide)), fun h => e2 (h.resolve_left (by decide)), fun h => e3 (h.resolve_left (by decide)), fun h => e4 (h.resolve_left (by decide)), fun h => e5 (h.resolve_left (by decide)), fun h => e6 (h.resolve_left (by decide)), fun h => e7 (h.resolve_left (by decide)), fun h => e8 (h.resolve_left (by decide)), fun h => e9 (h.resolve_left (by decide)), fun h => e10 (h.resolve_left (by decide)), fun h => e11 (h.resolve_left (by decide)), fun h => e12 (h.resolve_left (by decide)), fun h => e13 (h.resolve_left (by decide)), fun h => e14 (h.resolve_left (by decide)), fun h => e15 (h.resolve_left (by decide)), fun _ => rfl, fun h => e17 (h.resolve_left (by decide)), fun h => e18 (h.resolve_left (by decide)), fun h => hr (h.resolve_left (by decide)), fun h => e19 (h.resolve_left (by decide)), fun h => hz (h.resolve_left (by decide))⟩
                | 17, ho =>
                  cases Option.some.inj ho
                  have ev : a.tmps[95]?.getD undef = .pointer (some ⟨ab, ao + j * 6 + 3, none⟩) := by rw [ha, e16 (hd ⟨16, .data⟩ (by simp) rfl)]; kernel_rfl
                  have hc := (World.cell?_of_block (hB.block ab hab)).trans hc3
                  refine wp_value (w' := w') (v := .int .u8 q.2.2) (by simp [execOp, ev, go_sem, hc]) ?_
                  exact ⟨v79, v80, v81, v82, v83, v84, v85, v86, v87, v88, v89, v90, v91, v92, v93, v94, v95, (.int .u8 q.2.2), v97, v98, nb, by rw [ha]; kernel_rfl, hB, hRb, hDv.imp_left .inr, fun h => e0 (h.resolve_left (by decide)), fun h => e1 (h.resolve_left (by decide)), fun h => e2 (h.resolve_left (by decide)), fun h => e3 (h.resolve_left (by decide)), fun h => e4 (h.resolve_left (by decide)), fun h => e5 (h.resolve_left (by decide)), fun h => e6 (h.resolve_left (by decide)), fun h => e7 (h.resolve_left (by decide)), fun h => e8 (h.resolve_left (by decide)), fun h => e9 (h.resolve_left (by decide)), fun h => e10 (h.resolve_left (by decide)), fun h => e11 (h.resolve_left (by decide)), fun h => e12 (h.resolve_left (by decide)), fun h => e13 (h.resolve_left (by decide)), fun h => e14 (h.resolve_left (by decide)), fun h => e15 (h.resolve_left (by decide)), fun h => e16 (h.resolve_left (by decide)), fun _ => rfl, fun h => e18 (h.resolve_left (by decide)), fun h => hr (h.resolve_left (by decide)), fun h => e19 (h.resolve_left (by decide)), fun h => hz (h.resolve_left (by decide))⟩
                | 18, ho =>
                  cases Option.some.inj ho
                  have ev : a.tmps[91]?.getD undef = .int .i64 (m : Int) := by rw [ha, e12 (hd ⟨12, .data⟩ (by simp) rfl)]; kernel_rfl
                  have ev' : a.tmps[96]?.getD undef = .int .u8 q.2.2 := by rw [ha, e17 (hd ⟨17, .data⟩ (by simp) rfl)]; kernel_rfl
                  refine wp_enter (f := 10) (args := #[.int .i64 (m : Int), .int .u8 q.2.2]) (by simp [execOp, ev, ev', go_sem]) ?_
                  refine (full_row w' m q.2.2 (by omega)).mono ?_
                  rintro e w6 ⟨nb2, rfl, _, hR, HB⟩
                  refine ⟨_, rfl, ?_⟩
                  exact ⟨v79, v80, v81, v82, v83, v84, v85, v86, v87, v88, v89, v90, v91, v92, v93, v94, v95, v96, (.slice (some ⟨nb2, 0, none⟩) (128 * m) (128 * m)), v98, nb2, by rw [ha]; kernel_rfl, below_size hB hNC HB, hRb.below HB, hDv.imp .inr (fun h => h.same (fun i hi => HB.block i hi)), fun h => e0 (h.resolve_left (by decide)), fun h => e1 (h.resolve_left (by decide)), fun h => e2 (h.resolve_left (by decide)), fun h => e3 (h.resolve_left (by decide)), fun h => e4 (h.resolve_left (by decide)), fun h => e5 (h.resolve_left (by decide)), fun h => e6 (h.resolve_left (by decide)), fun h => e7 (h.resolve_left (by decide)), fun h => e8 (h.resolve_left (by decide)), fun h => e9 (h.resolve_left (by decide)), fun h => e10 (h.resolve_left (by decide)), fun h => e11 (h.resolve_left (by decide)), fun h => e12 (h.resolve_left (by decide)), fun h => e13 (h.resolve_left (by decide)), fun h => e14 (h.resolve_left (by decide)), fun h => e15 (h.resolve_left (by decide)), fun h => e16 (h.resolve_left (by decide)), fun h => e17 (h.resolve_left (by decide)), fun _ => rfl, fun _ => hR, fun h => e19 (h.resolve_left (by decide)), fun h => absurd (h.resolve_left (by decide)) (fun h => hn (hcl 19 _ rfl h ⟨18, .data⟩ (by simp) rfl))⟩
                | 19, ho =>
                  cases Option.some.inj ho
                  have ev : a.tmps[79]?.getD undef = .pointer (some ⟨c, 0, none⟩) := by rw [ha, e0 (hd ⟨0, .data⟩ (by simp) rfl)]; kernel_rfl
                  have ev' : a.tmps[84]?.getD undef = .int .i64 q.1 := by rw [ha, e5 (hd ⟨5, .data⟩ (by simp) rfl)]; kernel_rfl
                  have ev'' : a.tmps[97]?.getD undef = .slice (some ⟨nb, 0, none⟩) (128 * m) (128 * m) := by rw [ha, e18 (hd ⟨18, .data⟩ (by simp) rfl)]; kernel_rfl
                  refine wp_enter (f := 9) (args := #[.pointer (some ⟨c, 0, none⟩), .int .i64 q.1, .slice (some ⟨nb, 0, none⟩) (128 * m) (128 * m)]) (by simp [execOp, ev, ev', ev'', go_sem]) ?_
                  refine (act_write (hDv.resolve_left hn) q.1 q.2.2 hq1 m (by omega) (by omega) hq2 hq3 (hr (hd ⟨18, .data⟩ (by simp) rfl)) (by omega)).mono ?_
                  rintro e w6 ⟨rfl, pv2, D2, F2⟩
                  refine ⟨_, rfl, ?_⟩
                  exact ⟨v79, v80, v81, v82, v83, v84, v85, v86, v87, v88, v89, v90, v91, v92, v93, v94, v95, v96, v97, (.int .i64 (if 0 ≤ q.1 ∧ q.1 + m ≤ 8 then 0 else 13)), nb, by rw [ha]; kernel_rfl, hB.trans (F2.below (hDv.resolve_left hn)), hRb.fr (hDv.resolve_left hn) F2, .inl (.inl rfl), fun h => e0 (h.resolve_left (by decide)), fun h => e1 (h.resolve_left (by decide)), fun h => e2 (h.resolve_left (by decide)), fun h => e3 (h.resolve_left (by decide)), fun h => e4 (h.resolve_left (by decide)), fun h => e5 (h.resolve_left (by decide)), fun h => e6 (h.resolve_left (by decide)), fun h => e7 (h.resolve_left (by decide)), fun h => e8 (h.resolve_left (by decide)), fun h => e9 (h.resolve_left (by decide)), fun h => e10 (h.resolve_left (by decide)), fun h => e11 (h.resolve_left (by decide)), fun h => e12 (h.resolve_left (by decide)), fun h => e13 (h.resolve_left (by decide)), fun h => e14 (h.resolve_left (by decide)), fun h => e15 (h.resolve_left (by decide)), fun h => e16 (h.resolve_left (by decide)), fun h => e17 (h.resolve_left (by decide)), fun h => e18 (h.resolve_left (by decide)), fun h => (hr (h.resolve_left (by decide))).fr (hDv.resolve_left hn) F2, fun _ => rfl, fun _ => ⟨pv2, D2⟩⟩
                | i + 20, ho => simp at ho
              case done =>
                rintro D a w' ⟨v79, v80, v81, v82, v83, v84, v85, v86, v87, v88, v89, v90, v91, v92, v93, v94, v95, v96, v97, v98, nb, ha, hB, hRb, hDv, e0, e1, e2, e3, e4, e5, e6, e7, e8, e9, e10, e11, e12, e13, e14, e15, e16, e17, e18, hr, e19, hz⟩ hall
                obtain ⟨pv2, D2⟩ := hz (hall 19 (by decide))
                obtain rfl := e0 (hall 0 (by decide))
                obtain rfl := e1 (hall 1 (by decide))
                obtain rfl := e2 (hall 2 (by decide))
                obtain rfl := e3 (hall 3 (by decide))
                obtain rfl := e4 (hall 4 (by decide))
                obtain rfl := e5 (hall 5 (by decide))
                obtain rfl := e6 (hall 6 (by decide))
                obtain rfl := e7 (hall 7 (by decide))
                obtain rfl := e8 (hall 8 (by decide))
                obtain rfl := e9 (hall 9 (by decide))
                obtain rfl := e10 (hall 10 (by decide))
                obtain rfl := e11 (hall 11 (by decide))
                obtain rfl := e12 (hall 12 (by decide))
                obtain rfl := e13 (hall 13 (by decide))
                obtain rfl := e14 (hall 14 (by decide))
                obtain rfl := e15 (hall 15 (by decide))
                obtain rfl := e16 (hall 16 (by decide))
                obtain rfl := e17 (hall 17 (by decide))
                obtain rfl := e18 (hall 18 (by decide))
                obtain rfl := e19 (hall 19 (by decide))
                clear hr hz hDv hall e0 e1 e2 e3 e4 e5 e6 e7 e8 e9 e10 e11 e12 e13 e14 e15 e16 e17 e18 e19
                rw [ha]
                clear ha
                simp only [Act.put, List.setIfInBounds_toArray, List.set_cons_zero, List.set_cons_succ]
                rw [← hG1.out, appl_append] at D2
                have hw1 : IntKind.i64.wrap ((j : Int) + 1) = (j : Int) + 1 := by rw [IntKind.wrap_i64]; omega
                have hlen2 := actW_len q.1 q.2.2 m
                go_wp2
                go_roundw
                case rel => exact ⟨j + 1, _, pv2, by omega, by omega, rfl, by rw [List.length_append]; omega, D2, hB, hRb⟩
                case measure => simp [intOf]; omega
            · have hgd : decide (j < bl ∧ j < 40) = false := decide_eq_false hgo
              rw [hgd]
              clear hgo hgd
              have hM : M.length ≤ 240 := by omega
              have hBC := hBB.trans (hB0.mono hww)
              go_wp2_with fail
              refine (Crash_some hDv0 (fun _ => rfl) ka kn kc ks (hk.below hkb hBC) hkn (by omega) (fun b off e h0 => ?_)).mono ?_
              · have hb := hkb b off e h0
                refine ⟨?_, ?_, ?_, fun e => ?_⟩
                · have := hDv0.fromP; omega
                · have := hDv0.fromS; omega
                · have := hDv0.fromN; omega
                · have := (own_block hDv0.pend e).1; omega
              rintro e w7 ⟨rfl, C7, F7⟩
              have hB7 := hB0.trans (F7.below hDv0)
              have hR7 := hRb0.fr hDv0 F7
              clear hDv0 F7 hRb0 hB0
              go_wp2_with fail
              refine (fail_any C7 1 (by decide)).mono ?_
              rintro e w8 ⟨rfl, C8, F8⟩
              have hB8 := hB7.trans (F8.below C7)
              have hR8 := hR7.fr C7 F8
              have D8 := D6.low hB8 hpl hsl hnl hvl
              have hBD := hBB.trans (hB8.mono hww)
              clear C7 F8 C8 hB7 hR7 hB8 D6 hBB hBC
              go_wp2_with fail
              refine (read_8 D8).mono ?_
              rintro e w9 ⟨b9, rfl, _, hR9, hb9⟩
              have D9 := D8.below hb9
              have s1 := (hR8.below hb9).str hS hlen
              rw [HBS.out] at hR9
              have s2 := hR9.str hS hlen
              have hBE := below_size hBD (Nat.le_refl _) hb9
              clear D8 hR8 hR9 hb9 hBD
              go_wp2_with fail
              refine (Flush_some D9 (by omega)).mono ?_
              rintro e w10 ⟨rfl, D10, F10⟩
              have hBF := hBE.trans (F10.below D9)
              clear D9 F10 hBE s1 s2
              go_wp2_with fail
              refine (full_8 w10 3).mono ?_
              rintro e w11 ⟨b11, rfl, hR11, hb11⟩
              have D11 := D10.below hb11
              have hBG := below_size hBF (Nat.le_refl _) hb11
              clear D10 hb11 hBF
              go_wp2_with fail
              refine (write_8 D11 3 (by decide) (by decide) hR11 (by simp)).mono ?_
              rintro e w12 ⟨rfl, pv12, F12⟩
              have hBH := hBG.trans (F12.below D11)
              clear D11 F12 hBG hR11
              go_wp2_with fail
              refine (known_true w12).mono ?_
              rintro e w13 ⟨rfl, hb13⟩
              have hBI := below_size hBH (Nat.le_refl _) hb13
              clear hBH hb13
              go_wp2
              go_ret
              exact ⟨rfl, hBI⟩
end Go.Proofs.Ytofgphiamllmdaa
