/- The walk of DiskSafe: what was safe stands behind every crash. -/
import Derived.Test.YtofgphiamllmdaaSafeA
import Derived.Deep.CutRange
namespace Go.Proofs.Ytofgphiamllmdaa
open Go.RowKit

/-- Each write is marked. -/
def Marked (L : List (Int × List Int)) (f : Nat → Bool) : Prop := ∀ q ∈ L, ∃ s c : Nat, q = ((s : Int), sv 128 (c : Int)) ∧ s < 8 ∧ c < 256 ∧ f (s * 256 + c) = true

/-- What the operations yield. -/
def valSA (b9 y1 cp b6 s y2 y3 : Nat) (SX SY : ByteArray) (j : Nat) : Value :=
  ([.slice (some ⟨b9, y1, none⟩) 128 cp,
    .string SX,
    .slice (some ⟨b6, 0, none⟩) 1024 1024,
    .int .i64 (s : Int),
    .int .i64 (y1 : Int),
    .int .i64 (s : Int),
    .int .i64 (y2 : Int),
    .int .i64 (y3 : Int),
    .slice (some ⟨b6, y1, none⟩) 128 cp,
    .string SY,
    .bool false,
    .bool false,
    undef,
    undef,
    undef,
    undef,
    undef,
    undef,
    undef,
    undef,
    undef,
    undef,
    undef,
    undef,
    undef,
    undef,
    undef,
    undef,
    undef,
    undef,
    undef,
    undef,
    undef,
    .bool false] : List Value).getD j undef
theorem valSA_list {l : List Value} (hh : l.length = 34) : ∃ v0 v1 v2 v3 v4 v5 v6 v7 v8 v9 v10 v11 v12 v13 v14 v15 v16 v17 v18 v19 v20 v21 v22 v23 v24 v25 v26 v27 v28 v29 v30 v31 v32 v33, l = [v0, v1, v2, v3, v4, v5, v6, v7, v8, v9, v10, v11, v12, v13, v14, v15, v16, v17, v18, v19, v20, v21, v22, v23, v24, v25, v26, v27, v28, v29, v30, v31, v32, v33] := by
  obtain ⟨v0, t0, rfl, h0⟩ := cons_of hh
  obtain ⟨v1, t1, rfl, h1⟩ := cons_of h0
  obtain ⟨v2, t2, rfl, h2⟩ := cons_of h1
  obtain ⟨v3, t3, rfl, h3⟩ := cons_of h2
  obtain ⟨v4, t4, rfl, h4⟩ := cons_of h3
  obtain ⟨v5, t5, rfl, h5⟩ := cons_of h4
  obtain ⟨v6, t6, rfl, h6⟩ := cons_of h5
  obtain ⟨v7, t7, rfl, h7⟩ := cons_of h6
  obtain ⟨v8, t8, rfl, h8⟩ := cons_of h7
  obtain ⟨v9, t9, rfl, h9⟩ := cons_of h8
  obtain ⟨v10, t10, rfl, h10⟩ := cons_of h9
  obtain ⟨v11, t11, rfl, h11⟩ := cons_of h10
  obtain ⟨v12, t12, rfl, h12⟩ := cons_of h11
  obtain ⟨v13, t13, rfl, h13⟩ := cons_of h12
  obtain ⟨v14, t14, rfl, h14⟩ := cons_of h13
  obtain ⟨v15, t15, rfl, h15⟩ := cons_of h14
  obtain ⟨v16, t16, rfl, h16⟩ := cons_of h15
  obtain ⟨v17, t17, rfl, h17⟩ := cons_of h16
  obtain ⟨v18, t18, rfl, h18⟩ := cons_of h17
  obtain ⟨v19, t19, rfl, h19⟩ := cons_of h18
  obtain ⟨v20, t20, rfl, h20⟩ := cons_of h19
  obtain ⟨v21, t21, rfl, h21⟩ := cons_of h20
  obtain ⟨v22, t22, rfl, h22⟩ := cons_of h21
  obtain ⟨v23, t23, rfl, h23⟩ := cons_of h22
  obtain ⟨v24, t24, rfl, h24⟩ := cons_of h23
  obtain ⟨v25, t25, rfl, h25⟩ := cons_of h24
  obtain ⟨v26, t26, rfl, h26⟩ := cons_of h25
  obtain ⟨v27, t27, rfl, h27⟩ := cons_of h26
  obtain ⟨v28, t28, rfl, h28⟩ := cons_of h27
  obtain ⟨v29, t29, rfl, h29⟩ := cons_of h28
  obtain ⟨v30, t30, rfl, h30⟩ := cons_of h29
  obtain ⟨v31, t31, rfl, h31⟩ := cons_of h30
  obtain ⟨v32, t32, rfl, h32⟩ := cons_of h31
  obtain ⟨v33, t33, rfl, h33⟩ := cons_of h32
  obtain rfl := List.eq_nil_of_length_eq_zero h33
  exact ⟨_, _, _, _, _, _, _, _, _, _, _, _, _, _, _, _, _, _, _, _, _, _, _, _, _, _, _, _, _, _, _, _, _, _, rfl⟩
/-- What the operations yield. -/
def valSB (b9 y1 cp b6 s y2 y3 x4 x5 c wb nb : Nat) (SX SY : ByteArray) (j : Nat) : Value :=
  ([.slice (some ⟨b9, y1, none⟩) 128 cp,
    .string SX,
    .slice (some ⟨b6, 0, none⟩) 1024 1024,
    .int .i64 (s : Int),
    .int .i64 (y1 : Int),
    .int .i64 (s : Int),
    .int .i64 (y2 : Int),
    .int .i64 (y3 : Int),
    .slice (some ⟨b6, y1, none⟩) 128 cp,
    .string SY,
    .bool true,
    .bool true,
    .slice (some ⟨b9, y1, none⟩) 128 cp,
    .string SX,
    .slice (some ⟨b9, y1, none⟩) 128 cp,
    .pointer (some ⟨b9, y1, none⟩),
    .int .u8 (c : Int),
    .slice (some ⟨nb, 0, none⟩) 128 128,
    .string SX,
    .bool false,
    .bool false,
    .slice (some ⟨wb, 0, none⟩) 2048 2048,
    .int .i64 (s : Int),
    .int .i64 (x4 : Int),
    .slice (some ⟨b9, y1, none⟩) 128 cp,
    .pointer (some ⟨b9, y1, none⟩),
    .int .u8 (c : Int),
    .int .i64 (c : Int),
    .int .i64 (x5 : Int),
    .pointer (some ⟨wb, x5, none⟩),
    .bool true,
    .bool false,
    .bool false,
    .bool false] : List Value).getD j undef
theorem valSB_list {l : List Value} (hh : l.length = 34) : ∃ v0 v1 v2 v3 v4 v5 v6 v7 v8 v9 v10 v11 v12 v13 v14 v15 v16 v17 v18 v19 v20 v21 v22 v23 v24 v25 v26 v27 v28 v29 v30 v31 v32 v33, l = [v0, v1, v2, v3, v4, v5, v6, v7, v8, v9, v10, v11, v12, v13, v14, v15, v16, v17, v18, v19, v20, v21, v22, v23, v24, v25, v26, v27, v28, v29, v30, v31, v32, v33] := by
  obtain ⟨v0, t0, rfl, h0⟩ := cons_of hh
  obtain ⟨v1, t1, rfl, h1⟩ := cons_of h0
  obtain ⟨v2, t2, rfl, h2⟩ := cons_of h1
  obtain ⟨v3, t3, rfl, h3⟩ := cons_of h2
  obtain ⟨v4, t4, rfl, h4⟩ := cons_of h3
  obtain ⟨v5, t5, rfl, h5⟩ := cons_of h4
  obtain ⟨v6, t6, rfl, h6⟩ := cons_of h5
  obtain ⟨v7, t7, rfl, h7⟩ := cons_of h6
  obtain ⟨v8, t8, rfl, h8⟩ := cons_of h7
  obtain ⟨v9, t9, rfl, h9⟩ := cons_of h8
  obtain ⟨v10, t10, rfl, h10⟩ := cons_of h9
  obtain ⟨v11, t11, rfl, h11⟩ := cons_of h10
  obtain ⟨v12, t12, rfl, h12⟩ := cons_of h11
  obtain ⟨v13, t13, rfl, h13⟩ := cons_of h12
  obtain ⟨v14, t14, rfl, h14⟩ := cons_of h13
  obtain ⟨v15, t15, rfl, h15⟩ := cons_of h14
  obtain ⟨v16, t16, rfl, h16⟩ := cons_of h15
  obtain ⟨v17, t17, rfl, h17⟩ := cons_of h16
  obtain ⟨v18, t18, rfl, h18⟩ := cons_of h17
  obtain ⟨v19, t19, rfl, h19⟩ := cons_of h18
  obtain ⟨v20, t20, rfl, h20⟩ := cons_of h19
  obtain ⟨v21, t21, rfl, h21⟩ := cons_of h20
  obtain ⟨v22, t22, rfl, h22⟩ := cons_of h21
  obtain ⟨v23, t23, rfl, h23⟩ := cons_of h22
  obtain ⟨v24, t24, rfl, h24⟩ := cons_of h23
  obtain ⟨v25, t25, rfl, h25⟩ := cons_of h24
  obtain ⟨v26, t26, rfl, h26⟩ := cons_of h25
  obtain ⟨v27, t27, rfl, h27⟩ := cons_of h26
  obtain ⟨v28, t28, rfl, h28⟩ := cons_of h27
  obtain ⟨v29, t29, rfl, h29⟩ := cons_of h28
  obtain ⟨v30, t30, rfl, h30⟩ := cons_of h29
  obtain ⟨v31, t31, rfl, h31⟩ := cons_of h30
  obtain ⟨v32, t32, rfl, h32⟩ := cons_of h31
  obtain ⟨v33, t33, rfl, h33⟩ := cons_of h32
  obtain rfl := List.eq_nil_of_length_eq_zero h33
  exact ⟨_, _, _, _, _, _, _, _, _, _, _, _, _, _, _, _, _, _, _, _, _, _, _, _, _, _, _, _, _, _, _, _, _, _, rfl⟩
set_option maxRecDepth 100000 in
set_option maxHeartbeats 16000000 in
theorem safe_law (w : World) (sa : Option Addr) (ac : Nat) (l : List (Int × Int × Int)) (hA : Acts w sa l) (sb : Option Addr) (bc : Nat) (l2 : List (Int × Int × Int)) (hA2 : Acts w sb l2) (ka : Option Addr) (kn kc : Nat) (ks : List Bool) (hk : Bools w ka kn ks) (hkb : ∀ b off, ka = some ⟨b, off, none⟩ → 0 < kn → b < w.heap.size) (hkn : kn ≤ 140737488355328) :
    Calls Try.prog 3 #[.slice sa l.length ac, .slice sb l2.length bc, .slice ka kn kc] w fun e w' => e = .returned (.bool true) ∧ Below w.heap.size w w' := by
  go_enter Try.func3, Try.ntmps3
  go_wp2_with fail
  refine (new_ex w).mono ?_
  rintro e w1 ⟨p, bs, bn, Z, rfl, D1, hB1⟩
  obtain ⟨al, hal⟩ : ∃ al, Hid (l.length = al) := ⟨_, rfl⟩
  obtain ⟨bl, hbl⟩ : ∃ bl, Hid (l2.length = bl) := ⟨_, rfl⟩
  rw [hal.out, hbl.out]
  go_wp2
  go_loopw [9] (fun i wr => ∃ (j : Nat) (L : List (Int × List Int)) (pv : Value), j ≤ al ∧ j ≤ 40 ∧ i = .int .i64 (j : Int) ∧ L.length ≤ 3 * j ∧ Dev wr w.heap.size p bs bn pv 8 Z (appl Z L) L 0 false ∧ Below w.heap.size w wr) (fun i _ => al - (intOf i).toNat)
  case atStart => exact ⟨0, [], _, by omega, by omega, rfl, by simp, D1, hB1⟩
  case round =>
    obtain ⟨j, L, pv, hj1, hj2, rfl, hL, hDv0, hB0⟩ := hrel
    clear D1 hB1
    go_upto_region 5 with fail
    go_cut [38] from 31 to 60 (fun v wx => v = .bool (decide (j < al ∧ j < 40)) ∧ wx = wr)
    case first =>
      by_cases h1 : j < al
      · have hlt1 : (j : Int) < (al : Int) := by omega
        by_cases h2 : j < 40
        · have hlt2 : (j : Int) < 40 := by omega
          go_wp2
          go_meet
          case rel => exact ⟨by simp [h1, h2], rfl⟩
        · have hlt2 : ¬ (j : Int) < 40 := by omega
          go_wp2
          go_meet
          case rel => exact ⟨by simp [h1, h2], rfl⟩
      · have hlt1 : ¬ (j : Int) < (al : Int) := by omega
        go_wp2
        go_meet
        case rel => exact ⟨by simp [h1], rfl⟩
    case rest =>
      obtain ⟨rfl, rfl⟩ := hcut
      by_cases hgo : j < al ∧ j < 40
      · have hgd : decide (j < al ∧ j < 40) = true := decide_eq_true hgo
        rw [hgd]
        obtain ⟨hlt1, hlt2⟩ : (j : Int) < (al : Int) ∧ (j : Int) < 40 := by omega
        have hidx : j < al := hgo.1
        obtain ⟨q, hq⟩ : ∃ q, l[j]? = some q := ⟨l[j]'(by rw [hal.out]; exact hidx), List.getElem?_eq_getElem _⟩
        obtain ⟨hq1, hq2, hq3⟩ := hA.ok q (List.mem_of_getElem? hq)
        obtain ⟨ab, ao, rfl, hab, hc1, hc2, hc3⟩ := hA.lies j q hq
        have hr3 := cnt_lt q.2.1
        have hcount := fun w' => count3 q.2.1 w'
        obtain ⟨r, hr⟩ : ∃ r, cnt q.2.1 = r := ⟨_, rfl⟩
        rw [hr] at hr3
        simp only [hr] at hcount
        clear hr
        obtain ⟨m, hm⟩ : ∃ m : Nat, Hid (m = r + 1) := ⟨_, rfl⟩
        have hwm : IntKind.i64.wrap (1 + (r : Int)) = (m : Int) := by have := hm.out; rw [IntKind.wrap_i64]; omega
        have hm0 : 1 ≤ m := by have := hm.out; omega
        have hm3 : m ≤ 3 := by have := hm.out; omega
        obtain ⟨G1, hG1⟩ : ∃ G1, Hid (appl Z L = G1) := ⟨_, rfl⟩
        rw [hG1.out] at hDv0
        clear hgo
        go_wp2
        refine wp_region_inv' (fun A D a w' => ∃ v41 v42 v43 v44 v45 v46 v47 v48 v49 v50 v51 v52 v53 v54 v55 v56 v57 v58 v59 v60 nb, a = ((((((((((((((((((((A.put (some 41) v41).put (some 42) v42).put (some 43) v43).put (some 44) v44).put (some 45) v45).put (some 46) v46).put (some 47) v47).put (some 48) v48).put (some 49) v49).put (some 50) v50).put (some 51) v51).put (some 52) v52).put (some 53) v53).put (some 54) v54).put (some 55) v55).put (some 56) v56).put (some 57) v57).put (some 58) v58).put (some 59) v59).put (some 60) v60) ∧ Below w.heap.size w w' ∧ (D 19 ∨ Dev w' w.heap.size p bs bn pv 8 Z G1 L 0 false) ∧ (D 0 → v41 = .pointer (some ⟨p, 0, none⟩)) ∧ (D 1 → v42 = .slice (some ⟨ab, ao, none⟩) al ac) ∧ (D 2 → v43 = .int .i64 (j : Int)) ∧ (D 3 → v44 = .pointer (some ⟨ab, ao + j * 6, none⟩)) ∧ (D 4 → v45 = .pointer (some ⟨ab, ao + j * 6 + 1, none⟩)) ∧ (D 5 → v46 = .int .i64 q.1) ∧ (D 6 → v47 = .slice (some ⟨ab, ao, none⟩) al ac) ∧ (D 7 → v48 = .int .i64 (j : Int)) ∧ (D 8 → v49 = .pointer (some ⟨ab, ao + j * 6, none⟩)) ∧ (D 9 → v50 = .pointer (some ⟨ab, ao + j * 6 + 2, none⟩)) ∧ (D 10 → v51 = .int .i64 q.2.1) ∧ (D 11 → v52 = .int .i64 (r : Int)) ∧ (D 12 → v53 = .int .i64 (m : Int)) ∧ (D 13 → v54 = .slice (some ⟨ab, ao, none⟩) al ac) ∧ (D 14 → v55 = .int .i64 (j : Int)) ∧ (D 15 → v56 = .pointer (some ⟨ab, ao + j * 6, none⟩)) ∧ (D 16 → v57 = .pointer (some ⟨ab, ao + j * 6 + 3, none⟩)) ∧ (D 17 → v58 = .int .u8 q.2.2) ∧ (D 18 → v59 = .slice (some ⟨nb, 0, none⟩) (128 * m) (128 * m)) ∧ (D 18 → Row8 w' nb (sv (128 * m) q.2.2)) ∧ (D 19 → v60 = .int .i64 (if 0 ≤ q.1 ∧ q.1 + m ≤ 8 then 0 else 13)) ∧ (D 19 → ∃ pv2, Dev w' w.heap.size p bs bn pv2 8 Z (appl G1 (actW q.1 q.2.2 m)) (L ++ actW q.1 q.2.2 m) 0 false)) (by kernel_rfl) (by kernel_rfl) ?mono ?start ?step ?done
        case mono =>
          rintro D D' a w' hD ⟨v41, v42, v43, v44, v45, v46, v47, v48, v49, v50, v51, v52, v53, v54, v55, v56, v57, v58, v59, v60, nb, ha, hB, hDv, e0, e1, e2, e3, e4, e5, e6, e7, e8, e9, e10, e11, e12, e13, e14, e15, e16, e17, e18, hr, e19, hz⟩
          exact ⟨v41, v42, v43, v44, v45, v46, v47, v48, v49, v50, v51, v52, v53, v54, v55, v56, v57, v58, v59, v60, nb, ha, hB, hDv.imp_left (hD 19).1, fun h => e0 ((hD 0).2 h), fun h => e1 ((hD 1).2 h), fun h => e2 ((hD 2).2 h), fun h => e3 ((hD 3).2 h), fun h => e4 ((hD 4).2 h), fun h => e5 ((hD 5).2 h), fun h => e6 ((hD 6).2 h), fun h => e7 ((hD 7).2 h), fun h => e8 ((hD 8).2 h), fun h => e9 ((hD 9).2 h), fun h => e10 ((hD 10).2 h), fun h => e11 ((hD 11).2 h), fun h => e12 ((hD 12).2 h), fun h => e13 ((hD 13).2 h), fun h => e14 ((hD 14).2 h), fun h => e15 ((hD 15).2 h), fun h => e16 ((hD 16).2 h), fun h => e17 ((hD 17).2 h), fun h => e18 ((hD 18).2 h), fun h => hr ((hD 18).2 h), fun h => e19 ((hD 19).2 h), fun h => hz ((hD 19).2 h)⟩
        case start => exact ⟨u41, u42, u43, u44, u45, u46, u47, u48, u49, u50, u51, u52, u53, u54, u55, u56, u57, u58, u59, u60, 0, by kernel_rfl, hB0.drew, .inr (hDv0.same (fun _ _ => rfl)), fun h => h.elim, fun h => h.elim, fun h => h.elim, fun h => h.elim, fun h => h.elim, fun h => h.elim, fun h => h.elim, fun h => h.elim, fun h => h.elim, fun h => h.elim, fun h => h.elim, fun h => h.elim, fun h => h.elim, fun h => h.elim, fun h => h.elim, fun h => h.elim, fun h => h.elim, fun h => h.elim, fun h => h.elim, fun h => h.elim, fun h => h.elim, fun h => h.elim⟩
        case step =>
          intro i o ho D a w' hI hn hcl hd
          obtain ⟨v41, v42, v43, v44, v45, v46, v47, v48, v49, v50, v51, v52, v53, v54, v55, v56, v57, v58, v59, v60, nb, ha, hB, hDv, e0, e1, e2, e3, e4, e5, e6, e7, e8, e9, e10, e11, e12, e13, e14, e15, e16, e17, e18, hr, e19, hz⟩ := hI
          match i, ho with
          | 0, ho =>
            cases Option.some.inj ho
            have ev : a.tmps[7]?.getD undef = .pointer (some ⟨p, 0, none⟩) := by rw [ha]; kernel_rfl
            refine wp_value (w' := w') (v := .pointer (some ⟨p, 0, none⟩)) (by simp [execOp, ev, go_sem]) ?_
            exact ⟨(.pointer (some ⟨p, 0, none⟩)), v42, v43, v44, v45, v46, v47, v48, v49, v50, v51, v52, v53, v54, v55, v56, v57, v58, v59, v60, nb, by rw [ha]; kernel_rfl, hB, hDv.imp_left .inr, fun _ => rfl, fun h => e1 (h.resolve_left (by decide)), fun h => e2 (h.resolve_left (by decide)), fun h => e3 (h.resolve_left (by decide)), fun h => e4 (h.resolve_left (by decide)), fun h => e5 (h.resolve_left (by decide)), fun h => e6 (h.resolve_left (by decide)), fun h => e7 (h.resolve_left (by decide)), fun h => e8 (h.resolve_left (by decide)), fun h => e9 (h.resolve_left (by decide)), fun h => e10 (h.resolve_left (by decide)), fun h => e11 (h.resolve_left (by decide)), fun h => e12 (h.resolve_left (by decide)), fun h => e13 (h.resolve_left (by decide)), fun h => e14 (h.resolve_left (by decide)), fun h => e15 (h.resolve_left (by decide)), fun h => e16 (h.resolve_left (by decide)), fun h => e17 (h.resolve_left (by decide)), fun h => e18 (h.resolve_left (by decide)), fun h => hr (h.resolve_left (by decide)), fun h => e19 (h.resolve_left (by decide)), fun h => hz (h.resolve_left (by decide))⟩
          | 1, ho =>
            cases Option.some.inj ho
            have ev : a.tmps[0]?.getD undef = .slice (some ⟨ab, ao, none⟩) al ac := by rw [ha]; kernel_rfl
            refine wp_value (w' := w') (v := .slice (some ⟨ab, ao, none⟩) al ac) (by simp [execOp, ev, go_sem]) ?_
            exact ⟨v41, (.slice (some ⟨ab, ao, none⟩) al ac), v43, v44, v45, v46, v47, v48, v49, v50, v51, v52, v53, v54, v55, v56, v57, v58, v59, v60, nb, by rw [ha]; kernel_rfl, hB, hDv.imp_left .inr, fun h => e0 (h.resolve_left (by decide)), fun _ => rfl, fun h => e2 (h.resolve_left (by decide)), fun h => e3 (h.resolve_left (by decide)), fun h => e4 (h.resolve_left (by decide)), fun h => e5 (h.resolve_left (by decide)), fun h => e6 (h.resolve_left (by decide)), fun h => e7 (h.resolve_left (by decide)), fun h => e8 (h.resolve_left (by decide)), fun h => e9 (h.resolve_left (by decide)), fun h => e10 (h.resolve_left (by decide)), fun h => e11 (h.resolve_left (by decide)), fun h => e12 (h.resolve_left (by decide)), fun h => e13 (h.resolve_left (by decide)), fun h => e14 (h.resolve_left (by decide)), fun h => e15 (h.resolve_left (by decide)), fun h => e16 (h.resolve_left (by decide)), fun h => e17 (h.resolve_left (by decide)), fun h => e18 (h.resolve_left (by decide)), fun h => hr (h.resolve_left (by decide)), fun h => e19 (h.resolve_left (by decide)), fun h => hz (h.resolve_left (by decide))⟩
          | 2, ho =>
            cases Option.some.inj ho
            have ev : a.tmps[9]?.getD undef = .int .i64 (j : Int) := by rw [ha]; kernel_rfl
            refine wp_value (w' := w') (v := .int .i64 (j : Int)) (by simp [execOp, ev, go_sem]) ?_
            exact ⟨v41, v42, (.int .i64 (j : Int)), v44, v45, v46, v47, v48, v49, v50, v51, v52, v53, v54, v55, v56, v57, v58, v59, v60, nb, by rw [ha]; kernel_rfl, hB, hDv.imp_left .inr, fun h => e0 (h.resolve_left (by decide)), fun h => e1 (h.resolve_left (by decide)), fun _ => rfl, fun h => e3 (h.resolve_left (by decide)), fun h => e4 (h.resolve_left (by decide)), fun h => e5 (h.resolve_left (by decide)), fun h => e6 (h.resolve_left (by decide)), fun h => e7 (h.resolve_left (by decide)), fun h => e8 (h.resolve_left (by decide)), fun h => e9 (h.resolve_left (by decide)), fun h => e10 (h.resolve_left (by decide)), fun h => e11 (h.resolve_left (by decide)), fun h => e12 (h.resolve_left (by decide)), fun h => e13 (h.resolve_left (by decide)), fun h => e14 (h.resolve_left (by decide)), fun h => e15 (h.resolve_left (by decide)), fun h => e16 (h.resolve_left (by decide)), fun h => e17 (h.resolve_left (by decide)), fun h => e18 (h.resolve_left (by decide)), fun h => hr (h.resolve_left (by decide)), fun h => e19 (h.resolve_left (by decide)), fun h => hz (h.resolve_left (by decide))⟩
          | 3, ho =>
            cases Option.some.inj ho
            have ev : a.tmps[42]?.getD undef = .slice (some ⟨ab, ao, none⟩) al ac := by rw [ha, e1 (hd ⟨1, .data⟩ (by simp) rfl)]; kernel_rfl
            have ev' : a.tmps[43]?.getD undef = .int .i64 (j : Int) := by rw [ha, e2 (hd ⟨2, .data⟩ (by simp) rfl)]; kernel_rfl
            refine wp_value (w' := w') (v := .pointer (some ⟨ab, ao + j * 6, none⟩)) (by simp [execOp, ev, ev', go_sem, hidx, Addr.add_lit]) ?_
            exact ⟨v41, v42, v43, (.pointer (some ⟨ab, ao + j * 6, none⟩)), v45, v46, v47, v48, v49, v50, v51, v52, v53, v54, v55, v56, v57, v58, v59, v60, nb, by rw [ha]; kernel_rfl, hB, hDv.imp_left .inr, fun h => e0 (h.resolve_left (by decide)), fun h => e1 (h.resolve_left (by decide)), fun h => e2 (h.resolve_left (by decide)), fun _ => rfl, fun h => e4 (h.resolve_left (by decide)), fun h => e5 (h.resolve_left (by decide)), fun h => e6 (h.resolve_left (by decide)), fun h => e7 (h.resolve_left (by decide)), fun h => e8 (h.resolve_left (by decide)), fun h => e9 (h.resolve_left (by decide)), fun h => e10 (h.resolve_left (by decide)), fun h => e11 (h.resolve_left (by decide)), fun h => e12 (h.resolve_left (by decide)), fun h => e13 (h.resolve_left (by decide)), fun h => e14 (h.resolve_left (by decide)), fun h => e15 (h.resolve_left (by decide)), fun h => e16 (h.resolve_left (by decide)), fun h => e17 (h.resolve_left (by decide)), fun h => e18 (h.resolve_left (by decide)), fun h => hr (h.resolve_left (by decide)), fun h => e19 (h.resolve_left (by decide)), fun h => hz (h.resolve_left (by decide))⟩
          | 4, ho =>
            cases Option.some.inj ho
            have ev : a.tmps[44]?.getD undef = .pointer (some ⟨ab, ao + j * 6, none⟩) := by rw [ha, e3 (hd ⟨3, .data⟩ (by simp) rfl)]; kernel_rfl
            refine wp_value (w' := w') (v := .pointer (some ⟨ab, ao + j * 6 + 1, none⟩)) (by simp [execOp, ev, go_sem, Addr.add_lit]) ?_
            exact ⟨v41, v42, v43, v44, (.pointer (some ⟨ab, ao + j * 6 + 1, none⟩)), v46, v47, v48, v49, v50, v51, v52, v53, v54, v55, v56, v57, v58, v59, v60, nb, by rw [ha]; kernel_rfl, hB, hDv.imp_left .inr, fun h => e0 (h.resolve_left (by decide)), fun h => e1 (h.resolve_left (by decide)), fun h => e2 (h.resolve_left (by decide)), fun h => e3 (h.resolve_left (by decide)), fun _ => rfl, fun h => e5 (h.resolve_left (by decide)), fun h => e6 (h.resolve_left (by decide)), fun h => e7 (h.resolve_left (by decide)), fun h => e8 (h.resolve_left (by decide)), fun h => e9 (h.resolve_left (by decide)), fun h => e10 (h.resolve_left (by decide)), fun h => e11 (h.resolve_left (by decide)), fun h => e12 (h.resolve_left (by decide)), fun h => e13 (h.resolve_left (by decide)), fun h => e14 (h.resolve_left (by decide)), fun h => e15 (h.resolve_left (by decide)), fun h => e16 (h.resolve_left (by decide)), fun h => e17 (h.resolve_left (by decide)), fun h => e18 (h.resolve_left (by decide)), fun h => hr (h.resolve_left (by decide)), fun h => e19 (h.resolve_left (by decide)), fun h => hz (h.resolve_left (by decide))⟩
          | 5, ho =>
            cases Option.some.inj ho
            have ev : a.tmps[45]?.getD undef = .pointer (some ⟨ab, ao + j * 6 + 1, none⟩) := by rw [ha, e4 (hd ⟨4, .data⟩ (by simp) rfl)]; kernel_rfl
            have hc := (World.cell?_of_block (hB.block ab hab)).trans hc1
            refine wp_value (w' := w') (v := .int .i64 q.1) (by simp [execOp, ev, go_sem, hc]) ?_
            exact ⟨v41, v42, v43, v44, v45, (.int .i64 q.1), v47, v48, v49, v50, v51, v52, v53, v54, v55, v56, v57, v58, v59, v60, nb, by rw [ha]; kernel_rfl, hB, hDv.imp_left .inr, fun h => e0 (h.resolve_left (by decide)), fun h => e1 (h.resolve_left (by decide)), fun h => e2 (h.resolve_left (by decide)), fun h => e3 (h.resolve_left (by decide)), fun h => e4 (h.resolve_left (by decide)), fun _ => rfl, fun h => e6 (h.resolve_left (by decide)), fun h => e7 (h.resolve_left (by decide)), fun h => e8 (h.resolve_left (by decide)), fun h => e9 (h.resolve_left (by decide)), fun h => e10 (h.resolve_left (by decide)), fun h => e11 (h.resolve_left (by decide)), fun h => e12 (h.resolve_left (by decide)), fun h => e13 (h.resolve_left (by decide)), fun h => e14 (h.resolve_left (by decide)), fun h => e15 (h.resolve_left (by decide)), fun h => e16 (h.resolve_left (by decide)), fun h => e17 (h.resolve_left (by decide)), fun h => e18 (h.resolve_left (by decide)), fun h => hr (h.resolve_left (by decide)), fun h => e19 (h.resolve_left (by decide)), fun h => hz (h.resolve_left (by decide))⟩
          | 6, ho =>
            cases Option.some.inj ho
            have ev : a.tmps[0]?.getD undef = .slice (some ⟨ab, ao, none⟩) al ac := by rw [ha]; kernel_rfl
            refine wp_value (w' := w') (v := .slice (some ⟨ab, ao, none⟩) al ac) (by simp [execOp, ev, go_sem]) ?_
            exact ⟨v41, v42, v43, v44, v45, v46, (.slice (some ⟨ab, ao, none⟩) al ac), v48, v49, v50, v51, v52, v53, v54, v55, v56, v57, v58, v59, v60, nb, by rw [ha]; kernel_rfl, hB, hDv.imp_left .inr, fun h => e0 (h.resolve_left (by decide)), fun h => e1 (h.resolve_left (by decide)), fun h => e2 (h.resolve_left (by decide)), fun h => e3 (h.resolve_left (by decide)), fun h => e4 (h.resolve_left (by decide)), fun h => e5 (h.resolve_left (by decide)), fun _ => rfl, fun h => e7 (h.resolve_left (by decide)), fun h => e8 (h.resolve_left (by decide)), fun h => e9 (h.resolve_left (by decide)), fun h => e10 (h.resolve_left (by decide)), fun h => e11 (h.resolve_left (by decide)), fun h => e12 (h.resolve_left (by decide)), fun h => e13 (h.resolve_left (by decide)), fun h => e14 (h.resolve_left (by decide)), fun h => e15 (h.resolve_left (by decide)), fun h => e16 (h.resolve_left (by decide)), fun h => e17 (h.resolve_left (by decide)), fun h => e18 (h.resolve_left (by decide)), fun h => hr (h.resolve_left (by decide)), fun h => e19 (h.resolve_left (by decide)), fun h => hz (h.resolve_left (by decide))⟩
          | 7, ho =>
            cases Option.some.inj ho
            have ev : a.tmps[9]?.getD undef = .int .i64 (j : Int) := by rw [ha]; kernel_rfl
            refine wp_value (w' := w') (v := .int .i64 (j : Int)) (by simp [execOp, ev, go_sem]) ?_
            exact ⟨v41, v42, v43, v44, v45, v46, v47, (.int .i64 (j : Int)), v49, v50, v51, v52, v53, v54, v55, v56, v57, v58, v59, v60, nb, by rw [ha]; kernel_rfl, hB, hDv.imp_left .inr, fun h => e0 (h.resolve_left (by decide)), fun h => e1 (h.resolve_left (by decide)), fun h => e2 (h.resolve_left (by decide)), fun h => e3 (h.resolve_left (by decide)), fun h => e4 (h.resolve_left (by decide)), fun h => e5 (h.resolve_left (by decide)), fun h => e6 (h.resolve_left (by decide)), fun _ => rfl, fun h => e8 (h.resolve_left (by decide)), fun h => e9 (h.resolve_left (by decide)), fun h => e10 (h.resolve_left (by decide)), fun h => e11 (h.resolve_left (by decide)), fun h => e12 (h.resolve_left (by decide)), fun h => e13 (h.resolve_left (by decide)), fun h => e14 (h.resolve_left (by decide)), fun h => e15 (h.resolve_left (by decide)), fun h => e16 (h.resolve_left (by decide)), fun h => e17 (h.resolve_left (by decide)), fun h => e18 (h.resolve_left (by decide)), fun h => hr (h.resolve_left (by decide)), fun h => e19 (h.resolve_left (by decide)), fun h => hz (h.resolve_left (by decide))⟩
          | 8, ho =>
            cases Option.some.inj ho
            have ev : a.tmps[47]?.getD undef = .slice (some ⟨ab, ao, none⟩) al ac := by rw [ha, e6 (hd ⟨6, .data⟩ (by simp) rfl)]; kernel_rfl
            have ev' : a.tmps[48]?.getD undef = .int .i64 (j : Int) := by rw [ha, e7 (hd ⟨7, .data⟩ (by simp) rfl)]; kernel_rfl
            refine wp_value (w' := w') (v := .pointer (some ⟨ab, ao + j * 6, none⟩)) (by simp [execOp, ev, ev', go_sem, hidx, Addr.add_lit]) ?_
            exact ⟨v41, v42, v43, v44, v45, v46, v47, v48, (.pointer (some ⟨ab, ao + j * 6, none⟩)), v50, v51, v52, v53, v54, v55, v56, v57, v58, v59, v60, nb, by rw [ha]; kernel_rfl, hB, hDv.imp_left .inr, fun h => e0 (h.resolve_left (by decide)), fun h => e1 (h.resolve_left (by decide)), fun h => e2 (h.resolve_left (by decide)), fun h => e3 (h.resolve_left (by decide)), fun h => e4 (h.resolve_left (by decide)), fun h => e5 (h.resolve_left (by decide)), fun h => e6 (h.resolve_left (by decide)), fun h => e7 (h.resolve_left (by decide)), fun _ => rfl, fun h => e9 (h.resolve_left (by decide)), fun h => e10 (h.resolve_left (by decide)), fun h => e11 (h.resolve_left (by decide)), fun h => e12 (h.resolve_left (by decide)), fun h => e13 (h.resolve_left (by decide)), fun h => e14 (h.resolve_left (by decide)), fun h => e15 (h.resolve_left (by decide)), fun h => e16 (h.resolve_left (by decide)), fun h => e17 (h.resolve_left (by decide)), fun h => e18 (h.resolve_left (by decide)), fun h => hr (h.resolve_left (by decide)), fun h => e19 (h.resolve_left (by decide)), fun h => hz (h.resolve_left (by decide))⟩
          | 9, ho =>
            cases Option.some.inj ho
            have ev : a.tmps[49]?.getD undef = .pointer (some ⟨ab, ao + j * 6, none⟩) := by rw [ha, e8 (hd ⟨8, .data⟩ (by simp) rfl)]; kernel_rfl
            refine wp_value (w' := w') (v := .pointer (some ⟨ab, ao + j * 6 + 2, none⟩)) (by simp [execOp, ev, go_sem, Addr.add_lit]) ?_
            exact ⟨v41, v42, v43, v44, v45, v46, v47, v48, v49, (.pointer (some ⟨ab, ao + j * 6 + 2, none⟩)), v51, v52, v53, v54, v55, v56, v57, v58, v59, v60, nb, by rw [ha]; kernel_rfl, hB, hDv.imp_left .inr, fun h => e0 (h.resolve_left (by decide)), fun h => e1 (h.resolve_left (by decide)), fun h => e2 (h.resolve_left (by decide)), fun h => e3 (h.resolve_left (by decide)), fun h => e4 (h.resolve_left (by decide)), fun h => e5 (h.resolve_left (by decide)), fun h => e6 (h.resolve_left (by decide)), fun h => e7 (h.resolve_left (by decide)), fun h => e8 (h.resolve_left (by decide)), fun _ => rfl, fun h => e10 (h.resolve_left (by decide)), fun h => e11 (h.resolve_left (by decide)), fun h => e12 (h.resolve_left (by decide)), fun h => e13 (h.resolve_left (by decide)), fun h => e14 (h.resolve_left (by decide)), fun h => e15 (h.resolve_left (by decide)), fun h => e16 (h.resolve_left (by decide)), fun h => e17 (h.resolve_left (by decide)), fun h => e18 (h.resolve_left (by decide)), fun h => hr (h.resolve_left (by decide)), fun h => e19 (h.resolve_left (by decide)), fun h => hz (h.resolve_left (by decide))⟩
          | 10, ho =>
            cases Option.some.inj ho
            have ev : a.tmps[50]?.getD undef = .pointer (some ⟨ab, ao + j * 6 + 2, none⟩) := by rw [ha, e9 (hd ⟨9, .data⟩ (by simp) rfl)]; kernel_rfl
            have hc := (World.cell?_of_block (hB.block ab hab)).trans hc2
            refine wp_value (w' := w') (v := .int .i64 q.2.1) (by simp [execOp, ev, go_sem, hc]) ?_
            exact ⟨v41, v42, v43, v44, v45, v46, v47, v48, v49, v50, (.int .i64 q.2.1), v52, v53, v54, v55, v56, v57, v58, v59, v60, nb, by rw [ha]; kernel_rfl, hB, hDv.imp_left .inr, fun h => e0 (h.resolve_left (by decide)), fun h => e1 (h.resolve_left (by decide)), fun h => e2 (h.resolve_left (by decide)), fun h => e3 (h.resolve_left (by decide)), fun h => e4 (h.resolve_left (by decide)), fun h => e5 (h.resolve_left (by decide)), fun h => e6 (h.resolve_left (by decide)), fun h => e7 (h.resolve_left (by decide)), fun h => e8 (h.resolve_left (by decide)), fun h => e9 (h.resolve_left (by decide)), fun _ => rfl, fun h => e11 (h.resolve_left (by decide)), fun h => e12 (h.resolve_left (by decide)), fun h => e13 (h.resolve_left (by decide)), fun h => e14 (h.resolve_left (by decide)), fun h => e15 (h.resolve_left (by decide)), fun h => e16 (h.resolve_left (by decide)), fun h => e17 (h.resolve_left (by decide)), fun h => e18 (h.resolve_left (by decide)), fun h => hr (h.resolve_left (by decide)), fun h => e19 (h.resolve_left (by decide)), fun h => hz (h.resolve_left (by decide))⟩
          | 11, ho =>
            cases Option.some.inj ho
            have ev : a.tmps[51]?.getD undef = .int .i64 q.2.1 := by rw [ha, e10 (hd ⟨10, .data⟩ (by simp) rfl)]; kernel_rfl
            refine wp_enter (f := 11) (args := #[.int .i64 q.2.1, .int .i64 3]) (by simp [execOp, ev, go_sem]) ?_
            refine (hcount w').mono ?_
            rintro e w6 ⟨rfl, rfl⟩
            refine ⟨_, rfl, ?_⟩
            exact ⟨v41, v42, v43, v44, v45, v46, v47, v48, v49, v50, v51, (.int .i64 (r : Int)), v53, v54, v55, v56, v57, v58, v59, v60, nb, by rw [ha]; kernel_rfl, hB, hDv.imp_left .inr, fun h => e0 (h.resolve_left (by decide)), fun h => e1 (h.resolve_left (by decide)), fun h => e2 (h.resolve_left (by decide)), fun h => e3 (h.resolve_left (by decide)), fun h => e4 (h.resolve_left (by decide)), fun h => e5 (h.resolve_left (by decide)), fun h => e6 (h.resolve_left (by decide)), fun h => e7 (h.resolve_left (by decide)), fun h => e8 (h.resolve_left (by decide)), fun h => e9 (h.resolve_left (by decide)), fun h => e10 (h.resolve_left (by decide)), fun _ => rfl, fun h => e12 (h.resolve_left (by decide)), fun h => e13 (h.resolve_left (by decide)), fun h => e14 (h.resolve_left (by decide)), fun h => e15 (h.resolve_left (by decide)), fun h => e16 (h.resolve_left (by decide)), fun h => e17 (h.resolve_left (by decide)), fun h => e18 (h.resolve_left (by decide)), fun h => hr (h.resolve_left (by decide)), fun h => e19 (h.resolve_left (by decide)), fun h => hz (h.resolve_left (by decide))⟩
          | 12, ho =>
            cases Option.some.inj ho
            have ev : a.tmps[52]?.getD undef = .int .i64 (r : Int) := by rw [ha, e11 (hd ⟨11, .data⟩ (by simp) rfl)]; kernel_rfl
            refine wp_value (w' := w') (v := .int .i64 (m : Int)) (by simp [execOp, ev, go_sem, hwm]) ?_
            exact ⟨v41, v42, v43, v44, v45, v46, v47, v48, v49, v50, v51, v52, (.int .i64 (m : Int)), v54, v55, v56, v57, v58, v59, v60, nb, by rw [ha]; kernel_rfl, hB, hDv.imp_left .inr, fun h => e0 (h.resolve_left (by decide)), fun h => e1 (h.resolve_left (by decide)), fun h => e2 (h.resolve_left (by decide)), fun h => e3 (h.resolve_left (by decide)), fun h => e4 (h.resolve_left (by decide)), fun h => e5 (h.resolve_left (by decide)), fun h => e6 (h.resolve_left (by decide)), fun h => e7 (h.resolve_left (by decide)), fun h => e8 (h.resolve_left (by decide)), fun h => e9 (h.resolve_left (by decide)), fun h => e10 (h.resolve_left (by decide)), fun h => e11 (h.resolve_left (by decide)), fun _ => rfl, fun h => e13 (h.resolve_left (by decide)), fun h => e14 (h.resolve_left (by decide)), fun h => e15 (h.resolve_left (by decide)), fun h => e16 (h.resolve_left (by decide)), fun h => e17 (h.resolve_left (by decide)), fun h => e18 (h.resolve_left (by decide)), fun h => hr (h.resolve_left (by decide)), fun h => e19 (h.resolve_left (by decide)), fun h => hz (h.resolve_left (by decide))⟩
          | 13, ho =>
            cases Option.some.inj ho
            have ev : a.tmps[0]?.getD undef = .slice (some ⟨ab, ao, none⟩) al ac := by rw [ha]; kernel_rfl
            refine wp_value (w' := w') (v := .slice (some ⟨ab, ao, none⟩) al ac) (by simp [execOp, ev, go_sem]) ?_
            exact ⟨v41, v42, v43, v44, v45, v46, v47, v48, v49, v50, v51, v52, v53, (.slice (some ⟨ab, ao, none⟩) al ac), v55, v56, v57, v58, v59, v60, nb, by rw [ha]; kernel_rfl, hB, hDv.imp_left .inr, fun h => e0 (h.resolve_left (by decide)), fun h => e1 (h.resolve_left (by decide)), fun h => e2 (h.resolve_left (by decide)), fun h => e3 (h.resolve_left (by decide)), fun h => e4 (h.resolve_left (by decide)), fun h => e5 (h.resolve_left (by decide)), fun h => e6 (h.resolve_left (by decide)), fun h => e7 (h.resolve_left (by decide)), fun h => e8 (h.resolve_left (by decide)), fun h => e9 (h.resolve_left (by decide)), fun h => e10 (h.resolve_left (by decide)), fun h => e11 (h.resolve_left (by decide)), fun h => e12 (h.resolve_left (by decide)), fun _ => rfl, fun h => e14 (h.resolve_left (by decide)), fun h => e15 (h.resolve_left (by decide)), fun h => e16 (h.resolve_left (by decide)), fun h => e17 (h.resolve_left (by decide)), fun h => e18 (h.resolve_left (by decide)), fun h => hr (h.resolve_left (by decide)), fun h => e19 (h.resolve_left (by decide)), fun h => hz (h.resolve_left (by decide))⟩
          | 14, ho =>
            cases Option.some.inj ho
            have ev : a.tmps[9]?.getD undef = .int .i64 (j : Int) := by rw [ha]; kernel_rfl
            refine wp_value (w' := w') (v := .int .i64 (j : Int)) (by simp [execOp, ev, go_sem]) ?_
            exact ⟨v41, v42, v43, v44, v45, v46, v47, v48, v49, v50, v51, v52, v53, v54, (.int .i64 (j : Int)), v56, v57, v58, v59, v60, nb, by rw [ha]; kernel_rfl, hB, hDv.imp_left .inr, fun h => e0 (h.resolve_left (by decide)), fun h => e1 (h.resolve_left (by decide)), fun h => e2 (h.resolve_left (by decide)), fun h => e3 (h.resolve_left (by decide)), fun h => e4 (h.resolve_left (by decide)), fun h => e5 (h.resolve_left (by decide)), fun h => e6 (h.resolve_left (by decide)), fun h => e7 (h.resolve_left (by decide)), fun h => e8 (h.resolve_left (by decide)), fun h => e9 (h.resolve_left (by decide)), fun h => e10 (h.resolve_left (by decide)), fun h => e11 (h.resolve_left (by decide)), fun h => e12 (h.resolve_left (by decide)), fun h => e13 (h.resolve_left (by decide)), fun _ => rfl, fun h => e15 (h.resolve_left (by decide)), fun h => e16 (h.resolve_left (by decide)), fun h => e17 (h.resolve_left (by decide)), fun h => e18 (h.resolve_left (by decide)), fun h => hr (h.resolve_left (by decide)), fun h => e19 (h.resolve_left (by decide)), fun h => hz (h.resolve_left (by decide))⟩
          | 15, ho =>
            cases Option.some.inj ho
            have ev : a.tmps[54]?.getD undef = .slice (some ⟨ab, ao, none⟩) al ac := by rw [ha, e13 (hd ⟨13, .data⟩ (by simp) rfl)]; kernel_rfl
            have ev' : a.tmps[55]?.getD undef = .int .i64 (j : Int) := by rw [ha, e14 (hd ⟨14, .data⟩ (by simp) rfl)]; kernel_rfl
            refine wp_value (w' := w') (v := .pointer (some ⟨ab, ao + j * 6, none⟩)) (by simp [execOp, ev, ev', go_sem, hidx, Addr.add_lit]) ?_
            exact ⟨v41, v42, v43, v44, v45, v46, v47, v48, v49, v50, v51, v52, v53, v54, v55, (.pointer (some ⟨ab, ao + j * 6, none⟩)), v57, v58, v59, v60, nb, by rw [ha]; kernel_rfl, hB, hDv.imp_left .inr, fun h => e0 (h.resolve_left (by decide)), fun h => e1 (h.resolve_left (by decide)), fun h => e2 (h.resolve_left (by decide)), fun h => e3 (h.resolve_left (by decide)), fun h => e4 (h.resolve_left (by decide)), fun h => e5 (h.resolve_left (by decide)), fun h => e6 (h.resolve_left (by decide)), fun h => e7 (h.resolve_left (by decide)), fun h => e8 (h.resolve_left (by decide)), fun h => e9 (h.resolve_left (by decide)), fun h => e10 (h.resolve_left (by decide)), fun h => e11 (h.resolve_left (by decide)), fun h => e12 (h.resolve_left (by decide)), fun h => e13 (h.resolve_left (by decide)), fun h => e14 (h.resolve_left (by decide)), fun _ => rfl, fun h => e16 (h.resolve_left (by decide)), fun h => e17 (h.resolve_left (by decide)), fun h => e18 (h.resolve_left (by decide)), fun h => hr (h.resolve_left (by decide)), fun h => e19 (h.resolve_left (by decide)), fun h => hz (h.resolve_left (by decide))⟩
          | 16, ho =>
            cases Option.some.inj ho
            have ev : a.tmps[56]?.getD undef = .pointer (some ⟨ab, ao + j * 6, none⟩) := by rw [ha, e15 (hd ⟨15, .data⟩ (by simp) rfl)]; kernel_rfl
            refine wp_value (w' := w') (v := .pointer (some ⟨ab, ao + j * 6 + 3, none⟩)) (by simp [execOp, ev, go_sem, Addr.add_lit]) ?_
            exact ⟨v41, v42, v43, v44, v45, v46, v47, v48, v49, v50, v51, v52, v53, v54, v55, v56, (.pointer (some ⟨ab, ao + j * 6 + 3, none⟩)), v58, v59, v60, nb, by rw [ha]; kernel_rfl, hB, hDv.imp_left .inr, fun h => e0 (h.resolve_left (by decide)), fun h => e1 (h.resolve_left (by decide)), fun h => e2 (h.resolve_left (by decide)), fun h => e3 (h.resolve_left (by decide)), fun h => e4 (h.resolve_left (by decide)), fun h => e5 (h.resolve_left (by decide)), fun h => e6 (h.resolve_left (by decide)), fun h => e7 (h.resolve_left (by decide)), fun h => e8 (h.resolve_left (by decide)), fun h => e9 (h.resolve_left (by decide)), fun h => e10 (h.resolve_left (by decide)), fun h => e11 (h.resolve_left (by decide)), fun h => e12 (h.resolve_left (by decide)), fun h => e13 (h.resolve_left (by decide)), fun h => e14 (h.resolve_left (by decide)), fun h => e15 (h.resolve_left (by decide)), fun _ => rfl, fun h => e17 (h.resolve_left (by decide)), fun h => e18 (h.resolve_left (by decide)), fun h => hr (h.resolve_left (by decide)), fun h => e19 (h.resolve_left (by decide)), fun h => hz (h.resolve_left (by decide))⟩
          | 17, ho =>
            cases Option.some.inj ho
            have ev : a.tmps[57]?.getD undef = .pointer (some ⟨ab, ao + j * 6 + 3, none⟩) := by rw [ha, e16 (hd ⟨16, .data⟩ (by simp) rfl)]; kernel_rfl
            have hc := (World.cell?_of_block (hB.block ab hab)).trans hc3
            refine wp_value (w' := w') (v := .int .u8 q.2.2) (by simp [execOp, ev, go_sem, hc]) ?_
            exact ⟨v41, v42, v43, v44, v45, v46, v47, v48, v49, v50, v51, v52, v53, v54, v55, v56, v57, (.int .u8 q.2.2), v59, v60, nb, by rw [ha]; kernel_rfl, hB, hDv.imp_left .inr, fun h => e0 (h.resolve_left (by decide)), fun h => e1 (h.resolve_left (by decide)), fun h => e2 (h.resolve_left (by decide)), fun h => e3 (h.resolve_left (by decide)), fun h => e4 (h.resolve_left (by decide)), fun h => e5 (h.resolve_left (by decide)), fun h => e6 (h.resolve_left (by decide)), fun h => e7 (h.resolve_left (by decide)), fun h => e8 (h.resolve_left (by decide)), fun h => e9 (h.resolve_left (by decide)), fun h => e10 (h.resolve_left (by decide)), fun h => e11 (h.resolve_left (by decide)), fun h => e12 (h.resolve_left (by decide)), fun h => e13 (h.resolve_left (by decide)), fun h => e14 (h.resolve_left (by decide)), fun h => e15 (h.resolve_left (by decide)), fun h => e16 (h.resolve_left (by decide)), fun _ => rfl, fun h => e18 (h.resolve_left (by decide)), fun h => hr (h.resolve_left (by decide)), fun h => e19 (h.resolve_left (by decide)), fun h => hz (h.resolve_left (by decide))⟩
          | 18, ho =>
            cases Option.some.inj ho
            have ev : a.tmps[53]?.getD undef = .int .i64 (m : Int) := by rw [ha, e12 (hd ⟨12, .data⟩ (by simp) rfl)]; kernel_rfl
            have ev' : a.tmps[58]?.getD undef = .int .u8 q.2.2 := by rw [ha, e17 (hd ⟨17, .data⟩ (by simp) rfl)]; kernel_rfl
            refine wp_enter (f := 10) (args := #[.int .i64 (m : Int), .int .u8 q.2.2]) (by simp [execOp, ev, ev', go_sem]) ?_
            refine (full_row w' m q.2.2 (by omega)).mono ?_
            rintro e w6 ⟨nb2, rfl, _, hR, HB⟩
            refine ⟨_, rfl, ?_⟩
            exact ⟨v41, v42, v43, v44, v45, v46, v47, v48, v49, v50, v51, v52, v53, v54, v55, v56, v57, v58, (.slice (some ⟨nb2, 0, none⟩) (128 * m) (128 * m)), v60, nb2, by rw [ha]; kernel_rfl, below_size hB (Nat.le_refl _) HB, hDv.imp .inr (fun h => h.same (fun i hi => HB.block i hi)), fun h => e0 (h.resolve_left (by decide)), fun h => e1 (h.resolve_left (by decide)), fun h => e2 (h.resolve_left (by decide)), fun h => e3 (h.resolve_left (by decide)), fun h => e4 (h.resolve_left (by decide)), fun h => e5 (h.resolve_left (by decide)), fun h => e6 (h.resolve_left (by decide)), fun h => e7 (h.resolve_left (by decide)), fun h => e8 (h.resolve_left (by decide)), fun h => e9 (h.resolve_left (by decide)), fun h => e10 (h.resolve_left (by decide)), fun h => e11 (h.resolve_left (by decide)), fun h => e12 (h.resolve_left (by decide)), fun h => e13 (h.resolve_left (by decide)), fun h => e14 (h.resolve_left (by decide)), fun h => e15 (h.resolve_left (by decide)), fun h => e16 (h.resolve_left (by decide)), fun h => e17 (h.resolve_left (by decide)), fun _ => rfl, fun _ => hR, fun h => e19 (h.resolve_left (by decide)), fun h => absurd (h.resolve_left (by decide)) (fun h => hn (hcl 19 _ rfl h ⟨18, .data⟩ (by simp) rfl))⟩
          | 19, ho =>
            cases Option.some.inj ho
            have ev : a.tmps[41]?.getD undef = .pointer (some ⟨p, 0, none⟩) := by rw [ha, e0 (hd ⟨0, .data⟩ (by simp) rfl)]; kernel_rfl
            have ev' : a.tmps[46]?.getD undef = .int .i64 q.1 := by rw [ha, e5 (hd ⟨5, .data⟩ (by simp) rfl)]; kernel_rfl
            have ev'' : a.tmps[59]?.getD undef = .slice (some ⟨nb, 0, none⟩) (128 * m) (128 * m) := by rw [ha, e18 (hd ⟨18, .data⟩ (by simp) rfl)]; kernel_rfl
            refine wp_enter (f := 9) (args := #[.pointer (some ⟨p, 0, none⟩), .int .i64 q.1, .slice (some ⟨nb, 0, none⟩) (128 * m) (128 * m)]) (by simp [execOp, ev, ev', ev'', go_sem]) ?_
            refine (act_write (hDv.resolve_left hn) q.1 q.2.2 hq1 m (by omega) (by omega) hq2 hq3 (hr (hd ⟨18, .data⟩ (by simp) rfl)) (by omega)).mono ?_
            rintro e w6 ⟨rfl, pv2, D2, F2⟩
            refine ⟨_, rfl, ?_⟩
            exact ⟨v41, v42, v43, v44, v45, v46, v47, v48, v49, v50, v51, v52, v53, v54, v55, v56, v57, v58, v59, (.int .i64 (if 0 ≤ q.1 ∧ q.1 + m ≤ 8 then 0 else 13)), nb, by rw [ha]; kernel_rfl, hB.trans (F2.below (hDv.resolve_left hn)), .inl (.inl rfl), fun h => e0 (h.resolve_left (by decide)), fun h => e1 (h.resolve_left (by decide)), fun h => e2 (h.resolve_left (by decide)), fun h => e3 (h.resolve_left (by decide)), fun h => e4 (h.resolve_left (by decide)), fun h => e5 (h.resolve_left (by decide)), fun h => e6 (h.resolve_left (by decide)), fun h => e7 (h.resolve_left (by decide)), fun h => e8 (h.resolve_left (by decide)), fun h => e9 (h.resolve_left (by decide)), fun h => e10 (h.resolve_left (by decide)), fun h => e11 (h.resolve_left (by decide)), fun h => e12 (h.resolve_left (by decide)), fun h => e13 (h.resolve_left (by decide)), fun h => e14 (h.resolve_left (by decide)), fun h => e15 (h.resolve_left (by decide)), fun h => e16 (h.resolve_left (by decide)), fun h => e17 (h.resolve_left (by decide)), fun h => e18 (h.resolve_left (by decide)), fun h => (hr (h.resolve_left (by decide))).fr (hDv.resolve_left hn) F2, fun _ => rfl, fun _ => ⟨pv2, D2⟩⟩
          | i + 20, ho => simp at ho
        case done =>
          rintro D a w' ⟨v41, v42, v43, v44, v45, v46, v47, v48, v49, v50, v51, v52, v53, v54, v55, v56, v57, v58, v59, v60, nb, ha, hB, hDv, e0, e1, e2, e3, e4, e5, e6, e7, e8, e9, e10, e11, e12, e13, e14, e15, e16, e17, e18, hr, e19, hz⟩ hall
          obtain ⟨pv2, D2⟩ := hz (hall 19 (by decide))
          obtain rfl := e0 (hall 0 (by decide))
          obtain rfl := e1 (hall 1 (by decide))
          obtain rfl := e2 (hall 2 (by decide))
          obtain rfl := e3 (hall 3 (by decide))
          obtain rfl := e4 (hall 4 (by decide))
          obtain rfl := e5 (hall 5 (by decide))
          obtain rfl := e6 (hall 6 (by decide))
          obtain rfl := e7 (hall 7 (by decide))
          obtain rfl := e8 (hall 8 (by decide))
          obtain rfl := e9 (hall 9 (by decide))
          obtain rfl := e10 (hall 10 (by decide))
          obtain rfl := e11 (hall 11 (by decide))
          obtain rfl := e12 (hall 12 (by decide))
          obtain rfl := e13 (hall 13 (by decide))
          obtain rfl := e14 (hall 14 (by decide))
          obtain rfl := e15 (hall 15 (by decide))
          obtain rfl := e16 (hall 16 (by decide))
          obtain rfl := e17 (hall 17 (by decide))
          obtain rfl := e18 (hall 18 (by decide))
          obtain rfl := e19 (hall 19 (by decide))
          clear hr hz hDv hall e0 e1 e2 e3 e4 e5 e6 e7 e8 e9 e10 e11 e12 e13 e14 e15 e16 e17 e18 e19
          rw [ha]
          clear ha
          simp only [Act.put, List.setIfInBounds_toArray, List.set_cons_zero, List.set_cons_succ]
          rw [← hG1.out, appl_append] at D2
          have hw1 : IntKind.i64.wrap ((j : Int) + 1) = (j : Int) + 1 := by rw [IntKind.wrap_i64]; omega
          have hlen2 := actW_len q.1 q.2.2 m
          go_wp2
          go_roundw
          case rel => exact ⟨j + 1, _, pv2, by omega, by omega, rfl, by rw [List.length_append]; omega, D2, hB⟩
          case measure => simp [intOf]; omega
      · have hgd : decide (j < al ∧ j < 40) = false := decide_eq_false hgo
        rw [hgd]
        clear hgo hgd hA hal
        have hL120 : L.length ≤ 120 := by omega
        generalize wc = wt at *
        go_wp2_with fail
        refine (Flush_some hDv0 (by omega)).mono ?_
        rintro e w5 ⟨rfl, D5, F5⟩
        have hB5 := hB0.trans (F5.below hDv0)
        clear hDv0 F5 hB0
        obtain ⟨H, hH⟩ : ∃ H, appl Z L = H := ⟨_, rfl⟩
        rw [hH] at D5
        clear hH
        go_wp2_with fail
        refine (read_8 D5).mono ?_
        rintro e w6 ⟨b6, rfl, _, hR6, hb6⟩
        have D6 := D5.below hb6
        have hB6 := below_size hB5 (Nat.le_refl _) hb6
        clear D5 hb6 hB5 hL hj1 hj2
        obtain ⟨i0, hi, hz0, hz1, hz2⟩ := info_parts Try.info4
        go_wp2_with (at_make; refine wpList_make_row _ rfl _ _ 23 rfl 4 i0 (.bool false) Try.underlying23 hi hz0 hz1 rfl .i64 .i64 2048 (by simp [Act.eval]) (by simp [Act.eval]) (by rw [hz2]; omega) (by omega) ?_)
        rw [made_bools]
        clear hi hz0 hz1 hz2
        have hBR : BRow (w6.alloc (.cells (bvals fun _ => false) 4)) w6.heap.size (fun _ => false) := heap_alloc_new _ _
        have hwb := hB6.size
        have D7 := D6.below (box_below w6 (.cells (bvals fun _ => false) 4))
        have hR7 := hR6.below (box_below w6 (.cells (bvals fun _ => false) 4))
        have hB7 := hB6.alloc hB6.size (.cells (bvals fun _ => false) 4)
        clear D6 hR6 hB6
        generalize w6.alloc (.cells (bvals fun _ => false) 4) = w7 at *
        generalize w6.heap.size = wb at *
        go_loopw [13] (fun i wr => ∃ (j : Nat) (L : List (Int × List Int)) (pv : Value) (f : Nat → Bool), j ≤ bl ∧ j ≤ 40 ∧ i = .int .i64 (j : Int) ∧ L.length ≤ 3 * j ∧ Dev wr w.heap.size p bs bn pv 8 H (appl H L) L 0 false ∧ Below w.heap.size w wr ∧ Row8 wr b6 (catS H 0 8) ∧ BRow wr wb f ∧ Marked L f) (fun i _ => bl - (intOf i).toNat)
        case atStart => exact ⟨0, [], _, _, by omega, by omega, rfl, by simp, D7, hB7, hR7, hBR, fun q hq => by cases hq⟩
        case round =>
          clear D7 hB7 hR7 hBR
          obtain ⟨j, M, pv, f, hj1, hj2, rfl, hL, hDv0, hB0, hRb0, hBR0, hMk⟩ := hrel
          go_upto_region 15 with fail
          go_cut [84] from 77 to 139 (fun v wx => v = .bool (decide (j < bl ∧ j < 40)) ∧ wx = wr)
          case first =>
            by_cases h1 : j < bl
            · have hlt1 : (j : Int) < (bl : Int) := by omega
              by_cases h2 : j < 40
              · have hlt2 : (j : Int) < 40 := by omega
                go_wp2
                go_meet
                case rel => exact ⟨by simp [h1, h2], rfl⟩
              · have hlt2 : ¬ (j : Int) < 40 := by omega
                go_wp2
                go_meet
                case rel => exact ⟨by simp [h1, h2], rfl⟩
            · have hlt1 : ¬ (j : Int) < (bl : Int) := by omega
              go_wp2
              go_meet
              case rel => exact ⟨by simp [h1], rfl⟩
          case rest =>
            obtain ⟨rfl, rfl⟩ := hcut
            by_cases hgo : j < bl ∧ j < 40
            · have hgd : decide (j < bl ∧ j < 40) = true := decide_eq_true hgo
              rw [hgd]
              have hidx : j < bl := hgo.1
              have hidx' : (j : Int) < (bl : Int) := by omega
              obtain ⟨q, hq⟩ : ∃ q, l2[j]? = some q := ⟨l2[j]'(by rw [hbl.out]; exact hidx), List.getElem?_eq_getElem _⟩
              obtain ⟨hq1, hq2, hq3⟩ := hA2.ok q (List.mem_of_getElem? hq)
              obtain ⟨ab, ao, rfl, hab, hc1, hc2, hc3⟩ := hA2.lies j q hq
              have hr3 := cnt_lt q.2.1
              have hcount := fun w' => count3 q.2.1 w'
              obtain ⟨r, hr⟩ : ∃ r, cnt q.2.1 = r := ⟨_, rfl⟩
              rw [hr] at hr3
              simp only [hr] at hcount
              clear hr hq
              obtain ⟨m, hm⟩ : ∃ m : Nat, Hid (m = r + 1) := ⟨_, rfl⟩
              have hwm : IntKind.i64.wrap (1 + (r : Int)) = (m : Int) := by have := hm.out; rw [IntKind.wrap_i64]; omega
              have hm0 : 1 ≤ m := by have := hm.out; omega
              have hm3 : m ≤ 3 := by have := hm.out; omega
              obtain ⟨G1, hG1⟩ : ∃ G1, Hid (appl H M = G1) := ⟨_, rfl⟩
              rw [hG1.out] at hDv0
              obtain ⟨qa, qn, qc⟩ := q
              dsimp only at hq1 hq2 hq3 hc1 hc2 hc3 hcount
              obtain ⟨c0, rfl⟩ : ∃ c0 : Nat, qc = (c0 : Int) := ⟨qc.toNat, by omega⟩
              obtain ⟨rv, hrv⟩ : ∃ rv : Int, Hid ((if 0 ≤ qa ∧ qa + m ≤ 8 then (0 : Int) else 13) = rv) := ⟨_, rfl⟩
              have hcN := (World.cell?_of_block (hB0.block ab hab)).trans hc2
              have hj40 : j < 40 := hgo.2
              clear hgo hgd
              go_wp2_with fail
              refine (hcount wc).mono ?_
              rintro e w8 ⟨rfl, rfl⟩
              go_wp2
              refine wp_region_inv' (fun A D a w' => ∃ v94 v95 v96 v97 v98 v99 v100 v101 v102 v103 v104 v105 v106 v107 v108 nb, a = (((((((((((((((A.put (some 94) v94).put (some 95) v95).put (some 96) v96).put (some 97) v97).put (some 98) v98).put (some 99) v99).put (some 100) v100).put (some 101) v101).put (some 102) v102).put (some 103) v103).put (some 104) v104).put (some 105) v105).put (some 106) v106).put (some 107) v107).put (some 108) v108) ∧ Below w.heap.size w w' ∧ Row8 w' b6 (catS H 0 8) ∧ BRow w' wb f ∧ (D 13 ∨ Dev w' w.heap.size p bs bn pv 8 H G1 M 0 false) ∧ (D 0 → v94 = .pointer (some ⟨p, 0, none⟩)) ∧ (D 1 → v95 = .slice (some ⟨ab, ao, none⟩) bl bc) ∧ (D 2 → v96 = .int .i64 (j : Int)) ∧ (D 3 → v97 = .pointer (some ⟨ab, ao + j * 6, none⟩)) ∧ (D 4 → v98 = .pointer (some ⟨ab, ao + j * 6 + 1, none⟩)) ∧ (D 5 → v99 = .int .i64 qa) ∧ (D 6 → v100 = .int .i64 (m : Int)) ∧ (D 7 → v101 = .slice (some ⟨ab, ao, none⟩) bl bc) ∧ (D 8 → v102 = .int .i64 (j : Int)) ∧ (D 9 → v103 = .pointer (some ⟨ab, ao + j * 6, none⟩)) ∧ (D 10 → v104 = .pointer (some ⟨ab, ao + j * 6 + 3, none⟩)) ∧ (D 11 → v105 = .int .u8 (c0 : Int)) ∧ (D 12 → v106 = .slice (some ⟨nb, 0, none⟩) (128 * m) (128 * m)) ∧ (D 12 → Row8 w' nb (sv (128 * m) (c0 : Int))) ∧ (D 13 → v107 = .int .i64 rv) ∧ (D 13 → ∃ pv2, Dev w' w.heap.size p bs bn pv2 8 H (appl G1 (actW qa (c0 : Int) m)) (M ++ actW qa (c0 : Int) m) 0 false) ∧ (D 14 → v108 = .bool (rv == 0))) (by kernel_rfl) (by kernel_rfl) ?mono ?start ?step ?done
              case mono =>
                rintro D D' a w' hD ⟨v94, v95, v96, v97, v98, v99, v100, v101, v102, v103, v104, v105, v106, v107, v108, nb, ha, hB, hRb, hBR, hDv, e0, e1, e2, e3, e4, e5, e6, e7, e8, e9, e10, e11, e12, hr, e13, hz, e14⟩
                exact ⟨v94, v95, v96, v97, v98, v99, v100, v101, v102, v103, v104, v105, v106, v107, v108, nb, ha, hB, hRb, hBR, hDv.imp_left (hD 13).1, fun h => e0 ((hD 0).2 h), fun h => e1 ((hD 1).2 h), fun h => e2 ((hD 2).2 h), fun h => e3 ((hD 3).2 h), fun h => e4 ((hD 4).2 h), fun h => e5 ((hD 5).2 h), fun h => e6 ((hD 6).2 h), fun h => e7 ((hD 7).2 h), fun h => e8 ((hD 8).2 h), fun h => e9 ((hD 9).2 h), fun h => e10 ((hD 10).2 h), fun h => e11 ((hD 11).2 h), fun h => e12 ((hD 12).2 h), fun h => hr ((hD 12).2 h), fun h => e13 ((hD 13).2 h), fun h => hz ((hD 13).2 h), fun h => e14 ((hD 14).2 h)⟩
              case start => exact ⟨u94, u95, u96, u97, u98, u99, u100, u101, u102, u103, u104, u105, u106, u107, u108, 0, by kernel_rfl, hB0.drew, hRb0, hBR0, .inr (hDv0.same (fun _ _ => rfl)), fun h => h.elim, fun h => h.elim, fun h => h.elim, fun h => h.elim, fun h => h.elim, fun h => h.elim, fun h => h.elim, fun h => h.elim, fun h => h.elim, fun h => h.elim, fun h => h.elim, fun h => h.elim, fun h => h.elim, fun h => h.elim, fun h => h.elim, fun h => h.elim, fun h => h.elim⟩
              case step =>
                intro i o ho D a w' hI hn hcl hd
                obtain ⟨v94, v95, v96, v97, v98, v99, v100, v101, v102, v103, v104, v105, v106, v107, v108, nb, ha, hB, hRb, hBR, hDv, e0, e1, e2, e3, e4, e5, e6, e7, e8, e9, e10, e11, e12, hr, e13, hz, e14⟩ := hI
                match i, ho with
                | 0, ho =>
                  cases Option.some.inj ho
                  have ev : a.tmps[7]?.getD undef = .pointer (some ⟨p, 0, none⟩) := by rw [ha]; kernel_rfl
                  refine wp_value (w' := w') (v := .pointer (some ⟨p, 0, none⟩)) (by simp [execOp, ev, go_sem]) ?_
                  exact ⟨(.pointer (some ⟨p, 0, none⟩)), v95, v96, v97, v98, v99, v100, v101, v102, v103, v104, v105, v106, v107, v108, nb, by rw [ha]; kernel_rfl, hB, hRb, hBR, hDv.imp_left .inr, fun _ => rfl, fun h => e1 (h.resolve_left (by decide)), fun h => e2 (h.resolve_left (by decide)), fun h => e3 (h.resolve_left (by decide)), fun h => e4 (h.resolve_left (by decide)), fun h => e5 (h.resolve_left (by decide)), fun h => e6 (h.resolve_left (by decide)), fun h => e7 (h.resolve_left (by decide)), fun h => e8 (h.resolve_left (by decide)), fun h => e9 (h.resolve_left (by decide)), fun h => e10 (h.resolve_left (by decide)), fun h => e11 (h.resolve_left (by decide)), fun h => e12 (h.resolve_left (by decide)), fun h => hr (h.resolve_left (by decide)), fun h => e13 (h.resolve_left (by decide)), fun h => hz (h.resolve_left (by decide)), fun h => e14 (h.resolve_left (by decide))⟩
                | 1, ho =>
                  cases Option.some.inj ho
                  have ev : a.tmps[1]?.getD undef = .slice (some ⟨ab, ao, none⟩) bl bc := by rw [ha]; kernel_rfl
                  refine wp_value (w' := w') (v := .slice (some ⟨ab, ao, none⟩) bl bc) (by simp [execOp, ev, go_sem]) ?_
                  exact ⟨v94, (.slice (some ⟨ab, ao, none⟩) bl bc), v96, v97, v98, v99, v100, v101, v102, v103, v104, v105, v106, v107, v108, nb, by rw [ha]; kernel_rfl, hB, hRb, hBR, hDv.imp_left .inr, fun h => e0 (h.resolve_left (by decide)), fun _ => rfl, fun h => e2 (h.resolve_left (by decide)), fun h => e3 (h.resolve_left (by decide)), fun h => e4 (h.resolve_left (by decide)), fun h => e5 (h.resolve_left (by decide)), fun h => e6 (h.resolve_left (by decide)), fun h => e7 (h.resolve_left (by decide)), fun h => e8 (h.resolve_left (by decide)), fun h => e9 (h.resolve_left (by decide)), fun h => e10 (h.resolve_left (by decide)), fun h => e11 (h.resolve_left (by decide)), fun h => e12 (h.resolve_left (by decide)), fun h => hr (h.resolve_left (by decide)), fun h => e13 (h.resolve_left (by decide)), fun h => hz (h.resolve_left (by decide)), fun h => e14 (h.resolve_left (by decide))⟩
                | 2, ho =>
                  cases Option.some.inj ho
                  have ev : a.tmps[13]?.getD undef = .int .i64 (j : Int) := by rw [ha]; kernel_rfl
                  refine wp_value (w' := w') (v := .int .i64 (j : Int)) (by simp [execOp, ev, go_sem]) ?_
                  exact ⟨v94, v95, (.int .i64 (j : Int)), v97, v98, v99, v100, v101, v102, v103, v104, v105, v106, v107, v108, nb, by rw [ha]; kernel_rfl, hB, hRb, hBR, hDv.imp_left .inr, fun h => e0 (h.resolve_left (by decide)), fun h => e1 (h.resolve_left (by decide)), fun _ => rfl, fun h => e3 (h.resolve_left (by decide)), fun h => e4 (h.resolve_left (by decide)), fun h => e5 (h.resolve_left (by decide)), fun h => e6 (h.resolve_left (by decide)), fun h => e7 (h.resolve_left (by decide)), fun h => e8 (h.resolve_left (by decide)), fun h => e9 (h.resolve_left (by decide)), fun h => e10 (h.resolve_left (by decide)), fun h => e11 (h.resolve_left (by decide)), fun h => e12 (h.resolve_left (by decide)), fun h => hr (h.resolve_left (by decide)), fun h => e13 (h.resolve_left (by decide)), fun h => hz (h.resolve_left (by decide)), fun h => e14 (h.resolve_left (by decide))⟩
                | 3, ho =>
                  cases Option.some.inj ho
                  have ev : a.tmps[95]?.getD undef = .slice (some ⟨ab, ao, none⟩) bl bc := by rw [ha, e1 (hd ⟨1, .data⟩ (by simp) rfl)]; kernel_rfl
                  have ev' : a.tmps[96]?.getD undef = .int .i64 (j : Int) := by rw [ha, e2 (hd ⟨2, .data⟩ (by simp) rfl)]; kernel_rfl
                  refine wp_value (w' := w') (v := .pointer (some ⟨ab, ao + j * 6, none⟩)) (by simp [execOp, ev, ev', go_sem, hidx, Addr.add_lit]) ?_
                  exact ⟨v94, v95, v96, (.pointer (some ⟨ab, ao + j * 6, none⟩)), v98, v99, v100, v101, v102, v103, v104, v105, v106, v107, v108, nb, by rw [ha]; kernel_rfl, hB, hRb, hBR, hDv.imp_left .inr, fun h => e0 (h.resolve_left (by decide)), fun h => e1 (h.resolve_left (by decide)), fun h => e2 (h.resolve_left (by decide)), fun _ => rfl, fun h => e4 (h.resolve_left (by decide)), fun h => e5 (h.resolve_left (by decide)), fun h => e6 (h.resolve_left (by decide)), fun h => e7 (h.resolve_left (by decide)), fun h => e8 (h.resolve_left (by decide)), fun h => e9 (h.resolve_left (by decide)), fun h => e10 (h.resolve_left (by decide)), fun h => e11 (h.resolve_left (by decide)), fun h => e12 (h.resolve_left (by decide)), fun h => hr (h.resolve_left (by decide)), fun h => e13 (h.resolve_left (by decide)), fun h => hz (h.resolve_left (by decide)), fun h => e14 (h.resolve_left (by decide))⟩
                | 4, ho =>
                  cases Option.some.inj ho
                  have ev : a.tmps[97]?.getD undef = .pointer (some ⟨ab, ao + j * 6, none⟩) := by rw [ha, e3 (hd ⟨3, .data⟩ (by simp) rfl)]; kernel_rfl
                  refine wp_value (w' := w') (v := .pointer (some ⟨ab, ao + j * 6 + 1, none⟩)) (by simp [execOp, ev, go_sem, Addr.add_lit]) ?_
                  exact ⟨v94, v95, v96, v97, (.pointer (some ⟨ab, ao + j * 6 + 1, none⟩)), v99, v100, v101, v102, v103, v104, v105, v106, v107, v108, nb, by rw [ha]; kernel_rfl, hB, hRb, hBR, hDv.imp_left .inr, fun h => e0 (h.resolve_left (by decide)), fun h => e1 (h.resolve_left (by decide)), fun h => e2 (h.resolve_left (by decide)), fun h => e3 (h.resolve_left (by decide)), fun _ => rfl, fun h => e5 (h.resolve_left (by decide)), fun h => e6 (h.resolve_left (by decide)), fun h => e7 (h.resolve_left (by decide)), fun h => e8 (h.resolve_left (by decide)), fun h => e9 (h.resolve_left (by decide)), fun h => e10 (h.resolve_left (by decide)), fun h => e11 (h.resolve_left (by decide)), fun h => e12 (h.resolve_left (by decide)), fun h => hr (h.resolve_left (by decide)), fun h => e13 (h.resolve_left (by decide)), fun h => hz (h.resolve_left (by decide)), fun h => e14 (h.resolve_left (by decide))⟩
                | 5, ho =>
                  cases Option.some.inj ho
                  have ev : a.tmps[98]?.getD undef = .pointer (some ⟨ab, ao + j * 6 + 1, none⟩) := by rw [ha, e4 (hd ⟨4, .data⟩ (by simp) rfl)]; kernel_rfl
                  have hc := (World.cell?_of_block (hB.block ab hab)).trans hc1
                  refine wp_value (w' := w') (v := .int .i64 qa) (by simp [execOp, ev, go_sem, hc]) ?_
                  exact ⟨v94, v95, v96, v97, v98, (.int .i64 qa), v100, v101, v102, v103, v104, v105, v106, v107, v108, nb, by rw [ha]; kernel_rfl, hB, hRb, hBR, hDv.imp_left .inr, fun h => e0 (h.resolve_left (by decide)), fun h => e1 (h.resolve_left (by decide)), fun h => e2 (h.resolve_left (by decide)), fun h => e3 (h.resolve_left (by decide)), fun h => e4 (h.resolve_left (by decide)), fun _ => rfl, fun h => e6 (h.resolve_left (by decide)), fun h => e7 (h.resolve_left (by decide)), fun h => e8 (h.resolve_left (by decide)), fun h => e9 (h.resolve_left (by decide)), fun h => e10 (h.resolve_left (by decide)), fun h => e11 (h.resolve_left (by decide)), fun h => e12 (h.resolve_left (by decide)), fun h => hr (h.resolve_left (by decide)), fun h => e13 (h.resolve_left (by decide)), fun h => hz (h.resolve_left (by decide)), fun h => e14 (h.resolve_left (by decide))⟩
                | 6, ho =>
                  cases Option.some.inj ho
                  have ev : a.tmps[14]?.getD undef = .int .i64 (m : Int) := by rw [ha]; kernel_rfl
                  refine wp_value (w' := w') (v := .int .i64 (m : Int)) (by simp [execOp, ev, go_sem]) ?_
                  exact ⟨v94, v95, v96, v97, v98, v99, (.int .i64 (m : Int)), v101, v102, v103, v104, v105, v106, v107, v108, nb, by rw [ha]; kernel_rfl, hB, hRb, hBR, hDv.imp_left .inr, fun h => e0 (h.resolve_left (by decide)), fun h => e1 (h.resolve_left (by decide)), fun h => e2 (h.resolve_left (by decide)), fun h => e3 (h.resolve_left (by decide)), fun h => e4 (h.resolve_left (by decide)), fun h => e5 (h.resolve_left (by decide)), fun _ => rfl, fun h => e7 (h.resolve_left (by decide)), fun h => e8 (h.resolve_left (by decide)), fun h => e9 (h.resolve_left (by decide)), fun h => e10 (h.resolve_left (by decide)), fun h => e11 (h.resolve_left (by decide)), fun h => e12 (h.resolve_left (by decide)), fun h => hr (h.resolve_left (by decide)), fun h => e13 (h.resolve_left (by decide)), fun h => hz (h.resolve_left (by decide)), fun h => e14 (h.resolve_left (by decide))⟩
                | 7, ho =>
                  cases Option.some.inj ho
                  have ev : a.tmps[1]?.getD undef = .slice (some ⟨ab, ao, none⟩) bl bc := by rw [ha]; kernel_rfl
                  refine wp_value (w' := w') (v := .slice (some ⟨ab, ao, none⟩) bl bc) (by simp [execOp, ev, go_sem]) ?_
                  exact ⟨v94, v95, v96, v97, v98, v99, v100, (.slice (some ⟨ab, ao, none⟩) bl bc), v102, v103, v104, v105, v106, v107, v108, nb, by rw [ha]; kernel_rfl, hB, hRb, hBR, hDv.imp_left .inr, fun h => e0 (h.resolve_left (by decide)), fun h => e1 (h.resolve_left (by decide)), fun h => e2 (h.resolve_left (by decide)), fun h => e3 (h.resolve_left (by decide)), fun h => e4 (h.resolve_left (by decide)), fun h => e5 (h.resolve_left (by decide)), fun h => e6 (h.resolve_left (by decide)), fun _ => rfl, fun h => e8 (h.resolve_left (by decide)), fun h => e9 (h.resolve_left (by decide)), fun h => e10 (h.resolve_left (by decide)), fun h => e11 (h.resolve_left (by decide)), fun h => e12 (h.resolve_left (by decide)), fun h => hr (h.resolve_left (by decide)), fun h => e13 (h.resolve_left (by decide)), fun h => hz (h.resolve_left (by decide)), fun h => e14 (h.resolve_left (by decide))⟩
                | 8, ho =>
                  cases Option.some.inj ho
                  have ev : a.tmps[13]?.getD undef = .int .i64 (j : Int) := by rw [ha]; kernel_rfl
                  refine wp_value (w' := w') (v := .int .i64 (j : Int)) (by simp [execOp, ev, go_sem]) ?_
                  exact ⟨v94, v95, v96, v97, v98, v99, v100, v101, (.int .i64 (j : Int)), v103, v104, v105, v106, v107, v108, nb, by rw [ha]; kernel_rfl, hB, hRb, hBR, hDv.imp_left .inr, fun h => e0 (h.resolve_left (by decide)), fun h => e1 (h.resolve_left (by decide)), fun h => e2 (h.resolve_left (by decide)), fun h => e3 (h.resolve_left (by decide)), fun h => e4 (h.resolve_left (by decide)), fun h => e5 (h.resolve_left (by decide)), fun h => e6 (h.resolve_left (by decide)), fun h => e7 (h.resolve_left (by decide)), fun _ => rfl, fun h => e9 (h.resolve_left (by decide)), fun h => e10 (h.resolve_left (by decide)), fun h => e11 (h.resolve_left (by decide)), fun h => e12 (h.resolve_left (by decide)), fun h => hr (h.resolve_left (by decide)), fun h => e13 (h.resolve_left (by decide)), fun h => hz (h.resolve_left (by decide)), fun h => e14 (h.resolve_left (by decide))⟩
                | 9, ho =>
                  cases Option.some.inj ho
                  have ev : a.tmps[101]?.getD undef = .slice (some ⟨ab, ao, none⟩) bl bc := by rw [ha, e7 (hd ⟨7, .data⟩ (by simp) rfl)]; kernel_rfl
                  have ev' : a.tmps[102]?.getD undef = .int .i64 (j : Int) := by rw [ha, e8 (hd ⟨8, .data⟩ (by simp) rfl)]; kernel_rfl
                  refine wp_value (w' := w') (v := .pointer (some ⟨ab, ao + j * 6, none⟩)) (by simp [execOp, ev, ev', go_sem, hidx, Addr.add_lit]) ?_
                  exact ⟨v94, v95, v96, v97, v98, v99, v100, v101, v102, (.pointer (some ⟨ab, ao + j * 6, none⟩)), v104, v105, v106, v107, v108, nb, by rw [ha]; kernel_rfl, hB, hRb, hBR, hDv.imp_left .inr, fun h => e0 (h.resolve_left (by decide)), fun h => e1 (h.resolve_left (by decide)), fun h => e2 (h.resolve_left (by decide)), fun h => e3 (h.resolve_left (by decide)), fun h => e4 (h.resolve_left (by decide)), fun h => e5 (h.resolve_left (by decide)), fun h => e6 (h.resolve_left (by decide)), fun h => e7 (h.resolve_left (by decide)), fun h => e8 (h.resolve_left (by decide)), fun _ => rfl, fun h => e10 (h.resolve_left (by decide)), fun h => e11 (h.resolve_left (by decide)), fun h => e12 (h.resolve_left (by decide)), fun h => hr (h.resolve_left (by decide)), fun h => e13 (h.resolve_left (by decide)), fun h => hz (h.resolve_left (by decide)), fun h => e14 (h.resolve_left (by decide))⟩
                | 10, ho =>
                  cases Option.some.inj ho
                  have ev : a.tmps[103]?.getD undef = .pointer (some ⟨ab, ao + j * 6, none⟩) := by rw [ha, e9 (hd ⟨9, .data⟩ (by simp) rfl)]; kernel_rfl
                  refine wp_value (w' := w') (v := .pointer (some ⟨ab, ao + j * 6 + 3, none⟩)) (by simp [execOp, ev, go_sem, Addr.add_lit]) ?_
                  exact ⟨v94, v95, v96, v97, v98, v99, v100, v101, v102, v103, (.pointer (some ⟨ab, ao + j * 6 + 3, none⟩)), v105, v106, v107, v108, nb, by rw [ha]; kernel_rfl, hB, hRb, hBR, hDv.imp_left .inr, fun h => e0 (h.resolve_left (by decide)), fun h => e1 (h.resolve_left (by decide)), fun h => e2 (h.resolve_left (by decide)), fun h => e3 (h.resolve_left (by decide)), fun h => e4 (h.resolve_left (by decide)), fun h => e5 (h.resolve_left (by decide)), fun h => e6 (h.resolve_left (by decide)), fun h => e7 (h.resolve_left (by decide)), fun h => e8 (h.resolve_left (by decide)), fun h => e9 (h.resolve_left (by decide)), fun _ => rfl, fun h => e11 (h.resolve_left (by decide)), fun h => e12 (h.resolve_left (by decide)), fun h => hr (h.resolve_left (by decide)), fun h => e13 (h.resolve_left (by decide)), fun h => hz (h.resolve_left (by decide)), fun h => e14 (h.resolve_left (by decide))⟩
                | 11, ho =>
                  cases Option.some.inj ho
                  have ev : a.tmps[104]?.getD undef = .pointer (some ⟨ab, ao + j * 6 + 3, none⟩) := by rw [ha, e10 (hd ⟨10, .data⟩ (by simp) rfl)]; kernel_rfl
                  have hc := (World.cell?_of_block (hB.block ab hab)).trans hc3
                  refine wp_value (w' := w') (v := .int .u8 (c0 : Int)) (by simp [execOp, ev, go_sem, hc]) ?_
                  exact ⟨v94, v95, v96, v97, v98, v99, v100, v101, v102, v103, v104, (.int .u8 (c0 : Int)), v106, v107, v108, nb, by rw [ha]; kernel_rfl, hB, hRb, hBR, hDv.imp_left .inr, fun h => e0 (h.resolve_left (by decide)), fun h => e1 (h.resolve_left (by decide)), fun h => e2 (h.resolve_left (by decide)), fun h => e3 (h.resolve_left (by decide)), fun h => e4 (h.resolve_left (by decide)), fun h => e5 (h.resolve_left (by decide)), fun h => e6 (h.resolve_left (by decide)), fun h => e7 (h.resolve_left (by decide)), fun h => e8 (h.resolve_left (by decide)), fun h => e9 (h.resolve_left (by decide)), fun h => e10 (h.resolve_left (by decide)), fun _ => rfl, fun h => e12 (h.resolve_left (by decide)), fun h => hr (h.resolve_left (by decide)), fun h => e13 (h.resolve_left (by decide)), fun h => hz (h.resolve_left (by decide)), fun h => e14 (h.resolve_left (by decide))⟩
                | 12, ho =>
                  cases Option.some.inj ho
                  have ev : a.tmps[100]?.getD undef = .int .i64 (m : Int) := by rw [ha, e6 (hd ⟨6, .data⟩ (by simp) rfl)]; kernel_rfl
                  have ev' : a.tmps[105]?.getD undef = .int .u8 (c0 : Int) := by rw [ha, e11 (hd ⟨11, .data⟩ (by simp) rfl)]; kernel_rfl
                  refine wp_enter (f := 10) (args := #[.int .i64 (m : Int), .int .u8 (c0 : Int)]) (by simp [execOp, ev, ev', go_sem]) ?_
                  refine (full_row w' m (c0 : Int) (by omega)).mono ?_
                  rintro e w6 ⟨nb2, rfl, _, hR, HB⟩
                  refine ⟨_, rfl, ?_⟩
                  exact ⟨v94, v95, v96, v97, v98, v99, v100, v101, v102, v103, v104, v105, (.slice (some ⟨nb2, 0, none⟩) (128 * m) (128 * m)), v107, v108, nb2, by rw [ha]; kernel_rfl, below_size hB (Nat.le_refl _) HB, hRb.below HB, hBR.below HB, hDv.imp .inr (fun h => h.same (fun i hi => HB.block i hi)), fun h => e0 (h.resolve_left (by decide)), fun h => e1 (h.resolve_left (by decide)), fun h => e2 (h.resolve_left (by decide)), fun h => e3 (h.resolve_left (by decide)), fun h => e4 (h.resolve_left (by decide)), fun h => e5 (h.resolve_left (by decide)), fun h => e6 (h.resolve_left (by decide)), fun h => e7 (h.resolve_left (by decide)), fun h => e8 (h.resolve_left (by decide)), fun h => e9 (h.resolve_left (by decide)), fun h => e10 (h.resolve_left (by decide)), fun h => e11 (h.resolve_left (by decide)), fun _ => rfl, fun _ => hR, fun h => e13 (h.resolve_left (by decide)), fun h => absurd (h.resolve_left (by decide)) (fun h => hn (hcl 13 _ rfl h ⟨12, .data⟩ (by simp) rfl)), fun h => e14 (h.resolve_left (by decide))⟩
                | 13, ho =>
                  cases Option.some.inj ho
                  have ev : a.tmps[94]?.getD undef = .pointer (some ⟨p, 0, none⟩) := by rw [ha, e0 (hd ⟨0, .data⟩ (by simp) rfl)]; kernel_rfl
                  have ev' : a.tmps[99]?.getD undef = .int .i64 qa := by rw [ha, e5 (hd ⟨5, .data⟩ (by simp) rfl)]; kernel_rfl
                  have ev'' : a.tmps[106]?.getD undef = .slice (some ⟨nb, 0, none⟩) (128 * m) (128 * m) := by rw [ha, e12 (hd ⟨12, .data⟩ (by simp) rfl)]; kernel_rfl
                  refine wp_enter (f := 9) (args := #[.pointer (some ⟨p, 0, none⟩), .int .i64 qa, .slice (some ⟨nb, 0, none⟩) (128 * m) (128 * m)]) (by simp [execOp, ev, ev', ev'', go_sem]) ?_
                  refine (act_write (hDv.resolve_left hn) qa (c0 : Int) hq1 m (by omega) (by omega) hq2 hq3 (hr (hd ⟨12, .data⟩ (by simp) rfl)) (by omega)).mono ?_
                  rintro e w6 ⟨rfl, pv2, D2, F2⟩
                  refine ⟨_, rfl, ?_⟩
                  rw [hrv.out]
                  exact ⟨v94, v95, v96, v97, v98, v99, v100, v101, v102, v103, v104, v105, v106, (.int .i64 rv), v108, nb, by rw [ha]; kernel_rfl, hB.trans (F2.below (hDv.resolve_left hn)), hRb.fr (hDv.resolve_left hn) F2, hBR.fr (hDv.resolve_left hn) F2, .inl (.inl rfl), fun h => e0 (h.resolve_left (by decide)), fun h => e1 (h.resolve_left (by decide)), fun h => e2 (h.resolve_left (by decide)), fun h => e3 (h.resolve_left (by decide)), fun h => e4 (h.resolve_left (by decide)), fun h => e5 (h.resolve_left (by decide)), fun h => e6 (h.resolve_left (by decide)), fun h => e7 (h.resolve_left (by decide)), fun h => e8 (h.resolve_left (by decide)), fun h => e9 (h.resolve_left (by decide)), fun h => e10 (h.resolve_left (by decide)), fun h => e11 (h.resolve_left (by decide)), fun h => e12 (h.resolve_left (by decide)), fun h => (hr (h.resolve_left (by decide))).fr (hDv.resolve_left hn) F2, fun _ => rfl, fun _ => ⟨pv2, D2⟩, fun h => e14 (h.resolve_left (by decide))⟩
                | 14, ho =>
                  cases Option.some.inj ho
                  have ev : a.tmps[107]?.getD undef = .int .i64 rv := by rw [ha, e13 (hd ⟨13, .data⟩ (by simp) rfl)]; kernel_rfl
                  refine wp_value (w' := w') (v := .bool (rv == 0)) (by simp [execOp, ev, go_sem]) ?_
                  exact ⟨v94, v95, v96, v97, v98, v99, v100, v101, v102, v103, v104, v105, v106, v107, (.bool (rv == 0)), nb, by rw [ha]; kernel_rfl, hB, hRb, hBR, hDv.imp_left .inr, fun h => e0 (h.resolve_left (by decide)), fun h => e1 (h.resolve_left (by decide)), fun h => e2 (h.resolve_left (by decide)), fun h => e3 (h.resolve_left (by decide)), fun h => e4 (h.resolve_left (by decide)), fun h => e5 (h.resolve_left (by decide)), fun h => e6 (h.resolve_left (by decide)), fun h => e7 (h.resolve_left (by decide)), fun h => e8 (h.resolve_left (by decide)), fun h => e9 (h.resolve_left (by decide)), fun h => e10 (h.resolve_left (by decide)), fun h => e11 (h.resolve_left (by decide)), fun h => e12 (h.resolve_left (by decide)), fun h => hr (h.resolve_left (by decide)), fun h => e13 (h.resolve_left (by decide)), fun h => hz (h.resolve_left (by decide)), fun _ => rfl⟩
                | i + 15, ho => simp at ho
              case done =>
                rintro D a w' ⟨v94, v95, v96, v97, v98, v99, v100, v101, v102, v103, v104, v105, v106, v107, v108, nb, ha, hB, hRb, hBR, hDv, e0, e1, e2, e3, e4, e5, e6, e7, e8, e9, e10, e11, e12, hr, e13, hz, e14⟩ hall
                obtain ⟨pv2, D2⟩ := hz (hall 13 (by decide))
                obtain rfl := e0 (hall 0 (by decide))
                obtain rfl := e1 (hall 1 (by decide))
                obtain rfl := e2 (hall 2 (by decide))
                obtain rfl := e3 (hall 3 (by decide))
                obtain rfl := e4 (hall 4 (by decide))
                obtain rfl := e5 (hall 5 (by decide))
                obtain rfl := e6 (hall 6 (by decide))
                obtain rfl := e7 (hall 7 (by decide))
                obtain rfl := e8 (hall 8 (by decide))
                obtain rfl := e9 (hall 9 (by decide))
                obtain rfl := e10 (hall 10 (by decide))
                obtain rfl := e11 (hall 11 (by decide))
                obtain rfl := e12 (hall 12 (by decide))
                obtain rfl := e13 (hall 13 (by decide))
                obtain rfl := e14 (hall 14 (by decide))
                clear hr hz hDv hall hDv0 hB0 hRb0 hBR0 hcN e0 e1 e2 e3 e4 e5 e6 e7 e8 e9 e10 e11 e12 e13 e14
                rw [ha]
                clear ha
                simp only [Act.put, List.setIfInBounds_toArray, List.set_cons_zero, List.set_cons_succ]
                generalize w' = w9 at *
                have hw1 : IntKind.i64.wrap ((j : Int) + 1) = (j : Int) + 1 := by rw [IntKind.wrap_i64]; omega
                by_cases hin : 0 ≤ qa ∧ qa + m ≤ 8
                · obtain rfl : rv = 0 := by have := hrv.out; rw [if_pos hin] at this; exact this.symm
                  obtain ⟨s0, rfl⟩ : ∃ s0 : Nat, qa = (s0 : Int) := ⟨qa.toNat, by omega⟩
                  have hs8 : s0 + m ≤ 8 := by omega
                  have hc256 : c0 < 256 := by omega
                  have eW : actW (s0 : Int) (c0 : Int) m = wsA (s0 : Int) (c0 : Int) m := by unfold actW; rw [if_pos hin]
                  have hwc : IntKind.i64.wrap (c0 : Int) = (c0 : Int) := by rw [IntKind.wrap_i64]; omega
                  rw [← hG1.out, appl_append, eW] at D2
                  clear hin hrv hq1 hq2 hq3
                  go_wp2
                  go_loopw [15] (fun i wr => ∃ (k : Nat) (f2 : Nat → Bool), k ≤ m ∧ i = .int .i64 (k : Int) ∧ Dev wr w.heap.size p bs bn pv2 8 H (appl H (M ++ wsA (s0 : Int) (c0 : Int) m)) (M ++ wsA (s0 : Int) (c0 : Int) m) 0 false ∧ Below w.heap.size w wr ∧ Row8 wr b6 (catS H 0 8) ∧ BRow wr wb f2 ∧ (∀ x, f x = true → f2 x = true) ∧ (∀ t, t < k → f2 ((s0 + t) * 256 + c0) = true)) (fun i _ => m - (intOf i).toNat)
                  case atStart => exact ⟨0, f, by omega, rfl, D2, hB, hRb, hBR, fun x h => h, fun t h => absurd h (by omega)⟩
                  case round =>
                    clear D2 hB hRb hBR
                    obtain ⟨k, f2, hk1, rfl, D3, hB3, hR3, hBR3, hsub, hnew⟩ := hrel
                    by_cases hkm : k = m
                    · have hlt : ¬ (k : Int) < (m : Int) := by omega
                      go_wp2
                      go_roundw
                      case rel =>
                        refine ⟨j + 1, _, pv2, f2, by omega, by omega, rfl, by rw [List.length_append, wsA_len]; omega, D3, hB3, hR3, hBR3, ?_⟩
                        intro z hz
                        rcases List.mem_append.1 hz with hz | hz
                        · obtain ⟨s, c, e, h1, h2, h3⟩ := hMk z hz
                          exact ⟨s, c, e, h1, h2, hsub _ h3⟩
                        · unfold wsA at hz
                          obtain ⟨t, ht, rfl⟩ := List.mem_map.1 hz
                          have ht' := List.mem_range.1 ht
                          exact ⟨s0 + t, c0, by simp, by omega, hc256, hnew t (by omega)⟩
                      case measure => simp [intOf]; omega
                    · have hlt : (k : Int) < (m : Int) := by omega
                      obtain ⟨x1, hx1⟩ : ∃ x1 : Nat, Hid (x1 = s0 + k) := ⟨_, rfl⟩
                      obtain ⟨x2, hx2⟩ : ∃ x2 : Nat, Hid (x2 = (s0 + k) * 256) := ⟨_, rfl⟩
                      obtain ⟨x3, hx3⟩ : ∃ x3 : Nat, Hid (x3 = (s0 + k) * 256 + c0) := ⟨_, rfl⟩
                      have hy1 : IntKind.i64.wrap ((s0 : Int) + (k : Int)) = (x1 : Int) := by have := hx1.out; rw [IntKind.wrap_i64]; omega
                      have hy2 : IntKind.i64.wrap ((x1 : Int) * 256) = (x2 : Int) := by have := hx1.out; have := hx2.out; rw [IntKind.wrap_i64]; omega
                      have hy3 : IntKind.i64.wrap ((x2 : Int) + (c0 : Int)) = (x3 : Int) := by have := hx2.out; have := hx3.out; rw [IntKind.wrap_i64]; omega
                      have hx8 : x3 < 2048 := by have := hx3.out; omega
                      have hwk : IntKind.i64.wrap ((k : Int) + 1) = (k : Int) + 1 := by rw [IntKind.wrap_i64]; omega
                      go_wp2
                      refine wp_region_inv' (fun A D a w' => ∃ v114 v115 v116 v117 v118 v119 v120 v121 v122 v123 v124 v125 v126 v127 v128 v16, a = ((((((((((((((((A.put (some 114) v114).put (some 115) v115).put (some 116) v116).put (some 117) v117).put (some 118) v118).put (some 119) v119).put (some 120) v120).put (some 121) v121).put (some 122) v122).put (some 123) v123).put (some 124) v124).put (some 125) v125).put (some 126) v126).put (some 127) v127).put (some 128) v128).put (some 16) v16) ∧ w' = wr.drew ∧ (D 0 → v114 = .slice (some ⟨ab, ao, none⟩) bl bc) ∧ (D 1 → v115 = .int .i64 (j : Int)) ∧ (D 2 → v116 = .pointer (some ⟨ab, ao + j * 6, none⟩)) ∧ (D 3 → v117 = .pointer (some ⟨ab, ao + j * 6 + 1, none⟩)) ∧ (D 4 → v118 = .int .i64 (s0 : Int)) ∧ (D 5 → v119 = .int .i64 (k : Int)) ∧ (D 6 → v120 = .int .i64 (x1 : Int)) ∧ (D 7 → v121 = .int .i64 (x2 : Int)) ∧ (D 8 → v122 = .slice (some ⟨ab, ao, none⟩) bl bc) ∧ (D 9 → v123 = .int .i64 (j : Int)) ∧ (D 10 → v124 = .pointer (some ⟨ab, ao + j * 6, none⟩)) ∧ (D 11 → v125 = .pointer (some ⟨ab, ao + j * 6 + 3, none⟩)) ∧ (D 12 → v126 = .int .u8 (c0 : Int)) ∧ (D 13 → v127 = .int .i64 (c0 : Int)) ∧ (D 14 → v128 = .int .i64 (x3 : Int)) ∧ (D 15 → v16 = .int .i64 (x3 : Int))) (by kernel_rfl) (by kernel_rfl) ?mono ?start ?step ?done
                      case mono =>
                        rintro D D' a w' hD ⟨v114, v115, v116, v117, v118, v119, v120, v121, v122, v123, v124, v125, v126, v127, v128, v16, ha, hw, e0, e1, e2, e3, e4, e5, e6, e7, e8, e9, e10, e11, e12, e13, e14, e15⟩
                        exact ⟨v114, v115, v116, v117, v118, v119, v120, v121, v122, v123, v124, v125, v126, v127, v128, v16, ha, hw, fun h => e0 ((hD 0).2 h), fun h => e1 ((hD 1).2 h), fun h => e2 ((hD 2).2 h), fun h => e3 ((hD 3).2 h), fun h => e4 ((hD 4).2 h), fun h => e5 ((hD 5).2 h), fun h => e6 ((hD 6).2 h), fun h => e7 ((hD 7).2 h), fun h => e8 ((hD 8).2 h), fun h => e9 ((hD 9).2 h), fun h => e10 ((hD 10).2 h), fun h => e11 ((hD 11).2 h), fun h => e12 ((hD 12).2 h), fun h => e13 ((hD 13).2 h), fun h => e14 ((hD 14).2 h), fun h => e15 ((hD 15).2 h)⟩
                      case start => exact ⟨u114, u115, u116, u117, u118, u119, u120, u121, u122, u123, u124, u125, u126, u127, u128, u16, by kernel_rfl, rfl, fun h => h.elim, fun h => h.elim, fun h => h.elim, fun h => h.elim, fun h => h.elim, fun h => h.elim, fun h => h.elim, fun h => h.elim, fun h => h.elim, fun h => h.elim, fun h => h.elim, fun h => h.elim, fun h => h.elim, fun h => h.elim, fun h => h.elim, fun h => h.elim⟩
                      case step =>
                        intro i o ho D a w' hI hn hcl hd
                        obtain ⟨v114, v115, v116, v117, v118, v119, v120, v121, v122, v123, v124, v125, v126, v127, v128, v16, ha, hw, e0, e1, e2, e3, e4, e5, e6, e7, e8, e9, e10, e11, e12, e13, e14, e15⟩ := hI
                        match i, ho with
                        | 0, ho =>
                          cases Option.some.inj ho
                          have ev : a.tmps[1]?.getD undef = .slice (some ⟨ab, ao, none⟩) bl bc := by rw [ha]; kernel_rfl
                          refine wp_value (w' := w') (v := .slice (some ⟨ab, ao, none⟩) bl bc) (by simp [execOp, ev, go_sem]) ?_
                          exact ⟨(.slice (some ⟨ab, ao, none⟩) bl bc), v115, v116, v117, v118, v119, v120, v121, v122, v123, v124, v125, v126, v127, v128, v16, by rw [ha]; kernel_rfl, hw, fun _ => rfl, fun h => e1 (h.resolve_left (by decide)), fun h => e2 (h.resolve_left (by decide)), fun h => e3 (h.resolve_left (by decide)), fun h => e4 (h.resolve_left (by decide)), fun h => e5 (h.resolve_left (by decide)), fun h => e6 (h.resolve_left (by decide)), fun h => e7 (h.resolve_left (by decide)), fun h => e8 (h.resolve_left (by decide)), fun h => e9 (h.resolve_left (by decide)), fun h => e10 (h.resolve_left (by decide)), fun h => e11 (h.resolve_left (by decide)), fun h => e12 (h.resolve_left (by decide)), fun h => e13 (h.resolve_left (by decide)), fun h => e14 (h.resolve_left (by decide)), fun h => e15 (h.resolve_left (by decide))⟩
                        | 1, ho =>
                          cases Option.some.inj ho
                          have ev : a.tmps[13]?.getD undef = .int .i64 (j : Int) := by rw [ha]; kernel_rfl
                          refine wp_value (w' := w') (v := .int .i64 (j : Int)) (by simp [execOp, ev, go_sem]) ?_
                          exact ⟨v114, (.int .i64 (j : Int)), v116, v117, v118, v119, v120, v121, v122, v123, v124, v125, v126, v127, v128, v16, by rw [ha]; kernel_rfl, hw, fun h => e0 (h.resolve_left (by decide)), fun _ => rfl, fun h => e2 (h.resolve_left (by decide)), fun h => e3 (h.resolve_left (by decide)), fun h => e4 (h.resolve_left (by decide)), fun h => e5 (h.resolve_left (by decide)), fun h => e6 (h.resolve_left (by decide)), fun h => e7 (h.resolve_left (by decide)), fun h => e8 (h.resolve_left (by decide)), fun h => e9 (h.resolve_left (by decide)), fun h => e10 (h.resolve_left (by decide)), fun h => e11 (h.resolve_left (by decide)), fun h => e12 (h.resolve_left (by decide)), fun h => e13 (h.resolve_left (by decide)), fun h => e14 (h.resolve_left (by decide)), fun h => e15 (h.resolve_left (by decide))⟩
                        | 2, ho =>
                          cases Option.some.inj ho
                          have ev : a.tmps[114]?.getD undef = .slice (some ⟨ab, ao, none⟩) bl bc := by rw [ha, e0 (hd ⟨0, .data⟩ (by simp) rfl)]; kernel_rfl
                          have ev' : a.tmps[115]?.getD undef = .int .i64 (j : Int) := by rw [ha, e1 (hd ⟨1, .data⟩ (by simp) rfl)]; kernel_rfl
                          refine wp_value (w' := w') (v := .pointer (some ⟨ab, ao + j * 6, none⟩)) (by simp [execOp, ev, ev', go_sem, hidx, Addr.add_lit]) ?_
                          exact ⟨v114, v115, (.pointer (some ⟨ab, ao + j * 6, none⟩)), v117, v118, v119, v120, v121, v122, v123, v124, v125, v126, v127, v128, v16, by rw [ha]; kernel_rfl, hw, fun h => e0 (h.resolve_left (by decide)), fun h => e1 (h.resolve_left (by decide)), fun _ => rfl, fun h => e3 (h.resolve_left (by decide)), fun h => e4 (h.resolve_left (by decide)), fun h => e5 (h.resolve_left (by decide)), fun h => e6 (h.resolve_left (by decide)), fun h => e7 (h.resolve_left (by decide)), fun h => e8 (h.resolve_left (by decide)), fun h => e9 (h.resolve_left (by decide)), fun h => e10 (h.resolve_left (by decide)), fun h => e11 (h.resolve_left (by decide)), fun h => e12 (h.resolve_left (by decide)), fun h => e13 (h.resolve_left (by decide)), fun h => e14 (h.resolve_left (by decide)), fun h => e15 (h.resolve_left (by decide))⟩
                        | 3, ho =>
                          cases Option.some.inj ho
                          have ev : a.tmps[116]?.getD undef = .pointer (some ⟨ab, ao + j * 6, none⟩) := by rw [ha, e2 (hd ⟨2, .data⟩ (by simp) rfl)]; kernel_rfl
                          refine wp_value (w' := w') (v := .pointer (some ⟨ab, ao + j * 6 + 1, none⟩)) (by simp [execOp, ev, go_sem, Addr.add_lit]) ?_
                          exact ⟨v114, v115, v116, (.pointer (some ⟨ab, ao + j * 6 + 1, none⟩)), v118, v119, v120, v121, v122, v123, v124, v125, v126, v127, v128, v16, by rw [ha]; kernel_rfl, hw, fun h => e0 (h.resolve_left (by decide)), fun h => e1 (h.resolve_left (by decide)), fun h => e2 (h.resolve_left (by decide)), fun _ => rfl, fun h => e4 (h.resolve_left (by decide)), fun h => e5 (h.resolve_left (by decide)), fun h => e6 (h.resolve_left (by decide)), fun h => e7 (h.resolve_left (by decide)), fun h => e8 (h.resolve_left (by decide)), fun h => e9 (h.resolve_left (by decide)), fun h => e10 (h.resolve_left (by decide)), fun h => e11 (h.resolve_left (by decide)), fun h => e12 (h.resolve_left (by decide)), fun h => e13 (h.resolve_left (by decide)), fun h => e14 (h.resolve_left (by decide)), fun h => e15 (h.resolve_left (by decide))⟩
                        | 4, ho =>
                          cases Option.some.inj ho
                          have ev : a.tmps[117]?.getD undef = .pointer (some ⟨ab, ao + j * 6 + 1, none⟩) := by rw [ha, e3 (hd ⟨3, .data⟩ (by simp) rfl)]; kernel_rfl
                          have hc : w'.cell? ⟨ab, ao + j * 6 + 1, none⟩ = some (.int .i64 (s0 : Int)) := (by rw [hw]; exact (World.cell?_of_block (hB3.block ab hab)).trans hc1)
                          refine wp_value (w' := w') (v := .int .i64 (s0 : Int)) (by simp [execOp, ev, go_sem, hc]) ?_
                          exact ⟨v114, v115, v116, v117, (.int .i64 (s0 : Int)), v119, v120, v121, v122, v123, v124, v125, v126, v127, v128, v16, by rw [ha]; kernel_rfl, hw, fun h => e0 (h.resolve_left (by decide)), fun h => e1 (h.resolve_left (by decide)), fun h => e2 (h.resolve_left (by decide)), fun h => e3 (h.resolve_left (by decide)), fun _ => rfl, fun h => e5 (h.resolve_left (by decide)), fun h => e6 (h.resolve_left (by decide)), fun h => e7 (h.resolve_left (by decide)), fun h => e8 (h.resolve_left (by decide)), fun h => e9 (h.resolve_left (by decide)), fun h => e10 (h.resolve_left (by decide)), fun h => e11 (h.resolve_left (by decide)), fun h => e12 (h.resolve_left (by decide)), fun h => e13 (h.resolve_left (by decide)), fun h => e14 (h.resolve_left (by decide)), fun h => e15 (h.resolve_left (by decide))⟩
                        | 5, ho =>
                          cases Option.some.inj ho
                          have ev : a.tmps[15]?.getD undef = .int .i64 (k : Int) := by rw [ha]; kernel_rfl
                          refine wp_value (w' := w') (v := .int .i64 (k : Int)) (by simp [execOp, ev, go_sem]) ?_
                          exact ⟨v114, v115, v116, v117, v118, (.int .i64 (k : Int)), v120, v121, v122, v123, v124, v125, v126, v127, v128, v16, by rw [ha]; kernel_rfl, hw, fun h => e0 (h.resolve_left (by decide)), fun h => e1 (h.resolve_left (by decide)), fun h => e2 (h.resolve_left (by decide)), fun h => e3 (h.resolve_left (by decide)), fun h => e4 (h.resolve_left (by decide)), fun _ => rfl, fun h => e6 (h.resolve_left (by decide)), fun h => e7 (h.resolve_left (by decide)), fun h => e8 (h.resolve_left (by decide)), fun h => e9 (h.resolve_left (by decide)), fun h => e10 (h.resolve_left (by decide)), fun h => e11 (h.resolve_left (by decide)), fun h => e12 (h.resolve_left (by decide)), fun h => e13 (h.resolve_left (by decide)), fun h => e14 (h.resolve_left (by decide)), fun h => e15 (h.resolve_left (by decide))⟩
                        | 6, ho =>
                          cases Option.some.inj ho
                          have ev : a.tmps[118]?.getD undef = .int .i64 (s0 : Int) := by rw [ha, e4 (hd ⟨4, .data⟩ (by simp) rfl)]; kernel_rfl
                          have ev' : a.tmps[119]?.getD undef = .int .i64 (k : Int) := by rw [ha, e5 (hd ⟨5, .data⟩ (by simp) rfl)]; kernel_rfl
                          refine wp_value (w' := w') (v := .int .i64 (x1 : Int)) (by simp [execOp, ev, ev', go_sem, hy1]) ?_
                          exact ⟨v114, v115, v116, v117, v118, v119, (.int .i64 (x1 : Int)), v121, v122, v123, v124, v125, v126, v127, v128, v16, by rw [ha]; kernel_rfl, hw, fun h => e0 (h.resolve_left (by decide)), fun h => e1 (h.resolve_left (by decide)), fun h => e2 (h.resolve_left (by decide)), fun h => e3 (h.resolve_left (by decide)), fun h => e4 (h.resolve_left (by decide)), fun h => e5 (h.resolve_left (by decide)), fun _ => rfl, fun h => e7 (h.resolve_left (by decide)), fun h => e8 (h.resolve_left (by decide)), fun h => e9 (h.resolve_left (by decide)), fun h => e10 (h.resolve_left (by decide)), fun h => e11 (h.resolve_left (by decide)), fun h => e12 (h.resolve_left (by decide)), fun h => e13 (h.resolve_left (by decide)), fun h => e14 (h.resolve_left (by decide)), fun h => e15 (h.resolve_left (by decide))⟩
                        | 7, ho =>
                          cases Option.some.inj ho
                          have ev : a.tmps[120]?.getD undef = .int .i64 (x1 : Int) := by rw [ha, e6 (hd ⟨6, .data⟩ (by simp) rfl)]; kernel_rfl
                          refine wp_value (w' := w') (v := .int .i64 (x2 : Int)) (by simp [execOp, ev, go_sem, hy2]) ?_
                          exact ⟨v114, v115, v116, v117, v118, v119, v120, (.int .i64 (x2 : Int)), v122, v123, v124, v125, v126, v127, v128, v16, by rw [ha]; kernel_rfl, hw, fun h => e0 (h.resolve_left (by decide)), fun h => e1 (h.resolve_left (by decide)), fun h => e2 (h.resolve_left (by decide)), fun h => e3 (h.resolve_left (by decide)), fun h => e4 (h.resolve_left (by decide)), fun h => e5 (h.resolve_left (by decide)), fun h => e6 (h.resolve_left (by decide)), fun _ => rfl, fun h => e8 (h.resolve_left (by decide)), fun h => e9 (h.resolve_left (by decide)), fun h => e10 (h.resolve_left (by decide)), fun h => e11 (h.resolve_left (by decide)), fun h => e12 (h.resolve_left (by decide)), fun h => e13 (h.resolve_left (by decide)), fun h => e14 (h.resolve_left (by decide)), fun h => e15 (h.resolve_left (by decide))⟩
                        | 8, ho =>
                          cases Option.some.inj ho
                          have ev : a.tmps[1]?.getD undef = .slice (some ⟨ab, ao, none⟩) bl bc := by rw [ha]; kernel_rfl
                          refine wp_value (w' := w') (v := .slice (some ⟨ab, ao, none⟩) bl bc) (by simp [execOp, ev, go_sem]) ?_
                          exact ⟨v114, v115, v116, v117, v118, v119, v120, v121, (.slice (some ⟨ab, ao, none⟩) bl bc), v123, v124, v125, v126, v127, v128, v16, by rw [ha]; kernel_rfl, hw, fun h => e0 (h.resolve_left (by decide)), fun h => e1 (h.resolve_left (by decide)), fun h => e2 (h.resolve_left (by decide)), fun h => e3 (h.resolve_left (by decide)), fun h => e4 (h.resolve_left (by decide)), fun h => e5 (h.resolve_left (by decide)), fun h => e6 (h.resolve_left (by decide)), fun h => e7 (h.resolve_left (by decide)), fun _ => rfl, fun h => e9 (h.resolve_left (by decide)), fun h => e10 (h.resolve_left (by decide)), fun h => e11 (h.resolve_left (by decide)), fun h => e12 (h.resolve_left (by decide)), fun h => e13 (h.resolve_left (by decide)), fun h => e14 (h.resolve_left (by decide)), fun h => e15 (h.resolve_left (by decide))⟩
                        | 9, ho =>
                          cases Option.some.inj ho
                          have ev : a.tmps[13]?.getD undef = .int .i64 (j : Int) := by rw [ha]; kernel_rfl
                          refine wp_value (w' := w') (v := .int .i64 (j : Int)) (by simp [execOp, ev, go_sem]) ?_
                          exact ⟨v114, v115, v116, v117, v118, v119, v120, v121, v122, (.int .i64 (j : Int)), v124, v125, v126, v127, v128, v16, by rw [ha]; kernel_rfl, hw, fun h => e0 (h.resolve_left (by decide)), fun h => e1 (h.resolve_left (by decide)), fun h => e2 (h.resolve_left (by decide)), fun h => e3 (h.resolve_left (by decide)), fun h => e4 (h.resolve_left (by decide)), fun h => e5 (h.resolve_left (by decide)), fun h => e6 (h.resolve_left (by decide)), fun h => e7 (h.resolve_left (by decide)), fun h => e8 (h.resolve_left (by decide)), fun _ => rfl, fun h => e10 (h.resolve_left (by decide)), fun h => e11 (h.resolve_left (by decide)), fun h => e12 (h.resolve_left (by decide)), fun h => e13 (h.resolve_left (by decide)), fun h => e14 (h.resolve_left (by decide)), fun h => e15 (h.resolve_left (by decide))⟩
                        | 10, ho =>
                          cases Option.some.inj ho
                          have ev : a.tmps[122]?.getD undef = .slice (some ⟨ab, ao, none⟩) bl bc := by rw [ha, e8 (hd ⟨8, .data⟩ (by simp) rfl)]; kernel_rfl
                          have ev' : a.tmps[123]?.getD undef = .int .i64 (j : Int) := by rw [ha, e9 (hd ⟨9, .data⟩ (by simp) rfl)]; kernel_rfl
                          refine wp_value (w' := w') (v := .pointer (some ⟨ab, ao + j * 6, none⟩)) (by simp [execOp, ev, ev', go_sem, hidx, Addr.add_lit]) ?_
                          exact ⟨v114, v115, v116, v117, v118, v119, v120, v121, v122, v123, (.pointer (some ⟨ab, ao + j * 6, none⟩)), v125, v126, v127, v128, v16, by rw [ha]; kernel_rfl, hw, fun h => e0 (h.resolve_left (by decide)), fun h => e1 (h.resolve_left (by decide)), fun h => e2 (h.resolve_left (by decide)), fun h => e3 (h.resolve_left (by decide)), fun h => e4 (h.resolve_left (by decide)), fun h => e5 (h.resolve_left (by decide)), fun h => e6 (h.resolve_left (by decide)), fun h => e7 (h.resolve_left (by decide)), fun h => e8 (h.resolve_left (by decide)), fun h => e9 (h.resolve_left (by decide)), fun _ => rfl, fun h => e11 (h.resolve_left (by decide)), fun h => e12 (h.resolve_left (by decide)), fun h => e13 (h.resolve_left (by decide)), fun h => e14 (h.resolve_left (by decide)), fun h => e15 (h.resolve_left (by decide))⟩
                        | 11, ho =>
                          cases Option.some.inj ho
                          have ev : a.tmps[124]?.getD undef = .pointer (some ⟨ab, ao + j * 6, none⟩) := by rw [ha, e10 (hd ⟨10, .data⟩ (by simp) rfl)]; kernel_rfl
                          refine wp_value (w' := w') (v := .pointer (some ⟨ab, ao + j * 6 + 3, none⟩)) (by simp [execOp, ev, go_sem, Addr.add_lit]) ?_
                          exact ⟨v114, v115, v116, v117, v118, v119, v120, v121, v122, v123, v124, (.pointer (some ⟨ab, ao + j * 6 + 3, none⟩)), v126, v127, v128, v16, by rw [ha]; kernel_rfl, hw, fun h => e0 (h.resolve_left (by decide)), fun h => e1 (h.resolve_left (by decide)), fun h => e2 (h.resolve_left (by decide)), fun h => e3 (h.resolve_left (by decide)), fun h => e4 (h.resolve_left (by decide)), fun h => e5 (h.resolve_left (by decide)), fun h => e6 (h.resolve_left (by decide)), fun h => e7 (h.resolve_left (by decide)), fun h => e8 (h.resolve_left (by decide)), fun h => e9 (h.resolve_left (by decide)), fun h => e10 (h.resolve_left (by decide)), fun _ => rfl, fun h => e12 (h.resolve_left (by decide)), fun h => e13 (h.resolve_left (by decide)), fun h => e14 (h.resolve_left (by decide)), fun h => e15 (h.resolve_left (by decide))⟩
                        | 12, ho =>
                          cases Option.some.inj ho
                          have ev : a.tmps[125]?.getD undef = .pointer (some ⟨ab, ao + j * 6 + 3, none⟩) := by rw [ha, e11 (hd ⟨11, .data⟩ (by simp) rfl)]; kernel_rfl
                          have hc : w'.cell? ⟨ab, ao + j * 6 + 3, none⟩ = some (.int .u8 (c0 : Int)) := (by rw [hw]; exact (World.cell?_of_block (hB3.block ab hab)).trans hc3)
                          refine wp_value (w' := w') (v := .int .u8 (c0 : Int)) (by simp [execOp, ev, go_sem, hc]) ?_
                          exact ⟨v114, v115, v116, v117, v118, v119, v120, v121, v122, v123, v124, v125, (.int .u8 (c0 : Int)), v127, v128, v16, by rw [ha]; kernel_rfl, hw, fun h => e0 (h.resolve_left (by decide)), fun h => e1 (h.resolve_left (by decide)), fun h => e2 (h.resolve_left (by decide)), fun h => e3 (h.resolve_left (by decide)), fun h => e4 (h.resolve_left (by decide)), fun h => e5 (h.resolve_left (by decide)), fun h => e6 (h.resolve_left (by decide)), fun h => e7 (h.resolve_left (by decide)), fun h => e8 (h.resolve_left (by decide)), fun h => e9 (h.resolve_left (by decide)), fun h => e10 (h.resolve_left (by decide)), fun h => e11 (h.resolve_left (by decide)), fun _ => rfl, fun h => e13 (h.resolve_left (by decide)), fun h => e14 (h.resolve_left (by decide)), fun h => e15 (h.resolve_left (by decide))⟩
                        | 13, ho =>
                          cases Option.some.inj ho
                          have ev : a.tmps[126]?.getD undef = .int .u8 (c0 : Int) := by rw [ha, e12 (hd ⟨12, .data⟩ (by simp) rfl)]; kernel_rfl
                          refine wp_value (w' := w') (v := .int .i64 (c0 : Int)) (by simp [execOp, ev, go_sem, hwc]) ?_
                          exact ⟨v114, v115, v116, v117, v118, v119, v120, v121, v122, v123, v124, v125, v126, (.int .i64 (c0 : Int)), v128, v16, by rw [ha]; kernel_rfl, hw, fun h => e0 (h.resolve_left (by decide)), fun h => e1 (h.resolve_left (by decide)), fun h => e2 (h.resolve_left (by decide)), fun h => e3 (h.resolve_left (by decide)), fun h => e4 (h.resolve_left (by decide)), fun h => e5 (h.resolve_left (by decide)), fun h => e6 (h.resolve_left (by decide)), fun h => e7 (h.resolve_left (by decide)), fun h => e8 (h.resolve_left (by decide)), fun h => e9 (h.resolve_left (by decide)), fun h => e10 (h.resolve_left (by decide)), fun h => e11 (h.resolve_left (by decide)), fun h => e12 (h.resolve_left (by decide)), fun _ => rfl, fun h => e14 (h.resolve_left (by decide)), fun h => e15 (h.resolve_left (by decide))⟩
                        | 14, ho =>
                          cases Option.some.inj ho
                          have ev : a.tmps[121]?.getD undef = .int .i64 (x2 : Int) := by rw [ha, e7 (hd ⟨7, .data⟩ (by simp) rfl)]; kernel_rfl
                          have ev' : a.tmps[127]?.getD undef = .int .i64 (c0 : Int) := by rw [ha, e13 (hd ⟨13, .data⟩ (by simp) rfl)]; kernel_rfl
                          refine wp_value (w' := w') (v := .int .i64 (x3 : Int)) (by simp [execOp, ev, ev', go_sem, hy3]) ?_
                          exact ⟨v114, v115, v116, v117, v118, v119, v120, v121, v122, v123, v124, v125, v126, v127, (.int .i64 (x3 : Int)), v16, by rw [ha]; kernel_rfl, hw, fun h => e0 (h.resolve_left (by decide)), fun h => e1 (h.resolve_left (by decide)), fun h => e2 (h.resolve_left (by decide)), fun h => e3 (h.resolve_left (by decide)), fun h => e4 (h.resolve_left (by decide)), fun h => e5 (h.resolve_left (by decide)), fun h => e6 (h.resolve_left (by decide)), fun h => e7 (h.resolve_left (by decide)), fun h => e8 (h.resolve_left (by decide)), fun h => e9 (h.resolve_left (by decide)), fun h => e10 (h.resolve_left (by decide)), fun h => e11 (h.resolve_left (by decide)), fun h => e12 (h.resolve_left (by decide)), fun h => e13 (h.resolve_left (by decide)), fun _ => rfl, fun h => e15 (h.resolve_left (by decide))⟩
                        | 15, ho =>
                          cases Option.some.inj ho
                          have ev : a.tmps[128]?.getD undef = .int .i64 (x3 : Int) := by rw [ha, e14 (hd ⟨14, .data⟩ (by simp) rfl)]; kernel_rfl
                          refine wp_value (w' := w') (v := .int .i64 (x3 : Int)) (by simp [execOp, ev, go_sem]) ?_
                          exact ⟨v114, v115, v116, v117, v118, v119, v120, v121, v122, v123, v124, v125, v126, v127, v128, (.int .i64 (x3 : Int)), by rw [ha]; kernel_rfl, hw, fun h => e0 (h.resolve_left (by decide)), fun h => e1 (h.resolve_left (by decide)), fun h => e2 (h.resolve_left (by decide)), fun h => e3 (h.resolve_left (by decide)), fun h => e4 (h.resolve_left (by decide)), fun h => e5 (h.resolve_left (by decide)), fun h => e6 (h.resolve_left (by decide)), fun h => e7 (h.resolve_left (by decide)), fun h => e8 (h.resolve_left (by decide)), fun h => e9 (h.resolve_left (by decide)), fun h => e10 (h.resolve_left (by decide)), fun h => e11 (h.resolve_left (by decide)), fun h => e12 (h.resolve_left (by decide)), fun h => e13 (h.resolve_left (by decide)), fun h => e14 (h.resolve_left (by decide)), fun _ => rfl⟩
                        | i + 16, ho => simp at ho
                      case done =>
                        rintro D a w' ⟨v114, v115, v116, v117, v118, v119, v120, v121, v122, v123, v124, v125, v126, v127, v128, v16, ha, hw, e0, e1, e2, e3, e4, e5, e6, e7, e8, e9, e10, e11, e12, e13, e14, e15⟩ hall
                        obtain rfl := e0 (hall 0 (by decide))
                        obtain rfl := e1 (hall 1 (by decide))
                        obtain rfl := e2 (hall 2 (by decide))
                        obtain rfl := e3 (hall 3 (by decide))
                        obtain rfl := e4 (hall 4 (by decide))
                        obtain rfl := e5 (hall 5 (by decide))
                        obtain rfl := e6 (hall 6 (by decide))
                        obtain rfl := e7 (hall 7 (by decide))
                        obtain rfl := e8 (hall 8 (by decide))
                        obtain rfl := e9 (hall 9 (by decide))
                        obtain rfl := e10 (hall 10 (by decide))
                        obtain rfl := e11 (hall 11 (by decide))
                        obtain rfl := e12 (hall 12 (by decide))
                        obtain rfl := e13 (hall 13 (by decide))
                        obtain rfl := e14 (hall 14 (by decide))
                        obtain rfl := e15 (hall 15 (by decide))
                        subst hw
                        clear hall e0 e1 e2 e3 e4 e5 e6 e7 e8 e9 e10 e11 e12 e13 e14 e15
                        rw [ha]
                        clear ha
                        simp only [Act.put, List.setIfInBounds_toArray, List.set_cons_zero, List.set_cons_succ]
                        have k1 : wr.drew.cell? ⟨wb, x3, none⟩ = some (.bool (f2 x3)) := hBR3.cell x3 hx8
                        have k2 : wr.drew.frozen? ⟨wb, x3, none⟩ = false := hBR3.frozen x3
                        have D4 : Dev wr.drew w.heap.size p bs bn pv2 8 H (appl H (M ++ wsA (s0 : Int) (c0 : Int) m)) (M ++ wsA (s0 : Int) (c0 : Int) m) 0 false := D3.same (fun _ _ => rfl)
                        have hR4 : Row8 wr.drew b6 (catS H 0 8) := hR3
                        have hBR4 : BRow wr.drew wb f2 := hBR3
                        have hB4 := hB3.drew
                        clear D3 hR3 hBR3 hB3
                        generalize wr.drew = wd at *
                        have hx9 : ¬ (2048 : Int) ≤ (x3 : Int) := by omega
                        go_wp2
                        go_roundw
                        case rel =>
                          refine ⟨k + 1, by omega, rfl, hBR4.dev D4 x3 _, hB4.setCell (p := ⟨wb, x3, none⟩) hwb _, hBR4.row hR4 _, _, hBR4.set x3, ?_, ?_⟩
                          · intro x hx
                            simp [hsub x hx]
                          · intro t ht
                            by_cases e : t = k
                            · subst e
                              simp [hx3.out]
                            · simp [hnew t (by omega)]
                        case measure => simp [intOf]; omega
                · obtain rfl : rv = 13 := by have := hrv.out; rw [if_neg hin] at this; exact this.symm
                  have eW : actW qa (c0 : Int) m = [] := by unfold actW; rw [if_neg hin]
                  rw [eW, appl_nil, ← hG1.out, List.append_nil] at D2
                  clear hin hrv
                  go_wp2
                  go_roundw
                  case rel => exact ⟨j + 1, M, pv2, f, by omega, by omega, rfl, by omega, D2, hB, hRb, hBR, hMk⟩
                  case measure => simp [intOf]; omega
            · have hgd : decide (j < bl ∧ j < 40) = false := decide_eq_false hgo
              rw [hgd]
              clear hgo hgd
              have hM : M.length ≤ 120 := by omega
              go_wp2_with fail
              refine (Crash_some hDv0 (fun _ => rfl) ka kn kc ks (hk.below hkb hB0) hkn (by omega) (fun b off e h0 => ?_)).mono ?_
              · have hb := hkb b off e h0
                refine ⟨?_, ?_, ?_, fun e => ?_⟩
                · have := hDv0.fromP; omega
                · have := hDv0.fromS; omega
                · have := hDv0.fromN; omega
                · have := (own_block hDv0.pend e).1; omega
              rintro e w8 ⟨rfl, D8, F8⟩
              have hB8 := hB0.trans (F8.below hDv0)
              have hR8 := hRb0.fr hDv0 F8
              have hBR8 := hBR0.fr hDv0 F8
              have hHs : ∀ k, IsSec (H k) := fun k => hDv0.safe.isSec k
              have hXs : ∀ k, IsSec (appl H (keptL M ks) k) := fun k => D8.now.isSec k
              have hor : ∀ s : Nat, s < 8 → appl H (keptL M ks) (s : Int) = H (s : Int) ∨ ∃ c : Nat, c < 256 ∧ appl H (keptL M ks) (s : Int) = sv 128 (c : Int) ∧ f (s * 256 + c) = true := by
                intro s _
                rcases appl_or (keptL M ks) H (s : Int) with h | ⟨z, hz, h1, h2⟩
                · exact .inl h
                · obtain ⟨s', c, rfl, _, h4, h5⟩ := hMk z (kept_in hz)
                  have : s' = s := by have e : (s' : Int) = (s : Int) := h1; omega
                  subst this
                  exact .inr ⟨c, h4, h2, h5⟩
              clear hDv0 F8 hRb0 hBR0 hB0 hMk
              generalize appl H (keptL M ks) = X at *
              go_wp2_with fail
              refine (read_8 D8).mono ?_
              rintro e w9 ⟨b9, rfl, _, hR9, hb9⟩
              have D9 := D8.below hb9
              have hRa := hR8.below hb9
              have hBRa := hBR8.below hb9
              have hB9 := below_size hB8 (Nat.le_refl _) hb9
              clear D8 hR8 hBR8 hB8 hb9
              go_wp2_with fail
              refine (pending_any D9).mono ?_
              rintro e w10 ⟨rfl, rfl⟩
              rw [List.length_nil]
              clear D9
              go_wp2
              go_loopw [19] (fun i wr => ∃ s : Nat, s ≤ 8 ∧ i = .int .i64 (s : Int) ∧ Row8 wr b9 (catS X 0 8) ∧ Row8 wr b6 (catS H 0 8) ∧ BRow wr wb f ∧ Below w.heap.size w wr) (fun i _ => 8 - (intOf i).toNat)
              case atStart => exact ⟨0, by omega, rfl, hR9, hRa, hBRa, hB9⟩
              case round =>
                clear hR9 hRa hBRa hB9
                obtain ⟨s, hs, rfl, hR9, hRa, hBRa, hB9⟩ := hrel
                by_cases hs8 : s = 8
                · have hlt : ¬ (s : Int) < 8 := by omega
                  go_wp2_with fail
                  refine (known_true wr).mono ?_
                  rintro e w11 ⟨rfl, hb11⟩
                  have hBE := below_size hB9 (Nat.le_refl _) hb11
                  clear hb11
                  go_wp2
                  go_ret
                  exact ⟨rfl, hBE⟩
                · have hlt : (s : Int) < 8 := by omega
                  have hs7 : s < 8 := by omega
                  obtain ⟨y1, hy1⟩ : ∃ y : Nat, Hid (y = s * 128) := ⟨_, rfl⟩
                  obtain ⟨y2, hy2⟩ : ∃ y : Nat, Hid (y = s + 1) := ⟨_, rfl⟩
                  obtain ⟨y3, hy3⟩ : ∃ y : Nat, Hid (y = (s + 1) * 128) := ⟨_, rfl⟩
                  have hz1 : IntKind.i64.wrap ((s : Int) * 128) = (y1 : Int) := by have := hy1.out; rw [IntKind.wrap_i64]; omega
                  have hz2 : IntKind.i64.wrap ((s : Int) + 1) = (y2 : Int) := by have := hy2.out; rw [IntKind.wrap_i64]; omega
                  have hz3 : IntKind.i64.wrap ((y2 : Int) * 128) = (y3 : Int) := by have := hy2.out; have := hy3.out; rw [IntKind.wrap_i64]; omega
                  have hle1 : y1 ≤ y3 := by have := hy1.out; have := hy3.out; omega
                  have hle2 : y3 ≤ 1024 := by have := hy3.out; omega
                  have hdf : y3 - y1 = 128 := by have := hy1.out; have := hy3.out; omega
                  have hle3 : (y3 : Int) ≤ 1024 := by omega
                  have hle4 : ¬ 1024 = y1 := by omega
                  obtain ⟨cp, hcp⟩ : ∃ cp : Nat, 1024 - y1 = cp := ⟨_, rfl⟩
                  go_upto_region 34 with fail
                  refine abstract_act fun A hA => ?_
                  have s20 : A.tmps[20]? = some (.slice (some ⟨b9, y1, none⟩) 128 cp) := by rw [hA]; rfl
                  have s10 : A.tmps[10]? = some (.slice (some ⟨b6, 0, none⟩) 1024 1024) := by rw [hA]; rfl
                  have s12 : A.tmps[12]? = some (.slice (some ⟨wb, 0, none⟩) 2048 2048) := by rw [hA]; rfl
                  have s19 : A.tmps[19]? = some (.int .i64 (s : Int)) := by rw [hA]; rfl
                  have hsz : A.tmps.size = 206 := by rw [hA]; rfl
                  obtain ⟨SX, hSX⟩ : ∃ SX, Hid (strOfNums (X (s : Int)) = SX) := ⟨_, rfl⟩
                  obtain ⟨SY, hSY⟩ : ∃ SY, Hid (strOfNums (H (s : Int)) = SY) := ⟨_, rfl⟩
                  have hstrX : ∀ w', Below wr.heap.size wr w' → (convert 31 9 (.slice (some ⟨b9, y1, none⟩) 128 cp)).run Try.prog w' = .ok (.string SX) w' := fun w' hb => by rw [hy1.out]; exact sec_str (hR9.below hb) hXs s cp hs7 hSX
                  have hstrY : ∀ w', Below wr.heap.size wr w' → (convert 31 9 (.slice (some ⟨b6, y1, none⟩) 128 cp)).run Try.prog w' = .ok (.string SY) w' := fun w' hb => by rw [hy1.out]; exact sec_str (hRa.below hb) hHs s cp hs7 hSY
                  by_cases hne : SX.toList = SY.toList
                  · clear hSX hSY hor
                    refine wp_region_inv3' (fun A D a w' => ∃ (l : List Value), a = putAll A 171 l ∧ l.length = 34 ∧ Below wr.heap.size wr w' ∧ (∀ j, j < 34 → D j → l[j]? = some (valSA b9 y1 cp b6 s y2 y3 SX SY j))) (by kernel_rfl) (by kernel_rfl) ?mono ?start ?step ?done
                    case mono =>
                      rintro D D' a w' hD ⟨l, ha, hlen, hB, hl⟩
                      exact ⟨l, ha, hlen, hB, fun j hj h => hl j hj ((hD j).2 h)⟩
                    case start => exact ⟨_, (putAll_start A 171 34 (by omega)).1, (putAll_start A 171 34 (by omega)).2, (Below.refl _ _).drew, fun _ _ h => h.elim⟩
                    case step =>
                      clear hA
                      intro i o ho D a w' hI hn hcl hd
                      obtain ⟨l, ha, hlen, hB, hl⟩ := hI
                      match i, ho with
                      | 0, ho =>
                        cases Option.some.inj ho
                        refine .inl ⟨rfl, ?_⟩
                        have ev : a.tmps[20]? = some (.slice (some ⟨b9, y1, none⟩) 128 cp) := by rw [ha, putAll_low A 171 20 l (by omega) (by decide)]; exact s20
                        refine wp_value (w' := w') (v := .slice (some ⟨b9, y1, none⟩) 128 cp) (by simp [execOp, ev, go_sem]) ?_
                        exact ⟨_, by rw [ha]; exact putAll_put A 171 0 l _ (by omega) (by omega), by rw [List.length_set]; exact hlen, hB, set_known hlen (by decide) hl⟩
                      | 1, ho =>
                        cases Option.some.inj ho
                        refine .inl ⟨rfl, ?_⟩
                        have ev : a.tmps[171]? = some (.slice (some ⟨b9, y1, none⟩) 128 cp) := known_at ha hsz hlen hl 0 (by decide) (hd ⟨0, .data⟩ (by simp) rfl)
                        have hc := hstrX w' hB
                        refine wp_value (w' := w') (v := .string SX) (by simp [execOp, ev, go_sem, hc]) ?_
                        exact ⟨_, by rw [ha]; exact putAll_put A 171 1 l _ (by omega) (by omega), by rw [List.length_set]; exact hlen, hB, set_known hlen (by decide) hl⟩
                      | 2, ho =>
                        cases Option.some.inj ho
                        refine .inl ⟨rfl, ?_⟩
                        have ev : a.tmps[10]? = some (.slice (some ⟨b6, 0, none⟩) 1024 1024) := by rw [ha, putAll_low A 171 10 l (by omega) (by decide)]; exact s10
                        refine wp_value (w' := w') (v := .slice (some ⟨b6, 0, none⟩) 1024 1024) (by simp [execOp, ev, go_sem]) ?_
                        exact ⟨_, by rw [ha]; exact putAll_put A 171 2 l _ (by omega) (by omega), by rw [List.length_set]; exact hlen, hB, set_known hlen (by decide) hl⟩
                      | 3, ho =>
                        cases Option.some.inj ho
                        refine .inl ⟨rfl, ?_⟩
                        have ev : a.tmps[19]? = some (.int .i64 (s : Int)) := by rw [ha, putAll_low A 171 19 l (by omega) (by decide)]; exact s19
                        refine wp_value (w' := w') (v := .int .i64 (s : Int)) (by simp [execOp, ev, go_sem]) ?_
                        exact ⟨_, by rw [ha]; exact putAll_put A 171 3 l _ (by omega) (by omega), by rw [List.length_set]; exact hlen, hB, set_known hlen (by decide) hl⟩
                      | 4, ho =>
                        cases Option.some.inj ho
                        refine .inl ⟨rfl, ?_⟩
                        have ev : a.tmps[174]? = some (.int .i64 (s : Int)) := known_at ha hsz hlen hl 3 (by decide) (hd ⟨3, .data⟩ (by simp) rfl)
                        refine wp_value (w' := w') (v := .int .i64 (y1 : Int)) (by simp [execOp, ev, go_sem, hz1]) ?_
                        exact ⟨_, by rw [ha]; exact putAll_put A 171 4 l _ (by omega) (by omega), by rw [List.length_set]; exact hlen, hB, set_known hlen (by decide) hl⟩
                      | 5, ho =>
                        cases Option.some.inj ho
                        refine .inl ⟨rfl, ?_⟩
                        have ev : a.tmps[19]? = some (.int .i64 (s : Int)) := by rw [ha, putAll_low A 171 19 l (by omega) (by decide)]; exact s19
                        refine wp_value (w' := w') (v := .int .i64 (s : Int)) (by simp [execOp, ev, go_sem]) ?_
                        exact ⟨_, by rw [ha]; exact putAll_put A 171 5 l _ (by omega) (by omega), by rw [List.length_set]; exact hlen, hB, set_known hlen (by decide) hl⟩
                      | 6, ho =>
                        cases Option.some.inj ho
                        refine .inl ⟨rfl, ?_⟩
                        have ev : a.tmps[176]? = some (.int .i64 (s : Int)) := known_at ha hsz hlen hl 5 (by decide) (hd ⟨5, .data⟩ (by simp) rfl)
                        refine wp_value (w' := w') (v := .int .i64 (y2 : Int)) (by simp [execOp, ev, go_sem, hz2]) ?_
                        exact ⟨_, by rw [ha]; exact putAll_put A 171 6 l _ (by omega) (by omega), by rw [List.length_set]; exact hlen, hB, set_known hlen (by decide) hl⟩
                      | 7, ho =>
                        cases Option.some.inj ho
                        refine .inl ⟨rfl, ?_⟩
                        have ev : a.tmps[177]? = some (.int .i64 (y2 : Int)) := known_at ha hsz hlen hl 6 (by decide) (hd ⟨6, .data⟩ (by simp) rfl)
                        refine wp_value (w' := w') (v := .int .i64 (y3 : Int)) (by simp [execOp, ev, go_sem, hz3]) ?_
                        exact ⟨_, by rw [ha]; exact putAll_put A 171 7 l _ (by omega) (by omega), by rw [List.length_set]; exact hlen, hB, set_known hlen (by decide) hl⟩
                      | 8, ho =>
                        cases Option.some.inj ho
                        refine .inl ⟨rfl, ?_⟩
                        have ev : a.tmps[173]? = some (.slice (some ⟨b6, 0, none⟩) 1024 1024) := known_at ha hsz hlen hl 2 (by decide) (hd ⟨2, .data⟩ (by simp) rfl)
                        have ev' : a.tmps[175]? = some (.int .i64 (y1 : Int)) := known_at ha hsz hlen hl 4 (by decide) (hd ⟨4, .data⟩ (by simp) rfl)
                        have ev'' : a.tmps[178]? = some (.int .i64 (y3 : Int)) := known_at ha hsz hlen hl 7 (by decide) (hd ⟨7, .data⟩ (by simp) rfl)
                        refine wp_value (w' := w') (v := .slice (some ⟨b6, y1, none⟩) 128 cp) (by simp [execOp, ev, ev', ev'', go_sem, hle1, hle3, hle4, hdf, hcp, Addr.add_lit]) ?_
                        exact ⟨_, by rw [ha]; exact putAll_put A 171 8 l _ (by omega) (by omega), by rw [List.length_set]; exact hlen, hB, set_known hlen (by decide) hl⟩
                      | 9, ho =>
                        cases Option.some.inj ho
                        refine .inl ⟨rfl, ?_⟩
                        have ev : a.tmps[179]? = some (.slice (some ⟨b6, y1, none⟩) 128 cp) := known_at ha hsz hlen hl 8 (by decide) (hd ⟨8, .data⟩ (by simp) rfl)
                        have hc := hstrY w' hB
                        refine wp_value (w' := w') (v := .string SY) (by simp [execOp, ev, go_sem, hc]) ?_
                        exact ⟨_, by rw [ha]; exact putAll_put A 171 9 l _ (by omega) (by omega), by rw [List.length_set]; exact hlen, hB, set_known hlen (by decide) hl⟩
                      | 10, ho =>
                        cases Option.some.inj ho
                        refine .inl ⟨rfl, ?_⟩
                        have ev : a.tmps[172]? = some (.string SX) := known_at ha hsz hlen hl 1 (by decide) (hd ⟨1, .data⟩ (by simp) rfl)
                        have ev' : a.tmps[180]? = some (.string SY) := known_at ha hsz hlen hl 9 (by decide) (hd ⟨9, .data⟩ (by simp) rfl)
                        refine wp_value (w' := w') (v := .bool false) (by simp [execOp, ev, ev', go_sem, hne]) ?_
                        exact ⟨_, by rw [ha]; exact putAll_put A 171 10 l _ (by omega) (by omega), by rw [List.length_set]; exact hlen, hB, set_known hlen (by decide) hl⟩
                      | 11, ho =>
                        cases Option.some.inj ho
                        refine .inl ⟨rfl, ?_⟩
                        have ev : a.tmps[181]? = some (.bool false) := known_at ha hsz hlen hl 10 (by decide) (hd ⟨10, .data⟩ (by simp) rfl)
                        refine wp_value (w' := w') (v := .bool false) (by simp [execOp, ev, go_sem]) ?_
                        exact ⟨_, by rw [ha]; exact putAll_put A 171 11 l _ (by omega) (by omega), by rw [List.length_set]; exact hlen, hB, set_known hlen (by decide) hl⟩
                      | 12, ho =>
                        cases Option.some.inj ho
                        refine .inr ⟨wanted_not (k := 182) rfl rfl rfl (known_at ha hsz hlen hl 11 (by decide) (hd ⟨11, .guard⟩ (by simp) rfl)) (by simp [valSA, undef]), ?_⟩
                        exact ⟨_, by rw [ha]; exact putAll_put A 171 12 l _ (by omega) (by omega), by rw [List.length_set]; exact hlen, hB, set_known hlen (by decide) hl⟩
                      | 13, ho =>
                        cases Option.some.inj ho
                        refine .inr ⟨wanted_not (k := 182) rfl rfl rfl (known_at ha hsz hlen hl 11 (by decide) (hd ⟨11, .guard⟩ (by simp) rfl)) (by simp [valSA, undef]), ?_⟩
                        exact ⟨_, by rw [ha]; exact putAll_put A 171 13 l _ (by omega) (by omega), by rw [List.length_set]; exact hlen, hB, set_known hlen (by decide) hl⟩
                      | 14, ho =>
                        cases Option.some.inj ho
                        refine .inr ⟨wanted_not (k := 182) rfl rfl rfl (known_at ha hsz hlen hl 11 (by decide) (hd ⟨11, .guard⟩ (by simp) rfl)) (by simp [valSA, undef]), ?_⟩
                        exact ⟨_, by rw [ha]; exact putAll_put A 171 14 l _ (by omega) (by omega), by rw [List.length_set]; exact hlen, hB, set_known hlen (by decide) hl⟩
                      | 15, ho =>
                        cases Option.some.inj ho
                        refine .inr ⟨wanted_not (k := 182) rfl rfl rfl (known_at ha hsz hlen hl 11 (by decide) (hd ⟨11, .guard⟩ (by simp) rfl)) (by simp [valSA, undef]), ?_⟩
                        exact ⟨_, by rw [ha]; exact putAll_put A 171 15 l _ (by omega) (by omega), by rw [List.length_set]; exact hlen, hB, set_known hlen (by decide) hl⟩
                      | 16, ho =>
                        cases Option.some.inj ho
                        refine .inr ⟨wanted_not (k := 182) rfl rfl rfl (known_at ha hsz hlen hl 11 (by decide) (hd ⟨11, .guard⟩ (by simp) rfl)) (by simp [valSA, undef]), ?_⟩
                        exact ⟨_, by rw [ha]; exact putAll_put A 171 16 l _ (by omega) (by omega), by rw [List.length_set]; exact hlen, hB, set_known hlen (by decide) hl⟩
                      | 17, ho =>
                        cases Option.some.inj ho
                        refine .inr ⟨wanted_not (k := 182) rfl rfl rfl (known_at ha hsz hlen hl 11 (by decide) (hd ⟨11, .guard⟩ (by simp) rfl)) (by simp [valSA, undef]), ?_⟩
                        exact ⟨_, by rw [ha]; exact putAll_put A 171 17 l _ (by omega) (by omega), by rw [List.length_set]; exact hlen, hB, set_known hlen (by decide) hl⟩
                      | 18, ho =>
                        cases Option.some.inj ho
                        refine .inr ⟨wanted_not (k := 182) rfl rfl rfl (known_at ha hsz hlen hl 11 (by decide) (hd ⟨11, .guard⟩ (by simp) rfl)) (by simp [valSA, undef]), ?_⟩
                        exact ⟨_, by rw [ha]; exact putAll_put A 171 18 l _ (by omega) (by omega), by rw [List.length_set]; exact hlen, hB, set_known hlen (by decide) hl⟩
                      | 19, ho =>
                        cases Option.some.inj ho
                        refine .inr ⟨wanted_not (k := 182) rfl rfl rfl (known_at ha hsz hlen hl 11 (by decide) (hd ⟨11, .guard⟩ (by simp) rfl)) (by simp [valSA, undef]), ?_⟩
                        exact ⟨_, by rw [ha]; exact putAll_put A 171 19 l _ (by omega) (by omega), by rw [List.length_set]; exact hlen, hB, set_known hlen (by decide) hl⟩
                      | 20, ho =>
                        cases Option.some.inj ho
                        refine .inr ⟨wanted_not (k := 182) rfl rfl rfl (known_at ha hsz hlen hl 11 (by decide) (hd ⟨11, .guard⟩ (by simp) rfl)) (by simp [valSA, undef]), ?_⟩
                        exact ⟨_, by rw [ha]; exact putAll_put A 171 20 l _ (by omega) (by omega), by rw [List.length_set]; exact hlen, hB, set_known hlen (by decide) hl⟩
                      | 21, ho =>
                        cases Option.some.inj ho
                        refine .inr ⟨wanted_not (k := 191) rfl rfl rfl (known_at ha hsz hlen hl 20 (by decide) (hd ⟨20, .guard⟩ (by simp) rfl)) (by simp [valSA, undef]), ?_⟩
                        exact ⟨_, by rw [ha]; exact putAll_put A 171 21 l _ (by omega) (by omega), by rw [List.length_set]; exact hlen, hB, set_known hlen (by decide) hl⟩
                      | 22, ho =>
                        cases Option.some.inj ho
                        refine .inr ⟨wanted_not (k := 191) rfl rfl rfl (known_at ha hsz hlen hl 20 (by decide) (hd ⟨20, .guard⟩ (by simp) rfl)) (by simp [valSA, undef]), ?_⟩
                        exact ⟨_, by rw [ha]; exact putAll_put A 171 22 l _ (by omega) (by omega), by rw [List.length_set]; exact hlen, hB, set_known hlen (by decide) hl⟩
                      | 23, ho =>
                        cases Option.some.inj ho
                        refine .inr ⟨wanted_not (k := 191) rfl rfl rfl (known_at ha hsz hlen hl 20 (by decide) (hd ⟨20, .guard⟩ (by simp) rfl)) (by simp [valSA, undef]), ?_⟩
                        exact ⟨_, by rw [ha]; exact putAll_put A 171 23 l _ (by omega) (by omega), by rw [List.length_set]; exact hlen, hB, set_known hlen (by decide) hl⟩
                      | 24, ho =>
                        cases Option.some.inj ho
                        refine .inr ⟨wanted_not (k := 191) rfl rfl rfl (known_at ha hsz hlen hl 20 (by decide) (hd ⟨20, .guard⟩ (by simp) rfl)) (by simp [valSA, undef]), ?_⟩
                        exact ⟨_, by rw [ha]; exact putAll_put A 171 24 l _ (by omega) (by omega), by rw [List.length_set]; exact hlen, hB, set_known hlen (by decide) hl⟩
                      | 25, ho =>
                        cases Option.some.inj ho
                        refine .inr ⟨wanted_not (k := 191) rfl rfl rfl (known_at ha hsz hlen hl 20 (by decide) (hd ⟨20, .guard⟩ (by simp) rfl)) (by simp [valSA, undef]), ?_⟩
                        exact ⟨_, by rw [ha]; exact putAll_put A 171 25 l _ (by omega) (by omega), by rw [List.length_set]; exact hlen, hB, set_known hlen (by decide) hl⟩
                      | 26, ho =>
                        cases Option.some.inj ho
                        refine .inr ⟨wanted_not (k := 191) rfl rfl rfl (known_at ha hsz hlen hl 20 (by decide) (hd ⟨20, .guard⟩ (by simp) rfl)) (by simp [valSA, undef]), ?_⟩
                        exact ⟨_, by rw [ha]; exact putAll_put A 171 26 l _ (by omega) (by omega), by rw [List.length_set]; exact hlen, hB, set_known hlen (by decide) hl⟩
                      | 27, ho =>
                        cases Option.some.inj ho
                        refine .inr ⟨wanted_not (k := 191) rfl rfl rfl (known_at ha hsz hlen hl 20 (by decide) (hd ⟨20, .guard⟩ (by simp) rfl)) (by simp [valSA, undef]), ?_⟩
                        exact ⟨_, by rw [ha]; exact putAll_put A 171 27 l _ (by omega) (by omega), by rw [List.length_set]; exact hlen, hB, set_known hlen (by decide) hl⟩
                      | 28, ho =>
                        cases Option.some.inj ho
                        refine .inr ⟨wanted_not (k := 191) rfl rfl rfl (known_at ha hsz hlen hl 20 (by decide) (hd ⟨20, .guard⟩ (by simp) rfl)) (by simp [valSA, undef]), ?_⟩
                        exact ⟨_, by rw [ha]; exact putAll_put A 171 28 l _ (by omega) (by omega), by rw [List.length_set]; exact hlen, hB, set_known hlen (by decide) hl⟩
                      | 29, ho =>
                        cases Option.some.inj ho
                        refine .inr ⟨wanted_not (k := 191) rfl rfl rfl (known_at ha hsz hlen hl 20 (by decide) (hd ⟨20, .guard⟩ (by simp) rfl)) (by simp [valSA, undef]), ?_⟩
                        exact ⟨_, by rw [ha]; exact putAll_put A 171 29 l _ (by omega) (by omega), by rw [List.length_set]; exact hlen, hB, set_known hlen (by decide) hl⟩
                      | 30, ho =>
                        cases Option.some.inj ho
                        refine .inr ⟨wanted_not (k := 191) rfl rfl rfl (known_at ha hsz hlen hl 20 (by decide) (hd ⟨20, .guard⟩ (by simp) rfl)) (by simp [valSA, undef]), ?_⟩
                        exact ⟨_, by rw [ha]; exact putAll_put A 171 30 l _ (by omega) (by omega), by rw [List.length_set]; exact hlen, hB, set_known hlen (by decide) hl⟩
                      | 31, ho =>
                        cases Option.some.inj ho
                        refine .inr ⟨wanted_not (k := 191) rfl rfl rfl (known_at ha hsz hlen hl 20 (by decide) (hd ⟨20, .guard⟩ (by simp) rfl)) (by simp [valSA, undef]), ?_⟩
                        exact ⟨_, by rw [ha]; exact putAll_put A 171 31 l _ (by omega) (by omega), by rw [List.length_set]; exact hlen, hB, set_known hlen (by decide) hl⟩
                      | 32, ho =>
                        cases Option.some.inj ho
                        refine .inr ⟨wanted_not (k := 182) rfl rfl rfl (known_at ha hsz hlen hl 11 (by decide) (hd ⟨11, .guard⟩ (by simp) rfl)) (by simp [valSA, undef]), ?_⟩
                        exact ⟨_, by rw [ha]; exact putAll_put A 171 32 l _ (by omega) (by omega), by rw [List.length_set]; exact hlen, hB, set_known hlen (by decide) hl⟩
                      | 33, ho =>
                        cases Option.some.inj ho
                        refine .inl ⟨rfl, ?_⟩
                        have ev : a.tmps[182]? = some (.bool false) := known_at ha hsz hlen hl 11 (by decide) (hd ⟨11, .data⟩ (by simp) rfl)
                        refine wp_value (w' := w') (v := .bool false) (by simp [execOp, ev, go_sem]) ?_
                        exact ⟨_, by rw [ha]; exact putAll_put A 171 33 l _ (by omega) (by omega), by rw [List.length_set]; exact hlen, hB, set_known hlen (by decide) hl⟩
                      | i + 34, ho => simp at ho
                    case done =>
                      rintro D a w' ⟨l, ha, hlen, hB, hl⟩ hall
                      obtain ⟨v0, v1, v2, v3, v4, v5, v6, v7, v8, v9, v10, v11, v12, v13, v14, v15, v16, v17, v18, v19, v20, v21, v22, v23, v24, v25, v26, v27, v28, v29, v30, v31, v32, v33, rfl⟩ := valSA_list hlen
                      have hz := hl 33 (by decide) (hall 33 (by decide))
                      simp only [List.getElem?_cons_succ, List.getElem?_cons_zero, Option.some.injEq] at hz
                      have hz' : v33 = .bool false := hz
                      subst hz'
                      clear hl hall
                      clear s20 s10 s12 s19 hsz hlen
                      subst hA
                      have hfr : a = _ := ha
                      rw [hfr]
                      clear hfr ha
                      simp only [putAll, List.take_succ_cons, List.take_zero, List.drop_succ_cons, List.drop_zero, List.cons_append, List.nil_append, List.length_cons, List.length_nil]
                      have q1 := hR9.below hB
                      have q2 := hRa.below hB
                      have q3 := hBRa.below hB
                      have q4 := below_size hB9 (Nat.le_refl _) hB
                      clear hR9 hRa hBRa hB9 hB
                      go_wp2
                      go_roundw
                      case rel => exact ⟨y2, by have := hy2.out; omega, rfl, q1, q2, q3, q4⟩
                      case measure =>
                        have := hy2.out
                        simp [intOf]
                        omega
                  · obtain ⟨c, hc256, hXc, hfc⟩ : ∃ c : Nat, c < 256 ∧ X (s : Int) = sv 128 (c : Int) ∧ f (s * 256 + c) = true := by
                      rcases hor s hs7 with h | h
                      · exact absurd (by rw [← hSX.out, ← hSY.out, h]) hne
                      · exact h
                    have hSV : Hid (strOfNums (sv 128 (c : Int)) = SX) := by rw [← hXc]; exact hSX
                    have hcell0 : wr.cell? ⟨b9, y1, none⟩ = some (.int .u8 (c : Int)) := by
                      have := row_sec hR9 hXs s 0 hs7 (by decide)
                      rw [hXc, Nat.add_zero, ← hy1.out] at this
                      rw [this]
                      rfl
                    obtain ⟨x4, hx4⟩ : ∃ x4 : Nat, Hid (x4 = s * 256) := ⟨_, rfl⟩
                    obtain ⟨x5, hx5'⟩ : ∃ x5 : Nat, Hid (x5 = s * 256 + c) := ⟨_, rfl⟩
                    have hz4 : IntKind.i64.wrap ((s : Int) * 256) = (x4 : Int) := by have := hx4.out; rw [IntKind.wrap_i64]; omega
                    have hz5 : IntKind.i64.wrap ((x4 : Int) + (c : Int)) = (x5 : Int) := by have := hx4.out; have := hx5'.out; rw [IntKind.wrap_i64]; omega
                    have hwc : IntKind.i64.wrap (c : Int) = (c : Int) := by rw [IntKind.wrap_i64]; omega
                    have hx5 : x5 < 2048 := by have := hx5'.out; omega
                    have hx5i : ¬ (2048 : Int) ≤ (x5 : Int) := by omega
                    have hfx : f x5 = true := by rw [hx5'.out]; exact hfc
                    clear hSX hSY hor hXc hfc
                    refine wp_region_inv3' (fun A D a w' => ∃ (l : List Value) (nb : Nat), a = putAll A 171 l ∧ l.length = 34 ∧ Below wr.heap.size wr w' ∧ (∀ j, j < 34 → D j → l[j]? = some (valSB b9 y1 cp b6 s y2 y3 x4 x5 c wb nb SX SY j)) ∧ (D 17 → Row8 w' nb (sv 128 (c : Int)))) (by kernel_rfl) (by kernel_rfl) ?mono ?start ?step ?done
                    case mono =>
                      rintro D D' a w' hD ⟨l, nb, ha, hlen, hB, hl, hr⟩
                      exact ⟨l, nb, ha, hlen, hB, fun j hj h => hl j hj ((hD j).2 h), fun h => hr ((hD 17).2 h)⟩
                    case start => exact ⟨_, 0, (putAll_start A 171 34 (by omega)).1, (putAll_start A 171 34 (by omega)).2, (Below.refl _ _).drew, fun _ _ h => h.elim, fun h => h.elim⟩
                    case step =>
                      clear hA
                      intro i o ho D a w' hI hn hcl hd
                      obtain ⟨l, nb, ha, hlen, hB, hl, hr⟩ := hI
                      match i, ho with
                      | 0, ho =>
                        cases Option.some.inj ho
                        refine .inl ⟨rfl, ?_⟩
                        have ev : a.tmps[20]? = some (.slice (some ⟨b9, y1, none⟩) 128 cp) := by rw [ha, putAll_low A 171 20 l (by omega) (by decide)]; exact s20
                        refine wp_value (w' := w') (v := .slice (some ⟨b9, y1, none⟩) 128 cp) (by simp [execOp, ev, go_sem]) ?_
                        exact ⟨_, nb, by rw [ha]; exact putAll_put A 171 0 l _ (by omega) (by omega), by rw [List.length_set]; exact hlen, hB, set_known hlen (by decide) hl, fun h => (hr (h.resolve_left (by decide)))⟩
                      | 1, ho =>
                        cases Option.some.inj ho
                        refine .inl ⟨rfl, ?_⟩
                        have ev : a.tmps[171]? = some (.slice (some ⟨b9, y1, none⟩) 128 cp) := known_at ha hsz hlen hl 0 (by decide) (hd ⟨0, .data⟩ (by simp) rfl)
                        have hc := hstrX w' hB
                        refine wp_value (w' := w') (v := .string SX) (by simp [execOp, ev, go_sem, hc]) ?_
                        exact ⟨_, nb, by rw [ha]; exact putAll_put A 171 1 l _ (by omega) (by omega), by rw [List.length_set]; exact hlen, hB, set_known hlen (by decide) hl, fun h => (hr (h.resolve_left (by decide)))⟩
                      | 2, ho =>
                        cases Option.some.inj ho
                        refine .inl ⟨rfl, ?_⟩
                        have ev : a.tmps[10]? = some (.slice (some ⟨b6, 0, none⟩) 1024 1024) := by rw [ha, putAll_low A 171 10 l (by omega) (by decide)]; exact s10
                        refine wp_value (w' := w') (v := .slice (some ⟨b6, 0, none⟩) 1024 1024) (by simp [execOp, ev, go_sem]) ?_
                        exact ⟨_, nb, by rw [ha]; exact putAll_put A 171 2 l _ (by omega) (by omega), by rw [List.length_set]; exact hlen, hB, set_known hlen (by decide) hl, fun h => (hr (h.resolve_left (by decide)))⟩
                      | 3, ho =>
                        cases Option.some.inj ho
                        refine .inl ⟨rfl, ?_⟩
                        have ev : a.tmps[19]? = some (.int .i64 (s : Int)) := by rw [ha, putAll_low A 171 19 l (by omega) (by decide)]; exact s19
                        refine wp_value (w' := w') (v := .int .i64 (s : Int)) (by simp [execOp, ev, go_sem]) ?_
                        exact ⟨_, nb, by rw [ha]; exact putAll_put A 171 3 l _ (by omega) (by omega), by rw [List.length_set]; exact hlen, hB, set_known hlen (by decide) hl, fun h => (hr (h.resolve_left (by decide)))⟩
                      | 4, ho =>
                        cases Option.some.inj ho
                        refine .inl ⟨rfl, ?_⟩
                        have ev : a.tmps[174]? = some (.int .i64 (s : Int)) := known_at ha hsz hlen hl 3 (by decide) (hd ⟨3, .data⟩ (by simp) rfl)
                        refine wp_value (w' := w') (v := .int .i64 (y1 : Int)) (by simp [execOp, ev, go_sem, hz1]) ?_
                        exact ⟨_, nb, by rw [ha]; exact putAll_put A 171 4 l _ (by omega) (by omega), by rw [List.length_set]; exact hlen, hB, set_known hlen (by decide) hl, fun h => (hr (h.resolve_left (by decide)))⟩
                      | 5, ho =>
                        cases Option.some.inj ho
                        refine .inl ⟨rfl, ?_⟩
                        have ev : a.tmps[19]? = some (.int .i64 (s : Int)) := by rw [ha, putAll_low A 171 19 l (by omega) (by decide)]; exact s19
                        refine wp_value (w' := w') (v := .int .i64 (s : Int)) (by simp [execOp, ev, go_sem]) ?_
                        exact ⟨_, nb, by rw [ha]; exact putAll_put A 171 5 l _ (by omega) (by omega), by rw [List.length_set]; exact hlen, hB, set_known hlen (by decide) hl, fun h => (hr (h.resolve_left (by decide)))⟩
                      | 6, ho =>
                        cases Option.some.inj ho
                        refine .inl ⟨rfl, ?_⟩
                        have ev : a.tmps[176]? = some (.int .i64 (s : Int)) := known_at ha hsz hlen hl 5 (by decide) (hd ⟨5, .data⟩ (by simp) rfl)
                        refine wp_value (w' := w') (v := .int .i64 (y2 : Int)) (by simp [execOp, ev, go_sem, hz2]) ?_
                        exact ⟨_, nb, by rw [ha]; exact putAll_put A 171 6 l _ (by omega) (by omega), by rw [List.length_set]; exact hlen, hB, set_known hlen (by decide) hl, fun h => (hr (h.resolve_left (by decide)))⟩
                      | 7, ho =>
                        cases Option.some.inj ho
                        refine .inl ⟨rfl, ?_⟩
                        have ev : a.tmps[177]? = some (.int .i64 (y2 : Int)) := known_at ha hsz hlen hl 6 (by decide) (hd ⟨6, .data⟩ (by simp) rfl)
                        refine wp_value (w' := w') (v := .int .i64 (y3 : Int)) (by simp [execOp, ev, go_sem, hz3]) ?_
                        exact ⟨_, nb, by rw [ha]; exact putAll_put A 171 7 l _ (by omega) (by omega), by rw [List.length_set]; exact hlen, hB, set_known hlen (by decide) hl, fun h => (hr (h.resolve_left (by decide)))⟩
                      | 8, ho =>
                        cases Option.some.inj ho
                        refine .inl ⟨rfl, ?_⟩
                        have ev : a.tmps[173]? = some (.slice (some ⟨b6, 0, none⟩) 1024 1024) := known_at ha hsz hlen hl 2 (by decide) (hd ⟨2, .data⟩ (by simp) rfl)
                        have ev' : a.tmps[175]? = some (.int .i64 (y1 : Int)) := known_at ha hsz hlen hl 4 (by decide) (hd ⟨4, .data⟩ (by simp) rfl)
                        have ev'' : a.tmps[178]? = some (.int .i64 (y3 : Int)) := known_at ha hsz hlen hl 7 (by decide) (hd ⟨7, .data⟩ (by simp) rfl)
                        refine wp_value (w' := w') (v := .slice (some ⟨b6, y1, none⟩) 128 cp) (by simp [execOp, ev, ev', ev'', go_sem, hle1, hle3, hle4, hdf, hcp, Addr.add_lit]) ?_
                        exact ⟨_, nb, by rw [ha]; exact putAll_put A 171 8 l _ (by omega) (by omega), by rw [List.length_set]; exact hlen, hB, set_known hlen (by decide) hl, fun h => (hr (h.resolve_left (by decide)))⟩
                      | 9, ho =>
                        cases Option.some.inj ho
                        refine .inl ⟨rfl, ?_⟩
                        have ev : a.tmps[179]? = some (.slice (some ⟨b6, y1, none⟩) 128 cp) := known_at ha hsz hlen hl 8 (by decide) (hd ⟨8, .data⟩ (by simp) rfl)
                        have hc := hstrY w' hB
                        refine wp_value (w' := w') (v := .string SY) (by simp [execOp, ev, go_sem, hc]) ?_
                        exact ⟨_, nb, by rw [ha]; exact putAll_put A 171 9 l _ (by omega) (by omega), by rw [List.length_set]; exact hlen, hB, set_known hlen (by decide) hl, fun h => (hr (h.resolve_left (by decide)))⟩
                      | 10, ho =>
                        cases Option.some.inj ho
                        refine .inl ⟨rfl, ?_⟩
                        have ev : a.tmps[172]? = some (.string SX) := known_at ha hsz hlen hl 1 (by decide) (hd ⟨1, .data⟩ (by simp) rfl)
                        have ev' : a.tmps[180]? = some (.string SY) := known_at ha hsz hlen hl 9 (by decide) (hd ⟨9, .data⟩ (by simp) rfl)
                        refine wp_value (w' := w') (v := .bool true) (by simp [execOp, ev, ev', go_sem, hne]) ?_
                        exact ⟨_, nb, by rw [ha]; exact putAll_put A 171 10 l _ (by omega) (by omega), by rw [List.length_set]; exact hlen, hB, set_known hlen (by decide) hl, fun h => (hr (h.resolve_left (by decide)))⟩
                      | 11, ho =>
                        cases Option.some.inj ho
                        refine .inl ⟨rfl, ?_⟩
                        have ev : a.tmps[181]? = some (.bool true) := known_at ha hsz hlen hl 10 (by decide) (hd ⟨10, .data⟩ (by simp) rfl)
                        refine wp_value (w' := w') (v := .bool true) (by simp [execOp, ev, go_sem]) ?_
                        exact ⟨_, nb, by rw [ha]; exact putAll_put A 171 11 l _ (by omega) (by omega), by rw [List.length_set]; exact hlen, hB, set_known hlen (by decide) hl, fun h => (hr (h.resolve_left (by decide)))⟩
                      | 12, ho =>
                        cases Option.some.inj ho
                        refine .inl ⟨wanted_of (k := 182) rfl rfl rfl (known_at ha hsz hlen hl 11 (by decide) (hd ⟨11, .guard⟩ (by simp) rfl)), ?_⟩
                        have ev : a.tmps[20]? = some (.slice (some ⟨b9, y1, none⟩) 128 cp) := by rw [ha, putAll_low A 171 20 l (by omega) (by decide)]; exact s20
                        refine wp_value (w' := w') (v := .slice (some ⟨b9, y1, none⟩) 128 cp) (by simp [execOp, ev, go_sem]) ?_
                        exact ⟨_, nb, by rw [ha]; exact putAll_put A 171 12 l _ (by omega) (by omega), by rw [List.length_set]; exact hlen, hB, set_known hlen (by decide) hl, fun h => (hr (h.resolve_left (by decide)))⟩
                      | 13, ho =>
                        cases Option.some.inj ho
                        refine .inl ⟨wanted_of (k := 182) rfl rfl rfl (known_at ha hsz hlen hl 11 (by decide) (hd ⟨11, .guard⟩ (by simp) rfl)), ?_⟩
                        have ev : a.tmps[183]? = some (.slice (some ⟨b9, y1, none⟩) 128 cp) := known_at ha hsz hlen hl 12 (by decide) (hd ⟨12, .data⟩ (by simp) rfl)
                        have hc := hstrX w' hB
                        refine wp_value (w' := w') (v := .string SX) (by simp [execOp, ev, go_sem, hc]) ?_
                        exact ⟨_, nb, by rw [ha]; exact putAll_put A 171 13 l _ (by omega) (by omega), by rw [List.length_set]; exact hlen, hB, set_known hlen (by decide) hl, fun h => (hr (h.resolve_left (by decide)))⟩
                      | 14, ho =>
                        cases Option.some.inj ho
                        refine .inl ⟨wanted_of (k := 182) rfl rfl rfl (known_at ha hsz hlen hl 11 (by decide) (hd ⟨11, .guard⟩ (by simp) rfl)), ?_⟩
                        have ev : a.tmps[20]? = some (.slice (some ⟨b9, y1, none⟩) 128 cp) := by rw [ha, putAll_low A 171 20 l (by omega) (by decide)]; exact s20
                        refine wp_value (w' := w') (v := .slice (some ⟨b9, y1, none⟩) 128 cp) (by simp [execOp, ev, go_sem]) ?_
                        exact ⟨_, nb, by rw [ha]; exact putAll_put A 171 14 l _ (by omega) (by omega), by rw [List.length_set]; exact hlen, hB, set_known hlen (by decide) hl, fun h => (hr (h.resolve_left (by decide)))⟩
                      | 15, ho =>
                        cases Option.some.inj ho
                        refine .inl ⟨wanted_of (k := 182) rfl rfl rfl (known_at ha hsz hlen hl 11 (by decide) (hd ⟨11, .guard⟩ (by simp) rfl)), ?_⟩
                        have ev : a.tmps[185]? = some (.slice (some ⟨b9, y1, none⟩) 128 cp) := known_at ha hsz hlen hl 14 (by decide) (hd ⟨14, .data⟩ (by simp) rfl)
                        refine wp_value (w' := w') (v := .pointer (some ⟨b9, y1, none⟩)) (by simp [execOp, ev, go_sem, Addr.add_lit]) ?_
                        exact ⟨_, nb, by rw [ha]; exact putAll_put A 171 15 l _ (by omega) (by omega), by rw [List.length_set]; exact hlen, hB, set_known hlen (by decide) hl, fun h => (hr (h.resolve_left (by decide)))⟩
                      | 16, ho =>
                        cases Option.some.inj ho
                        refine .inl ⟨wanted_of (k := 182) rfl rfl rfl (known_at ha hsz hlen hl 11 (by decide) (hd ⟨11, .guard⟩ (by simp) rfl)), ?_⟩
                        have ev : a.tmps[186]? = some (.pointer (some ⟨b9, y1, none⟩)) := known_at ha hsz hlen hl 15 (by decide) (hd ⟨15, .data⟩ (by simp) rfl)
                        have hc := (World.cell?_of_block (hB.block b9 (lt_of_block hR9))).trans hcell0
                        refine wp_value (w' := w') (v := .int .u8 (c : Int)) (by simp [execOp, ev, go_sem, hc]) ?_
                        exact ⟨_, nb, by rw [ha]; exact putAll_put A 171 16 l _ (by omega) (by omega), by rw [List.length_set]; exact hlen, hB, set_known hlen (by decide) hl, fun h => (hr (h.resolve_left (by decide)))⟩
                      | 17, ho =>
                        cases Option.some.inj ho
                        refine .inl ⟨wanted_of (k := 182) rfl rfl rfl (known_at ha hsz hlen hl 11 (by decide) (hd ⟨11, .guard⟩ (by simp) rfl)), ?_⟩
                        have ev : a.tmps[187]? = some (.int .u8 (c : Int)) := known_at ha hsz hlen hl 16 (by decide) (hd ⟨16, .data⟩ (by simp) rfl)
                        refine wp_enter (f := 10) (args := #[.int .i64 1, .int .u8 (c : Int)]) (by simp [execOp, ev, go_sem]) ?_
                        refine (full_1 w' (c : Int)).mono ?_
                        rintro e w6 ⟨nb2, rfl, hR, HB⟩
                        refine ⟨_, rfl, ?_⟩
                        exact ⟨_, nb2, by rw [ha]; exact putAll_put A 171 17 l _ (by omega) (by omega), by rw [List.length_set]; exact hlen, below_size hB (Nat.le_refl _) HB, set_known' (val' := valSB b9 y1 cp b6 s y2 y3 x4 x5 c wb nb2 SX SY) hlen (by decide) hl (fun j hj hne => match j, hj, hne with | 0, _, _ => rfl | 1, _, _ => rfl | 2, _, _ => rfl | 3, _, _ => rfl | 4, _, _ => rfl | 5, _, _ => rfl | 6, _, _ => rfl | 7, _, _ => rfl | 8, _, _ => rfl | 9, _, _ => rfl | 10, _, _ => rfl | 11, _, _ => rfl | 12, _, _ => rfl | 13, _, _ => rfl | 14, _, _ => rfl | 15, _, _ => rfl | 16, _, _ => rfl | 17, _, hne => absurd rfl hne | 18, _, _ => rfl | 19, _, _ => rfl | 20, _, _ => rfl | 21, _, _ => rfl | 22, _, _ => rfl | 23, _, _ => rfl | 24, _, _ => rfl | 25, _, _ => rfl | 26, _, _ => rfl | 27, _, _ => rfl | 28, _, _ => rfl | 29, _, _ => rfl | 30, _, _ => rfl | 31, _, _ => rfl | 32, _, _ => rfl | 33, _, _ => rfl | j + 34, _, _ => rfl), fun _ => hR⟩
                      | 18, ho =>
                        cases Option.some.inj ho
                        refine .inl ⟨wanted_of (k := 182) rfl rfl rfl (known_at ha hsz hlen hl 11 (by decide) (hd ⟨11, .guard⟩ (by simp) rfl)), ?_⟩
                        have ev : a.tmps[188]? = some (.slice (some ⟨nb, 0, none⟩) 128 128) := known_at ha hsz hlen hl 17 (by decide) (hd ⟨17, .data⟩ (by simp) rfl)
                        have hc := (hr (hd ⟨17, .data⟩ (by simp) rfl)).str hSV (by unfold sv; rw [List.length_replicate])
                        refine wp_value (w' := w') (v := .string SX) (by simp [execOp, ev, go_sem, hc]) ?_
                        exact ⟨_, nb, by rw [ha]; exact putAll_put A 171 18 l _ (by omega) (by omega), by rw [List.length_set]; exact hlen, hB, set_known hlen (by decide) hl, fun h => (hr (h.resolve_left (by decide)))⟩
                      | 19, ho =>
                        cases Option.some.inj ho
                        refine .inl ⟨wanted_of (k := 182) rfl rfl rfl (known_at ha hsz hlen hl 11 (by decide) (hd ⟨11, .guard⟩ (by simp) rfl)), ?_⟩
                        have ev : a.tmps[184]? = some (.string SX) := known_at ha hsz hlen hl 13 (by decide) (hd ⟨13, .data⟩ (by simp) rfl)
                        have ev' : a.tmps[189]? = some (.string SX) := known_at ha hsz hlen hl 18 (by decide) (hd ⟨18, .data⟩ (by simp) rfl)
                        refine wp_value (w' := w') (v := .bool false) (by simp [execOp, ev, ev', go_sem]) ?_
                        exact ⟨_, nb, by rw [ha]; exact putAll_put A 171 19 l _ (by omega) (by omega), by rw [List.length_set]; exact hlen, hB, set_known hlen (by decide) hl, fun h => (hr (h.resolve_left (by decide)))⟩
                      | 20, ho =>
                        cases Option.some.inj ho
                        refine .inl ⟨wanted_of (k := 182) rfl rfl rfl (known_at ha hsz hlen hl 11 (by decide) (hd ⟨11, .guard⟩ (by simp) rfl)), ?_⟩
                        have ev : a.tmps[190]? = some (.bool false) := known_at ha hsz hlen hl 19 (by decide) (hd ⟨19, .data⟩ (by simp) rfl)
                        refine wp_value (w' := w') (v := .bool false) (by simp [execOp, ev, go_sem]) ?_
                        exact ⟨_, nb, by rw [ha]; exact putAll_put A 171 20 l _ (by omega) (by omega), by rw [List.length_set]; exact hlen, hB, set_known hlen (by decide) hl, fun h => (hr (h.resolve_left (by decide)))⟩
                      | 21, ho =>
                        cases Option.some.inj ho
                        refine .inl ⟨wanted_of (k := 191) rfl rfl rfl (known_at ha hsz hlen hl 20 (by decide) (hd ⟨20, .guard⟩ (by simp) rfl)), ?_⟩
                        have ev : a.tmps[12]? = some (.slice (some ⟨wb, 0, none⟩) 2048 2048) := by rw [ha, putAll_low A 171 12 l (by omega) (by decide)]; exact s12
                        refine wp_value (w' := w') (v := .slice (some ⟨wb, 0, none⟩) 2048 2048) (by simp [execOp, ev, go_sem]) ?_
                        exact ⟨_, nb, by rw [ha]; exact putAll_put A 171 21 l _ (by omega) (by omega), by rw [List.length_set]; exact hlen, hB, set_known hlen (by decide) hl, fun h => (hr (h.resolve_left (by decide)))⟩
                      | 22, ho =>
                        cases Option.some.inj ho
                        refine .inl ⟨wanted_of (k := 191) rfl rfl rfl (known_at ha hsz hlen hl 20 (by decide) (hd ⟨20, .guard⟩ (by simp) rfl)), ?_⟩
                        have ev : a.tmps[19]? = some (.int .i64 (s : Int)) := by rw [ha, putAll_low A 171 19 l (by omega) (by decide)]; exact s19
                        refine wp_value (w' := w') (v := .int .i64 (s : Int)) (by simp [execOp, ev, go_sem]) ?_
                        exact ⟨_, nb, by rw [ha]; exact putAll_put A 171 22 l _ (by omega) (by omega), by rw [List.length_set]; exact hlen, hB, set_known hlen (by decide) hl, fun h => (hr (h.resolve_left (by decide)))⟩
                      | 23, ho =>
                        cases Option.some.inj ho
                        refine .inl ⟨wanted_of (k := 191) rfl rfl rfl (known_at ha hsz hlen hl 20 (by decide) (hd ⟨20, .guard⟩ (by simp) rfl)), ?_⟩
                        have ev : a.tmps[193]? = some (.int .i64 (s : Int)) := known_at ha hsz hlen hl 22 (by decide) (hd ⟨22, .data⟩ (by simp) rfl)
                        refine wp_value (w' := w') (v := .int .i64 (x4 : Int)) (by simp [execOp, ev, go_sem, hz4]) ?_
                        exact ⟨_, nb, by rw [ha]; exact putAll_put A 171 23 l _ (by omega) (by omega), by rw [List.length_set]; exact hlen, hB, set_known hlen (by decide) hl, fun h => (hr (h.resolve_left (by decide)))⟩
                      | 24, ho =>
                        cases Option.some.inj ho
                        refine .inl ⟨wanted_of (k := 191) rfl rfl rfl (known_at ha hsz hlen hl 20 (by decide) (hd ⟨20, .guard⟩ (by simp) rfl)), ?_⟩
                        have ev : a.tmps[20]? = some (.slice (some ⟨b9, y1, none⟩) 128 cp) := by rw [ha, putAll_low A 171 20 l (by omega) (by decide)]; exact s20
                        refine wp_value (w' := w') (v := .slice (some ⟨b9, y1, none⟩) 128 cp) (by simp [execOp, ev, go_sem]) ?_
                        exact ⟨_, nb, by rw [ha]; exact putAll_put A 171 24 l _ (by omega) (by omega), by rw [List.length_set]; exact hlen, hB, set_known hlen (by decide) hl, fun h => (hr (h.resolve_left (by decide)))⟩
                      | 25, ho =>
                        cases Option.some.inj ho
                        refine .inl ⟨wanted_of (k := 191) rfl rfl rfl (known_at ha hsz hlen hl 20 (by decide) (hd ⟨20, .guard⟩ (by simp) rfl)), ?_⟩
                        have ev : a.tmps[195]? = some (.slice (some ⟨b9, y1, none⟩) 128 cp) := known_at ha hsz hlen hl 24 (by decide) (hd ⟨24, .data⟩ (by simp) rfl)
                        refine wp_value (w' := w') (v := .pointer (some ⟨b9, y1, none⟩)) (by simp [execOp, ev, go_sem, Addr.add_lit]) ?_
                        exact ⟨_, nb, by rw [ha]; exact putAll_put A 171 25 l _ (by omega) (by omega), by rw [List.length_set]; exact hlen, hB, set_known hlen (by decide) hl, fun h => (hr (h.resolve_left (by decide)))⟩
                      | 26, ho =>
                        cases Option.some.inj ho
                        refine .inl ⟨wanted_of (k := 191) rfl rfl rfl (known_at ha hsz hlen hl 20 (by decide) (hd ⟨20, .guard⟩ (by simp) rfl)), ?_⟩
                        have ev : a.tmps[196]? = some (.pointer (some ⟨b9, y1, none⟩)) := known_at ha hsz hlen hl 25 (by decide) (hd ⟨25, .data⟩ (by simp) rfl)
                        have hc := (World.cell?_of_block (hB.block b9 (lt_of_block hR9))).trans hcell0
                        refine wp_value (w' := w') (v := .int .u8 (c : Int)) (by simp [execOp, ev, go_sem, hc]) ?_
                        exact ⟨_, nb, by rw [ha]; exact putAll_put A 171 26 l _ (by omega) (by omega), by rw [List.length_set]; exact hlen, hB, set_known hlen (by decide) hl, fun h => (hr (h.resolve_left (by decide)))⟩
                      | 27, ho =>
                        cases Option.some.inj ho
                        refine .inl ⟨wanted_of (k := 191) rfl rfl rfl (known_at ha hsz hlen hl 20 (by decide) (hd ⟨20, .guard⟩ (by simp) rfl)), ?_⟩
                        have ev : a.tmps[197]? = some (.int .u8 (c : Int)) := known_at ha hsz hlen hl 26 (by decide) (hd ⟨26, .data⟩ (by simp) rfl)
                        refine wp_value (w' := w') (v := .int .i64 (c : Int)) (by simp [execOp, ev, go_sem, hwc]) ?_
                        exact ⟨_, nb, by rw [ha]; exact putAll_put A 171 27 l _ (by omega) (by omega), by rw [List.length_set]; exact hlen, hB, set_known hlen (by decide) hl, fun h => (hr (h.resolve_left (by decide)))⟩
                      | 28, ho =>
                        cases Option.some.inj ho
                        refine .inl ⟨wanted_of (k := 191) rfl rfl rfl (known_at ha hsz hlen hl 20 (by decide) (hd ⟨20, .guard⟩ (by simp) rfl)), ?_⟩
                        have ev : a.tmps[194]? = some (.int .i64 (x4 : Int)) := known_at ha hsz hlen hl 23 (by decide) (hd ⟨23, .data⟩ (by simp) rfl)
                        have ev' : a.tmps[198]? = some (.int .i64 (c : Int)) := known_at ha hsz hlen hl 27 (by decide) (hd ⟨27, .data⟩ (by simp) rfl)
                        refine wp_value (w' := w') (v := .int .i64 (x5 : Int)) (by simp [execOp, ev, ev', go_sem, hz5]) ?_
                        exact ⟨_, nb, by rw [ha]; exact putAll_put A 171 28 l _ (by omega) (by omega), by rw [List.length_set]; exact hlen, hB, set_known hlen (by decide) hl, fun h => (hr (h.resolve_left (by decide)))⟩
                      | 29, ho =>
                        cases Option.some.inj ho
                        refine .inl ⟨wanted_of (k := 191) rfl rfl rfl (known_at ha hsz hlen hl 20 (by decide) (hd ⟨20, .guard⟩ (by simp) rfl)), ?_⟩
                        have ev : a.tmps[192]? = some (.slice (some ⟨wb, 0, none⟩) 2048 2048) := known_at ha hsz hlen hl 21 (by decide) (hd ⟨21, .data⟩ (by simp) rfl)
                        have ev' : a.tmps[199]? = some (.int .i64 (x5 : Int)) := known_at ha hsz hlen hl 28 (by decide) (hd ⟨28, .data⟩ (by simp) rfl)
                        refine wp_value (w' := w') (v := .pointer (some ⟨wb, x5, none⟩)) (by simp [execOp, ev, ev', go_sem, hx5i, Addr.add_lit]) ?_
                        exact ⟨_, nb, by rw [ha]; exact putAll_put A 171 29 l _ (by omega) (by omega), by rw [List.length_set]; exact hlen, hB, set_known hlen (by decide) hl, fun h => (hr (h.resolve_left (by decide)))⟩
                      | 30, ho =>
                        cases Option.some.inj ho
                        refine .inl ⟨wanted_of (k := 191) rfl rfl rfl (known_at ha hsz hlen hl 20 (by decide) (hd ⟨20, .guard⟩ (by simp) rfl)), ?_⟩
                        have ev : a.tmps[200]? = some (.pointer (some ⟨wb, x5, none⟩)) := known_at ha hsz hlen hl 29 (by decide) (hd ⟨29, .data⟩ (by simp) rfl)
                        have hc := (hBRa.below hB).cell x5 hx5
                        rw [hfx] at hc
                        refine wp_value (w' := w') (v := .bool true) (by simp [execOp, ev, go_sem, hc]) ?_
                        exact ⟨_, nb, by rw [ha]; exact putAll_put A 171 30 l _ (by omega) (by omega), by rw [List.length_set]; exact hlen, hB, set_known hlen (by decide) hl, fun h => (hr (h.resolve_left (by decide)))⟩
                      | 31, ho =>
                        cases Option.some.inj ho
                        refine .inl ⟨wanted_of (k := 191) rfl rfl rfl (known_at ha hsz hlen hl 20 (by decide) (hd ⟨20, .guard⟩ (by simp) rfl)), ?_⟩
                        have ev : a.tmps[201]? = some (.bool true) := known_at ha hsz hlen hl 30 (by decide) (hd ⟨30, .data⟩ (by simp) rfl)
                        refine wp_value (w' := w') (v := .bool false) (by simp [execOp, ev, go_sem]) ?_
                        exact ⟨_, nb, by rw [ha]; exact putAll_put A 171 31 l _ (by omega) (by omega), by rw [List.length_set]; exact hlen, hB, set_known hlen (by decide) hl, fun h => (hr (h.resolve_left (by decide)))⟩
                      | 32, ho =>
                        cases Option.some.inj ho
                        refine .inl ⟨wanted_of (k := 182) rfl rfl rfl (known_at ha hsz hlen hl 11 (by decide) (hd ⟨11, .guard⟩ (by simp) rfl)), ?_⟩
                        have ev : a.tmps[191]? = some (.bool false) := known_at ha hsz hlen hl 20 (by decide) (hd ⟨20, .data⟩ (by simp) rfl)
                        have ev' : a.tmps[202]? = some (.bool false) := known_at ha hsz hlen hl 31 (by decide) (hd ⟨31, .data⟩ (by simp) rfl)
                        refine wp_value (w' := w') (v := .bool false) (by simp [execOp, ev, ev', go_sem]) ?_
                        exact ⟨_, nb, by rw [ha]; exact putAll_put A 171 32 l _ (by omega) (by omega), by rw [List.length_set]; exact hlen, hB, set_known hlen (by decide) hl, fun h => (hr (h.resolve_left (by decide)))⟩
                      | 33, ho =>
                        cases Option.some.inj ho
                        refine .inl ⟨rfl, ?_⟩
                        have ev : a.tmps[182]? = some (.bool true) := known_at ha hsz hlen hl 11 (by decide) (hd ⟨11, .data⟩ (by simp) rfl)
                        have ev' : a.tmps[203]? = some (.bool false) := known_at ha hsz hlen hl 32 (by decide) (hd ⟨32, .data⟩ (by simp) rfl)
                        refine wp_value (w' := w') (v := .bool false) (by simp [execOp, ev, ev', go_sem]) ?_
                        exact ⟨_, nb, by rw [ha]; exact putAll_put A 171 33 l _ (by omega) (by omega), by rw [List.length_set]; exact hlen, hB, set_known hlen (by decide) hl, fun h => (hr (h.resolve_left (by decide)))⟩
                      | i + 34, ho => simp at ho
                    case done =>
                      rintro D a w' ⟨l, nb, ha, hlen, hB, hl, hr⟩ hall
                      obtain ⟨v0, v1, v2, v3, v4, v5, v6, v7, v8, v9, v10, v11, v12, v13, v14, v15, v16, v17, v18, v19, v20, v21, v22, v23, v24, v25, v26, v27, v28, v29, v30, v31, v32, v33, rfl⟩ := valSB_list hlen
                      have hz := hl 33 (by decide) (hall 33 (by decide))
                      simp only [List.getElem?_cons_succ, List.getElem?_cons_zero, Option.some.injEq] at hz
                      have hz' : v33 = .bool false := hz
                      subst hz'
                      clear hl hall hr
                      clear s20 s10 s12 s19 hsz hlen
                      subst hA
                      have hfr : a = _ := ha
                      rw [hfr]
                      clear hfr ha
                      simp only [putAll, List.take_succ_cons, List.take_zero, List.drop_succ_cons, List.drop_zero, List.cons_append, List.nil_append, List.length_cons, List.length_nil]
                      have q1 := hR9.below hB
                      have q2 := hRa.below hB
                      have q3 := hBRa.below hB
                      have q4 := below_size hB9 (Nat.le_refl _) hB
                      clear hR9 hRa hBRa hB9 hB
                      go_wp2
                      go_roundw
                      case rel => exact ⟨y2, by have := hy2.out; omega, rfl, q1, q2, q3, q4⟩
                      case measure =>
                        have := hy2.out
                        simp [intOf]
                        omega
end Go.Proofs.Ytofgphiamllmdaa
