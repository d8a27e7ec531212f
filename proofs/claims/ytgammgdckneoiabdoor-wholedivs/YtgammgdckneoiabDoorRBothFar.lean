/- The document's both, where the signs differ and something is left. -/
import Derived.Test.YtgammgdckneoiabDoorRDivide
namespace Go.Proofs.YtgammgdckneoiabDoor
open Go.RowKit

theorem size24U {u v : Value} : (Tryd.prog.info? 24).map (·.size) = some (#[u, v] : Array Value).size := by
  kernel_rfl

set_option maxRecDepth 100000 in
set_option maxHeartbeats 8000000 in
theorem both_far {a1 a2 : Option Addr} {l1 l2 c1 c2 : Nat} {xs ys : List Int} {w : World} (n1 n2 : Bool) (h1 : IsB w a1 l1 c1 xs) (h2 : IsB w a2 l2 c2 ys) (r1 : rightB n1 xs = true) (r2 : rightB n2 ys = true) (h0 : 0 < l2) (hn12 : (n1 != n2) = true) (hfar : val8 xs % val8 ys ≠ 0) :
    Calls Tryd.prog 51 #[.agg #[.bool n1, .slice a1 l1 c1], .agg #[.bool n2, .slice a2 l2 c2]] w fun e w' => ∃ v1 v2, e = .returned (.tuple #[.agg #[.bool ((n1 != n2) && decide (quoN (n1 != n2) (val8 xs) (val8 ys) ≠ 0)), v1], .agg #[.bool (n2 && decide (remN (n1 != n2) (val8 xs) (val8 ys) ≠ 0)), v2], .int .i64 0]) ∧ OwnB w' w.heap.size v1 (mag (quoN (n1 != n2) (val8 xs) (val8 ys))) ∧ OwnB w' w.heap.size v2 (mag (remN (n1 != n2) (val8 xs) (val8 ys))) ∧ Below w.heap.size w w' := by
  go_enter Tryd.func51, Tryd.ntmps51
  go_wp2_with fail
  obtain ⟨v0, v1, v2, v3, hb⟩ := alloc4 w (.cells #[.bool n1, .slice a1 l1 c1] 24) (.cells #[.bool n2, .slice a2 l2 c2] 24) (.cells #[.bool false, .slice none 0 0] 24) (.cells #[.bool false, .slice none 0 0] 24)
  have hs4 : ((((w.alloc (.cells #[.bool n1, .slice a1 l1 c1] 24)).alloc (.cells #[.bool n2, .slice a2 l2 c2] 24)).alloc (.cells #[.bool false, .slice none 0 0] 24)).alloc (.cells #[.bool false, .slice none 0 0] 24)).heap.size = w.heap.size + 4 := by simp
  generalize ((((w.alloc (.cells #[.bool n1, .slice a1 l1 c1] 24)).alloc (.cells #[.bool n2, .slice a2 l2 c2] 24)).alloc (.cells #[.bool false, .slice none 0 0] 24)).alloc (.cells #[.bool false, .slice none 0 0] 24)) = w1 at *
  have k1 := h1.below hb
  have k2 := h2.below hb
  refine (rright_any n1 k1).mono ?_
  rintro e w2 ⟨rfl, hb2⟩
  have u0 := (hb2.block _ (lt_of_block v0)).trans v0
  have u1 := (hb2.block _ (lt_of_block v1)).trans v1
  have u2 := (hb2.block _ (lt_of_block v2)).trans v2
  have u3 := (hb2.block _ (lt_of_block v3)).trans v3
  have hB2 := below_size hb (Nat.le_refl _) hb2
  have j1 := k1.below hb2
  have j2 := k2.below hb2
  have hsz2 := hb2.size
  rw [hs4] at hsz2
  clear v0 v1 v2 v3 hb hb2 k1 k2 hs4
  obtain ⟨x0, x1, _, _⟩ := intVarT u0
  obtain ⟨y0, y1, _, _⟩ := intVarT u1
  obtain ⟨p0, p1, pf0, pf1⟩ := intVarT u2
  obtain ⟨q0, q1, qf0, qf1⟩ := intVarT u3
  have hY0 : val8 ys ≠ 0 := by
    have := lead_le h2.byte (lead_right r2).1 (by rw [h2.size]; exact h0)
    have hp : 0 < 256 ^ (ys.length - 1) := Nat.pow_pos (by decide)
    omega
  have m1 := (lead_right r1).2
  have m2 := (lead_right r2).2
  rw [h1.size] at m1
  rw [h2.size] at m2
  have h0' : ((l2 : Int) == 0) = false := by simp; omega
  have h0'' : ¬ (l2 : Int) = 0 := by omega
  rw [r1]
  go_wp2_with fail
  refine (rright_any n2 j2).mono ?_
  rintro e w3 ⟨rfl, hb3⟩
  have t0 := (hb3.block _ (lt_of_block u0)).trans u0
  have t1 := (hb3.block _ (lt_of_block u1)).trans u1
  have t2 := (hb3.block _ (lt_of_block u2)).trans u2
  have t3 := (hb3.block _ (lt_of_block u3)).trans u3
  have hB3 := below_size hB2 (Nat.le_refl _) hb3
  have hsz3 := Nat.le_trans hsz2 hb3.size
  replace j1 := j1.below hb3
  replace j2 := j2.below hb3
  clear u0 u1 u2 u3 hB2 hb3 x0 x1 y0 y1 p0 p1 pf0 pf1 q0 q1 qf0 qf1
  obtain ⟨x0, x1, _, _⟩ := intVarT t0
  obtain ⟨y0, y1, _, _⟩ := intVarT t1
  obtain ⟨p0, p1, pf0, pf1⟩ := intVarT t2
  obtain ⟨q0, q1, qf0, qf1⟩ := intVarT t3
  rw [r2]
  go_wp2_with fail
  refine (rdivide_any j1 j2 (lead_right r2).1 m1 m2 hY0).mono ?_
  rintro e w4 ⟨vq, vr, zs, rfl, oq, hzv, hzl, ⟨rp, rc, rfl, hR, hrb⟩, hb4⟩
  obtain ⟨qp, qc, rfl, hQ⟩ := oq.2
  have hqb := own_hi oq
  rw [hzl] at hQ ⊢
  replace hqb := fun b off he => Nat.le_trans hsz3 (hqb b off he)
  replace hrb := fun b off he => Nat.le_trans hsz3 (hrb b off he)
  have z0 := (hb4.block _ (lt_of_block t0)).trans t0
  have z1 := (hb4.block _ (lt_of_block t1)).trans t1
  have z2 := (hb4.block _ (lt_of_block t2)).trans t2
  have z3 := (hb4.block _ (lt_of_block t3)).trans t3
  have hB4 := below_size hB3 (Nat.le_refl _) hb4
  have hsz4 := Nat.le_trans hsz3 hb4.size
  have i2 := j2.below hb4
  clear x0 x1 y0 y1 p0 p1 pf0 pf1 q0 q1 qf0 qf1 t0 t1 t2 t3 hB3 j1 j2 oq hb4
  obtain ⟨x0, x1, _, _⟩ := intVarT z0
  obtain ⟨y0, y1, _, _⟩ := intVarT z1
  obtain ⟨R, HR⟩ : ∃ R, Hid (val8 xs % val8 ys = R) := ⟨_, rfl⟩
  obtain ⟨Q, HQ⟩ : ∃ Q, Hid (val8 xs / val8 ys = Q) := ⟨_, rfl⟩
  rw [HQ.out] at hzv
  rw [HR.out] at hR ⊢
  have hRY : R < val8 ys := by rw [← HR.out]; exact Nat.mod_lt _ (by omega)
  have hYl : val8 ys < 256 ^ 128 := Nat.lt_of_lt_of_le (val8_lt ys h2.byte) (Nat.pow_le_pow_right (by decide) (by rw [h2.size]; exact m2))
  have hRl : blen R ≤ 128 := (blen_le _ _).2 (Nat.lt_trans hRY hYl)
  have hn12' : (n1 == n2) = false := by cases n1 <;> cases n2 <;> first | rfl | exact absurd hn12 (by decide)
  have hn12'' : ¬ n1 = n2 := by cases n1 <;> cases n2 <;> first | decide | exact absurd hn12 (by decide)
  have Hq : Hid (quoN (n1 != n2) (val8 xs) (val8 ys) = Q + 1) := by show _ = _; unfold quoN; rw [hn12, if_pos ⟨rfl, hfar⟩, HQ.out]
  have Hr : Hid (remN (n1 != n2) (val8 xs) (val8 ys) = val8 ys - R) := by show _ = _; unfold remN; rw [hn12, if_pos ⟨rfl, hfar⟩, HR.out]
  have hR0 : 0 < blen R := by
    rcases Nat.eq_zero_or_pos (blen R) with h | h
    · have := (blen_le R 0).1 (by omega)
      rw [← HR.out] at this
      simp at this
      exact absurd this hfar
    · exact h
  obtain ⟨rl, Hrl⟩ : ∃ rl, Hid (blen R = rl) := ⟨_, rfl⟩
  rw [Hrl.out] at hR hRl hR0 ⊢
  have hR0' : (0 : Int) < (rl : Int) := by omega
  have kp := isB_lit w4 #[.int .u8 1] [1] 1 rfl (by decide) rfl (by simp) (0, 0)
  have hbx := box_below w4 (.cells #[.int .u8 1] 5)
  have hQ' := hQ.below hbx
  go_wp2_with fail
  refine (rsum_any hQ' kp (by omega) (by omega)).mono ?_
  rintro e w5 ⟨vs, ss, rfl, os, hsv, hsl, hb5⟩
  rw [hzv, show val8 [1] = 1 from rfl] at hsv
  have hbs := below_size hbx (by simp) hb5
  obtain ⟨sp, sc, rfl, hS⟩ := os.2
  have hs0 : w.heap.size + 4 ≤ (w4.alloc (.cells #[.int .u8 1] 5)).heap.size := by simp; omega
  have hsb : ∀ b off, sp = some ⟨b, off, none⟩ → w.heap.size + 4 ≤ b := fun b off he => Nat.le_trans hs0 (own_hi os b off he)
  obtain ⟨sl, Hsl⟩ : ∃ sl, Hid (ss.length = sl) := ⟨_, rfl⟩
  rw [Hsl.out] at hS hsl ⊢
  have hsl' : sl ≤ 200 := by omega
  have hB5 := below_size hB4 (Nat.le_refl _) hbs
  have hsz5 := Nat.le_trans hsz4 hbs.size
  replace z0 := (hbs.block _ (lt_of_block z0)).trans z0
  replace z1 := (hbs.block _ (lt_of_block z1)).trans z1
  replace z2 := (hbs.block _ (lt_of_block z2)).trans z2
  replace z3 := (hbs.block _ (lt_of_block z3)).trans z3
  have i5 := i2.below hbs
  have hR5 := hR.below hbs
  clear x0 x1 y0 y1 os hb5 hbs hbx hQ' kp hQ hR i2 hB4 hsl hs0 hzv
  obtain ⟨x0, x1, _, _⟩ := intVarT z0
  obtain ⟨y0, y1, _, _⟩ := intVarT z1
  go_wp2_with fail
  refine (rless_any i5 hR5 (by omega) (by omega) (by rw [val8_mag]; omega)).mono ?_
  rintro e w6 ⟨vl, ls, rfl, ol, hlv, hll, hb6⟩
  rw [val8_mag] at hlv
  obtain ⟨lp, lc, rfl, hL⟩ := ol.2
  have hlb : ∀ b off, lp = some ⟨b, off, none⟩ → w.heap.size + 4 ≤ b := fun b off he => Nat.le_trans hsz5 (own_hi ol b off he)
  rw [hll] at hL ⊢
  have hB6 := below_size hB5 (Nat.le_refl _) hb6
  have hsz6 := Nat.le_trans hsz5 hb6.size
  replace z0 := (hb6.block _ (lt_of_block z0)).trans z0
  replace z1 := (hb6.block _ (lt_of_block z1)).trans z1
  replace z2 := (hb6.block _ (lt_of_block z2)).trans z2
  replace z3 := (hb6.block _ (lt_of_block z3)).trans z3
  have hS6 := hS.below hb6
  have hrV : val8 ls = val8 ys - R := hlv
  have hqV : val8 ss = Q + 1 := hsv
  clear x0 x1 y0 y1 ol hb6 hB5 hS i5 hR5 hlv hsv hYl
  go_wp2
  refine wp_region_inv' (fun A D a w' => ∃ v50 v51 v52 v53 v54 v55 v56 v57 v58 v59 v60 v6 pv sv u0 u1 u2 u3, a = ((((((((((((A.put (some 50) v50).put (some 51) v51).put (some 52) v52).put (some 53) v53).put (some 54) v54).put (some 55) v55).put (some 56) v56).put (some 57) v57).put (some 58) v58).put (some 59) v59).put (some 60) v60).put (some 6) v6) ∧ Below w.heap.size w w' ∧ w.heap.size + 4 ≤ w'.heap.size ∧ w'.heap[w.heap.size]? = some (.cells #[.bool n1, .slice a1 l1 c1] 24 (0, 0)) ∧ w'.heap[w.heap.size + 1]? = some (.cells #[.bool n2, .slice a2 l2 c2] 24 (0, 0)) ∧ w'.heap[w.heap.size + 2]? = some (.cells #[u0, u1] 24 (0, 0)) ∧ w'.heap[w.heap.size + 3]? = some (.cells #[u2, u3] 24 (0, 0)) ∧ IsB w' sp sl sc ss ∧ IsB w' lp l2 lc ls ∧ (D 0 → v50 = .pointer (some ⟨w.heap.size, 0, none⟩)) ∧ (D 1 → v51 = .bool n1) ∧ (D 2 → v52 = .pointer (some ⟨w.heap.size + 1, 0, none⟩)) ∧ (D 3 → v53 = .bool n2) ∧ (D 4 → v54 = .bool (n1 != n2)) ∧ (D 5 → v55 = .slice sp sl sc) ∧ (D 6 → v56 = .agg #[.bool ((n1 != n2) && decide ((Q + 1) ≠ 0)), pv]) ∧ (D 7 → v57 = .pointer (some ⟨w.heap.size + 1, 0, none⟩)) ∧ (D 8 → v58 = .bool n2) ∧ (D 9 → v59 = .slice lp l2 lc) ∧ (D 10 → v60 = .agg #[.bool (n2 && decide ((val8 ys - R) ≠ 0)), sv]) ∧ (D 13 → v6 = .int .i64 0) ∧ (D 6 → OwnB w' (w.heap.size + 4) pv (mag (Q + 1))) ∧ (D 10 → OwnB w' (w.heap.size + 4) sv (mag (val8 ys - R))) ∧ (D 11 → (u0 = .bool ((n1 != n2) && decide ((Q + 1) ≠ 0)) ∧ u1 = pv)) ∧ (D 12 → (u2 = .bool (n2 && decide ((val8 ys - R) ≠ 0)) ∧ u3 = sv))) (by kernel_rfl) (by kernel_rfl) ?mono ?start ?step ?done
  case mono =>
    rintro D D' a w' hD ⟨v50, v51, v52, v53, v54, v55, v56, v57, v58, v59, v60, v6, pv, sv, u0, u1, u2, u3, ha, gB, gsz, g0, g1, g2, g3, gq, gr, e0, e1, e2, e3, e4, e5, e6, e7, e8, e9, e10, e13, o6, o10, u11, u12⟩
    exact ⟨v50, v51, v52, v53, v54, v55, v56, v57, v58, v59, v60, v6, pv, sv, u0, u1, u2, u3, ha, gB, gsz, g0, g1, g2, g3, gq, gr, fun h => e0 ((hD 0).2 h), fun h => e1 ((hD 1).2 h), fun h => e2 ((hD 2).2 h), fun h => e3 ((hD 3).2 h), fun h => e4 ((hD 4).2 h), fun h => e5 ((hD 5).2 h), fun h => e6 ((hD 6).2 h), fun h => e7 ((hD 7).2 h), fun h => e8 ((hD 8).2 h), fun h => e9 ((hD 9).2 h), fun h => e10 ((hD 10).2 h), fun h => e13 ((hD 13).2 h), fun h => o6 ((hD 6).2 h), fun h => o10 ((hD 10).2 h), fun h => u11 ((hD 11).2 h), fun h => u12 ((hD 12).2 h)⟩
  case start => exact ⟨undef, undef, undef, undef, undef, undef, undef, undef, undef, undef, undef, (.int .i64 0), undef, undef, _, _, _, _, by kernel_rfl, hB6.drew, hsz6, z0, z1, z2, z3, hS6.below (Below.refl _ _).drew, hL.below (Below.refl _ _).drew, fun h => h.elim, fun h => h.elim, fun h => h.elim, fun h => h.elim, fun h => h.elim, fun h => h.elim, fun h => h.elim, fun h => h.elim, fun h => h.elim, fun h => h.elim, fun h => h.elim, fun h => h.elim, fun h => h.elim, fun h => h.elim, fun h => h.elim, fun h => h.elim⟩
  case step =>
    intro i o ho D a w' hI hn hcl hd
    obtain ⟨v50, v51, v52, v53, v54, v55, v56, v57, v58, v59, v60, v6, pv, sv, u0, u1, u2, u3, ha, gB, gsz, g0, g1, g2, g3, gq, gr, e0, e1, e2, e3, e4, e5, e6, e7, e8, e9, e10, e13, o6, o10, u11, u12⟩ := hI
    match i, ho with
    | 0, ho =>
      cases Option.some.inj ho
      have ev : a.tmps[2]?.getD undef = .pointer (some ⟨w.heap.size, 0, none⟩) := by rw [ha]; kernel_rfl
      refine wp_value (w' := w') (v := .pointer (some ⟨w.heap.size, 0, none⟩)) (by simp [execOp, ev, go_sem]) ?_
      exact ⟨(.pointer (some ⟨w.heap.size, 0, none⟩)), v51, v52, v53, v54, v55, v56, v57, v58, v59, v60, v6, pv, sv, u0, u1, u2, u3, by rw [ha]; kernel_rfl, gB, gsz, g0, g1, g2, g3, gq, gr, fun _ => rfl, fun h => e1 (h.resolve_left (by decide)), fun h => e2 (h.resolve_left (by decide)), fun h => e3 (h.resolve_left (by decide)), fun h => e4 (h.resolve_left (by decide)), fun h => e5 (h.resolve_left (by decide)), fun h => e6 (h.resolve_left (by decide)), fun h => e7 (h.resolve_left (by decide)), fun h => e8 (h.resolve_left (by decide)), fun h => e9 (h.resolve_left (by decide)), fun h => e10 (h.resolve_left (by decide)), fun h => e13 (h.resolve_left (by decide)), fun h => o6 (h.resolve_left (by decide)), fun h => o10 (h.resolve_left (by decide)), fun h => u11 (h.resolve_left (by decide)), fun h => u12 (h.resolve_left (by decide))⟩
    | 1, ho =>
      cases Option.some.inj ho
      have ev : a.tmps[50]?.getD undef = .pointer (some ⟨w.heap.size, 0, none⟩) := by rw [ha, e0 (hd ⟨0, .data⟩ (by simp) rfl)]; kernel_rfl
      have hc := (intVarT g0).1
      refine wp_value (w' := w') (v := .bool n1) (by simp [execOp, ev, go_sem, hc]) ?_
      exact ⟨v50, (.bool n1), v52, v53, v54, v55, v56, v57, v58, v59, v60, v6, pv, sv, u0, u1, u2, u3, by rw [ha]; kernel_rfl, gB, gsz, g0, g1, g2, g3, gq, gr, fun h => e0 (h.resolve_left (by decide)), fun _ => rfl, fun h => e2 (h.resolve_left (by decide)), fun h => e3 (h.resolve_left (by decide)), fun h => e4 (h.resolve_left (by decide)), fun h => e5 (h.resolve_left (by decide)), fun h => e6 (h.resolve_left (by decide)), fun h => e7 (h.resolve_left (by decide)), fun h => e8 (h.resolve_left (by decide)), fun h => e9 (h.resolve_left (by decide)), fun h => e10 (h.resolve_left (by decide)), fun h => e13 (h.resolve_left (by decide)), fun h => o6 (h.resolve_left (by decide)), fun h => o10 (h.resolve_left (by decide)), fun h => u11 (h.resolve_left (by decide)), fun h => u12 (h.resolve_left (by decide))⟩
    | 2, ho =>
      cases Option.some.inj ho
      have ev : a.tmps[3]?.getD undef = .pointer (some ⟨w.heap.size + 1, 0, none⟩) := by rw [ha]; kernel_rfl
      refine wp_value (w' := w') (v := .pointer (some ⟨w.heap.size + 1, 0, none⟩)) (by simp [execOp, ev, go_sem]) ?_
      exact ⟨v50, v51, (.pointer (some ⟨w.heap.size + 1, 0, none⟩)), v53, v54, v55, v56, v57, v58, v59, v60, v6, pv, sv, u0, u1, u2, u3, by rw [ha]; kernel_rfl, gB, gsz, g0, g1, g2, g3, gq, gr, fun h => e0 (h.resolve_left (by decide)), fun h => e1 (h.resolve_left (by decide)), fun _ => rfl, fun h => e3 (h.resolve_left (by decide)), fun h => e4 (h.resolve_left (by decide)), fun h => e5 (h.resolve_left (by decide)), fun h => e6 (h.resolve_left (by decide)), fun h => e7 (h.resolve_left (by decide)), fun h => e8 (h.resolve_left (by decide)), fun h => e9 (h.resolve_left (by decide)), fun h => e10 (h.resolve_left (by decide)), fun h => e13 (h.resolve_left (by decide)), fun h => o6 (h.resolve_left (by decide)), fun h => o10 (h.resolve_left (by decide)), fun h => u11 (h.resolve_left (by decide)), fun h => u12 (h.resolve_left (by decide))⟩
    | 3, ho =>
      cases Option.some.inj ho
      have ev : a.tmps[52]?.getD undef = .pointer (some ⟨w.heap.size + 1, 0, none⟩) := by rw [ha, e2 (hd ⟨2, .data⟩ (by simp) rfl)]; kernel_rfl
      have hc := (intVarT g1).1
      refine wp_value (w' := w') (v := .bool n2) (by simp [execOp, ev, go_sem, hc]) ?_
      exact ⟨v50, v51, v52, (.bool n2), v54, v55, v56, v57, v58, v59, v60, v6, pv, sv, u0, u1, u2, u3, by rw [ha]; kernel_rfl, gB, gsz, g0, g1, g2, g3, gq, gr, fun h => e0 (h.resolve_left (by decide)), fun h => e1 (h.resolve_left (by decide)), fun h => e2 (h.resolve_left (by decide)), fun _ => rfl, fun h => e4 (h.resolve_left (by decide)), fun h => e5 (h.resolve_left (by decide)), fun h => e6 (h.resolve_left (by decide)), fun h => e7 (h.resolve_left (by decide)), fun h => e8 (h.resolve_left (by decide)), fun h => e9 (h.resolve_left (by decide)), fun h => e10 (h.resolve_left (by decide)), fun h => e13 (h.resolve_left (by decide)), fun h => o6 (h.resolve_left (by decide)), fun h => o10 (h.resolve_left (by decide)), fun h => u11 (h.resolve_left (by decide)), fun h => u12 (h.resolve_left (by decide))⟩
    | 4, ho =>
      cases Option.some.inj ho
      have ev : a.tmps[51]?.getD undef = .bool n1 := by rw [ha, e1 (hd ⟨1, .data⟩ (by simp) rfl)]; kernel_rfl
      have ev' : a.tmps[53]?.getD undef = .bool n2 := by rw [ha, e3 (hd ⟨3, .data⟩ (by simp) rfl)]; kernel_rfl
      refine wp_value (w' := w') (v := .bool (n1 != n2)) (run_neq_bool a w' (eval_of ev) (eval_of ev') rfl) ?_
      exact ⟨v50, v51, v52, v53, (.bool (n1 != n2)), v55, v56, v57, v58, v59, v60, v6, pv, sv, u0, u1, u2, u3, by rw [ha]; kernel_rfl, gB, gsz, g0, g1, g2, g3, gq, gr, fun h => e0 (h.resolve_left (by decide)), fun h => e1 (h.resolve_left (by decide)), fun h => e2 (h.resolve_left (by decide)), fun h => e3 (h.resolve_left (by decide)), fun _ => rfl, fun h => e5 (h.resolve_left (by decide)), fun h => e6 (h.resolve_left (by decide)), fun h => e7 (h.resolve_left (by decide)), fun h => e8 (h.resolve_left (by decide)), fun h => e9 (h.resolve_left (by decide)), fun h => e10 (h.resolve_left (by decide)), fun h => e13 (h.resolve_left (by decide)), fun h => o6 (h.resolve_left (by decide)), fun h => o10 (h.resolve_left (by decide)), fun h => u11 (h.resolve_left (by decide)), fun h => u12 (h.resolve_left (by decide))⟩
    | 5, ho =>
      cases Option.some.inj ho
      have ev : a.tmps[7]?.getD undef = .slice sp sl sc := by rw [ha]; kernel_rfl
      refine wp_value (w' := w') (v := .slice sp sl sc) (by simp [execOp, ev, go_sem]) ?_
      exact ⟨v50, v51, v52, v53, v54, (.slice sp sl sc), v56, v57, v58, v59, v60, v6, pv, sv, u0, u1, u2, u3, by rw [ha]; kernel_rfl, gB, gsz, g0, g1, g2, g3, gq, gr, fun h => e0 (h.resolve_left (by decide)), fun h => e1 (h.resolve_left (by decide)), fun h => e2 (h.resolve_left (by decide)), fun h => e3 (h.resolve_left (by decide)), fun h => e4 (h.resolve_left (by decide)), fun _ => rfl, fun h => e6 (h.resolve_left (by decide)), fun h => e7 (h.resolve_left (by decide)), fun h => e8 (h.resolve_left (by decide)), fun h => e9 (h.resolve_left (by decide)), fun h => e10 (h.resolve_left (by decide)), fun h => e13 (h.resolve_left (by decide)), fun h => o6 (h.resolve_left (by decide)), fun h => o10 (h.resolve_left (by decide)), fun h => u11 (h.resolve_left (by decide)), fun h => u12 (h.resolve_left (by decide))⟩
    | 6, ho =>
      cases Option.some.inj ho
      have ev : a.tmps[54]?.getD undef = .bool (n1 != n2) := by rw [ha, e4 (hd ⟨4, .data⟩ (by simp) rfl)]; kernel_rfl
      have ev' : a.tmps[55]?.getD undef = .slice sp sl sc := by rw [ha, e5 (hd ⟨5, .data⟩ (by simp) rfl)]; kernel_rfl
      refine wp_enter (f := 38) (args := #[.bool (n1 != n2), .slice sp sl sc]) (by simp [execOp, ev, ev', go_sem]) ?_
      refine (made_any (n1 != n2) gq (by omega)).mono ?_
      rintro e w6 ⟨pn, rfl, hO, HB⟩
      refine ⟨_, rfl, ?_⟩
      rw [hqV] at hO ⊢
      have hO' := hO.mono gsz
      exact ⟨v50, v51, v52, v53, v54, v55, (.agg #[.bool ((n1 != n2) && decide ((Q + 1) ≠ 0)), pn]), v57, v58, v59, v60, v6, pn, sv, u0, u1, u2, u3, by rw [ha]; kernel_rfl, below_size gB (Nat.le_refl _) HB, Nat.le_trans gsz HB.size, (HB.block _ (lt_of_block g0)).trans g0, (HB.block _ (lt_of_block g1)).trans g1, (HB.block _ (lt_of_block g2)).trans g2, (HB.block _ (lt_of_block g3)).trans g3, gq.below HB, gr.below HB, fun h => e0 (h.resolve_left (by decide)), fun h => e1 (h.resolve_left (by decide)), fun h => e2 (h.resolve_left (by decide)), fun h => e3 (h.resolve_left (by decide)), fun h => e4 (h.resolve_left (by decide)), fun h => e5 (h.resolve_left (by decide)), fun _ => rfl, fun h => e7 (h.resolve_left (by decide)), fun h => e8 (h.resolve_left (by decide)), fun h => e9 (h.resolve_left (by decide)), fun h => e10 (h.resolve_left (by decide)), fun h => e13 (h.resolve_left (by decide)), fun _ => hO', fun h => (o10 (h.resolve_left (by decide))).below HB, fun h => absurd (h.resolve_left (by decide)) (fun h => hn (hcl 11 _ rfl h ⟨6, .data⟩ (by simp) rfl)), fun h => u12 (h.resolve_left (by decide))⟩
    | 7, ho =>
      cases Option.some.inj ho
      have ev : a.tmps[3]?.getD undef = .pointer (some ⟨w.heap.size + 1, 0, none⟩) := by rw [ha]; kernel_rfl
      refine wp_value (w' := w') (v := .pointer (some ⟨w.heap.size + 1, 0, none⟩)) (by simp [execOp, ev, go_sem]) ?_
      exact ⟨v50, v51, v52, v53, v54, v55, v56, (.pointer (some ⟨w.heap.size + 1, 0, none⟩)), v58, v59, v60, v6, pv, sv, u0, u1, u2, u3, by rw [ha]; kernel_rfl, gB, gsz, g0, g1, g2, g3, gq, gr, fun h => e0 (h.resolve_left (by decide)), fun h => e1 (h.resolve_left (by decide)), fun h => e2 (h.resolve_left (by decide)), fun h => e3 (h.resolve_left (by decide)), fun h => e4 (h.resolve_left (by decide)), fun h => e5 (h.resolve_left (by decide)), fun h => e6 (h.resolve_left (by decide)), fun _ => rfl, fun h => e8 (h.resolve_left (by decide)), fun h => e9 (h.resolve_left (by decide)), fun h => e10 (h.resolve_left (by decide)), fun h => e13 (h.resolve_left (by decide)), fun h => o6 (h.resolve_left (by decide)), fun h => o10 (h.resolve_left (by decide)), fun h => u11 (h.resolve_left (by decide)), fun h => u12 (h.resolve_left (by decide))⟩
    | 8, ho =>
      cases Option.some.inj ho
      have ev : a.tmps[57]?.getD undef = .pointer (some ⟨w.heap.size + 1, 0, none⟩) := by rw [ha, e7 (hd ⟨7, .data⟩ (by simp) rfl)]; kernel_rfl
      have hc := (intVarT g1).1
      refine wp_value (w' := w') (v := .bool n2) (by simp [execOp, ev, go_sem, hc]) ?_
      exact ⟨v50, v51, v52, v53, v54, v55, v56, v57, (.bool n2), v59, v60, v6, pv, sv, u0, u1, u2, u3, by rw [ha]; kernel_rfl, gB, gsz, g0, g1, g2, g3, gq, gr, fun h => e0 (h.resolve_left (by decide)), fun h => e1 (h.resolve_left (by decide)), fun h => e2 (h.resolve_left (by decide)), fun h => e3 (h.resolve_left (by decide)), fun h => e4 (h.resolve_left (by decide)), fun h => e5 (h.resolve_left (by decide)), fun h => e6 (h.resolve_left (by decide)), fun h => e7 (h.resolve_left (by decide)), fun _ => rfl, fun h => e9 (h.resolve_left (by decide)), fun h => e10 (h.resolve_left (by decide)), fun h => e13 (h.resolve_left (by decide)), fun h => o6 (h.resolve_left (by decide)), fun h => o10 (h.resolve_left (by decide)), fun h => u11 (h.resolve_left (by decide)), fun h => u12 (h.resolve_left (by decide))⟩
    | 9, ho =>
      cases Option.some.inj ho
      have ev : a.tmps[8]?.getD undef = .slice lp l2 lc := by rw [ha]; kernel_rfl
      refine wp_value (w' := w') (v := .slice lp l2 lc) (by simp [execOp, ev, go_sem]) ?_
      exact ⟨v50, v51, v52, v53, v54, v55, v56, v57, v58, (.slice lp l2 lc), v60, v6, pv, sv, u0, u1, u2, u3, by rw [ha]; kernel_rfl, gB, gsz, g0, g1, g2, g3, gq, gr, fun h => e0 (h.resolve_left (by decide)), fun h => e1 (h.resolve_left (by decide)), fun h => e2 (h.resolve_left (by decide)), fun h => e3 (h.resolve_left (by decide)), fun h => e4 (h.resolve_left (by decide)), fun h => e5 (h.resolve_left (by decide)), fun h => e6 (h.resolve_left (by decide)), fun h => e7 (h.resolve_left (by decide)), fun h => e8 (h.resolve_left (by decide)), fun _ => rfl, fun h => e10 (h.resolve_left (by decide)), fun h => e13 (h.resolve_left (by decide)), fun h => o6 (h.resolve_left (by decide)), fun h => o10 (h.resolve_left (by decide)), fun h => u11 (h.resolve_left (by decide)), fun h => u12 (h.resolve_left (by decide))⟩
    | 10, ho =>
      cases Option.some.inj ho
      have ev : a.tmps[58]?.getD undef = .bool n2 := by rw [ha, e8 (hd ⟨8, .data⟩ (by simp) rfl)]; kernel_rfl
      have ev' : a.tmps[59]?.getD undef = .slice lp l2 lc := by rw [ha, e9 (hd ⟨9, .data⟩ (by simp) rfl)]; kernel_rfl
      refine wp_enter (f := 38) (args := #[.bool n2, .slice lp l2 lc]) (by simp [execOp, ev, ev', go_sem]) ?_
      refine (made_any n2 gr (by omega)).mono ?_
      rintro e w6 ⟨pn, rfl, hO, HB⟩
      refine ⟨_, rfl, ?_⟩
      rw [hrV] at hO ⊢
      have hO' := hO.mono gsz
      exact ⟨v50, v51, v52, v53, v54, v55, v56, v57, v58, v59, (.agg #[.bool (n2 && decide ((val8 ys - R) ≠ 0)), pn]), v6, pv, pn, u0, u1, u2, u3, by rw [ha]; kernel_rfl, below_size gB (Nat.le_refl _) HB, Nat.le_trans gsz HB.size, (HB.block _ (lt_of_block g0)).trans g0, (HB.block _ (lt_of_block g1)).trans g1, (HB.block _ (lt_of_block g2)).trans g2, (HB.block _ (lt_of_block g3)).trans g3, gq.below HB, gr.below HB, fun h => e0 (h.resolve_left (by decide)), fun h => e1 (h.resolve_left (by decide)), fun h => e2 (h.resolve_left (by decide)), fun h => e3 (h.resolve_left (by decide)), fun h => e4 (h.resolve_left (by decide)), fun h => e5 (h.resolve_left (by decide)), fun h => e6 (h.resolve_left (by decide)), fun h => e7 (h.resolve_left (by decide)), fun h => e8 (h.resolve_left (by decide)), fun h => e9 (h.resolve_left (by decide)), fun _ => rfl, fun h => e13 (h.resolve_left (by decide)), fun h => (o6 (h.resolve_left (by decide))).below HB, fun _ => hO', fun h => u11 (h.resolve_left (by decide)), fun h => absurd (h.resolve_left (by decide)) (fun h => hn (hcl 12 _ rfl h ⟨10, .data⟩ (by simp) rfl))⟩
    | 11, ho =>
      cases Option.some.inj ho
      have ev : a.tmps[56]?.getD undef = .agg #[.bool ((n1 != n2) && decide ((Q + 1) ≠ 0)), pv] := by rw [ha, e6 (hd ⟨6, .data⟩ (by simp) rfl)]; kernel_rfl
      have ev' : a.tmps[4]?.getD undef = .pointer (some ⟨w.heap.size + 2, 0, none⟩) := by rw [ha]; kernel_rfl
      have hO := o6 (hd ⟨6, .data⟩ (by simp) rfl)
      obtain ⟨av, cv, rfl, _⟩ := hO.2
      refine wp_store_row 24 (.tmp 4) (.tmp 56) rfl (w.heap.size + 2) _ (eval_of ev') (eval_of ev) 24 _ g2 size24U rfl (by simp [Value.oneCell']) ?_
      exact ⟨v50, v51, v52, v53, v54, v55, v56, v57, v58, v59, v60, v6, _, sv, (.bool ((n1 != n2) && decide ((Q + 1) ≠ 0))), _, u2, u3, by rw [ha]; kernel_rfl, below_setRow gB (by omega) _, (by simpa using gsz), (setRow_other _ _ _ _ (by omega)).trans g0, (setRow_other _ _ _ _ (by omega)).trans g1, setRow_heap _ _ _ _ _ _ g2, (setRow_other _ _ _ _ (by omega)).trans g3, isB_setRow gq hsb (by omega), isB_setRow gr hlb (by omega), fun h => e0 (h.resolve_left (by decide)), fun h => e1 (h.resolve_left (by decide)), fun h => e2 (h.resolve_left (by decide)), fun h => e3 (h.resolve_left (by decide)), fun h => e4 (h.resolve_left (by decide)), fun h => e5 (h.resolve_left (by decide)), fun h => e6 (h.resolve_left (by decide)), fun h => e7 (h.resolve_left (by decide)), fun h => e8 (h.resolve_left (by decide)), fun h => e9 (h.resolve_left (by decide)), fun h => e10 (h.resolve_left (by decide)), fun h => e13 (h.resolve_left (by decide)), fun h => ownB_setRow (o6 (h.resolve_left (by decide))) (by omega), fun h => ownB_setRow (o10 (h.resolve_left (by decide))) (by omega), fun _ => ⟨rfl, rfl⟩, fun h => u12 (h.resolve_left (by decide))⟩
    | 12, ho =>
      cases Option.some.inj ho
      have ev : a.tmps[60]?.getD undef = .agg #[.bool (n2 && decide ((val8 ys - R) ≠ 0)), sv] := by rw [ha, e10 (hd ⟨10, .data⟩ (by simp) rfl)]; kernel_rfl
      have ev' : a.tmps[5]?.getD undef = .pointer (some ⟨w.heap.size + 3, 0, none⟩) := by rw [ha]; kernel_rfl
      have hO := o10 (hd ⟨10, .data⟩ (by simp) rfl)
      obtain ⟨av, cv, rfl, _⟩ := hO.2
      refine wp_store_row 24 (.tmp 5) (.tmp 60) rfl (w.heap.size + 3) _ (eval_of ev') (eval_of ev) 24 _ g3 size24U rfl (by simp [Value.oneCell']) ?_
      exact ⟨v50, v51, v52, v53, v54, v55, v56, v57, v58, v59, v60, v6, pv, _, u0, u1, (.bool (n2 && decide ((val8 ys - R) ≠ 0))), _, by rw [ha]; kernel_rfl, below_setRow gB (by omega) _, (by simpa using gsz), (setRow_other _ _ _ _ (by omega)).trans g0, (setRow_other _ _ _ _ (by omega)).trans g1, (setRow_other _ _ _ _ (by omega)).trans g2, setRow_heap _ _ _ _ _ _ g3, isB_setRow gq hsb (by omega), isB_setRow gr hlb (by omega), fun h => e0 (h.resolve_left (by decide)), fun h => e1 (h.resolve_left (by decide)), fun h => e2 (h.resolve_left (by decide)), fun h => e3 (h.resolve_left (by decide)), fun h => e4 (h.resolve_left (by decide)), fun h => e5 (h.resolve_left (by decide)), fun h => e6 (h.resolve_left (by decide)), fun h => e7 (h.resolve_left (by decide)), fun h => e8 (h.resolve_left (by decide)), fun h => e9 (h.resolve_left (by decide)), fun h => e10 (h.resolve_left (by decide)), fun h => e13 (h.resolve_left (by decide)), fun h => ownB_setRow (o6 (h.resolve_left (by decide))) (by omega), fun h => ownB_setRow (o10 (h.resolve_left (by decide))) (by omega), fun h => u11 (h.resolve_left (by decide)), fun _ => ⟨rfl, rfl⟩⟩
    | 13, ho =>
      cases Option.some.inj ho
      refine wp_value (w' := w') (v := .int .i64 0) (by simp [execOp, go_sem]) ?_
      exact ⟨v50, v51, v52, v53, v54, v55, v56, v57, v58, v59, v60, (.int .i64 0), pv, sv, u0, u1, u2, u3, by rw [ha]; kernel_rfl, gB, gsz, g0, g1, g2, g3, gq, gr, fun h => e0 (h.resolve_left (by decide)), fun h => e1 (h.resolve_left (by decide)), fun h => e2 (h.resolve_left (by decide)), fun h => e3 (h.resolve_left (by decide)), fun h => e4 (h.resolve_left (by decide)), fun h => e5 (h.resolve_left (by decide)), fun h => e6 (h.resolve_left (by decide)), fun h => e7 (h.resolve_left (by decide)), fun h => e8 (h.resolve_left (by decide)), fun h => e9 (h.resolve_left (by decide)), fun h => e10 (h.resolve_left (by decide)), fun _ => rfl, fun h => o6 (h.resolve_left (by decide)), fun h => o10 (h.resolve_left (by decide)), fun h => u11 (h.resolve_left (by decide)), fun h => u12 (h.resolve_left (by decide))⟩
    | i + 14, ho => simp at ho
  case done =>
    rintro D a w' ⟨v50, v51, v52, v53, v54, v55, v56, v57, v58, v59, v60, v6, pv, sv, u0, u1, u2, u3, ha, gB, gsz, g0, g1, g2, g3, gq, gr, e0, e1, e2, e3, e4, e5, e6, e7, e8, e9, e10, e13, o6, o10, u11, u12⟩ hall
    have oQ := o6 (hall 6 (by decide))
    have oR := o10 (hall 10 (by decide))
    obtain ⟨rfl, rfl⟩ := u11 (hall 11 (by decide))
    obtain ⟨rfl, rfl⟩ := u12 (hall 12 (by decide))
    obtain rfl := e13 (hall 13 (by decide))
    clear e0 e1 e2 e3 e4 e5 e6 e7 e8 e9 e10 e13 o6 o10 u11 u12 hall g0 g1 gq gr
    obtain ⟨p0, p1, _, _⟩ := intVarT g2
    obtain ⟨q0, q1, _, _⟩ := intVarT g3
    rw [ha]
    clear ha
    simp only [Act.put, List.setIfInBounds_toArray, List.set_cons_zero, List.set_cons_succ]
    go_wp2
    exact bodyPost_ret (v := .tuple #[.agg #[.bool ((n1 != n2) && decide ((Q + 1) ≠ 0)), u1], .agg #[.bool (n2 && decide ((val8 ys - R) ≠ 0)), u3], .int .i64 0]) (by simp [results, Tryd.results51, go_sem, p0, p1, q0, q1]) rfl ⟨_, _, by rw [Hq.out, Hr.out], by rw [Hq.out]; exact oQ.mono (by omega), by rw [Hr.out]; exact oR.mono (by omega), gB⟩
end Go.Proofs.YtgammgdckneoiabDoor
