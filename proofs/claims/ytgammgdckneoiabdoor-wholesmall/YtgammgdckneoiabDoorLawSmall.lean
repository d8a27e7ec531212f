/- The walk of WholeSmall: any small number, any number as a small one, and which of two is the lesser one. -/
import Derived.Test.YtgammgdckneoiabDoorKnown
import Derived.Test.YtgammgdckneoiabDoorAnyG
import Derived.Test.YtgammgdckneoiabDoorSmall
import Derived.Test.YtgammgdckneoiabDoorROf
import Derived.Test.YtgammgdckneoiabDoorGiven
namespace Go.Proofs.YtgammgdckneoiabDoor
open Go.RowKit

theorem size24 {u v : Value} : (Tryd.prog.info? 24).map (·.size) = some (#[u, v] : Array Value).size := by
  have : (Tryd.prog.info? 24).map (·.size) = some 2 := by kernel_rfl
  exact this
theorem run_neq_i64 (a : Act) (w : World) {o : Oper} {x y : Operand} {p : Int} (hx : a.eval x = .int .i64 p) (hy : a.eval y = .int .i64 p) (ho : o.op = .binOp .neq 2 x y 2) : (execOp a.eval o).run Tryd.prog w = .ok (.value (.bool false)) w := by
  simp only [execOp, ho, hx, hy]
  simp [go_sem]
theorem run_neq_int (a : Act) (w : World) {o : Oper} {x y : Operand} {p : Int} (hx : a.eval x = .int .i64 p) (hy : a.eval y = .int .i64 p) (ho : o.op = .binOp .neq 3 x y 3) : (execOp a.eval o).run Tryd.prog w = .ok (.value (.bool false)) w := by
  simp only [execOp, ho, hx, hy]
  simp [go_sem]
theorem run_neq_same (a : Act) (w : World) {o : Oper} {x y : Operand} {p : Bool} (hx : a.eval x = .bool p) (hy : a.eval y = .bool p) (ho : o.op = .binOp .neq 4 x y 4) : (execOp a.eval o).run Tryd.prog w = .ok (.value (.bool false)) w := by
  rw [run_neq_bool a w hx hy ho]; simp

/-- What region 4's operations yield. -/
def valS (n : Int) (n1 n2 : Bool) (xs ys : List Int) (a1 a2 : Option Addr) (l1 l2 c1 c2 g : Nat) (p27 : Option Addr) (c27 : Nat) (p30 : Option Addr) (c30 g2 : Nat) (j : Nat) : Value :=
  ([.int .i64 n,
    .agg #[.bool (decide (n < 0)), .slice p27 (mag n.natAbs).length c27],
    .agg #[.bool (decide (n < 0)), .slice p27 (mag n.natAbs).length c27],
    .int .i64 n,
    .agg #[.bool (decide (n < 0)), .slice p30 (mag n.natAbs).length c30],
    .bool true,
    .bool false,
    .bool false,
    .int .i64 (smallI n1 xs),
    .int .i64 (smallI n1 xs),
    .bool false,
    .bool false,
    .bool false,
    .bool (smallB n1 xs),
    .bool (smallB n1 xs),
    .bool false,
    .bool false,
    .bool false,
    .agg #[.bool n1, .slice (some ⟨g, 0, none⟩) l1 (l1 + 8)],
    .bool (rightB n1 xs),
    .agg #[.bool n1, .slice a1 l1 c1],
    .bool (rightB n1 xs),
    .bool false,
    .bool false,
    .bool false,
    .agg #[.bool n1, .slice (some ⟨g, 0, none⟩) l1 (l1 + 8)],
    .agg #[.bool n2, .slice a2 l2 c2],
    .agg #[.bool n2, .slice (some ⟨g2, 0, none⟩) l2 (l2 + 8)],
    .int .i64 (cmpI n1 xs n2 ys),
    .agg #[.bool n1, .slice a1 l1 c1],
    .agg #[.bool n2, .slice a2 l2 c2],
    .int .i64 (cmpI n1 xs n2 ys),
    .bool false,
    .bool false] : List Value).getD j undef
theorem known_at {D : Nat → Prop} {A a : Act} {l : List Value} {val : Nat → Value} {s n m : Nat} (ha : a = putAll A s l) (hsz : A.tmps.size = m) (hlen : l.length = n) (hl : ∀ j, j < n → D j → l[j]? = some (val j)) (d : Nat) (hd : d < n) (hD : D d) (hm : s + n ≤ m := by decide) : a.tmps[s + d]? = some (val d) := by
  rw [ha, putAll_in A s d l (by omega) (by omega)]
  exact hl d hd hD
theorem eval_some {a : Act} {k : Nat} {v : Value} (h : a.tmps[k]? = some v) : a.eval (.tmp k) = v := by simp [Act.eval, h]
theorem wanted_of {ops : Array Oper} {o oj : Oper} {j k : Nat} {b : Bool} {tmps : Array Value} (hg : o.guard = some (j, b)) (ho : ops[j]? = some oj) (hd : oj.dst = some k) (hv : tmps[k]? = some (.bool b)) : Region.wanted o (yielded ops tmps) = true := by
  unfold Region.wanted yielded
  rw [hg]
  simp [ho, hd, hv]

theorem cons_of {l : List Value} {n : Nat} (h : l.length = n + 1) : ∃ a t, l = a :: t ∧ t.length = n := by
  cases l with
  | nil => simp at h
  | cons a t => exact ⟨a, t, rfl, by simpa using h⟩
theorem list34 {l : List Value} (hh : l.length = 34) : ∃ v0 v1 v2 v3 v4 v5 v6 v7 v8 v9 v10 v11 v12 v13 v14 v15 v16 v17 v18 v19 v20 v21 v22 v23 v24 v25 v26 v27 v28 v29 v30 v31 v32 v33, l = [v0, v1, v2, v3, v4, v5, v6, v7, v8, v9, v10, v11, v12, v13, v14, v15, v16, v17, v18, v19, v20, v21, v22, v23, v24, v25, v26, v27, v28, v29, v30, v31, v32, v33] := by
  obtain ⟨v0, t0, rfl, h0⟩ := cons_of hh
  obtain ⟨v1, t1, rfl, h1⟩ := cons_of h0
  obtain ⟨v2, t2, rfl, h2⟩ := cons_of h1
  obtain ⟨v3, t3, rfl, h3⟩ := cons_of h2
  obtain ⟨v4, t4, rfl, h4⟩ := cons_of h3
  obtain ⟨v5, t5, rfl, h5⟩ := cons_of h4
  obtain ⟨v6, t6, rfl, h6⟩ := cons_of h5
  obtain ⟨v7, t7, rfl, h7⟩ := cons_of h6
  obtain ⟨v8, t8, rfl, h8⟩ := cons_of h7
  obtain ⟨v9, t9, rfl, h9⟩ := cons_of h8
  obtain ⟨v10, t10, rfl, h10⟩ := cons_of h9
  obtain ⟨v11, t11, rfl, h11⟩ := cons_of h10
  obtain ⟨v12, t12, rfl, h12⟩ := cons_of h11
  obtain ⟨v13, t13, rfl, h13⟩ := cons_of h12
  obtain ⟨v14, t14, rfl, h14⟩ := cons_of h13
  obtain ⟨v15, t15, rfl, h15⟩ := cons_of h14
  obtain ⟨v16, t16, rfl, h16⟩ := cons_of h15
  obtain ⟨v17, t17, rfl, h17⟩ := cons_of h16
  obtain ⟨v18, t18, rfl, h18⟩ := cons_of h17
  obtain ⟨v19, t19, rfl, h19⟩ := cons_of h18
  obtain ⟨v20, t20, rfl, h20⟩ := cons_of h19
  obtain ⟨v21, t21, rfl, h21⟩ := cons_of h20
  obtain ⟨v22, t22, rfl, h22⟩ := cons_of h21
  obtain ⟨v23, t23, rfl, h23⟩ := cons_of h22
  obtain ⟨v24, t24, rfl, h24⟩ := cons_of h23
  obtain ⟨v25, t25, rfl, h25⟩ := cons_of h24
  obtain ⟨v26, t26, rfl, h26⟩ := cons_of h25
  obtain ⟨v27, t27, rfl, h27⟩ := cons_of h26
  obtain ⟨v28, t28, rfl, h28⟩ := cons_of h27
  obtain ⟨v29, t29, rfl, h29⟩ := cons_of h28
  obtain ⟨v30, t30, rfl, h30⟩ := cons_of h29
  obtain ⟨v31, t31, rfl, h31⟩ := cons_of h30
  obtain ⟨v32, t32, rfl, h32⟩ := cons_of h31
  obtain ⟨v33, t33, rfl, h33⟩ := cons_of h32
  obtain rfl := List.eq_nil_of_length_eq_zero h33
  exact ⟨v0, v1, v2, v3, v4, v5, v6, v7, v8, v9, v10, v11, v12, v13, v14, v15, v16, v17, v18, v19, v20, v21, v22, v23, v24, v25, v26, v27, v28, v29, v30, v31, v32, v33, rfl⟩

/-- Small of Of. -/
theorem small_of (n : Int) (h0 : -9223372036854775808 ≤ n) (h1 : n ≤ 9223372036854775807) : smallI (decide (n < 0)) (mag n.natAbs) = n ∧ smallB (decide (n < 0)) (mag n.natAbs) = true := by
  have hl : (mag n.natAbs).length ≤ 8 := by
    rw [mag_len]
    exact (blen_le _ _).2 (by have : n.natAbs < 2 ^ 64 := by omega
                              exact Nat.lt_of_lt_of_le this (by decide))
  have hr : rightB (decide (n < 0)) (mag n.natAbs) = true := by
    unfold rightB
    by_cases hz : n.natAbs = 0
    · rw [hz, mag_zero]; simp; omega
    · have hb := (blen_spec n.natAbs).2 hz
      rw [if_neg (by rw [mag_len]; omega)]
      have hne : (mag n.natAbs).getD 0 0 ≠ 0 := by
        obtain ⟨k, hk⟩ : ∃ k, blen n.natAbs = k + 1 := ⟨blen n.natAbs - 1, by omega⟩
        unfold mag
        rw [hk, bytesN_front]
        rw [hk] at hb
        have h1' := (blen_spec n.natAbs).1
        rw [hk, Nat.pow_succ] at h1'
        simp only [Nat.add_sub_cancel] at hb
        have hp : 0 < 256 ^ k := Nat.pow_pos (by decide)
        have hd1 : 1 ≤ n.natAbs / 256 ^ k := (Nat.le_div_iff_mul_le hp).2 (by omega)
        have hd2 : n.natAbs / 256 ^ k < 256 := Nat.div_lt_of_lt_mul h1'
        rw [List.getD_cons_zero, Nat.mod_eq_of_lt hd2]
        omega
      rw [Bool.and_eq_true]
      refine ⟨by simp; omega, by simpa using hne⟩
  unfold smallI smallB
  rw [hr, val8_mag]
  have hd : decide ((mag n.natAbs).length ≤ 8) = true := by simpa using hl
  rw [hd]
  by_cases hn : n < 0
  · simp [hn]; omega
  · simp [hn]; omega

set_option maxRecDepth 100000 in
set_option maxHeartbeats 8000000 in
theorem small_law {a1 a2 : Option Addr} {l1 l2 c1 c2 : Nat} {xs ys : List Int} {w : World} (n : Int) (n1 n2 : Bool) (hn0 : -9223372036854775808 ≤ n) (hn1 : n ≤ 9223372036854775807) (h1 : IsB w a1 l1 c1 xs) (h2 : IsB w a2 l2 c2 ys) (hl1 : l1 ≤ 140737488351232) (hl2 : l2 ≤ 140737488351232) :
    Calls Tryd.prog 3 #[.int .i64 n, .agg #[.bool n1, .slice a1 l1 c1], .agg #[.bool n2, .slice a2 l2 c2]] w fun e w' => e = .returned (.bool true) ∧ Below w.heap.size w w' := by
  have hb := box2 w (.cells #[.bool n1, .slice a1 l1 c1] 24) (.cells #[.bool n2, .slice a2 l2 c2] 24)
  go_enter Tryd.func3, Tryd.ntmps3
  go_wp2_with fail
  refine (given_any n1 (h1.below hb) hl1).mono ?_
  rintro e w1 ⟨g, rfl, hg, hgs, hb1⟩
  obtain ⟨t4, t5, hB1⟩ := vars2 hb1
  have kx1 := (h1.below hb).below hb1
  have ky1 := (h2.below hb).below hb1
  have hbo : Below w1.heap.size w1 (w1.alloc (.cells #[.bool n1, .slice (some ⟨g, 0, none⟩) l1 (l1 + 8)] 25)) := (Below.refl _ _).alloc (Nat.le_refl _) _
  have z4' := (hbo.block _ (lt_of_block t4)).trans t4
  have z5' := (hbo.block _ (lt_of_block t5)).trans t5
  have z7' := heap_alloc_new w1 (.cells #[.bool n1, .slice (some ⟨g, 0, none⟩) l1 (l1 + 8)] 25)
  have kx2 := kx1.below hbo
  have ky2 := ky1.below hbo
  have kg2 := hg.below hbo
  have hB2 := below_size hB1 (Nat.le_refl _) hbo
  obtain ⟨p0, p1, _, _⟩ := intVarT z7'
  clear hb hb1 t4 t5 hg kx1 ky1 hbo hB1
  go_wp2_with fail
  generalize w1.alloc (.cells #[.bool n1, .slice (some ⟨g, 0, none⟩) l1 (l1 + 8)] 25) = w2 at *
  generalize w1.heap.size = b7 at *
  have hxs := h1.size
  have hys := h2.size
  refine (small_any n1 (kg2.front (ys := pad) hxs)).mono ?_
  rintro e w3 ⟨rfl, hb3⟩
  have z4 := (hb3.block _ (lt_of_block z4')).trans z4'
  have z5 := (hb3.block _ (lt_of_block z5')).trans z5'
  have z7 := (hb3.block _ (lt_of_block z7')).trans z7'
  have kx := kx2.below hb3
  have ky := ky2.below hb3
  have kg := kg2.below hb3
  have hB3 := below_size hB2 (Nat.le_refl _) hb3
  obtain ⟨q0, q1, _, _⟩ := intVarT z4
  clear hb3 z4' z5' z7' kx2 ky2 kg2 hB2 p0 p1
  go_wp2_with fail
  refine (rsmall_any n1 kx).mono ?_
  rintro e wb ⟨rfl, hb4⟩
  replace z4 := (hb4.block _ (lt_of_block z4)).trans z4
  replace z5 := (hb4.block _ (lt_of_block z5)).trans z5
  replace z7 := (hb4.block _ (lt_of_block z7)).trans z7
  replace kx := kx.below hb4
  replace ky := ky.below hb4
  replace kg := kg.below hb4
  have hB4 := below_size hB3 (Nat.le_refl _) hb4
  clear hb4 hB3 q0 q1
  go_wp2
  refine abstract_act fun A hA => ?_
  have hsz : A.tmps.size = 82 := by rw [hA]; rfl
  have s0 : A.tmps[0]? = some (.int .i64 n) := by rw [hA]; rfl
  have s4 : A.tmps[4]? = some (.pointer (some ⟨w.heap.size, 0, none⟩)) := by rw [hA]; rfl
  have s5 : A.tmps[5]? = some (.pointer (some ⟨w.heap.size + 1, 0, none⟩)) := by rw [hA]; rfl
  have s7 : A.tmps[7]? = some (.pointer (some ⟨b7, 0, none⟩)) := by rw [hA]; rfl
  have s8 : A.tmps[8]? = some (.int .i64 (smallI n1 xs)) := by rw [hA]; rfl
  have s9 : A.tmps[9]? = some (.bool (smallB n1 xs)) := by rw [hA]; rfl
  have s10 : A.tmps[10]? = some (.int .i64 (smallI n1 xs)) := by rw [hA]; rfl
  have s11 : A.tmps[11]? = some (.bool (smallB n1 xs)) := by rw [hA]; rfl
  refine wp_region_inv2' (fun A D a w' => ∃ (l : List Value) (p27 : Option Addr) (c27 : Nat) (p30 : Option Addr) (c30 g2 : Nat), a = putAll A 26 l ∧ l.length = 34 ∧ Below wb.heap.size wb w' ∧ (∀ j, j < 34 → D j → l[j]? = some (valS n n1 n2 xs ys a1 a2 l1 l2 c1 c2 g p27 c27 p30 c30 g2 j)) ∧ (D 1 → IsB w' p27 (mag n.natAbs).length c27 (mag n.natAbs)) ∧ (D 4 → IsB w' p30 (mag n.natAbs).length c30 (mag n.natAbs)) ∧ (D 27 → IsB w' (some ⟨g2, 0, none⟩) (l2 + 8) (l2 + 8) (ys ++ pad))) (by kernel_rfl) (by kernel_rfl) ?mono ?start ?step ?done
  case mono =>
    rintro D D' a w' hD ⟨l, p27, c27, p30, c30, g2, ha, hlen, hB, hl, i1, i4, i27⟩
    exact ⟨l, p27, c27, p30, c30, g2, ha, hlen, hB, fun j hj h => hl j hj ((hD j).2 h), fun h => i1 ((hD 1).2 h), fun h => i4 ((hD 4).2 h), fun h => i27 ((hD 27).2 h)⟩
  case start => exact ⟨_, none, 0, none, 0, 0, (putAll_start A 26 34 (by omega)).1, (putAll_start A 26 34 (by omega)).2, (Below.refl _ _).drew, fun _ _ h => h.elim, fun h => h.elim, fun h => h.elim, fun h => h.elim⟩
  case step =>
    clear hA
    intro i o ho D a w' hI hn hcl hd
    obtain ⟨l, p27, c27, p30, c30, g2, ha, hlen, hB, hl, i1, i4, i27⟩ := hI
    match i, ho with
    | 0, ho =>
      cases Option.some.inj ho
      refine ⟨rfl, ?_⟩
      have ev : a.tmps[0]? = some (.int .i64 n) := by rw [ha, putAll_low A 26 0 l (by omega) (by decide)]; exact s0
      refine wp_value (w' := w') (v := .int .i64 n) (by simp [execOp, ev, go_sem]) ?_
      exact ⟨_, p27, c27, p30, c30, g2, by rw [ha]; exact putAll_put A 26 0 l _ (by omega) (by omega), by rw [List.length_set]; exact hlen, hB, set_known hlen (by decide) hl, fun h => (i1 (h.resolve_left (by decide))), fun h => (i4 (h.resolve_left (by decide))), fun h => (i27 (h.resolve_left (by decide)))⟩
    | 1, ho =>
      cases Option.some.inj ho
      refine ⟨rfl, ?_⟩
      have n2' : ¬ D 2 := fun h => hn (hcl 2 _ rfl h ⟨1, .data⟩ (by simp) rfl)
      have ev : a.tmps[26]? = some (.int .i64 n) := known_at ha hsz hlen hl 0 (by decide) (hd ⟨0, .data⟩ (by simp) rfl)
      refine wp_enter (f := 13) (args := #[.int .i64 n]) (by simp [execOp, ev, go_sem]) ?_
      refine (of_any n w' hn0 hn1).mono ?_
      rintro e w6 ⟨nv, rfl, hO, HB⟩
      obtain ⟨np, nc, rfl, hI⟩ := hO.2
      refine ⟨_, rfl, ?_⟩
      exact ⟨_, np, nc, p30, c30, g2, by rw [ha]; exact putAll_put A 26 1 l _ (by omega) (by omega), by rw [List.length_set]; exact hlen, below_size hB (Nat.le_refl _) HB, set_known' (val' := (valS n n1 n2 xs ys a1 a2 l1 l2 c1 c2 g np nc p30 c30 g2)) hlen (by decide) hl (fun j hj hne => match j, hj, hne with | 0, _, _ => rfl | 1, _, hne => absurd rfl hne | 2, hj, _ => absurd hj n2' | j + 3, _, _ => rfl), fun _ => hI, fun h => (i4 (h.resolve_left (by decide))).below HB, fun h => (i27 (h.resolve_left (by decide))).below HB⟩
    | 2, ho =>
      cases Option.some.inj ho
      refine ⟨rfl, ?_⟩
      have ev : a.tmps[27]? = some (.agg #[.bool (decide (n < 0)), .slice p27 (mag n.natAbs).length c27]) := known_at ha hsz hlen hl 1 (by decide) (hd ⟨1, .data⟩ (by simp) rfl)
      refine wp_enter (f := 12) (args := #[.agg #[.bool (decide (n < 0)), .slice p27 (mag n.natAbs).length c27]]) (by simp [execOp, ev, go_sem]) ?_
      refine (taken_any (decide (n < 0)) p27 (mag n.natAbs).length c27 w').mono ?_
      rintro e w6 ⟨rfl, HB⟩
      refine ⟨_, rfl, ?_⟩
      exact ⟨_, p27, c27, p30, c30, g2, by rw [ha]; exact putAll_put A 26 2 l _ (by omega) (by omega), by rw [List.length_set]; exact hlen, below_size hB (Nat.le_refl _) HB, set_known hlen (by decide) hl, fun h => (i1 (h.resolve_left (by decide))).below HB, fun h => (i4 (h.resolve_left (by decide))).below HB, fun h => (i27 (h.resolve_left (by decide))).below HB⟩
    | 3, ho =>
      cases Option.some.inj ho
      refine ⟨rfl, ?_⟩
      have ev : a.tmps[0]? = some (.int .i64 n) := by rw [ha, putAll_low A 26 0 l (by omega) (by decide)]; exact s0
      refine wp_value (w' := w') (v := .int .i64 n) (by simp [execOp, ev, go_sem]) ?_
      exact ⟨_, p27, c27, p30, c30, g2, by rw [ha]; exact putAll_put A 26 3 l _ (by omega) (by omega), by rw [List.length_set]; exact hlen, hB, set_known hlen (by decide) hl, fun h => (i1 (h.resolve_left (by decide))), fun h => (i4 (h.resolve_left (by decide))), fun h => (i27 (h.resolve_left (by decide)))⟩
    | 4, ho =>
      cases Option.some.inj ho
      refine ⟨rfl, ?_⟩
      have ev : a.tmps[29]? = some (.int .i64 n) := known_at ha hsz hlen hl 3 (by decide) (hd ⟨3, .data⟩ (by simp) rfl)
      refine wp_enter (f := 14) (args := #[.int .i64 n]) (by simp [execOp, ev, go_sem]) ?_
      refine (rof_any n w' hn0 hn1).mono ?_
      rintro e w6 ⟨nv, rfl, hO, HB⟩
      obtain ⟨np, nc, rfl, hI⟩ := hO.2
      refine ⟨_, rfl, ?_⟩
      exact ⟨_, p27, c27, np, nc, g2, by rw [ha]; exact putAll_put A 26 4 l _ (by omega) (by omega), by rw [List.length_set]; exact hlen, below_size hB (Nat.le_refl _) HB, set_known' (val' := (valS n n1 n2 xs ys a1 a2 l1 l2 c1 c2 g p27 c27 np nc g2)) hlen (by decide) hl (fun j hj hne => match j, hj, hne with | 0, _, _ => rfl | 1, _, _ => rfl | 2, _, _ => rfl | 3, _, _ => rfl | 4, _, hne => absurd rfl hne | j + 5, _, _ => rfl), fun h => (i1 (h.resolve_left (by decide))).below HB, fun _ => hI, fun h => (i27 (h.resolve_left (by decide))).below HB⟩
    | 5, ho =>
      cases Option.some.inj ho
      refine ⟨rfl, ?_⟩
      have ev : a.tmps[28]? = some (.agg #[.bool (decide (n < 0)), .slice p27 (mag n.natAbs).length c27]) := known_at ha hsz hlen hl 2 (by decide) (hd ⟨2, .data⟩ (by simp) rfl)
      have ev' : a.tmps[30]? = some (.agg #[.bool (decide (n < 0)), .slice p30 (mag n.natAbs).length c30]) := known_at ha hsz hlen hl 4 (by decide) (hd ⟨4, .data⟩ (by simp) rfl)
      refine wp_enter (f := 11) (args := #[.agg #[.bool (decide (n < 0)), .slice p27 (mag n.natAbs).length c27], .agg #[.bool (decide (n < 0)), .slice p30 (mag n.natAbs).length c30]]) (by simp [execOp, ev, ev', go_sem]) ?_
      refine (same_true (decide (n < 0)) (i1 (hcl 2 _ rfl (hd ⟨2, .data⟩ (by simp) rfl) ⟨1, .data⟩ (by simp) rfl)) (i4 (hd ⟨4, .data⟩ (by simp) rfl))).mono ?_
      rintro e w6 ⟨rfl, HB⟩
      refine ⟨_, rfl, ?_⟩
      exact ⟨_, p27, c27, p30, c30, g2, by rw [ha]; exact putAll_put A 26 5 l _ (by omega) (by omega), by rw [List.length_set]; exact hlen, below_size hB (Nat.le_refl _) HB, set_known hlen (by decide) hl, fun h => (i1 (h.resolve_left (by decide))).below HB, fun h => (i4 (h.resolve_left (by decide))).below HB, fun h => (i27 (h.resolve_left (by decide))).below HB⟩
    | 6, ho =>
      cases Option.some.inj ho
      refine ⟨rfl, ?_⟩
      have ev : a.tmps[31]? = some (.bool true) := known_at ha hsz hlen hl 5 (by decide) (hd ⟨5, .data⟩ (by simp) rfl)
      refine wp_value (w' := w') (v := .bool false) (by simp [execOp, ev, go_sem]) ?_
      exact ⟨_, p27, c27, p30, c30, g2, by rw [ha]; exact putAll_put A 26 6 l _ (by omega) (by omega), by rw [List.length_set]; exact hlen, hB, set_known hlen (by decide) hl, fun h => (i1 (h.resolve_left (by decide))), fun h => (i4 (h.resolve_left (by decide))), fun h => (i27 (h.resolve_left (by decide)))⟩
    | 7, ho =>
      cases Option.some.inj ho
      refine ⟨rfl, ?_⟩
      have ev : a.tmps[32]? = some (.bool false) := known_at ha hsz hlen hl 6 (by decide) (hd ⟨6, .data⟩ (by simp) rfl)
      refine wp_value (w' := w') (v := .bool false) (by simp [execOp, ev, go_sem]) ?_
      exact ⟨_, p27, c27, p30, c30, g2, by rw [ha]; exact putAll_put A 26 7 l _ (by omega) (by omega), by rw [List.length_set]; exact hlen, hB, set_known hlen (by decide) hl, fun h => (i1 (h.resolve_left (by decide))), fun h => (i4 (h.resolve_left (by decide))), fun h => (i27 (h.resolve_left (by decide)))⟩
    | 8, ho =>
      cases Option.some.inj ho
      refine ⟨wanted_of (k := 33) rfl rfl rfl (known_at ha hsz hlen hl 7 (by decide) (hd ⟨7, .guard⟩ (by simp) rfl)), ?_⟩
      have ev : a.tmps[8]? = some (.int .i64 (smallI n1 xs)) := by rw [ha, putAll_low A 26 8 l (by omega) (by decide)]; exact s8
      refine wp_value (w' := w') (v := .int .i64 (smallI n1 xs)) (by simp [execOp, ev, go_sem]) ?_
      exact ⟨_, p27, c27, p30, c30, g2, by rw [ha]; exact putAll_put A 26 8 l _ (by omega) (by omega), by rw [List.length_set]; exact hlen, hB, set_known hlen (by decide) hl, fun h => (i1 (h.resolve_left (by decide))), fun h => (i4 (h.resolve_left (by decide))), fun h => (i27 (h.resolve_left (by decide)))⟩
    | 9, ho =>
      cases Option.some.inj ho
      refine ⟨wanted_of (k := 33) rfl rfl rfl (known_at ha hsz hlen hl 7 (by decide) (hd ⟨7, .guard⟩ (by simp) rfl)), ?_⟩
      have ev : a.tmps[10]? = some (.int .i64 (smallI n1 xs)) := by rw [ha, putAll_low A 26 10 l (by omega) (by decide)]; exact s10
      refine wp_value (w' := w') (v := .int .i64 (smallI n1 xs)) (by simp [execOp, ev, go_sem]) ?_
      exact ⟨_, p27, c27, p30, c30, g2, by rw [ha]; exact putAll_put A 26 9 l _ (by omega) (by omega), by rw [List.length_set]; exact hlen, hB, set_known hlen (by decide) hl, fun h => (i1 (h.resolve_left (by decide))), fun h => (i4 (h.resolve_left (by decide))), fun h => (i27 (h.resolve_left (by decide)))⟩
    | 10, ho =>
      cases Option.some.inj ho
      refine ⟨wanted_of (k := 33) rfl rfl rfl (known_at ha hsz hlen hl 7 (by decide) (hd ⟨7, .guard⟩ (by simp) rfl)), ?_⟩
      have ev : a.tmps[34]? = some (.int .i64 (smallI n1 xs)) := known_at ha hsz hlen hl 8 (by decide) (hd ⟨8, .data⟩ (by simp) rfl)
      have ev' : a.tmps[35]? = some (.int .i64 (smallI n1 xs)) := known_at ha hsz hlen hl 9 (by decide) (hd ⟨9, .data⟩ (by simp) rfl)
      refine wp_value (w' := w') (v := .bool false) (run_neq_i64 a w' (eval_some ev) (eval_some ev') rfl) ?_
      exact ⟨_, p27, c27, p30, c30, g2, by rw [ha]; exact putAll_put A 26 10 l _ (by omega) (by omega), by rw [List.length_set]; exact hlen, hB, set_known hlen (by decide) hl, fun h => (i1 (h.resolve_left (by decide))), fun h => (i4 (h.resolve_left (by decide))), fun h => (i27 (h.resolve_left (by decide)))⟩
    | 11, ho =>
      cases Option.some.inj ho
      refine ⟨rfl, ?_⟩
      have ev : a.tmps[33]? = some (.bool false) := known_at ha hsz hlen hl 7 (by decide) (hd ⟨7, .data⟩ (by simp) rfl)
      have ev' : a.tmps[36]? = some (.bool false) := known_at ha hsz hlen hl 10 (by decide) (hd ⟨10, .data⟩ (by simp) rfl)
      refine wp_value (w' := w') (v := .bool false) (by simp [execOp, ev, ev', go_sem]) ?_
      exact ⟨_, p27, c27, p30, c30, g2, by rw [ha]; exact putAll_put A 26 11 l _ (by omega) (by omega), by rw [List.length_set]; exact hlen, hB, set_known hlen (by decide) hl, fun h => (i1 (h.resolve_left (by decide))), fun h => (i4 (h.resolve_left (by decide))), fun h => (i27 (h.resolve_left (by decide)))⟩
    | 12, ho =>
      cases Option.some.inj ho
      refine ⟨rfl, ?_⟩
      have ev : a.tmps[37]? = some (.bool false) := known_at ha hsz hlen hl 11 (by decide) (hd ⟨11, .data⟩ (by simp) rfl)
      refine wp_value (w' := w') (v := .bool false) (by simp [execOp, ev, go_sem]) ?_
      exact ⟨_, p27, c27, p30, c30, g2, by rw [ha]; exact putAll_put A 26 12 l _ (by omega) (by omega), by rw [List.length_set]; exact hlen, hB, set_known hlen (by decide) hl, fun h => (i1 (h.resolve_left (by decide))), fun h => (i4 (h.resolve_left (by decide))), fun h => (i27 (h.resolve_left (by decide)))⟩
    | 13, ho =>
      cases Option.some.inj ho
      refine ⟨wanted_of (k := 38) rfl rfl rfl (known_at ha hsz hlen hl 12 (by decide) (hd ⟨12, .guard⟩ (by simp) rfl)), ?_⟩
      have ev : a.tmps[9]? = some (.bool (smallB n1 xs)) := by rw [ha, putAll_low A 26 9 l (by omega) (by decide)]; exact s9
      refine wp_value (w' := w') (v := .bool (smallB n1 xs)) (by simp [execOp, ev, go_sem]) ?_
      exact ⟨_, p27, c27, p30, c30, g2, by rw [ha]; exact putAll_put A 26 13 l _ (by omega) (by omega), by rw [List.length_set]; exact hlen, hB, set_known hlen (by decide) hl, fun h => (i1 (h.resolve_left (by decide))), fun h => (i4 (h.resolve_left (by decide))), fun h => (i27 (h.resolve_left (by decide)))⟩
    | 14, ho =>
      cases Option.some.inj ho
      refine ⟨wanted_of (k := 38) rfl rfl rfl (known_at ha hsz hlen hl 12 (by decide) (hd ⟨12, .guard⟩ (by simp) rfl)), ?_⟩
      have ev : a.tmps[11]? = some (.bool (smallB n1 xs)) := by rw [ha, putAll_low A 26 11 l (by omega) (by decide)]; exact s11
      refine wp_value (w' := w') (v := .bool (smallB n1 xs)) (by simp [execOp, ev, go_sem]) ?_
      exact ⟨_, p27, c27, p30, c30, g2, by rw [ha]; exact putAll_put A 26 14 l _ (by omega) (by omega), by rw [List.length_set]; exact hlen, hB, set_known hlen (by decide) hl, fun h => (i1 (h.resolve_left (by decide))), fun h => (i4 (h.resolve_left (by decide))), fun h => (i27 (h.resolve_left (by decide)))⟩
    | 15, ho =>
      cases Option.some.inj ho
      refine ⟨wanted_of (k := 38) rfl rfl rfl (known_at ha hsz hlen hl 12 (by decide) (hd ⟨12, .guard⟩ (by simp) rfl)), ?_⟩
      have ev : a.tmps[39]? = some (.bool (smallB n1 xs)) := known_at ha hsz hlen hl 13 (by decide) (hd ⟨13, .data⟩ (by simp) rfl)
      have ev' : a.tmps[40]? = some (.bool (smallB n1 xs)) := known_at ha hsz hlen hl 14 (by decide) (hd ⟨14, .data⟩ (by simp) rfl)
      refine wp_value (w' := w') (v := .bool false) (run_neq_same a w' (eval_some ev) (eval_some ev') rfl) ?_
      exact ⟨_, p27, c27, p30, c30, g2, by rw [ha]; exact putAll_put A 26 15 l _ (by omega) (by omega), by rw [List.length_set]; exact hlen, hB, set_known hlen (by decide) hl, fun h => (i1 (h.resolve_left (by decide))), fun h => (i4 (h.resolve_left (by decide))), fun h => (i27 (h.resolve_left (by decide)))⟩
    | 16, ho =>
      cases Option.some.inj ho
      refine ⟨rfl, ?_⟩
      have ev : a.tmps[38]? = some (.bool false) := known_at ha hsz hlen hl 12 (by decide) (hd ⟨12, .data⟩ (by simp) rfl)
      have ev' : a.tmps[41]? = some (.bool false) := known_at ha hsz hlen hl 15 (by decide) (hd ⟨15, .data⟩ (by simp) rfl)
      refine wp_value (w' := w') (v := .bool false) (by simp [execOp, ev, ev', go_sem]) ?_
      exact ⟨_, p27, c27, p30, c30, g2, by rw [ha]; exact putAll_put A 26 16 l _ (by omega) (by omega), by rw [List.length_set]; exact hlen, hB, set_known hlen (by decide) hl, fun h => (i1 (h.resolve_left (by decide))), fun h => (i4 (h.resolve_left (by decide))), fun h => (i27 (h.resolve_left (by decide)))⟩
    | 17, ho =>
      cases Option.some.inj ho
      refine ⟨rfl, ?_⟩
      have ev : a.tmps[42]? = some (.bool false) := known_at ha hsz hlen hl 16 (by decide) (hd ⟨16, .data⟩ (by simp) rfl)
      refine wp_value (w' := w') (v := .bool false) (by simp [execOp, ev, go_sem]) ?_
      exact ⟨_, p27, c27, p30, c30, g2, by rw [ha]; exact putAll_put A 26 17 l _ (by omega) (by omega), by rw [List.length_set]; exact hlen, hB, set_known hlen (by decide) hl, fun h => (i1 (h.resolve_left (by decide))), fun h => (i4 (h.resolve_left (by decide))), fun h => (i27 (h.resolve_left (by decide)))⟩
    | 18, ho =>
      cases Option.some.inj ho
      refine ⟨wanted_of (k := 43) rfl rfl rfl (known_at ha hsz hlen hl 17 (by decide) (hd ⟨17, .guard⟩ (by simp) rfl)), ?_⟩
      have ev : a.tmps[7]? = some (.pointer (some ⟨b7, 0, none⟩)) := by rw [ha, putAll_low A 26 7 l (by omega) (by decide)]; exact s7
      refine wp_load_row 25 (.tmp 7) rfl (b7) (eval_some ev) 25 _ _ _ ((hB.block _ (lt_of_block z7)).trans z7) Tryd.underlying25 rfl size25 ?_
      exact ⟨_, p27, c27, p30, c30, g2, by rw [ha]; exact putAll_put A 26 18 l _ (by omega) (by omega), by rw [List.length_set]; exact hlen, hB, set_known hlen (by decide) hl, fun h => (i1 (h.resolve_left (by decide))), fun h => (i4 (h.resolve_left (by decide))), fun h => (i27 (h.resolve_left (by decide)))⟩
    | 19, ho =>
      cases Option.some.inj ho
      refine ⟨wanted_of (k := 43) rfl rfl rfl (known_at ha hsz hlen hl 17 (by decide) (hd ⟨17, .guard⟩ (by simp) rfl)), ?_⟩
      have ev : a.tmps[44]? = some (.agg #[.bool n1, .slice (some ⟨g, 0, none⟩) l1 (l1 + 8)]) := known_at ha hsz hlen hl 18 (by decide) (hd ⟨18, .data⟩ (by simp) rfl)
      refine wp_enter (f := 15) (args := #[.agg #[.bool n1, .slice (some ⟨g, 0, none⟩) l1 (l1 + 8)]]) (by simp [execOp, ev, go_sem]) ?_
      refine (right_any n1 ((kg.below hB).front (ys := pad) hxs)).mono ?_
      rintro e w6 ⟨rfl, HB⟩
      refine ⟨_, rfl, ?_⟩
      exact ⟨_, p27, c27, p30, c30, g2, by rw [ha]; exact putAll_put A 26 19 l _ (by omega) (by omega), by rw [List.length_set]; exact hlen, below_size hB (Nat.le_refl _) HB, set_known hlen (by decide) hl, fun h => (i1 (h.resolve_left (by decide))).below HB, fun h => (i4 (h.resolve_left (by decide))).below HB, fun h => (i27 (h.resolve_left (by decide))).below HB⟩
    | 20, ho =>
      cases Option.some.inj ho
      refine ⟨wanted_of (k := 43) rfl rfl rfl (known_at ha hsz hlen hl 17 (by decide) (hd ⟨17, .guard⟩ (by simp) rfl)), ?_⟩
      have ev : a.tmps[4]? = some (.pointer (some ⟨w.heap.size, 0, none⟩)) := by rw [ha, putAll_low A 26 4 l (by omega) (by decide)]; exact s4
      refine wp_load_row 24 (.tmp 4) rfl (w.heap.size) (eval_some ev) 24 _ _ _ ((hB.block _ (lt_of_block z4)).trans z4) Tryd.underlying24 rfl size24 ?_
      exact ⟨_, p27, c27, p30, c30, g2, by rw [ha]; exact putAll_put A 26 20 l _ (by omega) (by omega), by rw [List.length_set]; exact hlen, hB, set_known hlen (by decide) hl, fun h => (i1 (h.resolve_left (by decide))), fun h => (i4 (h.resolve_left (by decide))), fun h => (i27 (h.resolve_left (by decide)))⟩
    | 21, ho =>
      cases Option.some.inj ho
      refine ⟨wanted_of (k := 43) rfl rfl rfl (known_at ha hsz hlen hl 17 (by decide) (hd ⟨17, .guard⟩ (by simp) rfl)), ?_⟩
      have ev : a.tmps[46]? = some (.agg #[.bool n1, .slice a1 l1 c1]) := known_at ha hsz hlen hl 20 (by decide) (hd ⟨20, .data⟩ (by simp) rfl)
      refine wp_enter (f := 16) (args := #[.agg #[.bool n1, .slice a1 l1 c1]]) (by simp [execOp, ev, go_sem]) ?_
      refine (rright_any n1 (kx.below hB)).mono ?_
      rintro e w6 ⟨rfl, HB⟩
      refine ⟨_, rfl, ?_⟩
      exact ⟨_, p27, c27, p30, c30, g2, by rw [ha]; exact putAll_put A 26 21 l _ (by omega) (by omega), by rw [List.length_set]; exact hlen, below_size hB (Nat.le_refl _) HB, set_known hlen (by decide) hl, fun h => (i1 (h.resolve_left (by decide))).below HB, fun h => (i4 (h.resolve_left (by decide))).below HB, fun h => (i27 (h.resolve_left (by decide))).below HB⟩
    | 22, ho =>
      cases Option.some.inj ho
      refine ⟨wanted_of (k := 43) rfl rfl rfl (known_at ha hsz hlen hl 17 (by decide) (hd ⟨17, .guard⟩ (by simp) rfl)), ?_⟩
      have ev : a.tmps[45]? = some (.bool (rightB n1 xs)) := known_at ha hsz hlen hl 19 (by decide) (hd ⟨19, .data⟩ (by simp) rfl)
      have ev' : a.tmps[47]? = some (.bool (rightB n1 xs)) := known_at ha hsz hlen hl 21 (by decide) (hd ⟨21, .data⟩ (by simp) rfl)
      refine wp_value (w' := w') (v := .bool false) (run_neq_same a w' (eval_some ev) (eval_some ev') rfl) ?_
      exact ⟨_, p27, c27, p30, c30, g2, by rw [ha]; exact putAll_put A 26 22 l _ (by omega) (by omega), by rw [List.length_set]; exact hlen, hB, set_known hlen (by decide) hl, fun h => (i1 (h.resolve_left (by decide))), fun h => (i4 (h.resolve_left (by decide))), fun h => (i27 (h.resolve_left (by decide)))⟩
    | 23, ho =>
      cases Option.some.inj ho
      refine ⟨rfl, ?_⟩
      have ev : a.tmps[43]? = some (.bool false) := known_at ha hsz hlen hl 17 (by decide) (hd ⟨17, .data⟩ (by simp) rfl)
      have ev' : a.tmps[48]? = some (.bool false) := known_at ha hsz hlen hl 22 (by decide) (hd ⟨22, .data⟩ (by simp) rfl)
      refine wp_value (w' := w') (v := .bool false) (by simp [execOp, ev, ev', go_sem]) ?_
      exact ⟨_, p27, c27, p30, c30, g2, by rw [ha]; exact putAll_put A 26 23 l _ (by omega) (by omega), by rw [List.length_set]; exact hlen, hB, set_known hlen (by decide) hl, fun h => (i1 (h.resolve_left (by decide))), fun h => (i4 (h.resolve_left (by decide))), fun h => (i27 (h.resolve_left (by decide)))⟩
    | 24, ho =>
      cases Option.some.inj ho
      refine ⟨rfl, ?_⟩
      have ev : a.tmps[49]? = some (.bool false) := known_at ha hsz hlen hl 23 (by decide) (hd ⟨23, .data⟩ (by simp) rfl)
      refine wp_value (w' := w') (v := .bool false) (by simp [execOp, ev, go_sem]) ?_
      exact ⟨_, p27, c27, p30, c30, g2, by rw [ha]; exact putAll_put A 26 24 l _ (by omega) (by omega), by rw [List.length_set]; exact hlen, hB, set_known hlen (by decide) hl, fun h => (i1 (h.resolve_left (by decide))), fun h => (i4 (h.resolve_left (by decide))), fun h => (i27 (h.resolve_left (by decide)))⟩
    | 25, ho =>
      cases Option.some.inj ho
      refine ⟨wanted_of (k := 50) rfl rfl rfl (known_at ha hsz hlen hl 24 (by decide) (hd ⟨24, .guard⟩ (by simp) rfl)), ?_⟩
      have ev : a.tmps[7]? = some (.pointer (some ⟨b7, 0, none⟩)) := by rw [ha, putAll_low A 26 7 l (by omega) (by decide)]; exact s7
      refine wp_load_row 25 (.tmp 7) rfl (b7) (eval_some ev) 25 _ _ _ ((hB.block _ (lt_of_block z7)).trans z7) Tryd.underlying25 rfl size25 ?_
      exact ⟨_, p27, c27, p30, c30, g2, by rw [ha]; exact putAll_put A 26 25 l _ (by omega) (by omega), by rw [List.length_set]; exact hlen, hB, set_known hlen (by decide) hl, fun h => (i1 (h.resolve_left (by decide))), fun h => (i4 (h.resolve_left (by decide))), fun h => (i27 (h.resolve_left (by decide)))⟩
    | 26, ho =>
      cases Option.some.inj ho
      refine ⟨wanted_of (k := 50) rfl rfl rfl (known_at ha hsz hlen hl 24 (by decide) (hd ⟨24, .guard⟩ (by simp) rfl)), ?_⟩
      have ev : a.tmps[5]? = some (.pointer (some ⟨w.heap.size + 1, 0, none⟩)) := by rw [ha, putAll_low A 26 5 l (by omega) (by decide)]; exact s5
      refine wp_load_row 24 (.tmp 5) rfl (w.heap.size + 1) (eval_some ev) 24 _ _ _ ((hB.block _ (lt_of_block z5)).trans z5) Tryd.underlying24 rfl size24 ?_
      exact ⟨_, p27, c27, p30, c30, g2, by rw [ha]; exact putAll_put A 26 26 l _ (by omega) (by omega), by rw [List.length_set]; exact hlen, hB, set_known hlen (by decide) hl, fun h => (i1 (h.resolve_left (by decide))), fun h => (i4 (h.resolve_left (by decide))), fun h => (i27 (h.resolve_left (by decide)))⟩
    | 27, ho =>
      cases Option.some.inj ho
      refine ⟨wanted_of (k := 50) rfl rfl rfl (known_at ha hsz hlen hl 24 (by decide) (hd ⟨24, .guard⟩ (by simp) rfl)), ?_⟩
      have ev : a.tmps[52]? = some (.agg #[.bool n2, .slice a2 l2 c2]) := known_at ha hsz hlen hl 26 (by decide) (hd ⟨26, .data⟩ (by simp) rfl)
      refine wp_enter (f := 8) (args := #[.agg #[.bool n2, .slice a2 l2 c2]]) (by simp [execOp, ev, go_sem]) ?_
      refine (given_any n2 (ky.below hB) hl2).mono ?_
      rintro e w6 ⟨ng, rfl, hI, _, HB⟩
      refine ⟨_, rfl, ?_⟩
      exact ⟨_, p27, c27, p30, c30, ng, by rw [ha]; exact putAll_put A 26 27 l _ (by omega) (by omega), by rw [List.length_set]; exact hlen, below_size hB (Nat.le_refl _) HB, set_known' (val' := (valS n n1 n2 xs ys a1 a2 l1 l2 c1 c2 g p27 c27 p30 c30 ng)) hlen (by decide) hl (fun j hj hne => match j, hj, hne with | 0, _, _ => rfl | 1, _, _ => rfl | 2, _, _ => rfl | 3, _, _ => rfl | 4, _, _ => rfl | 5, _, _ => rfl | 6, _, _ => rfl | 7, _, _ => rfl | 8, _, _ => rfl | 9, _, _ => rfl | 10, _, _ => rfl | 11, _, _ => rfl | 12, _, _ => rfl | 13, _, _ => rfl | 14, _, _ => rfl | 15, _, _ => rfl | 16, _, _ => rfl | 17, _, _ => rfl | 18, _, _ => rfl | 19, _, _ => rfl | 20, _, _ => rfl | 21, _, _ => rfl | 22, _, _ => rfl | 23, _, _ => rfl | 24, _, _ => rfl | 25, _, _ => rfl | 26, _, _ => rfl | 27, _, hne => absurd rfl hne | j + 28, _, _ => rfl), fun h => (i1 (h.resolve_left (by decide))).below HB, fun h => (i4 (h.resolve_left (by decide))).below HB, fun _ => hI⟩
    | 28, ho =>
      cases Option.some.inj ho
      refine ⟨wanted_of (k := 50) rfl rfl rfl (known_at ha hsz hlen hl 24 (by decide) (hd ⟨24, .guard⟩ (by simp) rfl)), ?_⟩
      have ev : a.tmps[51]? = some (.agg #[.bool n1, .slice (some ⟨g, 0, none⟩) l1 (l1 + 8)]) := known_at ha hsz hlen hl 25 (by decide) (hd ⟨25, .data⟩ (by simp) rfl)
      have ev' : a.tmps[53]? = some (.agg #[.bool n2, .slice (some ⟨g2, 0, none⟩) l2 (l2 + 8)]) := known_at ha hsz hlen hl 27 (by decide) (hd ⟨27, .data⟩ (by simp) rfl)
      refine wp_enter (f := 17) (args := #[.agg #[.bool n1, .slice (some ⟨g, 0, none⟩) l1 (l1 + 8)], .agg #[.bool n2, .slice (some ⟨g2, 0, none⟩) l2 (l2 + 8)]]) (by simp [execOp, ev, ev', go_sem]) ?_
      refine (cmp_any n1 n2 ((kg.below hB).front (ys := pad) hxs) ((i27 (hd ⟨27, .data⟩ (by simp) rfl)).front (ys := pad) hys)).mono ?_
      rintro e w6 ⟨rfl, HB⟩
      refine ⟨_, rfl, ?_⟩
      exact ⟨_, p27, c27, p30, c30, g2, by rw [ha]; exact putAll_put A 26 28 l _ (by omega) (by omega), by rw [List.length_set]; exact hlen, below_size hB (Nat.le_refl _) HB, set_known hlen (by decide) hl, fun h => (i1 (h.resolve_left (by decide))).below HB, fun h => (i4 (h.resolve_left (by decide))).below HB, fun h => (i27 (h.resolve_left (by decide))).below HB⟩
    | 29, ho =>
      cases Option.some.inj ho
      refine ⟨wanted_of (k := 50) rfl rfl rfl (known_at ha hsz hlen hl 24 (by decide) (hd ⟨24, .guard⟩ (by simp) rfl)), ?_⟩
      have ev : a.tmps[4]? = some (.pointer (some ⟨w.heap.size, 0, none⟩)) := by rw [ha, putAll_low A 26 4 l (by omega) (by decide)]; exact s4
      refine wp_load_row 24 (.tmp 4) rfl (w.heap.size) (eval_some ev) 24 _ _ _ ((hB.block _ (lt_of_block z4)).trans z4) Tryd.underlying24 rfl size24 ?_
      exact ⟨_, p27, c27, p30, c30, g2, by rw [ha]; exact putAll_put A 26 29 l _ (by omega) (by omega), by rw [List.length_set]; exact hlen, hB, set_known hlen (by decide) hl, fun h => (i1 (h.resolve_left (by decide))), fun h => (i4 (h.resolve_left (by decide))), fun h => (i27 (h.resolve_left (by decide)))⟩
    | 30, ho =>
      cases Option.some.inj ho
      refine ⟨wanted_of (k := 50) rfl rfl rfl (known_at ha hsz hlen hl 24 (by decide) (hd ⟨24, .guard⟩ (by simp) rfl)), ?_⟩
      have ev : a.tmps[5]? = some (.pointer (some ⟨w.heap.size + 1, 0, none⟩)) := by rw [ha, putAll_low A 26 5 l (by omega) (by decide)]; exact s5
      refine wp_load_row 24 (.tmp 5) rfl (w.heap.size + 1) (eval_some ev) 24 _ _ _ ((hB.block _ (lt_of_block z5)).trans z5) Tryd.underlying24 rfl size24 ?_
      exact ⟨_, p27, c27, p30, c30, g2, by rw [ha]; exact putAll_put A 26 30 l _ (by omega) (by omega), by rw [List.length_set]; exact hlen, hB, set_known hlen (by decide) hl, fun h => (i1 (h.resolve_left (by decide))), fun h => (i4 (h.resolve_left (by decide))), fun h => (i27 (h.resolve_left (by decide)))⟩
    | 31, ho =>
      cases Option.some.inj ho
      refine ⟨wanted_of (k := 50) rfl rfl rfl (known_at ha hsz hlen hl 24 (by decide) (hd ⟨24, .guard⟩ (by simp) rfl)), ?_⟩
      have ev : a.tmps[55]? = some (.agg #[.bool n1, .slice a1 l1 c1]) := known_at ha hsz hlen hl 29 (by decide) (hd ⟨29, .data⟩ (by simp) rfl)
      have ev' : a.tmps[56]? = some (.agg #[.bool n2, .slice a2 l2 c2]) := known_at ha hsz hlen hl 30 (by decide) (hd ⟨30, .data⟩ (by simp) rfl)
      refine wp_enter (f := 18) (args := #[.agg #[.bool n1, .slice a1 l1 c1], .agg #[.bool n2, .slice a2 l2 c2]]) (by simp [execOp, ev, ev', go_sem]) ?_
      refine (rCmp_any n1 n2 (kx.below hB) (ky.below hB)).mono ?_
      rintro e w6 ⟨rfl, HB⟩
      refine ⟨_, rfl, ?_⟩
      exact ⟨_, p27, c27, p30, c30, g2, by rw [ha]; exact putAll_put A 26 31 l _ (by omega) (by omega), by rw [List.length_set]; exact hlen, below_size hB (Nat.le_refl _) HB, set_known hlen (by decide) hl, fun h => (i1 (h.resolve_left (by decide))).below HB, fun h => (i4 (h.resolve_left (by decide))).below HB, fun h => (i27 (h.resolve_left (by decide))).below HB⟩
    | 32, ho =>
      cases Option.some.inj ho
      refine ⟨wanted_of (k := 50) rfl rfl rfl (known_at ha hsz hlen hl 24 (by decide) (hd ⟨24, .guard⟩ (by simp) rfl)), ?_⟩
      have ev : a.tmps[54]? = some (.int .i64 (cmpI n1 xs n2 ys)) := known_at ha hsz hlen hl 28 (by decide) (hd ⟨28, .data⟩ (by simp) rfl)
      have ev' : a.tmps[57]? = some (.int .i64 (cmpI n1 xs n2 ys)) := known_at ha hsz hlen hl 31 (by decide) (hd ⟨31, .data⟩ (by simp) rfl)
      refine wp_value (w' := w') (v := .bool false) (run_neq_int a w' (eval_some ev) (eval_some ev') rfl) ?_
      exact ⟨_, p27, c27, p30, c30, g2, by rw [ha]; exact putAll_put A 26 32 l _ (by omega) (by omega), by rw [List.length_set]; exact hlen, hB, set_known hlen (by decide) hl, fun h => (i1 (h.resolve_left (by decide))), fun h => (i4 (h.resolve_left (by decide))), fun h => (i27 (h.resolve_left (by decide)))⟩
    | 33, ho =>
      cases Option.some.inj ho
      refine ⟨rfl, ?_⟩
      have ev : a.tmps[50]? = some (.bool false) := known_at ha hsz hlen hl 24 (by decide) (hd ⟨24, .data⟩ (by simp) rfl)
      have ev' : a.tmps[58]? = some (.bool false) := known_at ha hsz hlen hl 32 (by decide) (hd ⟨32, .data⟩ (by simp) rfl)
      refine wp_value (w' := w') (v := .bool false) (by simp [execOp, ev, ev', go_sem]) ?_
      exact ⟨_, p27, c27, p30, c30, g2, by rw [ha]; exact putAll_put A 26 33 l _ (by omega) (by omega), by rw [List.length_set]; exact hlen, hB, set_known hlen (by decide) hl, fun h => (i1 (h.resolve_left (by decide))), fun h => (i4 (h.resolve_left (by decide))), fun h => (i27 (h.resolve_left (by decide)))⟩
    | i + 34, ho => simp at ho
  case done =>
    rintro D a w' ⟨l, p27, c27, p30, c30, g2, ha, hlen, hB, hl, i1, i4, i27⟩ hall
    obtain ⟨v0, v1, v2, v3, v4, v5, v6, v7, v8, v9, v10, v11, v12, v13, v14, v15, v16, v17, v18, v19, v20, v21, v22, v23, v24, v25, v26, v27, v28, v29, v30, v31, v32, v33, rfl⟩ := list34 hlen
    have h33 := hl 33 (by decide) (hall 33 (by decide))
    simp only [List.getElem?_cons_succ, List.getElem?_cons_zero, Option.some.injEq] at h33
    have h33' : v33 = .bool false := h33
    subst h33'
    clear hl hall i1 i4 i27 h33
    have hBB := hB4.trans (hB.mono hB4.size)
    replace z4 := (hB.block _ (lt_of_block z4)).trans z4
    replace z7 := (hB.block _ (lt_of_block z7)).trans z7
    replace kx := kx.below hB
    replace kg := kg.below hB
    clear s0 s4 s5 s7 s8 s9 s10 s11 hsz z5 ky hB
    subst hA
    have hfr : a = _ := ha
    rw [hfr]
    clear hfr ha
    simp only [putAll, List.take_succ_cons, List.take_zero, List.drop_succ_cons, List.drop_zero, List.cons_append, List.nil_append, List.length_cons, List.length_nil]
    obtain ⟨q0, q1, _, _⟩ := intVarT z4
    obtain ⟨r0, r1, _, _⟩ := intVarT z7
    go_wp2_with fail
    refine (of_any n w' hn0 hn1).mono ?_
    rintro e w5 ⟨v5', rfl, hO5, hb5⟩
    obtain ⟨p5, c5, rfl, hI5⟩ := hO5.2
    clear q0 q1 r0 r1
    go_wp2_with fail
    refine (small_any (decide (n < 0)) hI5).mono ?_
    rintro e w6 ⟨rfl, hb6⟩
    obtain ⟨e1, e2⟩ := small_of n hn0 hn1
    rw [e1, e2]
    have z46 := (hb6.block _ (lt_of_block ((hb5.block _ (lt_of_block z4)).trans z4))).trans ((hb5.block _ (lt_of_block z4)).trans z4)
    have z76 := (hb6.block _ (lt_of_block ((hb5.block _ (lt_of_block z7)).trans z7))).trans ((hb5.block _ (lt_of_block z7)).trans z7)
    have kx6 := (kx.below hb5).below hb6
    have kg6 := (kg.below hb5).below hb6
    have hB6 := below_size (below_size hBB (Nat.le_refl _) hb5) (Nat.le_refl _) hb6
    obtain ⟨q0, q1, _, _⟩ := intVarT z46
    obtain ⟨r0, r1, _, _⟩ := intVarT z76
    clear z4 z7 kx kg hBB hb5 hb6 hO5 hI5
    go_wp2_with fail
    refine (kept_true kg6 kx6 hl1).mono ?_
    rintro e w7 ⟨rfl, k7, rfl⟩
    have hB7 := below_drewN hB6 k7
    go_wp2_with fail
    refine (known_true (w6.drewN k7)).mono ?_
    rintro e w8 ⟨rfl, hb8⟩
    have hB8 := below_size hB7 (Nat.le_refl _) hb8
    go_wp2
    go_ret
    exact ⟨rfl, hB8⟩
end Go.Proofs.YtgammgdckneoiabDoor
