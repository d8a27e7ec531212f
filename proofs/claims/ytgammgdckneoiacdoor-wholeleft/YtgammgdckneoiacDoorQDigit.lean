/- quotientDigit: one digit of a quotient by two digits and more. -/
import Derived.Test.YtgammgdckneoiacDoorGuess
import Derived.Test.YtgammgdckneoiacDoorRegT
namespace Go.Proofs.YtgammgdckneoiacDoor
open Go.RowKit

/-- One block that was there is turned; new ones may come. -/
structure Mostly (b : Nat) (w w' : World) : Prop where
  size : w.heap.size ≤ w'.heap.size
  other : ∀ j, j < w.heap.size → j ≠ b → w'.heap[j]? = w.heap[j]?
  below : ∀ B, B ≤ b → B ≤ w.heap.size → Below B w w'
theorem Mostly.of {b : Nat} {w w1 w2 : World} (h : Below w.heap.size w w1) (k : Only b w1 w2) : Mostly b w w2 :=
  ⟨Nat.le_trans h.size (Nat.le_of_eq k.size.symm), fun j hj hb => (k.other j hb).trans (h.block j hj), fun B hB hs => (h.mono hs).trans (k.below B hB)⟩
/-- The highest words of a number. -/
theorem top3 (U n2 : Nat) (h : U < 4294967296 ^ (n2 + 3)) : U = ((U / 4294967296 ^ (n2 + 2) % 4294967296 * 4294967296 + U / 4294967296 ^ (n2 + 1) % 4294967296) * 4294967296 + U / 4294967296 ^ n2 % 4294967296) * 4294967296 ^ n2 + U % 4294967296 ^ n2 := by
  have e1 : U / 4294967296 ^ (n2 + 1) = U / 4294967296 ^ n2 / 4294967296 := by rw [Nat.div_div_eq_div_mul, Nat.pow_succ]
  have e2 : U / 4294967296 ^ (n2 + 2) = U / 4294967296 ^ n2 / 4294967296 / 4294967296 := by rw [Nat.div_div_eq_div_mul, Nat.div_div_eq_div_mul, show (4294967296 : Nat) * 4294967296 = 4294967296 ^ 2 from rfl, ← Nat.pow_add]
  have hZ : U / 4294967296 ^ n2 < 4294967296 ^ 3 := Nat.div_lt_of_lt_mul (by rw [← Nat.pow_add]; exact h)
  rw [e1, e2]
  have hd := Nat.mod_add_div U (4294967296 ^ n2)
  rw [Nat.mul_comm] at hd
  generalize U / 4294967296 ^ n2 = Z at *
  have : (Z / 4294967296 / 4294967296 % 4294967296 * 4294967296 + Z / 4294967296 % 4294967296) * 4294967296 + Z % 4294967296 = Z := by omega
  rw [this]; omega
theorem top2 (D n2 : Nat) (h : D < 4294967296 ^ (n2 + 2)) : D = (D / 4294967296 ^ (n2 + 1) % 4294967296 * 4294967296 + D / 4294967296 ^ n2 % 4294967296) * 4294967296 ^ n2 + D % 4294967296 ^ n2 := by
  have e1 : D / 4294967296 ^ (n2 + 1) = D / 4294967296 ^ n2 / 4294967296 := by rw [Nat.div_div_eq_div_mul, Nat.pow_succ]
  have hZ : D / 4294967296 ^ n2 < 4294967296 ^ 2 := Nat.div_lt_of_lt_mul (by rw [← Nat.pow_add]; exact h)
  rw [e1]
  have hd := Nat.mod_add_div D (4294967296 ^ n2)
  rw [Nat.mul_comm] at hd
  generalize D / 4294967296 ^ n2 = Z at *
  have : Z / 4294967296 % 4294967296 * 4294967296 + Z % 4294967296 = Z := by omega
  rw [this]; omega
theorem words_hat (n U V : Nat) (h : U = V + 4294967296 ^ n) : words n U = words n V := by
  rw [← words_mod n U, h, Nat.add_mod_right, words_mod]
/-- What the operations yield. -/
def valQ (b bt c1 ct2 n n1 n2 x0 x1 x2 y0 y1 q : Nat) (lo : List Int) (j : Nat) : Value :=
  ([.slice (some ⟨b, lo.length, none⟩) (n + 1) c1,
    .int .i64 (n : Int),
    .pointer (some ⟨b, lo.length + n, none⟩),
    .int .u32 (x0 : Int),
    .slice (some ⟨b, lo.length, none⟩) (n + 1) c1,
    .int .i64 (n : Int),
    .int .i64 (n1 : Int),
    .pointer (some ⟨b, lo.length + n1, none⟩),
    .int .u32 (x1 : Int),
    .slice (some ⟨b, lo.length, none⟩) (n + 1) c1,
    .int .i64 (n : Int),
    .int .i64 (n2 : Int),
    .pointer (some ⟨b, lo.length + n2, none⟩),
    .int .u32 (x2 : Int),
    .agg #[.int .u32 (x0 : Int), .int .u32 (x1 : Int), .int .u32 (x2 : Int)],
    .slice (some ⟨bt, 0, none⟩) n ct2,
    .int .i64 (n : Int),
    .int .i64 (n1 : Int),
    .pointer (some ⟨bt, n1, none⟩),
    .int .u32 (y0 : Int),
    .slice (some ⟨bt, 0, none⟩) n ct2,
    .int .i64 (n : Int),
    .int .i64 (n2 : Int),
    .pointer (some ⟨bt, n2, none⟩),
    .int .u32 (y1 : Int),
    .agg #[.int .u32 (y0 : Int), .int .u32 (y1 : Int)],
    .int .u32 (q : Int)] : List Value).getD j undef
theorem valQ_list {l : List Value} (hh : l.length = 27) : ∃ v0 v1 v2 v3 v4 v5 v6 v7 v8 v9 v10 v11 v12 v13 v14 v15 v16 v17 v18 v19 v20 v21 v22 v23 v24 v25 v26, l = [v0, v1, v2, v3, v4, v5, v6, v7, v8, v9, v10, v11, v12, v13, v14, v15, v16, v17, v18, v19, v20, v21, v22, v23, v24, v25, v26] := by
  obtain ⟨v0, t0, rfl, h0⟩ := cons_of hh
  obtain ⟨v1, t1, rfl, h1⟩ := cons_of h0
  obtain ⟨v2, t2, rfl, h2⟩ := cons_of h1
  obtain ⟨v3, t3, rfl, h3⟩ := cons_of h2
  obtain ⟨v4, t4, rfl, h4⟩ := cons_of h3
  obtain ⟨v5, t5, rfl, h5⟩ := cons_of h4
  obtain ⟨v6, t6, rfl, h6⟩ := cons_of h5
  obtain ⟨v7, t7, rfl, h7⟩ := cons_of h6
  obtain ⟨v8, t8, rfl, h8⟩ := cons_of h7
  obtain ⟨v9, t9, rfl, h9⟩ := cons_of h8
  obtain ⟨v10, t10, rfl, h10⟩ := cons_of h9
  obtain ⟨v11, t11, rfl, h11⟩ := cons_of h10
  obtain ⟨v12, t12, rfl, h12⟩ := cons_of h11
  obtain ⟨v13, t13, rfl, h13⟩ := cons_of h12
  obtain ⟨v14, t14, rfl, h14⟩ := cons_of h13
  obtain ⟨v15, t15, rfl, h15⟩ := cons_of h14
  obtain ⟨v16, t16, rfl, h16⟩ := cons_of h15
  obtain ⟨v17, t17, rfl, h17⟩ := cons_of h16
  obtain ⟨v18, t18, rfl, h18⟩ := cons_of h17
  obtain ⟨v19, t19, rfl, h19⟩ := cons_of h18
  obtain ⟨v20, t20, rfl, h20⟩ := cons_of h19
  obtain ⟨v21, t21, rfl, h21⟩ := cons_of h20
  obtain ⟨v22, t22, rfl, h22⟩ := cons_of h21
  obtain ⟨v23, t23, rfl, h23⟩ := cons_of h22
  obtain ⟨v24, t24, rfl, h24⟩ := cons_of h23
  obtain ⟨v25, t25, rfl, h25⟩ := cons_of h24
  obtain ⟨v26, t26, rfl, h26⟩ := cons_of h25
  obtain rfl := List.eq_nil_of_length_eq_zero h26
  exact ⟨_, _, _, _, _, _, _, _, _, _, _, _, _, _, _, _, _, _, _, _, _, _, _, _, _, _, _, rfl⟩

set_option maxRecDepth 100000 in
set_option maxHeartbeats 8000000 in
theorem qdigit_any (b tt bt ct ct2 n2 c1 U D0 : Nat) (lo hi rest : List Int) (w : World) (hx : Arr w b tt (lo ++ (words (n2 + 2 + 1) U ++ hi))) (hy : Arr w bt ct (words (n2 + 2) D0 ++ rest)) (hne : b ≠ bt) (hn : n2 + 2 ≤ 1000) (hc1 : n2 + 2 + 1 ≤ c1)
    (hD : D0 < 4294967296 ^ (n2 + 2)) (hDn : 2147483648 ≤ D0 / 4294967296 ^ (n2 + 1)) (hU : U < D0 * 4294967296) :
    Calls Tryd.prog 49 #[.slice (some ⟨b, lo.length, none⟩) (n2 + 2 + 1) c1, .slice (some ⟨bt, 0, none⟩) (n2 + 2) ct2] w fun e w' => e = .returned (.int .u32 ((U / D0 : Nat) : Int)) ∧ Arr w' b tt (lo ++ (words (n2 + 2 + 1) (U % D0) ++ hi)) ∧ Mostly b w w' := by
  have hD0 : 0 < D0 := by
    rcases Nat.eq_zero_or_pos D0 with h | h
    · rw [h] at hDn; simp at hDn
    · exact h
  have hUb : U < 4294967296 ^ (n2 + 3) := by
    rw [show n2 + 3 = n2 + 2 + 1 from rfl, Nat.pow_succ]
    exact Nat.lt_trans hU (Nat.mul_lt_mul_of_pos_right hD (by decide))
  have t3 := top3 U n2 hUb
  have t2 := top2 D0 n2 hD
  have hdw : D0 / 4294967296 ^ (n2 + 1) % 4294967296 = D0 / 4294967296 ^ (n2 + 1) := Nat.mod_eq_of_lt (Nat.div_lt_of_lt_mul (by rw [← Nat.pow_succ]; exact hD))
  have hxw : U / 4294967296 ^ (n2 + 2) ≤ D0 / 4294967296 ^ (n2 + 1) := by
    rw [Nat.le_div_iff_mul_le (Nat.pow_pos (by decide))]
    have h1 := Nat.div_mul_le_self U (4294967296 ^ (n2 + 2))
    have e : U / 4294967296 ^ (n2 + 2) * 4294967296 ^ (n2 + 2) = U / 4294967296 ^ (n2 + 2) * 4294967296 ^ (n2 + 1) * 4294967296 := by rw [Nat.pow_succ _ (n2 + 1), Nat.mul_assoc]
    rw [e] at h1
    exact Nat.le_of_lt (Nat.lt_of_mul_lt_mul_right (Nat.lt_of_le_of_lt h1 hU))
  have hxw2 : U / 4294967296 ^ (n2 + 2) % 4294967296 = U / 4294967296 ^ (n2 + 2) := Nat.mod_eq_of_lt (Nat.lt_of_le_of_lt hxw (by rw [← hdw]; exact Nat.mod_lt _ (by decide)))
  have cx0 := mid_cell hx (n2 + 2) (by rw [words_len]; omega)
  have cx1 := mid_cell hx (n2 + 1) (by rw [words_len]; omega)
  have cx2 := mid_cell hx n2 (by rw [words_len]; omega)
  have cy0 := hy.cell (n2 + 1) (by rw [List.length_append, words_len]; omega)
  have cy1 := hy.cell n2 (by rw [List.length_append, words_len]; omega)
  rw [words_getD' _ _ _ (by omega)] at cx0 cx1 cx2
  rw [app_getD _ _ _ (by rw [words_len]; omega), words_getD' _ _ _ (by omega)] at cy0 cy1
  rw [← hdw] at hxw hDn
  rw [← hxw2] at hxw
  obtain ⟨x0, ex0⟩ : ∃ x, U / 4294967296 ^ (n2 + 2) % 4294967296 = x := ⟨_, rfl⟩
  obtain ⟨x1, ex1⟩ : ∃ x, U / 4294967296 ^ (n2 + 1) % 4294967296 = x := ⟨_, rfl⟩
  obtain ⟨x2, ex2⟩ : ∃ x, U / 4294967296 ^ n2 % 4294967296 = x := ⟨_, rfl⟩
  obtain ⟨y0, ey0⟩ : ∃ x, D0 / 4294967296 ^ (n2 + 1) % 4294967296 = x := ⟨_, rfl⟩
  obtain ⟨y1, ey1⟩ : ∃ x, D0 / 4294967296 ^ n2 % 4294967296 = x := ⟨_, rfl⟩
  have hx0 : x0 < 4294967296 := by rw [← ex0]; exact Nat.mod_lt _ (by decide)
  have hx1 : x1 < 4294967296 := by rw [← ex1]; exact Nat.mod_lt _ (by decide)
  have hx2 : x2 < 4294967296 := by rw [← ex2]; exact Nat.mod_lt _ (by decide)
  have hy0 : y0 < 4294967296 := by rw [← ey0]; exact Nat.mod_lt _ (by decide)
  have hy1 : y1 < 4294967296 := by rw [← ey1]; exact Nat.mod_lt _ (by decide)
  rw [ex0] at cx0 t3 hxw
  rw [ex1] at cx1 t3
  rw [ex2] at cx2 t3
  rw [ey0] at cy0 t2 hxw hDn
  rw [ey1] at cy1 t2
  have hyn := hDn
  have hxy := hxw
  have near := guess_near U D0 ((x0 * 4294967296 + x1) * 4294967296 + x2) (y0 * 4294967296 + y1) (4294967296 ^ n2) (U % 4294967296 ^ n2) (D0 % 4294967296 ^ n2) (U / D0) t3 t2 (Nat.mod_lt _ (Nat.pow_pos (by decide))) (Nat.mod_lt _ (Nat.pow_pos (by decide))) rfl hD0 hU (by omega)
  have Near : Hid (U / D0 ≤ min (((x0 * 4294967296 + x1) * 4294967296 + x2) / (y0 * 4294967296 + y1)) 4294967295 ∧ ((x0 * 4294967296 + x1) * 4294967296 + x2) / (y0 * 4294967296 + y1) ≤ U / D0 + 1 ∧ U / D0 ≤ 4294967295) := near
  obtain ⟨n, hnn⟩ : ∃ n, n2 + 2 = n := ⟨_, rfl⟩
  obtain ⟨n1, hnn1⟩ : ∃ n, n2 + 1 = n := ⟨_, rfl⟩
  rw [hnn] at cx0 hx hy hn hc1 hD ⊢
  rw [hnn1] at cx1 cy0
  have hn1 : (n : Int) - 1 = (n1 : Int) := by omega
  have hn2 : (n : Int) - 2 = (n2 : Int) := by omega
  have hw1 : IntKind.i64.wrap (n1 : Int) = (n1 : Int) := by rw [IntKind.wrap_i64]; omega
  have hw2 : IntKind.i64.wrap (n2 : Int) = (n2 : Int) := by rw [IntKind.wrap_i64]; omega
  have hln : (n : Int) < (n : Int) + 1 := by omega
  have hl1 : (n1 : Int) < (n : Int) + 1 := by omega
  have hl2 : (n2 : Int) < (n : Int) + 1 := by omega
  have hk1 : (n1 : Int) < (n : Int) := by omega
  have hk2 : (n2 : Int) < (n : Int) := by omega
  have px0 : ∀ w', Below w.heap.size w w' → w'.cell? ⟨b, lo.length + n, none⟩ = some (.int .u32 (x0 : Int)) := fun w' h => (h.cell (block_lt_of_cell cx0)).trans cx0
  have px1 : ∀ w', Below w.heap.size w w' → w'.cell? ⟨b, lo.length + n1, none⟩ = some (.int .u32 (x1 : Int)) := fun w' h => (h.cell (block_lt_of_cell cx1)).trans cx1
  have px2 : ∀ w', Below w.heap.size w w' → w'.cell? ⟨b, lo.length + n2, none⟩ = some (.int .u32 (x2 : Int)) := fun w' h => (h.cell (block_lt_of_cell cx2)).trans cx2
  have py0 : ∀ w', Below w.heap.size w w' → w'.cell? ⟨bt, n1, none⟩ = some (.int .u32 (y0 : Int)) := fun w' h => (h.cell (block_lt_of_cell cy0)).trans cy0
  have py1 : ∀ w', Below w.heap.size w w' → w'.cell? ⟨bt, n2, none⟩ = some (.int .u32 (y1 : Int)) := fun w' h => (h.cell (block_lt_of_cell cy1)).trans cy1
  have HUb : Hid (U < 4294967296 ^ (n + 1)) := by show _ < _; rw [← hnn]; exact hUb
  clear t3 t2 hdw hxw2 ex0 ex1 ex2 ey0 ey1 near cx0 cx1 cx2 cy0 cy1 hDn hxw hUb
  go_enter Tryd.func49, Tryd.ntmps49
  go_wp2
  refine abstract_act fun A hA => ?_
  have hsz : A.tmps.size = 46 := by rw [hA]; rfl
  have st : A.tmps[6]? = some (undef) := by rw [hA]; rfl
  have s0 : A.tmps[0]? = some (.slice (some ⟨b, lo.length, none⟩) (n + 1) c1) := by rw [hA]; rfl
  have s1 : A.tmps[1]? = some (.slice (some ⟨bt, 0, none⟩) n ct2) := by rw [hA]; rfl
  have s5 : A.tmps[5]? = some (.int .i64 (n : Int)) := by rw [hA]; rfl
  refine wp_region_inv' (fun A D a w' => ∃ (l : List Value) (vt : Value) (q : Nat), a = (putAll A 9 l).put (some 6) vt ∧ l.length = 27 ∧ Below w.heap.size w w' ∧ (∀ j, j < 27 → D j → l[j]? = some (valQ b bt c1 ct2 n n1 n2 x0 x1 x2 y0 y1 q lo j)) ∧ (D 27 → vt = .int .u32 (q : Int)) ∧ (D 26 → q < 4294967296 ∧ min (((x0 * 4294967296 + x1) * 4294967296 + x2) / (y0 * 4294967296 + y1)) 4294967295 ≤ q ∧ q ≤ ((x0 * 4294967296 + x1) * 4294967296 + x2) / (y0 * 4294967296 + y1))) (by kernel_rfl) (by kernel_rfl) ?mono ?start ?step ?done
  case mono =>
    rintro D D' a w' hD ⟨l, vt, q, ha, hlen, hB, hl, hvt, G26⟩
    exact ⟨l, vt, q, ha, hlen, hB, fun j hj h => hl j hj ((hD j).2 h), fun h => hvt ((hD 27).2 h), fun h => G26 ((hD 26).2 h)⟩
  case start => exact ⟨_, _, 0, putT_start A 9 27 6 _ (by omega) (by decide) st, (putAll_start A 9 27 (by omega)).2, (Below.refl _ _).drew, fun _ _ h => h.elim, fun h => h.elim, fun h => h.elim⟩
  case step =>
    clear hA
    intro i o ho D a w' hI hn hcl hd
    obtain ⟨l, vt, q, ha, hlen, hB, hl, hvt, G26⟩ := hI
    match i, ho with
    | 0, ho =>
      cases Option.some.inj ho
      have ev : a.tmps[0]? = some (.slice (some ⟨b, lo.length, none⟩) (n + 1) c1) := by rw [ha, putT_other _ _ _ _ (by decide), putAll_low A 9 0 l (by omega) (by decide)]; exact s0
      refine wp_value (w' := w') (v := .slice (some ⟨b, lo.length, none⟩) (n + 1) c1) (by simp [execOp, ev, go_sem]) ?_
      exact ⟨_, vt, q, by rw [ha]; exact putT_put A 9 0 6 l _ _ (by omega) (by omega) (by decide), by rw [List.length_set]; exact hlen, hB, set_known hlen (by decide) hl, fun h => hvt (h.resolve_left (by decide)), fun h => G26 (h.resolve_left (by decide))⟩
    | 1, ho =>
      cases Option.some.inj ho
      have ev : a.tmps[5]? = some (.int .i64 (n : Int)) := by rw [ha, putT_other _ _ _ _ (by decide), putAll_low A 9 5 l (by omega) (by decide)]; exact s5
      refine wp_value (w' := w') (v := .int .i64 (n : Int)) (by simp [execOp, ev, go_sem]) ?_
      exact ⟨_, vt, q, by rw [ha]; exact putT_put A 9 1 6 l _ _ (by omega) (by omega) (by decide), by rw [List.length_set]; exact hlen, hB, set_known hlen (by decide) hl, fun h => hvt (h.resolve_left (by decide)), fun h => G26 (h.resolve_left (by decide))⟩
    | 2, ho =>
      cases Option.some.inj ho
      have ev : a.tmps[9]? = some (.slice (some ⟨b, lo.length, none⟩) (n + 1) c1) := known_atT ha hsz hlen hl 0 (by decide) (hd ⟨0, .data⟩ (by simp) rfl)
      have ev' : a.tmps[10]? = some (.int .i64 (n : Int)) := known_atT ha hsz hlen hl 1 (by decide) (hd ⟨1, .data⟩ (by simp) rfl)
      refine wp_value (w' := w') (v := .pointer (some ⟨b, lo.length + n, none⟩)) (by simp [execOp, ev, ev', go_sem, hln]) ?_
      exact ⟨_, vt, q, by rw [ha]; exact putT_put A 9 2 6 l _ _ (by omega) (by omega) (by decide), by rw [List.length_set]; exact hlen, hB, set_known hlen (by decide) hl, fun h => hvt (h.resolve_left (by decide)), fun h => G26 (h.resolve_left (by decide))⟩
    | 3, ho =>
      cases Option.some.inj ho
      have ev : a.tmps[11]? = some (.pointer (some ⟨b, lo.length + n, none⟩)) := known_atT ha hsz hlen hl 2 (by decide) (hd ⟨2, .data⟩ (by simp) rfl)
      have hc := px0 w' hB
      refine wp_value (w' := w') (v := .int .u32 (x0 : Int)) (by simp [execOp, ev, go_sem, hc]) ?_
      exact ⟨_, vt, q, by rw [ha]; exact putT_put A 9 3 6 l _ _ (by omega) (by omega) (by decide), by rw [List.length_set]; exact hlen, hB, set_known hlen (by decide) hl, fun h => hvt (h.resolve_left (by decide)), fun h => G26 (h.resolve_left (by decide))⟩
    | 4, ho =>
      cases Option.some.inj ho
      have ev : a.tmps[0]? = some (.slice (some ⟨b, lo.length, none⟩) (n + 1) c1) := by rw [ha, putT_other _ _ _ _ (by decide), putAll_low A 9 0 l (by omega) (by decide)]; exact s0
      refine wp_value (w' := w') (v := .slice (some ⟨b, lo.length, none⟩) (n + 1) c1) (by simp [execOp, ev, go_sem]) ?_
      exact ⟨_, vt, q, by rw [ha]; exact putT_put A 9 4 6 l _ _ (by omega) (by omega) (by decide), by rw [List.length_set]; exact hlen, hB, set_known hlen (by decide) hl, fun h => hvt (h.resolve_left (by decide)), fun h => G26 (h.resolve_left (by decide))⟩
    | 5, ho =>
      cases Option.some.inj ho
      have ev : a.tmps[5]? = some (.int .i64 (n : Int)) := by rw [ha, putT_other _ _ _ _ (by decide), putAll_low A 9 5 l (by omega) (by decide)]; exact s5
      refine wp_value (w' := w') (v := .int .i64 (n : Int)) (by simp [execOp, ev, go_sem]) ?_
      exact ⟨_, vt, q, by rw [ha]; exact putT_put A 9 5 6 l _ _ (by omega) (by omega) (by decide), by rw [List.length_set]; exact hlen, hB, set_known hlen (by decide) hl, fun h => hvt (h.resolve_left (by decide)), fun h => G26 (h.resolve_left (by decide))⟩
    | 6, ho =>
      cases Option.some.inj ho
      have ev : a.tmps[14]? = some (.int .i64 (n : Int)) := known_atT ha hsz hlen hl 5 (by decide) (hd ⟨5, .data⟩ (by simp) rfl)
      refine wp_value (w' := w') (v := .int .i64 (n1 : Int)) (by simp [execOp, ev, go_sem, hw1, hn1]) ?_
      exact ⟨_, vt, q, by rw [ha]; exact putT_put A 9 6 6 l _ _ (by omega) (by omega) (by decide), by rw [List.length_set]; exact hlen, hB, set_known hlen (by decide) hl, fun h => hvt (h.resolve_left (by decide)), fun h => G26 (h.resolve_left (by decide))⟩
    | 7, ho =>
      cases Option.some.inj ho
      have ev : a.tmps[13]? = some (.slice (some ⟨b, lo.length, none⟩) (n + 1) c1) := known_atT ha hsz hlen hl 4 (by decide) (hd ⟨4, .data⟩ (by simp) rfl)
      have ev' : a.tmps[15]? = some (.int .i64 (n1 : Int)) := known_atT ha hsz hlen hl 6 (by decide) (hd ⟨6, .data⟩ (by simp) rfl)
      refine wp_value (w' := w') (v := .pointer (some ⟨b, lo.length + n1, none⟩)) (by simp [execOp, ev, ev', go_sem, hl1]) ?_
      exact ⟨_, vt, q, by rw [ha]; exact putT_put A 9 7 6 l _ _ (by omega) (by omega) (by decide), by rw [List.length_set]; exact hlen, hB, set_known hlen (by decide) hl, fun h => hvt (h.resolve_left (by decide)), fun h => G26 (h.resolve_left (by decide))⟩
    | 8, ho =>
      cases Option.some.inj ho
      have ev : a.tmps[16]? = some (.pointer (some ⟨b, lo.length + n1, none⟩)) := known_atT ha hsz hlen hl 7 (by decide) (hd ⟨7, .data⟩ (by simp) rfl)
      have hc := px1 w' hB
      refine wp_value (w' := w') (v := .int .u32 (x1 : Int)) (by simp [execOp, ev, go_sem, hc]) ?_
      exact ⟨_, vt, q, by rw [ha]; exact putT_put A 9 8 6 l _ _ (by omega) (by omega) (by decide), by rw [List.length_set]; exact hlen, hB, set_known hlen (by decide) hl, fun h => hvt (h.resolve_left (by decide)), fun h => G26 (h.resolve_left (by decide))⟩
    | 9, ho =>
      cases Option.some.inj ho
      have ev : a.tmps[0]? = some (.slice (some ⟨b, lo.length, none⟩) (n + 1) c1) := by rw [ha, putT_other _ _ _ _ (by decide), putAll_low A 9 0 l (by omega) (by decide)]; exact s0
      refine wp_value (w' := w') (v := .slice (some ⟨b, lo.length, none⟩) (n + 1) c1) (by simp [execOp, ev, go_sem]) ?_
      exact ⟨_, vt, q, by rw [ha]; exact putT_put A 9 9 6 l _ _ (by omega) (by omega) (by decide), by rw [List.length_set]; exact hlen, hB, set_known hlen (by decide) hl, fun h => hvt (h.resolve_left (by decide)), fun h => G26 (h.resolve_left (by decide))⟩
    | 10, ho =>
      cases Option.some.inj ho
      have ev : a.tmps[5]? = some (.int .i64 (n : Int)) := by rw [ha, putT_other _ _ _ _ (by decide), putAll_low A 9 5 l (by omega) (by decide)]; exact s5
      refine wp_value (w' := w') (v := .int .i64 (n : Int)) (by simp [execOp, ev, go_sem]) ?_
      exact ⟨_, vt, q, by rw [ha]; exact putT_put A 9 10 6 l _ _ (by omega) (by omega) (by decide), by rw [List.length_set]; exact hlen, hB, set_known hlen (by decide) hl, fun h => hvt (h.resolve_left (by decide)), fun h => G26 (h.resolve_left (by decide))⟩
    | 11, ho =>
      cases Option.some.inj ho
      have ev : a.tmps[19]? = some (.int .i64 (n : Int)) := known_atT ha hsz hlen hl 10 (by decide) (hd ⟨10, .data⟩ (by simp) rfl)
      refine wp_value (w' := w') (v := .int .i64 (n2 : Int)) (by simp [execOp, ev, go_sem, hw2, hn2]) ?_
      exact ⟨_, vt, q, by rw [ha]; exact putT_put A 9 11 6 l _ _ (by omega) (by omega) (by decide), by rw [List.length_set]; exact hlen, hB, set_known hlen (by decide) hl, fun h => hvt (h.resolve_left (by decide)), fun h => G26 (h.resolve_left (by decide))⟩
    | 12, ho =>
      cases Option.some.inj ho
      have ev : a.tmps[18]? = some (.slice (some ⟨b, lo.length, none⟩) (n + 1) c1) := known_atT ha hsz hlen hl 9 (by decide) (hd ⟨9, .data⟩ (by simp) rfl)
      have ev' : a.tmps[20]? = some (.int .i64 (n2 : Int)) := known_atT ha hsz hlen hl 11 (by decide) (hd ⟨11, .data⟩ (by simp) rfl)
      refine wp_value (w' := w') (v := .pointer (some ⟨b, lo.length + n2, none⟩)) (by simp [execOp, ev, ev', go_sem, hl2]) ?_
      exact ⟨_, vt, q, by rw [ha]; exact putT_put A 9 12 6 l _ _ (by omega) (by omega) (by decide), by rw [List.length_set]; exact hlen, hB, set_known hlen (by decide) hl, fun h => hvt (h.resolve_left (by decide)), fun h => G26 (h.resolve_left (by decide))⟩
    | 13, ho =>
      cases Option.some.inj ho
      have ev : a.tmps[21]? = some (.pointer (some ⟨b, lo.length + n2, none⟩)) := known_atT ha hsz hlen hl 12 (by decide) (hd ⟨12, .data⟩ (by simp) rfl)
      have hc := px2 w' hB
      refine wp_value (w' := w') (v := .int .u32 (x2 : Int)) (by simp [execOp, ev, go_sem, hc]) ?_
      exact ⟨_, vt, q, by rw [ha]; exact putT_put A 9 13 6 l _ _ (by omega) (by omega) (by decide), by rw [List.length_set]; exact hlen, hB, set_known hlen (by decide) hl, fun h => hvt (h.resolve_left (by decide)), fun h => G26 (h.resolve_left (by decide))⟩
    | 14, ho =>
      cases Option.some.inj ho
      have ev : a.tmps[12]? = some (.int .u32 (x0 : Int)) := known_atT ha hsz hlen hl 3 (by decide) (hd ⟨3, .data⟩ (by simp) rfl)
      have ev' : a.tmps[17]? = some (.int .u32 (x1 : Int)) := known_atT ha hsz hlen hl 8 (by decide) (hd ⟨8, .data⟩ (by simp) rfl)
      have ev'' : a.tmps[22]? = some (.int .u32 (x2 : Int)) := known_atT ha hsz hlen hl 13 (by decide) (hd ⟨13, .data⟩ (by simp) rfl)
      refine wp_value (w' := w') (v := .agg #[.int .u32 (x0 : Int), .int .u32 (x1 : Int), .int .u32 (x2 : Int)]) (by simp [execOp, ev, ev', ev'', go_sem]) ?_
      exact ⟨_, vt, q, by rw [ha]; exact putT_put A 9 14 6 l _ _ (by omega) (by omega) (by decide), by rw [List.length_set]; exact hlen, hB, set_known hlen (by decide) hl, fun h => hvt (h.resolve_left (by decide)), fun h => G26 (h.resolve_left (by decide))⟩
    | 15, ho =>
      cases Option.some.inj ho
      have ev : a.tmps[1]? = some (.slice (some ⟨bt, 0, none⟩) n ct2) := by rw [ha, putT_other _ _ _ _ (by decide), putAll_low A 9 1 l (by omega) (by decide)]; exact s1
      refine wp_value (w' := w') (v := .slice (some ⟨bt, 0, none⟩) n ct2) (by simp [execOp, ev, go_sem]) ?_
      exact ⟨_, vt, q, by rw [ha]; exact putT_put A 9 15 6 l _ _ (by omega) (by omega) (by decide), by rw [List.length_set]; exact hlen, hB, set_known hlen (by decide) hl, fun h => hvt (h.resolve_left (by decide)), fun h => G26 (h.resolve_left (by decide))⟩
    | 16, ho =>
      cases Option.some.inj ho
      have ev : a.tmps[5]? = some (.int .i64 (n : Int)) := by rw [ha, putT_other _ _ _ _ (by decide), putAll_low A 9 5 l (by omega) (by decide)]; exact s5
      refine wp_value (w' := w') (v := .int .i64 (n : Int)) (by simp [execOp, ev, go_sem]) ?_
      exact ⟨_, vt, q, by rw [ha]; exact putT_put A 9 16 6 l _ _ (by omega) (by omega) (by decide), by rw [List.length_set]; exact hlen, hB, set_known hlen (by decide) hl, fun h => hvt (h.resolve_left (by decide)), fun h => G26 (h.resolve_left (by decide))⟩
    | 17, ho =>
      cases Option.some.inj ho
      have ev : a.tmps[25]? = some (.int .i64 (n : Int)) := known_atT ha hsz hlen hl 16 (by decide) (hd ⟨16, .data⟩ (by simp) rfl)
      refine wp_value (w' := w') (v := .int .i64 (n1 : Int)) (by simp [execOp, ev, go_sem, hw1, hn1]) ?_
      exact ⟨_, vt, q, by rw [ha]; exact putT_put A 9 17 6 l _ _ (by omega) (by omega) (by decide), by rw [List.length_set]; exact hlen, hB, set_known hlen (by decide) hl, fun h => hvt (h.resolve_left (by decide)), fun h => G26 (h.resolve_left (by decide))⟩
    | 18, ho =>
      cases Option.some.inj ho
      have ev : a.tmps[24]? = some (.slice (some ⟨bt, 0, none⟩) n ct2) := known_atT ha hsz hlen hl 15 (by decide) (hd ⟨15, .data⟩ (by simp) rfl)
      have ev' : a.tmps[26]? = some (.int .i64 (n1 : Int)) := known_atT ha hsz hlen hl 17 (by decide) (hd ⟨17, .data⟩ (by simp) rfl)
      refine wp_value (w' := w') (v := .pointer (some ⟨bt, n1, none⟩)) (by simp [execOp, ev, ev', go_sem, hk1]) ?_
      exact ⟨_, vt, q, by rw [ha]; exact putT_put A 9 18 6 l _ _ (by omega) (by omega) (by decide), by rw [List.length_set]; exact hlen, hB, set_known hlen (by decide) hl, fun h => hvt (h.resolve_left (by decide)), fun h => G26 (h.resolve_left (by decide))⟩
    | 19, ho =>
      cases Option.some.inj ho
      have ev : a.tmps[27]? = some (.pointer (some ⟨bt, n1, none⟩)) := known_atT ha hsz hlen hl 18 (by decide) (hd ⟨18, .data⟩ (by simp) rfl)
      have hc := py0 w' hB
      refine wp_value (w' := w') (v := .int .u32 (y0 : Int)) (by simp [execOp, ev, go_sem, hc]) ?_
      exact ⟨_, vt, q, by rw [ha]; exact putT_put A 9 19 6 l _ _ (by omega) (by omega) (by decide), by rw [List.length_set]; exact hlen, hB, set_known hlen (by decide) hl, fun h => hvt (h.resolve_left (by decide)), fun h => G26 (h.resolve_left (by decide))⟩
    | 20, ho =>
      cases Option.some.inj ho
      have ev : a.tmps[1]? = some (.slice (some ⟨bt, 0, none⟩) n ct2) := by rw [ha, putT_other _ _ _ _ (by decide), putAll_low A 9 1 l (by omega) (by decide)]; exact s1
      refine wp_value (w' := w') (v := .slice (some ⟨bt, 0, none⟩) n ct2) (by simp [execOp, ev, go_sem]) ?_
      exact ⟨_, vt, q, by rw [ha]; exact putT_put A 9 20 6 l _ _ (by omega) (by omega) (by decide), by rw [List.length_set]; exact hlen, hB, set_known hlen (by decide) hl, fun h => hvt (h.resolve_left (by decide)), fun h => G26 (h.resolve_left (by decide))⟩
    | 21, ho =>
      cases Option.some.inj ho
      have ev : a.tmps[5]? = some (.int .i64 (n : Int)) := by rw [ha, putT_other _ _ _ _ (by decide), putAll_low A 9 5 l (by omega) (by decide)]; exact s5
      refine wp_value (w' := w') (v := .int .i64 (n : Int)) (by simp [execOp, ev, go_sem]) ?_
      exact ⟨_, vt, q, by rw [ha]; exact putT_put A 9 21 6 l _ _ (by omega) (by omega) (by decide), by rw [List.length_set]; exact hlen, hB, set_known hlen (by decide) hl, fun h => hvt (h.resolve_left (by decide)), fun h => G26 (h.resolve_left (by decide))⟩
    | 22, ho =>
      cases Option.some.inj ho
      have ev : a.tmps[30]? = some (.int .i64 (n : Int)) := known_atT ha hsz hlen hl 21 (by decide) (hd ⟨21, .data⟩ (by simp) rfl)
      refine wp_value (w' := w') (v := .int .i64 (n2 : Int)) (by simp [execOp, ev, go_sem, hw2, hn2]) ?_
      exact ⟨_, vt, q, by rw [ha]; exact putT_put A 9 22 6 l _ _ (by omega) (by omega) (by decide), by rw [List.length_set]; exact hlen, hB, set_known hlen (by decide) hl, fun h => hvt (h.resolve_left (by decide)), fun h => G26 (h.resolve_left (by decide))⟩
    | 23, ho =>
      cases Option.some.inj ho
      have ev : a.tmps[29]? = some (.slice (some ⟨bt, 0, none⟩) n ct2) := known_atT ha hsz hlen hl 20 (by decide) (hd ⟨20, .data⟩ (by simp) rfl)
      have ev' : a.tmps[31]? = some (.int .i64 (n2 : Int)) := known_atT ha hsz hlen hl 22 (by decide) (hd ⟨22, .data⟩ (by simp) rfl)
      refine wp_value (w' := w') (v := .pointer (some ⟨bt, n2, none⟩)) (by simp [execOp, ev, ev', go_sem, hk2]) ?_
      exact ⟨_, vt, q, by rw [ha]; exact putT_put A 9 23 6 l _ _ (by omega) (by omega) (by decide), by rw [List.length_set]; exact hlen, hB, set_known hlen (by decide) hl, fun h => hvt (h.resolve_left (by decide)), fun h => G26 (h.resolve_left (by decide))⟩
    | 24, ho =>
      cases Option.some.inj ho
      have ev : a.tmps[32]? = some (.pointer (some ⟨bt, n2, none⟩)) := known_atT ha hsz hlen hl 23 (by decide) (hd ⟨23, .data⟩ (by simp) rfl)
      have hc := py1 w' hB
      refine wp_value (w' := w') (v := .int .u32 (y1 : Int)) (by simp [execOp, ev, go_sem, hc]) ?_
      exact ⟨_, vt, q, by rw [ha]; exact putT_put A 9 24 6 l _ _ (by omega) (by omega) (by decide), by rw [List.length_set]; exact hlen, hB, set_known hlen (by decide) hl, fun h => hvt (h.resolve_left (by decide)), fun h => G26 (h.resolve_left (by decide))⟩
    | 25, ho =>
      cases Option.some.inj ho
      have ev : a.tmps[28]? = some (.int .u32 (y0 : Int)) := known_atT ha hsz hlen hl 19 (by decide) (hd ⟨19, .data⟩ (by simp) rfl)
      have ev' : a.tmps[33]? = some (.int .u32 (y1 : Int)) := known_atT ha hsz hlen hl 24 (by decide) (hd ⟨24, .data⟩ (by simp) rfl)
      refine wp_value (w' := w') (v := .agg #[.int .u32 (y0 : Int), .int .u32 (y1 : Int)]) (by simp [execOp, ev, ev', go_sem]) ?_
      exact ⟨_, vt, q, by rw [ha]; exact putT_put A 9 25 6 l _ _ (by omega) (by omega) (by decide), by rw [List.length_set]; exact hlen, hB, set_known hlen (by decide) hl, fun h => hvt (h.resolve_left (by decide)), fun h => G26 (h.resolve_left (by decide))⟩
    | 26, ho =>
      cases Option.some.inj ho
      have ev : a.tmps[23]? = some (.agg #[.int .u32 (x0 : Int), .int .u32 (x1 : Int), .int .u32 (x2 : Int)]) := known_atT ha hsz hlen hl 14 (by decide) (hd ⟨14, .data⟩ (by simp) rfl)
      have ev' : a.tmps[34]? = some (.agg #[.int .u32 (y0 : Int), .int .u32 (y1 : Int)]) := known_atT ha hsz hlen hl 25 (by decide) (hd ⟨25, .data⟩ (by simp) rfl)
      refine wp_enter (f := 57) (args := #[.agg #[.int .u32 (x0 : Int), .int .u32 (x1 : Int), .int .u32 (x2 : Int)], .agg #[.int .u32 (y0 : Int), .int .u32 (y1 : Int)]]) (by simp [execOp, ev, ev', go_sem]) ?_
      refine (guess_any x0 x1 x2 y0 y1 w' hx0 hx1 hx2 hy0 hy1 hyn hxy).mono ?_
      rintro e w6 ⟨nq, rfl, g1, g2, g3, HB⟩
      refine ⟨_, rfl, ?_⟩
      exact ⟨_, vt, nq, by rw [ha]; exact putT_put A 9 26 6 l _ _ (by omega) (by omega) (by decide), by rw [List.length_set]; exact hlen, below_size hB (Nat.le_refl _) HB, set_known' (val' := valQ b bt c1 ct2 n n1 n2 x0 x1 x2 y0 y1 nq lo) hlen (by decide) hl (fun j hj hne => match j, hj, hne with | 0, _, _ => rfl | 1, _, _ => rfl | 2, _, _ => rfl | 3, _, _ => rfl | 4, _, _ => rfl | 5, _, _ => rfl | 6, _, _ => rfl | 7, _, _ => rfl | 8, _, _ => rfl | 9, _, _ => rfl | 10, _, _ => rfl | 11, _, _ => rfl | 12, _, _ => rfl | 13, _, _ => rfl | 14, _, _ => rfl | 15, _, _ => rfl | 16, _, _ => rfl | 17, _, _ => rfl | 18, _, _ => rfl | 19, _, _ => rfl | 20, _, _ => rfl | 21, _, _ => rfl | 22, _, _ => rfl | 23, _, _ => rfl | 24, _, _ => rfl | 25, _, _ => rfl | 26, _, hne => absurd rfl hne | j + 27, _, _ => rfl), fun h => absurd (h.resolve_left (by decide)) (fun h => hn (hcl 27 _ rfl h ⟨26, .data⟩ (by simp) rfl)), fun _ => ⟨g1, g2, g3⟩⟩
    | 27, ho =>
      cases Option.some.inj ho
      have ev : a.tmps[35]? = some (.int .u32 (q : Int)) := known_atT ha hsz hlen hl 26 (by decide) (hd ⟨26, .data⟩ (by simp) rfl)
      refine wp_value (w' := w') (v := .int .u32 (q : Int)) (by simp [execOp, ev, go_sem]) ?_
      exact ⟨l, (.int .u32 (q : Int)), q, by rw [ha]; exact putT_again _ _ _ _, hlen, hB, fun j hj h => hl j hj (h.resolve_left (by omega)), fun _ => rfl, fun h => G26 (h.resolve_left (by decide))⟩
    | i + 28, ho => simp at ho
  case done =>
    rintro D a w' ⟨l, vt, q, ha, hlen, hB, hl, hvt, G26⟩ hall
    obtain rfl := hvt (hall 27 (by decide))
    obtain ⟨v0, v1, v2, v3, v4, v5, v6, v7, v8, v9, v10, v11, v12, v13, v14, v15, v16, v17, v18, v19, v20, v21, v22, v23, v24, v25, v26, rfl⟩ := valQ_list hlen
    obtain ⟨g1, g2, g3⟩ := G26 (hall 26 (by decide))
    clear hl hall G26 st s0 s1 s5 hsz px0 px1 px2 py0 py1
    subst hA
    have hfr : a = _ := ha
    rw [hfr]
    clear hfr ha
    simp only [putAll, List.take_succ_cons, List.take_zero, List.drop_succ_cons, List.drop_zero, List.cons_append, List.nil_append, List.length_cons, List.length_nil]
    simp only [Act.put, List.setIfInBounds_toArray, List.set_cons_zero, List.set_cons_succ]
    have hBw := hB
    have jx : Arr w' b tt (lo ++ (words (n + 1) U ++ hi)) := hx.below hB hx.lt
    have jy : Arr w' bt ct (words n D0 ++ rest) := hy.below hB hy.lt
    go_wp2_with fail
    refine (take_any b tt bt ct ct2 n c1 U D0 q lo hi rest w' jx jy hne hn hc1 HUb.out hD g1).mono ?_
    rintro e w2 ⟨rfl, rfl⟩
    obtain ⟨a1, a2, a3⟩ := Near.out
    by_cases hlt : U < D0 * q
    · have hq1 : q = U / D0 + 1 := by
        have : ¬ q ≤ U / D0 := by
          intro h
          exact absurd (Nat.lt_of_lt_of_le hlt (Nat.mul_le_mul_left D0 h)) (Nat.not_lt.2 (Nat.mul_div_le U D0))
        exact Nat.le_antisymm (Nat.le_trans g3 a2) (Nat.lt_of_not_le this)
      clear a1 a2 g2 g3
      have hdm := Nat.div_add_mod U D0
      have hml := Nat.mod_lt U hD0
      have hmul : D0 * q = D0 * (U / D0) + D0 := by rw [hq1, Nat.mul_add, Nat.mul_one]
      have hP : 4294967296 ^ n ≤ 4294967296 ^ (n + 1) := Nat.pow_le_pow_right (by decide) (by omega)
      have hval : Hid (U + 4294967296 ^ (n + 1) - D0 * q + D0 = U % D0 + 4294967296 ^ (n + 1)) := by show _ = _; omega
      have A2 : Arr (w'.setRow b (cellsW (lo ++ (words (n + 1) (U + 4294967296 ^ (n + 1) - D0 * q) ++ hi)))) b tt (lo ++ (words (n + 1) (U + 4294967296 ^ (n + 1) - D0 * q) ++ hi)) := jx.setW _
      have Y2 : Arr (w'.setRow b (cellsW (lo ++ (words (n + 1) (U + 4294967296 ^ (n + 1) - D0 * q) ++ hi)))) bt ct (words n D0 ++ rest) := jy.otherW _ hne.symm
      have O2 : Only b w' (w'.setRow b (cellsW (lo ++ (words (n + 1) (U + 4294967296 ^ (n + 1) - D0 * q) ++ hi)))) := (Only.refl _ _).setRow _
      obtain ⟨G, HG⟩ : ∃ G, Hid (U + 4294967296 ^ (n + 1) - D0 * q = G) := ⟨_, rfl⟩
      rw [HG.out] at A2 Y2 O2 hval ⊢
      generalize w'.setRow b (cellsW (lo ++ (words (n + 1) G ++ hi))) = w3 at *
      have hqI : (q : Int) - 1 = ((U / D0 : Nat) : Int) := by omega
      obtain ⟨Q, HQ⟩ : ∃ Q, Hid (U / D0 = Q) := ⟨_, rfl⟩
      rw [HQ.out] at hqI a3
      have hqw : IntKind.u32.wrap ((Q : Nat) : Int) = (Q : Int) := by rw [IntKind.wrap_u32]; omega
      have hlt' : decide (U < D0 * q) = true := decide_eq_true hlt
      rw [hlt']
      clear hdm hml hmul hq1 hlt hlt' Near
      go_wp2_with fail
      refine (put_any b tt bt ct ct2 n c1 G D0 lo hi rest w3 A2 Y2 hne hn hc1 hD).mono ?_
      rintro e w4 ⟨rfl, A4, O4⟩
      rw [hval.out, words_hat (n + 1) _ (U % D0) rfl] at A4
      have M4 := Mostly.of hBw (O2.trans O4)
      clear hval HG
      go_wp2
      go_ret
      exact ⟨by rw [HQ.out]; rfl, A4, M4⟩
    · have hq1 : q = U / D0 := by
        have h1 : q ≤ U / D0 := by
          rw [Nat.le_div_iff_mul_le hD0, Nat.mul_comm]
          exact Nat.le_of_not_lt hlt
        exact Nat.le_antisymm h1 (Nat.le_trans a1 g2)
      clear a1 a2
      have hdm := Nat.div_add_mod U D0
      have hmul : D0 * q = D0 * (U / D0) := by rw [hq1]
      have hval : words (n + 1) (U + 4294967296 ^ (n + 1) - D0 * q) = words (n + 1) (U % D0) := words_hat (n + 1) _ _ (by omega)
      rw [hval]
      have A2 : Arr (w'.setRow b (cellsW (lo ++ (words (n + 1) (U % D0) ++ hi)))) b tt (lo ++ (words (n + 1) (U % D0) ++ hi)) := jx.setW _
      have O2 : Only b w' (w'.setRow b (cellsW (lo ++ (words (n + 1) (U % D0) ++ hi)))) := (Only.refl _ _).setRow _
      have M4 := Mostly.of hBw O2
      have hlt' : decide (U < D0 * q) = false := decide_eq_false hlt
      rw [hlt']
      have Hq1 : Hid (U / D0 = q) := hq1.symm
      generalize w'.setRow b (cellsW (lo ++ (words (n + 1) (U % D0) ++ hi))) = w3 at *
      clear hdm hmul hval hq1 hlt hlt' g2 g3 Near
      go_wp2
      go_ret
      exact ⟨by rw [Hq1.out]; rfl, A2, M4⟩
end Go.Proofs.YtgammgdckneoiacDoor
