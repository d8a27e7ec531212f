/- quotientRest by a number of two words and more. -/
import Derived.Test.YtgammgdckneoiacDoorQMath
namespace Go.Proofs.YtgammgdckneoiacDoor
open Go.RowKit

theorem wp_skip {P : Program} {o : Oper} {a : Act} {w w' : World} {K : Act → World → Prop} {Q : Exit → Act → World → Prop} (h : (execOp a.eval o).run P w = .ok .skip w') (hk : K (a.put o.dst undef) w') : o.wp P a w K Q := by
  unfold Oper.wp; rw [h]; exact hk
theorem run_alloc104 (a : Act) (w : World) {o : Oper} (ho : o.op = .alloc 77) : (execOp a.eval o).run Tryd.prog w = .ok (.value (.pointer (some ⟨w.heap.size, 0, none⟩))) (w.alloc (.cells (cellsW (words 33 0)) 77)) := by
  have hz := (zero_of_info Tryd.info104).1
  simp [execOp, ho, hz, go_sem]
theorem run_part104 (b p k : Nat) (hp : p + k ≤ 33) (hk : 0 < k) (w : World) :
    (Instr.sliceAt 77 (.pointer (some ⟨b, 0, none⟩)) (some (.int .i64 (p : Int))) (some (.int .i64 ((p + k : Nat) : Int))) none).run Tryd.prog w = .ok (.slice (some ⟨b, p, none⟩) k (33 - p)) w := by
  have hl : Tryd.prog.arrayLen 77 = 33 := by kernel_rfl
  have he : Tryd.prog.elem 77 = 48 := by kernel_rfl
  have ht : Tryd.prog.underlying 77 = some (.array (Tryd.prog.arrayLen 77) (Tryd.prog.elem 77)) := by rw [hl, he]; exact Tryd.underlying77
  have hs : (Tryd.prog.info? 48).map (·.size) = some 1 := by kernel_rfl
  have hz : (sizeOf 48).run Tryd.prog w = .ok 1 w := by
    cases hq : Tryd.prog.info? 48 with
    | none => simp [hq] at hs
    | some i => simp [hq] at hs; simp [sizeOf, typeInfo, hq, hs]
  rw [run_sliceAt_array_lh w 77 ⟨b, 0, none⟩ ht .i64 .i64 _ _ (by omega) (by omega) (by rw [hl]; omega), he, hz, hl]
  simp [slicedAt, Result.andThen, Addr.add]
  refine ⟨?_, by omega⟩
  rw [if_neg (by omega)]
  split
  · rename_i h; rw [h]
  · rfl
theorem run_upto104 (a : Addr) (n : Nat) (h : n ≤ 33) (w : World) :
    (Instr.sliceAt 77 (.pointer (some a)) none (some (.int .i64 (n : Int))) none).run Tryd.prog w = .ok (.slice (some a) n 33) w := by
  have hl : Tryd.prog.arrayLen 77 = 33 := by kernel_rfl
  have he : Tryd.prog.elem 77 = 48 := by kernel_rfl
  have ht : Tryd.prog.underlying 77 = some (.array (Tryd.prog.arrayLen 77) (Tryd.prog.elem 77)) := by rw [hl, he]; exact Tryd.underlying77
  have hs : (Tryd.prog.info? 48).map (·.size) = some 1 := by kernel_rfl
  have hz : (sizeOf 48).run Tryd.prog w = .ok 1 w := by
    cases hq : Tryd.prog.info? 48 with
    | none => simp [hq] at hs
    | some i => simp [hq] at hs; simp [sizeOf, typeInfo, hq, hs]
  rw [run_sliceAt_array_h w 77 a ht .i64 _ (by omega) (by rw [hl]; omega), he, hz, hl]
  simp [slicedAt, Result.andThen, Addr.add]
theorem Arr.mostly {b b' t : Nat} {w w' : World} {xs : List Int} (h : Arr w b' t xs) (m : Mostly b w w') (hn : b' ≠ b) : Arr w' b' t xs := (m.other b' h.lt hn).trans h

set_option maxRecDepth 100000 in
set_option maxHeartbeats 16000000 in
theorem quo_many (x y : Nat) (w : World) (hx : x < 4294967296 ^ 32) (hy : y < 4294967296 ^ 32) (hy2 : 4294967296 ≤ y) :
    Calls Tryd.prog 37 #[W 32 x, W 32 y] w fun e w' => e = .returned (.tuple #[W 32 (x / y), W 32 (x % y)]) ∧ Below w.heap.size w w' := by
  unfold W
  have hwy := wlen_le y 32 hy
  have hyw := wlen_spec y
  have hwx := wlen_le x 32 hx
  have hxw := wlen_spec x
  have hyl : 2 ≤ wlen y := by
    rcases Nat.lt_or_ge (wlen y) 2 with h | h
    · have : 4294967296 ^ wlen y ≤ 4294967296 ^ 1 := Nat.pow_le_pow_right (by decide) (by omega)
      omega
    · exact h
  have hytop : 4294967296 ^ (wlen y - 1) ≤ y := by
    rcases Nat.lt_or_ge y (4294967296 ^ (wlen y - 1)) with h | h
    · have := wlen_le y _ h
      omega
    · exact h
  obtain ⟨m, Hm⟩ : ∃ m, Hid (wlen x = m) := ⟨_, rfl⟩
  obtain ⟨n, Hn⟩ : ∃ m, Hid (wlen y = m) := ⟨_, rfl⟩
  rw [Hm.out] at hwx hxw
  rw [Hn.out] at hwy hyw hyl hytop
  obtain ⟨n2, hnn⟩ : ∃ k, n = k + 2 := ⟨n - 2, by omega⟩
  have hn1 : n - 1 = n2 + 1 := by omega
  rw [hn1] at hytop
  obtain ⟨t, ht⟩ : ∃ t, y / 4294967296 ^ (n2 + 1) = t := ⟨_, rfl⟩
  have hyw' : y < 4294967296 ^ (n2 + 1 + 1) := by rw [show n2 + 1 + 1 = n by omega]; exact hyw
  have ht32 : t < 4294967296 := by rw [← ht]; exact Nat.div_lt_of_lt_mul (by rw [← Nat.pow_succ]; exact hyw')
  have ht0 : t ≠ 0 := by
    have : 1 ≤ t := by rw [← ht, Nat.le_div_iff_mul_le (Nat.pow_pos (by decide))]; omega
    omega
  obtain ⟨q1, q2, q3, q4⟩ := bitLen_bd t ht32 ht0
  have clz := fun w => lz_any t w ht32 ht0
  obtain ⟨l, Hl⟩ : ∃ l, Hid (Lib.bitLen t = l) := ⟨_, rfl⟩
  rw [Hl.out] at q1 q2 q3 q4 clz
  obtain ⟨k1, k2⟩ := norm_top y (n2 + 1) t l ht q1 q2 q3 q4
  obtain ⟨s, hs⟩ : ∃ s, 32 - l = s := ⟨_, rfl⟩
  rw [hs] at k1 k2 clz
  have hs32 : s < 32 := by omega
  obtain ⟨M, hM⟩ : ∃ M, m + 1 - n = M := ⟨_, rfl⟩
  have hroom := room_top x y m (n2 + 1) s M hxw hytop (by omega)
  have hdivL : x * 2 ^ s / (y * 2 ^ s) = x / y := Nat.mul_div_mul_right _ _ (Nat.pow_pos (by decide))
  have hmodL : x * 2 ^ s % (y * 2 ^ s) = x % y * 2 ^ s := Nat.mul_mod_mul_right _ _ _
  have csx := fun w => shl_any x s w hx hs32
  have csy := fun w => shl_any y s w hy hs32
  obtain ⟨L, hL⟩ : ∃ L, x * 2 ^ s = L := ⟨_, rfl⟩
  obtain ⟨T, hT⟩ : ∃ T, y * 2 ^ s = T := ⟨_, rfl⟩
  rw [hL] at hroom hdivL hmodL csx
  rw [hT] at hroom hdivL hmodL csy k1 k2
  have hT0 : 0 < T := by rw [← hT]; exact Nat.mul_pos (by omega) (Nat.pow_pos (by decide))
  obtain ⟨Q, hQ⟩ : ∃ Q, x / y = Q := ⟨_, rfl⟩
  rw [hQ] at hdivL ⊢
  have hQM : Q < 4294967296 ^ M := by rw [← hdivL]; exact Nat.div_lt_of_lt_mul hroom
  have HdivL : Hid (L / T = Q) := hdivL
  have Hrest : Hid (L % T / 2 ^ s = x % y) := by show _ = _; rw [hmodL]; exact Nat.mul_div_cancel _ (Nat.pow_pos (by decide))
  obtain ⟨RR, HRR⟩ : ∃ R, Hid (x % y = R) := ⟨_, rfl⟩
  rw [HRR.out] at Hrest ⊢
  have hstart : Hid (L % (T * 4294967296 ^ M) = L) := Nat.mod_eq_of_lt hroom
  have hMI : ((m : Int) - (n : Int) + 1 ≤ 0 ∧ M = 0) ∨ (0 < (m : Int) - (n : Int) + 1 ∧ (m : Int) - (n : Int) + 1 = (M : Int)) := by omega
  have hMn : M = 0 ∨ M + n = m + 1 := by omega
  obtain ⟨n1, hn1e⟩ : ∃ k, n2 + 1 = k := ⟨_, rfl⟩
  have hnI : (n : Int) - 1 = (n1 : Int) := by omega
  have hn132 : (n1 : Int) < 32 := by omega
  have Hnn : Hid (n = n2 + 2) := hnn
  clear hdivL hmodL hroom hL hT q1 q2 hytop hs hnn hn1
  go_enter Tryd.func37, Tryd.ntmps37
  go_wp2
  rw [zero32]
  obtain ⟨a0, a1, a2, a3, hb⟩ := alloc4 w (.cells (cellsW (words 32 x)) 56) (.cells (cellsW (words 32 y)) 56) (.cells (cellsW (words 32 0)) 56) (.cells (cellsW (words 32 0)) 56)
  generalize (((w.alloc (.cells (cellsW (words 32 x)) 56)).alloc (.cells (cellsW (words 32 y)) 56)).alloc (.cells (cellsW (words 32 0)) 56)).alloc (.cells (cellsW (words 32 0)) 56) = w1 at *
  have b0 : Arr w1 w.heap.size 56 (words 32 x) := a0
  have b1 : Arr w1 (w.heap.size + 1) 56 (words 32 y) := a1
  have b2 : Arr w1 (w.heap.size + 2) 56 (words 32 0) := a2
  have b3 : Arr w1 (w.heap.size + 3) 56 (words 32 0) := a3
  clear a0 a1 a2 a3
  have u0 : ∀ j, Calls Tryd.prog 41 #[.slice (some ⟨w.heap.size, 0, none⟩) 32 32] (w1.drewN j) fun e w' => e = .returned (.int .i64 (m : Int)) ∧ w' = w1.drewN j := fun j => by
    have := used_part w.heap.size 56 32 x (w1.drewN j) b0 (by decide) hx
    rw [Hm.out] at this
    exact this.mono fun _ _ h => ⟨h.1, h.2.symm⟩
  have u1 : ∀ j, Calls Tryd.prog 41 #[.slice (some ⟨w.heap.size + 1, 0, none⟩) 32 32] (w1.drewN j) fun e w' => e = .returned (.int .i64 (n : Int)) ∧ w' = w1.drewN j := fun j => by
    have := used_part (w.heap.size + 1) 56 32 y (w1.drewN j) b1 (by decide) hy
    rw [Hn.out] at this
    exact this.mono fun _ _ h => ⟨h.1, h.2.symm⟩
  refine wp_region_quiet_lit (by kernel_rfl) (by kernel_rfl) ?_
  quiet_step (fail)
  refine wpQuiet_step (fun K hK => ?_)
  go_simp
  refine ⟨.int .i64 (n : Int), fun n => Calls.quiet_of_same (u1 n), hK _ ?_⟩
  clear hK K
  quiet_step (fail)
  refine wpQuiet_step (fun K hK => ?_)
  go_simp
  refine ⟨.int .i64 (m : Int), fun n => Calls.quiet_of_same (u0 n), hK _ ?_⟩
  clear hK K
  quiet_step (fail)
  quiet_step (fail)
  refine wpQuiet_nil ?_
  intro _ hw'
  obtain ⟨nq, hw''⟩ := hw'
  subst hw''
  clear u0 u1
  have c0 : Arr (w1.drewN nq) w.heap.size 56 (words 32 x) := b0
  have c1 : Arr (w1.drewN nq) (w.heap.size + 1) 56 (words 32 y) := b1
  have c2 : Arr (w1.drewN nq) (w.heap.size + 2) 56 (words 32 0) := b2
  have c3 : Arr (w1.drewN nq) (w.heap.size + 3) 56 (words 32 0) := b3
  have hB0 := below_drewN hb nq
  clear b0 b1 b2 b3 hb
  generalize w1.drewN nq = w2 at *
  have hn1b : ((n : Int) == 1) = false := by simp; omega
  have hct : w2.cell? ⟨w.heap.size + 1, n1, none⟩ = some (.int .u32 (t : Int)) := by
    rw [c1.cell n1 (by rw [words_len]; omega), words_getD' 32 y n1 (by omega), ← hn1e, ht, Nat.mod_eq_of_lt ht32]
  go_wp2_with fail
  refine (clz w2).mono ?_
  rintro e w3 ⟨rfl, rfl⟩
  clear clz hct hn132 hnI
  have hs2p : w.heap.size + 3 < w2.heap.size := c3.lt
  go_wp2
  refine wp_region_inv' (fun A D a w' => ∃ v9 v10 v32 v33 v34 v35 v36 v37 b9 b10 z9 z10, a = ((((((((A.put (some 9) v9).put (some 10) v10).put (some 32) v32).put (some 33) v33).put (some 34) v34).put (some 35) v35).put (some 36) v36).put (some 37) v37) ∧ Below w2.heap.size w2 w' ∧ (D 0 → v32 = .agg (cellsW (words 32 x))) ∧ (D 1 → v33 = .int .i64 (s : Int)) ∧ (D 2 → v34 = W 33 L) ∧ (D 3 → v35 = .agg (cellsW (words 32 y))) ∧ (D 4 → v36 = .int .i64 (s : Int)) ∧ (D 5 → v37 = W 33 T) ∧ (D 6 → v9 = .pointer (some ⟨b9, 0, none⟩)) ∧ (D 7 → v10 = .pointer (some ⟨b10, 0, none⟩)) ∧ (D 6 → w2.heap.size ≤ b9) ∧ (D 6 → Arr w' b9 77 z9) ∧ (D 6 → z9.length = 33) ∧ (D 8 → z9 = words 33 L) ∧ (D 7 → w2.heap.size ≤ b10) ∧ (D 7 → Arr w' b10 77 z10) ∧ (D 7 → z10.length = 33) ∧ (D 9 → z10 = words 33 T) ∧ (D 6 → D 7 → b9 ≠ b10)) (by kernel_rfl) (by kernel_rfl) ?mono ?start ?step ?done
  case mono =>
    rintro D D' a w' hD ⟨v9, v10, v32, v33, v34, v35, v36, v37, b9, b10, z9, z10, ha, hB, e0, e1, e2, e3, e4, e5, e6, e7, r6, A6, L6, q8, r7, A7, L7, q9, ne⟩
    exact ⟨v9, v10, v32, v33, v34, v35, v36, v37, b9, b10, z9, z10, ha, hB, fun h => e0 ((hD 0).2 h), fun h => e1 ((hD 1).2 h), fun h => e2 ((hD 2).2 h), fun h => e3 ((hD 3).2 h), fun h => e4 ((hD 4).2 h), fun h => e5 ((hD 5).2 h), fun h => e6 ((hD 6).2 h), fun h => e7 ((hD 7).2 h), fun h => r6 ((hD 6).2 h), fun h => A6 ((hD 6).2 h), fun h => L6 ((hD 6).2 h), fun h => q8 ((hD 8).2 h), fun h => r7 ((hD 7).2 h), fun h => A7 ((hD 7).2 h), fun h => L7 ((hD 7).2 h), fun h => q9 ((hD 9).2 h), fun h h' => ne ((hD 6).2 h) ((hD 7).2 h')⟩
  case start => exact ⟨undef, undef, undef, undef, undef, undef, undef, undef, 0, 0, [], [], by kernel_rfl, (Below.refl _ _).drew, fun h => h.elim, fun h => h.elim, fun h => h.elim, fun h => h.elim, fun h => h.elim, fun h => h.elim, fun h => h.elim, fun h => h.elim, fun h => h.elim, fun h => h.elim, fun h => h.elim, fun h => h.elim, fun h => h.elim, fun h => h.elim, fun h => h.elim, fun h => h.elim, fun h => h.elim⟩
  case step =>
    intro i o ho D a w' hI hn hcl hd
    obtain ⟨v9, v10, v32, v33, v34, v35, v36, v37, b9, b10, z9, z10, ha, hB, e0, e1, e2, e3, e4, e5, e6, e7, r6, A6, L6, q8, r7, A7, L7, q9, ne⟩ := hI
    match i, ho with
    | 0, ho =>
      cases Option.some.inj ho
      have ev : a.tmps[2]?.getD undef = .pointer (some ⟨w.heap.size, 0, none⟩) := by rw [ha]; kernel_rfl
      refine wp_load_row 56 (.tmp 2) rfl w.heap.size (eval_of ev) 56 _ _ _ ((hB.block _ c0.lt).trans c0) Tryd.underlying56 rfl (size67 _) ?_
      exact ⟨v9, v10, (.agg (cellsW (words 32 x))), v33, v34, v35, v36, v37, b9, b10, z9, z10, by rw [ha]; kernel_rfl, hB, fun _ => rfl, fun h => e1 (h.resolve_left (by decide)), fun h => e2 (h.resolve_left (by decide)), fun h => e3 (h.resolve_left (by decide)), fun h => e4 (h.resolve_left (by decide)), fun h => e5 (h.resolve_left (by decide)), fun h => e6 (h.resolve_left (by decide)), fun h => e7 (h.resolve_left (by decide)), fun h => r6 (h.resolve_left (by decide)), fun h => A6 (h.resolve_left (by decide)), fun h => L6 (h.resolve_left (by decide)), fun h => q8 (h.resolve_left (by decide)), fun h => r7 (h.resolve_left (by decide)), fun h => A7 (h.resolve_left (by decide)), fun h => L7 (h.resolve_left (by decide)), fun h => q9 (h.resolve_left (by decide)), fun h h' => ne (h.resolve_left (by decide)) (h'.resolve_left (by decide))⟩
    | 1, ho =>
      cases Option.some.inj ho
      have ev : a.tmps[8]?.getD undef = .int .i64 (s : Int) := by rw [ha]; kernel_rfl
      refine wp_value (w' := w') (v := .int .i64 (s : Int)) (by simp [execOp, ev, go_sem]) ?_
      exact ⟨v9, v10, v32, (.int .i64 (s : Int)), v34, v35, v36, v37, b9, b10, z9, z10, by rw [ha]; kernel_rfl, hB, fun h => e0 (h.resolve_left (by decide)), fun _ => rfl, fun h => e2 (h.resolve_left (by decide)), fun h => e3 (h.resolve_left (by decide)), fun h => e4 (h.resolve_left (by decide)), fun h => e5 (h.resolve_left (by decide)), fun h => e6 (h.resolve_left (by decide)), fun h => e7 (h.resolve_left (by decide)), fun h => r6 (h.resolve_left (by decide)), fun h => A6 (h.resolve_left (by decide)), fun h => L6 (h.resolve_left (by decide)), fun h => q8 (h.resolve_left (by decide)), fun h => r7 (h.resolve_left (by decide)), fun h => A7 (h.resolve_left (by decide)), fun h => L7 (h.resolve_left (by decide)), fun h => q9 (h.resolve_left (by decide)), fun h h' => ne (h.resolve_left (by decide)) (h'.resolve_left (by decide))⟩
    | 2, ho =>
      cases Option.some.inj ho
      have ev : a.tmps[32]?.getD undef = .agg (cellsW (words 32 x)) := by rw [ha, e0 (hd ⟨0, .data⟩ (by simp) rfl)]; kernel_rfl
      have ev' : a.tmps[33]?.getD undef = .int .i64 (s : Int) := by rw [ha, e1 (hd ⟨1, .data⟩ (by simp) rfl)]; kernel_rfl
      refine wp_enter (f := 48) (args := #[.agg (cellsW (words 32 x)), .int .i64 (s : Int)]) (by simp [execOp, ev, ev', go_sem]) ?_
      refine (csx w').mono ?_
      rintro e w6 ⟨rfl, HB⟩
      refine ⟨_, rfl, ?_⟩
      exact ⟨v9, v10, v32, v33, (W 33 L), v35, v36, v37, b9, b10, z9, z10, by rw [ha]; kernel_rfl, below_size hB (Nat.le_refl _) HB, fun h => e0 (h.resolve_left (by decide)), fun h => e1 (h.resolve_left (by decide)), fun _ => rfl, fun h => e3 (h.resolve_left (by decide)), fun h => e4 (h.resolve_left (by decide)), fun h => e5 (h.resolve_left (by decide)), fun h => e6 (h.resolve_left (by decide)), fun h => e7 (h.resolve_left (by decide)), fun h => r6 (h.resolve_left (by decide)), fun h => (A6 (h.resolve_left (by decide))).below HB (A6 (h.resolve_left (by decide))).lt, fun h => L6 (h.resolve_left (by decide)), fun h => q8 (h.resolve_left (by decide)), fun h => r7 (h.resolve_left (by decide)), fun h => (A7 (h.resolve_left (by decide))).below HB (A7 (h.resolve_left (by decide))).lt, fun h => L7 (h.resolve_left (by decide)), fun h => q9 (h.resolve_left (by decide)), fun h h' => ne (h.resolve_left (by decide)) (h'.resolve_left (by decide))⟩
    | 3, ho =>
      cases Option.some.inj ho
      have ev : a.tmps[3]?.getD undef = .pointer (some ⟨w.heap.size + 1, 0, none⟩) := by rw [ha]; kernel_rfl
      refine wp_load_row 56 (.tmp 3) rfl (w.heap.size + 1) (eval_of ev) 56 _ _ _ ((hB.block _ c1.lt).trans c1) Tryd.underlying56 rfl (size67 _) ?_
      exact ⟨v9, v10, v32, v33, v34, (.agg (cellsW (words 32 y))), v36, v37, b9, b10, z9, z10, by rw [ha]; kernel_rfl, hB, fun h => e0 (h.resolve_left (by decide)), fun h => e1 (h.resolve_left (by decide)), fun h => e2 (h.resolve_left (by decide)), fun _ => rfl, fun h => e4 (h.resolve_left (by decide)), fun h => e5 (h.resolve_left (by decide)), fun h => e6 (h.resolve_left (by decide)), fun h => e7 (h.resolve_left (by decide)), fun h => r6 (h.resolve_left (by decide)), fun h => A6 (h.resolve_left (by decide)), fun h => L6 (h.resolve_left (by decide)), fun h => q8 (h.resolve_left (by decide)), fun h => r7 (h.resolve_left (by decide)), fun h => A7 (h.resolve_left (by decide)), fun h => L7 (h.resolve_left (by decide)), fun h => q9 (h.resolve_left (by decide)), fun h h' => ne (h.resolve_left (by decide)) (h'.resolve_left (by decide))⟩
    | 4, ho =>
      cases Option.some.inj ho
      have ev : a.tmps[8]?.getD undef = .int .i64 (s : Int) := by rw [ha]; kernel_rfl
      refine wp_value (w' := w') (v := .int .i64 (s : Int)) (by simp [execOp, ev, go_sem]) ?_
      exact ⟨v9, v10, v32, v33, v34, v35, (.int .i64 (s : Int)), v37, b9, b10, z9, z10, by rw [ha]; kernel_rfl, hB, fun h => e0 (h.resolve_left (by decide)), fun h => e1 (h.resolve_left (by decide)), fun h => e2 (h.resolve_left (by decide)), fun h => e3 (h.resolve_left (by decide)), fun _ => rfl, fun h => e5 (h.resolve_left (by decide)), fun h => e6 (h.resolve_left (by decide)), fun h => e7 (h.resolve_left (by decide)), fun h => r6 (h.resolve_left (by decide)), fun h => A6 (h.resolve_left (by decide)), fun h => L6 (h.resolve_left (by decide)), fun h => q8 (h.resolve_left (by decide)), fun h => r7 (h.resolve_left (by decide)), fun h => A7 (h.resolve_left (by decide)), fun h => L7 (h.resolve_left (by decide)), fun h => q9 (h.resolve_left (by decide)), fun h h' => ne (h.resolve_left (by decide)) (h'.resolve_left (by decide))⟩
    | 5, ho =>
      cases Option.some.inj ho
      have ev : a.tmps[35]?.getD undef = .agg (cellsW (words 32 y)) := by rw [ha, e3 (hd ⟨3, .data⟩ (by simp) rfl)]; kernel_rfl
      have ev' : a.tmps[36]?.getD undef = .int .i64 (s : Int) := by rw [ha, e4 (hd ⟨4, .data⟩ (by simp) rfl)]; kernel_rfl
      refine wp_enter (f := 48) (args := #[.agg (cellsW (words 32 y)), .int .i64 (s : Int)]) (by simp [execOp, ev, ev', go_sem]) ?_
      refine (csy w').mono ?_
      rintro e w6 ⟨rfl, HB⟩
      refine ⟨_, rfl, ?_⟩
      exact ⟨v9, v10, v32, v33, v34, v35, v36, (W 33 T), b9, b10, z9, z10, by rw [ha]; kernel_rfl, below_size hB (Nat.le_refl _) HB, fun h => e0 (h.resolve_left (by decide)), fun h => e1 (h.resolve_left (by decide)), fun h => e2 (h.resolve_left (by decide)), fun h => e3 (h.resolve_left (by decide)), fun h => e4 (h.resolve_left (by decide)), fun _ => rfl, fun h => e6 (h.resolve_left (by decide)), fun h => e7 (h.resolve_left (by decide)), fun h => r6 (h.resolve_left (by decide)), fun h => (A6 (h.resolve_left (by decide))).below HB (A6 (h.resolve_left (by decide))).lt, fun h => L6 (h.resolve_left (by decide)), fun h => q8 (h.resolve_left (by decide)), fun h => r7 (h.resolve_left (by decide)), fun h => (A7 (h.resolve_left (by decide))).below HB (A7 (h.resolve_left (by decide))).lt, fun h => L7 (h.resolve_left (by decide)), fun h => q9 (h.resolve_left (by decide)), fun h h' => ne (h.resolve_left (by decide)) (h'.resolve_left (by decide))⟩
    | 6, ho =>
      cases Option.some.inj ho
      refine wp_value (w' := w'.alloc (.cells (cellsW (words 33 0)) 77)) (v := .pointer (some ⟨w'.heap.size, 0, none⟩)) (run_alloc104 a w' rfl) ?_
      exact ⟨(.pointer (some ⟨w'.heap.size, 0, none⟩)), v10, v32, v33, v34, v35, v36, v37, w'.heap.size, b10, (words 33 0), z10, by rw [ha]; kernel_rfl, hB.alloc hB.size _, fun h => e0 (h.resolve_left (by decide)), fun h => e1 (h.resolve_left (by decide)), fun h => e2 (h.resolve_left (by decide)), fun h => e3 (h.resolve_left (by decide)), fun h => e4 (h.resolve_left (by decide)), fun h => e5 (h.resolve_left (by decide)), fun _ => rfl, fun h => e7 (h.resolve_left (by decide)), fun _ => hB.size, fun _ => heap_alloc_new w' _, fun _ => words_len _ _, fun h => absurd (h.resolve_left (by decide)) (fun h => hn (hcl 8 _ rfl h ⟨6, .data⟩ (by simp) rfl)), fun h => r7 (h.resolve_left (by decide)), fun h => (A7 (h.resolve_left (by decide))).alloc _, fun h => L7 (h.resolve_left (by decide)), fun h => q9 (h.resolve_left (by decide)), fun _ h' => Nat.ne_of_gt (A7 (h'.resolve_left (by decide))).lt⟩
    | 7, ho =>
      cases Option.some.inj ho
      refine wp_value (w' := w'.alloc (.cells (cellsW (words 33 0)) 77)) (v := .pointer (some ⟨w'.heap.size, 0, none⟩)) (run_alloc104 a w' rfl) ?_
      exact ⟨v9, (.pointer (some ⟨w'.heap.size, 0, none⟩)), v32, v33, v34, v35, v36, v37, b9, w'.heap.size, z9, (words 33 0), by rw [ha]; kernel_rfl, hB.alloc hB.size _, fun h => e0 (h.resolve_left (by decide)), fun h => e1 (h.resolve_left (by decide)), fun h => e2 (h.resolve_left (by decide)), fun h => e3 (h.resolve_left (by decide)), fun h => e4 (h.resolve_left (by decide)), fun h => e5 (h.resolve_left (by decide)), fun h => e6 (h.resolve_left (by decide)), fun _ => rfl, fun h => r6 (h.resolve_left (by decide)), fun h => (A6 (h.resolve_left (by decide))).alloc _, fun h => L6 (h.resolve_left (by decide)), fun h => q8 (h.resolve_left (by decide)), fun _ => hB.size, fun _ => heap_alloc_new w' _, fun _ => words_len _ _, fun h => absurd (h.resolve_left (by decide)) (fun h => hn (hcl 9 _ rfl h ⟨7, .data⟩ (by simp) rfl)), fun h _ => Nat.ne_of_lt (A6 (h.resolve_left (by decide))).lt⟩
    | 8, ho =>
      cases Option.some.inj ho
      have ev : a.tmps[9]?.getD undef = .pointer (some ⟨b9, 0, none⟩) := by rw [ha, e6 (hd ⟨6, .data⟩ (by simp) rfl)]; kernel_rfl
      have ev' : a.tmps[34]?.getD undef = W 33 L := by rw [ha, e2 (hd ⟨2, .data⟩ (by simp) rfl)]; kernel_rfl
      have A := A6 (hd ⟨6, .data⟩ (by simp) rfl)
      have hr := r6 (hd ⟨6, .data⟩ (by simp) rfl)
      have hl := L6 (hd ⟨6, .data⟩ (by simp) rfl)
      have hne' := fun h => ne (hd ⟨6, .data⟩ (by simp) rfl) h
      refine wp_store_row 77 (.tmp 9) (.tmp 34) rfl b9 (cellsW (words 33 L)) (eval_of ev) (eval_of ev') 77 _ A (size104 _) (by rw [cellsW_size, cellsW_size, words_len, hl]) (cellsW_one _) ?_
      exact ⟨v9, v10, v32, v33, v34, v35, v36, v37, b9, b10, (words 33 L), z10, by rw [ha]; kernel_rfl, below_setRow hB hr _, fun h => e0 (h.resolve_left (by decide)), fun h => e1 (h.resolve_left (by decide)), fun h => e2 (h.resolve_left (by decide)), fun h => e3 (h.resolve_left (by decide)), fun h => e4 (h.resolve_left (by decide)), fun h => e5 (h.resolve_left (by decide)), fun h => e6 (h.resolve_left (by decide)), fun h => e7 (h.resolve_left (by decide)), fun h => r6 (h.resolve_left (by decide)), fun _ => A.setW _, fun _ => words_len _ _, fun _ => rfl, fun h => r7 (h.resolve_left (by decide)), fun h => (A7 (h.resolve_left (by decide))).otherW _ (Ne.symm (hne' (h.resolve_left (by decide)))), fun h => L7 (h.resolve_left (by decide)), fun h => q9 (h.resolve_left (by decide)), fun h h' => ne (h.resolve_left (by decide)) (h'.resolve_left (by decide))⟩
    | 9, ho =>
      cases Option.some.inj ho
      have ev : a.tmps[10]?.getD undef = .pointer (some ⟨b10, 0, none⟩) := by rw [ha, e7 (hd ⟨7, .data⟩ (by simp) rfl)]; kernel_rfl
      have ev' : a.tmps[37]?.getD undef = W 33 T := by rw [ha, e5 (hd ⟨5, .data⟩ (by simp) rfl)]; kernel_rfl
      have A := A7 (hd ⟨7, .data⟩ (by simp) rfl)
      have hr := r7 (hd ⟨7, .data⟩ (by simp) rfl)
      have hl := L7 (hd ⟨7, .data⟩ (by simp) rfl)
      have hne' := fun h => ne h (hd ⟨7, .data⟩ (by simp) rfl)
      refine wp_store_row 77 (.tmp 10) (.tmp 37) rfl b10 (cellsW (words 33 T)) (eval_of ev) (eval_of ev') 77 _ A (size104 _) (by rw [cellsW_size, cellsW_size, words_len, hl]) (cellsW_one _) ?_
      exact ⟨v9, v10, v32, v33, v34, v35, v36, v37, b9, b10, z9, (words 33 T), by rw [ha]; kernel_rfl, below_setRow hB hr _, fun h => e0 (h.resolve_left (by decide)), fun h => e1 (h.resolve_left (by decide)), fun h => e2 (h.resolve_left (by decide)), fun h => e3 (h.resolve_left (by decide)), fun h => e4 (h.resolve_left (by decide)), fun h => e5 (h.resolve_left (by decide)), fun h => e6 (h.resolve_left (by decide)), fun h => e7 (h.resolve_left (by decide)), fun h => r6 (h.resolve_left (by decide)), fun h => (A6 (h.resolve_left (by decide))).otherW _ (hne' (h.resolve_left (by decide))), fun h => L6 (h.resolve_left (by decide)), fun h => q8 (h.resolve_left (by decide)), fun h => r7 (h.resolve_left (by decide)), fun _ => A.setW _, fun _ => words_len _ _, fun _ => rfl, fun h h' => ne (h.resolve_left (by decide)) (h'.resolve_left (by decide))⟩
    | i + 10, ho => simp at ho
  case done =>
    rintro D a w' ⟨v9, v10, v32, v33, v34, v35, v36, v37, b9, b10, z9, z10, ha, hB, e0, e1, e2, e3, e4, e5, e6, e7, r6, A6, L6, q8, r7, A7, L7, q9, ne⟩ hall
    obtain rfl := e6 (hall 6 (by decide))
    obtain rfl := e7 (hall 7 (by decide))
    obtain rfl := q8 (hall 8 (by decide))
    obtain rfl := q9 (hall 9 (by decide))
    have A9 := A6 (hall 6 (by decide))
    have A10 := A7 (hall 7 (by decide))
    have hb9 := r6 (hall 6 (by decide))
    have hb10 := r7 (hall 7 (by decide))
    have hne := ne (hall 6 (by decide)) (hall 7 (by decide))
    clear e0 e1 e2 e3 e4 e5 e6 e7 r6 A6 L6 r7 A7 L7 q8 q9 ne hall csx csy
    replace c2 := c2.below hB c2.lt
    replace c3 := c3.below hB c3.lt
    have hB4 := below_size hB0 (Nat.le_refl _) hB
    have hs2 : w.heap.size + 3 < w2.heap.size := hs2p
    clear hB c0 c1 hB0
    rw [ha]
    clear ha
    simp only [Act.put, List.setIfInBounds_toArray, List.set_cons_zero, List.set_cons_succ]
    have hmax : max ((m : Int) - (n : Int) + 1) 0 = (M : Int) := by omega
    go_wp2
    go_loopw [43] (fun i wr => ∃ k : Nat, k ≤ M ∧ i = .int .i64 ((M - k : Nat) : Int) ∧ Arr wr b9 77 (words 33 (L % (T * 4294967296 ^ k))) ∧ Arr wr b10 77 (words 33 T) ∧ Arr wr (w.heap.size + 2) 56 (mix 32 0 Q k) ∧ Arr wr (w.heap.size + 3) 56 (words 32 0) ∧ Below w.heap.size w wr) (fun i _ => M - (intOf i).toNat)
    case atStart =>
      refine ⟨M, Nat.le_refl _, by rw [Nat.sub_self]; rfl, by rw [hstart.out]; exact A9, A10, ?_, c3, hB4⟩
      rw [mix_end 32 0 Q M (Nat.pow_pos (by decide)) hQM]
      exact c2
    case round =>
      obtain ⟨k, hk, rfl, d9, d10, d2, d3, hBr⟩ := hrel
      clear A9 A10 c2 c3 hB4 hmax
      by_cases hk0 : k = 0
      · subst hk0
        rw [Nat.pow_zero, Nat.mul_one] at d9
        rw [mix_zero] at d2
        have hlt : ¬ ((M - 0 : Nat) : Int) < (M : Int) := by omega
        go_wp2
        refine wp_region_inv' (fun A D a w' => ∃ v63 v64 v65 v66 zr, a = ((((A.put (some 63) v63).put (some 64) v64).put (some 65) v65).put (some 66) v66) ∧ Below w.heap.size w w' ∧ Arr w' (w.heap.size + 2) 56 (words 32 Q) ∧ Arr w' (w.heap.size + 3) 56 zr ∧ Arr w' b9 77 (words 33 (L % T)) ∧ zr.length = 32 ∧ (D 0 → v63 = .agg (cellsW (words 32 Q))) ∧ (D 1 → v64 = .agg (cellsW (words 33 (L % T)))) ∧ (D 2 → v65 = .int .i64 (s : Int)) ∧ (D 3 → v66 = .agg (cellsW (words 32 RR))) ∧ (D 5 → zr = words 32 RR)) (by kernel_rfl) (by kernel_rfl) ?mono ?start ?step ?done
        case mono =>
          rintro D D' a w' hD ⟨v63, v64, v65, v66, zr, ha, gB, g2, g3, g9, gl, e0, e1, e2, e3, z5⟩
          exact ⟨v63, v64, v65, v66, zr, ha, gB, g2, g3, g9, gl, fun h => e0 ((hD 0).2 h), fun h => e1 ((hD 1).2 h), fun h => e2 ((hD 2).2 h), fun h => e3 ((hD 3).2 h), fun h => z5 ((hD 5).2 h)⟩
        case start => exact ⟨undef, undef, undef, undef, _, by kernel_rfl, hBr.drew, d2, d3, d9, words_len _ _, fun h => h.elim, fun h => h.elim, fun h => h.elim, fun h => h.elim, fun h => h.elim⟩
        case step =>
          intro i o ho D a w' hI hn hcl hd
          obtain ⟨v63, v64, v65, v66, zr, ha, gB, g2, g3, g9, gl, e0, e1, e2, e3, z5⟩ := hI
          match i, ho with
          | 0, ho =>
            cases Option.some.inj ho
            have ev : a.tmps[4]?.getD undef = .pointer (some ⟨w.heap.size + 2, 0, none⟩) := by rw [ha]; kernel_rfl
            refine wp_load_row 56 (.tmp 4) rfl (w.heap.size + 2) (eval_of ev) 56 _ _ _ g2 Tryd.underlying56 rfl (size67 _) ?_
            exact ⟨(.agg (cellsW (words 32 Q))), v64, v65, v66, zr, by rw [ha]; kernel_rfl, gB, g2, g3, g9, gl, fun _ => rfl, fun h => e1 (h.resolve_left (by decide)), fun h => e2 (h.resolve_left (by decide)), fun h => e3 (h.resolve_left (by decide)), fun h => z5 (h.resolve_left (by decide))⟩
          | 1, ho =>
            cases Option.some.inj ho
            have ev : a.tmps[9]?.getD undef = .pointer (some ⟨b9, 0, none⟩) := by rw [ha]; kernel_rfl
            refine wp_load_row 77 (.tmp 9) rfl b9 (eval_of ev) 77 _ _ _ g9 Tryd.underlying77 rfl (size104 _) ?_
            exact ⟨v63, (.agg (cellsW (words 33 (L % T)))), v65, v66, zr, by rw [ha]; kernel_rfl, gB, g2, g3, g9, gl, fun h => e0 (h.resolve_left (by decide)), fun _ => rfl, fun h => e2 (h.resolve_left (by decide)), fun h => e3 (h.resolve_left (by decide)), fun h => z5 (h.resolve_left (by decide))⟩
          | 2, ho =>
            cases Option.some.inj ho
            have ev : a.tmps[8]?.getD undef = .int .i64 (s : Int) := by rw [ha]; kernel_rfl
            refine wp_value (w' := w') (v := .int .i64 (s : Int)) (by simp [execOp, ev, go_sem]) ?_
            exact ⟨v63, v64, (.int .i64 (s : Int)), v66, zr, by rw [ha]; kernel_rfl, gB, g2, g3, g9, gl, fun h => e0 (h.resolve_left (by decide)), fun h => e1 (h.resolve_left (by decide)), fun _ => rfl, fun h => e3 (h.resolve_left (by decide)), fun h => z5 (h.resolve_left (by decide))⟩
          | 3, ho =>
            cases Option.some.inj ho
            have ev : a.tmps[64]?.getD undef = .agg (cellsW (words 33 (L % T))) := by rw [ha, e1 (hd ⟨1, .data⟩ (by simp) rfl)]; kernel_rfl
            have ev' : a.tmps[65]?.getD undef = .int .i64 (s : Int) := by rw [ha, e2 (hd ⟨2, .data⟩ (by simp) rfl)]; kernel_rfl
            refine wp_enter (f := 50) (args := #[.agg (cellsW (words 33 (L % T))), .int .i64 (s : Int)]) (by simp [execOp, ev, ev', go_sem]) ?_
            refine (shr_any (L % T) s w' hs32).mono ?_
            rintro e w6 ⟨rfl, HB⟩
            refine ⟨_, rfl, ?_⟩
            rw [Hrest.out]
            exact ⟨v63, v64, v65, (.agg (cellsW (words 32 RR))), zr, by rw [ha]; kernel_rfl, below_size gB (Nat.le_refl _) HB, g2.below HB g2.lt, g3.below HB g3.lt, g9.below HB g9.lt, gl, fun h => e0 (h.resolve_left (by decide)), fun h => e1 (h.resolve_left (by decide)), fun h => e2 (h.resolve_left (by decide)), fun _ => rfl, fun h => z5 (h.resolve_left (by decide))⟩
          | 4, ho =>
            cases Option.some.inj ho
            have ev : a.tmps[4]?.getD undef = .pointer (some ⟨w.heap.size + 2, 0, none⟩) := by rw [ha]; kernel_rfl
            have ev' : a.tmps[63]?.getD undef = .agg (cellsW (words 32 Q)) := by rw [ha, e0 (hd ⟨0, .data⟩ (by simp) rfl)]; kernel_rfl
            refine wp_store_row 56 (.tmp 4) (.tmp 63) rfl (w.heap.size + 2) _ (eval_of ev) (eval_of ev') 56 _ g2 (size67 _) (by rw [cellsW_size]) (cellsW_one _) ?_
            exact ⟨v63, v64, v65, v66, zr, by rw [ha]; kernel_rfl, below_setRow gB (by omega) _, g2.setW _, g3.otherW _ (by omega), g9.otherW _ (by omega), gl, fun h => e0 (h.resolve_left (by decide)), fun h => e1 (h.resolve_left (by decide)), fun h => e2 (h.resolve_left (by decide)), fun h => e3 (h.resolve_left (by decide)), fun h => z5 (h.resolve_left (by decide))⟩
          | 5, ho =>
            cases Option.some.inj ho
            have ev : a.tmps[5]?.getD undef = .pointer (some ⟨w.heap.size + 3, 0, none⟩) := by rw [ha]; kernel_rfl
            have ev' : a.tmps[66]?.getD undef = .agg (cellsW (words 32 RR)) := by rw [ha, e3 (hd ⟨3, .data⟩ (by simp) rfl)]; kernel_rfl
            refine wp_store_row 56 (.tmp 5) (.tmp 66) rfl (w.heap.size + 3) _ (eval_of ev) (eval_of ev') 56 _ g3 (size67 _) (by rw [cellsW_size, cellsW_size, words_len, gl]) (cellsW_one _) ?_
            exact ⟨v63, v64, v65, v66, (words 32 RR), by rw [ha]; kernel_rfl, below_setRow gB (by omega) _, g2.otherW _ (by omega), g3.setW _, g9.otherW _ (by omega), words_len _ _, fun h => e0 (h.resolve_left (by decide)), fun h => e1 (h.resolve_left (by decide)), fun h => e2 (h.resolve_left (by decide)), fun h => e3 (h.resolve_left (by decide)), fun _ => rfl⟩
          | i + 6, ho => simp at ho
        case done =>
          rintro D a w' ⟨v63, v64, v65, v66, zr, ha, gB, g2, g3, g9, gl, e0, e1, e2, e3, z5⟩ hall
          have hz := z5 (hall 5 (by decide))
          subst hz
          clear e0 e1 e2 e3 z5 hall
          rw [ha]
          clear ha
          simp only [Act.put, List.setIfInBounds_toArray, List.set_cons_zero, List.set_cons_succ]
          go_wp2
          exact bodyPost_ret (v := .tuple #[.agg (cellsW (words 32 Q)), .agg (cellsW (words 32 RR))]) (results_cells2 (p := 4) (p' := 5) (by rfl) _ _ (w.heap.size + 2) (w.heap.size + 3) rfl rfl g2 g3) rfl ⟨rfl, gB⟩
      · obtain ⟨p, rfl⟩ : ∃ p, k = p + 1 := ⟨k - 1, by omega⟩
        rw [Nat.pow_succ] at d9
        have hlt : ((M - (p + 1) : Nat) : Int) < (M : Int) := by omega
        have hat : (m : Int) - (n : Int) - ((M - (p + 1) : Nat) : Int) = (p : Int) := by omega
        have hp33 : p + (n2 + 3) ≤ 33 := by have := Hnn.out; omega
        have hp32 : (p : Int) < 32 := by omega
        obtain ⟨pn, hpn'⟩ : ∃ k, p + n = k := ⟨_, rfl⟩
        obtain ⟨pe, hpe'⟩ : ∃ k, pn + 1 = k := ⟨_, rfl⟩
        have hpn : (p : Int) + (n : Int) = (pn : Int) := by omega
        have hpe : (pn : Int) + 1 = (pe : Int) := by omega
        have hwpn : IntKind.i64.wrap (pn : Int) = (pn : Int) := by rw [IntKind.wrap_i64]; omega
        have hwpe : IntKind.i64.wrap (pe : Int) = (pe : Int) := by rw [IntKind.wrap_i64]; omega
        have hpart : ∀ w, (Instr.sliceAt 77 (.pointer (some ⟨b9, 0, none⟩)) (some (.int .i64 (p : Int))) (some (.int .i64 (pe : Int))) none).run Tryd.prog w = .ok (.slice (some ⟨b9, p, none⟩) (n2 + 2 + 1) (33 - p)) w := fun w => by
          rw [show pe = p + (n2 + 2 + 1) by have := Hnn.out; omega]
          exact run_part104 b9 p (n2 + 2 + 1) (by omega) (by omega) w
        have hup : ∀ w, (Instr.sliceAt 77 (.pointer (some ⟨b10, 0, none⟩)) none (some (.int .i64 (n : Int))) none).run Tryd.prog w = .ok (.slice (some ⟨b10, 0, none⟩) (n2 + 2) 33) w := fun w => by
          rw [Hnn.out]
          exact run_upto104 ⟨b10, 0, none⟩ (n2 + 2) (by omega) w
        obtain ⟨dg, Hdg⟩ : ∃ d, Hid (Q / 4294967296 ^ p % 4294967296 = d) := ⟨_, rfl⟩
        have hmix : (mix 32 0 Q (p + 1)).set p (dg : Int) = mix 32 0 Q p := by rw [← Hdg.out]; exact mix_down 32 0 Q p (by omega)
        go_wp2
        refine wp_region_inv' (fun A D a w' => ∃ v51 v52 v53 v54 v55 v56 v57 v58 v59 v60 v61 zq V9, a = (((((((((((A.put (some 51) v51).put (some 52) v52).put (some 53) v53).put (some 54) v54).put (some 55) v55).put (some 56) v56).put (some 57) v57).put (some 58) v58).put (some 59) v59).put (some 60) v60).put (some 61) v61) ∧ Below w.heap.size w w' ∧ Arr w' b10 77 (words 33 T) ∧ Arr w' (w.heap.size + 2) 56 zq ∧ Arr w' (w.heap.size + 3) 56 (words 32 0) ∧ Arr w' b9 77 (words 33 V9) ∧ (D 9 ∨ V9 = L % (T * (4294967296 ^ p * 4294967296))) ∧ (D 11 ∨ zq = mix 32 0 Q (p + 1)) ∧ (D 0 → v51 = .int .i64 (p : Int)) ∧ (D 1 → v52 = .int .i64 (p : Int)) ∧ (D 2 → v53 = .int .i64 (p : Int)) ∧ (D 3 → v54 = .int .i64 (n : Int)) ∧ (D 4 → v55 = .int .i64 (pn : Int)) ∧ (D 5 → v56 = .int .i64 (pe : Int)) ∧ (D 6 → v57 = .slice (some ⟨b9, p, none⟩) (n2 + 2 + 1) (33 - p)) ∧ (D 7 → v58 = .int .i64 (n : Int)) ∧ (D 8 → v59 = .slice (some ⟨b10, 0, none⟩) (n2 + 2) 33) ∧ (D 9 → v60 = .int .u32 (dg : Int)) ∧ (D 10 → v61 = .pointer (some ⟨w.heap.size + 2, p, none⟩)) ∧ (D 9 → V9 = L % (T * 4294967296 ^ p)) ∧ (D 11 → zq = mix 32 0 Q p)) (by kernel_rfl) (by kernel_rfl) ?mono ?start ?step ?done
        case mono =>
          rintro D D' a w' hD ⟨v51, v52, v53, v54, v55, v56, v57, v58, v59, v60, v61, zq, V9, ha, gB, g10, g2, g3, g9, o9, zold, e0, e1, e2, e3, e4, e5, e6, e7, e8, e9, e10, v9, z11⟩
          exact ⟨v51, v52, v53, v54, v55, v56, v57, v58, v59, v60, v61, zq, V9, ha, gB, g10, g2, g3, g9, o9.imp_left (hD 9).1, zold.imp_left (hD 11).1, fun h => e0 ((hD 0).2 h), fun h => e1 ((hD 1).2 h), fun h => e2 ((hD 2).2 h), fun h => e3 ((hD 3).2 h), fun h => e4 ((hD 4).2 h), fun h => e5 ((hD 5).2 h), fun h => e6 ((hD 6).2 h), fun h => e7 ((hD 7).2 h), fun h => e8 ((hD 8).2 h), fun h => e9 ((hD 9).2 h), fun h => e10 ((hD 10).2 h), fun h => v9 ((hD 9).2 h), fun h => z11 ((hD 11).2 h)⟩
        case start => exact ⟨u51, u52, u53, u54, u55, u56, u57, u58, u59, u60, u61, _, _, by kernel_rfl, hBr.drew, d10, d2, d3, d9, .inr rfl, .inr rfl, fun h => h.elim, fun h => h.elim, fun h => h.elim, fun h => h.elim, fun h => h.elim, fun h => h.elim, fun h => h.elim, fun h => h.elim, fun h => h.elim, fun h => h.elim, fun h => h.elim, fun h => h.elim, fun h => h.elim⟩
        case step =>
          intro i o ho D a w' hI hn hcl hd
          obtain ⟨v51, v52, v53, v54, v55, v56, v57, v58, v59, v60, v61, zq, V9, ha, gB, g10, g2, g3, g9, o9, zold, e0, e1, e2, e3, e4, e5, e6, e7, e8, e9, e10, v9, z11⟩ := hI
          match i, ho with
          | 0, ho =>
            cases Option.some.inj ho
            have ev : a.tmps[12]?.getD undef = .int .i64 (p : Int) := by rw [ha]; kernel_rfl
            refine wp_value (w' := w') (v := .int .i64 (p : Int)) (by simp [execOp, ev, go_sem]) ?_
            exact ⟨(.int .i64 (p : Int)), v52, v53, v54, v55, v56, v57, v58, v59, v60, v61, zq, V9, by rw [ha]; kernel_rfl, gB, g10, g2, g3, g9, o9.imp_left .inr, zold.imp_left .inr, fun _ => rfl, fun h => e1 (h.resolve_left (by decide)), fun h => e2 (h.resolve_left (by decide)), fun h => e3 (h.resolve_left (by decide)), fun h => e4 (h.resolve_left (by decide)), fun h => e5 (h.resolve_left (by decide)), fun h => e6 (h.resolve_left (by decide)), fun h => e7 (h.resolve_left (by decide)), fun h => e8 (h.resolve_left (by decide)), fun h => e9 (h.resolve_left (by decide)), fun h => e10 (h.resolve_left (by decide)), fun h => v9 (h.resolve_left (by decide)), fun h => z11 (h.resolve_left (by decide))⟩
          | 1, ho =>
            cases Option.some.inj ho
            have ev : a.tmps[12]?.getD undef = .int .i64 (p : Int) := by rw [ha]; kernel_rfl
            refine wp_value (w' := w') (v := .int .i64 (p : Int)) (by simp [execOp, ev, go_sem]) ?_
            exact ⟨v51, (.int .i64 (p : Int)), v53, v54, v55, v56, v57, v58, v59, v60, v61, zq, V9, by rw [ha]; kernel_rfl, gB, g10, g2, g3, g9, o9.imp_left .inr, zold.imp_left .inr, fun h => e0 (h.resolve_left (by decide)), fun _ => rfl, fun h => e2 (h.resolve_left (by decide)), fun h => e3 (h.resolve_left (by decide)), fun h => e4 (h.resolve_left (by decide)), fun h => e5 (h.resolve_left (by decide)), fun h => e6 (h.resolve_left (by decide)), fun h => e7 (h.resolve_left (by decide)), fun h => e8 (h.resolve_left (by decide)), fun h => e9 (h.resolve_left (by decide)), fun h => e10 (h.resolve_left (by decide)), fun h => v9 (h.resolve_left (by decide)), fun h => z11 (h.resolve_left (by decide))⟩
          | 2, ho =>
            cases Option.some.inj ho
            have ev : a.tmps[12]?.getD undef = .int .i64 (p : Int) := by rw [ha]; kernel_rfl
            refine wp_value (w' := w') (v := .int .i64 (p : Int)) (by simp [execOp, ev, go_sem]) ?_
            exact ⟨v51, v52, (.int .i64 (p : Int)), v54, v55, v56, v57, v58, v59, v60, v61, zq, V9, by rw [ha]; kernel_rfl, gB, g10, g2, g3, g9, o9.imp_left .inr, zold.imp_left .inr, fun h => e0 (h.resolve_left (by decide)), fun h => e1 (h.resolve_left (by decide)), fun _ => rfl, fun h => e3 (h.resolve_left (by decide)), fun h => e4 (h.resolve_left (by decide)), fun h => e5 (h.resolve_left (by decide)), fun h => e6 (h.resolve_left (by decide)), fun h => e7 (h.resolve_left (by decide)), fun h => e8 (h.resolve_left (by decide)), fun h => e9 (h.resolve_left (by decide)), fun h => e10 (h.resolve_left (by decide)), fun h => v9 (h.resolve_left (by decide)), fun h => z11 (h.resolve_left (by decide))⟩
          | 3, ho =>
            cases Option.some.inj ho
            have ev : a.tmps[6]?.getD undef = .int .i64 (n : Int) := by rw [ha]; kernel_rfl
            refine wp_value (w' := w') (v := .int .i64 (n : Int)) (by simp [execOp, ev, go_sem]) ?_
            exact ⟨v51, v52, v53, (.int .i64 (n : Int)), v55, v56, v57, v58, v59, v60, v61, zq, V9, by rw [ha]; kernel_rfl, gB, g10, g2, g3, g9, o9.imp_left .inr, zold.imp_left .inr, fun h => e0 (h.resolve_left (by decide)), fun h => e1 (h.resolve_left (by decide)), fun h => e2 (h.resolve_left (by decide)), fun _ => rfl, fun h => e4 (h.resolve_left (by decide)), fun h => e5 (h.resolve_left (by decide)), fun h => e6 (h.resolve_left (by decide)), fun h => e7 (h.resolve_left (by decide)), fun h => e8 (h.resolve_left (by decide)), fun h => e9 (h.resolve_left (by decide)), fun h => e10 (h.resolve_left (by decide)), fun h => v9 (h.resolve_left (by decide)), fun h => z11 (h.resolve_left (by decide))⟩
          | 4, ho =>
            cases Option.some.inj ho
            have ev : a.tmps[53]?.getD undef = .int .i64 (p : Int) := by rw [ha, e2 (hd ⟨2, .data⟩ (by simp) rfl)]; kernel_rfl
            have ev' : a.tmps[54]?.getD undef = .int .i64 (n : Int) := by rw [ha, e3 (hd ⟨3, .data⟩ (by simp) rfl)]; kernel_rfl
            refine wp_value (w' := w') (v := .int .i64 (pn : Int)) (by simp [execOp, ev, ev', go_sem, hpn, hwpn]) ?_
            exact ⟨v51, v52, v53, v54, (.int .i64 (pn : Int)), v56, v57, v58, v59, v60, v61, zq, V9, by rw [ha]; kernel_rfl, gB, g10, g2, g3, g9, o9.imp_left .inr, zold.imp_left .inr, fun h => e0 (h.resolve_left (by decide)), fun h => e1 (h.resolve_left (by decide)), fun h => e2 (h.resolve_left (by decide)), fun h => e3 (h.resolve_left (by decide)), fun _ => rfl, fun h => e5 (h.resolve_left (by decide)), fun h => e6 (h.resolve_left (by decide)), fun h => e7 (h.resolve_left (by decide)), fun h => e8 (h.resolve_left (by decide)), fun h => e9 (h.resolve_left (by decide)), fun h => e10 (h.resolve_left (by decide)), fun h => v9 (h.resolve_left (by decide)), fun h => z11 (h.resolve_left (by decide))⟩
          | 5, ho =>
            cases Option.some.inj ho
            have ev : a.tmps[55]?.getD undef = .int .i64 (pn : Int) := by rw [ha, e4 (hd ⟨4, .data⟩ (by simp) rfl)]; kernel_rfl
            refine wp_value (w' := w') (v := .int .i64 (pe : Int)) (by simp [execOp, ev, go_sem, hpe, hwpe]) ?_
            exact ⟨v51, v52, v53, v54, v55, (.int .i64 (pe : Int)), v57, v58, v59, v60, v61, zq, V9, by rw [ha]; kernel_rfl, gB, g10, g2, g3, g9, o9.imp_left .inr, zold.imp_left .inr, fun h => e0 (h.resolve_left (by decide)), fun h => e1 (h.resolve_left (by decide)), fun h => e2 (h.resolve_left (by decide)), fun h => e3 (h.resolve_left (by decide)), fun h => e4 (h.resolve_left (by decide)), fun _ => rfl, fun h => e6 (h.resolve_left (by decide)), fun h => e7 (h.resolve_left (by decide)), fun h => e8 (h.resolve_left (by decide)), fun h => e9 (h.resolve_left (by decide)), fun h => e10 (h.resolve_left (by decide)), fun h => v9 (h.resolve_left (by decide)), fun h => z11 (h.resolve_left (by decide))⟩
          | 6, ho =>
            cases Option.some.inj ho
            have ev : a.tmps[9]?.getD undef = .pointer (some ⟨b9, 0, none⟩) := by rw [ha]; kernel_rfl
            have ev' : a.tmps[52]?.getD undef = .int .i64 (p : Int) := by rw [ha, e1 (hd ⟨1, .data⟩ (by simp) rfl)]; kernel_rfl
            have ev'' : a.tmps[56]?.getD undef = .int .i64 (pe : Int) := by rw [ha, e5 (hd ⟨5, .data⟩ (by simp) rfl)]; kernel_rfl
            refine wp_value (w' := w') (v := .slice (some ⟨b9, p, none⟩) (n2 + 2 + 1) (33 - p)) (by simp [execOp, ev, ev', ev'', go_sem, hpart w']) ?_
            exact ⟨v51, v52, v53, v54, v55, v56, (.slice (some ⟨b9, p, none⟩) (n2 + 2 + 1) (33 - p)), v58, v59, v60, v61, zq, V9, by rw [ha]; kernel_rfl, gB, g10, g2, g3, g9, o9.imp_left .inr, zold.imp_left .inr, fun h => e0 (h.resolve_left (by decide)), fun h => e1 (h.resolve_left (by decide)), fun h => e2 (h.resolve_left (by decide)), fun h => e3 (h.resolve_left (by decide)), fun h => e4 (h.resolve_left (by decide)), fun h => e5 (h.resolve_left (by decide)), fun _ => rfl, fun h => e7 (h.resolve_left (by decide)), fun h => e8 (h.resolve_left (by decide)), fun h => e9 (h.resolve_left (by decide)), fun h => e10 (h.resolve_left (by decide)), fun h => v9 (h.resolve_left (by decide)), fun h => z11 (h.resolve_left (by decide))⟩
          | 7, ho =>
            cases Option.some.inj ho
            have ev : a.tmps[6]?.getD undef = .int .i64 (n : Int) := by rw [ha]; kernel_rfl
            refine wp_value (w' := w') (v := .int .i64 (n : Int)) (by simp [execOp, ev, go_sem]) ?_
            exact ⟨v51, v52, v53, v54, v55, v56, v57, (.int .i64 (n : Int)), v59, v60, v61, zq, V9, by rw [ha]; kernel_rfl, gB, g10, g2, g3, g9, o9.imp_left .inr, zold.imp_left .inr, fun h => e0 (h.resolve_left (by decide)), fun h => e1 (h.resolve_left (by decide)), fun h => e2 (h.resolve_left (by decide)), fun h => e3 (h.resolve_left (by decide)), fun h => e4 (h.resolve_left (by decide)), fun h => e5 (h.resolve_left (by decide)), fun h => e6 (h.resolve_left (by decide)), fun _ => rfl, fun h => e8 (h.resolve_left (by decide)), fun h => e9 (h.resolve_left (by decide)), fun h => e10 (h.resolve_left (by decide)), fun h => v9 (h.resolve_left (by decide)), fun h => z11 (h.resolve_left (by decide))⟩
          | 8, ho =>
            cases Option.some.inj ho
            have ev : a.tmps[10]?.getD undef = .pointer (some ⟨b10, 0, none⟩) := by rw [ha]; kernel_rfl
            have ev' : a.tmps[58]?.getD undef = .int .i64 (n : Int) := by rw [ha, e7 (hd ⟨7, .data⟩ (by simp) rfl)]; kernel_rfl
            refine wp_value (w' := w') (v := .slice (some ⟨b10, 0, none⟩) (n2 + 2) 33) (by simp [execOp, ev, ev', go_sem, hup w']) ?_
            exact ⟨v51, v52, v53, v54, v55, v56, v57, v58, (.slice (some ⟨b10, 0, none⟩) (n2 + 2) 33), v60, v61, zq, V9, by rw [ha]; kernel_rfl, gB, g10, g2, g3, g9, o9.imp_left .inr, zold.imp_left .inr, fun h => e0 (h.resolve_left (by decide)), fun h => e1 (h.resolve_left (by decide)), fun h => e2 (h.resolve_left (by decide)), fun h => e3 (h.resolve_left (by decide)), fun h => e4 (h.resolve_left (by decide)), fun h => e5 (h.resolve_left (by decide)), fun h => e6 (h.resolve_left (by decide)), fun h => e7 (h.resolve_left (by decide)), fun _ => rfl, fun h => e9 (h.resolve_left (by decide)), fun h => e10 (h.resolve_left (by decide)), fun h => v9 (h.resolve_left (by decide)), fun h => z11 (h.resolve_left (by decide))⟩
          | 9, ho =>
            cases Option.some.inj ho
            have ev : a.tmps[57]?.getD undef = .slice (some ⟨b9, p, none⟩) (n2 + 2 + 1) (33 - p) := by rw [ha, e6 (hd ⟨6, .data⟩ (by simp) rfl)]; kernel_rfl
            have ev' : a.tmps[59]?.getD undef = .slice (some ⟨b10, 0, none⟩) (n2 + 2) 33 := by rw [ha, e8 (hd ⟨8, .data⟩ (by simp) rfl)]; kernel_rfl
            have nq11 : ¬ D 11 := fun h => hn (hcl 11 _ rfl h ⟨9, .data⟩ (by simp) rfl)
            have hV := o9.resolve_left hn
            subst hV
            refine wp_enter (f := 49) (args := #[.slice (some ⟨b9, p, none⟩) (n2 + 2 + 1) (33 - p), .slice (some ⟨b10, 0, none⟩) (n2 + 2) 33]) (by simp [execOp, ev, ev', go_sem]) ?_
            refine (qdigit_at b9 b10 n2 p L T w' g9 g10 hne hp33 k1 k2).mono ?_
            rintro e w6 ⟨rfl, nA, nM⟩
            refine ⟨_, rfl, ?_⟩
            rw [HdivL.out, Hdg.out]
            exact ⟨v51, v52, v53, v54, v55, v56, v57, v58, v59, (.int .u32 (dg : Int)), v61, zq, (L % (T * 4294967296 ^ p)), by rw [ha]; kernel_rfl, gB.trans (nM.below _ (by omega) gB.size), g10.mostly nM hne.symm, g2.mostly nM (by omega), g3.mostly nM (by omega), nA, .inl (.inl rfl), zold.imp_left .inr, fun h => e0 (h.resolve_left (by decide)), fun h => e1 (h.resolve_left (by decide)), fun h => e2 (h.resolve_left (by decide)), fun h => e3 (h.resolve_left (by decide)), fun h => e4 (h.resolve_left (by decide)), fun h => e5 (h.resolve_left (by decide)), fun h => e6 (h.resolve_left (by decide)), fun h => e7 (h.resolve_left (by decide)), fun h => e8 (h.resolve_left (by decide)), fun _ => rfl, fun h => e10 (h.resolve_left (by decide)), fun _ => rfl, fun h => z11 (h.resolve_left (by decide))⟩
          | 10, ho =>
            cases Option.some.inj ho
            have ev : a.tmps[4]?.getD undef = .pointer (some ⟨w.heap.size + 2, 0, none⟩) := by rw [ha]; kernel_rfl
            have ev' : a.tmps[51]?.getD undef = .int .i64 (p : Int) := by rw [ha, e0 (hd ⟨0, .data⟩ (by simp) rfl)]; kernel_rfl
            refine wp_value (w' := w') (v := .pointer (some ⟨w.heap.size + 2, p, none⟩)) (by simp [execOp, ev, ev', go_sem, hp32]) ?_
            exact ⟨v51, v52, v53, v54, v55, v56, v57, v58, v59, v60, (.pointer (some ⟨w.heap.size + 2, p, none⟩)), zq, V9, by rw [ha]; kernel_rfl, gB, g10, g2, g3, g9, o9.imp_left .inr, zold.imp_left .inr, fun h => e0 (h.resolve_left (by decide)), fun h => e1 (h.resolve_left (by decide)), fun h => e2 (h.resolve_left (by decide)), fun h => e3 (h.resolve_left (by decide)), fun h => e4 (h.resolve_left (by decide)), fun h => e5 (h.resolve_left (by decide)), fun h => e6 (h.resolve_left (by decide)), fun h => e7 (h.resolve_left (by decide)), fun h => e8 (h.resolve_left (by decide)), fun h => e9 (h.resolve_left (by decide)), fun _ => rfl, fun h => v9 (h.resolve_left (by decide)), fun h => z11 (h.resolve_left (by decide))⟩
          | 11, ho =>
            cases Option.some.inj ho
            have ev : a.tmps[61]?.getD undef = .pointer (some ⟨w.heap.size + 2, p, none⟩) := by rw [ha, e10 (hd ⟨10, .data⟩ (by simp) rfl)]; kernel_rfl
            have ev' : a.tmps[60]?.getD undef = .int .u32 (dg : Int) := by rw [ha, e9 (hd ⟨9, .data⟩ (by simp) rfl)]; kernel_rfl
            have hzq := zold.resolve_left hn
            subst hzq
            have hc := g2.cell p (by rw [mix_len]; omega)
            have hf := g2.frozen p
            have hset := g2.set p (dg : Int)
            rw [hmix] at hset
            refine wp_skip (w' := w'.setCell ⟨w.heap.size + 2, p, none⟩ (.int .u32 (dg : Int))) (by simp [execOp, ev, ev', go_sem, hc, hf]) ?_
            exact ⟨v51, v52, v53, v54, v55, v56, v57, v58, v59, v60, v61, (mix 32 0 Q p), V9, by rw [ha]; kernel_rfl, gB.setCell (by simp) _, g10.other (by omega), hset, g3.other (by omega), g9.other (by omega), o9.imp_left .inr, .inl (.inl rfl), fun h => e0 (h.resolve_left (by decide)), fun h => e1 (h.resolve_left (by decide)), fun h => e2 (h.resolve_left (by decide)), fun h => e3 (h.resolve_left (by decide)), fun h => e4 (h.resolve_left (by decide)), fun h => e5 (h.resolve_left (by decide)), fun h => e6 (h.resolve_left (by decide)), fun h => e7 (h.resolve_left (by decide)), fun h => e8 (h.resolve_left (by decide)), fun h => e9 (h.resolve_left (by decide)), fun h => e10 (h.resolve_left (by decide)), fun h => v9 (h.resolve_left (by decide)), fun _ => rfl⟩
          | i + 12, ho => simp at ho
        case done =>
          rintro D a w' ⟨v51, v52, v53, v54, v55, v56, v57, v58, v59, v60, v61, zq, V9, ha, gB, g10, g2, g3, g9, o9, zold, e0, e1, e2, e3, e4, e5, e6, e7, e8, e9, e10, v9, z11⟩ hall
          have hV := v9 (hall 9 (by decide))
          have hz := z11 (hall 11 (by decide))
          subst hV hz
          clear e0 e1 e2 e3 e4 e5 e6 e7 e8 e9 e10 v9 z11 hall o9 zold d9 d10 d2 d3
          rw [ha]
          clear ha
          simp only [Act.put, List.setIfInBounds_toArray, List.set_cons_zero, List.set_cons_succ]
          go_wp2
          go_roundw
          case rel => exact ⟨p, by omega, by rw [show ((M - p : Nat) : Int) = ((M - (p + 1) : Nat) : Int) + 1 by omega], g9, g10, g2, g3, gB⟩
          case measure => simp [intOf]; omega
end Go.Proofs.YtgammgdckneoiacDoor
