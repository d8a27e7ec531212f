/- takeAway and putBack: a number's words taken from, and put back to, some words of an array. -/
import Derived.Test.YtgammgdckneoiacDoorDiff
import Derived.Test.YtgammgdckneoiacDoorKMath
namespace Go.Proofs.YtgammgdckneoiacDoor
open Go.RowKit

/-- Words in the midst of an array. -/
theorem mid_cell {w : World} {b t : Nat} {lo mi hi : List Int} (h : Arr w b t (lo ++ (mi ++ hi))) (i : Nat) (hi' : i < mi.length) : w.cell? ⟨b, lo.length + i, none⟩ = some (.int .u32 (mi.getD i 0)) := by
  rw [h.cell (lo.length + i) (by simp; omega)]
  congr 2
  simp [List.getElem?_append, show ¬ lo.length + i < lo.length by omega, hi']
theorem mid_set (lo mi hi : List Int) (i : Nat) (v : Int) (h : i < mi.length) : (lo ++ (mi ++ hi)).set (lo.length + i) v = lo ++ (mi.set i v ++ hi) := by
  rw [List.set_append_right _ _ (by omega), show lo.length + i - lo.length = i by omega, List.set_append_left _ _ h]
/-- What U less D is, in so many words. -/
theorem hat_word (U D n k : Nat) (hk : k < n) (hU : U < 4294967296 ^ n) (hD : D < 4294967296 ^ n) :
    (((U + 4294967296 ^ n - D) / 4294967296 ^ k % 4294967296 : Nat) : Int) = (((U / 4294967296 ^ k % 4294967296 : Nat) : Int) - ((D / 4294967296 ^ k % 4294967296 : Nat) : Int) - ((lend (4294967296 ^ k) U D : Nat) : Int)) % 4294967296 := by
  have hP : 0 < 4294967296 ^ k := Nat.pow_pos (by decide)
  rw [sub_word (4294967296 ^ k) (U + 4294967296 ^ n) D hP (by omega)]
  obtain ⟨m, rfl⟩ : ∃ m, n = k + 1 + m := ⟨n - (k + 1), by omega⟩
  have e : 4294967296 ^ (k + 1 + m) = 4294967296 ^ m * 4294967296 * 4294967296 ^ k := by
    rw [Nat.pow_add, Nat.pow_succ, Nat.mul_comm (4294967296 ^ k * 4294967296), Nat.mul_comm (4294967296 ^ k), ← Nat.mul_assoc]
  have e1 : (U + 4294967296 ^ (k + 1 + m)) / 4294967296 ^ k % 4294967296 = U / 4294967296 ^ k % 4294967296 := by
    rw [e, Nat.add_mul_div_right _ _ hP, Nat.add_mul_mod_self_right]
  have e2 : lend (4294967296 ^ k) (U + 4294967296 ^ (k + 1 + m)) D = lend (4294967296 ^ k) U D := by
    unfold lend
    rw [e, Nat.add_mul_mod_self_right]
  rw [e1, e2]

theorem words_getD' (n a i : Nat) (h : i < n) : (words n a).getD i 0 = ((a / 4294967296 ^ i % 4294967296 : Nat) : Int) := by
  rw [List.getD_eq_getElem?_getD, words_get _ _ _ h]; rfl

set_option maxRecDepth 100000 in
set_option maxHeartbeats 4000000 in
theorem take_any (b tt bt ct ct2 n c1 U D0 q : Nat) (lo hi rest : List Int) (w : World) (hx : Arr w b tt (lo ++ (words (n + 1) U ++ hi))) (hy : Arr w bt ct (words n D0 ++ rest)) (hne : b ≠ bt) (hn : n ≤ 1000) (hc1 : n + 1 ≤ c1) (hU : U < 4294967296 ^ (n + 1)) (hD : D0 < 4294967296 ^ n) (hq : q < 4294967296) :
    Calls Tryd.prog 58 #[.slice (some ⟨b, lo.length, none⟩) (n + 1) c1, .slice (some ⟨bt, 0, none⟩) n ct2, .int .u32 (q : Int)] w fun e w' => e = .returned (.bool (decide (U < D0 * q))) ∧ w' = w.setRow b (cellsW (lo ++ (words (n + 1) (U + 4294967296 ^ (n + 1) - D0 * q) ++ hi))) := by
  have hDq : D0 * q < 4294967296 ^ (n + 1) := by
    rw [Nat.pow_succ]
    exact Nat.lt_of_le_of_lt (Nat.mul_le_mul_left _ (Nat.le_of_lt hq)) (Nat.mul_lt_mul_of_pos_right hD (by decide))
  obtain ⟨G, HG⟩ : ∃ G, Hid (U + 4294967296 ^ (n + 1) - D0 * q = G) := ⟨_, rfl⟩
  rw [HG.out]
  go_enter Tryd.func58, Tryd.ntmps58
  go_wp2
  go_loopw [16, 8, 9] (fun i c l wr => ∃ k : Nat, k ≤ n ∧ i = .int .i64 k ∧ c = .int .u64 (((D0 % 4294967296 ^ k * q + 0) / 4294967296 ^ k : Nat) : Int) ∧ l = .int .u64 ((lend (4294967296 ^ k) U (D0 * q) : Nat) : Int) ∧ wr = w.setRow b (cellsW (lo ++ (mix (n + 1) G U k ++ hi)))) (fun i _ _ _ => n - (intOf i).toNat)
  case atStart =>
    refine ⟨0, Nat.zero_le _, rfl, by simp [Nat.mod_one], by simp [lend, Nat.mod_one], ?_⟩
    rw [mix_zero]; exact hx.setW_self.symm
  case round =>
    obtain ⟨k, hk, rfl, rfl, rfl, rfl⟩ := hrel
    have hA := hx.setW (lo ++ (mix (n + 1) G U k ++ hi))
    have hY := hy.otherW (cellsW (lo ++ (mix (n + 1) G U k ++ hi))) hne.symm
    have hP : 0 < 4294967296 ^ k := Nat.pow_pos (by decide)
    have hc32 := mul_carry_lt (4294967296 ^ k) D0 q 0 hP hq (by decide)
    have hL := lend_le (4294967296 ^ k) U (D0 * q)
    have hcx := mid_cell hA k (by rw [mix_len]; omega)
    have hf := hA.frozen (lo.length + k)
    rw [mix_getD _ _ _ _ _ (by omega), if_neg (Nat.lt_irrefl _)] at hcx
    have ew := hat_word U (D0 * q) (n + 1) k (by omega) hU hDq
    rw [HG.out] at ew
    have el := lend_step (4294967296 ^ k) U (D0 * q) hP
    rw [← Nat.pow_succ] at el
    have hm := mul_word (4294967296 ^ k) D0 q 0 hP
    rw [Nat.add_zero] at hm
    obtain ⟨X, hX⟩ : ∃ X, U / 4294967296 ^ k % 4294967296 = X := ⟨_, rfl⟩
    have hX32 : X < 4294967296 := by rw [← hX]; exact Nat.mod_lt _ (by decide)
    obtain ⟨L, hLe⟩ : ∃ L, lend (4294967296 ^ k) U (D0 * q) = L := ⟨_, rfl⟩
    obtain ⟨C, hC⟩ : ∃ C, (D0 % 4294967296 ^ k * q + 0) / 4294967296 ^ k = C := ⟨_, rfl⟩
    rw [hX] at hcx ew el
    rw [hLe] at ew el hL ⊢
    rw [hC] at hm hc32 ⊢
    by_cases hlt : k < n
    · have hltI : (k : Int) < (n : Int) := by omega
      have hcy := hY.cell k (by rw [List.length_append, words_len]; omega)
      rw [app_getD _ _ _ (by rw [words_len]; exact hlt), words_getD' _ _ _ hlt] at hcy
      obtain ⟨d, hd⟩ : ∃ d, D0 / 4294967296 ^ k % 4294967296 = d := ⟨_, rfl⟩
      have hd32 : d < 4294967296 := by rw [← hd]; exact Nat.mod_lt _ (by decide)
      have e1 := mul_carry (4294967296 ^ k) D0 q 0 hP
      rw [hC, hd, ← Nat.pow_succ] at e1
      rw [hd] at hcy hm
      obtain ⟨m1, m2⟩ := mul_lt64 C d q hc32 hd32 hq
      obtain ⟨M, hM⟩ : ∃ M, d * q = M := ⟨_, rfl⟩
      have hMi : (d : Int) * (q : Int) = (M : Int) := by rw [← hM]; simp
      rw [hM] at m1 m2 e1 hm
      obtain ⟨E, hE⟩ : ∃ E, C + M = E := ⟨_, rfl⟩
      rw [hE] at m1 e1 hm
      have hEi : (C : Int) + (M : Int) = (E : Int) := by omega
      have hand := bits_mask .u64 64 (by decide) wraps_u64 32 (by decide) (E : Int) (by omega) (by omega)
      rw [hm] at ew el
      have H1 : Hid ((D0 % 4294967296 ^ (k + 1) * q + 0) / 4294967296 ^ (k + 1) = E / 4294967296) := e1
      have H2 : Hid (((G / 4294967296 ^ k % 4294967296 : Nat) : Int) = ((X : Int) - ((E % 4294967296 : Nat) : Int) - (L : Int)) % 4294967296) := ew
      have H3 : Hid (lend (4294967296 ^ (k + 1)) U (D0 * q) = if X < E % 4294967296 + L then 1 else 0) := el
      obtain ⟨F, hF⟩ : ∃ F, E % 4294967296 = F := ⟨_, rfl⟩
      have hF32 : F < 4294967296 := by rw [← hF]; exact Nat.mod_lt _ (by decide)
      have hand' : bits .and .u64 (E : Int) 4294967295 = (F : Int) := by
        rw [show (4294967295 : Int) = 2 ^ 32 - 1 from rfl, hand, ← hF]
        simp
      rw [hF] at H2 H3
      have hst := hx.setW_cell (lo ++ (mix (n + 1) G U k ++ hi)) (lo.length + k) ((G / 4294967296 ^ k % 4294967296 : Nat) : Int)
      rw [mid_set _ _ _ _ _ (by rw [mix_len]; omega), mix_up _ _ _ _ (by omega)] at hst
      have Hst : Hid ((w.setRow b (cellsW (lo ++ (mix (n + 1) G U k ++ hi)))).setCell ⟨b, lo.length + k, none⟩ (.int .u32 ((G / 4294967296 ^ k % 4294967296 : Nat) : Int)) = w.setRow b (cellsW (lo ++ (mix (n + 1) G U (k + 1) ++ hi)))) := hst
      clear e1 ew el hm hM hE hd hC hLe hX hA hY hand hF hst hx hy
      go_wp2
      go_roundw
      case rel =>
        have e4 : IntKind.u64.wrap (IntKind.u64.wrap ((X : Int) - (F : Int)) - (L : Int)) % 4294967296 = ((G / 4294967296 ^ k % 4294967296 : Nat) : Int) := by
          rw [H2.out, wrapU, wrapU]; omega
        refine ⟨k + 1, by omega, by go_num, ?_, ?_, ?_⟩
        · rw [H1.out]; simp
        · rw [H3.out]
          congr 1
          rw [wrapU, wrapU]
          split <;> omega
        · rw [e4]; exact Hst.out
      case measure => simp [intOf]; omega
    · obtain rfl : k = n := by omega
      have hltI : ¬ (k : Int) < (k : Int) := by omega
      have hCe : C = D0 * q / 4294967296 ^ k := by rw [← hC, Nat.mod_eq_of_lt hD, Nat.add_zero]
      have hCw : D0 * q / 4294967296 ^ k % 4294967296 = C := by rw [← hCe]; exact Nat.mod_eq_of_lt hc32
      rw [hCw] at ew el
      have H2 : Hid (((G / 4294967296 ^ k % 4294967296 : Nat) : Int) = ((X : Int) - (C : Int) - (L : Int)) % 4294967296) := ew
      have hfin : lend (4294967296 ^ (k + 1)) U (D0 * q) = if U < D0 * q then 1 else 0 := by
        unfold lend
        rw [Nat.mod_eq_of_lt hU, Nat.mod_eq_of_lt hDq]
      rw [hfin] at el
      have H3 : Hid ((if U < D0 * q then 1 else 0) = if X < C + L then 1 else 0) := el
      have hst := hx.setW_cell (lo ++ (mix (k + 1) G U k ++ hi)) (lo.length + k) ((G / 4294967296 ^ k % 4294967296 : Nat) : Int)
      rw [mid_set _ _ _ _ _ (by rw [mix_len]; omega), mix_up _ _ _ _ (by omega), mix_full] at hst
      have Hst : Hid ((w.setRow b (cellsW (lo ++ (mix (k + 1) G U k ++ hi)))).setCell ⟨b, lo.length + k, none⟩ (.int .u32 ((G / 4294967296 ^ k % 4294967296 : Nat) : Int)) = w.setRow b (cellsW (lo ++ (words (k + 1) G ++ hi)))) := hst
      clear ew el hm hC hLe hX hA hY hst hx hy hCe hCw hfin
      by_cases hb : U < D0 * q
      · have hXC : X < C + L := by
          have := H3.out
          rw [if_pos hb] at this
          by_cases h' : X < C + L
          · exact h'
          · rw [if_neg h'] at this; exact absurd this (by decide)
        have hv : (IntKind.u64.wrap (IntKind.u64.wrap ((X : Int) - (C : Int)) - (L : Int)) / 9223372036854775808 == 1) = true := by
          rw [wrapU, wrapU]; simp; omega
        go_wp2
        go_ret
        have e4 : IntKind.u64.wrap (IntKind.u64.wrap ((X : Int) - (C : Int)) - (L : Int)) % 4294967296 = ((G / 4294967296 ^ k % 4294967296 : Nat) : Int) := by
          rw [H2.out, wrapU, wrapU]; omega
        exact ⟨rfl, by rw [e4]; exact Hst.out⟩
      · have hXC : ¬ X < C + L := by
          have := H3.out
          rw [if_neg hb] at this
          intro h'
          rw [if_pos h'] at this
          exact absurd this (by decide)
        have hv : (((X : Int) - (C : Int) - (L : Int)) / 9223372036854775808 == 1) = false := by simp; omega
        have e5 : (X : Int) - (C : Int) - (L : Int) = ((G / 4294967296 ^ k % 4294967296 : Nat) : Int) := by
          rw [H2.out]; omega
        have e4 : ((X : Int) - (C : Int) - (L : Int)) % 4294967296 = ((G / 4294967296 ^ k % 4294967296 : Nat) : Int) := by
          rw [H2.out]
        have Hd : Hid (decide (U < D0 * q) = false) := decide_eq_false hb
        have He4 : Hid (((X : Int) - (C : Int) - (L : Int)) % 4294967296 = ((G / 4294967296 ^ k % 4294967296 : Nat) : Int)) := e4
        have He5 : Hid ((X : Int) - (C : Int) - (L : Int) = ((G / 4294967296 ^ k % 4294967296 : Nat) : Int)) := e5
        clear e4 e5
        go_wp2
        go_ret
        refine ⟨?_, ?_⟩
        · first | rfl | (rw [Hd.out]; rfl)
        · first | (rw [He4.out]; exact Hst.out) | (rw [He5.out]; exact Hst.out)

/-- One block alone is turned. -/
structure Only (b : Nat) (w w' : World) : Prop where
  size : w'.heap.size = w.heap.size
  other : ∀ j, j ≠ b → w'.heap[j]? = w.heap[j]?
  below : ∀ B, B ≤ b → Below B w w'
theorem Only.refl (b : Nat) (w : World) : Only b w w := ⟨rfl, fun _ _ => rfl, fun _ _ => Below.refl _ _⟩
theorem Only.trans {b : Nat} {w w1 w2 : World} (h : Only b w w1) (k : Only b w1 w2) : Only b w w2 := ⟨k.size.trans h.size, fun j hj => (k.other j hj).trans (h.other j hj), fun B hB => (h.below B hB).trans (k.below B hB)⟩
theorem Only.setCell {b : Nat} {w w1 : World} (h : Only b w w1) (i : Nat) (v : Value) : Only b w (w1.setCell ⟨b, i, none⟩ v) := ⟨by simpa using h.size, fun j hj => (heap_setCell_other _ _ _ _ hj).trans (h.other j hj), fun B hB => (h.below B hB).setCell hB _⟩
theorem Only.setRow {b : Nat} {w w1 : World} (h : Only b w w1) (C : Array Value) : Only b w (w1.setRow b C) := ⟨by simpa using h.size, fun j hj => (setRow_other _ _ _ _ hj).trans (h.other j hj), fun B hB => below_setRow (h.below B hB) hB _⟩
theorem Only.drewN {b : Nat} {w w1 : World} (h : Only b w w1) (k : Nat) : Only b w (w1.drewN k) := ⟨(below_drewN (Below.refl w1.heap.size w1) k).size |> fun _ => by simpa using h.size, fun j hj => (show (w1.drewN k).heap[j]? = w1.heap[j]? from rfl).trans (h.other j hj), fun B hB => below_drewN (h.below B hB) k⟩

set_option maxRecDepth 100000 in
set_option maxHeartbeats 4000000 in
theorem put_any (b tt bt ct ct2 n c1 U D0 : Nat) (lo hi rest : List Int) (w : World) (hx : Arr w b tt (lo ++ (words (n + 1) U ++ hi))) (hy : Arr w bt ct (words n D0 ++ rest)) (hne : b ≠ bt) (hn : n ≤ 1000) (hc1 : n + 1 ≤ c1) (hD : D0 < 4294967296 ^ n) :
    Calls Tryd.prog 59 #[.slice (some ⟨b, lo.length, none⟩) (n + 1) c1, .slice (some ⟨bt, 0, none⟩) n ct2] w fun e w' => e = .returned (.tuple #[]) ∧ Arr w' b tt (lo ++ (words (n + 1) (U + D0) ++ hi)) ∧ Only b w w' := by
  obtain ⟨G, HG⟩ : ∃ G, Hid (U + D0 = G) := ⟨_, rfl⟩
  rw [HG.out]
  go_enter Tryd.func59, Tryd.ntmps59
  go_wp2
  go_loopw [10, 5] (fun i c wr => ∃ k : Nat, k ≤ n ∧ i = .int .i64 k ∧ c = .int .u64 (((U % 4294967296 ^ k + D0 % 4294967296 ^ k) / 4294967296 ^ k : Nat) : Int) ∧ Arr wr b tt (lo ++ (mix (n + 1) G U k ++ hi)) ∧ Only b w wr) (fun i _ _ => n - (intOf i).toNat)
  case atStart => exact ⟨0, Nat.zero_le _, rfl, by simp [Nat.mod_one], by rw [mix_zero]; exact hx, Only.refl _ _⟩
  case round =>
    obtain ⟨k, hk, rfl, rfl, hA, hO⟩ := hrel
    have hY : Arr wr bt ct (words n D0 ++ rest) := (hO.other bt (Ne.symm hne)).trans hy
    have hP : 0 < 4294967296 ^ k := Nat.pow_pos (by decide)
    have hL := carry_le (4294967296 ^ k) U D0 hP
    have ew := add_word (4294967296 ^ k) U D0 hP
    rw [HG.out] at ew
    obtain ⟨X, hX⟩ : ∃ X, U / 4294967296 ^ k % 4294967296 = X := ⟨_, rfl⟩
    have hX32 : X < 4294967296 := by rw [← hX]; exact Nat.mod_lt _ (by decide)
    obtain ⟨L, hLe⟩ : ∃ L, (U % 4294967296 ^ k + D0 % 4294967296 ^ k) / 4294967296 ^ k = L := ⟨_, rfl⟩
    have hcx := fun j => mid_cell (w := wr.drewN j) hA k (by rw [mix_len]; omega)
    have hf := fun j => Arr.frozen (w := wr.drewN j) hA (lo.length + k)
    rw [mix_getD _ _ _ _ _ (by omega), if_neg (Nat.lt_irrefl _), hX] at hcx
    rw [hX, hLe] at ew
    rw [hLe] at hL ⊢
    by_cases hlt : k < n
    · have hltI : (k : Int) < (n : Int) := by omega
      have hcy := fun j => Arr.cell (w := wr.drewN j) hY k (by rw [List.length_append, words_len]; omega)
      rw [app_getD _ _ _ (by rw [words_len]; exact hlt), words_getD' _ _ _ hlt] at hcy
      obtain ⟨d, hd⟩ : ∃ d, D0 / 4294967296 ^ k % 4294967296 = d := ⟨_, rfl⟩
      have hd32 : d < 4294967296 := by rw [← hd]; exact Nat.mod_lt _ (by decide)
      have e1 := add_carry (4294967296 ^ k) U D0 hP
      rw [hLe, hd, hX, ← Nat.pow_succ] at e1
      rw [hd] at hcy ew
      have H1 : Hid ((U % 4294967296 ^ (k + 1) + D0 % 4294967296 ^ (k + 1)) / 4294967296 ^ (k + 1) = (L + (X + d)) / 4294967296) := e1
      have H2 : Hid (G / 4294967296 ^ k % 4294967296 = (L + (X + d)) % 4294967296) := ew
      clear e1 ew hX hd hLe hx hy hY
      go_wp2
      go_quiet (fail)
      go_wp2
      go_roundw
      case rel =>
        have g3 : Arr (wr.drewN nq) b tt (lo ++ (mix (n + 1) G U k ++ hi)) := hA
        have e4 : ((L : Int) + ((X : Int) + (d : Int))) % 4294967296 = ((G / 4294967296 ^ k % 4294967296 : Nat) : Int) := by rw [H2.out]; omega
        refine ⟨k + 1, by omega, by go_num, ?_, ?_, (hO.drewN nq).setCell _ _⟩
        · rw [H1.out]; simp
        · rw [e4, ← mix_up (n + 1) G U k (by omega), ← mid_set _ _ _ _ _ (by rw [mix_len]; omega)]
          exact g3.set _ _
      case measure => simp [intOf]; omega
    · obtain rfl : k = n := by omega
      have hltI : ¬ (k : Int) < (k : Int) := by omega
      rw [Nat.div_eq_of_lt hD] at ew
      have H2 : Hid (G / 4294967296 ^ k % 4294967296 = (L + (X + 0)) % 4294967296) := by show _ = _; rw [ew]
      have hcx0 : wr.cell? ⟨b, lo.length + k, none⟩ = some (.int .u32 (X : Int)) := hcx 0
      have hf0 : wr.frozen? ⟨b, lo.length + k, none⟩ = false := hf 0
      clear hcx hf
      clear ew hX hLe hx hy hY
      have g3 := hA.set (lo.length + k) ((G / 4294967296 ^ k % 4294967296 : Nat) : Int)
      rw [mid_set _ _ _ _ _ (by rw [mix_len]; omega), mix_up _ _ _ _ (by omega), mix_full] at g3
      have e4 : ((X : Int) + (L : Int)) % 4294967296 = ((G / 4294967296 ^ k % 4294967296 : Nat) : Int) := by rw [H2.out]; omega
      have hO2 := hO.setCell (lo.length + k) (.int .u32 ((G / 4294967296 ^ k % 4294967296 : Nat) : Int))
      go_wp2
      go_end0
      refine ⟨rfl, ?_, ?_⟩
      · first | exact g3 | (rw [e4]; exact g3)
      · first | exact hO2 | (rw [e4]; exact hO2)
end Go.Proofs.YtgammgdckneoiacDoor
