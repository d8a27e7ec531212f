/- addOnto and divideShort: a number's words, times one word and one word more; by one word. -/
import Derived.Test.YtkpngpongbpfgaaArr
import Derived.Test.YtkpngpongbpfgaaRight
import Derived.Lib.EndianBits
namespace Go.Proofs.Ytkpngpongbpfgaa
open Go.RowKit

theorem mul_carry_lt (P x t p : Nat) (hP : 0 < P) (ht : t < 4294967296) (hp : p < 4294967296) : (x % P * t + p) / P < 4294967296 := by
  refine Nat.div_lt_of_lt_mul ?_
  have h1 := Nat.mod_lt x hP
  have h2 : x % P * t ≤ (P - 1) * 4294967295 := Nat.mul_le_mul (by omega) (by omega)
  have h3 : P * 4294967296 = (P - 1) * 4294967295 + (P - 1) + 4294967296 := by
    obtain ⟨q, rfl⟩ : ∃ q, P = q + 1 := ⟨P - 1, by omega⟩
    simp; omega
  omega
theorem mul_lt64 (c d t : Nat) (hc : c < 4294967296) (hd : d < 4294967296) (ht : t < 4294967296) : c + d * t < 18446744073709551616 ∧ d * t < 18446744073709551616 := by
  have : d * t ≤ 4294967295 * 4294967295 := Nat.mul_le_mul (by omega) (by omega)
  omega

set_option maxRecDepth 100000 in
set_option maxHeartbeats 2000000 in
theorem addOnto_any (b tt n cap V t p : Nat) (rest : List Int) (w : World) (h : Arr w b tt (words n V ++ rest)) (hn : n ≤ 1000) (hn0 : n ≤ cap) (ht : t < 4294967296) (hp : p < 4294967296) :
    Calls Try.prog 95 #[.slice (some ⟨b, 0, none⟩) n cap, .int .u32 (t : Int), .int .u32 (p : Int)] w fun e w' => e = .returned (.tuple #[]) ∧ w' = w.setRow b (cellsW (words n (V * t + p) ++ rest)) := by
  go_enter Try.func95, Try.ntmps95
  go_wp2
  go_loopw [12, 6] (fun i c wr => ∃ k : Nat, k ≤ n ∧ i = .int .i64 k ∧ c = .int .u64 (((V % 4294967296 ^ k * t + p) / 4294967296 ^ k : Nat) : Int) ∧ wr = w.setRow b (cellsW (mix n (V * t + p) V k ++ rest))) (fun i _ _ => n - (intOf i).toNat)
  case atStart =>
    refine ⟨0, Nat.zero_le _, rfl, by simp [Nat.mod_one], ?_⟩
    rw [mix_zero]; exact h.setW_self.symm
  case round =>
    obtain ⟨k, hk, rfl, rfl, rfl⟩ := hrel
    by_cases hlt : k < n
    · have hP : 0 < 4294967296 ^ k := Nat.pow_pos (by decide)
      have hA := h.setW (mix n (V * t + p) V k ++ rest)
      have hc0 := hA.cell k (by rw [List.length_append, mix_len]; omega)
      have hf := hA.frozen k
      rw [app_getD _ _ _ (by rw [mix_len]; exact hlt), mix_getD _ _ _ _ _ hlt, if_neg (Nat.lt_irrefl _)] at hc0
      obtain ⟨c, hc⟩ : ∃ c, (V % 4294967296 ^ k * t + p) / 4294967296 ^ k = c := ⟨_, rfl⟩
      obtain ⟨d, hd⟩ : ∃ d, V / 4294967296 ^ k % 4294967296 = d := ⟨_, rfl⟩
      have hc32 : c < 4294967296 := by rw [← hc]; exact mul_carry_lt _ _ _ _ hP ht hp
      have hd32 : d < 4294967296 := by rw [← hd]; exact Nat.mod_lt _ (by decide)
      have e1 := mul_carry (4294967296 ^ k) V t p hP
      have e2 := mul_word (4294967296 ^ k) V t p hP
      rw [hc, hd] at e1 e2
      rw [← Nat.pow_succ] at e1
      have H1 : Hid ((V % 4294967296 ^ (k + 1) * t + p) / 4294967296 ^ (k + 1) = (c + d * t) / 4294967296) := e1
      have H2 : Hid ((V * t + p) / 4294967296 ^ k % 4294967296 = (c + d * t) % 4294967296) := e2
      obtain ⟨m1, m2⟩ := mul_lt64 c d t hc32 hd32 ht
      obtain ⟨m, hm⟩ : ∃ m, d * t = m := ⟨_, rfl⟩
      have hmi : (d : Int) * (t : Int) = (m : Int) := by rw [← hm]; simp
      rw [hd] at hc0
      rw [hc]
      rw [hm] at m1 m2 H1 H2
      have hst := h.setW_cell (mix n (V * t + p) V k ++ rest) k (((c + m) % 4294967296 : Nat) : Int)
      rw [app_set _ _ _ _ (by rw [mix_len]; exact hlt), ← H2.out, mix_up _ _ _ _ hlt, H2.out] at hst
      clear hA e1 e2 hc hd hm
      go_wp2
      go_roundw
      case rel =>
        refine ⟨k + 1, by omega, by go_num, ?_, ?_⟩
        · rw [H1.out]; simp
        · rw [← hst]; simp
      case measure => simp [intOf]; omega
    · obtain rfl : k = n := by omega
      go_wp2
      go_end0
      exact ⟨rfl, by rw [mix_full]⟩

theorem or32 (r d : Nat) (hr : r < 4294967296) (hd : d < 4294967296) : bits .or .u64 ((r : Int) * 4294967296) (d : Int) = ((r * 4294967296 + d : Nat) : Int) := by
  rw [bits_join .u64 64 (by decide) wraps_u64 32 _ _ (by omega) (by omega) (by omega) (by omega) (by omega) (by omega)]
  omega

set_option maxRecDepth 100000 in
set_option maxHeartbeats 2000000 in
theorem divShort_any (b tt n cap V d : Nat) (rest : List Int) (w : World) (h : Arr w b tt (words n V ++ rest)) (hn : n ≤ 1000) (hV : V < 4294967296 ^ n) (hd0 : 0 < d) (hd : d < 4294967296) :
    Calls Try.prog 90 #[.slice (some ⟨b, 0, none⟩) n cap, .int .u32 (d : Int)] w fun e w' => e = .returned (.int .u32 ((V % d : Nat) : Int)) ∧ w' = w.setRow b (cellsW (words n (V / d) ++ rest)) := by
  have hdz : ((d : Int) == 0) = false := by simp; omega
  go_enter Try.func90, Try.ntmps90
  go_wp2
  go_loopw [10, 5] (fun i c wr => ∃ k : Nat, k ≤ n ∧ i = .int .i64 k ∧ c = .int .u64 ((V / 4294967296 ^ (n - k) % d : Nat) : Int) ∧ wr = w.setRow b (cellsW (mix n V (V / d) (n - k) ++ rest))) (fun i _ _ => n - (intOf i).toNat)
  case atStart =>
    refine ⟨0, Nat.zero_le _, rfl, ?_, ?_⟩
    · rw [Nat.sub_zero, Nat.div_eq_of_lt hV]; simp
    · rw [Nat.sub_zero, mix_full]; exact h.setW_self.symm
  case round =>
    obtain ⟨k, hk, rfl, rfl, rfl⟩ := hrel
    by_cases hlt : k < n
    · obtain ⟨j, hj⟩ : ∃ j, n - k = j + 1 := ⟨n - k - 1, by omega⟩
      rw [hj]
      have hA := h.setW (mix n V (V / d) (j + 1) ++ rest)
      have hc0 := hA.cell j (by rw [List.length_append, mix_len]; omega)
      have hf := hA.frozen j
      rw [app_getD _ _ _ (by rw [mix_len]; omega), mix_getD _ _ _ _ _ (by omega), if_pos (Nat.lt_succ_self _)] at hc0
      obtain ⟨e1, e2⟩ := div_word (4294967296 ^ j) V d hd0
      rw [← Nat.pow_succ] at e1 e2
      obtain ⟨r, hr⟩ : ∃ r, V / 4294967296 ^ (j + 1) % d = r := ⟨_, rfl⟩
      obtain ⟨c, hc⟩ : ∃ c, V / 4294967296 ^ j % 4294967296 = c := ⟨_, rfl⟩
      have hr32 : r < d := by rw [← hr]; exact Nat.mod_lt _ hd0
      have hc32 : c < 4294967296 := by rw [← hc]; exact Nat.mod_lt _ (by decide)
      rw [hr, hc] at e1 e2
      rw [hc] at hc0
      rw [hr]
      have ho := or32 r c (by omega) hc32
      obtain ⟨Y, hY⟩ : ∃ Y, r * 4294967296 + c = Y := ⟨_, rfl⟩
      rw [hY] at ho e1 e2
      have hY64 : Y < 18446744073709551616 := by omega
      obtain ⟨q, hq⟩ : ∃ q, Y / d = q := ⟨_, rfl⟩
      obtain ⟨u, hu⟩ : ∃ u, Y % d = u := ⟨_, rfl⟩
      rw [hq] at e1
      rw [hu] at e2
      have hq32 : q < 4294967296 := by rw [← e1]; exact Nat.mod_lt _ (by decide)
      have hu32 : u < d := by rw [← hu]; exact Nat.mod_lt _ hd0
      have hqi : (Y : Int) / (d : Int) = (q : Int) := by rw [← hq]; simp
      have hui : (Y : Int) % (d : Int) = (u : Int) := by rw [← hu]; simp
      have H2 : Hid (V / 4294967296 ^ j % d = u) := e2
      have hst := h.setW_cell (mix n V (V / d) (j + 1) ++ rest) j (q : Int)
      rw [app_set _ _ _ _ (by rw [mix_len]; omega), ← e1, mix_down _ _ _ _ (by omega)] at hst
      have Hst : Hid ((w.setRow b (cellsW (mix n V (V / d) (j + 1) ++ rest))).setCell ⟨b, j, none⟩ (.int .u32 (q : Int)) = w.setRow b (cellsW (mix n V (V / d) j ++ rest))) := by
        show _ = _; rw [← hst, e1]
      have i1 : (n : Int) - 1 - (k : Int) = (j : Int) := by omega
      clear hA e1 e2 hc hr hY hq hu hst
      go_wp2
      go_roundw
      case rel =>
        have hnj : n - (k + 1) = j := by omega
        refine ⟨k + 1, by omega, by go_num, ?_, ?_⟩
        · rw [hui, hnj, H2.out]
        · rw [hnj]; exact Hst.out
      case measure => simp [intOf]; omega
    · obtain rfl : k = n := by omega
      have hm := Nat.mod_lt V hd0
      rw [Nat.sub_self, Nat.pow_zero, Nat.div_one, mix_zero]
      obtain ⟨u, hu⟩ : ∃ u, Hid (V % d = u) := ⟨_, rfl⟩
      rw [hu.out] at hm ⊢
      go_wp2
      go_ret
      exact ⟨ret_int (by rw [hu.out]), rfl⟩
end Go.Proofs.Ytkpngpongbpfgaa
