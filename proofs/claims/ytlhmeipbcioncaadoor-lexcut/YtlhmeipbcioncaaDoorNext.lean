/- addOnto and divideShort: a number's words, times one word and one word more; by one word. -/
import Derived.Test.YtlhmeipbcioncaaDoorArr
import Derived.Test.YtlhmeipbcioncaaDoorRight
import Derived.Lib.EndianBits
namespace Go.Proofs.YtlhmeipbcioncaaDoor
open Go.RowKit

theorem mul_carry_lt (P x t p : Nat) (hP : 0 < P) (ht : t < 4294967296) (hp : p < 4294967296) : (x % P * t + p) / P < 4294967296 := by
  refine Nat.div_lt_of_lt_mul ?_
  have h1 := Nat.mod_lt x hP
  have h2 : x % P * t ≤ (P - 1) * 4294967295 := Nat.mul_le_mul (by omega) (by omega)
  have h3 : P * 4294967296 = (P - 1) * 4294967295 + (P - 1) + 4294967296 := by
    obtain ⟨q, rfl⟩ : ∃ q, P = q + 1 := ⟨P - 1, by omega⟩
    simp; omega
  omega
theorem mul_lt64 (c d t : Nat) (hc : c < 4294967296) (hd : d < 4294967296) (ht : t < 4294967296) : c + d * t < 18446744073709551616 ∧ d * t < 18446744073709551616 := by
  have : d * t ≤ 4294967295 * 4294967295 := Nat.mul_le_mul (by omega) (by omega)
  omega

set_option maxRecDepth 100000 in
set_option maxHeartbeats 2000000 in
theorem addOnto_any (b tt n cap V t p : Nat) (rest : List Int) (w : World) (h : Arr w b tt (words n V ++ rest)) (hn : n ≤ 1000) (hn0 : n ≤ cap) (ht : t < 4294967296) (hp : p < 4294967296) :
    Calls Tryd.prog 79 #[.slice (some ⟨b, 0, none⟩) n cap, .int .u32 (t : Int), .int .u32 (p : Int)] w fun e w' => e = .returned (.tuple #[]) ∧ w' = w.setRow b (cellsW (words n (V * t + p) ++ rest)) := by
  go_enter Tryd.func79, Tryd.ntmps79
  go_wp2
  go_loopw [12, 6] (fun i c wr => ∃ k : Nat, k ≤ n ∧ i = .int .i64 k ∧ c = .int .u64 (((V % 4294967296 ^ k * t + p) / 4294967296 ^ k : Nat) : Int) ∧ wr = w.setRow b (cellsW (mix n (V * t + p) V k ++ rest))) (fun i _ _ => n - (intOf i).toNat)
  case atStart =>
    refine ⟨0, Nat.zero_le _, rfl, by simp [Nat.mod_one], ?_⟩
    rw [mix_zero]; exact h.setW_self.symm
  case round =>
    obtain ⟨k, hk, rfl, rfl, rfl⟩ := hrel
    by_cases hlt : k < n
    · have hP : 0 < 4294967296 ^ k := Nat.pow_pos (by decide)
      have hA := h.setW (mix n (V * t + p) V k ++ rest)
      have hc0 := hA.cell k (by rw [List.length_append, mix_len]; omega)
      have hf := hA.frozen k
      rw [app_getD _ _ _ (by rw [mix_len]; exact hlt), mix_getD _ _ _ _ _ hlt, if_neg (Nat.lt_irrefl _)] at hc0
      obtain ⟨c, hc⟩ : ∃ c, (V % 4294967296 ^ k * t + p) / 4294967296 ^ k = c := ⟨_, rfl⟩
      obtain ⟨d, hd⟩ : ∃ d, V / 4294967296 ^ k % 4294967296 = d := ⟨_, rfl⟩
      have hc32 : c < 4294967296 := by rw [← hc]; exact mul_carry_lt _ _ _ _ hP ht hp
      have hd32 : d < 4294967296 := by rw [← hd]; exact Nat.mod_lt _ (by decide)
      have e1 := mul_carry (4294967296 ^ k) V t p hP
      have e2 := mul_word (4294967296 ^ k) V t p hP
      rw [hc, hd] at e1 e2
      rw [← Nat.pow_succ] at e1
      have H1 : Hid ((V % 4294967296 ^ (k + 1) * t + p) / 4294967296 ^ (k + 1) = (c + d * t) / 4294967296) := e1
      have H2 : Hid ((V * t + p) / 4294967296 ^ k % 4294967296 = (c + d * t) % 4294967296) := e2
      obtain ⟨m1, m2⟩ := mul_lt64 c d t hc32 hd32 ht
      obtain ⟨m, hm⟩ : ∃ m, d * t = m := ⟨_, rfl⟩
      have hmi : (d : Int) * (t : Int) = (m : Int) := by rw [← hm]; simp
      rw [hd] at hc0
      rw [hc]
      rw [hm] at m1 m2 H1 H2
      have hst := h.setW_cell (mix n (V * t + p) V k ++ rest) k (((c + m) % 4294967296 : Nat) : Int)
      rw [app_set _ _ _ _ (by rw [mix_len]; exact hlt), ← H2.out, mix_up _ _ _ _ hlt, H2.out] at hst
      clear hA e1 e2 hc hd hm
      go_wp2
      go_roundw
      case rel =>
        refine ⟨k + 1, by omega, by go_num, ?_, ?_⟩
        · rw [H1.out]; simp
        · rw [← hst]; simp
      case measure => simp [intOf]; omega
    · obtain rfl : k = n := by omega
      go_wp2
      go_end0
      exact ⟨rfl, by rw [mix_full]⟩

theorem or32 (r d : Nat) (hr : r < 4294967296) (hd : d < 4294967296) : bits .or .u64 ((r : Int) * 4294967296) (d : Int) = ((r * 4294967296 + d : Nat) : Int) := by
  rw [bits_join .u64 64 (by decide) wraps_u64 32 _ _ (by omega) (by omega) (by omega) (by omega) (by omega) (by omega)]
  omega

end Go.Proofs.YtlhmeipbcioncaaDoor
