/- The document's times: bytes times one byte, with noughts behind. -/
import Derived.Test.YtgammgdckneoiabDoorRSum
import Derived.Test.YtgammgdckneoiabDoorMulBytes
namespace Go.Proofs.YtgammgdckneoiabDoor
open Go.RowKit

theorem byte_mul (x K c : Nat) (hx : x < 256) (hK : K < 256) (hc : c < 256) : c + x * K < 65536 ∧ x * K < 65536 := by
  have : x * K ≤ 255 * 255 := Nat.mul_le_mul (by omega) (by omega)
  omega
theorem noughts_byte (n : Nat) (zs : List Int) (h : ∀ z ∈ zs, 0 ≤ z ∧ z < 256) : ∀ z ∈ List.replicate n (0 : Int) ++ zs, 0 ≤ z ∧ z < 256 := by
  intro z hz
  rcases List.mem_append.1 hz with hz | hz
  · rw [List.eq_of_mem_replicate hz]; decide
  · exact h z hz

set_option maxRecDepth 100000 in
set_option maxHeartbeats 2000000 in
theorem times_any {a1 : Option Addr} {l1 c1 : Nat} {xs : List Int} {w : World} (K z : Nat) (h1 : IsB w a1 l1 c1 xs) (m1 : l1 ≤ 40000) (hK : K < 256) (hz : z ≤ 40000) :
    Calls Tryd.prog 48 #[.slice a1 l1 c1, .int .i64 (K : Int), .int .i64 (z : Int)] w fun e w' => ∃ v zs, e = .returned v ∧ OwnB w' w.heap.size v zs ∧ val8 zs = val8 xs * K * 256 ^ z ∧ zs.length ≤ z + l1 + 1 ∧ Below w.heap.size w w' := by
  obtain ⟨i0, hi, hz0, hz1, hz2⟩ := info_parts Tryd.info5
  have hX := val8_lt xs h1.byte
  rw [h1.size] at hX
  obtain ⟨X, HX⟩ : ∃ X, Hid (val8 xs = X) := ⟨_, rfl⟩
  rw [HX.out] at hX ⊢
  go_enter Tryd.func48, Tryd.ntmps48
  go_wp2_with (at_make; refine wpList_make_full _ rfl _ _ 22 rfl w.heap.size 5 i0 (.int .u8 0) 1 Tryd.underlying22 hi hz0 hz1 _ _ _ _ z rfl rfl rfl rfl (by rw [hz2]; omega) (by unfold maxLen; omega) (Nat.le_refl _) ?_)
  intro w1 hown0 hgrow
  have hbw : Below w.heap.size w w1 := (Below.refl _ _).grown hgrow (Nat.le_refl _) (by simp)
  have hownz : w1.ownsRow w.heap.size 5 1 (.slice (some ⟨w.heap.size, 0, none⟩) z z) (z + 0) ((List.replicate z (0 : Int) ++ []).map (Value.int .u8)) := by
    have e : (madeCells #[Value.int IntKind.u8 0] z).toList = (List.replicate z (0 : Int) ++ []).map (Value.int .u8) := by
      rw [toList_madeCells_one]; simp
    rw [← e]; exact hown0
  clear hgrow hown0
  go_wp2
  go_loopw [9, 8, 7] (fun i c v wr => ∃ (k cc : Nat) (zs : List Int), k ≤ l1 + 1 ∧ i = .int .i64 k ∧ c = .int .i64 cc ∧ zs.length = k ∧ (∀ z ∈ zs, 0 ≤ z ∧ z < 256) ∧ Hid (val8 zs.reverse + cc * 256 ^ k = X % 256 ^ k * K) ∧ wr.ownsRow w.heap.size 5 1 v (z + k) ((List.replicate z (0 : Int) ++ zs).map (Value.int .u8)) ∧ Below w.heap.size w wr) (fun i _ _ _ => l1 + 1 - (intOf i).toNat)
  case atStart => exact ⟨0, 0, [], Nat.zero_le _, rfl, rfl, rfl, by simp, by show _ = _; simp [val8, Nat.mod_one], hownz, hbw⟩
  case round =>
    obtain ⟨k, cc, zs, hk, rfl, rfl, hzl, hzb, hv, hown, hB⟩ := hrel
    clear hownz hbw
    have hcc := times_carry X K cc _ k hv.out hK
    by_cases hgo : k < l1 ∨ 0 < cc
    · have hkM : k ≤ l1 := by
        rcases Nat.lt_or_ge l1 k with h | h
        · exfalso
          have := times_end X K cc _ k l1 hv.out hK hX h
          omega
        · exact h
      have a1' := at_any (h1.below hB) k (by omega) (by omega)
      rw [HX.out] at a1'
      obtain ⟨x, hx⟩ : ∃ x, X / 256 ^ k % 256 = x := ⟨_, rfl⟩
      have hx8 : x < 256 := by rw [← hx]; exact Nat.mod_lt _ (by decide)
      have hnx := times_step X K cc _ k x hv.out hx
      rw [hx] at a1'
      obtain ⟨b1, b2⟩ := byte_mul x K cc hx8 hK hcc
      obtain ⟨M, hM⟩ : ∃ M, x * K = M := ⟨_, rfl⟩
      have hMi : (x : Int) * (K : Int) = (M : Int) := by rw [← hM]; simp
      rw [hM] at hnx b1 b2
      obtain ⟨t, ht⟩ : ∃ t, cc + M = t := ⟨_, rfl⟩
      rw [ht] at hnx b1
      have Hnx : Hid (t % 256 * 256 ^ k + val8 zs.reverse + t / 256 * 256 ^ (k + 1) = X % 256 ^ (k + 1) * K) := hnx
      have hti : (cc : Int) + (M : Int) = (t : Int) := by omega
      have kp := isB_lit wr #[.int .u8 ((t : Int) % 256)] [(t : Int) % 256] 1 rfl (by decide) rfl (by simp; omega) (0, 0)
      have hown2 := hown.alloc (.cells #[.int .u8 ((t : Int) % 256)] 5)
      clear hnx hx ht hX hM
      by_cases q1 : k < l1
      · have q1' : (k : Int) < (l1 : Int) := by omega
        go_wp2_with fail
        refine a1'.mono ?_
        rintro e w2 ⟨rfl, rfl⟩
        go_wp2_with (at_builtin; refine app_bytes _ rfl _ _ rfl w.heap.size _ (z + k) (List.replicate z (0 : Int) ++ zs) rfl hown2 (some ⟨wr.heap.size, 0, none⟩) 1 1 [(t : Int) % 256] rfl kp (by omega) (by omega) (by have := hB.size; simp; omega) ?_)
        intro v' w2 hown3 hb2
        have hown4 : w2.ownsRow w.heap.size 5 1 v' (z + (k + 1)) ((List.replicate z (0 : Int) ++ (zs ++ [((t % 256 : Nat) : Int)])).map (Value.int .u8)) := by simpa [Nat.add_assoc] using hown3
        have hB2 := (hB.alloc hB.size (.cells #[.int .u8 ((t : Int) % 256)] 5)).trans hb2
        have hv2 : Hid (val8 (zs ++ [((t % 256 : Nat) : Int)]).reverse + t / 256 * 256 ^ (k + 1) = X % 256 ^ (k + 1) * K) := by show _ = _; rw [rev_snoc, hzl]; exact Hnx.out
        have hzb2 : Hid (∀ z ∈ zs ++ [((t % 256 : Nat) : Int)], 0 ≤ z ∧ z < 256) := append_bytes zs [((t % 256 : Nat) : Int)] hzb (fun z hz => by rw [List.mem_singleton.1 hz]; omega)
        have hzl2 : Hid ((zs ++ [((t % 256 : Nat) : Int)]).length = k + 1) := by show _ = _; rw [List.length_append, hzl]; rfl
        have hti2 : Hid ((t : Int) / 256 = ((t / 256 : Nat) : Int)) := by show _ = _; omega
        clear hown3 hown hown2 kp a1' hb2 hzb hv Hnx
        go_wp2
        go_roundw
        case rel => exact ⟨k + 1, t / 256, zs ++ [((t % 256 : Nat) : Int)], by omega, by go_num, by rw [hti2.out], hzl2.out, hzb2.out, hv2, hown4, hB2⟩
        case measure => simp [intOf]; omega
      · have q1' : ¬ (k : Int) < (l1 : Int) := by omega
        have q3' : (0 : Int) < (cc : Int) := by omega
        go_wp2_with fail
        refine a1'.mono ?_
        rintro e w2 ⟨rfl, rfl⟩
        go_wp2_with (at_builtin; refine app_bytes _ rfl _ _ rfl w.heap.size _ (z + k) (List.replicate z (0 : Int) ++ zs) rfl hown2 (some ⟨wr.heap.size, 0, none⟩) 1 1 [(t : Int) % 256] rfl kp (by omega) (by omega) (by have := hB.size; simp; omega) ?_)
        intro v' w2 hown3 hb2
        have hown4 : w2.ownsRow w.heap.size 5 1 v' (z + (k + 1)) ((List.replicate z (0 : Int) ++ (zs ++ [((t % 256 : Nat) : Int)])).map (Value.int .u8)) := by simpa [Nat.add_assoc] using hown3
        have hB2 := (hB.alloc hB.size (.cells #[.int .u8 ((t : Int) % 256)] 5)).trans hb2
        have hv2 : Hid (val8 (zs ++ [((t % 256 : Nat) : Int)]).reverse + t / 256 * 256 ^ (k + 1) = X % 256 ^ (k + 1) * K) := by show _ = _; rw [rev_snoc, hzl]; exact Hnx.out
        have hzb2 : Hid (∀ z ∈ zs ++ [((t % 256 : Nat) : Int)], 0 ≤ z ∧ z < 256) := append_bytes zs [((t % 256 : Nat) : Int)] hzb (fun z hz => by rw [List.mem_singleton.1 hz]; omega)
        have hzl2 : Hid ((zs ++ [((t % 256 : Nat) : Int)]).length = k + 1) := by show _ = _; rw [List.length_append, hzl]; rfl
        have hti2 : Hid ((t : Int) / 256 = ((t / 256 : Nat) : Int)) := by show _ = _; omega
        clear hown3 hown hown2 kp a1' hb2 hzb hv Hnx
        go_wp2
        go_roundw
        case rel => exact ⟨k + 1, t / 256, zs ++ [((t % 256 : Nat) : Int)], by omega, by go_num, by rw [hti2.out], hzl2.out, hzb2.out, hv2, hown4, hB2⟩
        case measure => simp [intOf]; omega
    · have q1' : ¬ (k : Int) < (l1 : Int) := by omega
      obtain rfl : cc = 0 := by omega
      have hv' := hv.out
      have hp1 : 256 ^ l1 ≤ 256 ^ k := Nat.pow_le_pow_right (by decide) (by omega)
      rw [Nat.mod_eq_of_lt (by omega), Nat.zero_mul, Nat.add_zero] at hv'
      have Hv : Hid (val8 (List.replicate z (0 : Int) ++ zs).reverse = X * K * 256 ^ z) := by
        show _ = _
        rw [List.reverse_append, List.reverse_replicate, val8_noughts, hv']
      have hO := ownB_of hown (noughts_byte z zs hzb)
      obtain ⟨p, c, rfl, hI⟩ := hO.2
      have hzz : Hid ((List.replicate z (0 : Int) ++ zs).length = z + k) := by show _ = _; rw [List.length_append, List.length_replicate, hzl]
      generalize List.replicate z (0 : Int) ++ zs = ys at *
      rw [hzz.out] at hI ⊢
      clear hv' hv hown hX hp1 hcc hO
      have hm0 : ¬ (0 : Int) < 0 := by decide
      go_wp2_with fail
      refine (turned_any hI (by omega)).mono ?_
      rintro e w3 ⟨v3, rfl, hO3, hb3⟩
      have hB3 := below_size hB (Nat.le_refl _) hb3
      go_wp2
      go_ret
      exact ⟨_, _, rfl, hO3.mono hB.size, Hv.out, by rw [List.length_reverse, hzz.out]; omega, hB3⟩
end Go.Proofs.YtgammgdckneoiabDoor
