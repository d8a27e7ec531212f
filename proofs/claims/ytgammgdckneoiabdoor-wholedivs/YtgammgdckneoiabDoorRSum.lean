/- The document's sum: bytes of two numbers together. -/
import Derived.Test.YtgammgdckneoiabDoorRef
import Derived.Test.YtgammgdckneoiabDoorCmp
namespace Go.Proofs.YtgammgdckneoiabDoor
open Go.RowKit

theorem rev_snoc (zs : List Int) (d : Nat) : val8 (zs ++ [(d : Int)]).reverse = d * 256 ^ zs.length + val8 zs.reverse := by
  rw [List.reverse_append, List.reverse_singleton, List.singleton_append, val8_cons, List.length_reverse, Int.toNat_natCast]
theorem mod_step (X k : Nat) : X % 256 ^ (k + 1) = X % 256 ^ k + 256 ^ k * (X / 256 ^ k % 256) := by
  rw [Nat.pow_succ, Nat.mod_mul]
theorem sum_step (X Y c V k : Nat) (h : V + c * 256 ^ k = X % 256 ^ k + Y % 256 ^ k) (x y : Nat) (hx : X / 256 ^ k % 256 = x) (hy : Y / 256 ^ k % 256 = y) :
    ((c + x + y) % 256 * 256 ^ k + V) + (c + x + y) / 256 * 256 ^ (k + 1) = X % 256 ^ (k + 1) + Y % 256 ^ (k + 1) := by
  rw [mod_step X, mod_step Y, hx, hy, Nat.pow_succ]
  have e := Nat.mod_add_div (c + x + y) 256
  generalize (c + x + y) % 256 = m at *
  generalize (c + x + y) / 256 = q at *
  generalize 256 ^ k = P at *
  have e' : (m + 256 * q) * P = (c + x + y) * P := by rw [e]
  rw [Nat.add_mul, Nat.add_mul, Nat.add_mul] at e'
  have e1 : q * (P * 256) = 256 * q * P := by rw [Nat.mul_comm 256 q, Nat.mul_assoc, Nat.mul_comm 256 P]
  rw [e1, Nat.mul_comm P x, Nat.mul_comm P y]
  omega

set_option maxRecDepth 100000 in
set_option maxHeartbeats 1000000 in
theorem rsum_any {a1 a2 : Option Addr} {l1 l2 c1 c2 : Nat} {xs ys : List Int} {w : World} (h1 : IsB w a1 l1 c1 xs) (h2 : IsB w a2 l2 c2 ys) (m1 : l1 ≤ 50000) (m2 : l2 ≤ 50000) :
    Calls Tryd.prog 43 #[.slice a1 l1 c1, .slice a2 l2 c2] w fun e w' => ∃ v zs, e = .returned v ∧ OwnB w' w.heap.size v zs ∧ val8 zs = val8 xs + val8 ys ∧ zs.length ≤ max l1 l2 + 1 ∧ Below w.heap.size w w' := by
  have hX := val8_lt xs h1.byte
  have hY := val8_lt ys h2.byte
  rw [h1.size] at hX
  rw [h2.size] at hY
  obtain ⟨X, HX⟩ : ∃ X, Hid (val8 xs = X) := ⟨_, rfl⟩
  obtain ⟨Y, HY⟩ : ∃ Y, Hid (val8 ys = Y) := ⟨_, rfl⟩
  rw [HX.out] at hX ⊢
  rw [HY.out] at hY ⊢
  go_enter Tryd.func43, Tryd.ntmps43
  go_wp2
  go_loopw [7, 6, 5] (fun i c v wr => ∃ (k cc : Nat) (zs : List Int), k ≤ max l1 l2 + 1 ∧ i = .int .i64 k ∧ c = .int .i64 cc ∧ cc ≤ 2 ∧ zs.length = k ∧ (∀ z ∈ zs, 0 ≤ z ∧ z < 256) ∧ Hid (val8 zs.reverse + cc * 256 ^ k = X % 256 ^ k + Y % 256 ^ k) ∧ wr.ownsRow w.heap.size 5 1 v k (zs.map (Value.int .u8)) ∧ Below w.heap.size w wr) (fun i _ _ _ => max l1 l2 + 1 - (intOf i).toNat)
  case atStart => exact ⟨0, 0, [], Nat.zero_le _, rfl, rfl, by decide, rfl, by simp, by show _ = _; simp [val8, Nat.mod_one], World.ownsRow_nil _ _ _ _, Below.refl _ _⟩
  case round =>
    obtain ⟨k, cc, zs, hk, rfl, rfl, hcc, hzl, hzb, hv, hown, hB⟩ := hrel
    by_cases hgo : k < l1 ∨ k < l2 ∨ 0 < cc
    · have hkM : k ≤ max l1 l2 := by
        rcases Nat.lt_or_ge (max l1 l2) k with h | h
        · exfalso
          have hc0 : 0 < cc := by omega
          have hp1 : 256 ^ l1 ≤ 256 ^ max l1 l2 := Nat.pow_le_pow_right (by decide) (by omega)
          have hp2 : 256 ^ l2 ≤ 256 ^ max l1 l2 := Nat.pow_le_pow_right (by decide) (by omega)
          have hp3 : 256 ^ (max l1 l2 + 1) ≤ 256 ^ k := Nat.pow_le_pow_right (by decide) (by omega)
          rw [Nat.pow_succ] at hp3
          have hv' := hv.out
          have hm1 := Nat.mod_le X (256 ^ k)
          have hm2 := Nat.mod_le Y (256 ^ k)
          have : 1 * 256 ^ k ≤ cc * 256 ^ k := Nat.mul_le_mul_right _ hc0
          have hpos : 0 < 256 ^ max l1 l2 := Nat.pow_pos (by decide)
          omega
        · exact h
      have a1' := at_any (h1.below hB) k (by omega) (by omega)
      have a2' := at_any (h2.below hB) k (by omega) (by omega)
      rw [HX.out] at a1'
      rw [HY.out] at a2'
      obtain ⟨x, hx⟩ : ∃ x, X / 256 ^ k % 256 = x := ⟨_, rfl⟩
      obtain ⟨y, hy⟩ : ∃ y, Y / 256 ^ k % 256 = y := ⟨_, rfl⟩
      have hx8 : x < 256 := by rw [← hx]; exact Nat.mod_lt _ (by decide)
      have hy8 : y < 256 := by rw [← hy]; exact Nat.mod_lt _ (by decide)
      have hnx := sum_step X Y cc _ k hv.out x y hx hy
      rw [hx] at a1'
      rw [hy] at a2'
      obtain ⟨t, ht⟩ : ∃ t, cc + x + y = t := ⟨_, rfl⟩
      rw [ht] at hnx
      have Hnx : Hid (t % 256 * 256 ^ k + val8 zs.reverse + t / 256 * 256 ^ (k + 1) = X % 256 ^ (k + 1) + Y % 256 ^ (k + 1)) := hnx
      have hti : (cc : Int) + (x : Int) + (y : Int) = (t : Int) := by omega
      have ht5 : t ≤ 512 := by omega
      have kp := isB_lit wr #[.int .u8 ((t : Int) % 256)] [(t : Int) % 256] 1 rfl (by decide) rfl (by simp; omega) (0, 0)
      have hown2 := hown.alloc (.cells #[.int .u8 ((t : Int) % 256)] 5)
      clear hnx hx hy ht hX hY
      by_cases q1 : k < l1
      · have q1' : (k : Int) < (l1 : Int) := by omega
        go_wp2_with fail
        refine a1'.mono ?_
        rintro e w2 ⟨rfl, rfl⟩
        go_wp2_with fail
        refine a2'.mono ?_
        rintro e w2 ⟨rfl, rfl⟩
        go_wp2_with (at_builtin; refine app_bytes _ rfl _ _ rfl w.heap.size _ k zs rfl hown2 (some ⟨wr.heap.size, 0, none⟩) 1 1 [(t : Int) % 256] rfl kp (by omega) (by omega) (by have := hB.size; simp; omega) ?_)
        intro v' w2 hown3 hb2
        have hown4 : w2.ownsRow w.heap.size 5 1 v' (k + 1) ((zs ++ [((t % 256 : Nat) : Int)]).map (Value.int .u8)) := by simpa using hown3
        have hB2 := (hB.alloc hB.size (.cells #[.int .u8 ((t : Int) % 256)] 5)).trans hb2
        have hv2 : Hid (val8 (zs ++ [((t % 256 : Nat) : Int)]).reverse + t / 256 * 256 ^ (k + 1) = X % 256 ^ (k + 1) + Y % 256 ^ (k + 1)) := by show _ = _; rw [rev_snoc, hzl]; exact Hnx.out
        have hzb2 : Hid (∀ z ∈ zs ++ [((t % 256 : Nat) : Int)], 0 ≤ z ∧ z < 256) := append_bytes zs [((t % 256 : Nat) : Int)] hzb (fun z hz => by rw [List.mem_singleton.1 hz]; omega)
        have hzl2 : Hid ((zs ++ [((t % 256 : Nat) : Int)]).length = k + 1) := by show _ = _; rw [List.length_append, hzl]; rfl
        have hti2 : Hid ((t : Int) / 256 = ((t / 256 : Nat) : Int)) := by show _ = _; omega
        have hcc2 : Hid (t / 256 ≤ 2) := by show _ ≤ _; omega
        clear hown3 hown hown2 kp a1' a2' hb2 hzb hv Hnx
        go_wp2
        go_roundw
        case rel => exact ⟨k + 1, t / 256, zs ++ [((t % 256 : Nat) : Int)], by omega, by go_num, by rw [hti2.out], hcc2.out, hzl2.out, hzb2.out, hv2, hown4, hB2⟩
        case measure => simp [intOf]; omega
      · have q1' : ¬ (k : Int) < (l1 : Int) := by omega
        by_cases q2 : k < l2
        · have q2' : (k : Int) < (l2 : Int) := by omega
          go_wp2_with fail
          refine a1'.mono ?_
          rintro e w2 ⟨rfl, rfl⟩
          go_wp2_with fail
          refine a2'.mono ?_
          rintro e w2 ⟨rfl, rfl⟩
          go_wp2_with (at_builtin; refine app_bytes _ rfl _ _ rfl w.heap.size _ k zs rfl hown2 (some ⟨wr.heap.size, 0, none⟩) 1 1 [(t : Int) % 256] rfl kp (by omega) (by omega) (by have := hB.size; simp; omega) ?_)
          intro v' w2 hown3 hb2
          have hown4 : w2.ownsRow w.heap.size 5 1 v' (k + 1) ((zs ++ [((t % 256 : Nat) : Int)]).map (Value.int .u8)) := by simpa using hown3
          have hB2 := (hB.alloc hB.size (.cells #[.int .u8 ((t : Int) % 256)] 5)).trans hb2
          have hv2 : Hid (val8 (zs ++ [((t % 256 : Nat) : Int)]).reverse + t / 256 * 256 ^ (k + 1) = X % 256 ^ (k + 1) + Y % 256 ^ (k + 1)) := by show _ = _; rw [rev_snoc, hzl]; exact Hnx.out
          have hzb2 : Hid (∀ z ∈ zs ++ [((t % 256 : Nat) : Int)], 0 ≤ z ∧ z < 256) := append_bytes zs [((t % 256 : Nat) : Int)] hzb (fun z hz => by rw [List.mem_singleton.1 hz]; omega)
          have hzl2 : Hid ((zs ++ [((t % 256 : Nat) : Int)]).length = k + 1) := by show _ = _; rw [List.length_append, hzl]; rfl
          have hti2 : Hid ((t : Int) / 256 = ((t / 256 : Nat) : Int)) := by show _ = _; omega
          have hcc2 : Hid (t / 256 ≤ 2) := by show _ ≤ _; omega
          clear hown3 hown hown2 kp a1' a2' hb2 hzb hv Hnx
          go_wp2
          go_roundw
          case rel => exact ⟨k + 1, t / 256, zs ++ [((t % 256 : Nat) : Int)], by omega, by go_num, by rw [hti2.out], hcc2.out, hzl2.out, hzb2.out, hv2, hown4, hB2⟩
          case measure => simp [intOf]; omega
        · have q2' : ¬ (k : Int) < (l2 : Int) := by omega
          have q3' : (0 : Int) < (cc : Int) := by omega
          go_wp2_with fail
          refine a1'.mono ?_
          rintro e w2 ⟨rfl, rfl⟩
          go_wp2_with fail
          refine a2'.mono ?_
          rintro e w2 ⟨rfl, rfl⟩
          go_wp2_with (at_builtin; refine app_bytes _ rfl _ _ rfl w.heap.size _ k zs rfl hown2 (some ⟨wr.heap.size, 0, none⟩) 1 1 [(t : Int) % 256] rfl kp (by omega) (by omega) (by have := hB.size; simp; omega) ?_)
          intro v' w2 hown3 hb2
          have hown4 : w2.ownsRow w.heap.size 5 1 v' (k + 1) ((zs ++ [((t % 256 : Nat) : Int)]).map (Value.int .u8)) := by simpa using hown3
          have hB2 := (hB.alloc hB.size (.cells #[.int .u8 ((t : Int) % 256)] 5)).trans hb2
          have hv2 : Hid (val8 (zs ++ [((t % 256 : Nat) : Int)]).reverse + t / 256 * 256 ^ (k + 1) = X % 256 ^ (k + 1) + Y % 256 ^ (k + 1)) := by show _ = _; rw [rev_snoc, hzl]; exact Hnx.out
          have hzb2 : Hid (∀ z ∈ zs ++ [((t % 256 : Nat) : Int)], 0 ≤ z ∧ z < 256) := append_bytes zs [((t % 256 : Nat) : Int)] hzb (fun z hz => by rw [List.mem_singleton.1 hz]; omega)
          have hzl2 : Hid ((zs ++ [((t % 256 : Nat) : Int)]).length = k + 1) := by show _ = _; rw [List.length_append, hzl]; rfl
          have hti2 : Hid ((t : Int) / 256 = ((t / 256 : Nat) : Int)) := by show _ = _; omega
          have hcc2 : Hid (t / 256 ≤ 2) := by show _ ≤ _; omega
          clear hown3 hown hown2 kp a1' a2' hb2 hzb hv Hnx
          go_wp2
          go_roundw
          case rel => exact ⟨k + 1, t / 256, zs ++ [((t % 256 : Nat) : Int)], by omega, by go_num, by rw [hti2.out], hcc2.out, hzl2.out, hzb2.out, hv2, hown4, hB2⟩
          case measure => simp [intOf]; omega
    · have q1' : ¬ (k : Int) < (l1 : Int) := by omega
      have q2' : ¬ (k : Int) < (l2 : Int) := by omega
      obtain rfl : cc = 0 := by omega
      have hv' := hv.out
      have hp1 : 256 ^ l1 ≤ 256 ^ k := Nat.pow_le_pow_right (by decide) (by omega)
      have hp2 : 256 ^ l2 ≤ 256 ^ k := Nat.pow_le_pow_right (by decide) (by omega)
      rw [Nat.mod_eq_of_lt (by omega), Nat.mod_eq_of_lt (by omega), Nat.zero_mul, Nat.add_zero] at hv'
      have Hv : Hid (val8 zs.reverse = X + Y) := hv'
      have hO := ownB_of hown hzb
      obtain ⟨p, c, rfl, hI⟩ := hO.2
      subst hzl
      clear hv' hv hown hX hY hp1 hp2
      have hm0 : ¬ (0 : Int) < 0 := by decide
      go_wp2_with fail
      refine (turned_any hI (by omega)).mono ?_
      rintro e w3 ⟨v3, rfl, hO3, hb3⟩
      have hB3 := below_size hB (Nat.le_refl _) hb3
      go_wp2
      go_ret
      exact ⟨_, _, rfl, hO3.mono hB.size, Hv.out, by rw [List.length_reverse]; omega, hB3⟩
end Go.Proofs.YtgammgdckneoiabDoor
