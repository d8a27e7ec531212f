/- The document's at and turned: a byte from the last one on; bytes the other way round. -/
import Derived.Test.YtncfmhlikmibaaaGreatDoorAdd
import Derived.Test.YtncfmhlikmibaaaGreatDoorRead
import Derived.Test.YtncfmhlikmibaaaGreatDoorIsB
namespace Go.Proofs.YtncfmhlikmibaaaGreatDoor
open Go.RowKit
set_option maxRecDepth 100000
set_option maxHeartbeats 16000000
section

theorem rbyte_at (xs : List Int) (hb : ∀ x ∈ xs, 0 ≤ x ∧ x < 256) (i : Nat) (hi : i < xs.length) : xs.getD (xs.length - 1 - i) 0 = ((Zbv xs / 256 ^ i % 256 : Nat) : Int) := by
 have h := Zep xs hb
 have key : ∀ (k n i : Nat), i < k → (Zb9 k n).getD (k - 1 - i) 0 = ((n / 256 ^ i % 256 : Nat) : Int) := by
  intro k
  induction k with
  | zero => intro n i hi; omega
  | succ k ih =>
   intro n i hi
   rw [Zc5]
   by_cases hk : i = k
   ·subst hk
    rw [show i + 1 - 1 - i = 0 by omega, List.getD_cons_zero]
   rw [show k + 1 - 1 - i = (k - 1 - i) + 1 by omega, List.getD_cons_succ]
   exact ih n i (by omega)
 have e := key xs.length (Zbv xs) i hi
 rwa [h] at e

variable {a : Option Addr} {cap len : Nat} {w : World} {xs : List Int}
theorem Zre (h : IsB w a len cap xs) (i : Nat) (hi : i ≤ 100000) (hl : len ≤ 100000) :
  Calls Tryz.prog 117 #[.slice a len cap, .int .i64 (i : Int)] w fun e w' => e = .returned (.int .i64 ((Zbv xs / 256 ^ i % 256 : Nat) : Int)) ∧ w = w' := by
 have hsz := h.size
 by_cases hlt : i < len
 ·obtain ⟨b, off, rfl, hc⟩ := h.cells (by omega)
  have hck := hc (len - 1 - i) (by omega)
  have hb := rbyte_at xs h.byte i (by omega)
  rw [hsz] at hb
  rw [hb] at hck
  obtain ⟨c, Hc⟩ : ∃ c, Hid (Zbv xs / 256 ^ i % 256 = c) := ⟨_, rfl⟩
  have hc8 : c < 256 := by rw [← Hc.out]; exact Nat.mod_lt _ (by decide)
  rw [Hc.out] at hck ⊢
  have hge : ¬ (len : Int) ≤ (i : Int) := by omega
  have i1 : (len : Int) - 1 - (i : Int) = ((len - 1 - i : Nat) : Int) := by omega
  clear hc hb
  go_enter Tryz.func117, Tryz.ntmps117
  go_wp2
  go_ret
  exact ⟨rfl, rfl⟩
 have hz : Hid (Zbv xs / 256 ^ i % 256 = 0) := by
  show _ = _
  have hlt' := Zei xs h.byte
  rw [hsz] at hlt'
  have : 256 ^ len ≤ 256 ^ i := Nat.pow_le_pow_right (by decide) (by omega)
  rw [Nat.div_eq_of_lt (by omega)]
 have hge : (len : Int) ≤ (i : Int) := by omega
 go_enter Tryz.func117, Tryz.ntmps117
 go_wp2
 go_ret
 exact ⟨Zby (by rw [hz.out]; rfl), rfl⟩

set_option maxRecDepth 100000 in
theorem Zir (h : IsB w a len cap xs) (hl : len ≤ 100000) :
  Calls Tryz.prog 118 #[.slice a len cap] w fun e w' => ∃ v, e = .returned v ∧ Zdp w' w.heap.size v xs.reverse ∧ Below w.heap.size w w' := by
 have hsz := h.size
 go_enter Tryz.func118, Tryz.ntmps118
 go_wp2
 go_loopw [4, 3] (fun i v wr => ∃ (k : Nat) (zs : List Int), k ≤ len ∧ i = .int .i64 ((len : Int) - 1 - (k : Int)) ∧ Hid (zs = xs.reverse.take k) ∧ wr.ownsRow w.heap.size 5 1 v k (zs.map (Value.int .u8)) ∧ Below w.heap.size w wr) (fun i _ _ => (intOf i + 1).toNat)
 case atStart => exact ⟨0, [], Nat.zero_le _, by simp, by show _ = _; simp, World.ownsRow_nil _ _ _ _, Below.refl _ _⟩
 obtain ⟨k, zs, hk, rfl, hzs, hown, hB⟩ := hrel
 by_cases hlt : k < len
 ·obtain ⟨b, off, rfl, hc⟩ := (h.below hB).cells (by omega)
  have hck := hc (len - 1 - k) (by omega)
  obtain ⟨c, hc8, hcx, _⟩ := byteAt xs h.byte (len - 1 - k) (by omega)
  rw [hcx] at hck
  have i1 : (len : Int) - 1 - (k : Int) = ((len - 1 - k : Nat) : Int) := by omega
  rw [i1]
  have hnx : Hid (zs ++ [(c : Int)] = xs.reverse.take (k + 1)) := by
   show _ = _
   rw [hzs.out]
   symm
   rw [List.take_succ_eq_append_getElem (by rw [List.length_reverse]; omega), List.getElem_reverse]
   congr 2
   have : xs[xs.length - 1 - k]'(by omega) = xs.getD (len - 1 - k) 0 := by
    rw [List.getD_eq_getElem?_getD, List.getElem?_eq_getElem (by omega)]
    simp [hsz]
   rw [this, hcx]
  clear hc hcx
  have kp := Zhe wr #[.int .u8 (c : Int)] [(c : Int)] 1 rfl (by decide) rfl (by simp; omega) (0, 0)
  have hown2 := hown.alloc (.cells #[.int .u8 (c : Int)] 5)
  go_wp2_with (at_builtin; refine Zcl _ rfl _ _ rfl w.heap.size _ k zs rfl hown2 (some ⟨wr.heap.size, 0, none⟩) 1 1 [(c : Int)] rfl kp (by omega) (by omega) (by have := hB.size; simp; omega) ?_)
  intro v' w2 hown3 hb2
  have hown4 : w2.ownsRow w.heap.size 5 1 v' (k + 1) ((zs ++ [(c : Int)]).map (Value.int .u8)) := by simpa using hown3
  clear hown3
  have hB2 := (hB.alloc hB.size (.cells #[.int .u8 (c : Int)] 5)).trans hb2
  go_wp2
  go_roundw
  case rel => exact ⟨k + 1, zs ++ [(c : Int)], by omega, by congr 1; omega, hnx, hown4, hB2⟩
  case measure => simp [intOf]
 obtain rfl : k = len := by omega
 have hall : xs.reverse.take k = xs.reverse := List.take_of_length_le (by rw [List.length_reverse]; omega)
 rw [hzs.out, hall] at hown
 have hO := Zbq hown (fun x hx => h.byte x (List.mem_reverse.1 hx))
 have i1 : (k : Int) - 1 - (k : Int) = -1 := by omega
 rw [i1]
 go_wp2
 go_ret
 exact ⟨_, rfl, hO, hB⟩

theorem Ze3 (zs : List Int) (d : Nat) : Zbv (zs ++ [(d : Int)]).reverse = d * 256 ^ zs.length + Zbv zs.reverse := by
 rw [List.reverse_append, List.reverse_singleton, List.singleton_append, Zdq, List.length_reverse, Int.toNat_natCast]
theorem Zm8 (X k : Nat) : X % 256 ^ (k + 1) = X % 256 ^ k + 256 ^ k * (X / 256 ^ k % 256) := by
 rw [Nat.pow_succ, Nat.mod_mul]
theorem sum_step (X Y c V k : Nat) (h : V + c * 256 ^ k = X % 256 ^ k + Y % 256 ^ k) (x y : Nat) (hx : X / 256 ^ k % 256 = x) (hy : Y / 256 ^ k % 256 = y) :
  ((c + x + y) % 256 * 256 ^ k + V) + (c + x + y) / 256 * 256 ^ (k + 1) = X % 256 ^ (k + 1) + Y % 256 ^ (k + 1) := by
 rw [Zm8 X, Zm8 Y, hx, hy, Nat.pow_succ]
 have e := Nat.mod_add_div (c + x + y) 256
 generalize (c + x + y) % 256 = m at *
 generalize (c + x + y) / 256 = q at *
 generalize 256 ^ k = P at *
 have e' : (m + 256 * q) * P = (c + x + y) * P := by rw [e]
 rw [Nat.add_mul, Nat.add_mul, Nat.add_mul] at e'
 have e1 : q * (P * 256) = 256 * q * P := by rw [Nat.mul_comm 256 q, Nat.mul_assoc, Nat.mul_comm 256 P]
 rw [e1, Nat.mul_comm P x, Nat.mul_comm P y]
 omega

set_option maxRecDepth 100000 in
theorem rsum_any {a1 a2 : Option Addr} {l1 l2 c1 c2 : Nat} {ys : List Int} (h1 : IsB w a1 l1 c1 xs) (h2 : IsB w a2 l2 c2 ys) (m1 : l1 ≤ 50000) (m2 : l2 ≤ 50000) :
  Calls Tryz.prog 98 #[.slice a1 l1 c1, .slice a2 l2 c2] w fun e w' => ∃ v zs, e = .returned v ∧ Zdp w' w.heap.size v zs ∧ Zbv zs = Zbv xs + Zbv ys ∧ zs.length ≤ max l1 l2 + 1 ∧ Below w.heap.size w w' := by
 have hX := Zei xs h1.byte
 have hY := Zei ys h2.byte
 rw [h1.size] at hX
 rw [h2.size] at hY
 obtain ⟨X, HX⟩ : ∃ X, Hid (Zbv xs = X) := ⟨_, rfl⟩
 obtain ⟨Y, HY⟩ : ∃ Y, Hid (Zbv ys = Y) := ⟨_, rfl⟩
 rw [HX.out] at hX ⊢
 rw [HY.out] at hY ⊢
 go_enter Tryz.func98, Tryz.ntmps98
 go_wp2
 go_loopw [7, 6, 5] (fun i c v wr => ∃ (k cc : Nat) (zs : List Int), k ≤ max l1 l2 + 1 ∧ i = .int .i64 k ∧ c = .int .i64 cc ∧ cc ≤ 2 ∧ zs.length = k ∧ (∀ z ∈ zs, 0 ≤ z ∧ z < 256) ∧ Hid (Zbv zs.reverse + cc * 256 ^ k = X % 256 ^ k + Y % 256 ^ k) ∧ wr.ownsRow w.heap.size 5 1 v k (zs.map (Value.int .u8)) ∧ Below w.heap.size w wr) (fun i _ _ _ => max l1 l2 + 1 - (intOf i).toNat)
 case atStart => exact ⟨0, 0, [], Nat.zero_le _, rfl, rfl, by decide, rfl, by simp, by show _ = _; simp [Zbv, Nat.mod_one], World.ownsRow_nil _ _ _ _, Below.refl _ _⟩
 obtain ⟨k, cc, zs, hk, rfl, rfl, hcc, hzl, hzb, hv, hown, hB⟩ := hrel
 by_cases hgo : k < l1 ∨ k < l2 ∨ 0 < cc
 ·have hkM : k ≤ max l1 l2 := by
   rcases Nat.lt_or_ge (max l1 l2) k with h | h
   ·exfalso
    have hc0 : 0 < cc := by omega
    have hp1 : 256 ^ l1 ≤ 256 ^ max l1 l2 := Nat.pow_le_pow_right (by decide) (by omega)
    have hp2 : 256 ^ l2 ≤ 256 ^ max l1 l2 := Nat.pow_le_pow_right (by decide) (by omega)
    have hp3 : 256 ^ (max l1 l2 + 1) ≤ 256 ^ k := Nat.pow_le_pow_right (by decide) (by omega)
    rw [Nat.pow_succ] at hp3
    have hv' := hv.out
    have hm1 := Nat.mod_le X (256 ^ k)
    have hm2 := Nat.mod_le Y (256 ^ k)
    have : 1 * 256 ^ k ≤ cc * 256 ^ k := Nat.mul_le_mul_right _ hc0
    have hpos : 0 < 256 ^ max l1 l2 := Nat.pow_pos (by decide)
    omega
   exact h
  have a1' := Zre (h1.below hB) k (by omega) (by omega)
  have a2' := Zre (h2.below hB) k (by omega) (by omega)
  rw [HX.out] at a1'
  rw [HY.out] at a2'
  obtain ⟨x, hx⟩ : ∃ x, X / 256 ^ k % 256 = x := ⟨_, rfl⟩
  obtain ⟨y, hy⟩ : ∃ y, Y / 256 ^ k % 256 = y := ⟨_, rfl⟩
  have hx8 : x < 256 := by rw [← hx]; exact Nat.mod_lt _ (by decide)
  have hy8 : y < 256 := by rw [← hy]; exact Nat.mod_lt _ (by decide)
  have hnx := sum_step X Y cc _ k hv.out x y hx hy
  rw [hx] at a1'
  rw [hy] at a2'
  obtain ⟨t, ht⟩ : ∃ t, cc + x + y = t := ⟨_, rfl⟩
  rw [ht] at hnx
  have Hnx : Hid (t % 256 * 256 ^ k + Zbv zs.reverse + t / 256 * 256 ^ (k + 1) = X % 256 ^ (k + 1) + Y % 256 ^ (k + 1)) := hnx
  have hti : (cc : Int) + (x : Int) + (y : Int) = (t : Int) := by omega
  have ht5 : t ≤ 512 := by omega
  have kp := Zhe wr #[.int .u8 ((t : Int) % 256)] [(t : Int) % 256] 1 rfl (by decide) rfl (by simp; omega) (0, 0)
  have hown2 := hown.alloc (.cells #[.int .u8 ((t : Int) % 256)] 5)
  clear hnx hx hy ht hX hY
  by_cases q1 : k < l1
  ·have q1' : (k : Int) < (l1 : Int) := by omega
   go_wp2_with fail
   refine a1'.mono ?_
   rintro e w2 ⟨rfl, rfl⟩
   go_wp2_with fail
   refine a2'.mono ?_
   rintro e w2 ⟨rfl, rfl⟩
   go_wp2_with (at_builtin; refine Zcl _ rfl _ _ rfl w.heap.size _ k zs rfl hown2 (some ⟨wr.heap.size, 0, none⟩) 1 1 [(t : Int) % 256] rfl kp (by omega) (by omega) (by have := hB.size; simp; omega) ?_)
   intro v' w2 hown3 hb2
   have hown4 : w2.ownsRow w.heap.size 5 1 v' (k + 1) ((zs ++ [((t % 256 : Nat) : Int)]).map (Value.int .u8)) := by simpa using hown3
   have hB2 := (hB.alloc hB.size (.cells #[.int .u8 ((t : Int) % 256)] 5)).trans hb2
   have hv2 : Hid (Zbv (zs ++ [((t % 256 : Nat) : Int)]).reverse + t / 256 * 256 ^ (k + 1) = X % 256 ^ (k + 1) + Y % 256 ^ (k + 1)) := by show _ = _; rw [Ze3, hzl]; exact Hnx.out
   have hzb2 : Hid (∀ z ∈ zs ++ [((t % 256 : Nat) : Int)], 0 ≤ z ∧ z < 256) := Zbm zs [((t % 256 : Nat) : Int)] hzb (fun z hz => by rw [List.mem_singleton.1 hz]; omega)
   have hzl2 : Hid ((zs ++ [((t % 256 : Nat) : Int)]).length = k + 1) := by show _ = _; rw [List.length_append, hzl]; rfl
   have hti2 : Hid ((t : Int) / 256 = ((t / 256 : Nat) : Int)) := by show _ = _; omega
   have hcc2 : Hid (t / 256 ≤ 2) := by show _ ≤ _; omega
   clear hown3 hown hown2 kp a1' a2' hb2 hzb hv Hnx
   go_wp2
   go_roundw
   case rel => exact ⟨k + 1, t / 256, zs ++ [((t % 256 : Nat) : Int)], by omega, by go_num, by rw [hti2.out], hcc2.out, hzl2.out, hzb2.out, hv2, hown4, hB2⟩
   case measure => simp [intOf]; omega
  have q1' : ¬ (k : Int) < (l1 : Int) := by omega
  by_cases q2 : k < l2
  ·have q2' : (k : Int) < (l2 : Int) := by omega
   go_wp2_with fail
   refine a1'.mono ?_
   rintro e w2 ⟨rfl, rfl⟩
   go_wp2_with fail
   refine a2'.mono ?_
   rintro e w2 ⟨rfl, rfl⟩
   go_wp2_with (at_builtin; refine Zcl _ rfl _ _ rfl w.heap.size _ k zs rfl hown2 (some ⟨wr.heap.size, 0, none⟩) 1 1 [(t : Int) % 256] rfl kp (by omega) (by omega) (by have := hB.size; simp; omega) ?_)
   intro v' w2 hown3 hb2
   have hown4 : w2.ownsRow w.heap.size 5 1 v' (k + 1) ((zs ++ [((t % 256 : Nat) : Int)]).map (Value.int .u8)) := by simpa using hown3
   have hB2 := (hB.alloc hB.size (.cells #[.int .u8 ((t : Int) % 256)] 5)).trans hb2
   have hv2 : Hid (Zbv (zs ++ [((t % 256 : Nat) : Int)]).reverse + t / 256 * 256 ^ (k + 1) = X % 256 ^ (k + 1) + Y % 256 ^ (k + 1)) := by show _ = _; rw [Ze3, hzl]; exact Hnx.out
   have hzb2 : Hid (∀ z ∈ zs ++ [((t % 256 : Nat) : Int)], 0 ≤ z ∧ z < 256) := Zbm zs [((t % 256 : Nat) : Int)] hzb (fun z hz => by rw [List.mem_singleton.1 hz]; omega)
   have hzl2 : Hid ((zs ++ [((t % 256 : Nat) : Int)]).length = k + 1) := by show _ = _; rw [List.length_append, hzl]; rfl
   have hti2 : Hid ((t : Int) / 256 = ((t / 256 : Nat) : Int)) := by show _ = _; omega
   have hcc2 : Hid (t / 256 ≤ 2) := by show _ ≤ _; omega
   clear hown3 hown hown2 kp a1' a2' hb2 hzb hv Hnx
   go_wp2
   go_roundw
   case rel => exact ⟨k + 1, t / 256, zs ++ [((t % 256 : Nat) : Int)], by omega, by go_num, by rw [hti2.out], hcc2.out, hzl2.out, hzb2.out, hv2, hown4, hB2⟩
   case measure => simp [intOf]; omega
  have q2' : ¬ (k : Int) < (l2 : Int) := by omega
  have q3' : (0 : Int) < (cc : Int) := by omega
  go_wp2_with fail
  refine a1'.mono ?_
  rintro e w2 ⟨rfl, rfl⟩
  go_wp2_with fail
  refine a2'.mono ?_
  rintro e w2 ⟨rfl, rfl⟩
  go_wp2_with (at_builtin; refine Zcl _ rfl _ _ rfl w.heap.size _ k zs rfl hown2 (some ⟨wr.heap.size, 0, none⟩) 1 1 [(t : Int) % 256] rfl kp (by omega) (by omega) (by have := hB.size; simp; omega) ?_)
  intro v' w2 hown3 hb2
  have hown4 : w2.ownsRow w.heap.size 5 1 v' (k + 1) ((zs ++ [((t % 256 : Nat) : Int)]).map (Value.int .u8)) := by simpa using hown3
  have hB2 := (hB.alloc hB.size (.cells #[.int .u8 ((t : Int) % 256)] 5)).trans hb2
  have hv2 : Hid (Zbv (zs ++ [((t % 256 : Nat) : Int)]).reverse + t / 256 * 256 ^ (k + 1) = X % 256 ^ (k + 1) + Y % 256 ^ (k + 1)) := by show _ = _; rw [Ze3, hzl]; exact Hnx.out
  have hzb2 : Hid (∀ z ∈ zs ++ [((t % 256 : Nat) : Int)], 0 ≤ z ∧ z < 256) := Zbm zs [((t % 256 : Nat) : Int)] hzb (fun z hz => by rw [List.mem_singleton.1 hz]; omega)
  have hzl2 : Hid ((zs ++ [((t % 256 : Nat) : Int)]).length = k + 1) := by show _ = _; rw [List.length_append, hzl]; rfl
  have hti2 : Hid ((t : Int) / 256 = ((t / 256 : Nat) : Int)) := by show _ = _; omega
  have hcc2 : Hid (t / 256 ≤ 2) := by show _ ≤ _; omega
  clear hown3 hown hown2 kp a1' a2' hb2 hzb hv Hnx
  go_wp2
  go_roundw
  case rel => exact ⟨k + 1, t / 256, zs ++ [((t % 256 : Nat) : Int)], by omega, by go_num, by rw [hti2.out], hcc2.out, hzl2.out, hzb2.out, hv2, hown4, hB2⟩
  case measure => simp [intOf]; omega
 have q1' : ¬ (k : Int) < (l1 : Int) := by omega
 have q2' : ¬ (k : Int) < (l2 : Int) := by omega
 obtain rfl : cc = 0 := by omega
 have hv' := hv.out
 have hp1 : 256 ^ l1 ≤ 256 ^ k := Nat.pow_le_pow_right (by decide) (by omega)
 have hp2 : 256 ^ l2 ≤ 256 ^ k := Nat.pow_le_pow_right (by decide) (by omega)
 rw [Nat.mod_eq_of_lt (by omega), Nat.mod_eq_of_lt (by omega), Nat.zero_mul, Nat.add_zero] at hv'
 have Hv : Hid (Zbv zs.reverse = X + Y) := hv'
 have hO := Zbq hown hzb
 obtain ⟨p, c, rfl, hI⟩ := hO.2
 subst hzl
 clear hv' hv hown hX hY hp1 hp2
 have hm0 : ¬ (0 : Int) < 0 := by decide
 go_wp2_with fail
 refine (Zir hI (by omega)).mono ?_
 rintro e w3 ⟨v3, rfl, hO3, hb3⟩
 have hB3 := Zaf hB zo hb3
 go_wp2
 go_ret
 exact ⟨_, _, rfl, hO3.mono hB.size, Hv.out, by rw [List.length_reverse]; omega, hB3⟩




theorem Znu (X K c V k x : Nat) (h : V + c * 256 ^ k = X % 256 ^ k * K) (hx : X / 256 ^ k % 256 = x) :
  ((c + x * K) % 256 * 256 ^ k + V) + (c + x * K) / 256 * 256 ^ (k + 1) = X % 256 ^ (k + 1) * K := by
 rw [show X % 256 ^ (k + 1) = X % 256 ^ k + 256 ^ k * (X / 256 ^ k % 256) by rw [Nat.pow_succ, Nat.mod_mul], hx, Nat.pow_succ, Nat.add_mul (X % 256 ^ k)]
 have e := Nat.mod_add_div (c + x * K) 256
 generalize (c + x * K) % 256 = m at *
 generalize (c + x * K) / 256 = q at *
 generalize 256 ^ k = P at *
 have e' : (m + 256 * q) * P = (c + x * K) * P := by rw [e]
 rw [Nat.add_mul, Nat.add_mul] at e'
 have e1 : q * (P * 256) = 256 * q * P := by rw [Nat.mul_comm 256 q, Nat.mul_assoc, Nat.mul_comm 256 P]
 have e2 : P * x * K = x * K * P := by rw [Nat.mul_comm P x, Nat.mul_assoc, Nat.mul_comm P K, ← Nat.mul_assoc]
 rw [e1, e2]
 omega
theorem Zma (X K c V k : Nat) (h : V + c * 256 ^ k = X % 256 ^ k * K) (hK : K < 256) : c < 256 := by
 have hP : 0 < 256 ^ k := Nat.pow_pos (by decide)
 have h1 := Nat.mod_lt X hP
 have h2 : X % 256 ^ k * K ≤ 256 ^ k * 255 := Nat.mul_le_mul (by omega) (by omega)
 rcases Nat.lt_or_ge c 256 with h' | h'
 ·exact h'
 have : 256 * 256 ^ k ≤ c * 256 ^ k := Nat.mul_le_mul_right _ h'
 omega
theorem Zpc (X K c V k l : Nat) (h : V + c * 256 ^ k = X % 256 ^ k * K) (hK : K < 256) (hX : X < 256 ^ l) (hk : l < k) : c = 0 := by
 rcases Nat.eq_zero_or_pos c with h' | h'
 ·exact h'
 exfalso
 have h1 : 256 ^ (l + 1) ≤ 256 ^ k := Nat.pow_le_pow_right (by decide) hk
 have h2 : 1 * 256 ^ k ≤ c * 256 ^ k := Nat.mul_le_mul_right _ h'
 have h3 : X % 256 ^ k ≤ X := Nat.mod_le _ _
 have h4 : X % 256 ^ k * K ≤ (256 ^ l - 1) * 255 := Nat.mul_le_mul (by omega) (by omega)
 rw [Nat.pow_succ] at h1
 omega
theorem Zf1 (xs : List Int) : ∀ n : Nat, Zbv (xs ++ List.replicate n 0) = Zbv xs * 256 ^ n
 | 0 => by simp
 | n + 1 => by
  rw [List.replicate_succ', ← List.append_assoc, Zo5, Zf1 xs n, Nat.pow_succ, Nat.mul_assoc]
  simp

theorem byte_mul (x K c : Nat) (hx : x < 256) (hK : K < 256) (hc : c < 256) : c + x * K < 65536 ∧ x * K < 65536 := by
 have : x * K ≤ 255 * 255 := Nat.mul_le_mul (by omega) (by omega)
 omega
theorem Zlc (n : Nat) (zs : List Int) (h : ∀ z ∈ zs, 0 ≤ z ∧ z < 256) : ∀ z ∈ List.replicate n (0 : Int) ++ zs, 0 ≤ z ∧ z < 256 := by
 intro z hz
 rcases List.mem_append.1 hz with hz | hz
 ·rw [List.eq_of_mem_replicate hz]; decide
 exact h z hz

set_option maxRecDepth 100000 in
theorem Zpd {a1 : Option Addr} {l1 c1 : Nat} (K z : Nat) (h1 : IsB w a1 l1 c1 xs) (m1 : l1 ≤ 40000) (hK : K < 256) (hz : z ≤ 40000) :
  Calls Tryz.prog 99 #[.slice a1 l1 c1, .int .i64 (K : Int), .int .i64 (z : Int)] w fun e w' => ∃ v zs, e = .returned v ∧ Zdp w' w.heap.size v zs ∧ Zbv zs = Zbv xs * K * 256 ^ z ∧ zs.length ≤ z + l1 + 1 ∧ Below w.heap.size w w' := by
 obtain ⟨i0, hi, hz0, hz1, hz2⟩ := info_parts Tryz.info5
 have hX := Zei xs h1.byte
 rw [h1.size] at hX
 obtain ⟨X, HX⟩ : ∃ X, Hid (Zbv xs = X) := ⟨_, rfl⟩
 rw [HX.out] at hX ⊢
 go_enter Tryz.func99, Tryz.ntmps99
 go_wp2_with (at_make; refine wpList_make_full _ rfl _ _ 66 rfl w.heap.size 5 i0 (.int .u8 0) 1 Tryz.underlying66 hi hz0 hz1 _ _ _ _ z rfl rfl rfl rfl (by rw [hz2]; omega) (by unfold maxLen; omega) zo ?_)
 intro w1 hown0 hgrow
 have hbw : Below w.heap.size w w1 := (Below.refl _ _).grown hgrow zo (by simp)
 have hownz : w1.ownsRow w.heap.size 5 1 (.slice (some ⟨w.heap.size, 0, none⟩) z z) (z + 0) ((List.replicate z (0 : Int) ++ []).map (Value.int .u8)) := by
  have e : (madeCells #[Value.int IntKind.u8 0] z).toList = (List.replicate z (0 : Int) ++ []).map (Value.int .u8) := by
   rw [toList_madeCells_one]; simp
  rw [← e]; exact hown0
 clear hgrow hown0
 go_wp2
 go_loopw [9, 8, 7] (fun i c v wr => ∃ (k cc : Nat) (zs : List Int), k ≤ l1 + 1 ∧ i = .int .i64 k ∧ c = .int .i64 cc ∧ zs.length = k ∧ (∀ z ∈ zs, 0 ≤ z ∧ z < 256) ∧ Hid (Zbv zs.reverse + cc * 256 ^ k = X % 256 ^ k * K) ∧ wr.ownsRow w.heap.size 5 1 v (z + k) ((List.replicate z (0 : Int) ++ zs).map (Value.int .u8)) ∧ Below w.heap.size w wr) (fun i _ _ _ => l1 + 1 - (intOf i).toNat)
 case atStart => exact ⟨0, 0, [], Nat.zero_le _, rfl, rfl, rfl, by simp, by show _ = _; simp [Zbv, Nat.mod_one], hownz, hbw⟩
 obtain ⟨k, cc, zs, hk, rfl, rfl, hzl, hzb, hv, hown, hB⟩ := hrel
 clear hownz hbw
 have hcc := Zma X K cc _ k hv.out hK
 by_cases hgo : k < l1 ∨ 0 < cc
 ·have hkM : k ≤ l1 := by
   rcases Nat.lt_or_ge l1 k with h | h
   ·exfalso
    have := Zpc X K cc _ k l1 hv.out hK hX h
    omega
   exact h
  have a1' := Zre (h1.below hB) k (by omega) (by omega)
  rw [HX.out] at a1'
  obtain ⟨x, hx⟩ : ∃ x, X / 256 ^ k % 256 = x := ⟨_, rfl⟩
  have hx8 : x < 256 := by rw [← hx]; exact Nat.mod_lt _ (by decide)
  have hnx := Znu X K cc _ k x hv.out hx
  rw [hx] at a1'
  obtain ⟨b1, b2⟩ := byte_mul x K cc hx8 hK hcc
  obtain ⟨M, hM⟩ : ∃ M, x * K = M := ⟨_, rfl⟩
  have hMi : (x : Int) * (K : Int) = (M : Int) := by rw [← hM]; simp
  rw [hM] at hnx b1 b2
  obtain ⟨t, ht⟩ : ∃ t, cc + M = t := ⟨_, rfl⟩
  rw [ht] at hnx b1
  have Hnx : Hid (t % 256 * 256 ^ k + Zbv zs.reverse + t / 256 * 256 ^ (k + 1) = X % 256 ^ (k + 1) * K) := hnx
  have hti : (cc : Int) + (M : Int) = (t : Int) := by omega
  have kp := Zhe wr #[.int .u8 ((t : Int) % 256)] [(t : Int) % 256] 1 rfl (by decide) rfl (by simp; omega) (0, 0)
  have hown2 := hown.alloc (.cells #[.int .u8 ((t : Int) % 256)] 5)
  clear hnx hx ht hX hM
  by_cases q1 : k < l1
  ·have q1' : (k : Int) < (l1 : Int) := by omega
   go_wp2_with fail
   refine a1'.mono ?_
   rintro e w2 ⟨rfl, rfl⟩
   go_wp2_with (at_builtin; refine Zcl _ rfl _ _ rfl w.heap.size _ (z + k) (List.replicate z (0 : Int) ++ zs) rfl hown2 (some ⟨wr.heap.size, 0, none⟩) 1 1 [(t : Int) % 256] rfl kp (by omega) (by omega) (by have := hB.size; simp; omega) ?_)
   intro v' w2 hown3 hb2
   have hown4 : w2.ownsRow w.heap.size 5 1 v' (z + (k + 1)) ((List.replicate z (0 : Int) ++ (zs ++ [((t % 256 : Nat) : Int)])).map (Value.int .u8)) := by simpa [Nat.add_assoc] using hown3
   have hB2 := (hB.alloc hB.size (.cells #[.int .u8 ((t : Int) % 256)] 5)).trans hb2
   have hv2 : Hid (Zbv (zs ++ [((t % 256 : Nat) : Int)]).reverse + t / 256 * 256 ^ (k + 1) = X % 256 ^ (k + 1) * K) := by show _ = _; rw [Ze3, hzl]; exact Hnx.out
   have hzb2 : Hid (∀ z ∈ zs ++ [((t % 256 : Nat) : Int)], 0 ≤ z ∧ z < 256) := Zbm zs [((t % 256 : Nat) : Int)] hzb (fun z hz => by rw [List.mem_singleton.1 hz]; omega)
   have hzl2 : Hid ((zs ++ [((t % 256 : Nat) : Int)]).length = k + 1) := by show _ = _; rw [List.length_append, hzl]; rfl
   have hti2 : Hid ((t : Int) / 256 = ((t / 256 : Nat) : Int)) := by show _ = _; omega
   clear hown3 hown hown2 kp a1' hb2 hzb hv Hnx
   go_wp2
   go_roundw
   case rel => exact ⟨k + 1, t / 256, zs ++ [((t % 256 : Nat) : Int)], by omega, by go_num, by rw [hti2.out], hzl2.out, hzb2.out, hv2, hown4, hB2⟩
   case measure => simp [intOf]; omega
  have q1' : ¬ (k : Int) < (l1 : Int) := by omega
  have q3' : (0 : Int) < (cc : Int) := by omega
  go_wp2_with fail
  refine a1'.mono ?_
  rintro e w2 ⟨rfl, rfl⟩
  go_wp2_with (at_builtin; refine Zcl _ rfl _ _ rfl w.heap.size _ (z + k) (List.replicate z (0 : Int) ++ zs) rfl hown2 (some ⟨wr.heap.size, 0, none⟩) 1 1 [(t : Int) % 256] rfl kp (by omega) (by omega) (by have := hB.size; simp; omega) ?_)
  intro v' w2 hown3 hb2
  have hown4 : w2.ownsRow w.heap.size 5 1 v' (z + (k + 1)) ((List.replicate z (0 : Int) ++ (zs ++ [((t % 256 : Nat) : Int)])).map (Value.int .u8)) := by simpa [Nat.add_assoc] using hown3
  have hB2 := (hB.alloc hB.size (.cells #[.int .u8 ((t : Int) % 256)] 5)).trans hb2
  have hv2 : Hid (Zbv (zs ++ [((t % 256 : Nat) : Int)]).reverse + t / 256 * 256 ^ (k + 1) = X % 256 ^ (k + 1) * K) := by show _ = _; rw [Ze3, hzl]; exact Hnx.out
  have hzb2 : Hid (∀ z ∈ zs ++ [((t % 256 : Nat) : Int)], 0 ≤ z ∧ z < 256) := Zbm zs [((t % 256 : Nat) : Int)] hzb (fun z hz => by rw [List.mem_singleton.1 hz]; omega)
  have hzl2 : Hid ((zs ++ [((t % 256 : Nat) : Int)]).length = k + 1) := by show _ = _; rw [List.length_append, hzl]; rfl
  have hti2 : Hid ((t : Int) / 256 = ((t / 256 : Nat) : Int)) := by show _ = _; omega
  clear hown3 hown hown2 kp a1' hb2 hzb hv Hnx
  go_wp2
  go_roundw
  case rel => exact ⟨k + 1, t / 256, zs ++ [((t % 256 : Nat) : Int)], by omega, by go_num, by rw [hti2.out], hzl2.out, hzb2.out, hv2, hown4, hB2⟩
  case measure => simp [intOf]; omega
 have q1' : ¬ (k : Int) < (l1 : Int) := by omega
 obtain rfl : cc = 0 := by omega
 have hv' := hv.out
 have hp1 : 256 ^ l1 ≤ 256 ^ k := Nat.pow_le_pow_right (by decide) (by omega)
 rw [Nat.mod_eq_of_lt (by omega), Nat.zero_mul, Nat.add_zero] at hv'
 have Hv : Hid (Zbv (List.replicate z (0 : Int) ++ zs).reverse = X * K * 256 ^ z) := by
  show _ = _
  rw [List.reverse_append, List.reverse_replicate, Zf1, hv']
 have hO := Zbq hown (Zlc z zs hzb)
 obtain ⟨p, c, rfl, hI⟩ := hO.2
 have hzz : Hid ((List.replicate z (0 : Int) ++ zs).length = z + k) := by show _ = _; rw [List.length_append, List.length_replicate, hzl]
 generalize List.replicate z (0 : Int) ++ zs = ys at *
 rw [hzz.out] at hI ⊢
 clear hv' hv hown hX hp1 hcc hO
 have hm0 : ¬ (0 : Int) < 0 := by decide
 go_wp2_with fail
 refine (Zir hI (by omega)).mono ?_
 rintro e w3 ⟨v3, rfl, hO3, hb3⟩
 have hB3 := Zaf hB zo hb3
 go_wp2
 go_ret
 exact ⟨_, _, rfl, hO3.mono hB.size, Hv.out, by rw [List.length_reverse, hzz.out]; omega, hB3⟩


set_option maxRecDepth 100000 in
theorem fits_any (neg : Bool) (h : IsB w a len cap xs) (hl : len ≤ 100000) :
  Calls Tryz.prog 100 #[.bool neg, .slice a len cap] w fun e w' => ∃ v, e = .returned (.tuple #[.agg #[.bool (Zqv neg (Zbv xs)), v], .int .i64 (Zqu (Zbv xs))]) ∧ Zdp w' w.heap.size v (Zqt (Zbv xs)) ∧ Below w.heap.size w w' := by
 have hb := Zfg w (.cells #[.bool false, .slice none 0 0] 101)
 have hs1 : (w.alloc (.cells #[.bool false, .slice none 0 0] 101)).heap.size = w.heap.size + 1 := by simp
 have z0 := heap_alloc_new w (.cells #[.bool false, .slice none 0 0] 101)
 have hI := h.below hb
 obtain ⟨V, HV⟩ : ∃ V, Hid (Zbv xs = V) := ⟨_, rfl⟩
 rw [HV.out]
 go_enter Tryz.func100, Tryz.ntmps100
 go_wp2_with fail
 generalize w.alloc (.cells #[.bool false, .slice none 0 0] 101) = w1 at *
 refine (made_any neg hI (by omega)).mono ?_
 rintro e w2 ⟨v, rfl, hO, hb2⟩
 rw [HV.out] at hO ⊢
 have u0 := (hb2.block _ (lt_of_block z0)).trans z0
 have hB2 := Zaf hb zo hb2
 have hsz2 := hb2.size
 rw [hs1] at hsz2
 obtain ⟨av, cv, rfl, _⟩ := hO.2
 have Lh : Hid ((mag V).length = Zct V) := mag_len V
 rw [Lh.out] at hO ⊢
 have hvar' : ∀ o, (w2.alloc o).heap[w.heap.size]? = some (.cells #[.bool false, .slice none 0 0] 101 (0, 0)) := fun o => (Below.heap_alloc w2 o _ (lt_of_block u0)).trans u0
 have hc0 := fun o => (Zcf (hvar' o)).1
 have hc1 := fun o => (Zcf (hvar' o)).2.1
 have hf0 := fun o => (Zcf (hvar' o)).2.2.1
 have hf1 := fun o => (Zcf (hvar' o)).2.2.2
 have hBo : ∀ o, Below w.heap.size w (w2.alloc o) := fun o => hB2.alloc hB2.size _
 rw [hs1] at hO
 clear hvar' u0 z0 hb hb2 hI
 by_cases hm : Zct V ≤ 128
 ·have hm' : ¬ (128 : Int) < (Zct V : Int) := by omega
  have e1 : Hid (Zqv neg V = (neg && decide (V ≠ 0))) := by show _ = _; unfold Zqv; rw [decide_eq_true hm, Bool.and_true]
  have e2 : Hid (Zqu V = 0) := by show _ = _; unfold Zqu; rw [if_pos hm]
  have e3 : Hid (Zqt V = mag V) := by show _ = _; unfold Zqt; rw [if_pos hm]
  obtain ⟨bq, hbq⟩ : ∃ bq, Hid ((neg && decide (V ≠ 0)) = bq) := ⟨_, rfl⟩
  rw [hbq.out]
  obtain ⟨n, hn⟩ : ∃ n, Hid (Zct V = n) := ⟨_, rfl⟩
  rw [hn.out] at hm hm' hO ⊢
  go_wp2
  exact bodyPost_ret (v := .tuple #[.agg #[.bool bq, .slice av n cv], .int .i64 0]) (by simp [results, Tryz.results100, go_sem, hc0, hc1]) rfl ⟨_, by rw [e1.out, e2.out, hbq.out], by rw [e3.out]; exact Zdp.put (base := w.heap.size + 1) (b := w.heap.size) (b0 := w.heap.size) (hO.alloc _) (by omega) (by omega), Zbg (b := w.heap.size) (hBo _) zo⟩
 have hm' : (128 : Int) < (Zct V : Int) := by omega
 have e1 : Hid (Zqv neg V = false) := by show _ = _; unfold Zqv; rw [decide_eq_false hm, Bool.and_false]
 have e2 : Hid (Zqu V = 24) := by show _ = _; unfold Zqu; rw [if_neg hm]
 have e3 : Hid (Zqt V = []) := by show _ = _; unfold Zqt; rw [if_neg hm]
 obtain ⟨bq, hbq⟩ : ∃ bq, Hid ((neg && decide (V ≠ 0)) = bq) := ⟨_, rfl⟩
 rw [hbq.out]
 obtain ⟨n, hn⟩ : ∃ n, Hid (Zct V = n) := ⟨_, rfl⟩
 rw [hn.out] at hm hm' hO ⊢
 go_wp2
 exact bodyPost_ret (v := .tuple #[.agg #[.bool false, .slice none 0 0], .int .i64 24]) (by simp [results, Tryz.results100, go_sem, hc0, hc1]) rfl ⟨.slice none 0 0, by rw [e1.out, e2.out], by rw [e3.out]; exact Zbq (n := 0) (World.ownsRow_nil _ _ _ _) (by simp), Zbg (b := w.heap.size) (hBo _) zo⟩

end
end Go.Proofs.YtncfmhlikmibaaaGreatDoor
