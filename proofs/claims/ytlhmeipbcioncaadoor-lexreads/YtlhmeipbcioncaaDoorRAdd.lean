/- The document's at and turned: a byte from the last one on; bytes the other way round. -/
import Derived.Test.YtlhmeipbcioncaaDoorAdd
import Derived.Test.YtlhmeipbcioncaaDoorRead
import Derived.Test.YtlhmeipbcioncaaDoorIsB
import Derived.Test.YtlhmeipbcioncaaDoorArr
import Derived.Test.YtlhmeipbcioncaaDoorMul
namespace Go.Proofs.YtlhmeipbcioncaaDoor
open Go.RowKit

/-- The byte at a place from the last one on. -/
theorem byte_at (xs : List Int) (hb : ∀ x ∈ xs, 0 ≤ x ∧ x < 256) (i : Nat) (hi : i < xs.length) : xs.getD (xs.length - 1 - i) 0 = ((val8 xs / 256 ^ i % 256 : Nat) : Int) := by
  have h := bytesN_val8 xs hb
  have key : ∀ (k n i : Nat), i < k → (bytesN k n).getD (k - 1 - i) 0 = ((n / 256 ^ i % 256 : Nat) : Int) := by
    intro k
    induction k with
    | zero => intro n i hi; omega
    | succ k ih =>
      intro n i hi
      rw [bytesN_front]
      by_cases hk : i = k
      · subst hk
        rw [show i + 1 - 1 - i = 0 by omega, List.getD_cons_zero]
      · rw [show k + 1 - 1 - i = (k - 1 - i) + 1 by omega, List.getD_cons_succ]
        exact ih n i (by omega)
  have e := key xs.length (val8 xs) i hi
  rwa [h] at e

set_option maxHeartbeats 1000000 in
theorem at_any {a : Option Addr} {len cap : Nat} {xs : List Int} {w : World} (h : IsB w a len cap xs) (i : Nat) (hi : i ≤ 100000) (hl : len ≤ 100000) :
    Calls Tryd.prog 70 #[.slice a len cap, .int .i64 (i : Int)] w fun e w' => e = .returned (.int .i64 ((val8 xs / 256 ^ i % 256 : Nat) : Int)) ∧ w = w' := by
  have hsz := h.size
  by_cases hlt : i < len
  · obtain ⟨b, off, rfl, hc⟩ := h.cells (by omega)
    have hck := hc (len - 1 - i) (by omega)
    have hb := byte_at xs h.byte i (by omega)
    rw [hsz] at hb
    rw [hb] at hck
    obtain ⟨c, Hc⟩ : ∃ c, Hid (val8 xs / 256 ^ i % 256 = c) := ⟨_, rfl⟩
    have hc8 : c < 256 := by rw [← Hc.out]; exact Nat.mod_lt _ (by decide)
    rw [Hc.out] at hck ⊢
    have hge : ¬ (len : Int) ≤ (i : Int) := by omega
    have i1 : (len : Int) - 1 - (i : Int) = ((len - 1 - i : Nat) : Int) := by omega
    clear hc hb
    go_enter Tryd.func70, Tryd.ntmps70
    go_wp2
    go_ret
    exact ⟨rfl, rfl⟩
  · have hz : Hid (val8 xs / 256 ^ i % 256 = 0) := by
      show _ = _
      have hlt' := val8_lt xs h.byte
      rw [hsz] at hlt'
      have : 256 ^ len ≤ 256 ^ i := Nat.pow_le_pow_right (by decide) (by omega)
      rw [Nat.div_eq_of_lt (by omega)]
    have hge : (len : Int) ≤ (i : Int) := by omega
    go_enter Tryd.func70, Tryd.ntmps70
    go_wp2
    go_ret
    exact ⟨ret_int (by rw [hz.out]; rfl), rfl⟩

set_option maxRecDepth 100000 in
set_option maxHeartbeats 2000000 in
theorem turned_any {a : Option Addr} {len cap : Nat} {xs : List Int} {w : World} (h : IsB w a len cap xs) (hl : len ≤ 100000) :
    Calls Tryd.prog 71 #[.slice a len cap] w fun e w' => ∃ v, e = .returned v ∧ OwnB w' w.heap.size v xs.reverse ∧ Below w.heap.size w w' := by
  have hsz := h.size
  go_enter Tryd.func71, Tryd.ntmps71
  go_wp2
  go_loopw [4, 3] (fun i v wr => ∃ (k : Nat) (zs : List Int), k ≤ len ∧ i = .int .i64 ((len : Int) - 1 - (k : Int)) ∧ Hid (zs = xs.reverse.take k) ∧ wr.ownsRow w.heap.size 5 1 v k (zs.map (Value.int .u8)) ∧ Below w.heap.size w wr) (fun i _ _ => (intOf i + 1).toNat)
  case atStart => exact ⟨0, [], Nat.zero_le _, by simp, by show _ = _; simp, World.ownsRow_nil _ _ _ _, Below.refl _ _⟩
  case round =>
    obtain ⟨k, zs, hk, rfl, hzs, hown, hB⟩ := hrel
    by_cases hlt : k < len
    · obtain ⟨b, off, rfl, hc⟩ := (h.below hB).cells (by omega)
      have hck := hc (len - 1 - k) (by omega)
      obtain ⟨c, hc8, hcx, _⟩ := byteAt xs h.byte (len - 1 - k) (by omega)
      rw [hcx] at hck
      have i1 : (len : Int) - 1 - (k : Int) = ((len - 1 - k : Nat) : Int) := by omega
      rw [i1]
      have hnx : Hid (zs ++ [(c : Int)] = xs.reverse.take (k + 1)) := by
        show _ = _
        rw [hzs.out]
        symm
        rw [List.take_succ_eq_append_getElem (by rw [List.length_reverse]; omega), List.getElem_reverse]
        congr 2
        have : xs[xs.length - 1 - k]'(by omega) = xs.getD (len - 1 - k) 0 := by
          rw [List.getD_eq_getElem?_getD, List.getElem?_eq_getElem (by omega)]
          simp [hsz]
        rw [this, hcx]
      clear hc hcx
      have kp := isB_lit wr #[.int .u8 (c : Int)] [(c : Int)] 1 rfl (by decide) rfl (by simp; omega) (0, 0)
      have hown2 := hown.alloc (.cells #[.int .u8 (c : Int)] 5)
      go_wp2_with (at_builtin; refine app_bytes _ rfl _ _ rfl w.heap.size _ k zs rfl hown2 (some ⟨wr.heap.size, 0, none⟩) 1 1 [(c : Int)] rfl kp (by omega) (by omega) (by have := hB.size; simp; omega) ?_)
      intro v' w2 hown3 hb2
      have hown4 : w2.ownsRow w.heap.size 5 1 v' (k + 1) ((zs ++ [(c : Int)]).map (Value.int .u8)) := by simpa using hown3
      clear hown3
      have hB2 := (hB.alloc hB.size (.cells #[.int .u8 (c : Int)] 5)).trans hb2
      go_wp2
      go_roundw
      case rel => exact ⟨k + 1, zs ++ [(c : Int)], by omega, by congr 1; omega, hnx, hown4, hB2⟩
      case measure => simp [intOf]
    · obtain rfl : k = len := by omega
      have hall : xs.reverse.take k = xs.reverse := List.take_of_length_le (by rw [List.length_reverse]; omega)
      rw [hzs.out, hall] at hown
      have hO := ownB_of hown (fun x hx => h.byte x (List.mem_reverse.1 hx))
      have i1 : (k : Int) - 1 - (k : Int) = -1 := by omega
      rw [i1]
      go_wp2
      go_ret
      exact ⟨_, rfl, hO, hB⟩
end Go.Proofs.YtlhmeipbcioncaaDoor
namespace Go.Proofs.YtlhmeipbcioncaaDoor
open Go.RowKit

theorem rev_snoc (zs : List Int) (d : Nat) : val8 (zs ++ [(d : Int)]).reverse = d * 256 ^ zs.length + val8 zs.reverse := by
  rw [List.reverse_append, List.reverse_singleton, List.singleton_append, val8_cons, List.length_reverse, Int.toNat_natCast]
theorem mod_step (X k : Nat) : X % 256 ^ (k + 1) = X % 256 ^ k + 256 ^ k * (X / 256 ^ k % 256) := by
  rw [Nat.pow_succ, Nat.mod_mul]
theorem sum_step (X Y c V k : Nat) (h : V + c * 256 ^ k = X % 256 ^ k + Y % 256 ^ k) (x y : Nat) (hx : X / 256 ^ k % 256 = x) (hy : Y / 256 ^ k % 256 = y) :
    ((c + x + y) % 256 * 256 ^ k + V) + (c + x + y) / 256 * 256 ^ (k + 1) = X % 256 ^ (k + 1) + Y % 256 ^ (k + 1) := by
  rw [mod_step X, mod_step Y, hx, hy, Nat.pow_succ]
  have e := Nat.mod_add_div (c + x + y) 256
  generalize (c + x + y) % 256 = m at *
  generalize (c + x + y) / 256 = q at *
  generalize 256 ^ k = P at *
  have e' : (m + 256 * q) * P = (c + x + y) * P := by rw [e]
  rw [Nat.add_mul, Nat.add_mul, Nat.add_mul] at e'
  have e1 : q * (P * 256) = 256 * q * P := by rw [Nat.mul_comm 256 q, Nat.mul_assoc, Nat.mul_comm 256 P]
  rw [e1, Nat.mul_comm P x, Nat.mul_comm P y]
  omega

set_option maxRecDepth 100000 in
set_option maxHeartbeats 1000000 in
theorem rsum_any {a1 a2 : Option Addr} {l1 l2 c1 c2 : Nat} {xs ys : List Int} {w : World} (h1 : IsB w a1 l1 c1 xs) (h2 : IsB w a2 l2 c2 ys) (m1 : l1 ≤ 50000) (m2 : l2 ≤ 50000) :
    Calls Tryd.prog 55 #[.slice a1 l1 c1, .slice a2 l2 c2] w fun e w' => ∃ v zs, e = .returned v ∧ OwnB w' w.heap.size v zs ∧ val8 zs = val8 xs + val8 ys ∧ zs.length ≤ max l1 l2 + 1 ∧ Below w.heap.size w w' := by
  have hX := val8_lt xs h1.byte
  have hY := val8_lt ys h2.byte
  rw [h1.size] at hX
  rw [h2.size] at hY
  obtain ⟨X, HX⟩ : ∃ X, Hid (val8 xs = X) := ⟨_, rfl⟩
  obtain ⟨Y, HY⟩ : ∃ Y, Hid (val8 ys = Y) := ⟨_, rfl⟩
  rw [HX.out] at hX ⊢
  rw [HY.out] at hY ⊢
  go_enter Tryd.func55, Tryd.ntmps55
  go_wp2
  go_loopw [7, 6, 5] (fun i c v wr => ∃ (k cc : Nat) (zs : List Int), k ≤ max l1 l2 + 1 ∧ i = .int .i64 k ∧ c = .int .i64 cc ∧ cc ≤ 2 ∧ zs.length = k ∧ (∀ z ∈ zs, 0 ≤ z ∧ z < 256) ∧ Hid (val8 zs.reverse + cc * 256 ^ k = X % 256 ^ k + Y % 256 ^ k) ∧ wr.ownsRow w.heap.size 5 1 v k (zs.map (Value.int .u8)) ∧ Below w.heap.size w wr) (fun i _ _ _ => max l1 l2 + 1 - (intOf i).toNat)
  case atStart => exact ⟨0, 0, [], Nat.zero_le _, rfl, rfl, by decide, rfl, by simp, by show _ = _; simp [val8, Nat.mod_one], World.ownsRow_nil _ _ _ _, Below.refl _ _⟩
  case round =>
    obtain ⟨k, cc, zs, hk, rfl, rfl, hcc, hzl, hzb, hv, hown, hB⟩ := hrel
    by_cases hgo : k < l1 ∨ k < l2 ∨ 0 < cc
    · have hkM : k ≤ max l1 l2 := by
        rcases Nat.lt_or_ge (max l1 l2) k with h | h
        · exfalso
          have hc0 : 0 < cc := by omega
          have hp1 : 256 ^ l1 ≤ 256 ^ max l1 l2 := Nat.pow_le_pow_right (by decide) (by omega)
          have hp2 : 256 ^ l2 ≤ 256 ^ max l1 l2 := Nat.pow_le_pow_right (by decide) (by omega)
          have hp3 : 256 ^ (max l1 l2 + 1) ≤ 256 ^ k := Nat.pow_le_pow_right (by decide) (by omega)
          rw [Nat.pow_succ] at hp3
          have hv' := hv.out
          have hm1 := Nat.mod_le X (256 ^ k)
          have hm2 := Nat.mod_le Y (256 ^ k)
          have : 1 * 256 ^ k ≤ cc * 256 ^ k := Nat.mul_le_mul_right _ hc0
          have hpos : 0 < 256 ^ max l1 l2 := Nat.pow_pos (by decide)
          omega
        · exact h
      have a1' := at_any (h1.below hB) k (by omega) (by omega)
      have a2' := at_any (h2.below hB) k (by omega) (by omega)
      rw [HX.out] at a1'
      rw [HY.out] at a2'
      obtain ⟨x, hx⟩ : ∃ x, X / 256 ^ k % 256 = x := ⟨_, rfl⟩
      obtain ⟨y, hy⟩ : ∃ y, Y / 256 ^ k % 256 = y := ⟨_, rfl⟩
      have hx8 : x < 256 := by rw [← hx]; exact Nat.mod_lt _ (by decide)
      have hy8 : y < 256 := by rw [← hy]; exact Nat.mod_lt _ (by decide)
      have hnx := sum_step X Y cc _ k hv.out x y hx hy
      rw [hx] at a1'
      rw [hy] at a2'
      obtain ⟨t, ht⟩ : ∃ t, cc + x + y = t := ⟨_, rfl⟩
      rw [ht] at hnx
      have Hnx : Hid (t % 256 * 256 ^ k + val8 zs.reverse + t / 256 * 256 ^ (k + 1) = X % 256 ^ (k + 1) + Y % 256 ^ (k + 1)) := hnx
      have hti : (cc : Int) + (x : Int) + (y : Int) = (t : Int) := by omega
      have ht5 : t ≤ 512 := by omega
      have kp := isB_lit wr #[.int .u8 ((t : Int) % 256)] [(t : Int) % 256] 1 rfl (by decide) rfl (by simp; omega) (0, 0)
      have hown2 := hown.alloc (.cells #[.int .u8 ((t : Int) % 256)] 5)
      clear hnx hx hy ht hX hY
      by_cases q1 : k < l1
      · have q1' : (k : Int) < (l1 : Int) := by omega
        go_wp2_with fail
        refine a1'.mono ?_
        rintro e w2 ⟨rfl, rfl⟩
        go_wp2_with fail
        refine a2'.mono ?_
        rintro e w2 ⟨rfl, rfl⟩
        go_wp2_with (at_builtin; refine app_bytes _ rfl _ _ rfl w.heap.size _ k zs rfl hown2 (some ⟨wr.heap.size, 0, none⟩) 1 1 [(t : Int) % 256] rfl kp (by omega) (by omega) (by have := hB.size; simp; omega) ?_)
        intro v' w2 hown3 hb2
        have hown4 : w2.ownsRow w.heap.size 5 1 v' (k + 1) ((zs ++ [((t % 256 : Nat) : Int)]).map (Value.int .u8)) := by simpa using hown3
        have hB2 := (hB.alloc hB.size (.cells #[.int .u8 ((t : Int) % 256)] 5)).trans hb2
        have hv2 : Hid (val8 (zs ++ [((t % 256 : Nat) : Int)]).reverse + t / 256 * 256 ^ (k + 1) = X % 256 ^ (k + 1) + Y % 256 ^ (k + 1)) := by show _ = _; rw [rev_snoc, hzl]; exact Hnx.out
        have hzb2 : Hid (∀ z ∈ zs ++ [((t % 256 : Nat) : Int)], 0 ≤ z ∧ z < 256) := append_bytes zs [((t % 256 : Nat) : Int)] hzb (fun z hz => by rw [List.mem_singleton.1 hz]; omega)
        have hzl2 : Hid ((zs ++ [((t % 256 : Nat) : Int)]).length = k + 1) := by show _ = _; rw [List.length_append, hzl]; rfl
        have hti2 : Hid ((t : Int) / 256 = ((t / 256 : Nat) : Int)) := by show _ = _; omega
        have hcc2 : Hid (t / 256 ≤ 2) := by show _ ≤ _; omega
        clear hown3 hown hown2 kp a1' a2' hb2 hzb hv Hnx
        go_wp2
        go_roundw
        case rel => exact ⟨k + 1, t / 256, zs ++ [((t % 256 : Nat) : Int)], by omega, by go_num, by rw [hti2.out], hcc2.out, hzl2.out, hzb2.out, hv2, hown4, hB2⟩
        case measure => simp [intOf]; omega
      · have q1' : ¬ (k : Int) < (l1 : Int) := by omega
        by_cases q2 : k < l2
        · have q2' : (k : Int) < (l2 : Int) := by omega
          go_wp2_with fail
          refine a1'.mono ?_
          rintro e w2 ⟨rfl, rfl⟩
          go_wp2_with fail
          refine a2'.mono ?_
          rintro e w2 ⟨rfl, rfl⟩
          go_wp2_with (at_builtin; refine app_bytes _ rfl _ _ rfl w.heap.size _ k zs rfl hown2 (some ⟨wr.heap.size, 0, none⟩) 1 1 [(t : Int) % 256] rfl kp (by omega) (by omega) (by have := hB.size; simp; omega) ?_)
          intro v' w2 hown3 hb2
          have hown4 : w2.ownsRow w.heap.size 5 1 v' (k + 1) ((zs ++ [((t % 256 : Nat) : Int)]).map (Value.int .u8)) := by simpa using hown3
          have hB2 := (hB.alloc hB.size (.cells #[.int .u8 ((t : Int) % 256)] 5)).trans hb2
          have hv2 : Hid (val8 (zs ++ [((t % 256 : Nat) : Int)]).reverse + t / 256 * 256 ^ (k + 1) = X % 256 ^ (k + 1) + Y % 256 ^ (k + 1)) := by show _ = _; rw [rev_snoc, hzl]; exact Hnx.out
          have hzb2 : Hid (∀ z ∈ zs ++ [((t % 256 : Nat) : Int)], 0 ≤ z ∧ z < 256) := append_bytes zs [((t % 256 : Nat) : Int)] hzb (fun z hz => by rw [List.mem_singleton.1 hz]; omega)
          have hzl2 : Hid ((zs ++ [((t % 256 : Nat) : Int)]).length = k + 1) := by show _ = _; rw [List.length_append, hzl]; rfl
          have hti2 : Hid ((t : Int) / 256 = ((t / 256 : Nat) : Int)) := by show _ = _; omega
          have hcc2 : Hid (t / 256 ≤ 2) := by show _ ≤ _; omega
          clear hown3 hown hown2 kp a1' a2' hb2 hzb hv Hnx
          go_wp2
          go_roundw
          case rel => exact ⟨k + 1, t / 256, zs ++ [((t % 256 : Nat) : Int)], by omega, by go_num, by rw [hti2.out], hcc2.out, hzl2.out, hzb2.out, hv2, hown4, hB2⟩
          case measure => simp [intOf]; omega
        · have q2' : ¬ (k : Int) < (l2 : Int) := by omega
          have q3' : (0 : Int) < (cc : Int) := by omega
          go_wp2_with fail
          refine a1'.mono ?_
          rintro e w2 ⟨rfl, rfl⟩
          go_wp2_with fail
          refine a2'.mono ?_
          rintro e w2 ⟨rfl, rfl⟩
          go_wp2_with (at_builtin; refine app_bytes _ rfl _ _ rfl w.heap.size _ k zs rfl hown2 (some ⟨wr.heap.size, 0, none⟩) 1 1 [(t : Int) % 256] rfl kp (by omega) (by omega) (by have := hB.size; simp; omega) ?_)
          intro v' w2 hown3 hb2
          have hown4 : w2.ownsRow w.heap.size 5 1 v' (k + 1) ((zs ++ [((t % 256 : Nat) : Int)]).map (Value.int .u8)) := by simpa using hown3
          have hB2 := (hB.alloc hB.size (.cells #[.int .u8 ((t : Int) % 256)] 5)).trans hb2
          have hv2 : Hid (val8 (zs ++ [((t % 256 : Nat) : Int)]).reverse + t / 256 * 256 ^ (k + 1) = X % 256 ^ (k + 1) + Y % 256 ^ (k + 1)) := by show _ = _; rw [rev_snoc, hzl]; exact Hnx.out
          have hzb2 : Hid (∀ z ∈ zs ++ [((t % 256 : Nat) : Int)], 0 ≤ z ∧ z < 256) := append_bytes zs [((t % 256 : Nat) : Int)] hzb (fun z hz => by rw [List.mem_singleton.1 hz]; omega)
          have hzl2 : Hid ((zs ++ [((t % 256 : Nat) : Int)]).length = k + 1) := by show _ = _; rw [List.length_append, hzl]; rfl
          have hti2 : Hid ((t : Int) / 256 = ((t / 256 : Nat) : Int)) := by show _ = _; omega
          have hcc2 : Hid (t / 256 ≤ 2) := by show _ ≤ _; omega
          clear hown3 hown hown2 kp a1' a2' hb2 hzb hv Hnx
          go_wp2
          go_roundw
          case rel => exact ⟨k + 1, t / 256, zs ++ [((t % 256 : Nat) : Int)], by omega, by go_num, by rw [hti2.out], hcc2.out, hzl2.out, hzb2.out, hv2, hown4, hB2⟩
          case measure => simp [intOf]; omega
    · have q1' : ¬ (k : Int) < (l1 : Int) := by omega
      have q2' : ¬ (k : Int) < (l2 : Int) := by omega
      obtain rfl : cc = 0 := by omega
      have hv' := hv.out
      have hp1 : 256 ^ l1 ≤ 256 ^ k := Nat.pow_le_pow_right (by decide) (by omega)
      have hp2 : 256 ^ l2 ≤ 256 ^ k := Nat.pow_le_pow_right (by decide) (by omega)
      rw [Nat.mod_eq_of_lt (by omega), Nat.mod_eq_of_lt (by omega), Nat.zero_mul, Nat.add_zero] at hv'
      have Hv : Hid (val8 zs.reverse = X + Y) := hv'
      have hO := ownB_of hown hzb
      obtain ⟨p, c, rfl, hI⟩ := hO.2
      subst hzl
      clear hv' hv hown hX hY hp1 hp2
      have hm0 : ¬ (0 : Int) < 0 := by decide
      go_wp2_with fail
      refine (turned_any hI (by omega)).mono ?_
      rintro e w3 ⟨v3, rfl, hO3, hb3⟩
      have hB3 := below_size hB (Nat.le_refl _) hb3
      go_wp2
      go_ret
      exact ⟨_, _, rfl, hO3.mono hB.size, Hv.out, by rw [List.length_reverse]; omega, hB3⟩
end Go.Proofs.YtlhmeipbcioncaaDoor
namespace Go.Proofs.YtlhmeipbcioncaaDoor
open Go.RowKit

theorem tenth_step (A Q r c : Nat) (h : A = Q * 10 + r) : A * 256 + c = (Q * 256 + (r * 256 + c) / 10) * 10 + (r * 256 + c) % 10 := by omega
theorem val8_take (xs : List Int) (k c : Nat) (h : xs.take (k + 1) = xs.take k ++ [(c : Int)]) : val8 (xs.take (k + 1)) = val8 (xs.take k) * 256 + c := by
  rw [h, val8_snoc]; simp

/-- How long a slice is. -/
def lenS : Value → Nat
  | .slice _ n _ => n
  | _ => 0
theorem decN_rev (j V : Nat) : (decN (j + 1) V).reverse = (decN j V).reverse ++ [((48 + V / 10 ^ j % 10 : Nat) : Int)] := by
  rw [decN_front, List.reverse_cons]
theorem dec_of (j V : Nat) (h0 : V / 10 ^ j ≠ 0) (h1 : V / 10 ^ (j + 1) = 0) (hj : j + 1 ≤ 315) : decN (j + 1) V = dec V := by
  have hV : V < 10 ^ (j + 1) := by
    rcases Nat.lt_or_ge V (10 ^ (j + 1)) with h | h
    · exact h
    · have := Nat.div_pos h (Nat.pow_pos (by decide)); omega
  unfold dec
  obtain ⟨m, hm⟩ : ∃ m, 315 = m + (j + 1) := ⟨315 - (j + 1), by omega⟩
  rw [hm, decN_pad m _ _ hV]
  symm
  apply drop_rep
  rw [decN_front]
  have hd : V / 10 ^ j < 10 := Nat.div_lt_of_lt_mul (by rw [Nat.pow_succ] at hV; omega)
  simp only [List.getD_cons_zero]
  clear hV h1 hm
  generalize V / 10 ^ j = X at *
  omega
theorem ten_end (V j : Nat) (hV : V < 256 ^ 128) (h : V / 10 ^ j ≠ 0) : j < 309 := by
  rcases Nat.lt_or_ge j 309 with h' | h'
  · exact h'
  · exact absurd (Nat.div_eq_of_lt (Nat.lt_of_lt_of_le hV (big10 j h'))) h
end Go.Proofs.YtlhmeipbcioncaaDoor
namespace Go.Proofs.YtlhmeipbcioncaaDoor
open Go.RowKit

theorem app_some_keep {ops : Array Oper} {rest : List Oper} {o : Oper} {a : Act} {Q : Exit → Act → World → Prop} (w : World) (hgd : o.guard = none) (s x : Operand)
    (ho : o.op = .call { callee := .builtin .append, args := #[s, x], argTypes := #[36, 36] })
    (base g n cap0 : Nat) (xs : List Int) (hs : a.eval s = .slice (some ⟨g, 0, none⟩) n cap0) (hown : w.ownsRow base 5 1 (.slice (some ⟨g, 0, none⟩) n cap0) n (xs.map (Value.int .u8)))
    (ad : Addr) (len cap : Nat) (ys : List Int) (hx : a.eval x = .slice (some ad) len cap) (hB : IsB w (some ad) len cap ys) (h47 : n + len ≤ 140737488500000) (hbase : base ≤ w.heap.size)
    (h : ∀ v' w', w'.ownsRow base 5 1 v' (n + len) ((xs ++ ys).map (Value.int .u8)) → Below base w w' → (∀ k, k < w.heap.size → (∀ g' n' c', Value.slice (some ⟨g, 0, none⟩) n cap0 = .slice (some ⟨g', 0, none⟩) n' c' → k ≠ g') → w'.heap[k]? = w.heap[k]?) → wpList Tryd.prog ops Q rest (a.put o.dst v') w') : wpList Tryd.prog ops Q (o :: rest) a w := by
  obtain ⟨i0, hi, hz0, hz1, hz2⟩ := info_parts Tryd.info5
  have hbg : base ≤ g := (hown.lt g rfl).1
  by_cases hroom : n + len ≤ cap0
  · refine wpList_append_fits w hgd s x 36 ho base 5 i0 1 Tryd.underlying36 hi hz1 g n cap0 _ hs hown ad len cap (ys.map (Value.int .u8)) hx hB.lenMap (hB.cellsAt ad rfl) hB.one hroom ?_
    intro w' hown' hgrow
    rw [← List.map_append] at hown'
    exact h _ w' hown' ((Below.refl _ _).grown hgrow hbase (by simpa using hbg)) (fun k hk hne => hgrow.block k hk (fun e => hne g n cap0 rfl (Option.some.inj e)))
  · have hr := run_append_grow (P := Tryd.prog) w 36 o.type 5 i0 (.int .u8 0) Tryd.underlying36 hi hz0 ⟨g, 0, none⟩ n cap0 (xs.map (Value.int .u8)) (by rw [hz1]; exact hown.1) (hown.cells (g := g) rfl) ad len cap (ys.map (Value.int .u8)) (by rw [hz1]; exact hB.lenMap) (hB.cellsAt ad rfl) (by omega) (by omega)
      (by have := nextcap_le (n + len) cap0 (by omega); rw [hz2]; omega)
    refine Lib.wpList_append_run w hgd s x 36 36 ho _ _ hs hx _ _ hr ?_
    have hge := grownCap_ge w (n + len) cap0 5
    have hcm : grownCap w (n + len) cap0 5 ≤ maxLen := grownCap_le_maxLen w (n + len) cap0 5 (by unfold maxLen; omega)
    have hl1 : (xs.map (Value.int .u8)).length = n := by simpa using hown.1
    have hl2 : (ys.map (Value.int .u8)).length = len := by simpa using hB.lenMap
    refine h _ _ ⟨?_, .inr ⟨w.heap.size, _, _, rfl, hbase, heap_alloc_new w.drew _, hge, hcm, ?_, ?_⟩⟩ ((Below.refl _ _).drew.alloc hbase _) (fun k hk _ => Below.heap_alloc w.drew _ k hk)
    · rw [List.map_append, List.length_append, hl1, hl2, Nat.mul_one]
    · simp only [Array.size_append, List.size_toArray, size_zeroCells, hl1, hl2]
      show n + len + (grownCap w (n + len) cap0 5 - (n + len)) * 1 = _
      omega
    · rw [Array.toList_append, Array.toList_append, List.map_append]
      simp only [Nat.mul_one]
      exact List.take_left' (by rw [List.length_append]; omega)

theorem app_keep {ops : Array Oper} {rest : List Oper} {o : Oper} {a : Act} {Q : Exit → Act → World → Prop} (w : World) (hgd : o.guard = none) (s x : Operand)
    (ho : o.op = .call { callee := .builtin .append, args := #[s, x], argTypes := #[36, 36] })
    (base : Nat) (v : Value) (n : Nat) (xs : List Int) (hs : a.eval s = v) (hown : w.ownsRow base 5 1 v n (xs.map (Value.int .u8)))
    (ab : Option Addr) (len cap : Nat) (ys : List Int) (hx : a.eval x = .slice ab len cap) (hB : IsB w ab len cap ys) (h47 : n + len ≤ 140737488500000) (h47' : len ≤ 140737488355328) (hbase : base ≤ w.heap.size)
    (h : ∀ v' w', w'.ownsRow base 5 1 v' (n + len) ((xs ++ ys).map (Value.int .u8)) → Below base w w' → (∀ k, k < w.heap.size → (∀ g' n' c', v = .slice (some ⟨g', 0, none⟩) n' c' → k ≠ g') → w'.heap[k]? = w.heap[k]?) → wpList Tryd.prog ops Q rest (a.put o.dst v') w') : wpList Tryd.prog ops Q (o :: rest) a w := by
  obtain ⟨i0, hi, hz0, hz1, hz2⟩ := info_parts Tryd.info5
  cases ab with
  | none =>
    obtain ⟨rfl, rfl⟩ := hB.nil' rfl
    obtain rfl : ys = [] := List.eq_nil_of_length_eq_zero hB.size
    refine wpList_append_own_none hgd s x 36 ho base 5 i0 1 Tryd.underlying36 hi v n _ hs hown hx ?_
    exact h v w (by simpa using hown) (Below.refl _ _) (fun _ _ _ => rfl)
  | some ad =>
    have hown0 := hown
    rcases hown.2 with ⟨rfl, rfl⟩ | ⟨g, cap0, cur, rfl, _⟩
    · refine wpList_append_own w hgd s x 36 ho base 5 i0 (.int .u8 0) 1 1 Tryd.underlying36 hi hz0 hz1 hz2 rfl (by decide) _ 0 _ hs hown0 ad len cap (ys.map (Value.int .u8)) hx hB.lenMap (hB.cellsAt ad rfl) hB.one (by unfold maxLen; omega) (by omega) hbase ?_
      intro v' w' hown' hgrow _
      rw [← List.map_append] at hown'
      exact h v' w' hown' ((Below.refl _ _).grown hgrow hbase (fun j hj => (hown0.lt j hj).1)) (fun k hk hne => hgrow.block k hk (fun e => by cases e))
    · exact app_some_keep w hgd s x ho base g n cap0 xs hs hown0 ad len cap ys hx hB h47 hbase h
/-- A slice whose block is as it was. -/
theorem IsB.keep {w w' : World} {a : Option Addr} {len cap : Nat} {xs : List Int} (h : IsB w a len cap xs) (hk : ∀ b off, a = some ⟨b, off, none⟩ → b < w.heap.size → w'.heap[b]? = w.heap[b]?) : IsB w' a len cap xs :=
  ⟨h.size, h.room, h.most, h.nil0, h.byte, fun h0 => by
    obtain ⟨b, off, ha, hc⟩ := h.cells h0
    refine ⟨b, off, ha, fun i hi => ?_⟩
    have hl := block_lt_of_cell (hc i hi)
    exact (World.cell?_of_block (w := w) (hk b off ha hl)).trans (hc i hi)⟩
end Go.Proofs.YtlhmeipbcioncaaDoor
namespace Go.Proofs.YtlhmeipbcioncaaDoor
open Go.RowKit

/-- The text of any number: none where it can not be. -/
def txtR (n : Bool) (xs : List Int) : List Int := if rightB n xs then txt n (val8 xs) else []

theorem right_pos {n : Bool} {xs : List Int} (hr : rightB n xs = true) (hb : ∀ x ∈ xs, 0 ≤ x ∧ x < 256) (h0 : 0 < xs.length) : xs = mag (val8 xs) ∧ val8 xs ≠ 0 ∧ val8 xs < 256 ^ 128 := by
  cases xs with
  | nil => simp at h0
  | cons b r =>
    unfold rightB at hr
    rw [if_neg (by simp)] at hr
    simp only [Bool.and_eq_true, decide_eq_true_eq] at hr
    obtain ⟨m1, m2⟩ := mag_cons b r hb (by simpa using hr.2)
    exact ⟨m1.symm, m2, Nat.lt_of_lt_of_le (val8_lt _ hb) (Nat.pow_le_pow_right (by decide) hr.1)⟩

theorem run_field1 (b : Bool) (v : Value) (w : World) : (Instr.field 58 (.agg #[.bool b, v]) 1).run Tryd.prog w = .ok v w := by
  simp [Instr.field, go_sem]
  rfl

end Go.Proofs.YtlhmeipbcioncaaDoor
namespace Go.Proofs.YtlhmeipbcioncaaDoor

theorem times_step (X K c V k x : Nat) (h : V + c * 256 ^ k = X % 256 ^ k * K) (hx : X / 256 ^ k % 256 = x) :
    ((c + x * K) % 256 * 256 ^ k + V) + (c + x * K) / 256 * 256 ^ (k + 1) = X % 256 ^ (k + 1) * K := by
  rw [show X % 256 ^ (k + 1) = X % 256 ^ k + 256 ^ k * (X / 256 ^ k % 256) by rw [Nat.pow_succ, Nat.mod_mul], hx, Nat.pow_succ, Nat.add_mul (X % 256 ^ k)]
  have e := Nat.mod_add_div (c + x * K) 256
  generalize (c + x * K) % 256 = m at *
  generalize (c + x * K) / 256 = q at *
  generalize 256 ^ k = P at *
  have e' : (m + 256 * q) * P = (c + x * K) * P := by rw [e]
  rw [Nat.add_mul, Nat.add_mul] at e'
  have e1 : q * (P * 256) = 256 * q * P := by rw [Nat.mul_comm 256 q, Nat.mul_assoc, Nat.mul_comm 256 P]
  have e2 : P * x * K = x * K * P := by rw [Nat.mul_comm P x, Nat.mul_assoc, Nat.mul_comm P K, ← Nat.mul_assoc]
  rw [e1, e2]
  omega
theorem times_carry (X K c V k : Nat) (h : V + c * 256 ^ k = X % 256 ^ k * K) (hK : K < 256) : c < 256 := by
  have hP : 0 < 256 ^ k := Nat.pow_pos (by decide)
  have h1 := Nat.mod_lt X hP
  have h2 : X % 256 ^ k * K ≤ 256 ^ k * 255 := Nat.mul_le_mul (by omega) (by omega)
  rcases Nat.lt_or_ge c 256 with h' | h'
  · exact h'
  · have : 256 * 256 ^ k ≤ c * 256 ^ k := Nat.mul_le_mul_right _ h'
    omega
theorem times_end (X K c V k l : Nat) (h : V + c * 256 ^ k = X % 256 ^ k * K) (hK : K < 256) (hX : X < 256 ^ l) (hk : l < k) : c = 0 := by
  rcases Nat.eq_zero_or_pos c with h' | h'
  · exact h'
  · exfalso
    have h1 : 256 ^ (l + 1) ≤ 256 ^ k := Nat.pow_le_pow_right (by decide) hk
    have h2 : 1 * 256 ^ k ≤ c * 256 ^ k := Nat.mul_le_mul_right _ h'
    have h3 : X % 256 ^ k ≤ X := Nat.mod_le _ _
    have h4 : X % 256 ^ k * K ≤ (256 ^ l - 1) * 255 := Nat.mul_le_mul (by omega) (by omega)
    rw [Nat.pow_succ] at h1
    omega
theorem val8_noughts (xs : List Int) : ∀ n : Nat, val8 (xs ++ List.replicate n 0) = val8 xs * 256 ^ n
  | 0 => by simp
  | n + 1 => by
    rw [List.replicate_succ', ← List.append_assoc, val8_snoc, val8_noughts xs n, Nat.pow_succ, Nat.mul_assoc]
    simp
/-- The document's product, one byte of y more. -/
theorem rmul_step (X Y i : Nat) : X * (Y % 256 ^ i) + X * (Y / 256 ^ i % 256) * 256 ^ i = X * (Y % 256 ^ (i + 1)) := by
  rw [Nat.pow_succ, Nat.mod_mul, Nat.mul_add, Nat.mul_comm (256 ^ i), Nat.mul_assoc]
end Go.Proofs.YtlhmeipbcioncaaDoor
namespace Go.Proofs.YtlhmeipbcioncaaDoor
open Go.RowKit

theorem byte_mul (x K c : Nat) (hx : x < 256) (hK : K < 256) (hc : c < 256) : c + x * K < 65536 ∧ x * K < 65536 := by
  have : x * K ≤ 255 * 255 := Nat.mul_le_mul (by omega) (by omega)
  omega
theorem noughts_byte (n : Nat) (zs : List Int) (h : ∀ z ∈ zs, 0 ≤ z ∧ z < 256) : ∀ z ∈ List.replicate n (0 : Int) ++ zs, 0 ≤ z ∧ z < 256 := by
  intro z hz
  rcases List.mem_append.1 hz with hz | hz
  · rw [List.eq_of_mem_replicate hz]; decide
  · exact h z hz

set_option maxRecDepth 100000 in
set_option maxHeartbeats 2000000 in
theorem times_any {a1 : Option Addr} {l1 c1 : Nat} {xs : List Int} {w : World} (K z : Nat) (h1 : IsB w a1 l1 c1 xs) (m1 : l1 ≤ 40000) (hK : K < 256) (hz : z ≤ 40000) :
    Calls Tryd.prog 56 #[.slice a1 l1 c1, .int .i64 (K : Int), .int .i64 (z : Int)] w fun e w' => ∃ v zs, e = .returned v ∧ OwnB w' w.heap.size v zs ∧ val8 zs = val8 xs * K * 256 ^ z ∧ zs.length ≤ z + l1 + 1 ∧ Below w.heap.size w w' := by
  obtain ⟨i0, hi, hz0, hz1, hz2⟩ := info_parts Tryd.info5
  have hX := val8_lt xs h1.byte
  rw [h1.size] at hX
  obtain ⟨X, HX⟩ : ∃ X, Hid (val8 xs = X) := ⟨_, rfl⟩
  rw [HX.out] at hX ⊢
  go_enter Tryd.func56, Tryd.ntmps56
  go_wp2_with (at_make; refine wpList_make_full _ rfl _ _ 36 rfl w.heap.size 5 i0 (.int .u8 0) 1 Tryd.underlying36 hi hz0 hz1 _ _ _ _ z rfl rfl rfl rfl (by rw [hz2]; omega) (by unfold maxLen; omega) (Nat.le_refl _) ?_)
  intro w1 hown0 hgrow
  have hbw : Below w.heap.size w w1 := (Below.refl _ _).grown hgrow (Nat.le_refl _) (by simp)
  have hownz : w1.ownsRow w.heap.size 5 1 (.slice (some ⟨w.heap.size, 0, none⟩) z z) (z + 0) ((List.replicate z (0 : Int) ++ []).map (Value.int .u8)) := by
    have e : (madeCells #[Value.int IntKind.u8 0] z).toList = (List.replicate z (0 : Int) ++ []).map (Value.int .u8) := by
      rw [toList_madeCells_one]; simp
    rw [← e]; exact hown0
  clear hgrow hown0
  go_wp2
  go_loopw [9, 8, 7] (fun i c v wr => ∃ (k cc : Nat) (zs : List Int), k ≤ l1 + 1 ∧ i = .int .i64 k ∧ c = .int .i64 cc ∧ zs.length = k ∧ (∀ z ∈ zs, 0 ≤ z ∧ z < 256) ∧ Hid (val8 zs.reverse + cc * 256 ^ k = X % 256 ^ k * K) ∧ wr.ownsRow w.heap.size 5 1 v (z + k) ((List.replicate z (0 : Int) ++ zs).map (Value.int .u8)) ∧ Below w.heap.size w wr) (fun i _ _ _ => l1 + 1 - (intOf i).toNat)
  case atStart => exact ⟨0, 0, [], Nat.zero_le _, rfl, rfl, rfl, by simp, by show _ = _; simp [val8, Nat.mod_one], hownz, hbw⟩
  case round =>
    obtain ⟨k, cc, zs, hk, rfl, rfl, hzl, hzb, hv, hown, hB⟩ := hrel
    clear hownz hbw
    have hcc := times_carry X K cc _ k hv.out hK
    by_cases hgo : k < l1 ∨ 0 < cc
    · have hkM : k ≤ l1 := by
        rcases Nat.lt_or_ge l1 k with h | h
        · exfalso
          have := times_end X K cc _ k l1 hv.out hK hX h
          omega
        · exact h
      have a1' := at_any (h1.below hB) k (by omega) (by omega)
      rw [HX.out] at a1'
      obtain ⟨x, hx⟩ : ∃ x, X / 256 ^ k % 256 = x := ⟨_, rfl⟩
      have hx8 : x < 256 := by rw [← hx]; exact Nat.mod_lt _ (by decide)
      have hnx := times_step X K cc _ k x hv.out hx
      rw [hx] at a1'
      obtain ⟨b1, b2⟩ := byte_mul x K cc hx8 hK hcc
      obtain ⟨M, hM⟩ : ∃ M, x * K = M := ⟨_, rfl⟩
      have hMi : (x : Int) * (K : Int) = (M : Int) := by rw [← hM]; simp
      rw [hM] at hnx b1 b2
      obtain ⟨t, ht⟩ : ∃ t, cc + M = t := ⟨_, rfl⟩
      rw [ht] at hnx b1
      have Hnx : Hid (t % 256 * 256 ^ k + val8 zs.reverse + t / 256 * 256 ^ (k + 1) = X % 256 ^ (k + 1) * K) := hnx
      have hti : (cc : Int) + (M : Int) = (t : Int) := by omega
      have kp := isB_lit wr #[.int .u8 ((t : Int) % 256)] [(t : Int) % 256] 1 rfl (by decide) rfl (by simp; omega) (0, 0)
      have hown2 := hown.alloc (.cells #[.int .u8 ((t : Int) % 256)] 5)
      clear hnx hx ht hX hM
      by_cases q1 : k < l1
      · have q1' : (k : Int) < (l1 : Int) := by omega
        go_wp2_with fail
        refine a1'.mono ?_
        rintro e w2 ⟨rfl, rfl⟩
        go_wp2_with (at_builtin; refine app_bytes _ rfl _ _ rfl w.heap.size _ (z + k) (List.replicate z (0 : Int) ++ zs) rfl hown2 (some ⟨wr.heap.size, 0, none⟩) 1 1 [(t : Int) % 256] rfl kp (by omega) (by omega) (by have := hB.size; simp; omega) ?_)
        intro v' w2 hown3 hb2
        have hown4 : w2.ownsRow w.heap.size 5 1 v' (z + (k + 1)) ((List.replicate z (0 : Int) ++ (zs ++ [((t % 256 : Nat) : Int)])).map (Value.int .u8)) := by simpa [Nat.add_assoc] using hown3
        have hB2 := (hB.alloc hB.size (.cells #[.int .u8 ((t : Int) % 256)] 5)).trans hb2
        have hv2 : Hid (val8 (zs ++ [((t % 256 : Nat) : Int)]).reverse + t / 256 * 256 ^ (k + 1) = X % 256 ^ (k + 1) * K) := by show _ = _; rw [rev_snoc, hzl]; exact Hnx.out
        have hzb2 : Hid (∀ z ∈ zs ++ [((t % 256 : Nat) : Int)], 0 ≤ z ∧ z < 256) := append_bytes zs [((t % 256 : Nat) : Int)] hzb (fun z hz => by rw [List.mem_singleton.1 hz]; omega)
        have hzl2 : Hid ((zs ++ [((t % 256 : Nat) : Int)]).length = k + 1) := by show _ = _; rw [List.length_append, hzl]; rfl
        have hti2 : Hid ((t : Int) / 256 = ((t / 256 : Nat) : Int)) := by show _ = _; omega
        clear hown3 hown hown2 kp a1' hb2 hzb hv Hnx
        go_wp2
        go_roundw
        case rel => exact ⟨k + 1, t / 256, zs ++ [((t % 256 : Nat) : Int)], by omega, by go_num, by rw [hti2.out], hzl2.out, hzb2.out, hv2, hown4, hB2⟩
        case measure => simp [intOf]; omega
      · have q1' : ¬ (k : Int) < (l1 : Int) := by omega
        have q3' : (0 : Int) < (cc : Int) := by omega
        go_wp2_with fail
        refine a1'.mono ?_
        rintro e w2 ⟨rfl, rfl⟩
        go_wp2_with (at_builtin; refine app_bytes _ rfl _ _ rfl w.heap.size _ (z + k) (List.replicate z (0 : Int) ++ zs) rfl hown2 (some ⟨wr.heap.size, 0, none⟩) 1 1 [(t : Int) % 256] rfl kp (by omega) (by omega) (by have := hB.size; simp; omega) ?_)
        intro v' w2 hown3 hb2
        have hown4 : w2.ownsRow w.heap.size 5 1 v' (z + (k + 1)) ((List.replicate z (0 : Int) ++ (zs ++ [((t % 256 : Nat) : Int)])).map (Value.int .u8)) := by simpa [Nat.add_assoc] using hown3
        have hB2 := (hB.alloc hB.size (.cells #[.int .u8 ((t : Int) % 256)] 5)).trans hb2
        have hv2 : Hid (val8 (zs ++ [((t % 256 : Nat) : Int)]).reverse + t / 256 * 256 ^ (k + 1) = X % 256 ^ (k + 1) * K) := by show _ = _; rw [rev_snoc, hzl]; exact Hnx.out
        have hzb2 : Hid (∀ z ∈ zs ++ [((t % 256 : Nat) : Int)], 0 ≤ z ∧ z < 256) := append_bytes zs [((t % 256 : Nat) : Int)] hzb (fun z hz => by rw [List.mem_singleton.1 hz]; omega)
        have hzl2 : Hid ((zs ++ [((t % 256 : Nat) : Int)]).length = k + 1) := by show _ = _; rw [List.length_append, hzl]; rfl
        have hti2 : Hid ((t : Int) / 256 = ((t / 256 : Nat) : Int)) := by show _ = _; omega
        clear hown3 hown hown2 kp a1' hb2 hzb hv Hnx
        go_wp2
        go_roundw
        case rel => exact ⟨k + 1, t / 256, zs ++ [((t % 256 : Nat) : Int)], by omega, by go_num, by rw [hti2.out], hzl2.out, hzb2.out, hv2, hown4, hB2⟩
        case measure => simp [intOf]; omega
    · have q1' : ¬ (k : Int) < (l1 : Int) := by omega
      obtain rfl : cc = 0 := by omega
      have hv' := hv.out
      have hp1 : 256 ^ l1 ≤ 256 ^ k := Nat.pow_le_pow_right (by decide) (by omega)
      rw [Nat.mod_eq_of_lt (by omega), Nat.zero_mul, Nat.add_zero] at hv'
      have Hv : Hid (val8 (List.replicate z (0 : Int) ++ zs).reverse = X * K * 256 ^ z) := by
        show _ = _
        rw [List.reverse_append, List.reverse_replicate, val8_noughts, hv']
      have hO := ownB_of hown (noughts_byte z zs hzb)
      obtain ⟨p, c, rfl, hI⟩ := hO.2
      have hzz : Hid ((List.replicate z (0 : Int) ++ zs).length = z + k) := by show _ = _; rw [List.length_append, List.length_replicate, hzl]
      generalize List.replicate z (0 : Int) ++ zs = ys at *
      rw [hzz.out] at hI ⊢
      clear hv' hv hown hX hp1 hcc hO
      have hm0 : ¬ (0 : Int) < 0 := by decide
      go_wp2_with fail
      refine (turned_any hI (by omega)).mono ?_
      rintro e w3 ⟨v3, rfl, hO3, hb3⟩
      have hB3 := below_size hB (Nat.le_refl _) hb3
      go_wp2
      go_ret
      exact ⟨_, _, rfl, hO3.mono hB.size, Hv.out, by rw [List.length_reverse, hzz.out]; omega, hB3⟩
end Go.Proofs.YtlhmeipbcioncaaDoor
namespace Go.Proofs.YtlhmeipbcioncaaDoor
open Go.RowKit

theorem less_step (X Y c V k x y d c' : Nat) (h : V + Y % 256 ^ k = X % 256 ^ k + c * 256 ^ k) (hx : X / 256 ^ k % 256 = x) (hy : Y / 256 ^ k % 256 = y) (hd : d + y + c = x + 256 * c') :
    (d * 256 ^ k + V) + Y % 256 ^ (k + 1) = X % 256 ^ (k + 1) + c' * 256 ^ (k + 1) := by
  rw [mod_step X, mod_step Y, hx, hy, Nat.pow_succ]
  generalize 256 ^ k = P at *
  have e' : (d + y + c) * P = (x + 256 * c') * P := by rw [hd]
  rw [Nat.add_mul, Nat.add_mul, Nat.add_mul] at e'
  have e1 : c' * (P * 256) = 256 * c' * P := by rw [Nat.mul_comm 256 c', Nat.mul_assoc, Nat.mul_comm 256 P]
  rw [e1, Nat.mul_comm P x, Nat.mul_comm P y]
  omega

end Go.Proofs.YtlhmeipbcioncaaDoor
namespace Go.Proofs.YtlhmeipbcioncaaDoor
open Go.RowKit

set_option maxRecDepth 100000 in
set_option maxHeartbeats 2000000 in
theorem fits_any {a : Option Addr} {len cap : Nat} {xs : List Int} {w : World} (neg : Bool) (h : IsB w a len cap xs) (hl : len ≤ 100000) :
    Calls Tryd.prog 57 #[.bool neg, .slice a len cap] w fun e w' => ∃ v, e = .returned (.tuple #[.agg #[.bool (fitB neg (val8 xs)), v], .int .i64 (fitE (val8 xs))]) ∧ OwnB w' w.heap.size v (fitM (val8 xs)) ∧ Below w.heap.size w w' := by
  have hb := box_below w (.cells #[.bool false, .slice none 0 0] 58)
  have hs1 : (w.alloc (.cells #[.bool false, .slice none 0 0] 58)).heap.size = w.heap.size + 1 := by simp
  have z0 := heap_alloc_new w (.cells #[.bool false, .slice none 0 0] 58)
  have hI := h.below hb
  obtain ⟨V, HV⟩ : ∃ V, Hid (val8 xs = V) := ⟨_, rfl⟩
  rw [HV.out]
  go_enter Tryd.func57, Tryd.ntmps57
  go_wp2_with fail
  generalize w.alloc (.cells #[.bool false, .slice none 0 0] 58) = w1 at *
  refine (made_any neg hI (by omega)).mono ?_
  rintro e w2 ⟨v, rfl, hO, hb2⟩
  rw [HV.out] at hO ⊢
  have u0 := (hb2.block _ (lt_of_block z0)).trans z0
  have hB2 := below_size hb (Nat.le_refl _) hb2
  have hsz2 := hb2.size
  rw [hs1] at hsz2
  obtain ⟨av, cv, rfl, _⟩ := hO.2
  have hlen : Hid ((mag V).length = blen V) := mag_len V
  rw [hlen.out] at hO ⊢
  have hvar' : ∀ o, (w2.alloc o).heap[w.heap.size]? = some (.cells #[.bool false, .slice none 0 0] 58 (0, 0)) := fun o => (Below.heap_alloc w2 o _ (lt_of_block u0)).trans u0
  have hc0 := fun o => (intVarT (hvar' o)).1
  have hc1 := fun o => (intVarT (hvar' o)).2.1
  have hf0 := fun o => (intVarT (hvar' o)).2.2.1
  have hf1 := fun o => (intVarT (hvar' o)).2.2.2
  have hBo : ∀ o, Below w.heap.size w (w2.alloc o) := fun o => hB2.alloc hB2.size _
  rw [hs1] at hO
  clear hvar' u0 z0 hb hb2 hI
  by_cases hm : blen V ≤ 128
  · have hm' : ¬ (128 : Int) < (blen V : Int) := by omega
    have e1 : Hid (fitB neg V = (neg && decide (V ≠ 0))) := by show _ = _; unfold fitB; rw [decide_eq_true hm, Bool.and_true]
    have e2 : Hid (fitE V = 0) := by show _ = _; unfold fitE; rw [if_pos hm]
    have e3 : Hid (fitM V = mag V) := by show _ = _; unfold fitM; rw [if_pos hm]
    obtain ⟨bq, hbq⟩ : ∃ bq, Hid ((neg && decide (V ≠ 0)) = bq) := ⟨_, rfl⟩
    rw [hbq.out]
    obtain ⟨n, hn⟩ : ∃ n, Hid (blen V = n) := ⟨_, rfl⟩
    rw [hn.out] at hm hm' hO ⊢
    go_wp2
    exact bodyPost_ret (v := .tuple #[.agg #[.bool bq, .slice av n cv], .int .i64 0]) (by simp [results, Tryd.results57, go_sem, hc0, hc1]) rfl ⟨_, by rw [e1.out, e2.out, hbq.out], by rw [e3.out]; exact OwnB.put (base := w.heap.size + 1) (b := w.heap.size) (b0 := w.heap.size) (hO.alloc _) (by omega) (by omega), below_put (b := w.heap.size) (hBo _) (Nat.le_refl _)⟩
  · have hm' : (128 : Int) < (blen V : Int) := by omega
    have e1 : Hid (fitB neg V = false) := by show _ = _; unfold fitB; rw [decide_eq_false hm, Bool.and_false]
    have e2 : Hid (fitE V = 24) := by show _ = _; unfold fitE; rw [if_neg hm]
    have e3 : Hid (fitM V = []) := by show _ = _; unfold fitM; rw [if_neg hm]
    obtain ⟨bq, hbq⟩ : ∃ bq, Hid ((neg && decide (V ≠ 0)) = bq) := ⟨_, rfl⟩
    rw [hbq.out]
    obtain ⟨n, hn⟩ : ∃ n, Hid (blen V = n) := ⟨_, rfl⟩
    rw [hn.out] at hm hm' hO ⊢
    go_wp2
    exact bodyPost_ret (v := .tuple #[.agg #[.bool false, .slice none 0 0], .int .i64 24]) (by simp [results, Tryd.results57, go_sem, hc0, hc1]) rfl ⟨.slice none 0 0, by rw [e1.out, e2.out], by rw [e3.out]; exact ownB_of (n := 0) (World.ownsRow_nil _ _ _ _) (by simp), below_put (b := w.heap.size) (hBo _) (Nat.le_refl _)⟩
end Go.Proofs.YtlhmeipbcioncaaDoor
namespace Go.Proofs.YtlhmeipbcioncaaDoor
open Go.RowKit

theorem OwnB.isB {w : World} {base n c : Nat} {a : Option Addr} {xs : List Int} (h : OwnB w base (.slice a n c) xs) : IsB w a n c xs := by
  obtain ⟨_, a', c', hv, hI⟩ := h
  injection hv with h1 h2 h3
  subst h1 h2 h3
  exact hI
theorem size24' {u v : Value} : (Tryd.prog.info? 58).map (·.size) = some (#[u, v] : Array Value).size := by
  have : (Tryd.prog.info? 58).map (·.size) = some 2 := by kernel_rfl
  exact this

end Go.Proofs.YtlhmeipbcioncaaDoor
