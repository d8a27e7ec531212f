/- The document's less: bytes of a greater number less a lesser one. -/
import Derived.Test.YtgammgdckneoiabDoorRSum
namespace Go.Proofs.YtgammgdckneoiabDoor
open Go.RowKit

theorem less_step (X Y c V k x y d c' : Nat) (h : V + Y % 256 ^ k = X % 256 ^ k + c * 256 ^ k) (hx : X / 256 ^ k % 256 = x) (hy : Y / 256 ^ k % 256 = y) (hd : d + y + c = x + 256 * c') :
    (d * 256 ^ k + V) + Y % 256 ^ (k + 1) = X % 256 ^ (k + 1) + c' * 256 ^ (k + 1) := by
  rw [mod_step X, mod_step Y, hx, hy, Nat.pow_succ]
  generalize 256 ^ k = P at *
  have e' : (d + y + c) * P = (x + 256 * c') * P := by rw [hd]
  rw [Nat.add_mul, Nat.add_mul, Nat.add_mul] at e'
  have e1 : c' * (P * 256) = 256 * c' * P := by rw [Nat.mul_comm 256 c', Nat.mul_assoc, Nat.mul_comm 256 P]
  rw [e1, Nat.mul_comm P x, Nat.mul_comm P y]
  omega

set_option maxRecDepth 100000 in
set_option maxHeartbeats 1000000 in
theorem rless_any {a1 a2 : Option Addr} {l1 l2 c1 c2 : Nat} {xs ys : List Int} {w : World} (h1 : IsB w a1 l1 c1 xs) (h2 : IsB w a2 l2 c2 ys) (m1 : l1 ≤ 50000) (m2 : l2 ≤ 50000) (hle : val8 ys ≤ val8 xs) :
    Calls Tryd.prog 44 #[.slice a1 l1 c1, .slice a2 l2 c2] w fun e w' => ∃ v zs, e = .returned v ∧ OwnB w' w.heap.size v zs ∧ val8 zs = val8 xs - val8 ys ∧ zs.length = l1 ∧ Below w.heap.size w w' := by
  have hX := val8_lt xs h1.byte
  rw [h1.size] at hX
  obtain ⟨X, HX⟩ : ∃ X, Hid (val8 xs = X) := ⟨_, rfl⟩
  obtain ⟨Y, HY⟩ : ∃ Y, Hid (val8 ys = Y) := ⟨_, rfl⟩
  rw [HX.out] at hX hle ⊢
  rw [HY.out] at hle ⊢
  go_enter Tryd.func44, Tryd.ntmps44
  go_wp2
  go_loopw [7, 6, 5] (fun i c v wr => ∃ (k cc : Nat) (zs : List Int), k ≤ l1 ∧ i = .int .i64 k ∧ c = .int .i64 cc ∧ cc ≤ 1 ∧ zs.length = k ∧ (∀ z ∈ zs, 0 ≤ z ∧ z < 256) ∧ Hid (val8 zs.reverse + Y % 256 ^ k = X % 256 ^ k + cc * 256 ^ k) ∧ wr.ownsRow w.heap.size 5 1 v k (zs.map (Value.int .u8)) ∧ Below w.heap.size w wr) (fun i _ _ _ => l1 - (intOf i).toNat)
  case atStart => exact ⟨0, 0, [], Nat.zero_le _, rfl, rfl, by decide, rfl, by simp, by show _ = _; simp [val8, Nat.mod_one], World.ownsRow_nil _ _ _ _, Below.refl _ _⟩
  case round =>
    obtain ⟨k, cc, zs, hk, rfl, rfl, hcc, hzl, hzb, hv, hown, hB⟩ := hrel
    by_cases q1 : k < l1
    · have q1' : (k : Int) < (l1 : Int) := by omega
      have a1' := at_any (h1.below hB) k (by omega) (by omega)
      have a2' := at_any (h2.below hB) k (by omega) (by omega)
      rw [HX.out] at a1'
      rw [HY.out] at a2'
      obtain ⟨x, hx⟩ : ∃ x, X / 256 ^ k % 256 = x := ⟨_, rfl⟩
      obtain ⟨y, hy⟩ : ∃ y, Y / 256 ^ k % 256 = y := ⟨_, rfl⟩
      have hx8 : x < 256 := by rw [← hx]; exact Nat.mod_lt _ (by decide)
      have hy8 : y < 256 := by rw [← hy]; exact Nat.mod_lt _ (by decide)
      rw [hx] at a1'
      rw [hy] at a2'
      clear hX hle
      by_cases hge : y + cc ≤ x
      · skip
        have hd : ∃ d : Nat, (d : Int) = (x : Int) - (y : Int) - (cc : Int) ∧ d < 256 ∧ d + y + cc = x + 0 := ⟨(x - y - cc), by omega, by omega, by omega⟩
        obtain ⟨d, hdi, hd8, hde⟩ := hd
        have hnx := less_step X Y cc _ k x y d 0 hv.out hx hy (by omega)
        have Hnx : Hid (d * 256 ^ k + val8 zs.reverse + Y % 256 ^ (k + 1) = X % 256 ^ (k + 1) + 0 * 256 ^ (k + 1)) := hnx
        have Hdi : Hid ((x : Int) - (y : Int) - (cc : Int) = (d : Int)) := hdi.symm
        have kp := isB_lit wr #[.int .u8 (d : Int)] [(d : Int)] 1 rfl (by decide) rfl (by simp; omega) (0, 0)
        have hown2 := hown.alloc (.cells #[.int .u8 (d : Int)] 5)
        have hng : ¬ ((x : Int) - (y : Int) - (cc : Int) < 0) := by omega
        have hw8 : ((x : Int) - (y : Int) - (cc : Int)) % 256 = (d : Int) := by omega
        have hdi' := hdi.symm
        clear hnx hx hy hdi hde
        go_wp2_with fail
        refine a1'.mono ?_
        rintro e w2 ⟨rfl, rfl⟩
        go_wp2_with fail
        refine a2'.mono ?_
        rintro e w2 ⟨rfl, rfl⟩
        go_wp2_with (at_builtin; refine app_bytes _ rfl _ _ rfl w.heap.size _ k zs rfl hown2 (some ⟨wr.heap.size, 0, none⟩) 1 1 [(d : Int)] rfl kp (by omega) (by omega) (by have := hB.size; simp; omega) ?_)
        intro v' w2 hown3 hb2
        have hown4 : w2.ownsRow w.heap.size 5 1 v' (k + 1) ((zs ++ [(d : Int)]).map (Value.int .u8)) := by simpa using hown3
        have hB2 := (hB.alloc hB.size (.cells #[.int .u8 (d : Int)] 5)).trans hb2
        have hv2 : Hid (val8 (zs ++ [(d : Int)]).reverse + Y % 256 ^ (k + 1) = X % 256 ^ (k + 1) + 0 * 256 ^ (k + 1)) := by show _ = _; rw [rev_snoc, hzl]; exact Hnx.out
        have hzb2 : Hid (∀ z ∈ zs ++ [(d : Int)], 0 ≤ z ∧ z < 256) := append_bytes zs [(d : Int)] hzb (fun z hz => by rw [List.mem_singleton.1 hz]; omega)
        have hzl2 : Hid ((zs ++ [(d : Int)]).length = k + 1) := by show _ = _; rw [List.length_append, hzl]; rfl
        clear hown3 hown hown2 kp a1' a2' hb2 hzb hv Hnx
        go_wp2
        go_roundw
        case rel => exact ⟨k + 1, 0, zs ++ [(d : Int)], by omega, by go_num, rfl, by decide, hzl2.out, hzb2.out, hv2, hown4, hB2⟩
        case measure => simp [intOf]; omega
      · skip
        have hd : ∃ d : Nat, (d : Int) = (x : Int) - (y : Int) - (cc : Int) + 256 ∧ d < 256 ∧ d + y + cc = x + 256 := ⟨(x + 256 - y - cc), by omega, by omega, by omega⟩
        obtain ⟨d, hdi, hd8, hde⟩ := hd
        have hnx := less_step X Y cc _ k x y d 1 hv.out hx hy (by omega)
        have Hnx : Hid (d * 256 ^ k + val8 zs.reverse + Y % 256 ^ (k + 1) = X % 256 ^ (k + 1) + 1 * 256 ^ (k + 1)) := hnx
        have Hdi : Hid ((x : Int) - (y : Int) - (cc : Int) + 256 = (d : Int)) := hdi.symm
        have kp := isB_lit wr #[.int .u8 (d : Int)] [(d : Int)] 1 rfl (by decide) rfl (by simp; omega) (0, 0)
        have hown2 := hown.alloc (.cells #[.int .u8 (d : Int)] 5)
        have hng : ((x : Int) - (y : Int) - (cc : Int) < 0) := by omega
        have hw8 : ((x : Int) - (y : Int) - (cc : Int) + 256) % 256 = (d : Int) := by omega
        have hdi' := hdi.symm
        clear hnx hx hy hdi hde
        go_wp2_with fail
        refine a1'.mono ?_
        rintro e w2 ⟨rfl, rfl⟩
        go_wp2_with fail
        refine a2'.mono ?_
        rintro e w2 ⟨rfl, rfl⟩
        go_wp2_with (at_builtin; refine app_bytes _ rfl _ _ rfl w.heap.size _ k zs rfl hown2 (some ⟨wr.heap.size, 0, none⟩) 1 1 [(d : Int)] rfl kp (by omega) (by omega) (by have := hB.size; simp; omega) ?_)
        intro v' w2 hown3 hb2
        have hown4 : w2.ownsRow w.heap.size 5 1 v' (k + 1) ((zs ++ [(d : Int)]).map (Value.int .u8)) := by simpa using hown3
        have hB2 := (hB.alloc hB.size (.cells #[.int .u8 (d : Int)] 5)).trans hb2
        have hv2 : Hid (val8 (zs ++ [(d : Int)]).reverse + Y % 256 ^ (k + 1) = X % 256 ^ (k + 1) + 1 * 256 ^ (k + 1)) := by show _ = _; rw [rev_snoc, hzl]; exact Hnx.out
        have hzb2 : Hid (∀ z ∈ zs ++ [(d : Int)], 0 ≤ z ∧ z < 256) := append_bytes zs [(d : Int)] hzb (fun z hz => by rw [List.mem_singleton.1 hz]; omega)
        have hzl2 : Hid ((zs ++ [(d : Int)]).length = k + 1) := by show _ = _; rw [List.length_append, hzl]; rfl
        clear hown3 hown hown2 kp a1' a2' hb2 hzb hv Hnx
        go_wp2
        go_roundw
        case rel => exact ⟨k + 1, 1, zs ++ [(d : Int)], by omega, by go_num, rfl, by decide, hzl2.out, hzb2.out, hv2, hown4, hB2⟩
        case measure => simp [intOf]; omega
    · obtain rfl : k = l1 := by omega
      have q1' : ¬ (k : Int) < (k : Int) := by omega
      have hv' := hv.out
      have hzlt := val8_lt zs.reverse (fun z hz => hzb z (List.mem_reverse.1 hz))
      rw [List.length_reverse, hzl] at hzlt
      rw [Nat.mod_eq_of_lt hX, Nat.mod_eq_of_lt (show Y < 256 ^ k by omega)] at hv'
      have hc0 : cc = 0 := by
        rcases Nat.lt_or_ge 0 cc with h | h
        · have : 1 * 256 ^ k ≤ cc * 256 ^ k := Nat.mul_le_mul_right _ h
          omega
        · omega
      subst hc0
      have Hv : Hid (val8 zs.reverse = X - Y) := by show _ = _; omega
      have hO := ownB_of hown hzb
      obtain ⟨p, c, rfl, hI⟩ := hO.2
      rw [hzl] at hI ⊢
      clear hv' hv hown hX hzlt hle
      go_wp2_with fail
      refine (turned_any hI (by omega)).mono ?_
      rintro e w3 ⟨v3, rfl, hO3, hb3⟩
      have hB3 := below_size hB (Nat.le_refl _) hb3
      go_wp2
      go_ret
      exact ⟨_, _, rfl, hO3.mono hB.size, Hv.out, by rw [List.length_reverse]; exact hzl, hB3⟩
end Go.Proofs.YtgammgdckneoiabDoor
