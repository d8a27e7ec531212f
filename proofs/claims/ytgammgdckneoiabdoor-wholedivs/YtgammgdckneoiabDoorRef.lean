/- The document's at and turned: a byte from the last one on; bytes the other way round. -/
import Derived.Test.YtgammgdckneoiabDoorMade
import Derived.Test.YtgammgdckneoiabDoorMag
namespace Go.Proofs.YtgammgdckneoiabDoor
open Go.RowKit

/-- The byte at a place from the last one on. -/
theorem byte_at (xs : List Int) (hb : ∀ x ∈ xs, 0 ≤ x ∧ x < 256) (i : Nat) (hi : i < xs.length) : xs.getD (xs.length - 1 - i) 0 = ((val8 xs / 256 ^ i % 256 : Nat) : Int) := by
  have h := bytesN_val8 xs hb
  have key : ∀ (k n i : Nat), i < k → (bytesN k n).getD (k - 1 - i) 0 = ((n / 256 ^ i % 256 : Nat) : Int) := by
    intro k
    induction k with
    | zero => intro n i hi; omega
    | succ k ih =>
      intro n i hi
      rw [bytesN_front]
      by_cases hk : i = k
      · subst hk
        rw [show i + 1 - 1 - i = 0 by omega, List.getD_cons_zero]
      · rw [show k + 1 - 1 - i = (k - 1 - i) + 1 by omega, List.getD_cons_succ]
        exact ih n i (by omega)
  have e := key xs.length (val8 xs) i hi
  rwa [h] at e

set_option maxHeartbeats 1000000 in
theorem at_any {a : Option Addr} {len cap : Nat} {xs : List Int} {w : World} (h : IsB w a len cap xs) (i : Nat) (hi : i ≤ 100000) (hl : len ≤ 100000) :
    Calls Tryd.prog 49 #[.slice a len cap, .int .i64 (i : Int)] w fun e w' => e = .returned (.int .i64 ((val8 xs / 256 ^ i % 256 : Nat) : Int)) ∧ w = w' := by
  have hsz := h.size
  by_cases hlt : i < len
  · obtain ⟨b, off, rfl, hc⟩ := h.cells (by omega)
    have hck := hc (len - 1 - i) (by omega)
    have hb := byte_at xs h.byte i (by omega)
    rw [hsz] at hb
    rw [hb] at hck
    obtain ⟨c, Hc⟩ : ∃ c, Hid (val8 xs / 256 ^ i % 256 = c) := ⟨_, rfl⟩
    have hc8 : c < 256 := by rw [← Hc.out]; exact Nat.mod_lt _ (by decide)
    rw [Hc.out] at hck ⊢
    have hge : ¬ (len : Int) ≤ (i : Int) := by omega
    have i1 : (len : Int) - 1 - (i : Int) = ((len - 1 - i : Nat) : Int) := by omega
    clear hc hb
    go_enter Tryd.func49, Tryd.ntmps49
    go_wp2
    go_ret
    exact ⟨rfl, rfl⟩
  · have hz : Hid (val8 xs / 256 ^ i % 256 = 0) := by
      show _ = _
      have hlt' := val8_lt xs h.byte
      rw [hsz] at hlt'
      have : 256 ^ len ≤ 256 ^ i := Nat.pow_le_pow_right (by decide) (by omega)
      rw [Nat.div_eq_of_lt (by omega)]
    have hge : (len : Int) ≤ (i : Int) := by omega
    go_enter Tryd.func49, Tryd.ntmps49
    go_wp2
    go_ret
    exact ⟨ret_int (by rw [hz.out]; rfl), rfl⟩

set_option maxRecDepth 100000 in
set_option maxHeartbeats 2000000 in
theorem turned_any {a : Option Addr} {len cap : Nat} {xs : List Int} {w : World} (h : IsB w a len cap xs) (hl : len ≤ 100000) :
    Calls Tryd.prog 58 #[.slice a len cap] w fun e w' => ∃ v, e = .returned v ∧ OwnB w' w.heap.size v xs.reverse ∧ Below w.heap.size w w' := by
  have hsz := h.size
  go_enter Tryd.func58, Tryd.ntmps58
  go_wp2
  go_loopw [4, 3] (fun i v wr => ∃ (k : Nat) (zs : List Int), k ≤ len ∧ i = .int .i64 ((len : Int) - 1 - (k : Int)) ∧ Hid (zs = xs.reverse.take k) ∧ wr.ownsRow w.heap.size 5 1 v k (zs.map (Value.int .u8)) ∧ Below w.heap.size w wr) (fun i _ _ => (intOf i + 1).toNat)
  case atStart => exact ⟨0, [], Nat.zero_le _, by simp, by show _ = _; simp, World.ownsRow_nil _ _ _ _, Below.refl _ _⟩
  case round =>
    obtain ⟨k, zs, hk, rfl, hzs, hown, hB⟩ := hrel
    by_cases hlt : k < len
    · obtain ⟨b, off, rfl, hc⟩ := (h.below hB).cells (by omega)
      have hck := hc (len - 1 - k) (by omega)
      obtain ⟨c, hc8, hcx, _⟩ := byteAt xs h.byte (len - 1 - k) (by omega)
      rw [hcx] at hck
      have i1 : (len : Int) - 1 - (k : Int) = ((len - 1 - k : Nat) : Int) := by omega
      rw [i1]
      have hnx : Hid (zs ++ [(c : Int)] = xs.reverse.take (k + 1)) := by
        show _ = _
        rw [hzs.out]
        symm
        rw [List.take_succ_eq_append_getElem (by rw [List.length_reverse]; omega), List.getElem_reverse]
        congr 2
        have : xs[xs.length - 1 - k]'(by omega) = xs.getD (len - 1 - k) 0 := by
          rw [List.getD_eq_getElem?_getD, List.getElem?_eq_getElem (by omega)]
          simp [hsz]
        rw [this, hcx]
      clear hc hcx
      have kp := isB_lit wr #[.int .u8 (c : Int)] [(c : Int)] 1 rfl (by decide) rfl (by simp; omega) (0, 0)
      have hown2 := hown.alloc (.cells #[.int .u8 (c : Int)] 5)
      go_wp2_with (at_builtin; refine app_bytes _ rfl _ _ rfl w.heap.size _ k zs rfl hown2 (some ⟨wr.heap.size, 0, none⟩) 1 1 [(c : Int)] rfl kp (by omega) (by omega) (by have := hB.size; simp; omega) ?_)
      intro v' w2 hown3 hb2
      have hown4 : w2.ownsRow w.heap.size 5 1 v' (k + 1) ((zs ++ [(c : Int)]).map (Value.int .u8)) := by simpa using hown3
      clear hown3
      have hB2 := (hB.alloc hB.size (.cells #[.int .u8 (c : Int)] 5)).trans hb2
      go_wp2
      go_roundw
      case rel => exact ⟨k + 1, zs ++ [(c : Int)], by omega, by congr 1; omega, hnx, hown4, hB2⟩
      case measure => simp [intOf]
    · obtain rfl : k = len := by omega
      have hall : xs.reverse.take k = xs.reverse := List.take_of_length_le (by rw [List.length_reverse]; omega)
      rw [hzs.out, hall] at hown
      have hO := ownB_of hown (fun x hx => h.byte x (List.mem_reverse.1 hx))
      have i1 : (k : Int) - 1 - (k : Int) = -1 := by omega
      rw [i1]
      go_wp2
      go_ret
      exact ⟨_, rfl, hO, hB⟩
end Go.Proofs.YtgammgdckneoiabDoor
