/- The document's tenth and Text. -/
import Derived.Test.YtgammgdckneoiabDoorRead
import Derived.Test.YtgammgdckneoiabDoorRSum
namespace Go.Proofs.YtgammgdckneoiabDoor
open Go.RowKit

theorem tenth_step (A Q r c : Nat) (h : A = Q * 10 + r) : A * 256 + c = (Q * 256 + (r * 256 + c) / 10) * 10 + (r * 256 + c) % 10 := by omega
theorem val8_take (xs : List Int) (k c : Nat) (h : xs.take (k + 1) = xs.take k ++ [(c : Int)]) : val8 (xs.take (k + 1)) = val8 (xs.take k) * 256 + c := by
  rw [h, val8_snoc]; simp

set_option maxRecDepth 100000 in
set_option maxHeartbeats 2000000 in
theorem tenth_any {a : Option Addr} {len cap : Nat} {xs : List Int} {w : World} (h : IsB w a len cap xs) (hl : len ≤ 100000) :
    Calls Tryd.prog 57 #[.slice a len cap] w fun e w' => ∃ v zs, e = .returned (.tuple #[v, .int .u8 ((val8 xs % 10 : Nat) : Int)]) ∧ OwnB w' w.heap.size v zs ∧ val8 zs = val8 xs / 10 ∧ zs.length = len ∧ Below w.heap.size w w' := by
  have hsz := h.size
  obtain ⟨R, HR⟩ : ∃ R, Hid (val8 xs % 10 = R) := ⟨_, rfl⟩
  rw [HR.out]
  go_enter Tryd.func57, Tryd.ntmps57
  go_wp2
  go_loopw [6, 5, 4] (fun i r v wr => ∃ (k rr : Nat) (zs : List Int), k ≤ len ∧ i = .int .i64 k ∧ r = .int .i64 rr ∧ rr < 10 ∧ zs.length = k ∧ (∀ z ∈ zs, 0 ≤ z ∧ z < 256) ∧ Hid (val8 (xs.take k) = val8 zs * 10 + rr) ∧ wr.ownsRow w.heap.size 5 1 v k (zs.map (Value.int .u8)) ∧ Below w.heap.size w wr) (fun i _ _ _ => len - (intOf i).toNat)
  case atStart => exact ⟨0, 0, [], Nat.zero_le _, rfl, rfl, by decide, rfl, by simp, rfl, World.ownsRow_nil _ _ _ _, Below.refl _ _⟩
  case round =>
    obtain ⟨k, rr, zs, hk, rfl, rfl, hrr, hzl, hzb, hv, hown, hB⟩ := hrel
    by_cases hlt : k < len
    · have hltI : (k : Int) < (len : Int) := by omega
      obtain ⟨b, off, rfl, hc⟩ := (h.below hB).cells (by omega)
      have hck := hc k hlt
      obtain ⟨c, hc8, hcx, htk⟩ := byteAt xs h.byte k (by omega)
      rw [hcx] at hck
      have hnx := tenth_step _ (val8 zs) rr c hv.out
      rw [← val8_take xs k c htk.out] at hnx
      obtain ⟨t, ht⟩ : ∃ t, rr * 256 + c = t := ⟨_, rfl⟩
      rw [ht] at hnx
      have ht9 : t ≤ 2559 := by omega
      have hti : (rr : Int) * 256 + (c : Int) = (t : Int) := by omega
      have htq : (t : Int) / 10 % 256 = ((t / 10 : Nat) : Int) := by omega
      have htr : (t : Int) % 10 = ((t % 10 : Nat) : Int) := by omega
      obtain ⟨q, hq⟩ : ∃ q, t / 10 = q := ⟨_, rfl⟩
      obtain ⟨u, hu⟩ : ∃ u, t % 10 = u := ⟨_, rfl⟩
      rw [hq] at hnx htq
      rw [hu] at hnx htr
      have hq8 : q < 256 := by omega
      have hu9 : u < 10 := by omega
      have Hnx : Hid (val8 (xs.take (k + 1)) = (val8 zs * 256 + q) * 10 + u) := hnx
      have htq0 : (t : Int) / 10 = (q : Int) := by omega
      have kp := isB_lit wr #[.int .u8 (q : Int)] [(q : Int)] 1 rfl (by decide) rfl (by simp; omega) (0, 0)
      have hown2 := hown.alloc (.cells #[.int .u8 (q : Int)] 5)
      clear hnx ht hq hu hc hcx htk
      go_wp2_with (at_builtin; refine app_bytes _ rfl _ _ rfl w.heap.size _ k zs rfl hown2 (some ⟨wr.heap.size, 0, none⟩) 1 1 [(q : Int)] rfl kp (by omega) (by omega) (by have := hB.size; simp; omega) ?_)
      intro v' w2 hown3 hb2
      have hown4 : w2.ownsRow w.heap.size 5 1 v' (k + 1) ((zs ++ [(q : Int)]).map (Value.int .u8)) := by simpa using hown3
      have hB2 := (hB.alloc hB.size (.cells #[.int .u8 (q : Int)] 5)).trans hb2
      have hv2 : Hid (val8 (xs.take (k + 1)) = val8 (zs ++ [(q : Int)]) * 10 + u) := by show _ = _; rw [val8_snoc, Hnx.out]; simp
      have hzb2 : Hid (∀ z ∈ zs ++ [(q : Int)], 0 ≤ z ∧ z < 256) := append_bytes zs [(q : Int)] hzb (fun z hz => by rw [List.mem_singleton.1 hz]; omega)
      have hzl2 : Hid ((zs ++ [(q : Int)]).length = k + 1) := by show _ = _; rw [List.length_append, hzl]; rfl
      clear hown3 hown hown2 kp hb2 hzb hv Hnx
      go_wp2
      go_roundw
      case rel => exact ⟨k + 1, u, zs ++ [(q : Int)], by omega, by go_num, by rw [htr], hu9, hzl2.out, hzb2.out, hv2, hown4, hB2⟩
      case measure => simp [intOf]; omega
    · obtain rfl : k = len := by omega
      have hv' := hv.out
      rw [List.take_of_length_le (by omega)] at hv'
      have e1 : Hid (val8 xs / 10 = val8 zs) := by show _ = _; omega
      have e2 : R = rr := by rw [← HR.out]; omega
      subst e2
      have hO := ownB_of hown hzb
      have hltI : ¬ (k : Int) < (k : Int) := by omega
      clear hv hv'
      go_wp2
      go_ret2
      exact ⟨_, rfl, zs, hO, e1.out.symm, hzl, hB⟩

/-- How long a slice is. -/
def lenS : Value → Nat
  | .slice _ n _ => n
  | _ => 0
theorem decN_rev (j V : Nat) : (decN (j + 1) V).reverse = (decN j V).reverse ++ [((48 + V / 10 ^ j % 10 : Nat) : Int)] := by
  rw [decN_front, List.reverse_cons]
theorem dec_of (j V : Nat) (h0 : V / 10 ^ j ≠ 0) (h1 : V / 10 ^ (j + 1) = 0) (hj : j + 1 ≤ 315) : decN (j + 1) V = dec V := by
  have hV : V < 10 ^ (j + 1) := by
    rcases Nat.lt_or_ge V (10 ^ (j + 1)) with h | h
    · exact h
    · have := Nat.div_pos h (Nat.pow_pos (by decide)); omega
  unfold dec
  obtain ⟨m, hm⟩ : ∃ m, 315 = m + (j + 1) := ⟨315 - (j + 1), by omega⟩
  rw [hm, decN_pad m _ _ hV]
  symm
  apply drop_rep
  rw [decN_front]
  have hd : V / 10 ^ j < 10 := Nat.div_lt_of_lt_mul (by rw [Nat.pow_succ] at hV; omega)
  simp only [List.getD_cons_zero]
  clear hV h1 hm
  generalize V / 10 ^ j = X at *
  omega
theorem ten_end (V j : Nat) (hV : V < 256 ^ 128) (h : V / 10 ^ j ≠ 0) : j < 309 := by
  rcases Nat.lt_or_ge j 309 with h' | h'
  · exact h'
  · exact absurd (Nat.div_eq_of_lt (Nat.lt_of_lt_of_le hV (big10 j h'))) h
end Go.Proofs.YtgammgdckneoiabDoor
