/- Small, of the program and of the document: a number as an int64. -/
import Derived.Test.YtkpngpongbpfgaaMag
import Derived.Test.YtkpngpongbpfgaaRight
import Derived.Test.YtkpngpongbpfgaaMade
import Derived.Lib.EndianBits
namespace Go.Proofs.Ytkpngpongbpfgaa
open Go.RowKit

/-- A number as a small one: the number, and whether it is one. -/
def smallI (neg : Bool) (xs : List Int) : Int := if rightB neg xs && decide (xs.length ≤ 8) then (if neg then (if val8 xs ≤ 9223372036854775808 then -(val8 xs : Int) else 0) else (if val8 xs < 9223372036854775808 then (val8 xs : Int) else 0)) else 0
def smallB (neg : Bool) (xs : List Int) : Bool := if rightB neg xs && decide (xs.length ≤ 8) then (if neg then decide (val8 xs ≤ 9223372036854775808) else decide (val8 xs < 9223372036854775808)) else false

theorem val8_take (xs : List Int) (k c : Nat) (h : xs.take (k + 1) = xs.take k ++ [(c : Int)]) : val8 (xs.take (k + 1)) = val8 (xs.take k) * 256 + c := by
  rw [h, val8_snoc]; simp

theorem or64 (V c : Nat) (hV : V < 72057594037927936) (hc : c < 256) : bits .or .u64 ((V : Int) * 256) (c : Int) = ((V * 256 + c : Nat) : Int) := by
  rw [bits_join .u64 64 (by decide) wraps_u64 8 _ _ (by omega) (by omega) (by omega) (by omega) (by omega) (by omega)]
  omega
theorem negw (V : Nat) (h : V ≤ 9223372036854775808) : wrap64 (-wrap64 (V : Int)) = -(V : Int) := by unfold wrap64; omega
theorem negw2 (V : Nat) (h : V ≤ 9223372036854775808) : wrap64 (IntKind.u64.wrap (-(V : Int))) = -(V : Int) := by rw [wrapU]; unfold wrap64; omega
theorem take_lt (xs : List Int) (hb : ∀ x ∈ xs, 0 ≤ x ∧ x < 256) (k m : Nat) (h : k ≤ m) : val8 (xs.take k) < 256 ^ m := by
  refine Nat.lt_of_lt_of_le (val8_lt (xs.take k) (fun x hx => hb x (List.mem_of_mem_take hx))) (Nat.pow_le_pow_right (by decide) ?_)
  simp; omega

set_option maxRecDepth 100000 in
set_option maxHeartbeats 1000000 in
theorem small_any {a : Option Addr} {len cap : Nat} {xs : List Int} {w : World} (neg : Bool) (h : IsB w a len cap xs) :
    Calls Try.prog 46 #[.agg #[.bool neg, .slice a len cap]] w fun e w' => e = .returned (.tuple #[.int .i64 (smallI neg xs), .bool (smallB neg xs)]) ∧ Below w.heap.size w w' := by
  have hsz := h.size
  have hm := h.room
  have hmm := h.most
  unfold maxLen at hmm
  have hb := box_below w (.cells #[.bool neg, .slice a len cap] 28)
  have hI := h.below hb
  go_enter Try.func46, Try.ntmps46
  go_wp2_with fail
  refine (right_any neg hI).mono ?_
  rintro e w1 ⟨rfl, hb1⟩
  have hB1 := below_size hb (Nat.le_refl _) hb1
  have hv : w1.heap[w.heap.size]? = some (.cells #[.bool neg, .slice a len cap] 28 (0, 0)) := (hb1.block _ (by simp)).trans (heap_alloc_new w _)
  obtain ⟨x0, x1, _, _⟩ := intVar hv
  have hI1 := hI.below hb1
  cases hr : rightB neg xs with
  | false =>
    have e1 : Hid (smallI neg xs = 0) := by show _ = _; simp [smallI, hr]
    have e2 : Hid (smallB neg xs = false) := by show _ = _; simp [smallB, hr]
    go_wp2
    go_ret2
    exact ⟨by rw [e1.out, e2.out]; rfl, hB1⟩
  | true =>
    by_cases h8 : len ≤ 8
    · have h8' : ¬ (8 : Int) < (len : Int) := by omega
      have h64 : len < 9223372036854775808 := by omega
      go_wp2
      go_loop [19, 4] (fun i s => ∃ k : Nat, k ≤ len ∧ i = .int .i64 k ∧ s = .int .u64 (val8 (xs.take k) : Int)) (fun i s => len - (intOf i).toNat)
      case atStart => exact ⟨0, Nat.zero_le _, rfl, rfl⟩
      case round =>
        obtain ⟨k, hk, rfl, rfl⟩ := hrel
        by_cases hlt : k < len
        · obtain ⟨b, off, rfl, hc⟩ := hI1.cells (by omega)
          have hck := hc k hlt
          obtain ⟨c, hc8, hcx, ht⟩ := byteAt xs h.byte k (by omega)
          rw [hcx] at hck
          have hV : val8 (xs.take k) < 256 ^ 7 := take_lt xs h.byte k 7 (by omega)
          have hn : Hid (val8 (xs.take (k + 1)) = val8 (xs.take k) * 256 + c) := val8_take xs k c ht.out
          have ho := or64 (val8 (xs.take k)) c hV hc8
          clear hc hcx ht
          go_wp2
          go_round
          case rel => exact ⟨k + 1, by omega, by go_num, by rw [hn.out]; simp⟩
          case measure => simp [intOf]; omega
        · obtain rfl : k = len := by omega
          have hall : xs.take k = xs := List.take_of_length_le (by omega)
          rw [hall]
          have hV : val8 xs < 256 ^ 8 := by rw [← hall]; exact take_lt xs h.byte k 8 h8
          obtain ⟨V, HV⟩ : ∃ V, Hid (val8 xs = V) := ⟨_, rfl⟩
          have e1 : Hid (smallI neg xs = if neg then (if V ≤ 9223372036854775808 then -(V : Int) else 0) else (if V < 9223372036854775808 then (V : Int) else 0)) := by
            show _ = _; unfold smallI; rw [hr, HV.out]; simp [show xs.length ≤ 8 by omega]
          have e2 : Hid (smallB neg xs = if neg then decide (V ≤ 9223372036854775808) else decide (V < 9223372036854775808)) := by
            show _ = _; unfold smallB; rw [hr, HV.out]; simp [show xs.length ≤ 8 by omega]
          rw [HV.out] at hV ⊢
          clear hall HV
          cases neg
          · by_cases hl : V < 9223372036854775808
            · have hl' : ((V : Int) < 9223372036854775808) := by omega
              go_wp2
              go_ret2
              exact ⟨by rw [e1.out, e2.out]; simp [hl], hB1⟩
            · have hl' : ¬ ((V : Int) < 9223372036854775808) := by omega
              go_wp2
              go_ret2
              exact ⟨by rw [e1.out, e2.out]; simp [hl], hB1⟩
          · by_cases hl : V ≤ 9223372036854775808
            · have hl' : ((V : Int) ≤ 9223372036854775808) := by omega
              have hw := negw V hl
              go_wp2
              go_ret2
              exact ⟨by rw [e1.out, e2.out]; simp [hl], hB1⟩
            · have hl' : ¬ ((V : Int) ≤ 9223372036854775808) := by omega
              go_wp2
              go_ret2
              exact ⟨by rw [e1.out, e2.out]; simp [hl], hB1⟩
    · have h8' : (8 : Int) < (len : Int) := by omega
      have e1 : Hid (smallI neg xs = 0) := by show _ = _; simp [smallI, hr]; omega
      have e2 : Hid (smallB neg xs = false) := by show _ = _; simp [smallB, hr]; omega
      go_wp2
      go_ret2
      exact ⟨by rw [e1.out, e2.out]; rfl, hB1⟩
set_option maxRecDepth 100000 in
set_option maxHeartbeats 1000000 in
theorem rsmall_any {a : Option Addr} {len cap : Nat} {xs : List Int} {w : World} (neg : Bool) (h : IsB w a len cap xs) :
    Calls Try.prog 88 #[.agg #[.bool neg, .slice a len cap]] w fun e w' => e = .returned (.tuple #[.int .i64 (smallI neg xs), .bool (smallB neg xs)]) ∧ Below w.heap.size w w' := by
  have hsz := h.size
  have hm := h.room
  have hmm := h.most
  unfold maxLen at hmm
  have hb := box_below w (.cells #[.bool neg, .slice a len cap] 24)
  have hI := h.below hb
  go_enter Try.func88, Try.ntmps88
  go_wp2_with fail
  refine (rright_any neg hI).mono ?_
  rintro e w1 ⟨rfl, hb1⟩
  have hB1 := below_size hb (Nat.le_refl _) hb1
  have hv : w1.heap[w.heap.size]? = some (.cells #[.bool neg, .slice a len cap] 24 (0, 0)) := (hb1.block _ (by simp)).trans (heap_alloc_new w _)
  obtain ⟨x0, x1, _, _⟩ := intVarT hv
  have hI1 := hI.below hb1
  cases hr : rightB neg xs with
  | false =>
    have e1 : Hid (smallI neg xs = 0) := by show _ = _; simp [smallI, hr]
    have e2 : Hid (smallB neg xs = false) := by show _ = _; simp [smallB, hr]
    go_wp2
    go_ret2
    exact ⟨by rw [e1.out, e2.out]; rfl, hB1⟩
  | true =>
    by_cases h8 : len ≤ 8
    · have h8' : ¬ (8 : Int) < (len : Int) := by omega
      have h64 : len < 9223372036854775808 := by omega
      go_wp2
      go_loop [5, 4] (fun i s => ∃ k : Nat, k ≤ len ∧ i = .int .i64 k ∧ s = .int .u64 (val8 (xs.take k) : Int)) (fun i s => len - (intOf i).toNat)
      case atStart => exact ⟨0, Nat.zero_le _, rfl, rfl⟩
      case round =>
        obtain ⟨k, hk, rfl, rfl⟩ := hrel
        by_cases hlt : k < len
        · obtain ⟨b, off, rfl, hc⟩ := hI1.cells (by omega)
          have hck := hc k hlt
          obtain ⟨c, hc8, hcx, ht⟩ := byteAt xs h.byte k (by omega)
          rw [hcx] at hck
          have hV : val8 (xs.take k) < 256 ^ 7 := take_lt xs h.byte k 7 (by omega)
          have hn : Hid (val8 (xs.take (k + 1)) = val8 (xs.take k) * 256 + c) := val8_take xs k c ht.out
          have ho := or64 (val8 (xs.take k)) c hV hc8
          clear hc hcx ht
          go_wp2
          go_round
          case rel => exact ⟨k + 1, by omega, by go_num, by rw [hn.out]; simp⟩
          case measure => simp [intOf]; omega
        · obtain rfl : k = len := by omega
          have hall : xs.take k = xs := List.take_of_length_le (by omega)
          rw [hall]
          have hV : val8 xs < 256 ^ 8 := by rw [← hall]; exact take_lt xs h.byte k 8 h8
          obtain ⟨V, HV⟩ : ∃ V, Hid (val8 xs = V) := ⟨_, rfl⟩
          have e1 : Hid (smallI neg xs = if neg then (if V ≤ 9223372036854775808 then -(V : Int) else 0) else (if V < 9223372036854775808 then (V : Int) else 0)) := by
            show _ = _; unfold smallI; rw [hr, HV.out]; simp [show xs.length ≤ 8 by omega]
          have e2 : Hid (smallB neg xs = if neg then decide (V ≤ 9223372036854775808) else decide (V < 9223372036854775808)) := by
            show _ = _; unfold smallB; rw [hr, HV.out]; simp [show xs.length ≤ 8 by omega]
          rw [HV.out] at hV ⊢
          clear hall HV
          cases neg
          · by_cases hl : V < 9223372036854775808
            · have hl' : ¬ ((9223372036854775808 : Int) ≤ (V : Int)) := by omega
              go_wp2
              go_ret2
              exact ⟨by rw [e1.out, e2.out]; simp [hl], hB1⟩
            · have hl' : ((9223372036854775808 : Int) ≤ (V : Int)) := by omega
              go_wp2
              go_ret2
              exact ⟨by rw [e1.out, e2.out]; simp [hl], hB1⟩
          · by_cases hl : V ≤ 9223372036854775808
            · have hl' : ¬ ((9223372036854775808 : Int) < (V : Int)) := by omega
              have hw := negw2 V hl
              go_wp2
              go_ret2
              exact ⟨by rw [e1.out, e2.out]; simp [hl], hB1⟩
            · have hl' : ((9223372036854775808 : Int) < (V : Int)) := by omega
              go_wp2
              go_ret2
              exact ⟨by rw [e1.out, e2.out]; simp [hl], hB1⟩
    · have h8' : (8 : Int) < (len : Int) := by omega
      have e1 : Hid (smallI neg xs = 0) := by show _ = _; simp [smallI, hr]; omega
      have e2 : Hid (smallB neg xs = false) := by show _ = _; simp [smallB, hr]; omega
      go_wp2
      go_ret2
      exact ⟨by rw [e1.out, e2.out]; rfl, hB1⟩
end Go.Proofs.Ytkpngpongbpfgaa
