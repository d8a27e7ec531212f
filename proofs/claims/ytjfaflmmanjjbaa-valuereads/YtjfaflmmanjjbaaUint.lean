/- wire.Uint: a new slice with the bytes of a number. -/
import Derived.Test.YtjfaflmmanjjbaaLen
import Derived.Lib.Varint
import Derived.Lib.VarintBits
namespace Go.Proofs.Ytjfaflmmanjjbaa
open Go.RowKit
set_option maxRecDepth 100000

theorem Try.info5 : (Try.prog.info? 5).map (fun i => (i.zero, i.size, i.bytes)) = some (some (.int .u8 0), 1, 1) := by kernel_rfl

theorem len64_named (n : Nat) (w : World) (h1 : n < 18446744073709551616) :
    Calls Try.prog 75 #[.int .u64 ((n ||| 1 : Nat) : Int)] w fun e w' => (∃ L s : Nat, e = .returned (.int .i64 (L : Int)) ∧ L ≤ 64 ∧ ((L : Int) + 6) / 7 = (s : Int) ∧ Hid (s = usz n)) ∧ w = w' := by
  have hlt : (n ||| 1) < 18446744073709551616 := Nat.or_lt_two_pow (n := 64) h1 (by decide)
  refine (len64_any _ w (by omega) (by omega)).mono ?_
  rintro e w' ⟨rfl, rfl⟩
  refine ⟨⟨Lib.bitLen (n ||| 1), usz n, rfl, bitLen_le64 _, by unfold usz; omega, rfl⟩, rfl⟩

def upTo (n s k : Nat) : List Int := (List.range k).map (fun j => ((n / 128 ^ j % 128 + 128 : Nat) : Int)) ++ List.replicate (s - k) 0

theorem upTo_at (n s k j : Nat) (h : j < s) (hk : k ≤ j) : ((upTo n s k).map (Value.int .u8))[j]? = some (.int .u8 0) := by
  unfold upTo
  rw [List.getElem?_map, List.getElem?_append_right (by simp; omega), List.getElem?_replicate]
  simp; omega

theorem shift_pow (n k : Nat) : ((n : Int) / 2 ^ (7 * k) % 256) % 128 = ((n / 128 ^ k % 128 : Nat) : Int) := by
  have e : ((2 : Int) ^ (7 * k)) = (((128 ^ k : Nat)) : Int) := by
    rw [Int.pow_mul]; simp
  rw [e]
  have : ((n : Int) / ((128 ^ k : Nat) : Int)) = ((n / 128 ^ k : Nat) : Int) := by simp
  rw [this]; omega

theorem upTo_step (n s k : Nat) (h : k < s) : ((upTo n s k).map (Value.int .u8)).set k (.int .u8 (bits BinOp.or IntKind.u8 (↑n / 2 ^ (7 * k) % 256) 128)) = (upTo n s (k + 1)).map (Value.int .u8) := by
  rw [Lib.u8_or128_any _ (by omega) (by omega), shift_pow]
  rw [show (Value.int IntKind.u8 (((n / 128 ^ k % 128 : Nat) : Int) + 128)) = (fun x => Value.int .u8 x) (((n / 128 ^ k % 128 + 128 : Nat) : Int)) by simp]
  rw [← List.map_set]
  congr 1
  unfold upTo
  obtain ⟨m, hm⟩ : ∃ m, s - k = m + 1 := ⟨s - k - 1, by omega⟩
  rw [hm, show s - (k + 1) = m by omega, List.range_succ, List.map_append, List.append_assoc, List.set_append_right _ _ (by simp)]
  simp [List.replicate_succ]

theorem upTo_last (n s : Nat) (h : 1 ≤ s) : ((upTo n s s).map (Value.int .u8))[s - 1]? = some (.int .u8 ((n / 128 ^ (s - 1) % 128 + 128 : Nat) : Int)) := by
  unfold upTo
  rw [List.getElem?_map, List.getElem?_append_left (by simp; omega), List.getElem?_map, List.getElem?_range (by omega)]
  rfl

theorem upTo_end (n s : Nat) (h : 1 ≤ s) : ((upTo n s s).map (Value.int .u8)).set (s - 1) (.int .u8 (bits BinOp.and IntKind.u8 (↑n / 128 ^ (s - 1) % 128 + 128) 127)) =
    ((List.range (s - 1)).map (fun j => ((n / 128 ^ j % 128 + 128 : Nat) : Int)) ++ [((n / 128 ^ (s - 1) % 128 : Nat) : Int)]).map (Value.int .u8) := by
  have e : ((n : Int) / 128 ^ (s - 1) % 128 + 128) = ((n / 128 ^ (s - 1) % 128 + 128 : Nat) : Int) := by simp
  rw [e, u8_and127 _ (by omega) (by omega), ← List.map_set]
  congr 1
  obtain ⟨t, rfl⟩ : ∃ t, s = t + 1 := ⟨s - 1, by omega⟩
  unfold upTo
  rw [Nat.add_sub_cancel, List.range_succ, List.map_append, Nat.sub_self, List.replicate_zero, List.append_nil, List.set_append_right _ _ (by simp)]
  simp only [List.length_map, List.length_range, Nat.sub_self, List.map_cons, List.map_nil, List.set_cons_zero]
  congr 1
  congr 1
  omega

set_option maxHeartbeats 1000000 in
theorem uint_any (n : Nat) (w : World) (h1 : n < 18446744073709551616) :
    Calls Try.prog 64 #[.int .u64 (n : Int)] w fun e w' => e = .returned (.slice (some ⟨w.heap.size, 0, none⟩) (usz n) (usz n)) ∧ w'.ownsRow w.heap.size 5 1 (.slice (some ⟨w.heap.size, 0, none⟩) (usz n) (usz n)) (usz n) ((uvar n).map (Value.int .u8)) ∧ Below w.heap.size w w' := by
  obtain ⟨i0, hi, hz0, hz1, hz2⟩ := info_parts Try.info5
  have hor : bits .or .u64 (n : Int) 1 = ((n ||| 1 : Nat) : Int) := bits_or_u64_nat n 1 h1 (by decide)
  have hus := usz_bd n
  go_enter Try.func64, Try.ntmps64
  go_wp2_with (first
    | (go_at_call 75; refine (len64_named n _ h1).mono ?_; rintro e w' ⟨⟨L, s, rfl, hL, hdiv, hs⟩, rfl⟩; have hs1 : 1 ≤ s ∧ s ≤ 10 := by rw [hs.out]; exact hus)
    | (at_make; refine wpList_make_full _ rfl _ _ 25 rfl w.heap.size 5 i0 (.int .u8 0) 1 Try.underlying25 hi hz0 hz1 _ _ _ _ s rfl rfl (by omega) (by omega) (by rw [hz2]; omega) (by unfold maxLen; omega) (Nat.le_refl _) ?_; intro w1 hown hgrow))
  clear hdiv hL hor
  go_loopw [14] (fun i wr => ∃ k : Nat, k ≤ s ∧ i = .int .i64 k ∧ wr.ownsRow w.heap.size 5 1 (.slice (some ⟨w.heap.size, 0, none⟩) s s) s ((upTo n s k).map (Value.int .u8)) ∧ Below w.heap.size w wr) (fun i _ => s - (intOf i).toNat)
  case atStart =>
    refine ⟨0, Nat.zero_le _, rfl, ?_, (Below.refl _ _).grown hgrow (Nat.le_refl _) (by simp)⟩
    have e : (madeCells (Value.int IntKind.u8 0).cells (s * 1)).toList = (upTo n s 0).map (Value.int .u8) := by
      show (madeCells #[Value.int IntKind.u8 0] (s * 1)).toList = _
      rw [toList_madeCells_one]; simp [upTo]
    rw [← e]; exact hown
  case round =>
    obtain ⟨k, hk, rfl, hownk, hbel⟩ := hrel
    by_cases hlt : k < s
    · have hf := hownk.frozenAt k
      have hc : wr.cell? ⟨w.heap.size, k, none⟩ = some (.int .u8 0) := by
        rw [hownk.cellAt k (by omega), upTo_at n s k k hlt (Nat.le_refl _)]
      go_wp2
      go_roundw
      case rel =>
        have hst := hownk.stored k (.int .u8 (bits BinOp.or IntKind.u8 (↑n / 2 ^ (7 * k) % 256) 128))
        refine ⟨k + 1, by omega, by go_num, ?_, hbel.grown hst.2 hbel.size (by simp)⟩
        rw [← upTo_step n s k hlt]
        exact hst.1
      case measure => simp [intOf]; omega
    · obtain rfl : k = s := by omega
      have hf := hownk.frozenAt (k - 1)
      have hc : wr.cell? ⟨w.heap.size, k - 1, none⟩ = some (.int .u8 ((n / 128 ^ (k - 1) % 128 + 128 : Nat) : Int)) := by
        rw [hownk.cellAt (k - 1) (by omega), upTo_last n k (by omega)]
      clear hown hgrow
      go_wp2
      go_ret
      have hst := hownk.stored (k - 1) (.int .u8 (bits BinOp.and IntKind.u8 (↑n / 128 ^ (k - 1) % 128 + 128) 127))
      have hbel' := hbel.grown hst.2 hbel.size (by simp)
      rw [upTo_end n k hs1.1] at hst
      rw [hs.out] at hst hbel' ⊢
      rw [← uvar_eq n h1] at hst
      exact ⟨rfl, hst.1, hbel'⟩
end Go.Proofs.Ytjfaflmmanjjbaa
