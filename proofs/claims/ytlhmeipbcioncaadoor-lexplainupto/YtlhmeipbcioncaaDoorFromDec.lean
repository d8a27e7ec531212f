/- fromDecimal: decimal digits as words. -/
import Derived.Test.YtlhmeipbcioncaaDoorCut
import Derived.Test.YtlhmeipbcioncaaDoorMul
namespace Go.Proofs.YtlhmeipbcioncaaDoor
open Go.RowKit

theorem val10_take (d : List Int) (k : Nat) (hk : k < d.length) : val10 (d.take (k + 1)) = val10 (d.take k) * 10 + (d.getD k 0 - 48).toNat := by
  rw [List.take_succ_eq_append_getElem hk, val10_snoc]
  simp [hk]
theorem ten_le (m : Nat) (h : m ≤ 8) : 10 ^ m ≤ 100000000 := by
  have : 10 ^ m ≤ 10 ^ 8 := Nat.pow_le_pow_right (by decide) h
  omega
theorem ten_ne (m : Nat) (h : m < 8) : 10 ^ m * 10 ≠ 1000000000 := by
  have : 10 ^ m ≤ 10 ^ 7 := Nat.pow_le_pow_right (by decide) (by omega)
  omega

set_option maxRecDepth 100000 in
set_option maxHeartbeats 4000000 in
theorem fromDec_any (d : List Int) (w : World) (hd : Digs d) (hl : d.length ≤ 400) :
    Calls Tryd.prog 67 #[.string (strOfNums d)] w fun e w' => e = .returned (W 64 (val10 d)) ∧ Below w.heap.size w w' := by
  have hz := (zero_of_info Tryd.info64).1
  have hsz : (strOfNums d).size = d.length := strOfNums_size d
  have hb : ∀ x ∈ d, 0 ≤ x ∧ x < 256 := fun x hx => by have := hd x hx; omega
  unfold W
  go_enter Tryd.func67, Tryd.ntmps67
  go_wp2
  have a0 : Arr ((w.alloc (.cells (cellsW (words 64 0)) 87)).alloc (.cells (cellsW (words 64 0)) 87)) w.heap.size 87 (words 64 0) := heap_alloc2_old w _ _
  have a1 : Arr ((w.alloc (.cells (cellsW (words 64 0)) 87)).alloc (.cells (cellsW (words 64 0)) 87)) (w.heap.size + 1) 87 (words 64 0) := heap_alloc2_new w _ _
  have hB0 : Below w.heap.size w ((w.alloc (.cells (cellsW (words 64 0)) 87)).alloc (.cells (cellsW (words 64 0)) 87)) := box2 w _ _
  generalize (w.alloc (.cells (cellsW (words 64 0)) 87)).alloc (.cells (cellsW (words 64 0)) 87) = w1 at *
  go_loopw [9, 4, 5] (fun i p s wr => ∃ (k m V P sc : Nat), k ≤ d.length ∧ i = .int .i64 k ∧ p = .int .u32 P ∧ s = .int .u32 sc ∧ m ≤ 8 ∧ Hid (sc = 10 ^ m) ∧ P < sc ∧ sc ≤ 100000000 ∧ Hid (val10 (d.take k) = V * sc + P) ∧ (k = d.length → m = 0) ∧ Arr wr w.heap.size 87 (words 64 0) ∧ Arr wr (w.heap.size + 1) 87 (words 64 V) ∧ Below w.heap.size w wr) (fun i _ _ _ => d.length - (intOf i).toNat)
  case atStart => exact ⟨0, 0, 0, 0, 1, Nat.zero_le _, rfl, rfl, rfl, by decide, rfl, by decide, by decide, rfl, fun _ => rfl, a0, a1, hB0⟩
  case round =>
    obtain ⟨k, m, V, P, sc, hk, rfl, rfl, rfl, hm, hsc, hP, hs8, hv, hme, b0, b1, hB⟩ := hrel
    clear a0 a1 hB0 hz
    by_cases hlt : k < d.length
    · have hltI : (k : Int) < (d.length : Int) := by omega
      have hat := str_at d hb k hlt
      have hdg := hd (d.getD k 0) (by rw [show d.getD k 0 = d[k] by simp [hlt]]; exact List.getElem_mem hlt)
      have hvt := val10_take d k hlt
      obtain ⟨c, hc⟩ : ∃ c : Nat, d.getD k 0 = (c : Int) + 48 ∧ c ≤ 9 := ⟨(d.getD k 0 - 48).toNat, by omega, by omega⟩
      rw [hc.1] at hat hvt
      have hc9 := hc.2
      have hPc : P * 10 + c < sc * 10 := by omega
      have hnv : Hid (val10 (d.take (k + 1)) = V * (sc * 10) + (P * 10 + c)) := by
        show _ = _
        rw [hvt, hv.out, show ((c : Int) + 48 - 48).toNat = c by omega, Nat.add_mul, Nat.mul_assoc]
        omega
      have hcm : ((c : Int) + 48 - 48) % 256 = (c : Int) := by omega
      have hcm2 : ((c : Int) + 48 - 48) = (c : Int) := by omega
      clear hdg hvt hc hb hd
      by_cases h8 : m = 8
      · have hsc8 : sc = 100000000 := by rw [hsc.out, h8]
        subst hsc8
        go_wp2_with fail
        have c73 := addOnto_any (w.heap.size + 1) 87 64 64 V (100000000 * 10) (P * 10 + c) [] wr (by rw [List.append_nil]; exact b1) (by decide) (by decide) (by omega) (by omega)
        rw [show ((100000000 * 10 : Nat) : Int) = 1000000000 by simp, show ((P * 10 + c : Nat) : Int) = (P : Int) * 10 + (c : Int) by simp, List.append_nil] at c73
        refine c73.mono ?_
        rintro e w2 ⟨rfl, rfl⟩
        have d0 := b0.otherW (cellsW (words 64 (V * (100000000 * 10) + (P * 10 + c)))) (show w.heap.size ≠ w.heap.size + 1 by omega)
        have d1 := b1.setW (words 64 (V * (100000000 * 10) + (P * 10 + c)))
        have dB := below_setRow hB (show w.heap.size ≤ w.heap.size + 1 by omega) (cellsW (words 64 (V * (100000000 * 10) + (P * 10 + c))))
        generalize wr.setRow (w.heap.size + 1) (cellsW (words 64 (V * (100000000 * 10) + (P * 10 + c)))) = w3 at *
        clear c73 b0 b1 hB
        go_wp2
        go_roundw
        case rel => exact ⟨k + 1, 0, V * (100000000 * 10) + (P * 10 + c), 0, 1, by omega, by go_num, rfl, rfl, by decide, rfl, by decide, by decide, by show _ = _; rw [hnv.out]; simp, fun _ => rfl, d0, d1, dB⟩
        case measure => simp [intOf]; omega
      · have hne : ((sc : Int) * 10 == 1000000000) = false := by
          have := ten_ne m (by omega)
          rw [← hsc.out] at this
          simp
          omega
        by_cases hlast : k + 1 = d.length
        · have hlI : ((k : Int) == (d.length : Int) - 1) = true := by simp; omega
          go_wp2_with fail
          have c73 := addOnto_any (w.heap.size + 1) 87 64 64 V (sc * 10) (P * 10 + c) [] wr (by rw [List.append_nil]; exact b1) (by decide) (by decide) (by omega) (by omega)
          rw [show ((sc * 10 : Nat) : Int) = (sc : Int) * 10 by simp, show ((P * 10 + c : Nat) : Int) = (P : Int) * 10 + (c : Int) by simp, List.append_nil] at c73
          refine c73.mono ?_
          rintro e w2 ⟨rfl, rfl⟩
          have d0 := b0.otherW (cellsW (words 64 (V * (sc * 10) + (P * 10 + c)))) (show w.heap.size ≠ w.heap.size + 1 by omega)
          have d1 := b1.setW (words 64 (V * (sc * 10) + (P * 10 + c)))
          have dB := below_setRow hB (show w.heap.size ≤ w.heap.size + 1 by omega) (cellsW (words 64 (V * (sc * 10) + (P * 10 + c))))
          generalize wr.setRow (w.heap.size + 1) (cellsW (words 64 (V * (sc * 10) + (P * 10 + c)))) = w3 at *
          clear c73 b0 b1 hB
          go_wp2
          go_roundw
          case rel => exact ⟨k + 1, 0, V * (sc * 10) + (P * 10 + c), 0, 1, by omega, by go_num, rfl, rfl, by decide, rfl, by decide, by decide, by show _ = _; rw [hnv.out]; simp, fun _ => rfl, d0, d1, dB⟩
          case measure => simp [intOf]; omega
        · have hlI : ((k : Int) == (d.length : Int) - 1) = false := by simp; omega
          go_wp2
          go_roundw
          case rel => exact ⟨k + 1, m + 1, V, P * 10 + c, sc * 10, by omega, by go_num, by simp, by simp, by omega, by show _ = _; rw [hsc.out, Nat.pow_succ], hPc, by have := ten_le (m + 1) (by omega); rw [Nat.pow_succ, ← hsc.out] at this; exact this, hnv, fun h => absurd h hlast, b0, b1, hB⟩
          case measure => simp [intOf]; omega
    · obtain rfl : k = d.length := by omega
      have hm0 := hme rfl
      subst hm0
      have hv' := hv.out
      rw [List.take_length, hsc.out, Nat.pow_zero, Nat.mul_one] at hv'
      rw [hsc.out, Nat.pow_zero] at hP
      obtain rfl : P = 0 := by omega
      rw [Nat.add_zero] at hv'
      rw [← hv'] at b1
      clear hv'
      have hltI : ¬ (d.length : Int) < (d.length : Int) := by omega
      go_wp2_with (first | refine wpList_load_row rfl 87 _ rfl (w.heap.size + 1) rfl 87 _ _ _ b1 Tryd.underlying87 rfl (size64 _) ?_ | refine wpList_store_row rfl 87 _ _ rfl w.heap.size _ rfl rfl 87 _ b0 (size64 _) (by rw [cellsW_size, cellsW_size, words_len, words_len]) (cellsW_one _) ?_)
      exact bodyPost_ret (v := .agg (cellsW (words 64 (val10 d)))) (results_cell_row (by rfl) _ _ w.heap.size 87 _ (0, 0) _ rfl (b0.setW _) Tryd.underlying87 rfl (size64 _)) rfl ⟨rfl, below_setRow hB (Nat.le_refl _) _⟩
end Go.Proofs.YtlhmeipbcioncaaDoor
