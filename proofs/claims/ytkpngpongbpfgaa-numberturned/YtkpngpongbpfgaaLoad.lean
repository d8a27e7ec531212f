/- load: a number's bytes as words. -/
import Derived.Test.YtkpngpongbpfgaaDiff
import Derived.Test.YtkpngpongbpfgaaMag
import Derived.StillTailTactics
namespace Go.Proofs.Ytkpngpongbpfgaa
open Go.RowKit

theorem val8_last (xs : List Int) (k c : Nat) (hk : k < xs.length) (hc : xs.getD (xs.length - 1 - k) 0 = (c : Int)) : val8 (xs.drop (xs.length - (k + 1))) = c * 256 ^ k + val8 (xs.drop (xs.length - k)) := by
  have e : xs.length - (k + 1) = xs.length - 1 - k := by omega
  rw [e, List.drop_eq_getElem_cons (show xs.length - 1 - k < xs.length by omega), val8_cons, show xs.length - 1 - k + 1 = xs.length - k by omega]
  have hg : xs[xs.length - 1 - k]'(by omega) = (c : Int) := by
    rw [← hc]; simp [List.getD, show xs.length - 1 - k < xs.length by omega]
  rw [hg, List.length_drop, show xs.length - (xs.length - k) = k by omega]
  simp

theorem low_or (D c r : Nat) (hr : r < 4) (hD : D < 256 ^ r) (hc : c < 256) : bits .or .u32 (D : Int) ((c : Int) * 2 ^ (8 * r) % 4294967296) = ((D + c * 256 ^ r : Nat) : Int) := by
  match r, hr with
  | 0, _ =>
    rw [bits_join_low .u32 32 (by decide) wraps_u32 0 _ _ (by omega) (by omega) (by omega) (by omega) (by omega) (by omega)]
    omega
  | 1, _ =>
    rw [bits_join_low .u32 32 (by decide) wraps_u32 8 _ _ (by omega) (by omega) (by omega) (by omega) (by omega) (by omega)]
    omega
  | 2, _ =>
    rw [bits_join_low .u32 32 (by decide) wraps_u32 16 _ _ (by omega) (by omega) (by omega) (by omega) (by omega) (by omega)]
    omega
  | 3, _ =>
    rw [bits_join_low .u32 32 (by decide) wraps_u32 24 _ _ (by omega) (by omega) (by omega) (by omega) (by omega) (by omega)]
    omega
theorem low_room (D c r : Nat) (hr : r < 4) (hD : D < 256 ^ r) (hc : c < 256) : D + c * 256 ^ r < 4294967296 := by
  match r, hr with
  | 0, _ => omega
  | 1, _ => omega
  | 2, _ => omega
  | 3, _ => omega
theorem pow_part (k : Nat) : 256 ^ k = 256 ^ (k % 4) * 4294967296 ^ (k / 4) := by
  rw [show (4294967296 : Nat) = 256 ^ 4 from rfl, ← Nat.pow_mul, ← Nat.pow_add]
  congr 1; omega

set_option maxRecDepth 100000 in
set_option maxHeartbeats 2000000 in
theorem load_any {a : Option Addr} {len cap : Nat} {xs : List Int} {w : World} (h : IsB w a len cap xs) (hl : len ≤ 128) :
    Calls Try.prog 74 #[.slice a len cap] w fun e w' => e = .returned (W 32 (val8 xs)) ∧ Below w.heap.size w w' := by
  unfold W
  have hsz := h.size
  go_enter Try.func74, Try.ntmps74
  go_wp2
  rw [zero32]
  have a0 : Arr ((w.alloc (.cells (cellsW (words 32 0)) 103)).alloc (.cells (cellsW (words 32 0)) 103)) w.heap.size 103 (words 32 0) := heap_alloc2_old w _ _
  have a1 : Arr ((w.alloc (.cells (cellsW (words 32 0)) 103)).alloc (.cells (cellsW (words 32 0)) 103)) (w.heap.size + 1) 103 (words 32 (val8 (xs.drop (xs.length - 0)))) := by
    rw [Nat.sub_zero, List.drop_length]; exact heap_alloc2_new w _ _
  have hb : Below w.heap.size w ((w.alloc (.cells (cellsW (words 32 0)) 103)).alloc (.cells (cellsW (words 32 0)) 103)) := box2 w _ _
  generalize (w.alloc (.cells (cellsW (words 32 0)) 103)).alloc (.cells (cellsW (words 32 0)) 103) = w1 at *
  go_loopw [7] (fun i wr => ∃ k : Nat, k ≤ len ∧ i = .int .i64 k ∧ Arr wr w.heap.size 103 (words 32 0) ∧ Arr wr (w.heap.size + 1) 103 (words 32 (val8 (xs.drop (xs.length - k)))) ∧ Below w.heap.size w wr) (fun i _ => len - (intOf i).toNat)
  case atStart => exact ⟨0, Nat.zero_le _, rfl, a0, a1, hb⟩
  case round =>
    obtain ⟨k, hk, rfl, b0, b1, hB⟩ := hrel
    clear a0 a1 hb
    by_cases hlt : k < len
    · obtain ⟨b, off, rfl, hc⟩ := (h.below hB).cells (by omega)
      have hck := hc (len - 1 - k) (by omega)
      obtain ⟨c, hc8, hcx, _⟩ := byteAt xs h.byte (len - 1 - k) (by omega)
      rw [hcx] at hck
      rw [← hsz] at hcx
      have hv := val8_last xs k c (by omega) hcx
      obtain ⟨q, hq⟩ : ∃ q, q = k / 4 := ⟨_, rfl⟩
      obtain ⟨r, hr⟩ : ∃ r, r = k % 4 := ⟨_, rfl⟩
      have hq1 : (k : Int) / 4 = (q : Int) := by omega
      have hr1 : (k : Int) % 4 = (r : Int) := by omega
      have hr4 : r < 4 := by omega
      have hql : q < 32 := by omega
      have cq := b1.cell q (by rw [words_len]; exact hql)
      have fq := b1.frozen q
      simp only [List.getD_eq_getElem?_getD, words_get _ _ _ hql, Option.getD_some] at cq
      have i1 : (len : Int) - 1 - (k : Int) = ((len - 1 - k : Nat) : Int) := by omega
      obtain ⟨D, hD⟩ : ∃ D, val8 (xs.drop (xs.length - k)) / 4294967296 ^ q % 4294967296 = D := ⟨_, rfl⟩
      rw [hD] at cq
      have Hq : Hid (q = k / 4) := hq
      have Hr : Hid (r = k % 4) := hr
      have HD : Hid (val8 (xs.drop (xs.length - k)) / 4294967296 ^ q % 4294967296 = D) := hD
      have hD32 : D < 4294967296 := by rw [← hD]; exact Nat.mod_lt _ (by decide)
      have Hv : Hid (val8 (xs.drop (xs.length - (k + 1))) = c * 256 ^ k + val8 (xs.drop (xs.length - k))) := hv
      clear hc hcx hq hr hD hv
      go_wp2
      have wq : IntKind.i64.wrap (q : Int) = (q : Int) := by rw [IntKind.wrap_i64]; omega
      have wr1 : IntKind.i64.wrap (r : Int) = (r : Int) := by rw [IntKind.wrap_i64]; omega
      have wl1 : IntKind.i64.wrap ((len : Int) - 1) = (len : Int) - 1 := by rw [IntKind.wrap_i64]; omega
      have wl2 : IntKind.i64.wrap (((len - 1 - k : Nat) : Int)) = ((len - 1 - k : Nat) : Int) := by rw [IntKind.wrap_i64]; omega
      have wl3 : (((len - 1 - k : Nat) : Int)) < (len : Int) := by omega
      have w8 : IntKind.i64.wrap (8 * (r : Int)) = ((8 * r : Nat) : Int) := by rw [IntKind.wrap_i64]; omega
      have q32 : (q : Int) < 32 := by omega
      have tm : (k : Int).tmod 4 = (r : Int) := by rw [Int.tmod_eq_emod_of_nonneg (by omega)]; exact hr1
      have wc : IntKind.u32.wrap (c : Int) = (c : Int) := by rw [IntKind.wrap_u32]; omega
      go_still_tail 19, (by kernel_rfl)
      go_wp2
      go_roundw
      case rel =>
        have hVlt : val8 (xs.drop (xs.length - k)) < 256 ^ k := by
          have := val8_lt (xs.drop (xs.length - k)) (fun x hx => h.byte x (List.mem_of_mem_drop hx))
          rwa [List.length_drop, show xs.length - (xs.length - k) = k by omega] at this
        have hDr : D < 256 ^ r := by
          rw [← HD.out, Hq.out, Hr.out]
          rw [pow_part] at hVlt
          exact Nat.lt_of_le_of_lt (Nat.mod_le _ _) (Nat.div_lt_of_lt_mul (by rw [Nat.mul_comm]; exact hVlt))
        have hnew : words 32 (val8 (xs.drop (xs.length - (k + 1)))) = (words 32 (val8 (xs.drop (xs.length - k)))).set q ((D + c * 256 ^ r : Nat) : Int) := by
          have hp := words_put 32 (val8 (xs.drop (xs.length - k))) (c * 256 ^ r) q hql (by rw [HD.out]; exact low_room D c r hr4 hDr hc8)
          rw [HD.out] at hp
          rw [hp, Hv.out, pow_part k, Hq.out, Hr.out, Nat.mul_assoc, Nat.add_comm]
        rw [low_or D c r hr4 hDr hc8]
        refine ⟨k + 1, by omega, by go_num, Arr.other (w := wr) b0 (by omega), ?_, (hB.setCell (by simp) _).drew⟩
        rw [hnew]
        exact Arr.set (w := wr) b1 q _
      case measure => simp [intOf]; omega
    · obtain rfl : k = len := by omega
      have e0 : xs.drop (xs.length - k) = xs := by rw [hsz, Nat.sub_self, List.drop_zero]
      rw [e0] at b1
      go_wp2_with (first | refine wpList_load_row rfl 103 _ rfl (w.heap.size + 1) rfl 103 _ _ _ b1 Try.underlying103 rfl (size67 _) ?_ | refine wpList_store_row rfl 103 _ _ rfl w.heap.size _ rfl rfl 103 _ b0 (size67 _) (by rw [cellsW_size, cellsW_size, words_len, words_len]) (cellsW_one _) ?_)
      exact bodyPost_ret (v := .agg (cellsW (words 32 (val8 xs)))) (results_cell_row (by rfl) _ _ w.heap.size 103 _ (0, 0) _ rfl (b0.setW _) Try.underlying103 rfl (size67 _)) rfl ⟨rfl, below_setRow hB (Nat.le_refl _) _⟩
end Go.Proofs.Ytkpngpongbpfgaa
