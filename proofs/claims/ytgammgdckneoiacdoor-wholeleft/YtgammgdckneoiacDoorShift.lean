/- shiftLeft, shiftRight and LeadingZeros32. -/
import Derived.Test.YtgammgdckneoiacDoorTake
import Derived.Test.YtgammgdckneoiacDoorProd
namespace Go.Proofs.YtgammgdckneoiacDoor
open Go.RowKit

theorem Tryd.info104 : (Tryd.prog.info? 77).map (fun i => (i.zero, i.size)) = some (some (.agg (cellsW (words 33 0))), 33) := by kernel_rfl
theorem size104 (V : Nat) : (Tryd.prog.info? 77).map (·.size) = some (cellsW (words 33 V)).size := by
  rw [cellsW_size, words_len]; exact (zero_of_info Tryd.info104).2

/-- What is carried from word to word: the bits above. -/
theorem shl_carry (P V s : Nat) (hP : 0 < P) : V % (P * 4294967296) * 2 ^ s / (P * 4294967296) = (V % P * 2 ^ s / P + V / P % 4294967296 * 2 ^ s) / 4294967296 := by
  have := mul_carry P V (2 ^ s) 0 hP
  simpa using this
theorem shl_word (P V s : Nat) (hP : 0 < P) : V * 2 ^ s / P % 4294967296 = (V % P * 2 ^ s / P + V / P % 4294967296 * 2 ^ s) % 4294967296 := by
  have := mul_word P V (2 ^ s) 0 hP
  simpa using this
theorem shl_low (P V s : Nat) (hP : 0 < P) : V % P * 2 ^ s / P < 2 ^ s := by
  rw [Nat.div_lt_iff_lt_mul hP, Nat.mul_comm (2 ^ s) P]
  exact Nat.mul_lt_mul_of_pos_right (Nat.mod_lt _ hP) (Nat.pow_pos (by decide))
theorem shl_or (c x s : Nat) (hs : s < 32) (hc : c < 2 ^ s) (hx : x < 4294967296) : bits .or .u64 (c : Int) ((x : Int) * 2 ^ s) = ((c + x * 2 ^ s : Nat) : Int) := by
  have hp : 2 ^ s ≤ 2147483648 := by
    have : 2 ^ s ≤ 2 ^ 31 := Nat.pow_le_pow_right (by decide) (by omega)
    omega
  have h1 : x * 2 ^ s ≤ 4294967295 * 2147483648 := Nat.mul_le_mul (by omega) hp
  have e : ((x : Int) * 2 ^ s) = ((x * 2 ^ s : Nat) : Int) := by simp
  rw [e, bits_join_low .u64 64 (by decide) wraps_u64 s _ _ (by omega) (by exact_mod_cast hc) (by omega) (by omega) (by rw [← e]; exact Int.mul_emod_left _ _) (by omega)]
  simp

set_option maxRecDepth 100000 in
set_option maxHeartbeats 4000000 in
theorem shl_any (X s : Nat) (w : World) (hX : X < 4294967296 ^ 32) (hs : s < 32) :
    Calls Tryd.prog 48 #[W 32 X, .int .i64 (s : Int)] w fun e w' => e = .returned (W 33 (X * 2 ^ s)) ∧ Below w.heap.size w w' := by
  have hz := (zero_of_info Tryd.info104).1
  have hp31 : 2 ^ s ≤ 2147483648 := by
    have : 2 ^ s ≤ 2 ^ 31 := Nat.pow_le_pow_right (by decide) (by omega)
    omega
  have hs64 : (s : Int) < 64 := by omega
  obtain ⟨V, HV⟩ : ∃ V, Hid (X * 2 ^ s = V) := ⟨_, rfl⟩
  rw [HV.out]
  unfold W
  go_enter Tryd.func48, Tryd.ntmps48
  go_wp2
  have a0 : Arr (((w.alloc (.cells (cellsW (words 32 X)) 56)).alloc (.cells (cellsW (words 33 0)) 77)).alloc (.cells (cellsW (words 33 0)) 77)) w.heap.size 56 (words 32 X) := Arr.alloc (heap_alloc2_old w _ _) _
  have a1 : Arr (((w.alloc (.cells (cellsW (words 32 X)) 56)).alloc (.cells (cellsW (words 33 0)) 77)).alloc (.cells (cellsW (words 33 0)) 77)) (w.heap.size + 1) 77 (words 33 0) := Arr.alloc (heap_alloc2_new w _ _) _
  have a2 : Arr (((w.alloc (.cells (cellsW (words 32 X)) 56)).alloc (.cells (cellsW (words 33 0)) 77)).alloc (.cells (cellsW (words 33 0)) 77)) (w.heap.size + 2) 77 (mix 33 V 0 0) := by
    rw [mix_zero]
    have := heap_alloc_new ((w.alloc (.cells (cellsW (words 32 X)) 56)).alloc (.cells (cellsW (words 33 0)) 77)) (.cells (cellsW (words 33 0)) 77)
    rwa [show ((w.alloc (.cells (cellsW (words 32 X)) 56)).alloc (.cells (cellsW (words 33 0)) 77)).heap.size = w.heap.size + 2 by simp] at this
  have hb : Below w.heap.size w (((w.alloc (.cells (cellsW (words 32 X)) 56)).alloc (.cells (cellsW (words 33 0)) 77)).alloc (.cells (cellsW (words 33 0)) 77)) := (box2 w _ _).alloc (by simp; omega) _
  generalize (((w.alloc (.cells (cellsW (words 32 X)) 56)).alloc (.cells (cellsW (words 33 0)) 77)).alloc (.cells (cellsW (words 33 0)) 77)) = w1 at *
  go_loopw [8, 6] (fun i c wr => ∃ k : Nat, k ≤ 32 ∧ i = .int .i64 k ∧ c = .int .u64 ((X % 4294967296 ^ k * 2 ^ s / 4294967296 ^ k : Nat) : Int) ∧ Arr wr w.heap.size 56 (words 32 X) ∧ Arr wr (w.heap.size + 1) 77 (words 33 0) ∧ Arr wr (w.heap.size + 2) 77 (mix 33 V 0 k) ∧ Below w.heap.size w wr) (fun i _ _ => 32 - (intOf i).toNat)
  case atStart => exact ⟨0, by decide, rfl, by simp [Nat.mod_one], a0, a1, a2, hb⟩
  case round =>
    obtain ⟨k, hk, rfl, rfl, b0, b1, b2, hB⟩ := hrel
    clear a0 a1 a2 hb hz
    have hP : 0 < 4294967296 ^ k := Nat.pow_pos (by decide)
    have hcl := shl_low (4294967296 ^ k) X s hP
    have ew := shl_word (4294967296 ^ k) X s hP
    rw [HV.out] at ew
    by_cases hlt : k < 32
    · have c0 := b0.cell k (by rw [words_len]; exact hlt)
      have c2 := b2.cell k (by rw [mix_len]; omega)
      have f2 := b2.frozen k
      rw [words_getD' _ _ _ hlt] at c0
      have e1 := shl_carry (4294967296 ^ k) X s hP
      rw [← Nat.pow_succ] at e1
      obtain ⟨x, hx⟩ : ∃ x, X / 4294967296 ^ k % 4294967296 = x := ⟨_, rfl⟩
      have hx32 : x < 4294967296 := by rw [← hx]; exact Nat.mod_lt _ (by decide)
      obtain ⟨C, hC⟩ : ∃ C, X % 4294967296 ^ k * 2 ^ s / 4294967296 ^ k = C := ⟨_, rfl⟩
      rw [hx] at c0 e1 ew
      rw [hC] at hcl e1 ew ⊢
      have hor := shl_or C x s hs hcl hx32
      have hxm : x * 2 ^ s ≤ 4294967295 * 2147483648 := Nat.mul_le_mul (by omega) hp31
      obtain ⟨E, hE⟩ : ∃ E, C + x * 2 ^ s = E := ⟨_, rfl⟩
      rw [hE] at hor e1 ew
      have hE64 : E < 18446744073709551616 := by omega
      have H1 : Hid (X % 4294967296 ^ (k + 1) * 2 ^ s / 4294967296 ^ (k + 1) = E / 4294967296) := e1
      have H2 : Hid (V / 4294967296 ^ k % 4294967296 = E % 4294967296) := ew
      have hsh : (x : Int) * 2 ^ s % 18446744073709551616 = (x : Int) * 2 ^ s := by
        have : (x : Int) * 2 ^ s = ((x * 2 ^ s : Nat) : Int) := by simp
        rw [this]; omega
      clear e1 ew hx hC hE
      go_wp2
      go_roundw
      case rel =>
        have e4 : (E : Int) % 4294967296 = ((V / 4294967296 ^ k % 4294967296 : Nat) : Int) := by rw [H2.out]; omega
        refine ⟨k + 1, by omega, by go_num, ?_, b0.other (by omega), b1.other (by omega), ?_, hB.setCell (by simp; omega) _⟩
        · rw [H1.out]; simp
        · rw [e4, ← mix_up 33 V 0 k (by omega)]
          exact b2.set k _
      case measure => simp [intOf]; omega
    · obtain rfl : k = 32 := by omega
      have c2 := b2.cell 32 (by rw [mix_len]; decide)
      have f2 := b2.frozen 32
      rw [Nat.div_eq_of_lt hX, Nat.zero_mod, Nat.zero_mul, Nat.add_zero] at ew
      obtain ⟨C, hC⟩ : ∃ C, X % 4294967296 ^ 32 * 2 ^ s / 4294967296 ^ 32 = C := ⟨_, rfl⟩
      rw [hC] at hcl ew ⊢
      have hC32 : C < 4294967296 := by omega
      have e4 : ((V / 4294967296 ^ 32 % 4294967296 : Nat) : Int) = (C : Int) := by rw [ew, Nat.mod_eq_of_lt hC32]
      have g3 := b2.set 32 (C : Int)
      rw [← e4, mix_up 33 V 0 32 (by decide), mix_full, e4] at g3
      have g2 := b1.other (b' := w.heap.size + 2) (i := 32) (v := .int .u32 (C : Int)) (by omega)
      have gB : Below w.heap.size w (wr.setCell ⟨w.heap.size + 2, 32, none⟩ (.int .u32 (C : Int))) := hB.setCell (by simp) _
      clear ew e4 hC
      go_wp2_with (first | refine wpList_load_row rfl 77 _ rfl (w.heap.size + 2) rfl 77 _ _ _ g3 Tryd.underlying77 rfl (size104 _) ?_ | refine wpList_store_row rfl 77 _ _ rfl (w.heap.size + 1) _ rfl rfl 77 _ g2 (size104 _) (by rw [cellsW_size, cellsW_size, words_len, words_len]) (cellsW_one _) ?_)
      exact bodyPost_ret (v := .agg (cellsW (words 33 V))) (results_cell_row (by rfl) _ _ (w.heap.size + 1) 77 _ (0, 0) _ rfl (g2.setW _) Tryd.underlying77 rfl (size104 _)) rfl ⟨rfl, below_setRow gB (by omega) _⟩

theorem shr_word (S P s : Nat) (hs : s < 32) : ((S / (P * 4294967296) % 4294967296) * 4294967296 + S / P % 4294967296) / 2 ^ s % 4294967296 = S / 2 ^ s / P % 4294967296 := by
  have e1 : S / (P * 4294967296) = S / P / 4294967296 := by rw [Nat.div_div_eq_div_mul]
  have e2 : S / 2 ^ s / P = S / P / 2 ^ s := by rw [Nat.div_div_eq_div_mul, Nat.div_div_eq_div_mul, Nat.mul_comm]
  rw [e1, e2]
  generalize S / P = Z
  have e3 : Z / 4294967296 % 4294967296 * 4294967296 + Z % 4294967296 = Z % (4294967296 * 4294967296) := by rw [Nat.mod_mul]; omega
  obtain ⟨m, hm⟩ : ∃ m, 32 = s + m := ⟨32 - s, by omega⟩
  have e4 : 4294967296 * 4294967296 = 2 ^ s * (4294967296 * 2 ^ m) := by
    have : (4294967296 : Nat) = 2 ^ s * 2 ^ m := by rw [← Nat.pow_add, ← hm]
    conv => lhs; rw [this]
    conv => rhs; rw [this]
    simp only [Nat.mul_comm, Nat.mul_left_comm]
  rw [e3, e4, Nat.mod_mul_right_div_self, Nat.mod_mul_right_mod]
theorem shr_or (a c : Nat) (ha : a < 4294967296) (hc : c < 4294967296) : bits .or .u64 ((a : Int) * 4294967296) (c : Int) = ((a * 4294967296 + c : Nat) : Int) := or32 a c ha hc
set_option maxRecDepth 100000 in
set_option maxHeartbeats 4000000 in
theorem shr_any (S s : Nat) (w : World) (hs : s < 32) :
    Calls Tryd.prog 50 #[W 33 S, .int .i64 (s : Int)] w fun e w' => e = .returned (W 32 (S / 2 ^ s)) ∧ Below w.heap.size w w' := by
  obtain ⟨V, HV⟩ : ∃ V, Hid (S / 2 ^ s = V) := ⟨_, rfl⟩
  rw [HV.out]
  have hs64 : (s : Int) < 64 := by omega
  unfold W
  go_enter Tryd.func50, Tryd.ntmps50
  go_wp2
  rw [zero32]
  have a0 : Arr (((w.alloc (.cells (cellsW (words 33 S)) 77)).alloc (.cells (cellsW (words 32 0)) 56)).alloc (.cells (cellsW (words 32 0)) 56)) w.heap.size 77 (words 33 S) := Arr.alloc (heap_alloc2_old w _ _) _
  have a1 : Arr (((w.alloc (.cells (cellsW (words 33 S)) 77)).alloc (.cells (cellsW (words 32 0)) 56)).alloc (.cells (cellsW (words 32 0)) 56)) (w.heap.size + 1) 56 (words 32 0) := Arr.alloc (heap_alloc2_new w _ _) _
  have a2 : Arr (((w.alloc (.cells (cellsW (words 33 S)) 77)).alloc (.cells (cellsW (words 32 0)) 56)).alloc (.cells (cellsW (words 32 0)) 56)) (w.heap.size + 2) 56 (mix 32 V 0 0) := by
    rw [mix_zero]
    have := heap_alloc_new ((w.alloc (.cells (cellsW (words 33 S)) 77)).alloc (.cells (cellsW (words 32 0)) 56)) (.cells (cellsW (words 32 0)) 56)
    rwa [show ((w.alloc (.cells (cellsW (words 33 S)) 77)).alloc (.cells (cellsW (words 32 0)) 56)).heap.size = w.heap.size + 2 by simp] at this
  have hb : Below w.heap.size w (((w.alloc (.cells (cellsW (words 33 S)) 77)).alloc (.cells (cellsW (words 32 0)) 56)).alloc (.cells (cellsW (words 32 0)) 56)) := (box2 w _ _).alloc (by simp; omega) _
  generalize (((w.alloc (.cells (cellsW (words 33 S)) 77)).alloc (.cells (cellsW (words 32 0)) 56)).alloc (.cells (cellsW (words 32 0)) 56)) = w1 at *
  go_loopw [8] (fun i wr => ∃ k : Nat, k ≤ 32 ∧ i = .int .i64 k ∧ Arr wr w.heap.size 77 (words 33 S) ∧ Arr wr (w.heap.size + 1) 56 (words 32 0) ∧ Arr wr (w.heap.size + 2) 56 (mix 32 V 0 k) ∧ Below w.heap.size w wr) (fun i _ => 32 - (intOf i).toNat)
  case atStart => exact ⟨0, by decide, rfl, a0, a1, a2, hb⟩
  case round =>
    obtain ⟨k, hk, rfl, b0, b1, b2, hB⟩ := hrel
    clear a0 a1 a2 hb
    by_cases hlt : k < 32
    · have c0 := fun j => Arr.cell (w := wr.drewN j) b0 k (by rw [words_len]; omega)
      have c1 := fun j => Arr.cell (w := wr.drewN j) b0 (k + 1) (by rw [words_len]; omega)
      have c2 := fun j => Arr.cell (w := wr.drewN j) b2 k (by rw [mix_len]; omega)
      have f2 := fun j => Arr.frozen (w := wr.drewN j) b2 k
      rw [words_getD' _ _ _ (by omega)] at c0 c1
      have ew := shr_word S (4294967296 ^ k) s hs
      rw [← Nat.pow_succ] at ew
      obtain ⟨x, hx⟩ : ∃ x, S / 4294967296 ^ k % 4294967296 = x := ⟨_, rfl⟩
      obtain ⟨y, hy⟩ : ∃ x, S / 4294967296 ^ (k + 1) % 4294967296 = x := ⟨_, rfl⟩
      have hx32 : x < 4294967296 := by rw [← hx]; exact Nat.mod_lt _ (by decide)
      have hy32 : y < 4294967296 := by rw [← hy]; exact Nat.mod_lt _ (by decide)
      rw [hx] at c0 ew
      rw [hy] at c1 ew
      rw [HV.out] at ew
      have hor := or32 y x hy32 hx32
      obtain ⟨E, hE⟩ : ∃ E, y * 4294967296 + x = E := ⟨_, rfl⟩
      rw [hE] at hor ew
      have hE64 : E < 18446744073709551616 := by omega
      have H2 : Hid (E / 2 ^ s % 4294967296 = V / 4294967296 ^ k % 4294967296) := ew
      clear ew hx hy hE
      go_wp2
      go_quiet (fail)
      go_wp2
      go_roundw
      case rel =>
        have g0 : Arr (wr.drewN nq) w.heap.size 77 (words 33 S) := b0
        have g1 : Arr (wr.drewN nq) (w.heap.size + 1) 56 (words 32 0) := b1
        have g2 : Arr (wr.drewN nq) (w.heap.size + 2) 56 (mix 32 V 0 k) := b2
        have e4 : (E : Int) / 2 ^ s % 4294967296 = ((V / 4294967296 ^ k % 4294967296 : Nat) : Int) := by rw [← H2.out]; simp
        refine ⟨k + 1, by omega, by go_num, g0.other (by omega), g1.other (by omega), ?_, (below_drewN hB nq).setCell (by simp; omega) _⟩
        rw [e4, ← mix_up 32 V 0 k hlt]
        exact g2.set k _
      case measure => simp [intOf]; omega
    · obtain rfl : k = 32 := by omega
      rw [mix_full] at b2
      go_wp2_with (first | refine wpList_load_row rfl 56 _ rfl (w.heap.size + 2) rfl 56 _ _ _ b2 Tryd.underlying56 rfl (size67 _) ?_ | refine wpList_store_row rfl 56 _ _ rfl (w.heap.size + 1) _ rfl rfl 56 _ b1 (size67 _) (by rw [cellsW_size, cellsW_size, words_len, words_len]) (cellsW_one _) ?_)
      exact bodyPost_ret (v := .agg (cellsW (words 32 V))) (results_cell_row (by rfl) _ _ (w.heap.size + 1) 56 _ (0, 0) _ rfl (b1.setW _) Tryd.underlying56 rfl (size67 _)) rfl ⟨rfl, below_setRow hB (by omega) _⟩

theorem lz_any (x : Nat) (w : World) (hx : x < 4294967296) (h0 : x ≠ 0) :
    Calls Tryd.prog 47 #[.int .u32 (x : Int)] w fun e w' => e = .returned (.int .i64 ((32 - Lib.bitLen x : Nat) : Int)) ∧ w = w' := by
  obtain ⟨_, _, b1, b2⟩ := bitLen_bd x hx h0
  have c := len32_any (x : Int) w (by omega) (by omega)
  rw [Int.toNat_natCast] at c
  obtain ⟨l, hl⟩ : ∃ l, Lib.bitLen x = l := ⟨_, rfl⟩
  rw [hl] at c b1 b2 ⊢
  go_enter Tryd.func47, Tryd.ntmps47
  go_wp2_with fail
  refine c.mono ?_
  rintro e w1 ⟨rfl, rfl⟩
  have e1 : (32 : Int) - (l : Int) = ((32 - l : Nat) : Int) := by omega
  go_wp2
  go_ret
  exact ⟨by first | rfl | (rw [← e1]; rfl), rfl⟩
end Go.Proofs.YtgammgdckneoiacDoor
