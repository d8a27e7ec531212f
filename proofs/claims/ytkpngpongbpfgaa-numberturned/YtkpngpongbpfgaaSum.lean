/- sum: two numbers together, with one word more. -/
import Derived.Test.YtkpngpongbpfgaaDiff
namespace Go.Proofs.Ytkpngpongbpfgaa
open Go.RowKit

theorem zero33 : (#[Value.int IntKind.u32 0, Value.int IntKind.u32 0, Value.int IntKind.u32 0, Value.int IntKind.u32 0, Value.int IntKind.u32 0, Value.int IntKind.u32 0, Value.int IntKind.u32 0, Value.int IntKind.u32 0, Value.int IntKind.u32 0, Value.int IntKind.u32 0, Value.int IntKind.u32 0, Value.int IntKind.u32 0, Value.int IntKind.u32 0, Value.int IntKind.u32 0, Value.int IntKind.u32 0, Value.int IntKind.u32 0, Value.int IntKind.u32 0, Value.int IntKind.u32 0, Value.int IntKind.u32 0, Value.int IntKind.u32 0, Value.int IntKind.u32 0, Value.int IntKind.u32 0, Value.int IntKind.u32 0, Value.int IntKind.u32 0, Value.int IntKind.u32 0, Value.int IntKind.u32 0, Value.int IntKind.u32 0, Value.int IntKind.u32 0, Value.int IntKind.u32 0, Value.int IntKind.u32 0, Value.int IntKind.u32 0, Value.int IntKind.u32 0, Value.int IntKind.u32 0] : Array Value) = cellsW (words 33 0) := by
  rw [words_zero]; rfl
theorem size85 (V : Nat) : (Try.prog.info? 113).map (·.size) = some (cellsW (words 33 V)).size := by
  rw [cellsW_size, words_len]; kernel_rfl

set_option maxRecDepth 100000 in
set_option maxHeartbeats 2000000 in
theorem sum_any (x y : Nat) (w : World) (hx : x < 4294967296 ^ 32) (hy : y < 4294967296 ^ 32) :
    Calls Try.prog 82 #[W 32 x, W 32 y] w fun e w' => e = .returned (W 33 (x + y)) ∧ Below w.heap.size w w' := by
  unfold W
  go_enter Try.func82, Try.ntmps82
  go_wp2
  rw [zero33]
  have a0 : Arr ((((w.alloc (.cells (cellsW (words 32 x)) 103)).alloc (.cells (cellsW (words 32 y)) 103)).alloc (.cells (cellsW (words 33 0)) 113)).alloc (.cells (cellsW (words 33 0)) 113)) w.heap.size 103 (words 32 x) := Arr.alloc (Arr.alloc (heap_alloc2_old w _ _) _) _
  have a1 : Arr ((((w.alloc (.cells (cellsW (words 32 x)) 103)).alloc (.cells (cellsW (words 32 y)) 103)).alloc (.cells (cellsW (words 33 0)) 113)).alloc (.cells (cellsW (words 33 0)) 113)) (w.heap.size + 1) 103 (words 32 y) := Arr.alloc (Arr.alloc (heap_alloc2_new w _ _) _) _
  have a2 : Arr ((((w.alloc (.cells (cellsW (words 32 x)) 103)).alloc (.cells (cellsW (words 32 y)) 103)).alloc (.cells (cellsW (words 33 0)) 113)).alloc (.cells (cellsW (words 33 0)) 113)) (w.heap.size + 2) 113 (words 33 0) := by
    have := heap_alloc2_old ((w.alloc (.cells (cellsW (words 32 x)) 103)).alloc (.cells (cellsW (words 32 y)) 103)) (.cells (cellsW (words 33 0)) 113) (.cells (cellsW (words 33 0)) 113)
    rwa [show ((w.alloc (.cells (cellsW (words 32 x)) 103)).alloc (.cells (cellsW (words 32 y)) 103)).heap.size = w.heap.size + 2 by simp] at this
  have a3 : Arr ((((w.alloc (.cells (cellsW (words 32 x)) 103)).alloc (.cells (cellsW (words 32 y)) 103)).alloc (.cells (cellsW (words 33 0)) 113)).alloc (.cells (cellsW (words 33 0)) 113)) (w.heap.size + 3) 113 (mix 33 (x + y) 0 0) := by
    rw [mix_zero]
    have := heap_alloc2_new ((w.alloc (.cells (cellsW (words 32 x)) 103)).alloc (.cells (cellsW (words 32 y)) 103)) (.cells (cellsW (words 33 0)) 113) (.cells (cellsW (words 33 0)) 113)
    rwa [show ((w.alloc (.cells (cellsW (words 32 x)) 103)).alloc (.cells (cellsW (words 32 y)) 103)).heap.size = w.heap.size + 2 by simp] at this
  have hb : Below w.heap.size w ((((w.alloc (.cells (cellsW (words 32 x)) 103)).alloc (.cells (cellsW (words 32 y)) 103)).alloc (.cells (cellsW (words 33 0)) 113)).alloc (.cells (cellsW (words 33 0)) 113)) := ((box2 w _ _).alloc (by simp; omega) _).alloc (by simp; omega) _
  generalize ((((w.alloc (.cells (cellsW (words 32 x)) 103)).alloc (.cells (cellsW (words 32 y)) 103)).alloc (.cells (cellsW (words 33 0)) 113)).alloc (.cells (cellsW (words 33 0)) 113)) = w1 at *
  go_loopw [8, 6] (fun i c wr => ∃ k : Nat, k ≤ 32 ∧ i = .int .i64 k ∧ c = .int .u64 (((x % 4294967296 ^ k + y % 4294967296 ^ k) / 4294967296 ^ k : Nat) : Int) ∧ Arr wr w.heap.size 103 (words 32 x) ∧ Arr wr (w.heap.size + 1) 103 (words 32 y) ∧ Arr wr (w.heap.size + 2) 113 (words 33 0) ∧ Arr wr (w.heap.size + 3) 113 (mix 33 (x + y) 0 k) ∧ Below w.heap.size w wr) (fun i _ _ => 32 - (intOf i).toNat)
  case atStart => exact ⟨0, by decide, rfl, by simp [Nat.mod_one], a0, a1, a2, a3, hb⟩
  case round =>
    obtain ⟨k, hk, rfl, rfl, b0, b1, b2, b3, hB⟩ := hrel
    clear a0 a1 a2 a3 hb
    by_cases hlt : k < 32
    · have hP : 0 < 4294967296 ^ k := Nat.pow_pos (by decide)
      have c0 := fun j => Arr.cell (w := wr.drewN j) b0 k (by rw [words_len]; exact hlt)
      have c1 := fun j => Arr.cell (w := wr.drewN j) b1 k (by rw [words_len]; exact hlt)
      have c3 := fun j => Arr.cell (w := wr.drewN j) b3 k (by rw [mix_len]; omega)
      have f3 := fun j => Arr.frozen (w := wr.drewN j) b3 k
      simp only [List.getD_eq_getElem?_getD, words_get _ _ _ hlt, Option.getD_some] at c0 c1
      have e1 := add_word (4294967296 ^ k) x y hP
      have e2 := add_carry (4294967296 ^ k) x y hP
      have hL := carry_le (4294967296 ^ k) x y hP
      rw [← Nat.pow_succ] at e2
      obtain ⟨X, hX⟩ : ∃ X, x / 4294967296 ^ k % 4294967296 = X := ⟨_, rfl⟩
      obtain ⟨Y, hY⟩ : ∃ Y, y / 4294967296 ^ k % 4294967296 = Y := ⟨_, rfl⟩
      obtain ⟨L, hLe⟩ : ∃ L, (x % 4294967296 ^ k + y % 4294967296 ^ k) / 4294967296 ^ k = L := ⟨_, rfl⟩
      have hX32 : X < 4294967296 := by rw [← hX]; exact Nat.mod_lt _ (by decide)
      have hY32 : Y < 4294967296 := by rw [← hY]; exact Nat.mod_lt _ (by decide)
      rw [hX] at e1 e2 c0
      rw [hY] at e1 e2 c1
      rw [hLe] at e1 e2 hL ⊢
      have H1 : Hid ((x + y) / 4294967296 ^ k % 4294967296 = (L + (X + Y)) % 4294967296) := e1
      have H2 : Hid ((x % 4294967296 ^ (k + 1) + y % 4294967296 ^ (k + 1)) / 4294967296 ^ (k + 1) = (L + (X + Y)) / 4294967296) := e2
      clear e1 e2 hX hY hLe
      go_wp2
      go_quiet (fail)
      go_wp2
      go_roundw
      case rel =>
        have d0 : Arr (wr.drewN nq) w.heap.size 103 (words 32 x) := b0
        have d1 : Arr (wr.drewN nq) (w.heap.size + 1) 103 (words 32 y) := b1
        have d2 : Arr (wr.drewN nq) (w.heap.size + 2) 113 (words 33 0) := b2
        have d3 : Arr (wr.drewN nq) (w.heap.size + 3) 113 (mix 33 (x + y) 0 k) := b3
        have e4 : ((L : Int) + ((X : Int) + (Y : Int))) % 4294967296 = (((x + y) / 4294967296 ^ k % 4294967296 : Nat) : Int) := by rw [H1.out]; omega
        refine ⟨k + 1, by omega, by go_num, ?_, d0.other (by omega), d1.other (by omega), d2.other (by omega), ?_, (below_drewN hB nq).setCell (by simp; omega) _⟩
        · rw [H2.out]; simp
        · rw [e4, ← mix_up 33 (x + y) 0 k (by omega)]
          exact d3.set k _
      case measure => simp [intOf]; omega
    · obtain rfl : k = 32 := by omega
      have hc32 := b3.cell 32 (by rw [mix_len]; decide)
      have hf32 := b3.frozen 32
      have hL := carry_le (4294967296 ^ 32) x y (Nat.pow_pos (by decide))
      have e1 := add_word (4294967296 ^ 32) x y (Nat.pow_pos (by decide))
      rw [Nat.div_eq_of_lt hx, Nat.div_eq_of_lt hy] at e1
      obtain ⟨L, hLe⟩ : ∃ L, (x % 4294967296 ^ 32 + y % 4294967296 ^ 32) / 4294967296 ^ 32 = L := ⟨_, rfl⟩
      rw [hLe] at hL e1 ⊢
      have e4 : (((x + y) / 4294967296 ^ 32 % 4294967296 : Nat) : Int) = (L : Int) := by rw [e1]; omega
      have g3 := b3.set 32 (L : Int)
      rw [← e4, mix_up 33 (x + y) 0 32 (by decide), mix_full, e4] at g3
      have g2 := b2.other (b' := w.heap.size + 3) (i := 32) (v := .int .u32 (L : Int)) (by omega)
      have gB : Below w.heap.size w (wr.setCell ⟨w.heap.size + 3, 32, none⟩ (.int .u32 (L : Int))) := hB.setCell (by simp) _
      clear e1 e4 hLe
      go_wp2_with (first | refine wpList_load_row rfl 113 _ rfl (w.heap.size + 3) rfl 113 _ _ _ g3 Try.underlying113 rfl (size85 _) ?_ | refine wpList_store_row rfl 113 _ _ rfl (w.heap.size + 2) _ rfl rfl 113 _ g2 (size85 _) (by rw [cellsW_size, cellsW_size, words_len, words_len]) (cellsW_one _) ?_)
      exact bodyPost_ret (v := .agg (cellsW (words 33 (x + y)))) (results_cell_row (by rfl) _ _ (w.heap.size + 2) 113 _ (0, 0) _ rfl (g2.setW _) Try.underlying113 rfl (size85 _)) rfl ⟨rfl, below_setRow gB (by omega) _⟩
end Go.Proofs.Ytkpngpongbpfgaa
