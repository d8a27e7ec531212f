/- next and difference: one more; a number less another one. -/
import Derived.Test.YtkpngpongbpfgaaNext
import Derived.Deep.QuietTactic
import Derived.Test.YtkpngpongbpfgaaCmp
namespace Go.Proofs.Ytkpngpongbpfgaa
open Go.RowKit

theorem zero32 : (#[Value.int IntKind.u32 0, Value.int IntKind.u32 0, Value.int IntKind.u32 0, Value.int IntKind.u32 0,
          Value.int IntKind.u32 0, Value.int IntKind.u32 0, Value.int IntKind.u32 0, Value.int IntKind.u32 0,
          Value.int IntKind.u32 0, Value.int IntKind.u32 0, Value.int IntKind.u32 0, Value.int IntKind.u32 0,
          Value.int IntKind.u32 0, Value.int IntKind.u32 0, Value.int IntKind.u32 0, Value.int IntKind.u32 0,
          Value.int IntKind.u32 0, Value.int IntKind.u32 0, Value.int IntKind.u32 0, Value.int IntKind.u32 0,
          Value.int IntKind.u32 0, Value.int IntKind.u32 0, Value.int IntKind.u32 0, Value.int IntKind.u32 0,
          Value.int IntKind.u32 0, Value.int IntKind.u32 0, Value.int IntKind.u32 0, Value.int IntKind.u32 0,
          Value.int IntKind.u32 0, Value.int IntKind.u32 0, Value.int IntKind.u32 0, Value.int IntKind.u32 0] : Array Value) = cellsW (words 32 0) := by
  rw [words_zero]; rfl
theorem size67 (V : Nat) : (Try.prog.info? 103).map (·.size) = some (cellsW (words 32 V)).size := by
  rw [cellsW_size, words_len]; kernel_rfl

set_option maxHeartbeats 1000000 in
theorem next_any (V : Nat) (w : World) :
    Calls Try.prog 86 #[W 32 V] w fun e w' => e = .returned (W 32 (V + 1)) ∧ Below w.heap.size w w' := by
  unfold W
  go_enter Try.func86, Try.ntmps86
  go_wp2_with fail
  rw [zero32]
  have h0 : Arr ((w.alloc (.cells (cellsW (words 32 V)) 103)).alloc (.cells (cellsW (words 32 0)) 103)) w.heap.size 103 (words 32 V ++ []) := by
    rw [List.append_nil]; exact heap_alloc2_old w _ _
  have h1 : Arr ((w.alloc (.cells (cellsW (words 32 V)) 103)).alloc (.cells (cellsW (words 32 0)) 103)) (w.heap.size + 1) 103 (words 32 0) := heap_alloc2_new w _ _
  have hb : Below w.heap.size w ((w.alloc (.cells (cellsW (words 32 V)) 103)).alloc (.cells (cellsW (words 32 0)) 103)) := ((Below.refl _ _).alloc (Nat.le_refl _) _).alloc (by simp) _
  refine (addOnto_any w.heap.size 103 32 32 V 1 1 [] _ h0 (by decide) (by decide) (by decide) (by decide)).mono ?_
  rintro e w1 ⟨rfl, rfl⟩
  have k0 := h0.setW (words 32 (V * 1 + 1) ++ [])
  have k1 := h1.otherW (cellsW (words 32 (V * 1 + 1) ++ [])) (show w.heap.size + 1 ≠ w.heap.size by omega)
  have kb := below_setRow hb (Nat.le_refl _) (cellsW (words 32 (V * 1 + 1) ++ []))
  generalize ((w.alloc (.cells (cellsW (words 32 V)) 103)).alloc (.cells (cellsW (words 32 0)) 103)).setRow w.heap.size (cellsW (words 32 (V * 1 + 1) ++ [])) = w2 at *
  rw [Nat.mul_one, List.append_nil] at k0
  go_wp2_with (first | refine wpList_load_row rfl 103 _ rfl w.heap.size rfl 103 _ _ _ k0 Try.underlying103 rfl (size67 _) ?_ | refine wpList_store_row rfl 103 _ _ rfl (w.heap.size + 1) _ rfl rfl 103 _ k1 (size67 _) (by rw [cellsW_size, cellsW_size, words_len, words_len]) (cellsW_one _) ?_)
  exact bodyPost_ret (v := .agg (cellsW (words 32 (V + 1)))) (results_cell_row (by rfl) _ _ (w.heap.size + 1) 103 _ (0, 0) _ rfl (k1.setW _) Try.underlying103 rfl (size67 _)) rfl ⟨rfl, below_setRow kb (by omega) _⟩

set_option maxRecDepth 100000 in
set_option maxHeartbeats 2000000 in
theorem diff_any (x y : Nat) (w : World) (h : y ≤ x) :
    Calls Try.prog 83 #[W 32 x, W 32 y] w fun e w' => e = .returned (W 32 (x - y)) ∧ Below w.heap.size w w' := by
  unfold W
  go_enter Try.func83, Try.ntmps83
  go_wp2
  rw [zero32]
  have a0 : Arr ((((w.alloc (.cells (cellsW (words 32 x)) 103)).alloc (.cells (cellsW (words 32 y)) 103)).alloc (.cells (cellsW (words 32 0)) 103)).alloc (.cells (cellsW (words 32 0)) 103)) w.heap.size 103 (words 32 x) := Arr.alloc (Arr.alloc (heap_alloc2_old w _ _) _) _
  have a1 : Arr ((((w.alloc (.cells (cellsW (words 32 x)) 103)).alloc (.cells (cellsW (words 32 y)) 103)).alloc (.cells (cellsW (words 32 0)) 103)).alloc (.cells (cellsW (words 32 0)) 103)) (w.heap.size + 1) 103 (words 32 y) := Arr.alloc (Arr.alloc (heap_alloc2_new w _ _) _) _
  have a2 : Arr ((((w.alloc (.cells (cellsW (words 32 x)) 103)).alloc (.cells (cellsW (words 32 y)) 103)).alloc (.cells (cellsW (words 32 0)) 103)).alloc (.cells (cellsW (words 32 0)) 103)) (w.heap.size + 2) 103 (words 32 0) := by
    have := heap_alloc2_old ((w.alloc (.cells (cellsW (words 32 x)) 103)).alloc (.cells (cellsW (words 32 y)) 103)) (.cells (cellsW (words 32 0)) 103) (.cells (cellsW (words 32 0)) 103)
    rwa [show ((w.alloc (.cells (cellsW (words 32 x)) 103)).alloc (.cells (cellsW (words 32 y)) 103)).heap.size = w.heap.size + 2 by simp] at this
  have a3 : Arr ((((w.alloc (.cells (cellsW (words 32 x)) 103)).alloc (.cells (cellsW (words 32 y)) 103)).alloc (.cells (cellsW (words 32 0)) 103)).alloc (.cells (cellsW (words 32 0)) 103)) (w.heap.size + 3) 103 (mix 32 (x - y) 0 0) := by
    rw [mix_zero]
    have := heap_alloc2_new ((w.alloc (.cells (cellsW (words 32 x)) 103)).alloc (.cells (cellsW (words 32 y)) 103)) (.cells (cellsW (words 32 0)) 103) (.cells (cellsW (words 32 0)) 103)
    rwa [show ((w.alloc (.cells (cellsW (words 32 x)) 103)).alloc (.cells (cellsW (words 32 y)) 103)).heap.size = w.heap.size + 2 by simp] at this
  have hb : Below w.heap.size w ((((w.alloc (.cells (cellsW (words 32 x)) 103)).alloc (.cells (cellsW (words 32 y)) 103)).alloc (.cells (cellsW (words 32 0)) 103)).alloc (.cells (cellsW (words 32 0)) 103)) := ((box2 w _ _).alloc (by simp; omega) _).alloc (by simp; omega) _
  generalize ((((w.alloc (.cells (cellsW (words 32 x)) 103)).alloc (.cells (cellsW (words 32 y)) 103)).alloc (.cells (cellsW (words 32 0)) 103)).alloc (.cells (cellsW (words 32 0)) 103)) = w1 at *
  go_loopw [9, 6] (fun i c wr => ∃ k : Nat, k ≤ 32 ∧ i = .int .i64 k ∧ c = .int .u64 ((lend (4294967296 ^ k) x y : Nat) : Int) ∧ Arr wr w.heap.size 103 (words 32 x) ∧ Arr wr (w.heap.size + 1) 103 (words 32 y) ∧ Arr wr (w.heap.size + 2) 103 (words 32 0) ∧ Arr wr (w.heap.size + 3) 103 (mix 32 (x - y) 0 k) ∧ Below w.heap.size w wr) (fun i _ _ => 32 - (intOf i).toNat)
  case atStart => exact ⟨0, by decide, rfl, by simp [lend, Nat.mod_one], a0, a1, a2, a3, hb⟩
  case round =>
    obtain ⟨k, hk, rfl, rfl, b0, b1, b2, b3, hB⟩ := hrel
    clear a0 a1 a2 a3 hb
    by_cases hlt : k < 32
    · have hP : 0 < 4294967296 ^ k := Nat.pow_pos (by decide)
      have c0 := fun j => Arr.cell (w := wr.drewN j) b0 k (by rw [words_len]; exact hlt)
      have c1 := fun j => Arr.cell (w := wr.drewN j) b1 k (by rw [words_len]; exact hlt)
      have c3 := fun j => Arr.cell (w := wr.drewN j) b3 k (by rw [mix_len]; exact hlt)
      have f3 := fun j => Arr.frozen (w := wr.drewN j) b3 k
      simp only [List.getD_eq_getElem?_getD, words_get _ _ _ hlt, Option.getD_some] at c0 c1
      rw [mix_getD _ _ _ _ _ hlt] at c3
      have e1 := sub_word (4294967296 ^ k) x y hP h
      have e2 := lend_step (4294967296 ^ k) x y hP
      have hL := lend_le (4294967296 ^ k) x y
      rw [← Nat.pow_succ] at e2
      obtain ⟨X, hX⟩ : ∃ X, x / 4294967296 ^ k % 4294967296 = X := ⟨_, rfl⟩
      obtain ⟨Y, hY⟩ : ∃ Y, y / 4294967296 ^ k % 4294967296 = Y := ⟨_, rfl⟩
      obtain ⟨L, hLe⟩ : ∃ L, lend (4294967296 ^ k) x y = L := ⟨_, rfl⟩
      have hX32 : X < 4294967296 := by rw [← hX]; exact Nat.mod_lt _ (by decide)
      have hY32 : Y < 4294967296 := by rw [← hY]; exact Nat.mod_lt _ (by decide)
      rw [hX] at e1 e2 c0
      rw [hY] at e1 e2 c1
      rw [hLe] at e1 e2 hL ⊢
      have H1 : Hid ((((x - y) / 4294967296 ^ k % 4294967296 : Nat) : Int) = ((X : Int) - (Y : Int) - (L : Int)) % 4294967296) := e1
      have H2 : Hid (lend (4294967296 ^ (k + 1)) x y = if X < Y + L then 1 else 0) := e2
      clear e1 e2 hX hY hLe
      go_wp2
      go_quiet (fail)
      go_wp2
      go_roundw
      case rel =>
        have d0 : Arr (wr.drewN nq) w.heap.size 103 (words 32 x) := b0
        have d1 : Arr (wr.drewN nq) (w.heap.size + 1) 103 (words 32 y) := b1
        have d2 : Arr (wr.drewN nq) (w.heap.size + 2) 103 (words 32 0) := b2
        have d3 : Arr (wr.drewN nq) (w.heap.size + 3) 103 (mix 32 (x - y) 0 k) := b3
        have e4 : IntKind.u64.wrap (IntKind.u64.wrap ((X : Int) - (Y : Int)) - (L : Int)) % 4294967296 = (((x - y) / 4294967296 ^ k % 4294967296 : Nat) : Int) := by
          rw [H1.out, wrapU, wrapU]; omega
        refine ⟨k + 1, by omega, by go_num, ?_, d0.other (by omega), d1.other (by omega), d2.other (by omega), ?_, (below_drewN hB nq).setCell (by simp; omega) _⟩
        · rw [H2.out]
          congr 1
          rw [wrapU, wrapU]
          split <;> omega
        · rw [e4, ← mix_up 32 (x - y) 0 k hlt]
          exact d3.set k _
      case measure => simp [intOf]; omega
    · obtain rfl : k = 32 := by omega
      rw [mix_full] at b3
      go_wp2_with (first | refine wpList_load_row rfl 103 _ rfl (w.heap.size + 3) rfl 103 _ _ _ b3 Try.underlying103 rfl (size67 _) ?_ | refine wpList_store_row rfl 103 _ _ rfl (w.heap.size + 2) _ rfl rfl 103 _ b2 (size67 _) (by rw [cellsW_size, cellsW_size, words_len, words_len]) (cellsW_one _) ?_)
      exact bodyPost_ret (v := .agg (cellsW (words 32 (x - y)))) (results_cell_row (by rfl) _ _ (w.heap.size + 2) 103 _ (0, 0) _ rfl (b2.setW _) Try.underlying103 rfl (size67 _)) rfl ⟨rfl, below_setRow hB (by omega) _⟩
end Go.Proofs.Ytkpngpongbpfgaa
