/- product: two numbers' words, with as many words as both together. -/
import Derived.Test.YtkpngpongbpfgaaDec
import Derived.Test.YtkpngpongbpfgaaMulMath
namespace Go.Proofs.Ytkpngpongbpfgaa
open Go.RowKit

theorem Try.info64 : (Try.prog.info? 100).map (fun i => (i.zero, i.size)) = some (some (.agg (cellsW (words 64 0))), 64) := by kernel_rfl
theorem size64 (V : Nat) : (Try.prog.info? 100).map (·.size) = some (cellsW (words 64 V)).size := by
  rw [cellsW_size, words_len]; exact (zero_of_info Try.info64).2

theorem mix_cell (n a b k i : Nat) (h : i < n) (hk : k ≤ i) : (mix n a b k).getD i 0 = ((b / 4294967296 ^ i % 4294967296 : Nat) : Int) := by
  rw [mix_getD _ _ _ _ _ h, if_neg (by omega)]
theorem words_getD (n a i : Nat) (h : i < n) : (words n a).getD i 0 = ((a / 4294967296 ^ i % 4294967296 : Nat) : Int) := by
  rw [List.getD_eq_getElem?_getD, words_get _ _ _ h]; rfl

set_option maxRecDepth 100000 in
set_option maxHeartbeats 4000000 in
theorem prod_any (x y : Nat) (w : World) (hx : x < 4294967296 ^ 32) (hy : y < 4294967296 ^ 32) :
    Calls Try.prog 73 #[W 32 x, W 32 y] w fun e w' => e = .returned (W 64 (x * y)) ∧ Below w.heap.size w w' := by
  have hz := (zero_of_info Try.info64).1
  unfold W
  go_enter Try.func73, Try.ntmps73
  go_wp2_with fail
  have a0 : Arr ((((w.alloc (.cells (cellsW (words 32 x)) 103)).alloc (.cells (cellsW (words 32 y)) 103)).alloc (.cells (cellsW (words 64 0)) 100)).alloc (.cells (cellsW (words 64 0)) 100)) w.heap.size 103 (words 32 x) := Arr.alloc (Arr.alloc (heap_alloc2_old w _ _) _) _
  have a1 : Arr ((((w.alloc (.cells (cellsW (words 32 x)) 103)).alloc (.cells (cellsW (words 32 y)) 103)).alloc (.cells (cellsW (words 64 0)) 100)).alloc (.cells (cellsW (words 64 0)) 100)) (w.heap.size + 1) 103 (words 32 y) := Arr.alloc (Arr.alloc (heap_alloc2_new w _ _) _) _
  have a2 : Arr ((((w.alloc (.cells (cellsW (words 32 x)) 103)).alloc (.cells (cellsW (words 32 y)) 103)).alloc (.cells (cellsW (words 64 0)) 100)).alloc (.cells (cellsW (words 64 0)) 100)) (w.heap.size + 2) 100 (words 64 0) := by
    have := heap_alloc2_old ((w.alloc (.cells (cellsW (words 32 x)) 103)).alloc (.cells (cellsW (words 32 y)) 103)) (.cells (cellsW (words 64 0)) 100) (.cells (cellsW (words 64 0)) 100)
    rwa [show ((w.alloc (.cells (cellsW (words 32 x)) 103)).alloc (.cells (cellsW (words 32 y)) 103)).heap.size = w.heap.size + 2 by simp] at this
  have a3 : Arr ((((w.alloc (.cells (cellsW (words 32 x)) 103)).alloc (.cells (cellsW (words 32 y)) 103)).alloc (.cells (cellsW (words 64 0)) 100)).alloc (.cells (cellsW (words 64 0)) 100)) (w.heap.size + 3) 100 (words 64 (x % 4294967296 ^ 0 * y)) := by
    rw [Nat.pow_zero, Nat.mod_one, Nat.zero_mul]
    have := heap_alloc2_new ((w.alloc (.cells (cellsW (words 32 x)) 103)).alloc (.cells (cellsW (words 32 y)) 103)) (.cells (cellsW (words 64 0)) 100) (.cells (cellsW (words 64 0)) 100)
    rwa [show ((w.alloc (.cells (cellsW (words 32 x)) 103)).alloc (.cells (cellsW (words 32 y)) 103)).heap.size = w.heap.size + 2 by simp] at this
  have hb : Below w.heap.size w ((((w.alloc (.cells (cellsW (words 32 x)) 103)).alloc (.cells (cellsW (words 32 y)) 103)).alloc (.cells (cellsW (words 64 0)) 100)).alloc (.cells (cellsW (words 64 0)) 100)) := ((box2 w _ _).alloc (by simp; omega) _).alloc (by simp; omega) _
  generalize ((((w.alloc (.cells (cellsW (words 32 x)) 103)).alloc (.cells (cellsW (words 32 y)) 103)).alloc (.cells (cellsW (words 64 0)) 100)).alloc (.cells (cellsW (words 64 0)) 100)) = w1 at *
  have hyn := wlen_spec y
  have hxm := wlen_spec x
  have hn32 := wlen_le _ _ hy
  have hm32 := wlen_le _ _ hx
  refine (used_part (w.heap.size + 1) 103 32 y w1 a1 (by decide) hy).mono ?_
  rintro e w2 ⟨rfl, rfl⟩
  obtain ⟨n, Hn⟩ : ∃ n, Hid (wlen y = n) := ⟨_, rfl⟩
  rw [Hn.out] at hyn hn32 ⊢
  go_wp2_with fail
  refine (used_part w.heap.size 103 32 x w1 a0 (by decide) hx).mono ?_
  rintro e w2 ⟨rfl, rfl⟩
  obtain ⟨m, Hm⟩ : ∃ m, Hid (wlen x = m) := ⟨_, rfl⟩
  rw [Hm.out] at hxm hm32 ⊢
  go_wp2
  go_loopw [14] (fun i wr => ∃ k : Nat, k ≤ m ∧ i = .int .i64 k ∧ Arr wr w.heap.size 103 (words 32 x) ∧ Arr wr (w.heap.size + 1) 103 (words 32 y) ∧ Arr wr (w.heap.size + 2) 100 (words 64 0) ∧ Arr wr (w.heap.size + 3) 100 (words 64 (x % 4294967296 ^ k * y)) ∧ Below w.heap.size w wr) (fun i _ => m - (intOf i).toNat)
  case atStart => exact ⟨0, Nat.zero_le _, rfl, a0, a1, a2, a3, hb⟩
  case round =>
    obtain ⟨k, hk, rfl, b0, b1, b2, b3, hB⟩ := hrel
    clear a0 a1 a2 a3 hb hz
    by_cases hlt : k < m
    · have hP : 0 < 4294967296 ^ k := Nat.pow_pos (by decide)
      have hltI : (k : Int) < (m : Int) := by omega
      obtain ⟨X, HX⟩ : ∃ X, Hid (x / 4294967296 ^ k % 4294967296 = X) := ⟨_, rfl⟩
      have hX32 : X < 4294967296 := by rw [← HX.out]; exact Nat.mod_lt _ (by decide)
      have hxc : (words 32 x).getD k 0 = (X : Int) := by rw [words_getD _ _ _ (by omega), HX.out]
      have hTlt : x % 4294967296 ^ k * y < 4294967296 ^ k * 4294967296 ^ n := by
        have h1 := Nat.mod_lt x hP
        refine Nat.lt_of_le_of_lt (Nat.mul_le_mul_left _ (Nat.le_of_lt hyn)) ?_
        exact Nat.mul_lt_mul_of_pos_right h1 (Nat.pow_pos (by decide))
      have hT' : Hid (x % 4294967296 ^ (k + 1) * y = x % 4294967296 ^ k * y + X * y * 4294967296 ^ k) := by show _ = _; rw [mul_top, HX.out]
      obtain ⟨T, HT⟩ : ∃ T, Hid (x % 4294967296 ^ k * y = T) := ⟨_, rfl⟩
      rw [HT.out] at hTlt b3
      have HT1 : Hid (x % 4294967296 ^ (k + 1) * y = T + X * y * 4294967296 ^ k) := by show _ = _; rw [hT'.out, HT.out]
      clear hT'
      go_wp2
      go_loopw [18, 8] (fun j c wr => ∃ jj : Nat, jj ≤ n ∧ j = .int .i64 jj ∧ c = .int .u64 ((mulC T X y (4294967296 ^ k) (4294967296 ^ jj) : Nat) : Int) ∧ Arr wr w.heap.size 103 (words 32 x) ∧ Arr wr (w.heap.size + 1) 103 (words 32 y) ∧ Arr wr (w.heap.size + 2) 100 (words 64 0) ∧ Arr wr (w.heap.size + 3) 100 (mix 64 (T + X * y * 4294967296 ^ k) T (k + jj)) ∧ Below w.heap.size w wr) (fun j _ _ => n - (intOf j).toNat)
      case atStart =>
        refine ⟨0, Nat.zero_le _, rfl, by rw [Nat.pow_zero, mulC_one _ _ _ _ hP]; rfl, b0, b1, b2, ?_, hB⟩
        have e : mix 64 (T + X * y * 4294967296 ^ k) T (k + 0) = words 64 T := by
          refine list_ext (n := 64) (mix_len _ _ _ _) (words_len _ _) fun i hi => ?_
          rw [mix_get _ _ _ _ _ hi, words_get _ _ _ hi]
          congr 2
          split
          · rename_i hik
            obtain ⟨d, hd⟩ : ∃ d, k = i + 1 + d := ⟨k - (i + 1), by omega⟩
            rw [show X * y * 4294967296 ^ k = (X * y * 4294967296 ^ d * 4294967296) * 4294967296 ^ i by rw [hd, Nat.pow_add, Nat.pow_succ]; simp only [Nat.mul_comm, Nat.mul_left_comm, Nat.mul_assoc]]
            rw [Nat.add_mul_div_right _ _ (Nat.pow_pos (by decide)), Nat.add_mul_mod_self_right]
          · rfl
        rw [e]; exact b3
      case round =>
        obtain ⟨j, hj, rfl, rfl, c0, c1, c2, c3, hB'⟩ := hrel
        clear b0 b1 b2 b3 hB
        have hQ : 0 < 4294967296 ^ j := Nat.pow_pos (by decide)
        have hC := mulC_lt T X y (4294967296 ^ k) (4294967296 ^ j) hP hQ hX32
        by_cases hjn : j < n
        · have hjI : (j : Int) < (n : Int) := by omega
          have d0 := fun q => Arr.cell (w := wr.drewN q) c0 k (by rw [words_len]; omega)
          have d1 := fun q => Arr.cell (w := wr.drewN q) c1 j (by rw [words_len]; omega)
          have d3 := fun q => Arr.cell (w := wr.drewN q) c3 (k + j) (by rw [mix_len]; omega)
          have f3 := fun q => Arr.frozen (w := wr.drewN q) c3 (k + j)
          rw [hxc] at d0
          rw [words_getD _ _ _ (by omega)] at d1
          rw [mix_cell _ _ _ _ _ (by omega) (Nat.le_refl _), Nat.pow_add] at d3
          have e1 := mulC_next T X y (4294967296 ^ k) (4294967296 ^ j) hP hQ
          have e2 := mulC_word T X y (4294967296 ^ k) (4294967296 ^ j) hP hQ
          rw [← Nat.pow_succ] at e1
          rw [← Nat.pow_add] at e2
          rw [Nat.pow_add] at e2
          obtain ⟨Y, hY⟩ : ∃ Y, y / 4294967296 ^ j % 4294967296 = Y := ⟨_, rfl⟩
          obtain ⟨Z, hZ⟩ : ∃ Z, T / (4294967296 ^ k * 4294967296 ^ j) % 4294967296 = Z := ⟨_, rfl⟩
          obtain ⟨C, hCe⟩ : ∃ C, mulC T X y (4294967296 ^ k) (4294967296 ^ j) = C := ⟨_, rfl⟩
          have hY32 : Y < 4294967296 := by rw [← hY]; exact Nat.mod_lt _ (by decide)
          have hZ32 : Z < 4294967296 := by rw [← hZ]; exact Nat.mod_lt _ (by decide)
          rw [hY] at d1 e1 e2
          rw [hZ] at d3 e1 e2
          rw [hCe] at e1 e2 hC ⊢
          rw [← Nat.pow_add] at e2
          obtain ⟨m1, m2, m3⟩ := mul64 C X Y Z hC hX32 hY32 hZ32
          obtain ⟨M, hM⟩ : ∃ M, X * Y = M := ⟨_, rfl⟩
          have hMi : (X : Int) * (Y : Int) = (M : Int) := by rw [← hM]; simp
          rw [hM] at m1 m2 m3 e1 e2
          have H1 : Hid (mulC T X y (4294967296 ^ k) (4294967296 ^ (j + 1)) = (C + (M + Z)) / 4294967296) := e1
          have H2 : Hid ((T + X * y * 4294967296 ^ k) / 4294967296 ^ (k + j) % 4294967296 = (C + (M + Z)) % 4294967296) := e2
          obtain ⟨s, hs⟩ : ∃ s, k + j = s := ⟨_, rfl⟩
          rw [hs] at d3 f3 H2 c3
          have ikj : (k : Int) + (j : Int) = (s : Int) := by omega
          have hkj : (s : Int) < 64 := by omega
          have hk32 : (k : Int) < 32 := by omega
          have hj32 : (j : Int) < 32 := by omega
          have Hs : Hid (k + j = s) := hs
          clear e1 e2 hY hZ hCe hM hxc hs
          go_wp2
          go_quiet (fail)
          go_wp2
          go_roundw
          case rel =>
            have g0 : Arr (wr.drewN nq) w.heap.size 103 (words 32 x) := c0
            have g1 : Arr (wr.drewN nq) (w.heap.size + 1) 103 (words 32 y) := c1
            have g2 : Arr (wr.drewN nq) (w.heap.size + 2) 100 (words 64 0) := c2
            have g3 : Arr (wr.drewN nq) (w.heap.size + 3) 100 (mix 64 (T + X * y * 4294967296 ^ k) T s) := c3
            have hs64 : s < 64 := by omega
            have e4 : ((C : Int) + ((M : Int) + (Z : Int))) % 4294967296 = (((T + X * y * 4294967296 ^ k) / 4294967296 ^ s % 4294967296 : Nat) : Int) := by rw [H2.out]; omega
            refine ⟨j + 1, by omega, by go_num, ?_, g0.other (by omega), g1.other (by omega), g2.other (by omega), ?_, (below_drewN hB' nq).setCell (by simp; omega) _⟩
            · rw [H1.out]; simp
            · rw [e4, ← Nat.add_assoc, Hs.out, ← mix_up 64 (T + X * y * 4294967296 ^ k) T s hs64]
              exact g3.set s _
          case measure => simp [intOf]; omega
        · obtain rfl : j = n := by omega
          have hc := c3.cell (k + j) (by rw [mix_len]; omega)
          have hf := c3.frozen (k + j)
          have e0 := mulC_all T X y (4294967296 ^ k) (4294967296 ^ j) hTlt hyn
          have hCC := hC
          rw [e0] at hCC
          obtain ⟨C, HC⟩ : ∃ C, Hid (mulC T X y (4294967296 ^ k) (4294967296 ^ j) = C) := ⟨_, rfl⟩
          rw [HC.out] at hC e0 ⊢
          have hword : (T + X * y * 4294967296 ^ k) / 4294967296 ^ (k + j) % 4294967296 = C := by
            rw [Nat.pow_add, Nat.mod_eq_of_lt hCC, e0]
          have ht1 : T + X * y * 4294967296 ^ k < 4294967296 ^ (k + j + 1) := by
            rw [Nat.pow_succ, Nat.pow_add]
            have h := (Nat.div_lt_iff_lt_mul (Nat.mul_pos hP hQ)).1 hCC
            rw [Nat.mul_comm (4294967296 ^ k * 4294967296 ^ j)]; exact h
          have ht0 : T < 4294967296 ^ (k + j + 1) := Nat.lt_of_le_of_lt (Nat.le_add_right _ _) ht1
          have g3 := c3.set (k + j) (C : Int)
          rw [← hword, mix_up 64 (T + X * y * 4294967296 ^ k) T (k + j) (by omega), mix_end 64 _ _ _ ht1 ht0, hword, ← HT1.out] at g3
          obtain ⟨s, hs⟩ : ∃ s, k + j = s := ⟨_, rfl⟩
          rw [hs] at hc hf g3
          have ikj : (k : Int) + (j : Int) = (s : Int) := by omega
          have hkj : (s : Int) < 64 := by omega
          clear hCC e0 hword ht1 ht0 hxc hs c3
          go_wp2
          go_roundw
          case rel => exact ⟨k + 1, by omega, by go_num, c0.other (by omega), c1.other (by omega), c2.other (by omega), g3, hB'.setCell (by simp; omega) _⟩
          case measure => simp [intOf]; omega
    · obtain rfl : k = m := by omega
      rw [Nat.mod_eq_of_lt hxm] at b3
      go_wp2_with (first | refine wpList_load_row rfl 100 _ rfl (w.heap.size + 3) rfl 100 _ _ _ b3 Try.underlying100 rfl (size64 _) ?_ | refine wpList_store_row rfl 100 _ _ rfl (w.heap.size + 2) _ rfl rfl 100 _ b2 (size64 _) (by rw [cellsW_size, cellsW_size, words_len, words_len]) (cellsW_one _) ?_)
      exact bodyPost_ret (v := .agg (cellsW (words 64 (x * y)))) (results_cell_row (by rfl) _ _ (w.heap.size + 2) 100 _ (0, 0) _ rfl (b2.setW _) Try.underlying100 rfl (size64 _)) rfl ⟨rfl, below_setRow hB (by omega) _⟩
end Go.Proofs.Ytkpngpongbpfgaa
