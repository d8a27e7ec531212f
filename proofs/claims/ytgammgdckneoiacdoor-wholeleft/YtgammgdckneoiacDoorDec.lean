/- decimalDigits: a number's decimal digits, noughts ahead. -/
import Derived.Test.YtgammgdckneoiacDoorLoad
import Derived.Deep.WholeRow
namespace Go.Proofs.YtgammgdckneoiacDoor
open Go.RowKit

/-- The last k decimal digits of a number, the highest first, as signs. -/
def decN : Nat → Nat → List Int
  | 0, _ => []
  | k + 1, n => decN k (n / 10) ++ [((48 + n % 10 : Nat) : Int)]
theorem decN_len : ∀ (k n : Nat), (decN k n).length = k
  | 0, _ => rfl
  | k + 1, n => by unfold decN; simp [decN_len k]
theorem decN_front : ∀ (k n : Nat), decN (k + 1) n = ((48 + n / 10 ^ k % 10 : Nat) : Int) :: decN k n
  | 0, n => by simp [decN]
  | k + 1, n => by
    rw [decN, decN_front k (n / 10), List.cons_append, Nat.div_div_eq_div_mul, Nat.mul_comm, ← Nat.pow_succ]
    rfl
theorem decN_byte : ∀ (k n : Nat), ∀ x ∈ decN k n, 0 ≤ x ∧ x < 256
  | 0, _, x, h => by simp [decN] at h
  | k + 1, n, x, h => by
    unfold decN at h
    rcases List.mem_append.1 h with h | h
    · exact decN_byte k _ x h
    · simp at h; omega
/-- The signs behind k rounds. -/
def decTo (V k : Nat) : List Int := List.replicate (315 - k) 0 ++ decN k V
theorem decTo_len (V k : Nat) (h : k ≤ 315) : (decTo V k).length = 315 := by simp [decTo, decN_len]; omega
theorem decTo_step (V k : Nat) (h : k < 315) : (decTo V k).set (315 - 1 - k) ((48 + V / 10 ^ k % 10 : Nat) : Int) = decTo V (k + 1) := by
  unfold decTo
  obtain ⟨m, hm⟩ : ∃ m, 315 - k = m + 1 := ⟨315 - k - 1, by omega⟩
  rw [hm, show 315 - (k + 1) = m by omega, show 315 - 1 - k = m by omega, List.replicate_succ', List.append_assoc, List.set_append_right _ _ (by simp), decN_front]
  simp
/-- A list of bytes as cells. -/
def cellsB (xs : List Int) : Array Value := (xs.map (Value.int .u8)).toArray
/-- An array of bytes that lies in a variable. -/
def ArrB (w : World) (b t : Nat) (xs : List Int) : Prop := w.heap[b]? = some (.cells (cellsB xs) t (0, 0))
theorem ArrB.lt {w : World} {b t : Nat} {xs : List Int} (h : ArrB w b t xs) : b < w.heap.size := lt_of_block h
theorem ArrB.cell {w : World} {b t : Nat} {xs : List Int} (h : ArrB w b t xs) (i : Nat) (hi : i < xs.length) : w.cell? ⟨b, i, none⟩ = some (.int .u8 (xs.getD i 0)) := by
  rw [cell_of_row w b i _ _ _ h]
  simp [cellsB, hi]
theorem ArrB.frozen {w : World} {b t : Nat} {xs : List Int} (h : ArrB w b t xs) (i : Nat) : w.frozen? ⟨b, i, none⟩ = false := frozen_of_row w b i _ _ h
theorem ArrB.set {w : World} {b t : Nat} {xs : List Int} (h : ArrB w b t xs) (i : Nat) (x : Int) : ArrB (w.setCell ⟨b, i, none⟩ (.int .u8 x)) b t (xs.set i x) := by
  unfold ArrB
  rw [heap_setCell_same w b i _ _ _ h]
  simp [cellsB, List.map_set]
theorem ArrB.other {w : World} {b t : Nat} {xs : List Int} (h : ArrB w b t xs) {b' i : Nat} {v : Value} (hn : b ≠ b') : ArrB (w.setCell ⟨b', i, none⟩ v) b t xs := by
  unfold ArrB
  rw [heap_setCell_other _ _ _ _ hn]
  exact h
theorem ArrB.otherW {w : World} {b t b' : Nat} {xs : List Int} (h : ArrB w b t xs) (C : Array Value) (hn : b ≠ b') : ArrB (w.setRow b' C) b t xs := (setRow_other w b' b C hn).trans h
theorem ArrB.setW {w : World} {b t : Nat} {xs : List Int} (h : ArrB w b t xs) (ys : List Int) : ArrB (w.setRow b (cellsB ys)) b t ys := setRow_heap w b _ _ t _ h
theorem cellsB_size (xs : List Int) : (cellsB xs).size = xs.length := by simp [cellsB]
theorem cellsB_one (xs : List Int) : (cellsB xs).all (·.oneCell') = true := by simp [cellsB, Value.oneCell']

/-- 315 noughts. -/
def noughts : List Int := List.replicate 315 0
theorem decTo_zero (V : Nat) : decTo V 0 = noughts := by
  show List.replicate 315 0 ++ [] = _
  rw [List.append_nil]; rfl
theorem decTo_full (V : Nat) : decTo V 315 = decN 315 V := by simp [decTo]
theorem decTo_byte (V k : Nat) : ∀ x ∈ decTo V k, 0 ≤ x ∧ x < 256 := by
  intro x hx
  unfold decTo at hx
  rcases List.mem_append.1 hx with hx | hx
  · have := List.eq_of_mem_replicate hx; omega
  · exact decN_byte _ _ x hx

theorem wlen_spec (V : Nat) : V < 4294967296 ^ wlen V := by
  unfold wlen
  by_cases h : V = 0
  · simp [h]
  · rw [if_neg h]
    have h1 := Nat.lt_log2_self (n := V)
    rw [show (4294967296 : Nat) = 2 ^ 32 from rfl, ← Nat.pow_mul]
    exact Nat.lt_of_lt_of_le h1 (Nat.pow_le_pow_right (by decide) (by omega))
theorem wlen_le (V n : Nat) (h : V < 4294967296 ^ n) : wlen V ≤ n := by
  unfold wlen
  by_cases h0 : V = 0
  · simp [h0]
  · rw [if_neg h0]
    rw [show (4294967296 : Nat) = 2 ^ 32 from rfl, ← Nat.pow_mul] at h
    have := (Nat.log2_lt h0).2 h
    omega
theorem words_split (n m V : Nat) (h : V < 4294967296 ^ n) : words (n + m) V = words n V ++ words m 0 := by
  rw [words_app, Nat.div_eq_of_lt h]
/-- divideShort on the words that are used. -/
theorem divShort_used (b tt n V d : Nat) (w : World) (h : Arr w b tt (words 32 V)) (hn : n ≤ 32) (hV : V < 4294967296 ^ n) (hd0 : 0 < d) (hd : d < 4294967296) :
    Calls Tryd.prog 42 #[.slice (some ⟨b, 0, none⟩) n 32, .int .u32 (d : Int)] w fun e w' => e = .returned (.int .u32 ((V % d : Nat) : Int)) ∧ w' = w.setRow b (cellsW (words 32 (V / d))) := by
  have e : words 32 V = words n V ++ words (32 - n) 0 := by rw [← words_split n (32 - n) V hV, show n + (32 - n) = 32 by omega]
  have e' : words 32 (V / d) = words n (V / d) ++ words (32 - n) 0 := by rw [← words_split n (32 - n) (V / d) (Nat.lt_of_le_of_lt (Nat.div_le_self _ _) hV), show n + (32 - n) = 32 by omega]
  rw [e] at h
  rw [e']
  exact divShort_any b tt n 32 V d (words (32 - n) 0) w h (by omega) hV hd0 hd
/-- used, on some of the words that hold all of it. -/
theorem used_part (b tt n V : Nat) (w : World) (h : Arr w b tt (words 32 V)) (hn : n ≤ 32) (hV : V < 4294967296 ^ n) :
    Calls Tryd.prog 41 #[.slice (some ⟨b, 0, none⟩) n 32] w fun e w' => e = .returned (.int .i64 (wlen V : Int)) ∧ w = w' := by
  have hI := h.isWt (words_len 32 V) hn (by decide) (words_lt 32 V)
  rw [words_take 32 V n hn] at hI
  have := used_any hI
  rwa [val32_words n V hV] at this

/-- d[:n], of an array of 32 words. -/
theorem run_upto (a : Addr) (n : Nat) (h : n ≤ 32) (w : World) :
    (Instr.sliceAt 56 (.pointer (some a)) none (some (.int .i64 (n : Int))) none).run Tryd.prog w = .ok (.slice (some a) n 32) w := by
  have hl : Tryd.prog.arrayLen 56 = 32 := by kernel_rfl
  have he : Tryd.prog.elem 56 = 48 := by kernel_rfl
  have ht : Tryd.prog.underlying 56 = some (.array (Tryd.prog.arrayLen 56) (Tryd.prog.elem 56)) := by rw [hl, he]; exact Tryd.underlying56
  have hs : (Tryd.prog.info? 48).map (·.size) = some 1 := by kernel_rfl
  have hz : (sizeOf 48).run Tryd.prog w = .ok 1 w := by
    cases hq : Tryd.prog.info? 48 with
    | none => simp [hq] at hs
    | some i => simp [hq] at hs; simp [sizeOf, typeInfo, hq, hs]
  rw [run_sliceAt_array_h w 56 a ht .i64 _ (by omega) (by rw [hl]; omega), he, hz, hl]
  simp [slicedAt, Result.andThen, Addr.add]

theorem Tryd.info75 : (Tryd.prog.info? 53).map (fun i => (i.zero, i.size)) = some (some (.agg (cellsB noughts)), 315) := by kernel_rfl
theorem size75 (xs : List Int) (h : xs.length = 315) : (Tryd.prog.info? 53).map (·.size) = some (cellsB xs).size := by
  rw [cellsB_size, h]; exact (zero_of_info Tryd.info75).2

theorem digit_at (V j i : Nat) (h : i < 9) : V / 1000000000 ^ j % 1000000000 / 10 ^ i % 10 = V / 10 ^ (9 * j + i) % 10 := by
  have e1 : (1000000000 : Nat) ^ j = 10 ^ (9 * j) := by rw [Nat.pow_mul]
  rw [e1, Nat.pow_add, ← Nat.div_div_eq_div_mul]
  generalize V / 10 ^ (9 * j) = X
  obtain ⟨m, hm⟩ : ∃ m, 9 = i + 1 + m := ⟨8 - i, by omega⟩
  have e2 : (1000000000 : Nat) = 10 ^ i * (10 * 10 ^ m) := by
    rw [← Nat.mul_assoc, ← Nat.pow_succ, ← Nat.pow_add, ← hm]
  rw [e2, Nat.mod_mul_right_div_self, Nat.mod_mul_right_mod]

set_option maxRecDepth 100000 in
set_option maxHeartbeats 2000000 in
theorem dec_any (V : Nat) (w : World) (hV : V < 256 ^ 128) :
    Calls Tryd.prog 31 #[W 32 V] w fun e w' => e = .returned (.agg (cellsB (decN 315 V))) ∧ Below w.heap.size w w' := by
  have hz := (zero_of_info Tryd.info75).1
  unfold W
  go_enter Tryd.func31, Tryd.ntmps31
  go_wp2_with fail
  have a0 : Arr (((w.alloc (.cells (cellsW (words 32 V)) 56)).alloc (.cells (cellsB noughts) 53)).alloc (.cells (cellsB noughts) 53)) w.heap.size 56 (words 32 (V / 1000000000 ^ 0)) := by
    rw [Nat.pow_zero, Nat.div_one]; exact Arr.alloc (heap_alloc2_old w _ _) _
  have a1 : ArrB (((w.alloc (.cells (cellsW (words 32 V)) 56)).alloc (.cells (cellsB noughts) 53)).alloc (.cells (cellsB noughts) 53)) (w.heap.size + 1) 53 noughts := (Below.heap_alloc _ _ _ (by simp)).trans (heap_alloc2_new w _ _)
  have a2 : ArrB (((w.alloc (.cells (cellsW (words 32 V)) 56)).alloc (.cells (cellsB noughts) 53)).alloc (.cells (cellsB noughts) 53)) (w.heap.size + 2) 53 (decTo V (9 * 0)) := by
    rw [Nat.mul_zero, decTo_zero]
    have := heap_alloc_new ((w.alloc (.cells (cellsW (words 32 V)) 56)).alloc (.cells (cellsB noughts) 53)) (.cells (cellsB noughts) 53)
    rwa [show ((w.alloc (.cells (cellsW (words 32 V)) 56)).alloc (.cells (cellsB noughts) 53)).heap.size = w.heap.size + 2 by simp] at this
  have hb : Below w.heap.size w (((w.alloc (.cells (cellsW (words 32 V)) 56)).alloc (.cells (cellsB noughts) 53)).alloc (.cells (cellsB noughts) 53)) := (box2 w _ _).alloc (by simp; omega) _
  have hVB : V < 4294967296 ^ 32 := Nat.lt_of_lt_of_le hV (by decide)
  generalize (((w.alloc (.cells (cellsW (words 32 V)) 56)).alloc (.cells (cellsB noughts) 53)).alloc (.cells (cellsB noughts) 53)) = w1 at *
  refine (used_part w.heap.size 56 32 V w1 (by simpa using a0) (by decide) hVB).mono ?_
  rintro e w2 ⟨rfl, rfl⟩
  go_wp2
  go_loopw [9, 4, 5] (fun i at_ n wr => ∃ j : Nat, j ≤ 35 ∧ i = .int .i64 j ∧ at_ = .int .i64 ((315 - 9 * j : Nat) : Int) ∧ n = .int .i64 (wlen (V / 1000000000 ^ j) : Int) ∧ Arr wr w.heap.size 56 (words 32 (V / 1000000000 ^ j)) ∧ ArrB wr (w.heap.size + 1) 53 noughts ∧ ArrB wr (w.heap.size + 2) 53 (decTo V (9 * j)) ∧ Below w.heap.size w wr) (fun i _ _ _ => 35 - (intOf i).toNat)
  case atStart => exact ⟨0, by decide, rfl, rfl, by simp, a0, a1, a2, hb⟩
  case round =>
    obtain ⟨j, hj, rfl, rfl, rfl, b0, b1, b2, hB⟩ := hrel
    clear a0 a1 a2 hb
    by_cases hlt : j < 35
    · have hU : V / 1000000000 ^ j < 4294967296 ^ wlen (V / 1000000000 ^ j) := wlen_spec _
      have hn32 : wlen (V / 1000000000 ^ j) ≤ 32 := wlen_le _ _ (Nat.lt_of_le_of_lt (Nat.div_le_self _ _) hVB)
      obtain ⟨U, HU⟩ : ∃ U, Hid (V / 1000000000 ^ j = U) := ⟨_, rfl⟩
      have HN : Hid (V / 1000000000 ^ (j + 1) = U / 1000000000) := by show _ = _; rw [← HU.out, Nat.div_div_eq_div_mul, Nat.pow_succ]
      rw [HU.out] at b0 hU hn32 ⊢
      obtain ⟨n, Hn⟩ : ∃ n, Hid (wlen U = n) := ⟨_, rfl⟩
      rw [Hn.out] at hU hn32 ⊢
      have hsl := run_upto ⟨w.heap.size, 0, none⟩ n hn32
      have hltI : (j : Int) < 35 := by omega
      go_wp2_with fail
      obtain ⟨u, Hu⟩ : ∃ u, Hid (U % 1000000000 = u) := ⟨_, rfl⟩
      have hu9 : u < 1000000000 := by rw [← Hu.out]; exact Nat.mod_lt _ (by decide)
      refine (divShort_used w.heap.size 56 n U 1000000000 wr b0 hn32 hU (by decide) (by decide)).mono ?_
      rintro e w2 ⟨rfl, rfl⟩
      rw [Hu.out]
      have c0 := b0.setW (words 32 (U / 1000000000))
      have c1 := b1.otherW (cellsW (words 32 (U / 1000000000))) (show w.heap.size + 1 ≠ w.heap.size by omega)
      have c2 := b2.otherW (cellsW (words 32 (U / 1000000000))) (show w.heap.size + 2 ≠ w.heap.size by omega)
      have cB := below_setRow hB (Nat.le_refl _) (cellsW (words 32 (U / 1000000000)))
      generalize wr.setRow w.heap.size (cellsW (words 32 (U / 1000000000))) = w3 at *
      go_wp2_with fail
      refine (used_part w.heap.size 56 n (U / 1000000000) w3 c0 hn32 (Nat.lt_of_le_of_lt (Nat.div_le_self _ _) hU)).mono ?_
      rintro e w4 ⟨rfl, rfl⟩
      clear b0 b1 b2 hB
      obtain ⟨m, Hm⟩ : ∃ m, Hid (wlen (U / 1000000000) = m) := ⟨_, rfl⟩
      rw [Hm.out]
      go_wp2
      go_loopw [17, 4, 6] (fun i at_ p wr => ∃ i' : Nat, i' ≤ 9 ∧ i = .int .i64 i' ∧ at_ = .int .i64 ((315 - (9 * j + i') : Nat) : Int) ∧ p = .int .u32 ((u / 10 ^ i' : Nat) : Int) ∧ Arr wr w.heap.size 56 (words 32 (U / 1000000000)) ∧ ArrB wr (w.heap.size + 1) 53 noughts ∧ ArrB wr (w.heap.size + 2) 53 (decTo V (9 * j + i')) ∧ Below w.heap.size w wr) (fun i _ _ _ => 9 - (intOf i).toNat)
      case atStart => exact ⟨0, by decide, rfl, rfl, by simp, c0, c1, c2, cB⟩
      case round =>
        obtain ⟨i, hi, rfl, rfl, rfl, d0, d1, d2, dB⟩ := hrel
        clear c0 c1 c2 cB
        by_cases hi9 : i < 9
        · have hiI : (i : Int) < 9 := by omega
          obtain ⟨p, Hp⟩ : ∃ p, Hid (u / 10 ^ i = p) := ⟨_, rfl⟩
          have hp9 : p < 1000000000 := by rw [← Hp.out]; exact Nat.lt_of_le_of_lt (Nat.div_le_self _ _) hu9
          have Hp1 : Hid (u / 10 ^ (i + 1) = p / 10) := by show _ = _; rw [← Hp.out, Nat.div_div_eq_div_mul, Nat.pow_succ]
          have Hdg : Hid (p % 10 = V / 10 ^ (9 * j + i) % 10) := by show _ = _; rw [← Hp.out, ← Hu.out, ← HU.out]; exact digit_at V j i hi9
          rw [Hp.out]
          have hat : ((315 - (9 * j + i) : Nat) : Int) - 1 = ((315 - 1 - (9 * j + i) : Nat) : Int) := by omega
          have hsz := decTo_len V (9 * j + i) (by omega)
          have hce := d2.cell (315 - 1 - (9 * j + i)) (by omega)
          have hfr := d2.frozen (315 - 1 - (9 * j + i))
          have hstep := decTo_step V (9 * j + i) (by omega)
          have hst := d2.set (315 - 1 - (9 * j + i)) ((48 + V / 10 ^ (9 * j + i) % 10 : Nat) : Int)
          rw [hstep] at hst
          clear hstep hsz
          have hpm : (p : Int) % 10 < 10 := by omega
          have hlt2 : ((315 - 1 - (9 * j + i) : Nat) : Int) < 315 := by omega
          go_wp2
          go_roundw
          case rel =>
            have e8 : (48 : Int) + (p : Int) % 10 = ((48 + V / 10 ^ (9 * j + i) % 10 : Nat) : Int) := by rw [← Hdg.out]; omega
            rw [e8]
            refine ⟨i + 1, by omega, by go_num, by rw [show 314 - (9 * j + i) = 315 - (9 * j + (i + 1)) by omega], by rw [Hp1.out]; simp, d0.other (by omega), d1.other (by omega), ?_, dB.setCell (by simp; omega) _⟩
            rw [show 9 * j + (i + 1) = 9 * j + i + 1 by omega]
            exact hst
          case measure => simp [intOf]; omega
        · obtain rfl : i = 9 := by omega
          go_wp2
          go_roundw
          case rel =>
            have e9 : 9 * (j + 1) = 9 * j + 9 := by omega
            refine ⟨j + 1, by omega, by go_num, by rw [e9], by rw [HN.out, Hm.out], by rw [HN.out]; exact d0, d1, by rw [e9]; exact d2, dB⟩
          case measure => simp [intOf]; omega
    · obtain rfl : j = 35 := by omega
      rw [show 9 * 35 = 315 from rfl, decTo_full] at b2
      go_wp2_with (first | refine wpList_load_row rfl 53 _ rfl (w.heap.size + 2) rfl 53 _ _ _ b2 Tryd.underlying53 rfl (size75 _ (decN_len _ _)) ?_ | refine wpList_store_row rfl 53 _ _ rfl (w.heap.size + 1) _ rfl rfl 53 _ b1 (size75 _ (decN_len _ _)) (by rw [cellsB_size, cellsB_size, decN_len]; rfl) (cellsB_one _) ?_)
      exact bodyPost_ret (v := .agg (cellsB (decN 315 V))) (results_cell_row (by rfl) _ _ (w.heap.size + 1) 53 _ (0, 0) _ rfl (b1.setW _) Tryd.underlying53 rfl (size75 _ (decN_len _ _))) rfl ⟨rfl, below_setRow hB (by omega) _⟩
end Go.Proofs.YtgammgdckneoiacDoor
