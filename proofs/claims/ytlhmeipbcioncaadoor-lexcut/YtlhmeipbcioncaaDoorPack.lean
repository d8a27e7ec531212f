/- whole.byteCount and whole.pack: a number's words as its bytes. -/
import Derived.Test.YtlhmeipbcioncaaDoorWords
namespace Go.Proofs.YtlhmeipbcioncaaDoor
open Go.RowKit

theorem Tryd.info5 : (Tryd.prog.info? 5).map (fun i => (i.zero, i.size, i.bytes)) = some (some (.int .u8 0), 1, 1) := by kernel_rfl

theorem bitLenAux_spec : ∀ (f x : Nat), x < 2 ^ f → x < 2 ^ Lib.bitLenAux f x ∧ (x ≠ 0 → 2 ^ (Lib.bitLenAux f x - 1) ≤ x)
  | 0, x, h => by simp [Lib.bitLenAux] at *; omega
  | f + 1, x, h => by
    have ih := bitLenAux_spec f (x / 2) (by rw [Nat.pow_succ] at h; omega)
    unfold Lib.bitLenAux
    by_cases h0 : x = 0
    · simp [h0]
    · rw [if_neg h0]
      refine ⟨?_, fun _ => ?_⟩
      · rw [Nat.add_comm, Nat.pow_succ]; omega
      · rw [Nat.add_comm, Nat.add_sub_cancel]
        by_cases h1 : x / 2 = 0
        · have : Lib.bitLenAux f (x / 2) = 0 := by rw [h1]; cases f <;> simp [Lib.bitLenAux]
          rw [this]; simp; omega
        · have i2 := ih.2 h1
          have hp : 1 ≤ Lib.bitLenAux f (x / 2) := by
            cases f with
            | zero => simp at h; omega
            | succ f => unfold Lib.bitLenAux; rw [if_neg h1]; omega
          obtain ⟨m, hm⟩ : ∃ m, Lib.bitLenAux f (x / 2) = m + 1 := ⟨Lib.bitLenAux f (x / 2) - 1, by omega⟩
          rw [hm] at i2 ⊢
          rw [Nat.add_sub_cancel] at i2
          rw [Nat.pow_succ]; omega
theorem bitLen_bd (x : Nat) (h : x < 4294967296) (h0 : x ≠ 0) : x < 2 ^ Lib.bitLen x ∧ 2 ^ (Lib.bitLen x - 1) ≤ x ∧ 1 ≤ Lib.bitLen x ∧ Lib.bitLen x ≤ 32 := by
  have s := bitLenAux_spec 64 x (Nat.lt_of_lt_of_le h (by decide))
  have s2 := s.2 h0
  have hp : 1 ≤ Lib.bitLen x := by unfold Lib.bitLen Lib.bitLenAux; rw [if_neg h0]; omega
  refine ⟨s.1, s2, hp, ?_⟩
  by_cases hh : Lib.bitLen x ≤ 32
  · exact hh
  · have : 2 ^ 32 ≤ 2 ^ (Lib.bitLen x - 1) := Nat.pow_le_pow_right (by decide) (by omega)
    have s3 : 2 ^ (Lib.bitLen x - 1) ≤ x := s2
    omega

theorem blen_top (V low top j : Nat) (hV : V = low + 4294967296 ^ j * top) (hlow : low < 4294967296 ^ j) (ht0 : top ≠ 0) (ht : top < 4294967296) : blen V = 4 * j + (Lib.bitLen top + 7) / 8 := by
  obtain ⟨b1, b2, b3, b4⟩ := bitLen_bd top ht ht0
  obtain ⟨L, hL⟩ : ∃ L, Lib.bitLen top = L + 1 := ⟨Lib.bitLen top - 1, by omega⟩
  rw [hL] at b1 b2 b4 ⊢
  rw [Nat.add_sub_cancel] at b2
  have e : (4294967296 : Nat) ^ j = 2 ^ (32 * j) := by rw [Nat.pow_mul]
  have hlo : 2 ^ (32 * j) * 2 ^ L ≤ V := by
    rw [hV, e]
    have : 2 ^ (32 * j) * 2 ^ L ≤ 2 ^ (32 * j) * top := Nat.mul_le_mul_left _ b2
    omega
  have hhi : V < 2 ^ (32 * j) * 2 ^ (L + 1) := by
    rw [hV, e]
    rw [e] at hlow
    have : 2 ^ (32 * j) * (top + 1) ≤ 2 ^ (32 * j) * 2 ^ (L + 1) := Nat.mul_le_mul_left _ b1
    rw [Nat.mul_add] at this
    omega
  rw [← Nat.pow_add] at hlo hhi
  have e2 : ∀ k, 256 ^ k = 2 ^ (8 * k) := fun k => by rw [Nat.pow_mul]
  have := blen_unique V (4 * j + (L + 1 + 7) / 8 - 1) (by
    rw [e2]
    exact Nat.lt_of_lt_of_le hhi (Nat.pow_le_pow_right (by decide) (by omega))) (by
    rw [e2]
    exact Nat.le_trans (Nat.pow_le_pow_right (by decide) (by omega)) hlo)
  omega

set_option maxHeartbeats 1000000 in
theorem byteCount_any {a : Option Addr} {len cap : Nat} {ws : List Int} {w : World} (h : IsW w a len cap ws) (hl : len ≤ 1000) :
    Calls Tryd.prog 80 #[.slice a len cap] w fun e w' => e = .returned (.int .i64 (blen (val32 ws) : Int)) ∧ w = w' := by
  by_cases hz : val32 ws = 0
  · have hu : Hid (wlen (val32 ws) = 0) := by show _ = _; rw [hz]; rfl
    have hb : Hid (blen (val32 ws) = 0) := by show _ = _; rw [hz]; rfl
    go_enter Tryd.func80, Tryd.ntmps80
    go_wp2_with fail
    refine (used_any h).mono ?_
    rintro e w1 ⟨rfl, rfl⟩
    rw [hu.out]
    go_wp2
    go_ret
    exact ⟨ret_int (by rw [hb.out]; rfl), rfl⟩
  · have hex : ∃ j top, j < len ∧ ws.getD j 0 = ((top : Nat) : Int) ∧ top ≠ 0 ∧ top < 4294967296 ∧ wlen (val32 ws) = j + 1 ∧ blen (val32 ws) = 4 * j + (Lib.bitLen top + 7) / 8 := by
      have key : ∀ k, k ≤ ws.length → val32 ws = val32 (ws.take k) → ∃ j top, j < len ∧ ws.getD j 0 = ((top : Nat) : Int) ∧ top ≠ 0 ∧ top < 4294967296 ∧ wlen (val32 ws) = j + 1 ∧ blen (val32 ws) = 4 * j + (Lib.bitLen top + 7) / 8 := by
        intro k
        induction k with
        | zero => intro _ he; simp [val32] at he; exact absurd he hz
        | succ j ih =>
          intro hk he
          obtain ⟨c, hc32, hcx⟩ := wordAt ws h.word j (by omega)
          have ht := take_top ws j (by omega)
          rw [hcx, Int.toNat_natCast] at ht
          by_cases hc0 : c = 0
          · exact ih (by omega) (by rw [he, ht, hc0]; simp)
          · have hlow := val32_lt (ws.take j) (fun x hx => h.word x (List.mem_of_mem_take hx))
            rw [List.length_take, Nat.min_eq_left (by omega)] at hlow
            exact ⟨j, c, by have := h.size; omega, hcx, hc0, hc32, wlen_of ws h.word j (by omega) he (by rw [hcx]; omega), blen_top _ _ c j (by rw [he, ht]) hlow hc0 hc32⟩
      exact key ws.length (Nat.le_refl _) (by rw [List.take_length])
    obtain ⟨j, top, hj, hcx, ht0, htl, hw, hbl⟩ := hex
    have Hw : Hid (wlen (val32 ws) = j + 1) := hw
    have Hb : Hid (blen (val32 ws) = 4 * j + (Lib.bitLen top + 7) / 8) := hbl
    obtain ⟨b, off, rfl, hc⟩ := h.cells (by omega)
    have hck := hc j hj
    rw [hcx] at hck
    have hL := (bitLen_bd top htl ht0).2.2.2
    clear hw hbl hcx hc hz
    go_enter Tryd.func80, Tryd.ntmps80
    go_wp2_with fail
    refine (used_any h).mono ?_
    rintro e w1 ⟨rfl, rfl⟩
    rw [Hw.out]
    go_wp2_with fail
    refine (len32_any (top : Int) _ (by omega) (by omega)).mono ?_
    rintro e w1 ⟨rfl, rfl⟩
    rw [Int.toNat_natCast]
    go_wp2
    go_ret
    exact ⟨ret_int (by rw [Hb.out]; omega), rfl⟩

theorem byteCount_to {a : Option Addr} {len cap n : Nat} {ws : List Int} {w : World} (h : IsW w a len cap ws) (hl : len ≤ 1000) (hn : Hid (blen (val32 ws) = n)) :
    Calls Tryd.prog 80 #[.slice a len cap] w fun e w' => e = .returned (.int .i64 (n : Int)) ∧ w = w' := by
  refine (byteCount_any h hl).mono ?_
  rintro e w' ⟨rfl, rfl⟩
  exact ⟨by rw [hn.out], rfl⟩

theorem bytesN_front : ∀ (k n : Nat), bytesN (k + 1) n = ((n / 256 ^ k % 256 : Nat) : Int) :: bytesN k n
  | 0, n => by simp [bytesN]
  | k + 1, n => by
    rw [bytesN, bytesN_front k (n / 256), List.cons_append, Nat.div_div_eq_div_mul, Nat.mul_comm, ← Nat.pow_succ]
    rfl

/-- The bytes behind k rounds. -/
def packTo (n V k : Nat) : List Int := List.replicate (n - k) 0 ++ bytesN k V
theorem packTo_at (n V k : Nat) (h : k < n) : ((packTo n V k).map (Value.int .u8))[n - 1 - k]? = some (.int .u8 0) := by
  unfold packTo
  rw [List.getElem?_map, List.getElem?_append_left (by simp; omega), List.getElem?_replicate]
  simp; omega
theorem packTo_step (n V k : Nat) (h : k < n) : ((packTo n V k).map (Value.int .u8)).set (n - 1 - k) (.int .u8 ((V / 256 ^ k % 256 : Nat) : Int)) = (packTo n V (k + 1)).map (Value.int .u8) := by
  rw [← List.map_set]
  congr 1
  unfold packTo
  obtain ⟨m, hm⟩ : ∃ m, n - k = m + 1 := ⟨n - k - 1, by omega⟩
  rw [hm, show n - (k + 1) = m by omega, show n - 1 - k = m by omega, List.replicate_succ', List.append_assoc, List.set_append_right _ _ (by simp), bytesN_front]
  simp

theorem word_byte (V k : Nat) : V / 4294967296 ^ (k / 4) % 4294967296 / 2 ^ (8 * (k % 4)) % 256 = V / 256 ^ k % 256 := by
  have e1 : (4294967296 : Nat) ^ (k / 4) = 2 ^ (32 * (k / 4)) := by rw [Nat.pow_mul]
  have e2 : (256 : Nat) ^ k = 2 ^ (32 * (k / 4)) * 2 ^ (8 * (k % 4)) := by
    rw [← Nat.pow_add, show (256 : Nat) = 2 ^ 8 from rfl, ← Nat.pow_mul]
    congr 1; omega
  rw [e1, e2, ← Nat.div_div_eq_div_mul]
  generalize V / 2 ^ (32 * (k / 4)) = X
  have h4 : k % 4 < 4 := Nat.mod_lt _ (by decide)
  generalize k % 4 = r at h4
  match r, h4 with
  | 0, _ => simp
  | 1, _ => simp; omega
  | 2, _ => simp; omega
  | 3, _ => simp; omega

theorem IsW.below {w w' : World} {a : Option Addr} {len cap : Nat} {ws : List Int} (h : IsW w a len cap ws) (hb : Below w.heap.size w w') : IsW w' a len cap ws :=
  ⟨h.size, h.room, h.most, h.word, fun h0 => by
    obtain ⟨b, off, ha, hc⟩ := h.cells h0
    exact ⟨b, off, ha, fun i hi => (hb.cell (block_lt_of_cell (hc i hi))).trans (hc i hi)⟩⟩

theorem below_int0 (w : World) : Below w.heap.size w (w.alloc (.cells #[.bool false, .slice none 0 0] 63)) := (Below.refl _ _).alloc (Nat.le_refl _) _

theorem own_mono {w : World} {b b' e n m : Nat} {v : Value} {xs : List Value} (h : w.ownsRow b' e m v n xs) (hb : b ≤ b') : w.ownsRow b e m v n xs := by
  obtain ⟨h1, h2⟩ := h
  refine ⟨h1, ?_⟩
  rcases h2 with h2 | ⟨g, cap, cur, hv, hg, h3⟩
  · exact .inl h2
  · exact .inr ⟨g, cap, cur, hv, Nat.le_trans hb hg, h3⟩

set_option maxHeartbeats 2000000 in
theorem pack_zero {a : Option Addr} {len cap : Nat} {ws : List Int} {w : World} (neg : Bool) (h : IsW w a len cap ws) (hl : len ≤ 1000) (hz : val32 ws = 0) :
    Calls Tryd.prog 68 #[.bool neg, .slice a len cap] w fun e w' => e = .returned (.tuple #[.agg #[.bool false, .slice none 0 0], .int .i64 0]) ∧ Below w.heap.size w w' := by
  have hn : Hid (blen (val32 ws) = 0) := by show _ = _; rw [hz]; rfl
  have hb := below_int0 w
  have hI := h.below hb
  go_enter Tryd.func68, Tryd.ntmps68
  go_wp2_with fail
  refine (byteCount_to hI hl hn).mono ?_
  rintro e w1 ⟨rfl, rfl⟩
  go_wp2
  exact bodyPost_ret (v := .tuple #[.agg #[.bool false, .slice none 0 0], .int .i64 0]) (by simp [results, Tryd.results68, go_sem]) rfl ⟨rfl, hb⟩

set_option maxHeartbeats 2000000 in
theorem pack_large {a : Option Addr} {len cap : Nat} {ws : List Int} {w : World} (neg : Bool) (h : IsW w a len cap ws) (hl : len ≤ 1000) (hz : 128 < blen (val32 ws)) (hm : blen (val32 ws) ≤ 4000) :
    Calls Tryd.prog 68 #[.bool neg, .slice a len cap] w fun e w' => e = .returned (.tuple #[.agg #[.bool false, .slice none 0 0], .int .i64 24]) ∧ Below w.heap.size w w' := by
  obtain ⟨n, hn⟩ : ∃ n, Hid (blen (val32 ws) = n) := ⟨_, rfl⟩
  rw [hn.out] at hz hm
  have hb := below_int0 w
  have hI := h.below hb
  have h0 : ((n : Int) == 0) = false := by simp; omega
  have h1 : (128 : Int) < (n : Int) := by omega
  go_enter Tryd.func68, Tryd.ntmps68
  go_wp2_with fail
  refine (byteCount_to hI hl hn).mono ?_
  rintro e w1 ⟨rfl, rfl⟩
  go_wp2
  exact bodyPost_ret (v := .tuple #[.agg #[.bool false, .slice none 0 0], .int .i64 24]) (by simp [results, Tryd.results68, go_sem]) rfl ⟨rfl, hb⟩

set_option maxRecDepth 100000 in
set_option maxHeartbeats 4000000 in
theorem pack_ok {b off len cap : Nat} {ws : List Int} {w : World} (neg : Bool) (h : IsW w (some ⟨b, off, none⟩) len cap ws) (hl : len ≤ 1000) (hz : val32 ws ≠ 0) (hm : blen (val32 ws) ≤ 128) :
    Calls Tryd.prog 68 #[.bool neg, .slice (some ⟨b, off, none⟩) len cap] w fun e w' => ∃ g, e = .returned (.tuple #[.agg #[.bool neg, .slice (some ⟨g, 0, none⟩) (blen (val32 ws)) (blen (val32 ws))], .int .i64 0]) ∧
      w'.ownsRow w.heap.size 5 1 (.slice (some ⟨g, 0, none⟩) (blen (val32 ws)) (blen (val32 ws))) (blen (val32 ws)) ((mag (val32 ws)).map (Value.int .u8)) ∧ Below w.heap.size w w' := by
  obtain ⟨i0, hi, hz0, hz1, hz2⟩ := info_parts Tryd.info5
  have hpos := ((blen_spec (val32 ws)).2 hz).2
  have hV := (blen_spec (val32 ws)).1
  have hws : words len (val32 ws) = ws := by rw [← h.size]; exact words_val32 ws h.word
  have hVl : val32 ws < 4294967296 ^ len := by rw [← h.size]; exact val32_lt ws h.word
  have hblen : blen (val32 ws) ≤ 4 * len := (blen_le _ _).2 (by rw [Nat.pow_mul]; exact hVl)
  obtain ⟨n, hn⟩ : ∃ n, Hid (blen (val32 ws) = n) := ⟨_, rfl⟩
  obtain ⟨V, HV⟩ : ∃ V, Hid (val32 ws = V) := ⟨_, rfl⟩
  unfold mag
  rw [hn.out] at hm hpos hblen ⊢
  rw [HV.out] at hws ⊢
  have Hws : Hid (words len V = ws) := hws
  have hb := below_int0 w
  have hI := h.below hb
  have hbB : b < w.heap.size := by
    obtain ⟨b', off', ha, hc⟩ := h.cells (by omega)
    simp only [Option.some.injEq, Addr.mk.injEq, and_true] at ha
    obtain ⟨rfl, rfl⟩ := ha
    have := block_lt_of_cell (hc 0 (by omega))
    simpa using this
  have hcell : ∀ i, i < len → w.cell? ⟨b, off + i, none⟩ = some (.int .u32 ((V / 4294967296 ^ i % 4294967296 : Nat) : Int)) := by
    obtain ⟨b', off', ha, hc⟩ := h.cells (by omega)
    simp only [Option.some.injEq, Addr.mk.injEq, and_true] at ha
    obtain ⟨rfl, rfl⟩ := ha
    intro i hi'
    rw [hc i hi', List.getD_eq_getElem?_getD, ← Hws.out, words_get len V i hi']
    rfl
  have h0 : ((n : Int) == 0) = false := by simp; omega
  have h1 : ¬ (128 : Int) < (n : Int) := by omega
  clear hws hVl hV hz
  go_enter Tryd.func68, Tryd.ntmps68
  go_wp2_with fail
  refine (byteCount_to hI hl hn).mono ?_
  rintro e w1 ⟨rfl, rfl⟩
  go_wp2_with (at_make; refine wpList_make_full _ rfl _ _ 36 rfl (w.heap.size + 1) 5 i0 (.int .u8 0) 1 Tryd.underlying36 hi hz0 hz1 _ _ _ _ n rfl rfl rfl rfl (by rw [hz2]; omega) (by unfold maxLen; omega) (by simp) ?_)
  intro w2 hown hgrow
  have hbw2 : Below w.heap.size w w2 := hb.grown hgrow (by simp) (by simp)
  have hvar2 : w2.heap[w.heap.size]? = some (.cells #[.bool false, .slice none 0 0] 63 (0, 0)) := (hgrow.block w.heap.size (by simp) (by simp)).trans (heap_alloc_new w _)
  clear hgrow hI hb
  go_wp2
  go_loopw [20] (fun i wr => ∃ k : Nat, k ≤ n ∧ i = .int .i64 k ∧ wr.ownsRow (w.heap.size + 1) 5 1 (.slice (some ⟨w.heap.size + 1, 0, none⟩) n n) n ((packTo n V k).map (Value.int .u8)) ∧ wr.heap[w.heap.size]? = some (.cells #[.bool false, .slice none 0 0] 63 (0, 0)) ∧ Below w.heap.size w wr) (fun i _ => n - (intOf i).toNat)
  case atStart =>
    refine ⟨0, Nat.zero_le _, rfl, ?_, hvar2, hbw2⟩
    have e : (madeCells #[Value.int IntKind.u8 0] n).toList = (packTo n V 0).map (Value.int .u8) := by
      rw [toList_madeCells_one]; simp [packTo, bytesN]
    rw [← e]; exact hown
  case round =>
    obtain ⟨k, hk, rfl, hownk, hvar, hbel⟩ := hrel
    clear hown hvar2 hbw2
    by_cases hlt : k < n
    · have hf := hownk.frozenAt (n - 1 - k)
      have hc : wr.cell? ⟨w.heap.size + 1, n - 1 - k, none⟩ = some (.int .u8 0) := by
        rw [hownk.cellAt (n - 1 - k) (by omega), packTo_at n V k hlt]
      obtain ⟨q, hq⟩ : ∃ q, q = k / 4 := ⟨_, rfl⟩
      obtain ⟨r, hr⟩ : ∃ r, r = k % 4 := ⟨_, rfl⟩
      have hq1 : (k : Int) / 4 = (q : Int) := by omega
      have hr1 : (k : Int) % 4 = (r : Int) := by omega
      have hr4 : r < 4 := by omega
      have hql : q < len := by omega
      obtain ⟨c, hcv⟩ : ∃ c, V / 4294967296 ^ q % 4294967296 = c := ⟨_, rfl⟩
      have hc32 : c < 4294967296 := by rw [← hcv]; exact Nat.mod_lt _ (by decide)
      have hcw : wr.cell? ⟨b, off + q, none⟩ = some (.int .u32 (c : Int)) := by
        rw [← hcv]; exact (hbel.cell (p := ⟨b, off + q, none⟩) hbB).trans (hcell q hql)
      have Hbyte : Hid (c / 2 ^ (8 * r) % 256 = V / 256 ^ k % 256) := by
        show _ = _; rw [← hcv, hq, hr]; exact word_byte V k
      have i1 : (n : Int) - 1 - (k : Int) = ((n - 1 - k : Nat) : Int) := by omega
      clear hcell hq hr hcv
      go_wp2
      go_roundw
      case rel =>
        have hval : ((c : Int) / 2 ^ (8 * r) % 256) = ((V / 256 ^ k % 256 : Nat) : Int) := by
          rw [← Hbyte.out]; simp
        rw [hval]
        have hst := hownk.stored (n - 1 - k) (.int .u8 ((V / 256 ^ k % 256 : Nat) : Int))
        refine ⟨k + 1, by omega, by go_num, ?_, ?_, hbel.grown hst.2 hbel.size (by simp)⟩
        · rw [← packTo_step n V k hlt]
          exact hst.1
        · rw [heap_setCell_other _ _ _ _ (by simp)]
          exact hvar
      case measure => simp [intOf]; omega
    · obtain rfl : k = n := by omega
      have hc0 : wr.cell? ⟨w.heap.size, 0, none⟩ = some (.bool false) := by rw [cell_of_row wr _ 0 _ _ _ hvar]; rfl
      have hc1 : wr.cell? ⟨w.heap.size, 0 + 1, none⟩ = some (.slice none 0 0) := by rw [cell_of_row wr _ (0 + 1) _ _ _ hvar]; rfl
      have hf0 := frozen_of_row wr w.heap.size 0 _ _ hvar
      have hf1 := frozen_of_row wr w.heap.size (0 + 1) _ _ hvar
      clear hcell
      go_wp2
      have hO : ((wr.setCell ⟨w.heap.size, 0, none⟩ (.bool neg)).setCell ⟨w.heap.size, 1, none⟩ (.slice (some ⟨w.heap.size + 1, 0, none⟩) k k)).ownsRow w.heap.size 5 1 (.slice (some ⟨w.heap.size + 1, 0, none⟩) k k) k ((bytesN k V).map (Value.int .u8)) := by
        have e : packTo k V k = bytesN k V := by simp [packTo]
        rw [e] at hownk
        exact own_mono (ownsRow_setCell_below (ownsRow_setCell_below hownk (by simp) _) (by simp) _) (by omega)
      have hB2 : Below w.heap.size w ((wr.setCell ⟨w.heap.size, 0, none⟩ (.bool neg)).setCell ⟨w.heap.size, 1, none⟩ (.slice (some ⟨w.heap.size + 1, 0, none⟩) k k)) := (hbel.setCell (Nat.le_refl _) _).setCell (Nat.le_refl _) _
      exact bodyPost_ret (v := .tuple #[.agg #[.bool neg, .slice (some ⟨w.heap.size + 1, 0, none⟩) k k], .int .i64 0]) (by simp [results, Tryd.results68, go_sem, hc0, hc1]) rfl ⟨w.heap.size + 1, rfl, hO, hB2⟩
end Go.Proofs.YtlhmeipbcioncaaDoor
