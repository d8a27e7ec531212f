/- readPiece. -/
import Derived.Test.YtofgphiamllmdabPiece
namespace Go.Proofs.Ytofgphiamllmdab
open Go.RowKit
set_option maxRecDepth 100000

/-- Whether a piece can be so long. -/
def badB (n : Nat) (last : Bool) : Bool := decide (n < 1) || (decide (112 < n) || (!last && decide (n ≠ 112)))
/-- What readPiece answers: life, seq, place, last, how many bytes. -/
def rdPiece (xs : List Int) : Option (Int × Int × Int × Bool × Nat) :=
  if badB (hdAt xs 15 1).toNat (hdAt xs 14 1 != 0) = false ∧ pieceB (hdAt xs 0 6) (hdAt xs 6 6) (hdAt xs 12 2) (hdAt xs 14 1 != 0) ((xs.drop 16).take (hdAt xs 15 1).toNat) = xs then some (hdAt xs 0 6, hdAt xs 6 6, hdAt xs 12 2, hdAt xs 14 1 != 0, (hdAt xs 15 1).toNat) else none
def pcV (xb : Nat) : Option (Int × Int × Int × Bool × Nat) → Value
  | some (life, seq, place, last, n) => .tuple #[.agg #[.int .i64 life, .int .i64 seq, .int .i64 place, .bool last, .slice (some ⟨xb, 16, none⟩) n 112], .bool true]
  | none => .tuple #[.agg #[.int .i64 0, .int .i64 0, .int .i64 0, .bool false, .slice none 0 0], .bool false]
theorem load131 {w : World} {b : Nat} {v0 v1 v2 v3 v4 : Value} (hx : w.heap[b]? = some (.cells #[v0, v1, v2, v3, v4] 131 (0, 0))) : (loadVar 131 ⟨b, 0, none⟩).run Try.prog w = .ok (.agg #[v0, v1, v2, v3, v4]) w := by
  have hr := run_loadCells_list (P := Try.prog) w ⟨b, 0, none⟩ [v0, v1, v2, v3, v4] (fun i v hi => by
    have hadd : (⟨b, 0, none⟩ : Addr).add i = ⟨b, i, none⟩ := by unfold Addr.add; split <;> simp_all
    rw [hadd, cell_of_row w b i _ _ _ hx]
    simpa using hi)
  have hagg : (isAgg 131).run Try.prog w = .ok true w := by simp [isAgg, run_underlying Try.underlying131]
  have hr' : (loadCells ⟨b, 0, none⟩ 5).run Try.prog w = .ok #[v0, v1, v2, v3, v4] w := hr
  simp [loadVar, hagg, hr']
theorem run_load131 {a : Act} {w : World} {o : Oper} {x : Operand} {b : Nat} {v0 v1 v2 v3 v4 : Value} (h1 : a.eval x = .pointer (some ⟨b, 0, none⟩)) (ho : o.op = .load 131 x) (hx : w.heap[b]? = some (.cells #[v0, v1, v2, v3, v4] 131 (0, 0))) : (execOp a.eval o).run Try.prog w = .ok (.value (.agg #[v0, v1, v2, v3, v4])) w := by
  simp only [execOp, ho, h1, Instr.loadAt, Instr.sureAddr, Sem.run_bind, Sem.run_pure, Result.andThen_ok, load131 hx]
/-- What the operations yield. -/
def valRP (life seq place : Int) (last : Bool) (xb n : Nat) (ys xs : List Int) (j : Nat) : Value :=
  ([.agg #[.int .i64 life, .int .i64 seq, .int .i64 place, .bool last, .slice (some ⟨xb, 16, none⟩) n 112],
    .agg (cellsB (pieceB life seq place last ys)),
    .agg (cellsB xs),
    .bool (decide (¬ pieceB life seq place last ys = xs))] : List Value).getD j undef
theorem valRP_list {l : List Value} (hh : l.length = 4) : ∃ v0 v1 v2 v3, l = [v0, v1, v2, v3] := by
  obtain ⟨v0, t0, rfl, h0⟩ := cons_of hh
  obtain ⟨v1, t1, rfl, h1⟩ := cons_of h0
  obtain ⟨v2, t2, rfl, h2⟩ := cons_of h1
  obtain ⟨v3, t3, rfl, h3⟩ := cons_of h2
  obtain rfl := List.eq_nil_of_length_eq_zero h3
  exact ⟨_, _, _, _, rfl⟩
set_option maxHeartbeats 4000000 in
theorem readPiece_any (w : World) {xs : List Int} (hs : IsSec xs) : Calls Try.prog 93 #[.agg (cellsB xs)] w fun e w' => ∃ xb, e = .returned (pcV xb (rdPiece xs)) ∧ w.heap.size ≤ xb ∧ ArrS w' xb 78 xs ∧ Below w.heap.size w w' := by
  go_enter Try.func93, Try.ntmps93
  go_wp2_with fail
  have hb0 : Below w.heap.size w (((w.alloc (.cells (cellsB xs) 78)).alloc (.cells #[.int .i64 0, .int .i64 0, .int .i64 0, .bool false, .slice none 0 0] 131)).alloc (.cells #[.slice (some ⟨w.heap.size, 0, none⟩) 128 128] 120)) :=
    (((Below.refl _ w).alloc (Nat.le_refl _) _).alloc (by simp) _).alloc (by simp; omega) _
  obtain ⟨W, hW⟩ : ∃ W, ((w.alloc (.cells (cellsB xs) 78)).alloc (.cells #[.int .i64 0, .int .i64 0, .int .i64 0, .bool false, .slice none 0 0] 131)).alloc (.cells #[.slice (some ⟨w.heap.size, 0, none⟩) 128 128] 120) = W := ⟨_, rfl⟩
  have b0 : ArrS W w.heap.size 78 xs := by
    rw [← hW]
    exact (Below.heap_alloc _ _ _ (by simp <;> omega)).trans ((Below.heap_alloc _ _ _ (by simp <;> omega)).trans (heap_alloc_new _ _))
  have b1 : W.heap[w.heap.size + 1]? = some (.cells #[.int .i64 0, .int .i64 0, .int .i64 0, .bool false, .slice none 0 0] 131 (0, 0)) := by
    rw [← hW]
    exact (Below.heap_alloc _ _ _ (by simp <;> omega)).trans (by have := heap_alloc_new (w.alloc (.cells (cellsB xs) 78)) (.cells #[.int .i64 0, .int .i64 0, .int .i64 0, .bool false, .slice none 0 0] 131); simpa using this)
  have b2 : Cur W (w.heap.size + 1 + 1) w.heap.size 0 (128 - 0) := by
    rw [← hW]
    have := heap_alloc_new ((w.alloc (.cells (cellsB xs) 78)).alloc (.cells #[.int .i64 0, .int .i64 0, .int .i64 0, .bool false, .slice none 0 0] 131)) (.cells #[.slice (some ⟨w.heap.size, 0, none⟩) 128 128] 120)
    simpa [Cur] using this
  rw [hW] at hb0 ⊢
  clear hW
  obtain ⟨xb, hxb⟩ : ∃ b, w.heap.size = b := ⟨_, rfl⟩
  obtain ⟨rb, hrb⟩ : ∃ b, w.heap.size + 1 = b := ⟨_, rfl⟩
  obtain ⟨cb, hcb⟩ : ∃ b, w.heap.size + 1 + 1 = b := ⟨_, rfl⟩
  have n1 : xb ≠ rb ∧ xb ≠ cb ∧ cb ≠ rb := by omega
  have n2 : w.heap.size ≤ xb ∧ w.heap.size ≤ rb ∧ w.heap.size ≤ cb := by omega
  rw [hcb, hxb] at b2
  rw [hrb] at b1
  rw [hxb] at b0
  have e0 : (Value.pointer (some ⟨w.heap.size, 0, none⟩)) = .pointer (some ⟨xb, 0, none⟩) := by rw [hxb]
  have e1 : (Value.slice (some ⟨w.heap.size, 0, none⟩) 128 128) = .slice (some ⟨xb, 0, none⟩) 128 128 := by rw [hxb]
  rw [hcb, hrb, e0, e1]
  clear hcb hrb e0 e1
  refine (getF b2 b0 hs 6 (by decide) (by decide) (by omega)).mono ?_
  rintro e W1 ⟨rfl, C1, A1, O1⟩
  go_wp2_with fail
  refine (getF C1 A1 hs 6 (by decide) (by decide) (by omega)).mono ?_
  rintro e W2 ⟨rfl, C2, A2, P2⟩
  have O2 := O1.trans P2
  go_wp2_with fail
  refine (getF C2 A2 hs 2 (by decide) (by decide) (by omega)).mono ?_
  rintro e W3 ⟨rfl, C3, A3, P3⟩
  have O3 := O2.trans P3
  go_wp2_with fail
  refine (getF C3 A3 hs 1 (by decide) (by decide) (by omega)).mono ?_
  rintro e W4 ⟨rfl, C4, A4, P4⟩
  have O4 := O3.trans P4
  clear C1 A1 O1 C2 A2 P2 O2 C3 A3 P3 O3 P4
  have hr4 := (O4.block rb (by omega) (by omega)).trans b1
  have hB4 := hb0.trans (O4.below n2.2.2 n2.2.2)
  obtain ⟨n, hn0⟩ : ∃ n : Nat, hdAt xs 15 1 = (n : Int) := by
    have := (num_bound ((xs.drop 15).take 1) (fun y hy => hs.byte y (List.mem_of_mem_drop (List.mem_of_mem_take hy))) (by rw [List.length_take]; omega)).1
    exact ⟨(hdAt xs 15 1).toNat, by unfold hdAt; omega⟩
  have hrd : Hid (rdPiece xs = if badB n (hdAt xs 14 1 != 0) = false ∧ pieceB (hdAt xs 0 6) (hdAt xs 6 6) (hdAt xs 12 2) (hdAt xs 14 1 != 0) ((xs.drop 16).take n) = xs then some (hdAt xs 0 6, hdAt xs 6 6, hdAt xs 12 2, hdAt xs 14 1 != 0, n) else none) := by
    show _ = _
    unfold rdPiece
    rw [hn0, Int.toNat_natCast]
  simp only [Nat.reduceAdd] at O4 A4 C4 ⊢
  generalize hdAt xs 0 6 = life at *
  generalize hdAt xs 6 6 = seq at *
  generalize hdAt xs 12 2 = place at *
  generalize hdAt xs 14 1 = lastv at *
  go_wp2_with fail
  generalize (lastv != 0) = last at *
  clear hxb
  have h5 := heap_alloc_new W4 (.cells #[.int .i64 life, .int .i64 seq, .int .i64 place, .bool last, .slice none 0 0] 131)
  have hB5 := hB4.alloc hB4.size (.cells #[.int .i64 life, .int .i64 seq, .int .i64 place, .bool last, .slice none 0 0] 131)
  have A5 : ArrS (W4.alloc (.cells #[.int .i64 life, .int .i64 seq, .int .i64 place, .bool last, .slice none 0 0] 131)) xb 78 xs := (Below.heap_alloc _ _ _ (lt_of_block A4)).trans A4
  have r5 : (W4.alloc (.cells #[.int .i64 life, .int .i64 seq, .int .i64 place, .bool last, .slice none 0 0] 131)).heap[rb]? = _ := (Below.heap_alloc _ _ _ (lt_of_block hr4)).trans hr4
  have C5 : Cur (W4.alloc (.cells #[.int .i64 life, .int .i64 seq, .int .i64 place, .bool last, .slice none 0 0] 131)) cb xb 15 (128 - 15) := (Below.heap_alloc _ _ _ (lt_of_block C4)).trans C4
  have n3 : W4.heap.size ≠ cb ∧ W4.heap.size ≠ xb ∧ W4.heap.size ≠ rb ∧ w.heap.size ≤ W4.heap.size := by
    have := lt_of_block C4
    have := lt_of_block A4
    have := lt_of_block hr4
    have := hB4.size
    omega
  generalize W4.alloc (.cells #[.int .i64 life, .int .i64 seq, .int .i64 place, .bool last, .slice none 0 0] 131) = W5 at *
  generalize W4.heap.size = hb at *
  clear A4 hr4 hB4 O4 b0 b1 b2 C4
  refine (getF C5 A5 hs 1 (by decide) (by decide) (by omega)).mono ?_
  rintro e W6 ⟨rfl, C6, A6, P6⟩
  rw [hn0]
  simp only [Nat.reduceAdd] at C6
  have h6 := (P6.block hb n3.1 n3.1).trans h5
  have r6 := (P6.block rb (by omega) (by omega)).trans r5
  have hB6 := hB5.trans (P6.below n2.2.2 n2.2.2)
  clear C5 A5 P6 h5 r5 hB5 hn0
  have q3 : W6.cell? ⟨hb, 3, none⟩ = some (.bool last) := by rw [cell_of_row _ hb _ _ _ _ h6]; rfl
  go_upto_region 4 with fail
  go_cut [29] from 15 to 29 (fun v wx => v = .bool (badB n last) ∧ wx = W6)
  case first =>
    by_cases k1 : n < 1
    · have k1' : (n : Int) < 1 := by omega
      go_wp2
      go_meet
      case rel => exact ⟨by simp [badB, k1], rfl⟩
    · have k1' : ¬ (n : Int) < 1 := by omega
      by_cases k2 : 112 < n
      · have k2' : (112 : Int) < (n : Int) := by omega
        go_wp2
        go_meet
        case rel => exact ⟨by simp [badB, k2], rfl⟩
      · have k2' : ¬ (112 : Int) < (n : Int) := by omega
        cases last
        · by_cases k3 : n = 112
          · have k3b : ((n : Int) != 112) = false := by simp [k3]
            have hk3 : Hid (n = 112) := k3
            clear k3
            go_wp2
            go_meet
            case rel => exact ⟨by simp [badB, hk3.out], rfl⟩
          · have k3' : ¬ (n : Int) = 112 := by omega
            go_wp2
            go_meet
            case rel => exact ⟨by simp [badB, k3]; omega, rfl⟩
        · go_wp2
          go_meet
          case rel => exact ⟨by simp [badB]; omega, rfl⟩
  case rest =>
    obtain ⟨rfl, rfl⟩ := hcut
    by_cases hcan : badB n last = false
    · rw [hcan]
      have hn112 : n ≤ 112 := by have h := hcan; simp [badB] at h; omega
      have f4 := frozen_of_row wc hb 4 _ _ h6
      have q4 : wc.cell? ⟨hb, 4, none⟩ = some (.slice none 0 0) := by rw [cell_of_row _ hb _ _ _ _ h6]; rfl
      clear q3
      go_wp2_with fail
      refine (next_le C6 n (by omega)).mono ?_
      rintro e W7 ⟨rfl, P7⟩
      have h7 := (P7.block hb n3.1 n3.1).trans h6
      have r7 := (P7.block rb (by omega) (by omega)).trans r6
      have A7 : ArrS W7 xb 78 xs := (P7.block xb (by omega) (by omega)).trans A6
      have hB7 := hB6.trans (P7.below n2.2.2 n2.2.2)
      clear C6 A6 P7 h6 r6 hB6 f4 q4
      have f4 := frozen_of_row W7 hb 4 _ _ h7
      have q4 : W7.cell? ⟨hb, 4, none⟩ = some (.slice none 0 0) := by rw [cell_of_row _ hb _ _ _ _ h7]; rfl
      have h8 : (W7.setCell ⟨hb, 4, none⟩ (.slice (some ⟨xb, 16, none⟩) n 112)).heap[hb]? = some (.cells #[.int .i64 life, .int .i64 seq, .int .i64 place, .bool last, .slice (some ⟨xb, 16, none⟩) n 112] 131 (0, 0)) := by rw [heap_setCell_same W7 hb 4 _ _ _ h7]; rfl
      have r8 : (W7.setCell ⟨hb, 4, none⟩ (.slice (some ⟨xb, 16, none⟩) n 112)).heap[rb]? = _ := (heap_setCell_other _ _ _ _ (by show rb ≠ hb; omega)).trans r7
      have A8 : ArrS (W7.setCell ⟨hb, 4, none⟩ (.slice (some ⟨xb, 16, none⟩) n 112)) xb 78 xs := (heap_setCell_other _ _ _ _ (by show xb ≠ hb; omega)).trans A7
      have hB8 := hB7.setCell (p := ⟨hb, 4, none⟩) n3.2.2.2 (.slice (some ⟨xb, 16, none⟩) n 112)
      go_upto_region 7 with fail
      generalize W7.setCell ⟨hb, 4, none⟩ (.slice (some ⟨xb, 16, none⟩) n 112) = W8 at *
      clear h7 r7 A7 hB7 f4 q4
      obtain ⟨ys, hys⟩ : ∃ ys, Hid ((xs.drop 16).take n = ys) := ⟨_, rfl⟩
      have hyl : ys.length = n := by rw [← hys.out, List.length_take, List.length_drop, hs.len]; omega
      have hyb : ∀ y ∈ ys, 0 ≤ y ∧ y < 256 := fun y hy => hs.byte y (by rw [← hys.out] at hy; exact List.mem_of_mem_drop (List.mem_of_mem_take hy))
      have hPS := pieceB_sec life seq place last (ys := ys) (by omega) hyb
      have hfa : ∀ w', Below W8.heap.size W8 w' → ArrS w' xb 78 xs ∧ xb < w'.heap.size ∧ ∀ i, i < n → w'.cell? ⟨xb, 16 + i, none⟩ = some (.int .u8 (ys.getD i 0)) := fun w' O => by
        have hA : ArrS w' xb 78 xs := (O.block xb (lt_of_block A8)).trans A8
        refine ⟨hA, lt_of_block hA, fun i hi => ?_⟩
        rw [hA.cell (16 + i) (by rw [hs.len]; omega), ← hys.out]
        have hl := hs.len
        simp [List.getD, hi]
      have hrd2 : Hid (rdPiece xs = if badB n last = false ∧ pieceB life seq place last ys = xs then some (life, seq, place, last, n) else none) := by show _ = _; rw [hrd.out, hys.out]
      clear hrd
      refine abstract_act fun A hA => ?_
      have s5 : A.tmps[5]? = some (.pointer (some ⟨hb, 0, none⟩)) := by rw [hA]; rfl
      have s1 : A.tmps[1]? = some (.pointer (some ⟨xb, 0, none⟩)) := by rw [hA]; rfl
      have hsz : A.tmps.size = 40 := by rw [hA]; rfl
      refine wp_region_inv3' (fun A D a w' => ∃ (l : List Value), a = putAll A 34 l ∧ l.length = 4 ∧ Below W8.heap.size W8 w' ∧ (∀ j, j < 4 → D j → l[j]? = some (valRP life seq place last xb n ys xs j))) (by kernel_rfl) (by kernel_rfl) ?mono ?start ?step ?done
      case mono =>
        rintro D D' a w' hD ⟨l, ha, hlen, hB, hl⟩
        exact ⟨l, ha, hlen, hB, fun j hj h => hl j hj ((hD j).2 h)⟩
      case start => exact ⟨_, (putAll_start A 34 4 (by omega)).1, (putAll_start A 34 4 (by omega)).2, (Below.refl _ _).drew, fun _ _ h => h.elim⟩
      case step =>
        clear hA
        intro i o ho D a w' hI hn hcl hd
        obtain ⟨l, ha, hlen, hB, hl⟩ := hI
        match i, ho with
        | 0, ho =>
          cases Option.some.inj ho
          refine .inl ⟨rfl, ?_⟩
          have ev : a.tmps[5]? = some (.pointer (some ⟨hb, 0, none⟩)) := by rw [ha, putAll_low A 34 5 l (by omega) (by decide)]; exact s5
          refine wp_value (w' := w') (v := .agg #[.int .i64 life, .int .i64 seq, .int .i64 place, .bool last, .slice (some ⟨xb, 16, none⟩) n 112]) (run_load131 (eval_some ev) rfl ((hB.block hb (lt_of_block h8)).trans h8)) ?_
          exact ⟨_, by rw [ha]; exact putAll_put A 34 0 l _ (by omega) (by omega), by rw [List.length_set]; exact hlen, hB, set_known hlen (by decide) hl⟩
        | 1, ho =>
          cases Option.some.inj ho
          refine .inl ⟨rfl, ?_⟩
          have ev : a.tmps[34]? = some (.agg #[.int .i64 life, .int .i64 seq, .int .i64 place, .bool last, .slice (some ⟨xb, 16, none⟩) n 112]) := known_at ha hsz hlen hl 0 (by decide) (hd ⟨0, .data⟩ (by simp) rfl)
          refine wp_enter (f := 84) (args := #[.agg #[.int .i64 life, .int .i64 seq, .int .i64 place, .bool last, .slice (some ⟨xb, 16, none⟩) n 112]]) (by simp [execOp, ev, go_sem]) ?_
          refine (piece_sector w' life seq place last xb 16 n 112 ys hyl hn112 (hfa w' hB).2.1 (hfa w' hB).2.2).mono ?_
          rintro e w6 ⟨rfl, HB⟩
          refine ⟨_, rfl, ?_⟩
          exact ⟨_, by rw [ha]; exact putAll_put A 34 1 l _ (by omega) (by omega), by rw [List.length_set]; exact hlen, below_size hB (Nat.le_refl _) HB, set_known hlen (by decide) hl⟩
        | 2, ho =>
          cases Option.some.inj ho
          refine .inl ⟨rfl, ?_⟩
          have ev : a.tmps[1]? = some (.pointer (some ⟨xb, 0, none⟩)) := by rw [ha, putAll_low A 34 1 l (by omega) (by decide)]; exact s1
          refine wp_value (w' := w') (v := .agg (cellsB xs)) (run_load78 (eval_some ev) rfl (hfa w' hB).1 hs.len) ?_
          exact ⟨_, by rw [ha]; exact putAll_put A 34 2 l _ (by omega) (by omega), by rw [List.length_set]; exact hlen, hB, set_known hlen (by decide) hl⟩
        | 3, ho =>
          cases Option.some.inj ho
          refine .inl ⟨rfl, ?_⟩
          have ev : a.tmps[35]? = some (.agg (cellsB (pieceB life seq place last ys))) := known_at ha hsz hlen hl 1 (by decide) (hd ⟨1, .data⟩ (by simp) rfl)
          have ev' : a.tmps[36]? = some (.agg (cellsB xs)) := known_at ha hsz hlen hl 2 (by decide) (hd ⟨2, .data⟩ (by simp) rfl)
          have hc := equal_78 10000 rfl hPS hs w'
          refine wp_value (w' := w') (v := .bool (decide (¬ pieceB life seq place last ys = xs))) (by simp [execOp, ev, ev', go_sem, hc]) ?_
          exact ⟨_, by rw [ha]; exact putAll_put A 34 3 l _ (by omega) (by omega), by rw [List.length_set]; exact hlen, hB, set_known hlen (by decide) hl⟩
        | i + 4, ho => simp at ho
      case done =>
        rintro D a w' ⟨l, ha, hlen, hB, hl⟩ hall
        obtain ⟨v0, v1, v2, v3, rfl⟩ := valRP_list hlen
        have hz := hl 3 (by decide) (hall 3 (by decide))
        simp only [List.getElem?_cons_succ, List.getElem?_cons_zero, Option.some.injEq] at hz
        have hz' : v3 = .bool (decide (¬ pieceB life seq place last ys = xs)) := hz
        subst hz'
        clear hl hall
        clear s5 s1 hsz hlen
        subst hA
        have hfr : a = _ := ha
        rw [hfr]
        clear hfr ha
        simp only [putAll, List.take_succ_cons, List.take_zero, List.drop_succ_cons, List.drop_zero, List.cons_append, List.nil_append, List.length_cons, List.length_nil]
        have A10 := (hfa w' hB).1
        have r10 := (hB.block rb (lt_of_block r8)).trans r8
        have h10 := (hB.block hb (lt_of_block h8)).trans h8
        have hB10 := below_size hB8 (Nat.le_refl _) hB
        clear hfa hB8 A8 h8 r8 hB
        have h8 := h10
        clear h10
        by_cases hE : pieceB life seq place last ys = xs
        · have hres : Hid (rdPiece xs = some (life, seq, place, last, n)) := by show _ = _; rw [hrd2.out, if_pos ⟨hcan, hE⟩]
          have hd1 : decide (¬ pieceB life seq place last ys = xs) = false := decide_eq_false (fun h => h hE)
          rw [hd1]
          clear hrd2 hcan hE hd1
          have z1 : (Try.prog.info? 131).map (·.size) = some (#[Value.int .i64 life, .int .i64 seq, .int .i64 place, .bool last, .slice (some ⟨xb, 16, none⟩) n 112] : Array Value).size := by kernel_rfl
          have z2 : (#[Value.int .i64 0, .int .i64 0, .int .i64 0, .bool false, .slice none 0 0] : Array Value).size = (#[Value.int .i64 life, .int .i64 seq, .int .i64 place, .bool last, .slice (some ⟨xb, 16, none⟩) n 112] : Array Value).size := rfl
          have z3 : (#[Value.int .i64 life, .int .i64 seq, .int .i64 place, .bool last, .slice (some ⟨xb, 16, none⟩) n 112] : Array Value).all (·.oneCell') = true := by simp [Value.oneCell']
          have r9 : (w'.setRow rb #[.int .i64 life, .int .i64 seq, .int .i64 place, .bool last, .slice (some ⟨xb, 16, none⟩) n 112]).heap[rb]? = _ := setRow_heap _ _ _ _ _ _ r10
          have hB9 := below_setRow hB10 n2.2.1 #[.int .i64 life, .int .i64 seq, .int .i64 place, .bool last, .slice (some ⟨xb, 16, none⟩) n 112]
          have A9 : ArrS (w'.setRow rb #[.int .i64 life, .int .i64 seq, .int .i64 place, .bool last, .slice (some ⟨xb, 16, none⟩) n 112]) xb 78 xs := (setRow_other _ _ _ _ (by omega)).trans A10
          go_wp2_with (first | (refine wpList_value rfl (run_load131 rfl rfl h8) ?_) | refine wpList_store_row rfl 131 _ _ rfl rb _ rfl rfl 131 _ r10 z1 z2 z3 ?_)
          exact bodyPost_ret (v := .tuple #[.agg #[.int .i64 life, .int .i64 seq, .int .i64 place, .bool last, .slice (some ⟨xb, 16, none⟩) n 112], .bool true]) (results_two Try.results93 rfl (load131 r9) rfl) rfl ⟨xb, by rw [hres.out]; rfl, n2.1, A9, hB9⟩
        · have hres : Hid (rdPiece xs = none) := by show _ = _; rw [hrd2.out, if_neg (fun h => hE h.2)]
          have hd1 : decide (¬ pieceB life seq place last ys = xs) = true := decide_eq_true hE
          rw [hd1]
          clear hrd2 hcan hE hd1
          have z1 : (Try.prog.info? 131).map (·.size) = some (#[Value.int .i64 0, .int .i64 0, .int .i64 0, .bool false, .slice none 0 0] : Array Value).size := by kernel_rfl
          have z2 : (#[Value.int .i64 0, .int .i64 0, .int .i64 0, .bool false, .slice none 0 0] : Array Value).size = (#[Value.int .i64 0, .int .i64 0, .int .i64 0, .bool false, .slice none 0 0] : Array Value).size := rfl
          have z3 : (#[Value.int .i64 0, .int .i64 0, .int .i64 0, .bool false, .slice none 0 0] : Array Value).all (·.oneCell') = true := by simp [Value.oneCell']
          have r9 : (w'.setRow rb #[.int .i64 0, .int .i64 0, .int .i64 0, .bool false, .slice none 0 0]).heap[rb]? = _ := setRow_heap _ _ _ _ _ _ r10
          have hB9 := below_setRow hB10 n2.2.1 #[.int .i64 0, .int .i64 0, .int .i64 0, .bool false, .slice none 0 0]
          have A9 : ArrS (w'.setRow rb #[.int .i64 0, .int .i64 0, .int .i64 0, .bool false, .slice none 0 0]) xb 78 xs := (setRow_other _ _ _ _ (by omega)).trans A10
          go_wp2_with (first | (refine wpList_value rfl (run_load131 rfl rfl h8) ?_) | refine wpList_store_row rfl 131 _ _ rfl rb _ rfl rfl 131 _ r10 z1 z2 z3 ?_)
          exact bodyPost_ret (v := .tuple #[.agg #[.int .i64 0, .int .i64 0, .int .i64 0, .bool false, .slice none 0 0], .bool false]) (results_two Try.results93 rfl (load131 r9) rfl) rfl ⟨xb, by rw [hres.out]; rfl, n2.1, A9, hB9⟩
    · have hgd : badB n last = true := by simpa using hcan
      rw [hgd]
      have hres : Hid (rdPiece xs = none) := by show _ = _; rw [hrd.out, if_neg (fun h => hcan h.1)]
      clear hgd q3 hrd
      have h8 := h6
      have z1 : (Try.prog.info? 131).map (·.size) = some (#[Value.int .i64 0, .int .i64 0, .int .i64 0, .bool false, .slice none 0 0] : Array Value).size := by kernel_rfl
      have z2 : (#[Value.int .i64 0, .int .i64 0, .int .i64 0, .bool false, .slice none 0 0] : Array Value).size = (#[Value.int .i64 0, .int .i64 0, .int .i64 0, .bool false, .slice none 0 0] : Array Value).size := rfl
      have z3 : (#[Value.int .i64 0, .int .i64 0, .int .i64 0, .bool false, .slice none 0 0] : Array Value).all (·.oneCell') = true := by simp [Value.oneCell']
      have r9 : (wc.setRow rb #[.int .i64 0, .int .i64 0, .int .i64 0, .bool false, .slice none 0 0]).heap[rb]? = _ := setRow_heap _ _ _ _ _ _ r6
      have hB9 := below_setRow hB6 n2.2.1 #[.int .i64 0, .int .i64 0, .int .i64 0, .bool false, .slice none 0 0]
      have A9 : ArrS (wc.setRow rb #[.int .i64 0, .int .i64 0, .int .i64 0, .bool false, .slice none 0 0]) xb 78 xs := (setRow_other _ _ _ _ (by omega)).trans A6
      go_wp2_with (first | (refine wpList_value rfl (run_load131 rfl rfl h8) ?_) | refine wpList_store_row rfl 131 _ _ rfl rb _ rfl rfl 131 _ r6 z1 z2 z3 ?_)
      exact bodyPost_ret (v := .tuple #[.agg #[.int .i64 0, .int .i64 0, .int .i64 0, .bool false, .slice none 0 0], .bool false]) (results_two Try.results93 rfl (load131 r9) rfl) rfl ⟨xb, by rw [hres.out]; rfl, n2.1, A9, hB9⟩
end Go.Proofs.Ytofgphiamllmdab
