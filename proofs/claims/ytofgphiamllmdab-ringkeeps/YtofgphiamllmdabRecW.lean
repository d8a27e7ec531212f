/- record.sectors. -/
import Derived.Test.YtofgphiamllmdabRecR
import Derived.Test.YtofgphiamllmdabRead
import Derived.Test.YtofgphiamllmdabLogR
namespace Go.Proofs.Ytofgphiamllmdab
open Go.RowKit
set_option maxRecDepth 100000

/-- The sectors of a record, one by one. -/
def recG (life seq : Int) (ys : List Int) (C : Nat) (i : Int) : List Int := pieceB life seq i (decide (i.toNat = C - 1)) ((ys.drop (112 * i.toNat)).take 112)
/-- A record's sectors. -/
def recB (life seq : Int) (ys : List Int) : List Int := catS (recG life seq ys ((ys.length + 111) / 112)) 0 ((ys.length + 111) / 112)
theorem recG_sec (life seq : Int) {ys : List Int} (hb : ∀ y ∈ ys, 0 ≤ y ∧ y < 256) (C : Nat) (i : Int) : IsSec (recG life seq ys C i) :=
  pieceB_sec _ _ _ _ (by rw [List.length_take]; omega) (fun y hy => hb y (List.mem_of_mem_drop (List.mem_of_mem_take hy)))
theorem run_slice38b {a : Act} {w : World} {o : Oper} {x y z : Operand} {gb off n c k E : Nat} (h1 : a.eval x = .slice (some ⟨gb, off, none⟩) n c) (h2 : a.eval y = .int .i64 (k : Int)) (h3 : a.eval z = .int .i64 (E : Int)) (ho : o.op = .slice 38 x (some y) (some z) none) (hk : k < E) (hE : E ≤ n) (hn : n ≤ c) : (execOp a.eval o).run Try.prog w = .ok (.value (.slice (some ⟨gb, off + k, none⟩) (E - k) (c - k))) w := by
  have e1 : (0 : Int) ≤ (k : Int) := by omega
  have e2 : (k : Int) ≤ (E : Int) := by omega
  have e3 : (E : Int) ≤ (c : Int) := by omega
  have e4 : ¬ c = k := by omega
  simp only [execOp, ho, Option.map_some, Option.map_none, h1, h2, h3]
  simp [go_sem, e1, e2, e3, e4]
set_option maxHeartbeats 8000000 in
theorem recSectors_any {w : World} {gb go n c : Nat} {ys : List Int} (life seq : Int) (hy : ys.length = n) (h0 : 0 < n) (h1 : n ≤ 60000) (hc : n ≤ c) (hgb : gb < w.heap.size) (hby : ∀ y ∈ ys, 0 ≤ y ∧ y < 256) (hys : ∀ i, i < n → w.cell? ⟨gb, go + i, none⟩ = some (.int .u8 (ys.getD i 0))) :
    Calls Try.prog 56 #[.agg #[.int .i64 life, .int .i64 seq, .slice (some ⟨gb, go, none⟩) n c]] w fun e w' => ∃ ob, e = .returned (.slice (some ⟨ob, 0, none⟩) ((n + 111) / 112 * 128) ((n + 111) / 112 * 128)) ∧ w.heap.size ≤ ob ∧ ArrS w' ob 5 (recB life seq ys) ∧ Below w.heap.size w w' := by
  have hsecs : secs (n : Int) = ((n + 111) / 112 : Nat) := by
    unfold secs
    rw [if_neg (by omega)]
    omega
  have hCn : 112 * ((n + 111) / 112 - 1) < n ∧ n ≤ 112 * ((n + 111) / 112) ∧ 0 < (n + 111) / 112 ∧ (n + 111) / 112 ≤ 600 := by omega
  unfold recB
  rw [hy]
  generalize (n + 111) / 112 = C at *
  obtain ⟨hC1, hC2, hC3, hC4⟩ := hCn
  obtain ⟨i0, hi, hz0, hz1, hz2⟩ := info_parts Try.info5
  have hG : ∀ k, IsSec (recG life seq ys C k) := fun k => recG_sec life seq hby C k
  have hwC : IntKind.i64.wrap ((C : Int) * 128) = ((C * 128 : Nat) : Int) := by rw [IntKind.wrap_i64]; omega
  have T0 := heap_alloc_new w (.cells #[.int .i64 life, .int .i64 seq, .slice (some ⟨gb, go, none⟩) n c] 91)
  have q2 : (w.alloc (.cells #[.int .i64 life, .int .i64 seq, .slice (some ⟨gb, go, none⟩) n c] 91)).cell? ⟨w.heap.size, 2, none⟩ = some (.slice (some ⟨gb, go, none⟩) n c) := by rw [cell_of_row _ _ _ _ _ _ T0]; rfl
  have B0 := box_below w (.cells #[.int .i64 life, .int .i64 seq, .slice (some ⟨gb, go, none⟩) n c] 91)
  go_enter Try.func56, Try.ntmps56
  go_wp2_with fail
  refine (sectors_any (n : Int) _).mono ?_
  rintro e w1 ⟨rfl, rfl⟩
  rw [hsecs]
  generalize w.alloc (.cells #[.int .i64 life, .int .i64 seq, .slice (some ⟨gb, go, none⟩) n c] 91) = w1 at *
  go_wp2_with (at_make; refine wpList_make_row _ rfl _ _ 38 rfl 5 i0 (.int .u8 0) Try.underlying38 hi hz0 hz1 rfl .i64 .i64 (C * 128) (by simp [Act.eval]) (by simp [Act.eval]) (by rw [hz2]; omega) (by omega) ?_)
  rw [made_zero]
  have T1 : (w1.alloc (.cells (cellsB (List.replicate (C * 128) 0)) 5)).heap[w.heap.size]? = some (recO life seq (.slice (some ⟨gb, go, none⟩) n c)) := (Below.heap_alloc _ _ _ (lt_of_block T0)).trans T0
  have A1 : ArrS (w1.alloc (.cells (cellsB (List.replicate (C * 128) 0)) 5)) w1.heap.size 5 (List.replicate (C * 128) 0) := heap_alloc_new w1 _
  have B1 := below_size B0 (Nat.le_refl _) (box_below w1 (.cells (cellsB (List.replicate (C * 128) 0)) 5))
  have s1 : w.heap.size < w1.heap.size := lt_of_block T0
  generalize w1.alloc (.cells (cellsB (List.replicate (C * 128) 0)) 5) = w2 at *
  obtain ⟨ob, hob⟩ : ∃ b, w1.heap.size = b := ⟨_, rfl⟩
  rw [hob] at A1 s1 ⊢
  clear hob
  obtain ⟨tb, htb⟩ : ∃ b, w.heap.size = b := ⟨_, rfl⟩
  have ht1 : tb ≤ w.heap.size := by omega
  have ht2 : w.heap.size ≤ tb := by omega
  rw [htb] at T1 s1 B1 hgb ⊢
  clear T0 q2 B0 htb
  go_loopw [17] (fun i wr => ∃ j : Nat, j ≤ C ∧ i = .int .i64 (j : Int) ∧ Below tb w wr ∧ wr.heap[tb]? = some (recO life seq (.slice (some ⟨gb, go, none⟩) n c)) ∧ wr.heap[ob]? = some (.cells (cellsB (catS (recG life seq ys C) 0 j ++ List.replicate ((C - j) * 128) 0)) 5 (0, 0))) (fun i _ => C - (intOf i).toNat)
  case atStart => exact ⟨0, by omega, rfl, B1, T1, by simpa [catS, ArrS] using A1⟩
  case round =>
    obtain ⟨j, hj, rfl, B, hT, A⟩ := hrel
    clear T1 A1 B1
    by_cases hjC : j = C
    · subst hjC
      have hlt : ¬ (j : Int) < (j : Int) := by omega
      go_wp2
      go_ret
      exact ⟨ob, rfl, by omega, by simpa [ArrS] using A, B.mono ht2⟩
    · have hlt : (j : Int) < (C : Int) := by omega
      have hw1 : IntKind.i64.wrap ((j : Int) + 1) = (j : Int) + 1 := by rw [IntKind.wrap_i64]; omega
      have hw112 : IntKind.i64.wrap ((j : Int) * 112) = (j : Int) * 112 := by rw [IntKind.wrap_i64]; omega
      have hwE : IntKind.i64.wrap (((j : Int) + 1) * 112) = ((j : Int) + 1) * 112 := by rw [IntKind.wrap_i64]; omega
      have hwD : IntKind.i64.wrap ((C : Int) - 1) = (C : Int) - 1 := by rw [IntKind.wrap_i64]; omega
      have q2 : wr.cell? ⟨tb, 2, none⟩ = some (.slice (some ⟨gb, go, none⟩) n c) := by rw [cell_of_row _ tb _ _ _ _ hT]; rfl
      have hwr : tb ≤ wr.heap.size := by have := B.size; omega
      have hdl : Hid (((j : Int) == (C : Int) - 1) = decide (j = C - 1)) := by
        show _ = _
        by_cases h : j = C - 1
        · rw [decide_eq_true h]; simp; omega
        · rw [decide_eq_false h]; simp; omega
      obtain ⟨E, hE⟩ : ∃ E : Nat, Hid ((if j = C - 1 then n else (j + 1) * 112) = E) := ⟨_, rfl⟩
      have hE1 : j * 112 < E := by have := hE.out; split at this <;> omega
      have hE2 : E ≤ n := by have := hE.out; split at this <;> omega
      have hE4 : E - j * 112 ≤ 112 := by have := hE.out; split at this <;> omega
      have hE5 : j ≠ C - 1 → E = (j + 1) * 112 := by have := hE.out; intro h; rw [if_neg h] at this; exact this.symm
      have hE6 : j = C - 1 → E = n := by have := hE.out; intro h; rw [if_pos h] at this; exact this.symm
      have hE3 : n ≤ c := hc
      go_upto_if 27 with fail
      rw [hdl.out]
      clear hdl
      go_cut [6, 7] from 18 to 51 (fun v6 v7 wx => v6 = .bool (decide (j = C - 1)) ∧ v7 = .int .i64 (E : Int) ∧ wx = wr)
      case first =>
        by_cases hl : j = C - 1
        · rw [decide_eq_true hl]
          have he := hE6 hl
          go_wp2
          go_meet
          case rel => exact ⟨by rw [decide_eq_true hl], by rw [he], rfl⟩
        · rw [decide_eq_false hl]
          have he : ((j : Int) + 1) * 112 = (E : Int) := by rw [hE5 hl]; push_cast; rfl
          go_wp2
          go_meet
          case rel => exact ⟨by rw [decide_eq_false hl], by rw [he], rfl⟩
      case rest =>
        obtain ⟨rfl, rfl, rfl⟩ := hcut
        have hyl : ((ys.drop (112 * j)).take 112).length = E - j * 112 := by
          rw [List.length_take, List.length_drop, hy]
          by_cases hl : j = C - 1
          · rw [hE6 hl]; omega
          · rw [hE5 hl]; omega
        have hcell : ∀ i, i < E - j * 112 → wc.cell? ⟨gb, go + j * 112 + i, none⟩ = some (.int .u8 (((ys.drop (112 * j)).take 112).getD i 0)) := by
          intro i hi
          have h2 : j * 112 + i < n := by omega
          rw [(B.cell (p := ⟨gb, go + j * 112 + i, none⟩) (by omega)), Nat.add_assoc, hys _ h2]
          rw [List.getD_eq_getElem?_getD, List.getD_eq_getElem?_getD, List.getElem?_take_of_lt (by omega), List.getElem?_drop, Nat.mul_comm]
        have hGj : pieceB life seq (j : Int) (decide (j = C - 1)) ((ys.drop (112 * j)).take 112) = recG life seq ys C (j : Int) := by
          unfold recG
          rw [Int.toNat_natCast]
        have hGS := hG (j : Int)
        go_upto_region 10 with fail
        go_cut [8] from 18 to 51 (fun v8 wx => ∃ nb, v8 = .pointer (some ⟨nb, 0, none⟩) ∧ Below wc.heap.size wc wx ∧ wc.heap.size ≤ nb ∧ ArrS wx nb 78 (recG life seq ys C (j : Int)))
        case first =>
          refine wp_region_inv' (fun A D a w' => ∃ v31 v32 v33 v34 v35 v36 v37 v38 v39 v40 v41 v42 v43 v44 v8 nb, a = (((((((((((((((A.put (some 31) v31).put (some 32) v32).put (some 33) v33).put (some 34) v34).put (some 35) v35).put (some 36) v36).put (some 37) v37).put (some 38) v38).put (some 39) v39).put (some 40) v40).put (some 41) v41).put (some 42) v42).put (some 43) v43).put (some 44) v44).put (some 8) v8) ∧ Below wc.heap.size wc w' ∧ (D 0 → v31 = .pointer (some ⟨tb, 0, none⟩)) ∧ (D 1 → v32 = .int .i64 life) ∧ (D 2 → v33 = .pointer (some ⟨tb, 1, none⟩)) ∧ (D 3 → v34 = .int .i64 seq) ∧ (D 4 → v35 = .int .i64 (j : Int)) ∧ (D 5 → v36 = .bool (decide (j = C - 1))) ∧ (D 6 → v37 = .pointer (some ⟨tb, 2, none⟩)) ∧ (D 7 → v38 = .slice (some ⟨gb, go, none⟩) n c) ∧ (D 8 → v39 = .int .i64 (j : Int)) ∧ (D 9 → v40 = .int .i64 ((j : Int) * 112)) ∧ (D 10 → v41 = .int .i64 (E : Int)) ∧ (D 11 → v42 = .slice (some ⟨gb, go + j * 112, none⟩) (E - j * 112) (c - j * 112)) ∧ (D 12 → v43 = .agg #[.int .i64 life, .int .i64 seq, .int .i64 (j : Int), .bool (decide (j = C - 1)), .slice (some ⟨gb, go + j * 112, none⟩) (E - j * 112) (c - j * 112)]) ∧ (D 13 → v44 = .agg (cellsB (recG life seq ys C (j : Int)))) ∧ (D 14 → v8 = .pointer (some ⟨nb, 0, none⟩)) ∧ (D 14 → wc.heap.size ≤ nb) ∧ (D 15 → ArrS w' nb 78 (recG life seq ys C (j : Int))) ∧ (D 14 → ¬ D 15 → w'.heap[nb]? = some (.cells Try.zeroCells78 78 (0, 0)))) (by kernel_rfl) (by kernel_rfl) ?mono ?start ?step ?done
          case mono =>
            rintro D D' a w' hD ⟨v31, v32, v33, v34, v35, v36, v37, v38, v39, v40, v41, v42, v43, v44, v8, nb, ha, hB, e0, e1, e2, e3, e4, e5, e6, e7, e8, e9, e10, e11, e12, e13, e14, hnb, hr, hnz⟩
            exact ⟨v31, v32, v33, v34, v35, v36, v37, v38, v39, v40, v41, v42, v43, v44, v8, nb, ha, hB, fun h => e0 ((hD 0).2 h), fun h => e1 ((hD 1).2 h), fun h => e2 ((hD 2).2 h), fun h => e3 ((hD 3).2 h), fun h => e4 ((hD 4).2 h), fun h => e5 ((hD 5).2 h), fun h => e6 ((hD 6).2 h), fun h => e7 ((hD 7).2 h), fun h => e8 ((hD 8).2 h), fun h => e9 ((hD 9).2 h), fun h => e10 ((hD 10).2 h), fun h => e11 ((hD 11).2 h), fun h => e12 ((hD 12).2 h), fun h => e13 ((hD 13).2 h), fun h => e14 ((hD 14).2 h), fun h => hnb ((hD 14).2 h), fun h => hr ((hD 15).2 h), fun h h' => hnz ((hD 14).2 h) (fun k => h' ((hD 15).1 k))⟩
          case start => exact ⟨u31, u32, u33, u34, u35, u36, u37, u38, u39, u40, u41, u42, u43, u44, u8, 0, by kernel_rfl, (Below.refl _ _).drew, fun h => h.elim, fun h => h.elim, fun h => h.elim, fun h => h.elim, fun h => h.elim, fun h => h.elim, fun h => h.elim, fun h => h.elim, fun h => h.elim, fun h => h.elim, fun h => h.elim, fun h => h.elim, fun h => h.elim, fun h => h.elim, fun h => h.elim, fun h => h.elim, fun h => h.elim, fun h _ => h.elim⟩
          case step =>
            intro i o ho D a w' hI hn hcl hd
            obtain ⟨v31, v32, v33, v34, v35, v36, v37, v38, v39, v40, v41, v42, v43, v44, v8, nb, ha, hB, e0, e1, e2, e3, e4, e5, e6, e7, e8, e9, e10, e11, e12, e13, e14, hnb, hr, hnz⟩ := hI
            match i, ho with
            | 0, ho =>
              cases Option.some.inj ho
              have ev : a.tmps[1]?.getD undef = .pointer (some ⟨tb, 0, none⟩) := by rw [ha]; kernel_rfl
              refine wp_value (w' := w') (v := .pointer (some ⟨tb, 0, none⟩)) (by simp [execOp, ev, go_sem]) ?_
              exact ⟨(.pointer (some ⟨tb, 0, none⟩)), v32, v33, v34, v35, v36, v37, v38, v39, v40, v41, v42, v43, v44, v8, nb, by rw [ha]; kernel_rfl, hB, fun _ => rfl, fun h => e1 (h.resolve_left (by decide)), fun h => e2 (h.resolve_left (by decide)), fun h => e3 (h.resolve_left (by decide)), fun h => e4 (h.resolve_left (by decide)), fun h => e5 (h.resolve_left (by decide)), fun h => e6 (h.resolve_left (by decide)), fun h => e7 (h.resolve_left (by decide)), fun h => e8 (h.resolve_left (by decide)), fun h => e9 (h.resolve_left (by decide)), fun h => e10 (h.resolve_left (by decide)), fun h => e11 (h.resolve_left (by decide)), fun h => e12 (h.resolve_left (by decide)), fun h => e13 (h.resolve_left (by decide)), fun h => e14 (h.resolve_left (by decide)), fun h => hnb (h.resolve_left (by decide)), fun h => hr (h.resolve_left (by decide)), fun h h' => hnz (h.resolve_left (by decide)) (fun k => h' (.inr k))⟩
            | 1, ho =>
              cases Option.some.inj ho
              have ev : a.tmps[31]?.getD undef = .pointer (some ⟨tb, 0, none⟩) := by rw [ha, e0 (hd ⟨0, .data⟩ (by simp) rfl)]; kernel_rfl
              have hc : w'.cell? ⟨tb, 0, none⟩ = some (.int .i64 life) := by rw [cell_of_row _ tb _ _ _ _ ((hB.block tb (lt_of_block hT)).trans hT)]; rfl
              refine wp_value (w' := w') (v := .int .i64 life) (by simp [execOp, ev, go_sem, hc]) ?_
              exact ⟨v31, (.int .i64 life), v33, v34, v35, v36, v37, v38, v39, v40, v41, v42, v43, v44, v8, nb, by rw [ha]; kernel_rfl, hB, fun h => e0 (h.resolve_left (by decide)), fun _ => rfl, fun h => e2 (h.resolve_left (by decide)), fun h => e3 (h.resolve_left (by decide)), fun h => e4 (h.resolve_left (by decide)), fun h => e5 (h.resolve_left (by decide)), fun h => e6 (h.resolve_left (by decide)), fun h => e7 (h.resolve_left (by decide)), fun h => e8 (h.resolve_left (by decide)), fun h => e9 (h.resolve_left (by decide)), fun h => e10 (h.resolve_left (by decide)), fun h => e11 (h.resolve_left (by decide)), fun h => e12 (h.resolve_left (by decide)), fun h => e13 (h.resolve_left (by decide)), fun h => e14 (h.resolve_left (by decide)), fun h => hnb (h.resolve_left (by decide)), fun h => hr (h.resolve_left (by decide)), fun h h' => hnz (h.resolve_left (by decide)) (fun k => h' (.inr k))⟩
            | 2, ho =>
              cases Option.some.inj ho
              have ev : a.tmps[1]?.getD undef = .pointer (some ⟨tb, 0, none⟩) := by rw [ha]; kernel_rfl
              refine wp_value (w' := w') (v := .pointer (some ⟨tb, 1, none⟩)) (by simp [execOp, ev, go_sem]) ?_
              exact ⟨v31, v32, (.pointer (some ⟨tb, 1, none⟩)), v34, v35, v36, v37, v38, v39, v40, v41, v42, v43, v44, v8, nb, by rw [ha]; kernel_rfl, hB, fun h => e0 (h.resolve_left (by decide)), fun h => e1 (h.resolve_left (by decide)), fun _ => rfl, fun h => e3 (h.resolve_left (by decide)), fun h => e4 (h.resolve_left (by decide)), fun h => e5 (h.resolve_left (by decide)), fun h => e6 (h.resolve_left (by decide)), fun h => e7 (h.resolve_left (by decide)), fun h => e8 (h.resolve_left (by decide)), fun h => e9 (h.resolve_left (by decide)), fun h => e10 (h.resolve_left (by decide)), fun h => e11 (h.resolve_left (by decide)), fun h => e12 (h.resolve_left (by decide)), fun h => e13 (h.resolve_left (by decide)), fun h => e14 (h.resolve_left (by decide)), fun h => hnb (h.resolve_left (by decide)), fun h => hr (h.resolve_left (by decide)), fun h h' => hnz (h.resolve_left (by decide)) (fun k => h' (.inr k))⟩
            | 3, ho =>
              cases Option.some.inj ho
              have ev : a.tmps[33]?.getD undef = .pointer (some ⟨tb, 1, none⟩) := by rw [ha, e2 (hd ⟨2, .data⟩ (by simp) rfl)]; kernel_rfl
              have hc : w'.cell? ⟨tb, 1, none⟩ = some (.int .i64 seq) := by rw [cell_of_row _ tb _ _ _ _ ((hB.block tb (lt_of_block hT)).trans hT)]; rfl
              refine wp_value (w' := w') (v := .int .i64 seq) (by simp [execOp, ev, go_sem, hc]) ?_
              exact ⟨v31, v32, v33, (.int .i64 seq), v35, v36, v37, v38, v39, v40, v41, v42, v43, v44, v8, nb, by rw [ha]; kernel_rfl, hB, fun h => e0 (h.resolve_left (by decide)), fun h => e1 (h.resolve_left (by decide)), fun h => e2 (h.resolve_left (by decide)), fun _ => rfl, fun h => e4 (h.resolve_left (by decide)), fun h => e5 (h.resolve_left (by decide)), fun h => e6 (h.resolve_left (by decide)), fun h => e7 (h.resolve_left (by decide)), fun h => e8 (h.resolve_left (by decide)), fun h => e9 (h.resolve_left (by decide)), fun h => e10 (h.resolve_left (by decide)), fun h => e11 (h.resolve_left (by decide)), fun h => e12 (h.resolve_left (by decide)), fun h => e13 (h.resolve_left (by decide)), fun h => e14 (h.resolve_left (by decide)), fun h => hnb (h.resolve_left (by decide)), fun h => hr (h.resolve_left (by decide)), fun h h' => hnz (h.resolve_left (by decide)) (fun k => h' (.inr k))⟩
            | 4, ho =>
              cases Option.some.inj ho
              have ev : a.tmps[5]?.getD undef = .int .i64 (j : Int) := by rw [ha]; kernel_rfl
              refine wp_value (w' := w') (v := .int .i64 (j : Int)) (by simp [execOp, ev, go_sem]) ?_
              exact ⟨v31, v32, v33, v34, (.int .i64 (j : Int)), v36, v37, v38, v39, v40, v41, v42, v43, v44, v8, nb, by rw [ha]; kernel_rfl, hB, fun h => e0 (h.resolve_left (by decide)), fun h => e1 (h.resolve_left (by decide)), fun h => e2 (h.resolve_left (by decide)), fun h => e3 (h.resolve_left (by decide)), fun _ => rfl, fun h => e5 (h.resolve_left (by decide)), fun h => e6 (h.resolve_left (by decide)), fun h => e7 (h.resolve_left (by decide)), fun h => e8 (h.resolve_left (by decide)), fun h => e9 (h.resolve_left (by decide)), fun h => e10 (h.resolve_left (by decide)), fun h => e11 (h.resolve_left (by decide)), fun h => e12 (h.resolve_left (by decide)), fun h => e13 (h.resolve_left (by decide)), fun h => e14 (h.resolve_left (by decide)), fun h => hnb (h.resolve_left (by decide)), fun h => hr (h.resolve_left (by decide)), fun h h' => hnz (h.resolve_left (by decide)) (fun k => h' (.inr k))⟩
            | 5, ho =>
              cases Option.some.inj ho
              have ev : a.tmps[6]?.getD undef = .bool (decide (j = C - 1)) := by rw [ha]; kernel_rfl
              refine wp_value (w' := w') (v := .bool (decide (j = C - 1))) (by simp [execOp, ev, go_sem]) ?_
              exact ⟨v31, v32, v33, v34, v35, (.bool (decide (j = C - 1))), v37, v38, v39, v40, v41, v42, v43, v44, v8, nb, by rw [ha]; kernel_rfl, hB, fun h => e0 (h.resolve_left (by decide)), fun h => e1 (h.resolve_left (by decide)), fun h => e2 (h.resolve_left (by decide)), fun h => e3 (h.resolve_left (by decide)), fun h => e4 (h.resolve_left (by decide)), fun _ => rfl, fun h => e6 (h.resolve_left (by decide)), fun h => e7 (h.resolve_left (by decide)), fun h => e8 (h.resolve_left (by decide)), fun h => e9 (h.resolve_left (by decide)), fun h => e10 (h.resolve_left (by decide)), fun h => e11 (h.resolve_left (by decide)), fun h => e12 (h.resolve_left (by decide)), fun h => e13 (h.resolve_left (by decide)), fun h => e14 (h.resolve_left (by decide)), fun h => hnb (h.resolve_left (by decide)), fun h => hr (h.resolve_left (by decide)), fun h h' => hnz (h.resolve_left (by decide)) (fun k => h' (.inr k))⟩
            | 6, ho =>
              cases Option.some.inj ho
              have ev : a.tmps[1]?.getD undef = .pointer (some ⟨tb, 0, none⟩) := by rw [ha]; kernel_rfl
              refine wp_value (w' := w') (v := .pointer (some ⟨tb, 2, none⟩)) (by simp [execOp, ev, go_sem]) ?_
              exact ⟨v31, v32, v33, v34, v35, v36, (.pointer (some ⟨tb, 2, none⟩)), v38, v39, v40, v41, v42, v43, v44, v8, nb, by rw [ha]; kernel_rfl, hB, fun h => e0 (h.resolve_left (by decide)), fun h => e1 (h.resolve_left (by decide)), fun h => e2 (h.resolve_left (by decide)), fun h => e3 (h.resolve_left (by decide)), fun h => e4 (h.resolve_left (by decide)), fun h => e5 (h.resolve_left (by decide)), fun _ => rfl, fun h => e7 (h.resolve_left (by decide)), fun h => e8 (h.resolve_left (by decide)), fun h => e9 (h.resolve_left (by decide)), fun h => e10 (h.resolve_left (by decide)), fun h => e11 (h.resolve_left (by decide)), fun h => e12 (h.resolve_left (by decide)), fun h => e13 (h.resolve_left (by decide)), fun h => e14 (h.resolve_left (by decide)), fun h => hnb (h.resolve_left (by decide)), fun h => hr (h.resolve_left (by decide)), fun h h' => hnz (h.resolve_left (by decide)) (fun k => h' (.inr k))⟩
            | 7, ho =>
              cases Option.some.inj ho
              have ev : a.tmps[37]?.getD undef = .pointer (some ⟨tb, 2, none⟩) := by rw [ha, e6 (hd ⟨6, .data⟩ (by simp) rfl)]; kernel_rfl
              have hc : w'.cell? ⟨tb, 2, none⟩ = some (.slice (some ⟨gb, go, none⟩) n c) := by rw [cell_of_row _ tb _ _ _ _ ((hB.block tb (lt_of_block hT)).trans hT)]; rfl
              refine wp_value (w' := w') (v := .slice (some ⟨gb, go, none⟩) n c) (by simp [execOp, ev, go_sem, hc]) ?_
              exact ⟨v31, v32, v33, v34, v35, v36, v37, (.slice (some ⟨gb, go, none⟩) n c), v39, v40, v41, v42, v43, v44, v8, nb, by rw [ha]; kernel_rfl, hB, fun h => e0 (h.resolve_left (by decide)), fun h => e1 (h.resolve_left (by decide)), fun h => e2 (h.resolve_left (by decide)), fun h => e3 (h.resolve_left (by decide)), fun h => e4 (h.resolve_left (by decide)), fun h => e5 (h.resolve_left (by decide)), fun h => e6 (h.resolve_left (by decide)), fun _ => rfl, fun h => e8 (h.resolve_left (by decide)), fun h => e9 (h.resolve_left (by decide)), fun h => e10 (h.resolve_left (by decide)), fun h => e11 (h.resolve_left (by decide)), fun h => e12 (h.resolve_left (by decide)), fun h => e13 (h.resolve_left (by decide)), fun h => e14 (h.resolve_left (by decide)), fun h => hnb (h.resolve_left (by decide)), fun h => hr (h.resolve_left (by decide)), fun h h' => hnz (h.resolve_left (by decide)) (fun k => h' (.inr k))⟩
            | 8, ho =>
              cases Option.some.inj ho
              have ev : a.tmps[5]?.getD undef = .int .i64 (j : Int) := by rw [ha]; kernel_rfl
              refine wp_value (w' := w') (v := .int .i64 (j : Int)) (by simp [execOp, ev, go_sem]) ?_
              exact ⟨v31, v32, v33, v34, v35, v36, v37, v38, (.int .i64 (j : Int)), v40, v41, v42, v43, v44, v8, nb, by rw [ha]; kernel_rfl, hB, fun h => e0 (h.resolve_left (by decide)), fun h => e1 (h.resolve_left (by decide)), fun h => e2 (h.resolve_left (by decide)), fun h => e3 (h.resolve_left (by decide)), fun h => e4 (h.resolve_left (by decide)), fun h => e5 (h.resolve_left (by decide)), fun h => e6 (h.resolve_left (by decide)), fun h => e7 (h.resolve_left (by decide)), fun _ => rfl, fun h => e9 (h.resolve_left (by decide)), fun h => e10 (h.resolve_left (by decide)), fun h => e11 (h.resolve_left (by decide)), fun h => e12 (h.resolve_left (by decide)), fun h => e13 (h.resolve_left (by decide)), fun h => e14 (h.resolve_left (by decide)), fun h => hnb (h.resolve_left (by decide)), fun h => hr (h.resolve_left (by decide)), fun h h' => hnz (h.resolve_left (by decide)) (fun k => h' (.inr k))⟩
            | 9, ho =>
              cases Option.some.inj ho
              have ev : a.tmps[39]?.getD undef = .int .i64 (j : Int) := by rw [ha, e8 (hd ⟨8, .data⟩ (by simp) rfl)]; kernel_rfl
              refine wp_value (w' := w') (v := .int .i64 ((j : Int) * 112)) (by simp [execOp, ev, go_sem, hw112]) ?_
              exact ⟨v31, v32, v33, v34, v35, v36, v37, v38, v39, (.int .i64 ((j : Int) * 112)), v41, v42, v43, v44, v8, nb, by rw [ha]; kernel_rfl, hB, fun h => e0 (h.resolve_left (by decide)), fun h => e1 (h.resolve_left (by decide)), fun h => e2 (h.resolve_left (by decide)), fun h => e3 (h.resolve_left (by decide)), fun h => e4 (h.resolve_left (by decide)), fun h => e5 (h.resolve_left (by decide)), fun h => e6 (h.resolve_left (by decide)), fun h => e7 (h.resolve_left (by decide)), fun h => e8 (h.resolve_left (by decide)), fun _ => rfl, fun h => e10 (h.resolve_left (by decide)), fun h => e11 (h.resolve_left (by decide)), fun h => e12 (h.resolve_left (by decide)), fun h => e13 (h.resolve_left (by decide)), fun h => e14 (h.resolve_left (by decide)), fun h => hnb (h.resolve_left (by decide)), fun h => hr (h.resolve_left (by decide)), fun h h' => hnz (h.resolve_left (by decide)) (fun k => h' (.inr k))⟩
            | 10, ho =>
              cases Option.some.inj ho
              have ev : a.tmps[7]?.getD undef = .int .i64 (E : Int) := by rw [ha]; kernel_rfl
              refine wp_value (w' := w') (v := .int .i64 (E : Int)) (by simp [execOp, ev, go_sem]) ?_
              exact ⟨v31, v32, v33, v34, v35, v36, v37, v38, v39, v40, (.int .i64 (E : Int)), v42, v43, v44, v8, nb, by rw [ha]; kernel_rfl, hB, fun h => e0 (h.resolve_left (by decide)), fun h => e1 (h.resolve_left (by decide)), fun h => e2 (h.resolve_left (by decide)), fun h => e3 (h.resolve_left (by decide)), fun h => e4 (h.resolve_left (by decide)), fun h => e5 (h.resolve_left (by decide)), fun h => e6 (h.resolve_left (by decide)), fun h => e7 (h.resolve_left (by decide)), fun h => e8 (h.resolve_left (by decide)), fun h => e9 (h.resolve_left (by decide)), fun _ => rfl, fun h => e11 (h.resolve_left (by decide)), fun h => e12 (h.resolve_left (by decide)), fun h => e13 (h.resolve_left (by decide)), fun h => e14 (h.resolve_left (by decide)), fun h => hnb (h.resolve_left (by decide)), fun h => hr (h.resolve_left (by decide)), fun h h' => hnz (h.resolve_left (by decide)) (fun k => h' (.inr k))⟩
            | 11, ho =>
              cases Option.some.inj ho
              have ev : a.tmps[38]?.getD undef = .slice (some ⟨gb, go, none⟩) n c := by rw [ha, e7 (hd ⟨7, .data⟩ (by simp) rfl)]; kernel_rfl
              have ev' : a.tmps[40]?.getD undef = .int .i64 ((j : Int) * 112) := by rw [ha, e9 (hd ⟨9, .data⟩ (by simp) rfl)]; kernel_rfl
              have ev'' : a.tmps[41]?.getD undef = .int .i64 (E : Int) := by rw [ha, e10 (hd ⟨10, .data⟩ (by simp) rfl)]; kernel_rfl
              refine wp_value (w' := w') (v := .slice (some ⟨gb, go + j * 112, none⟩) (E - j * 112) (c - j * 112)) (run_slice38b (k := j * 112) (E := E) (eval_of ev) (by rw [eval_of ev']; push_cast; rfl) (eval_of ev'') rfl hE1 hE2 hE3) ?_
              exact ⟨v31, v32, v33, v34, v35, v36, v37, v38, v39, v40, v41, (.slice (some ⟨gb, go + j * 112, none⟩) (E - j * 112) (c - j * 112)), v43, v44, v8, nb, by rw [ha]; kernel_rfl, hB, fun h => e0 (h.resolve_left (by decide)), fun h => e1 (h.resolve_left (by decide)), fun h => e2 (h.resolve_left (by decide)), fun h => e3 (h.resolve_left (by decide)), fun h => e4 (h.resolve_left (by decide)), fun h => e5 (h.resolve_left (by decide)), fun h => e6 (h.resolve_left (by decide)), fun h => e7 (h.resolve_left (by decide)), fun h => e8 (h.resolve_left (by decide)), fun h => e9 (h.resolve_left (by decide)), fun h => e10 (h.resolve_left (by decide)), fun _ => rfl, fun h => e12 (h.resolve_left (by decide)), fun h => e13 (h.resolve_left (by decide)), fun h => e14 (h.resolve_left (by decide)), fun h => hnb (h.resolve_left (by decide)), fun h => hr (h.resolve_left (by decide)), fun h h' => hnz (h.resolve_left (by decide)) (fun k => h' (.inr k))⟩
            | 12, ho =>
              cases Option.some.inj ho
              have ev : a.tmps[32]?.getD undef = .int .i64 life := by rw [ha, e1 (hd ⟨1, .data⟩ (by simp) rfl)]; kernel_rfl
              have ev' : a.tmps[34]?.getD undef = .int .i64 seq := by rw [ha, e3 (hd ⟨3, .data⟩ (by simp) rfl)]; kernel_rfl
              have ev'' : a.tmps[35]?.getD undef = .int .i64 (j : Int) := by rw [ha, e4 (hd ⟨4, .data⟩ (by simp) rfl)]; kernel_rfl
              have ev''' : a.tmps[36]?.getD undef = .bool (decide (j = C - 1)) := by rw [ha, e5 (hd ⟨5, .data⟩ (by simp) rfl)]; kernel_rfl
              have ev'''' : a.tmps[42]?.getD undef = .slice (some ⟨gb, go + j * 112, none⟩) (E - j * 112) (c - j * 112) := by rw [ha, e11 (hd ⟨11, .data⟩ (by simp) rfl)]; kernel_rfl
              refine wp_value (w' := w') (v := .agg #[.int .i64 life, .int .i64 seq, .int .i64 (j : Int), .bool (decide (j = C - 1)), .slice (some ⟨gb, go + j * 112, none⟩) (E - j * 112) (c - j * 112)]) (by simp [execOp, ev, ev', ev'', ev''', ev'''', go_sem]) ?_
              exact ⟨v31, v32, v33, v34, v35, v36, v37, v38, v39, v40, v41, v42, (.agg #[.int .i64 life, .int .i64 seq, .int .i64 (j : Int), .bool (decide (j = C - 1)), .slice (some ⟨gb, go + j * 112, none⟩) (E - j * 112) (c - j * 112)]), v44, v8, nb, by rw [ha]; kernel_rfl, hB, fun h => e0 (h.resolve_left (by decide)), fun h => e1 (h.resolve_left (by decide)), fun h => e2 (h.resolve_left (by decide)), fun h => e3 (h.resolve_left (by decide)), fun h => e4 (h.resolve_left (by decide)), fun h => e5 (h.resolve_left (by decide)), fun h => e6 (h.resolve_left (by decide)), fun h => e7 (h.resolve_left (by decide)), fun h => e8 (h.resolve_left (by decide)), fun h => e9 (h.resolve_left (by decide)), fun h => e10 (h.resolve_left (by decide)), fun h => e11 (h.resolve_left (by decide)), fun _ => rfl, fun h => e13 (h.resolve_left (by decide)), fun h => e14 (h.resolve_left (by decide)), fun h => hnb (h.resolve_left (by decide)), fun h => hr (h.resolve_left (by decide)), fun h h' => hnz (h.resolve_left (by decide)) (fun k => h' (.inr k))⟩
            | 13, ho =>
              cases Option.some.inj ho
              have ev : a.tmps[43]?.getD undef = .agg #[.int .i64 life, .int .i64 seq, .int .i64 (j : Int), .bool (decide (j = C - 1)), .slice (some ⟨gb, go + j * 112, none⟩) (E - j * 112) (c - j * 112)] := by rw [ha, e12 (hd ⟨12, .data⟩ (by simp) rfl)]; kernel_rfl
              refine wp_enter (f := 84) (args := #[.agg #[.int .i64 life, .int .i64 seq, .int .i64 (j : Int), .bool (decide (j = C - 1)), .slice (some ⟨gb, go + j * 112, none⟩) (E - j * 112) (c - j * 112)]]) (by simp [execOp, ev, go_sem]) ?_
              refine (piece_sector w' life seq (j : Int) (decide (j = C - 1)) gb (go + j * 112) (E - j * 112) (c - j * 112) ((ys.drop (112 * j)).take 112) hyl hE4 (Nat.lt_of_lt_of_le (Nat.lt_of_lt_of_le hgb hwr) hB.size) (fun i hi => (hB.cell (p := ⟨gb, go + j * 112 + i, none⟩) (Nat.lt_of_lt_of_le hgb hwr)).trans (hcell i hi))).mono ?_
              rintro e w6 ⟨rfl, HB⟩
              refine ⟨_, rfl, ?_⟩
              rw [hGj]
              exact ⟨v31, v32, v33, v34, v35, v36, v37, v38, v39, v40, v41, v42, v43, (.agg (cellsB (recG life seq ys C (j : Int)))), v8, nb, by rw [ha]; kernel_rfl, below_size hB (Nat.le_refl _) HB, fun h => e0 (h.resolve_left (by decide)), fun h => e1 (h.resolve_left (by decide)), fun h => e2 (h.resolve_left (by decide)), fun h => e3 (h.resolve_left (by decide)), fun h => e4 (h.resolve_left (by decide)), fun h => e5 (h.resolve_left (by decide)), fun h => e6 (h.resolve_left (by decide)), fun h => e7 (h.resolve_left (by decide)), fun h => e8 (h.resolve_left (by decide)), fun h => e9 (h.resolve_left (by decide)), fun h => e10 (h.resolve_left (by decide)), fun h => e11 (h.resolve_left (by decide)), fun h => e12 (h.resolve_left (by decide)), fun _ => rfl, fun h => e14 (h.resolve_left (by decide)), fun h => hnb (h.resolve_left (by decide)), fun h => absurd (h.resolve_left (by decide)) (fun h => hn (hcl 15 _ rfl h ⟨13, .data⟩ (by simp) rfl)), fun h h' => (HB.block _ (lt_of_block (hnz (h.resolve_left (by decide)) (fun k => h' (.inr k))))).trans (hnz (h.resolve_left (by decide)) (fun k => h' (.inr k)))⟩
            | 14, ho =>
              cases Option.some.inj ho
              refine wp_value (w' := w'.alloc (.cells Try.zeroCells78 78)) (v := .pointer (some ⟨w'.heap.size, 0, none⟩)) (by simp [execOp, go_sem]) ?_
              exact ⟨v31, v32, v33, v34, v35, v36, v37, v38, v39, v40, v41, v42, v43, v44, (.pointer (some ⟨w'.heap.size, 0, none⟩)), w'.heap.size, by rw [ha]; kernel_rfl, hB.alloc hB.size _, fun h => e0 (h.resolve_left (by decide)), fun h => e1 (h.resolve_left (by decide)), fun h => e2 (h.resolve_left (by decide)), fun h => e3 (h.resolve_left (by decide)), fun h => e4 (h.resolve_left (by decide)), fun h => e5 (h.resolve_left (by decide)), fun h => e6 (h.resolve_left (by decide)), fun h => e7 (h.resolve_left (by decide)), fun h => e8 (h.resolve_left (by decide)), fun h => e9 (h.resolve_left (by decide)), fun h => e10 (h.resolve_left (by decide)), fun h => e11 (h.resolve_left (by decide)), fun h => e12 (h.resolve_left (by decide)), fun h => e13 (h.resolve_left (by decide)), fun _ => rfl, fun _ => hB.size, fun h => absurd (h.resolve_left (by decide)) (fun h => hn (hcl 15 _ rfl h ⟨14, .data⟩ (by simp) rfl)), fun _ _ => heap_alloc_new _ _⟩
            | 15, ho =>
              cases Option.some.inj ho
              have ev : a.tmps[8]?.getD undef = .pointer (some ⟨nb, 0, none⟩) := by rw [ha, e14 (hd ⟨14, .data⟩ (by simp) rfl)]; kernel_rfl
              have ev' : a.tmps[44]?.getD undef = .agg (cellsB (recG life seq ys C (j : Int))) := by rw [ha, e13 (hd ⟨13, .data⟩ (by simp) rfl)]; kernel_rfl
              have hz := hnz (hd ⟨14, .data⟩ (by simp) rfl) hn
              have hnb' := hnb (hd ⟨14, .data⟩ (by simp) rfl)
              refine wp_store_row 78 (.tmp 8) (.tmp 44) rfl nb (cellsB (recG life seq ys C (j : Int))) (eval_of ev) (eval_of ev') 78 _ hz (by rw [cellsB_size, hGS.len]; kernel_rfl) (by rw [zero78, cellsB_size, cellsB_size, hGS.len, fillB_len (by decide)]) (cellsB_one _) ?_
              exact ⟨v31, v32, v33, v34, v35, v36, v37, v38, v39, v40, v41, v42, v43, v44, v8, nb, by rw [ha]; kernel_rfl, below_setRow hB hnb' _, fun h => e0 (h.resolve_left (by decide)), fun h => e1 (h.resolve_left (by decide)), fun h => e2 (h.resolve_left (by decide)), fun h => e3 (h.resolve_left (by decide)), fun h => e4 (h.resolve_left (by decide)), fun h => e5 (h.resolve_left (by decide)), fun h => e6 (h.resolve_left (by decide)), fun h => e7 (h.resolve_left (by decide)), fun h => e8 (h.resolve_left (by decide)), fun h => e9 (h.resolve_left (by decide)), fun h => e10 (h.resolve_left (by decide)), fun h => e11 (h.resolve_left (by decide)), fun h => e12 (h.resolve_left (by decide)), fun h => e13 (h.resolve_left (by decide)), fun h => e14 (h.resolve_left (by decide)), fun h => hnb (h.resolve_left (by decide)), fun _ => setRow_heap _ _ _ _ _ _ hz, fun _ h' => absurd (.inl rfl) h'⟩
            | i + 16, ho => simp at ho
          case done =>
            rintro D a w' ⟨v31, v32, v33, v34, v35, v36, v37, v38, v39, v40, v41, v42, v43, v44, v8, nb, ha, hB, e0, e1, e2, e3, e4, e5, e6, e7, e8, e9, e10, e11, e12, e13, e14, hnb, hr, hnz⟩ hall
            have hnb' := hnb (hall 14 (by decide))
            have hr' := hr (hall 15 (by decide))
            obtain rfl := e0 (hall 0 (by decide))
            obtain rfl := e1 (hall 1 (by decide))
            obtain rfl := e2 (hall 2 (by decide))
            obtain rfl := e3 (hall 3 (by decide))
            obtain rfl := e4 (hall 4 (by decide))
            obtain rfl := e5 (hall 5 (by decide))
            obtain rfl := e6 (hall 6 (by decide))
            obtain rfl := e7 (hall 7 (by decide))
            obtain rfl := e8 (hall 8 (by decide))
            obtain rfl := e9 (hall 9 (by decide))
            obtain rfl := e10 (hall 10 (by decide))
            obtain rfl := e11 (hall 11 (by decide))
            obtain rfl := e12 (hall 12 (by decide))
            obtain rfl := e13 (hall 13 (by decide))
            obtain rfl := e14 (hall 14 (by decide))
            clear hnb hr hnz hall e0 e1 e2 e3 e4 e5 e6 e7 e8 e9 e10 e11 e12 e13 e14
            rw [ha]
            clear ha
            simp only [Act.put, List.setIfInBounds_toArray, List.set_cons_zero, List.set_cons_succ]
            go_wp2_with fail
            go_meet
            case rel => exact ⟨nb, rfl, hB, hnb', hr'⟩
        case rest =>
          obtain ⟨nb, rfl, HB, hnb, hN⟩ := hcut
          have B2' := below_size B (by omega) HB
          have T2 := (HB.block tb (lt_of_block hT)).trans hT
          have B2 := (HB.block ob (lt_of_block A)).trans A
          have hno : nb ≠ ob := by have := lt_of_block A; omega
          clear B hT A HB hcell hyl hGj q2
          have hw3 : IntKind.i64.wrap ((j : Int) * 128) = (j : Int) * 128 := by rw [IntKind.wrap_i64]; omega
          have hb1 : (0 : Int) ≤ (j : Int) * 128 := by omega
          have hb2 : j ≤ C := hj
          have hb3 : ((j : Int) * 128).toNat = j * 128 := by omega
          have hb4 : ¬ C * 128 = j * 128 := by omega
          have hsrc : ∀ i v, ((recG life seq ys C (j : Int)).map (Value.int .u8))[i]? = some v → wc.drew.cell? ((⟨nb, 0, none⟩ : Addr).add i) = some v := by
            intro i v hv
            have hadd : (⟨nb, 0, none⟩ : Addr).add i = ⟨nb, i, none⟩ := by unfold Addr.add; split <;> simp_all
            rw [hadd]
            show wc.cell? _ = _
            rw [cell_of_row wc _ i _ _ _ hN]
            simpa [cellsB] using hv
          go_upto_region 11 with fail
          refine wp_region_inv' (fun A D a w' => ∃ v45 v46 v47 v48 v49 v50, a = ((((((A.put (some 45) v45).put (some 46) v46).put (some 47) v47).put (some 48) v48).put (some 49) v49).put (some 50) v50) ∧ (D 5 ∨ w' = wc.drew) ∧ (D 5 → w' = ((wc.drew).setRow ob ((cellsB (catS (recG life seq ys C) 0 j ++ List.replicate ((C - j) * 128) 0)).toList.take (j * 128) ++ (recG life seq ys C (j : Int)).map (Value.int .u8) ++ (cellsB (catS (recG life seq ys C) 0 j ++ List.replicate ((C - j) * 128) 0)).toList.drop (j * 128 + 128)).toArray)) ∧ (D 0 → v45 = .slice (some ⟨ob, 0, none⟩) (C * 128) (C * 128)) ∧ (D 1 → v46 = .int .i64 (j : Int)) ∧ (D 2 → v47 = .int .i64 ((j : Int) * 128)) ∧ (D 3 → v48 = .slice (some ⟨ob, j * 128, none⟩) (C * 128 - j * 128) (C * 128 - j * 128)) ∧ (D 4 → v49 = .slice (some ⟨nb, 0, none⟩) 128 128) ∧ (D 5 → v50 = .int .i64 128)) (by kernel_rfl) (by kernel_rfl) ?mono ?start ?step ?done
          case mono =>
            rintro D D' a w' hD ⟨v45, v46, v47, v48, v49, v50, ha, hw, hQ, e0, e1, e2, e3, e4, e5⟩
            exact ⟨v45, v46, v47, v48, v49, v50, ha, hw.imp_left (hD 5).1, fun h => hQ ((hD 5).2 h), fun h => e0 ((hD 0).2 h), fun h => e1 ((hD 1).2 h), fun h => e2 ((hD 2).2 h), fun h => e3 ((hD 3).2 h), fun h => e4 ((hD 4).2 h), fun h => e5 ((hD 5).2 h)⟩
          case start => exact ⟨u45, u46, u47, u48, u49, u50, by kernel_rfl, .inr (rfl), fun h => h.elim, fun h => h.elim, fun h => h.elim, fun h => h.elim, fun h => h.elim, fun h => h.elim, fun h => h.elim⟩
          case step =>
            intro i o ho D a w' hI hn hcl hd
            obtain ⟨v45, v46, v47, v48, v49, v50, ha, hw, hQ, e0, e1, e2, e3, e4, e5⟩ := hI
            match i, ho with
            | 0, ho =>
              cases Option.some.inj ho
              have ev : a.tmps[4]?.getD undef = .slice (some ⟨ob, 0, none⟩) (C * 128) (C * 128) := by rw [ha]; kernel_rfl
              refine wp_value (w' := w') (v := .slice (some ⟨ob, 0, none⟩) (C * 128) (C * 128)) (by simp [execOp, ev, go_sem]) ?_
              exact ⟨(.slice (some ⟨ob, 0, none⟩) (C * 128) (C * 128)), v46, v47, v48, v49, v50, by rw [ha]; kernel_rfl, hw.imp_left .inr, fun h => hQ (h.resolve_left (by decide)), fun _ => rfl, fun h => e1 (h.resolve_left (by decide)), fun h => e2 (h.resolve_left (by decide)), fun h => e3 (h.resolve_left (by decide)), fun h => e4 (h.resolve_left (by decide)), fun h => e5 (h.resolve_left (by decide))⟩
            | 1, ho =>
              cases Option.some.inj ho
              have ev : a.tmps[5]?.getD undef = .int .i64 (j : Int) := by rw [ha]; kernel_rfl
              refine wp_value (w' := w') (v := .int .i64 (j : Int)) (by simp [execOp, ev, go_sem]) ?_
              exact ⟨v45, (.int .i64 (j : Int)), v47, v48, v49, v50, by rw [ha]; kernel_rfl, hw.imp_left .inr, fun h => hQ (h.resolve_left (by decide)), fun h => e0 (h.resolve_left (by decide)), fun _ => rfl, fun h => e2 (h.resolve_left (by decide)), fun h => e3 (h.resolve_left (by decide)), fun h => e4 (h.resolve_left (by decide)), fun h => e5 (h.resolve_left (by decide))⟩
            | 2, ho =>
              cases Option.some.inj ho
              have ev : a.tmps[46]?.getD undef = .int .i64 (j : Int) := by rw [ha, e1 (hd ⟨1, .data⟩ (by simp) rfl)]; kernel_rfl
              refine wp_value (w' := w') (v := .int .i64 ((j : Int) * 128)) (by simp [execOp, ev, go_sem, hw3]) ?_
              exact ⟨v45, v46, (.int .i64 ((j : Int) * 128)), v48, v49, v50, by rw [ha]; kernel_rfl, hw.imp_left .inr, fun h => hQ (h.resolve_left (by decide)), fun h => e0 (h.resolve_left (by decide)), fun h => e1 (h.resolve_left (by decide)), fun _ => rfl, fun h => e3 (h.resolve_left (by decide)), fun h => e4 (h.resolve_left (by decide)), fun h => e5 (h.resolve_left (by decide))⟩
            | 3, ho =>
              cases Option.some.inj ho
              have ev : a.tmps[45]?.getD undef = .slice (some ⟨ob, 0, none⟩) (C * 128) (C * 128) := by rw [ha, e0 (hd ⟨0, .data⟩ (by simp) rfl)]; kernel_rfl
              have ev' : a.tmps[47]?.getD undef = .int .i64 ((j : Int) * 128) := by rw [ha, e2 (hd ⟨2, .data⟩ (by simp) rfl)]; kernel_rfl
              refine wp_value (w' := w') (v := .slice (some ⟨ob, j * 128, none⟩) (C * 128 - j * 128) (C * 128 - j * 128)) (by simp [execOp, ev, ev', go_sem, hb1, hb2, hb3, hb4]) ?_
              exact ⟨v45, v46, v47, (.slice (some ⟨ob, j * 128, none⟩) (C * 128 - j * 128) (C * 128 - j * 128)), v49, v50, by rw [ha]; kernel_rfl, hw.imp_left .inr, fun h => hQ (h.resolve_left (by decide)), fun h => e0 (h.resolve_left (by decide)), fun h => e1 (h.resolve_left (by decide)), fun h => e2 (h.resolve_left (by decide)), fun _ => rfl, fun h => e4 (h.resolve_left (by decide)), fun h => e5 (h.resolve_left (by decide))⟩
            | 4, ho =>
              cases Option.some.inj ho
              have ev : a.tmps[8]?.getD undef = .pointer (some ⟨nb, 0, none⟩) := by rw [ha]; kernel_rfl
              refine wp_value (w' := w') (v := .slice (some ⟨nb, 0, none⟩) 128 128) (by simp [execOp, ev, go_sem]) ?_
              exact ⟨v45, v46, v47, v48, (.slice (some ⟨nb, 0, none⟩) 128 128), v50, by rw [ha]; kernel_rfl, hw.imp_left .inr, fun h => hQ (h.resolve_left (by decide)), fun h => e0 (h.resolve_left (by decide)), fun h => e1 (h.resolve_left (by decide)), fun h => e2 (h.resolve_left (by decide)), fun h => e3 (h.resolve_left (by decide)), fun _ => rfl, fun h => e5 (h.resolve_left (by decide))⟩
            | 5, ho =>
              cases Option.some.inj ho
              have ev : a.tmps[48]?.getD undef = .slice (some ⟨ob, j * 128, none⟩) (C * 128 - j * 128) (C * 128 - j * 128) := by rw [ha, e3 (hd ⟨3, .data⟩ (by simp) rfl)]; kernel_rfl
              have ev' : a.tmps[49]?.getD undef = .slice (some ⟨nb, 0, none⟩) 128 128 := by rw [ha, e4 (hd ⟨4, .data⟩ (by simp) rfl)]; kernel_rfl
              obtain rfl := hw.resolve_left hn
              have hr := run_copy_row (P := Try.prog) wc.drew 38 38 3 5 ob (j * 128) (C * 128 - j * 128) (C * 128 - j * 128) ⟨nb, 0, none⟩ 128 128 _ 5 ((recG life seq ys C (j : Int)).map (Value.int .u8)) Try.underlying38 (by kernel_rfl) (show wc.drew.heap[ob]? = _ from B2) (by rw [List.length_map, hGS.len]; show 128 = min 128 _; omega) hsrc (by rw [List.length_map, hGS.len, cellsB_size, List.length_append, List.length_replicate, catS_len hG]; omega) (by intro v hv; obtain ⟨x, _, rfl⟩ := List.mem_map.1 hv; rfl)
              rw [List.length_map, hGS.len] at hr
              refine wp_value (w' := ((wc.drew).setRow ob ((cellsB (catS (recG life seq ys C) 0 j ++ List.replicate ((C - j) * 128) 0)).toList.take (j * 128) ++ (recG life seq ys C (j : Int)).map (Value.int .u8) ++ (cellsB (catS (recG life seq ys C) 0 j ++ List.replicate ((C - j) * 128) 0)).toList.drop (j * 128 + 128)).toArray)) (v := .int .i64 128) (by simp [execOp, resolve, invoke, builtin, Act.eval, ev, ev', hr, goInt]) ?_
              exact ⟨v45, v46, v47, v48, v49, (.int .i64 128), by rw [ha]; kernel_rfl, .inl (.inl rfl), fun _ => rfl, fun h => e0 (h.resolve_left (by decide)), fun h => e1 (h.resolve_left (by decide)), fun h => e2 (h.resolve_left (by decide)), fun h => e3 (h.resolve_left (by decide)), fun h => e4 (h.resolve_left (by decide)), fun _ => rfl⟩
            | i + 6, ho => simp at ho
          case done =>
            rintro D a w' ⟨v45, v46, v47, v48, v49, v50, ha, hw, hQ, e0, e1, e2, e3, e4, e5⟩ hall
            have hq := hQ (hall 5 (by decide))
            obtain rfl := e0 (hall 0 (by decide))
            obtain rfl := e1 (hall 1 (by decide))
            obtain rfl := e2 (hall 2 (by decide))
            obtain rfl := e3 (hall 3 (by decide))
            obtain rfl := e4 (hall 4 (by decide))
            obtain rfl := e5 (hall 5 (by decide))
            subst hq
            clear hw hQ hall e0 e1 e2 e3 e4 e5
            rw [ha]
            clear ha
            simp only [Act.put, List.setIfInBounds_toArray, List.set_cons_zero, List.set_cons_succ]
            have hnew : (cellsB (catS (recG life seq ys C) 0 j ++ List.replicate ((C - j) * 128) 0)).toList.take (j * 128) ++ (recG life seq ys C (j : Int)).map (Value.int .u8) ++ (cellsB (catS (recG life seq ys C) 0 j ++ List.replicate ((C - j) * 128) 0)).toList.drop (j * 128 + 128) = (catS (recG life seq ys C) 0 (j + 1) ++ List.replicate ((C - (j + 1)) * 128) 0).map (Value.int .u8) := by
              have hl : (catS (recG life seq ys C) 0 j).length = j * 128 := catS_len hG 0 j
              rw [← hl, ← hGS.len, splice_sec, catS_succ, List.drop_replicate, hGS.len, show (C - j) * 128 - 128 = (C - (j + 1)) * 128 by omega, Int.zero_add]
            rw [hnew]
            have A3 := setRow_heap wc.drew ob _ (((catS (recG life seq ys C) 0 (j + 1) ++ List.replicate ((C - (j + 1)) * 128) 0).map (Value.int .u8)).toArray) 5 (0, 0) B2
            have B3 : Below tb w (wc.drew.setRow ob ((catS (recG life seq ys C) 0 (j + 1) ++ List.replicate ((C - (j + 1)) * 128) 0).map (Value.int .u8)).toArray) := below_setRow (w' := wc.drew) ⟨B2'.os, B2'.tape, B2'.output, B2'.size, B2'.block⟩ (by omega) _
            have T3 : (wc.drew.setRow ob ((catS (recG life seq ys C) 0 (j + 1) ++ List.replicate ((C - (j + 1)) * 128) 0).map (Value.int .u8)).toArray).heap[tb]? = _ := (setRow_other _ _ _ _ (by omega)).trans T2
            generalize wc.drew.setRow ob ((catS (recG life seq ys C) 0 (j + 1) ++ List.replicate ((C - (j + 1)) * 128) 0).map (Value.int .u8)).toArray = w3 at *
            clear hnew
            go_wp2
            go_roundw
            case rel => exact ⟨j + 1, by omega, rfl, B3, T3, A3⟩
            case measure => simp [intOf]; omega
end Go.Proofs.Ytofgphiamllmdab
