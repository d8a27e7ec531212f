/- filled.read and Disk.Read. -/
import Derived.Test.YtofgphiamllmdabFull
import Derived.Laws.CopyRow
import Derived.Laws.CopyOwn
namespace Go.Proofs.Ytofgphiamllmdab
open Go.RowKit
set_option maxRecDepth 100000

/-- Sectors, one behind the other. -/
def catS (G : Int → List Int) (at' : Int) (n : Nat) : List Int := (List.range n).flatMap fun (i : Nat) => G (at' + (i : Int))
theorem catS_succ (G : Int → List Int) (at' : Int) (n : Nat) : catS G at' (n + 1) = catS G at' n ++ G (at' + (n : Int)) := by
  unfold catS
  rw [List.range_succ, List.flatMap_append]
  simp
theorem catS_len {G : Int → List Int} (hG : ∀ k, IsSec (G k)) (at' : Int) : ∀ n, (catS G at' n).length = n * 128
  | 0 => rfl
  | n + 1 => by rw [catS_succ, List.length_append, catS_len hG at' n, (hG _).len]; omega

theorem splice_sec (A R S : List Int) : (cellsB (A ++ R)).toList.take A.length ++ S.map (Value.int .u8) ++ (cellsB (A ++ R)).toList.drop (A.length + S.length) = (A ++ S ++ R.drop S.length).map (Value.int .u8) := by
  have hl : (A.map (Value.int .u8)).length = A.length := by simp
  simp only [cellsB, List.map_append]
  rw [← hl, List.take_left, List.drop_append]
  simp

set_option maxRecDepth 100000 in
set_option maxHeartbeats 2000000 in
theorem read_any {w : World} {b : Nat} {G : Int → List Int} (h : HasSec w b G) (at' : Int) (n : Nat) (h0 : 0 ≤ at') (h1 : at' + n ≤ 1000000) (hn : n ≤ 4096) :
    Calls Try.prog 69 #[.map (some b), .int .i64 at', .int .i64 (n : Int)] w fun e w' => e = .returned (.slice (some ⟨w.heap.size, 0, none⟩) (n * 128) (n * 128)) ∧ w'.heap[w.heap.size]? = some (.cells (cellsB (catS G at' n)) 5 (0, 0)) ∧ w.grownBy w' none := by
  obtain ⟨i0, hi, hz0, hz1, hz2⟩ := info_parts Try.info5
  have hw : IntKind.i64.wrap ((n : Int) * 128) = ((n * 128 : Nat) : Int) := by rw [IntKind.wrap_i64]; omega
  go_enter Try.func69, Try.ntmps69
  go_wp2_with (at_make; refine wpList_make_row _ rfl _ _ 38 rfl 5 i0 (.int .u8 0) Try.underlying38 hi hz0 hz1 rfl .i64 .i64 (n * 128) (by simp [Act.eval]) (by simp [Act.eval]) (by rw [hz2]; omega) (by omega) ?_)
  rw [made_zero]
  go_loopw [14] (fun i wr => ∃ j : Nat, j ≤ n ∧ i = .int .i64 (j : Int) ∧ w.grownBy wr none ∧ wr.heap[w.heap.size]? = some (.cells (cellsB (catS G at' j ++ List.replicate ((n - j) * 128) 0)) 5 (0, 0))) (fun i _ => n - (intOf i).toNat)
  case atStart => exact ⟨0, by omega, rfl, World.grownBy_alloc w _ none, by simpa [catS] using heap_alloc_new w _⟩
  case round =>
    obtain ⟨j, hj, rfl, hg, hb⟩ := hrel
    by_cases hjn : j = n
    · subst hjn
      have hlt : ¬ (j : Int) < (j : Int) := by omega
      go_wp2
      go_ret
      exact ⟨rfl, by simpa using hb, hg⟩
    · have hlt : (j : Int) < (n : Int) := by omega
      have hw1 : IntKind.i64.wrap ((j : Int) + 1) = (j : Int) + 1 := by rw [IntKind.wrap_i64]; omega
      have hw2 : IntKind.i64.wrap (at' + (j : Int)) = at' + (j : Int) := by rw [IntKind.wrap_i64]; omega
      have hS : HasSec wr b G := h.same (hg.block _ h.lt (by simp))
      have hlk := hS.lookup (at' + (j : Int))
      unfold secV at hlk
      have hz := zero57
      unfold secV at hz
      have hsec := h.isSec (at' + (j : Int))
      have hA := heap_alloc_new wr (.cells (cellsB z128) 105)
      go_wp2_with (first | refine wpList_store_row rfl 105 _ _ rfl wr.heap.size _ rfl rfl 105 _ hA (size57 hsec) (by rw [cellsB_size, cellsB_size, hsec.len, isSec_z.len]) (cellsB_one _) ?_)
      have hwl := hg.size
      have hgw : w.heap.size < wr.heap.size := lt_of_block hb
      obtain ⟨w2, hw2'⟩ : ∃ w2, (wr.alloc (.cells (cellsB z128) 105)).setRow wr.heap.size (cellsB (G (at' + (j : Int)))) = w2 := ⟨_, rfl⟩
      have A2 : w2.heap[wr.heap.size]? = some (.cells (cellsB (G (at' + (j : Int)))) 105 (0, 0)) := by rw [← hw2']; exact setRow_heap _ _ _ _ _ _ hA
      have B2 : w2.heap[w.heap.size]? = some (.cells (cellsB (catS G at' j ++ List.replicate ((n - j) * 128) 0)) 5 (0, 0)) := by
        rw [← hw2']
        exact (setRow_other _ _ _ _ (by omega)).trans ((Below.heap_alloc _ _ _ hgw).trans hb)
      have C2 : w.grownBy w2 none := by
        rw [← hw2']
        exact ⟨hg.os, hg.tape, hg.output, by simp; omega, fun i hi _ => (setRow_other _ _ _ _ (by omega)).trans ((Below.heap_alloc _ _ _ (by omega)).trans (hg.block i hi (by simp)))⟩
      rw [hw2']
      clear hw2' hA hlk hz hS hg hb
      have hw3 : IntKind.i64.wrap ((j : Int) * 128) = (j : Int) * 128 := by rw [IntKind.wrap_i64]; omega
      have hb1 : (0 : Int) ≤ (j : Int) * 128 := by omega
      have hb2 : j ≤ n := hj
      have hb3 : ((j : Int) * 128).toNat = j * 128 := by omega
      have hb4 : ¬ n * 128 = j * 128 := by omega
      have hsrc : ∀ i v, ((G (at' + (j : Int))).map (Value.int .u8))[i]? = some v → w2.drew.cell? ((⟨wr.heap.size, 0, none⟩ : Addr).add i) = some v := by
        intro i v hv
        have hadd : (⟨wr.heap.size, 0, none⟩ : Addr).add i = ⟨wr.heap.size, i, none⟩ := by unfold Addr.add; split <;> simp_all
        rw [hadd]
        show w2.cell? _ = _
        rw [cell_of_row w2 _ i _ _ _ A2]
        simpa [cellsB] using hv
      refine wp_region_inv' (fun A D a w' => ∃ v22 v23 v24 v25 v26 v27, a = ((((((A.put (some 22) v22).put (some 23) v23).put (some 24) v24).put (some 25) v25).put (some 26) v26).put (some 27) v27) ∧ (D 5 ∨ w' = w2.drew) ∧ (D 5 → w' = ((w2.drew).setRow w.heap.size ((cellsB (catS G at' j ++ List.replicate ((n - j) * 128) 0)).toList.take (j * 128) ++ (G (at' + (j : Int))).map (Value.int .u8) ++ (cellsB (catS G at' j ++ List.replicate ((n - j) * 128) 0)).toList.drop (j * 128 + 128)).toArray)) ∧ (D 0 → v22 = .slice (some ⟨w.heap.size, 0, none⟩) (n * 128) (n * 128)) ∧ (D 1 → v23 = .int .i64 (j : Int)) ∧ (D 2 → v24 = .int .i64 ((j : Int) * 128)) ∧ (D 3 → v25 = .slice (some ⟨w.heap.size, j * 128, none⟩) (n * 128 - j * 128) (n * 128 - j * 128)) ∧ (D 4 → v26 = .slice (some ⟨wr.heap.size, 0, none⟩) 128 128) ∧ (D 5 → v27 = .int .i64 128)) (by kernel_rfl) (by kernel_rfl) ?mono ?start ?step ?done
      case mono =>
        rintro D D' a w' hD ⟨v22, v23, v24, v25, v26, v27, ha, hw, hQ, e0, e1, e2, e3, e4, e5⟩
        exact ⟨v22, v23, v24, v25, v26, v27, ha, hw.imp_left (hD 5).1, fun h => hQ ((hD 5).2 h), fun h => e0 ((hD 0).2 h), fun h => e1 ((hD 1).2 h), fun h => e2 ((hD 2).2 h), fun h => e3 ((hD 3).2 h), fun h => e4 ((hD 4).2 h), fun h => e5 ((hD 5).2 h)⟩
      case start => exact ⟨u22, u23, u24, u25, u26, u27, by kernel_rfl, .inr (rfl), fun h => h.elim, fun h => h.elim, fun h => h.elim, fun h => h.elim, fun h => h.elim, fun h => h.elim, fun h => h.elim⟩
      case step =>
        intro i o ho D a w' hI hn hcl hd
        obtain ⟨v22, v23, v24, v25, v26, v27, ha, hw, hQ, e0, e1, e2, e3, e4, e5⟩ := hI
        match i, ho with
        | 0, ho =>
          cases Option.some.inj ho
          have ev : a.tmps[7]?.getD undef = .slice (some ⟨w.heap.size, 0, none⟩) (n * 128) (n * 128) := by rw [ha]; kernel_rfl
          refine wp_value (w' := w') (v := .slice (some ⟨w.heap.size, 0, none⟩) (n * 128) (n * 128)) (by simp [execOp, ev, go_sem]) ?_
          exact ⟨(.slice (some ⟨w.heap.size, 0, none⟩) (n * 128) (n * 128)), v23, v24, v25, v26, v27, by rw [ha]; kernel_rfl, hw.imp_left .inr, fun h => hQ (h.resolve_left (by decide)), fun _ => rfl, fun h => e1 (h.resolve_left (by decide)), fun h => e2 (h.resolve_left (by decide)), fun h => e3 (h.resolve_left (by decide)), fun h => e4 (h.resolve_left (by decide)), fun h => e5 (h.resolve_left (by decide))⟩
        | 1, ho =>
          cases Option.some.inj ho
          have ev : a.tmps[8]?.getD undef = .int .i64 (j : Int) := by rw [ha]; kernel_rfl
          refine wp_value (w' := w') (v := .int .i64 (j : Int)) (by simp [execOp, ev, go_sem]) ?_
          exact ⟨v22, (.int .i64 (j : Int)), v24, v25, v26, v27, by rw [ha]; kernel_rfl, hw.imp_left .inr, fun h => hQ (h.resolve_left (by decide)), fun h => e0 (h.resolve_left (by decide)), fun _ => rfl, fun h => e2 (h.resolve_left (by decide)), fun h => e3 (h.resolve_left (by decide)), fun h => e4 (h.resolve_left (by decide)), fun h => e5 (h.resolve_left (by decide))⟩
        | 2, ho =>
          cases Option.some.inj ho
          have ev : a.tmps[23]?.getD undef = .int .i64 (j : Int) := by rw [ha, e1 (hd ⟨1, .data⟩ (by simp) rfl)]; kernel_rfl
          refine wp_value (w' := w') (v := .int .i64 ((j : Int) * 128)) (by simp [execOp, ev, go_sem, hw3]) ?_
          exact ⟨v22, v23, (.int .i64 ((j : Int) * 128)), v25, v26, v27, by rw [ha]; kernel_rfl, hw.imp_left .inr, fun h => hQ (h.resolve_left (by decide)), fun h => e0 (h.resolve_left (by decide)), fun h => e1 (h.resolve_left (by decide)), fun _ => rfl, fun h => e3 (h.resolve_left (by decide)), fun h => e4 (h.resolve_left (by decide)), fun h => e5 (h.resolve_left (by decide))⟩
        | 3, ho =>
          cases Option.some.inj ho
          have ev : a.tmps[22]?.getD undef = .slice (some ⟨w.heap.size, 0, none⟩) (n * 128) (n * 128) := by rw [ha, e0 (hd ⟨0, .data⟩ (by simp) rfl)]; kernel_rfl
          have ev' : a.tmps[24]?.getD undef = .int .i64 ((j : Int) * 128) := by rw [ha, e2 (hd ⟨2, .data⟩ (by simp) rfl)]; kernel_rfl
          refine wp_value (w' := w') (v := .slice (some ⟨w.heap.size, j * 128, none⟩) (n * 128 - j * 128) (n * 128 - j * 128)) (by simp [execOp, ev, ev', go_sem, hb1, hb2, hb3, hb4]) ?_
          exact ⟨v22, v23, v24, (.slice (some ⟨w.heap.size, j * 128, none⟩) (n * 128 - j * 128) (n * 128 - j * 128)), v26, v27, by rw [ha]; kernel_rfl, hw.imp_left .inr, fun h => hQ (h.resolve_left (by decide)), fun h => e0 (h.resolve_left (by decide)), fun h => e1 (h.resolve_left (by decide)), fun h => e2 (h.resolve_left (by decide)), fun _ => rfl, fun h => e4 (h.resolve_left (by decide)), fun h => e5 (h.resolve_left (by decide))⟩
        | 4, ho =>
          cases Option.some.inj ho
          have ev : a.tmps[9]?.getD undef = .pointer (some ⟨wr.heap.size, 0, none⟩) := by rw [ha]; kernel_rfl
          refine wp_value (w' := w') (v := .slice (some ⟨wr.heap.size, 0, none⟩) 128 128) (by simp [execOp, ev, go_sem]) ?_
          exact ⟨v22, v23, v24, v25, (.slice (some ⟨wr.heap.size, 0, none⟩) 128 128), v27, by rw [ha]; kernel_rfl, hw.imp_left .inr, fun h => hQ (h.resolve_left (by decide)), fun h => e0 (h.resolve_left (by decide)), fun h => e1 (h.resolve_left (by decide)), fun h => e2 (h.resolve_left (by decide)), fun h => e3 (h.resolve_left (by decide)), fun _ => rfl, fun h => e5 (h.resolve_left (by decide))⟩
        | 5, ho =>
          cases Option.some.inj ho
          have ev : a.tmps[25]?.getD undef = .slice (some ⟨w.heap.size, j * 128, none⟩) (n * 128 - j * 128) (n * 128 - j * 128) := by rw [ha, e3 (hd ⟨3, .data⟩ (by simp) rfl)]; kernel_rfl
          have ev' : a.tmps[26]?.getD undef = .slice (some ⟨wr.heap.size, 0, none⟩) 128 128 := by rw [ha, e4 (hd ⟨4, .data⟩ (by simp) rfl)]; kernel_rfl
          obtain rfl := hw.resolve_left hn
          have hr := run_copy_row (P := Try.prog) w2.drew 38 38 3 5 w.heap.size (j * 128) (n * 128 - j * 128) (n * 128 - j * 128) ⟨wr.heap.size, 0, none⟩ 128 128 _ 5 ((G (at' + (j : Int))).map (Value.int .u8)) Try.underlying38 (by kernel_rfl) (show w2.drew.heap[w.heap.size]? = _ from B2) (by rw [List.length_map, hsec.len]; show 128 = min 128 _; omega) hsrc (by rw [List.length_map, hsec.len, cellsB_size, List.length_append, List.length_replicate, catS_len (fun k => h.isSec k)]; omega) (by intro v hv; obtain ⟨x, _, rfl⟩ := List.mem_map.1 hv; rfl)
          rw [List.length_map, hsec.len] at hr
          refine wp_value (w' := ((w2.drew).setRow w.heap.size ((cellsB (catS G at' j ++ List.replicate ((n - j) * 128) 0)).toList.take (j * 128) ++ (G (at' + (j : Int))).map (Value.int .u8) ++ (cellsB (catS G at' j ++ List.replicate ((n - j) * 128) 0)).toList.drop (j * 128 + 128)).toArray)) (v := .int .i64 128) (by simp [execOp, resolve, invoke, builtin, Act.eval, ev, ev', hr, goInt]) ?_
          exact ⟨v22, v23, v24, v25, v26, (.int .i64 128), by rw [ha]; kernel_rfl, .inl (.inl rfl), fun _ => rfl, fun h => e0 (h.resolve_left (by decide)), fun h => e1 (h.resolve_left (by decide)), fun h => e2 (h.resolve_left (by decide)), fun h => e3 (h.resolve_left (by decide)), fun h => e4 (h.resolve_left (by decide)), fun _ => rfl⟩
        | i + 6, ho => simp at ho
      case done =>
        rintro D a w' ⟨v22, v23, v24, v25, v26, v27, ha, hw, hQ, e0, e1, e2, e3, e4, e5⟩ hall
        have hq := hQ (hall 5 (by decide))
        obtain rfl := e0 (hall 0 (by decide))
        obtain rfl := e1 (hall 1 (by decide))
        obtain rfl := e2 (hall 2 (by decide))
        obtain rfl := e3 (hall 3 (by decide))
        obtain rfl := e4 (hall 4 (by decide))
        obtain rfl := e5 (hall 5 (by decide))
        subst hq
        clear hw hQ hall e0 e1 e2 e3 e4 e5
        rw [ha]
        clear ha
        simp only [Act.put, List.setIfInBounds_toArray, List.set_cons_zero, List.set_cons_succ]
        have hnew : (cellsB (catS G at' j ++ List.replicate ((n - j) * 128) 0)).toList.take (j * 128) ++ (G (at' + (j : Int))).map (Value.int .u8) ++ (cellsB (catS G at' j ++ List.replicate ((n - j) * 128) 0)).toList.drop (j * 128 + 128) = (catS G at' (j + 1) ++ List.replicate ((n - (j + 1)) * 128) 0).map (Value.int .u8) := by
          have hl : (catS G at' j).length = j * 128 := catS_len (fun k => h.isSec k) at' j
          rw [← hl, ← hsec.len, splice_sec, catS_succ, List.drop_replicate, hsec.len, show (n - j) * 128 - 128 = (n - (j + 1)) * 128 by omega]
        rw [hnew]
        have B3 := setRow_heap w2.drew w.heap.size _ (((catS G at' (j + 1) ++ List.replicate ((n - (j + 1)) * 128) 0).map (Value.int .u8)).toArray) 5 (0, 0) B2
        have C3 : w.grownBy (w2.drew.setRow w.heap.size ((catS G at' (j + 1) ++ List.replicate ((n - (j + 1)) * 128) 0).map (Value.int .u8)).toArray) none := ⟨C2.os, C2.tape, C2.output, by simpa using C2.size, fun i hi _ => (setRow_other _ _ _ _ (by omega)).trans (C2.block i hi (by simp))⟩
        generalize w2.drew.setRow w.heap.size ((catS G at' (j + 1) ++ List.replicate ((n - (j + 1)) * 128) 0).map (Value.int .u8)).toArray = w3 at *
        clear hnew
        go_wp2
        go_roundw
        case rel => exact ⟨j + 1, by omega, rfl, C3, B3⟩
        case measure => simp [intOf]; omega

end Go.Proofs.Ytofgphiamllmdab
