/- Count, text; Append of what does not go in; what Rewrite of nothing calls. -/
import Derived.Test.YtofgphiamllmdabAppend
namespace Go.Proofs.Ytofgphiamllmdab
open Go.RowKit
set_option maxRecDepth 100000
set_option maxHeartbeats 1000000 in
theorem count_any (k : Int) (n : Nat) (h1 : 1 ≤ n) (h2 : n ≤ 1000000) (w : World) :
    Calls Try.prog 9 #[.int .i64 k, .int .i64 (n : Int)] w fun e w' => (∃ r : Nat, r < n ∧ e = .returned (.int .i64 (r : Int))) ∧ w = w' := by
  have ha := Int.tmod_lt_of_pos k (show (0 : Int) < n by omega)
  have hb := Int.lt_tmod_of_pos k (show (0 : Int) < n by omega)
  have hlt : ¬ (n : Int) < 1 := by omega
  have hn0 : ¬ (n : Int) = 0 := by omega
  have hw0 : IntKind.i64.wrap (k.tmod n) = k.tmod n := by rw [IntKind.wrap_i64]; omega
  have hw1 : IntKind.i64.wrap (k.tmod n + n) = k.tmod n + n := by rw [IntKind.wrap_i64]; omega
  go_enter Try.func9, Try.ntmps9
  by_cases hneg : k.tmod n < 0
  · go_wp2
    go_ret
    exact ⟨⟨(k.tmod n + n).toNat, by omega, by rw [Int.toNat_of_nonneg (by omega)]; rfl⟩, rfl⟩
  · go_wp2
    go_ret
    exact ⟨⟨(k.tmod n).toNat, by omega, by rw [Int.toNat_of_nonneg (by omega)]; rfl⟩, rfl⟩
set_option maxHeartbeats 1000000 in
theorem text_any (w : World) (n : Nat) (c : Int) (hn : n ≤ 1000000) :
    Calls Try.prog 14 #[.int .i64 (n : Int), .int .u8 c] w fun e w' => e = .returned (.slice (some ⟨w.heap.size, 0, none⟩) n n) ∧ w'.heap[w.heap.size]? = some (.cells (cellsB (List.replicate n c)) 5 (0, 0)) ∧ w.grownBy w' none := by
  obtain ⟨i0, hi, hz0, hz1, hz2⟩ := info_parts Try.info5
  go_enter Try.func14, Try.ntmps14
  go_wp2_with (at_make; refine wpList_make_row _ rfl _ _ 38 rfl 5 i0 (.int .u8 0) Try.underlying38 hi hz0 hz1 rfl .i64 .i64 n (by simp [Act.eval]) (by simp [Act.eval]) (by rw [hz2]; omega) (by omega) ?_)
  rw [made_zero]
  go_loopw [6] (fun i wr => ∃ j : Nat, j ≤ n ∧ i = .int .i64 (j : Int) ∧ w.grownBy wr none ∧ wr.heap[w.heap.size]? = some (.cells (cellsB (List.replicate j c ++ List.replicate (n - j) 0)) 5 (0, 0))) (fun i _ => n - (intOf i).toNat)
  case atStart => exact ⟨0, by omega, rfl, World.grownBy_alloc w _ none, by simpa using heap_alloc_new w _⟩
  case round =>
    obtain ⟨j, hj, rfl, hg, hb⟩ := hrel
    by_cases hjn : j = n
    · subst hjn
      have hlt : ¬ (j : Int) < (j : Int) := by omega
      go_wp2
      go_ret
      exact ⟨rfl, by simpa using hb, hg⟩
    · have hlt : (j : Int) < (n : Int) := by omega
      have hc : wr.cell? ⟨w.heap.size, j, none⟩ = some (.int .u8 0) := by
        rw [cell_of_row wr _ j _ _ _ hb]
        rw [cells_get, rep_get c j n (by omega)]
        rfl
      have hf : wr.frozen? ⟨w.heap.size, j, none⟩ = false := frozen_of_row wr _ j _ _ hb
      have hw1 : IntKind.i64.wrap ((j : Int) + 1) = (j : Int) + 1 := by rw [IntKind.wrap_i64]; omega
      go_wp2
      go_roundw
      case rel =>
        refine ⟨j + 1, by omega, rfl, ?_, ?_⟩
        · exact grown_set hg _ _ _ (Nat.le_refl _)
        · rw [heap_setCell_same wr _ j _ _ _ hb, cells_set, rep_set c j n (by omega)]
      case measure => simp [intOf]; omega
section
variable {w : World} {n₀ p bs bn : Nat} {pv : Value} {size : Int} {G0 G1 : Int → List Int} {L : List (Int × List Int)}
variable {lb : Nat} {life half first since seq hs used : Int}
set_option maxHeartbeats 2000000 in
theorem append_full (hl0 : w.heap[lb]? = some (logO p life half first since seq hs used false)) (hh0 : 0 ≤ hs) (hh1 : hs ≤ 100000) (hu0 : 0 ≤ used) (hu1 : used ≤ 100000) {ga : Option Addr} {n c K : Nat} (hn0 : 0 < n) (hn1 : n ≤ 60000) (hK : (n + 111) / 112 = K) (hfit : hs < used + (K : Int)) :
    Calls Try.prog 16 #[.pointer (some ⟨lb, 0, none⟩), .slice ga n c] w fun e w' => e = .returned (.int .i64 4) ∧ Below w.heap.size w w' := by
  have hsec : secs (n : Int) = (K : Int) := by
    unfold secs
    rw [if_neg (by omega)]
    omega
  clear hK
  have B0 := box_below w (.cells #[.slice ga n c] 38)
  have S0 := heap_alloc_new w (.cells #[.slice ga n c] 38)
  go_enter Try.func16, Try.ntmps16
  go_wp2_with fail
  generalize w.alloc (.cells #[.slice ga n c] 38) = w1 at *
  have l1 := (B0.block lb (lt_of_block hl0)).trans hl0
  refine (may_one l1 w.heap.size n c _ S0 hn0 hn1).mono ?_
  rintro e w2 ⟨rfl, rfl⟩
  go_wp2_with fail
  refine (sectors_any (n : Int) w1).mono ?_
  rintro e w2 ⟨rfl, rfl⟩
  rw [hsec]
  go_wp2_with fail
  refine (room_any l1 hh0 hh1 hu0 hu1).mono ?_
  rintro e w2 ⟨rfl, k, rfl⟩
  have B1 : Below w.heap.size w (w1.drewN k) := ⟨B0.os, B0.tape, B0.output, B0.size, B0.block⟩
  generalize w1.drewN k = W at *
  clear B0 S0 l1
  have b1 : hs - used < (K : Int) := by omega
  have b2 : decide (hs - used < (K : Int)) = true := by simp [b1]
  go_wp2
  go_ret
  exact ⟨rfl, B1⟩
set_option maxHeartbeats 1000000 in
theorem may_none (hl : w.heap[lb]? = some (logO p life half first since seq hs used false)) : Calls Try.prog 53 #[.pointer (some ⟨lb, 0, none⟩), .slice none 0 0] w fun e w' => e = .returned (.int .i64 0) ∧ w = w' := by
  obtain ⟨c0, c1, c2, c3, c4, c5, c6, c7, c8, cf⟩ := log_cells hl
  go_enter Try.func53, Try.ntmps53
  go_wp2
  refine wp_loop_rounds 1 ?_
  rw [rounds_succ]
  go_wp2
  go_ret
  exact ⟨rfl, rfl⟩
set_option maxHeartbeats 1000000 in
theorem lay_none (w : World) (a b : Int) : Calls Try.prog 60 #[.int .i64 a, .int .i64 b, .slice none 0 0] w fun e w' => e = .returned (.slice (some ⟨w.heap.size, 0, none⟩) 0 0) ∧ Below w.heap.size w w' := by
  obtain ⟨i0, hi, hz0, hz1, hz2⟩ := info_parts Try.info38
  go_enter Try.func60, Try.ntmps60
  go_wp2_with (at_make; refine wpList_make_row _ rfl _ _ 44 rfl 38 i0 (.slice none 0 0) Try.underlying44 hi hz0 hz1 rfl .i64 .i64 0 (by simp [Act.eval]) (by simp [Act.eval]) (by rw [hz2]; omega) (by omega) ?_)
  refine wp_loop_rounds 1 ?_
  rw [rounds_succ]
  go_wp2
  go_ret
  exact ⟨rfl, box_below _ _⟩
set_option maxHeartbeats 2000000 in
theorem logWrite_none (D : Dev w n₀ p bs bn pv size G0 G1 L 0 false) (hl : w.heap[lb]? = some (logO p life half first since seq hs used false)) (at' : Int) (a : Option Addr) (c : Nat) (hL : L.length ≤ 999990000) :
    Calls Try.prog 54 #[.pointer (some ⟨lb, 0, none⟩), .int .i64 at', .slice a 0 c] w fun e w' => e = .returned (.int .i64 0) ∧ Dev w' n₀ p bs bn (.slice none 0 0) size (appl G0 L) G1 [] 0 false ∧ Fr p bs bn w pv w' (.slice none 0 0) := by
  obtain ⟨c0, c1, c2, c3, c4, c5, c6, c7, c8, cf⟩ := log_cells hl
  go_enter Try.func54, Try.ntmps54
  go_wp2
  refine wp_loop_rounds 1 ?_
  rw [rounds_succ]
  go_wp2_with fail
  refine (Flush_some D (by omega)).mono ?_
  rintro e w2 ⟨rfl, D2, F2⟩
  clear c0 c1 c2 c3 c4 c5 c6 c7 c8 cf
  go_wp2_with fail
  refine (told_other _ 0 (by decide)).mono ?_
  rintro e w3 ⟨rfl, rfl⟩
  go_wp2
  go_ret
  exact ⟨rfl, D2, F2⟩
end
end Go.Proofs.Ytofgphiamllmdab
