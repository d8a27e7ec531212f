/- Log.Append on a device that may fail. -/
import Derived.Test.YtofgphiamllmdabTakeX
namespace Go.Proofs.Ytofgphiamllmdab
open Go.RowKit
set_option maxRecDepth 100000

section
variable {w : World} {n₀ p bs bn : Nat} {pv : Value} {size : Int} {G0 G1 : Int → List Int} {L : List (Int × List Int)} {left : Int}
variable {lb : Nat} {life half first since seq hs used : Int}
theorem part5 {b : Nat} {life seq : Int} {ys : List Int} {K : Nat} (h : w.heap[b]? = some (.cells (cellsB (recB life seq ys)) 5 (0, 0))) (hb : ∀ x ∈ recB life seq ys, 0 ≤ x ∧ x < 256) (hl : (recB life seq ys).length = 128 * K) (h0 : 0 < K) (h1 : K ≤ 600) : PartAt w (.slice (some ⟨b, 0, none⟩) (K * 128) (K * 128)) (recB life seq ys) :=
  ⟨b, K * 128, _, 5, by rw [hl, Nat.mul_comm 128 K], by omega, by unfold maxLen; omega, h, by decide, by decide, by decide, ArrS.bytes2 h hb, by omega, by omega⟩
set_option maxHeartbeats 8000000 in
theorem append_any (D0 : Dev w n₀ p bs bn pv size G0 G1 L left false) (hl0 : w.heap[lb]? = some (logO p life half first since seq hs used false)) (hs1 : size ≤ 4096) (hL : L.length ≤ 999980000) (hlf0 : 0 ≤ left) (hlf1 : left ≤ 9223372036854775807) (hhalf : half = 0 ∨ half = 1) (hh0 : 0 ≤ hs) (hh1 : hs ≤ 100000) (hu0 : 0 ≤ used) (hq0 : 0 ≤ seq) (hq1 : seq < 1099511627776)
    {gb go n c K : Nat} {ys : List Int} (hy : ys.length = n) (hn0 : 0 < n) (hn1 : n ≤ 60000) (hnc : n ≤ c) (hgb : gb < w.heap.size) (hby : ∀ y ∈ ys, 0 ≤ y ∧ y < 256) (hys : ∀ i, i < n → w.cell? ⟨gb, go + i, none⟩ = some (.int .u8 (ys.getD i 0))) (hK : (n + 111) / 112 = K) (hfit : used + (K : Int) ≤ hs) (at' : Int) (hat : 2 + half * hs + used = at') (hat1 : at' + (K : Int) ≤ size) :
    Calls Try.prog 16 #[.pointer (some ⟨lb, 0, none⟩), .slice (some ⟨gb, go, none⟩) n c] w fun e w' => (e = .returned (.int .i64 0) ∧ (left = 0 ∨ (K : Int) < left) ∧ Dev w' n₀ p bs bn (.slice none 0 0) size (appl G0 (L ++ wsP at' (recB life seq ys) (List.finRange K))) (appl G1 (wsP at' (recB life seq ys) (List.finRange K))) [] (max 0 (left - (K : Int))) false ∧ w'.heap[lb]? = some (logO p life half first since (seq + 1) hs (used + (K : Int)) false) ∧ Fl lb p bs bn w pv w') ∨
      (e = .returned (.int .i64 14) ∧ ∃ j pv', j < K ∧ left = (j : Int) + 1 ∧ Dev w' n₀ p bs bn pv' size G0 (appl G1 ((wsP at' (recB life seq ys) (List.finRange K)).take j)) (L ++ (wsP at' (recB life seq ys) (List.finRange K)).take j) 1 true ∧ w'.heap[lb]? = some (logO p life half first since seq hs used true) ∧ Fl lb p bs bn w pv w') := by
  have hKe : Hid ((n + 111) / 112 = K) := hK
  have hK0 : 0 < K := by omega
  have hK1 : K ≤ 600 := by omega
  have hsec : secs (n : Int) = (K : Int) := by
    unfold secs
    rw [if_neg (by omega)]
    omega
  have hat0 : 0 ≤ at' := by rcases hhalf with rfl | rfl <;> omega
  have hwat : IntKind.i64.wrap (2 + half * hs + used) = at' := by rcases hhalf with rfl | rfl <;> (rw [IntKind.wrap_i64]; omega)
  have hwu : IntKind.i64.wrap (used + (K : Int)) = used + (K : Int) := by rw [IntKind.wrap_i64]; omega
  have hrl : (recB life seq ys).length = 128 * K := by rw [recB_len life seq hby, hy, hK]; omega
  have hrb8 := recB_byte life seq hby
  clear hK hat
  have B0 := box_below w (.cells #[.slice (some ⟨gb, go, none⟩) n c] 38)
  have S0 := heap_alloc_new w (.cells #[.slice (some ⟨gb, go, none⟩) n c] 38)
  go_enter Try.func16, Try.ntmps16
  go_wp2_with fail
  generalize w.alloc (.cells #[.slice (some ⟨gb, go, none⟩) n c] 38) = w1 at *
  have l1 := (B0.block lb (lt_of_block hl0)).trans hl0
  refine (may_one l1 w.heap.size n c _ S0 hn0 hn1).mono ?_
  rintro e w2 ⟨rfl, rfl⟩
  go_wp2_with fail
  refine (sectors_any (n : Int) w1).mono ?_
  rintro e w2 ⟨rfl, rfl⟩
  rw [hsec]
  go_wp2_with fail
  refine (room_any l1 hh0 hh1 hu0 (by omega)).mono ?_
  rintro e w2 ⟨rfl, k, rfl⟩
  have B1 : Below w.heap.size w (w1.drewN k) := ⟨B0.os, B0.tape, B0.output, B0.size, B0.block⟩
  have hl : (w1.drewN k).heap[lb]? = some (logO p life half first since seq hs used false) := l1
  generalize w1.drewN k = W at *
  clear B0 S0 l1
  have c5 := (log_cells hl).2.2.2.2.2.1
  have b1 : ¬ hs - used < (K : Int) := by omega
  have b2 : decide (hs - used < (K : Int)) = false := by simp [b1]
  have b3 : ¬ seq = 1099511627776 := by omega
  have b4 : (seq == 1099511627776) = false := by simp [b3]
  go_upto_region 6 with fail
  clear c5 b1 b2 b3 b4
  refine wp_region_inv' (fun A D a w' => ∃ v28 v29 v30 v31 v32 v33 v34 v35 v36 v37 v38 v6 rb, a = ((((((((((((A.put (some 28) v28).put (some 29) v29).put (some 30) v30).put (some 31) v31).put (some 32) v32).put (some 33) v33).put (some 34) v34).put (some 35) v35).put (some 36) v36).put (some 37) v37).put (some 38) v38).put (some 6) v6) ∧ Below W.heap.size W w' ∧ (D 0 → v28 = .pointer (some ⟨lb, 0, none⟩)) ∧ (D 1 → v29 = .pointer (some ⟨lb, 0, none⟩)) ∧ (D 2 → v30 = .pointer (some ⟨lb, 1, none⟩)) ∧ (D 3 → v31 = .pointer (some ⟨lb, 1, none⟩)) ∧ (D 4 → v32 = .int .i64 life) ∧ (D 5 → v33 = .pointer (some ⟨lb, 0, none⟩)) ∧ (D 6 → v34 = .pointer (some ⟨lb, 0, none⟩)) ∧ (D 7 → v35 = .pointer (some ⟨lb, 5, none⟩)) ∧ (D 8 → v36 = .int .i64 seq) ∧ (D 9 → v37 = .slice (some ⟨gb, go, none⟩) n c) ∧ (D 10 → v38 = .agg #[.int .i64 life, .int .i64 seq, .slice (some ⟨gb, go, none⟩) n c]) ∧ (D 11 → v6 = .pointer (some ⟨rb, 0, none⟩)) ∧ (D 11 → W.heap.size ≤ rb) ∧ (D 12 → w'.heap[rb]? = some (recO life seq (.slice (some ⟨gb, go, none⟩) n c))) ∧ (D 11 → ¬ D 12 → w'.heap[rb]? = some (.cells #[.int .i64 0, .int .i64 0, .slice none 0 0] 91 (0, 0)))) (by kernel_rfl) (by kernel_rfl) ?mono ?start ?step ?done
  case mono =>
    rintro D D' a w' hD ⟨v28, v29, v30, v31, v32, v33, v34, v35, v36, v37, v38, v6, rb, ha, hB, e0, e1, e2, e3, e4, e5, e6, e7, e8, e9, e10, e11, hrb, hr, hnz⟩
    exact ⟨v28, v29, v30, v31, v32, v33, v34, v35, v36, v37, v38, v6, rb, ha, hB, fun h => e0 ((hD 0).2 h), fun h => e1 ((hD 1).2 h), fun h => e2 ((hD 2).2 h), fun h => e3 ((hD 3).2 h), fun h => e4 ((hD 4).2 h), fun h => e5 ((hD 5).2 h), fun h => e6 ((hD 6).2 h), fun h => e7 ((hD 7).2 h), fun h => e8 ((hD 8).2 h), fun h => e9 ((hD 9).2 h), fun h => e10 ((hD 10).2 h), fun h => e11 ((hD 11).2 h), fun h => hrb ((hD 11).2 h), fun h => hr ((hD 12).2 h), fun h h' => hnz ((hD 11).2 h) (fun k => h' ((hD 12).1 k))⟩
  case start => exact ⟨undef, undef, undef, undef, undef, undef, undef, undef, undef, undef, undef, undef, 0, by kernel_rfl, (Below.refl _ _).drew, fun h => h.elim, fun h => h.elim, fun h => h.elim, fun h => h.elim, fun h => h.elim, fun h => h.elim, fun h => h.elim, fun h => h.elim, fun h => h.elim, fun h => h.elim, fun h => h.elim, fun h => h.elim, fun h => h.elim, fun h => h.elim, fun h _ => h.elim⟩
  case step =>
    intro i o ho D a w' hI hn hcl hd
    obtain ⟨v28, v29, v30, v31, v32, v33, v34, v35, v36, v37, v38, v6, rb, ha, hB, e0, e1, e2, e3, e4, e5, e6, e7, e8, e9, e10, e11, hrb, hr, hnz⟩ := hI
    match i, ho with
    | 0, ho =>
      cases Option.some.inj ho
      have ev : a.tmps[0]?.getD undef = .pointer (some ⟨lb, 0, none⟩) := by rw [ha]; kernel_rfl
      refine wp_value (w' := w') (v := .pointer (some ⟨lb, 0, none⟩)) (by simp [execOp, ev, go_sem]) ?_
      exact ⟨(.pointer (some ⟨lb, 0, none⟩)), v29, v30, v31, v32, v33, v34, v35, v36, v37, v38, v6, rb, by rw [ha]; kernel_rfl, hB, fun _ => rfl, fun h => e1 (h.resolve_left (by decide)), fun h => e2 (h.resolve_left (by decide)), fun h => e3 (h.resolve_left (by decide)), fun h => e4 (h.resolve_left (by decide)), fun h => e5 (h.resolve_left (by decide)), fun h => e6 (h.resolve_left (by decide)), fun h => e7 (h.resolve_left (by decide)), fun h => e8 (h.resolve_left (by decide)), fun h => e9 (h.resolve_left (by decide)), fun h => e10 (h.resolve_left (by decide)), fun h => e11 (h.resolve_left (by decide)), fun h => hrb (h.resolve_left (by decide)), fun h => hr (h.resolve_left (by decide)), fun h h' => hnz (h.resolve_left (by decide)) (fun k => h' (.inr k))⟩
    | 1, ho =>
      cases Option.some.inj ho
      have ev : a.tmps[28]?.getD undef = .pointer (some ⟨lb, 0, none⟩) := by rw [ha, e0 (hd ⟨0, .data⟩ (by simp) rfl)]; kernel_rfl
      refine wp_value (w' := w') (v := .pointer (some ⟨lb, 0, none⟩)) (by simp [execOp, ev, go_sem]) ?_
      exact ⟨v28, (.pointer (some ⟨lb, 0, none⟩)), v30, v31, v32, v33, v34, v35, v36, v37, v38, v6, rb, by rw [ha]; kernel_rfl, hB, fun h => e0 (h.resolve_left (by decide)), fun _ => rfl, fun h => e2 (h.resolve_left (by decide)), fun h => e3 (h.resolve_left (by decide)), fun h => e4 (h.resolve_left (by decide)), fun h => e5 (h.resolve_left (by decide)), fun h => e6 (h.resolve_left (by decide)), fun h => e7 (h.resolve_left (by decide)), fun h => e8 (h.resolve_left (by decide)), fun h => e9 (h.resolve_left (by decide)), fun h => e10 (h.resolve_left (by decide)), fun h => e11 (h.resolve_left (by decide)), fun h => hrb (h.resolve_left (by decide)), fun h => hr (h.resolve_left (by decide)), fun h h' => hnz (h.resolve_left (by decide)) (fun k => h' (.inr k))⟩
    | 2, ho =>
      cases Option.some.inj ho
      have ev : a.tmps[29]?.getD undef = .pointer (some ⟨lb, 0, none⟩) := by rw [ha, e1 (hd ⟨1, .data⟩ (by simp) rfl)]; kernel_rfl
      refine wp_value (w' := w') (v := .pointer (some ⟨lb, 1, none⟩)) (by simp [execOp, ev, go_sem]) ?_
      exact ⟨v28, v29, (.pointer (some ⟨lb, 1, none⟩)), v31, v32, v33, v34, v35, v36, v37, v38, v6, rb, by rw [ha]; kernel_rfl, hB, fun h => e0 (h.resolve_left (by decide)), fun h => e1 (h.resolve_left (by decide)), fun _ => rfl, fun h => e3 (h.resolve_left (by decide)), fun h => e4 (h.resolve_left (by decide)), fun h => e5 (h.resolve_left (by decide)), fun h => e6 (h.resolve_left (by decide)), fun h => e7 (h.resolve_left (by decide)), fun h => e8 (h.resolve_left (by decide)), fun h => e9 (h.resolve_left (by decide)), fun h => e10 (h.resolve_left (by decide)), fun h => e11 (h.resolve_left (by decide)), fun h => hrb (h.resolve_left (by decide)), fun h => hr (h.resolve_left (by decide)), fun h h' => hnz (h.resolve_left (by decide)) (fun k => h' (.inr k))⟩
    | 3, ho =>
      cases Option.some.inj ho
      have ev : a.tmps[30]?.getD undef = .pointer (some ⟨lb, 1, none⟩) := by rw [ha, e2 (hd ⟨2, .data⟩ (by simp) rfl)]; kernel_rfl
      refine wp_value (w' := w') (v := .pointer (some ⟨lb, 1, none⟩)) (by simp [execOp, ev, go_sem]) ?_
      exact ⟨v28, v29, v30, (.pointer (some ⟨lb, 1, none⟩)), v32, v33, v34, v35, v36, v37, v38, v6, rb, by rw [ha]; kernel_rfl, hB, fun h => e0 (h.resolve_left (by decide)), fun h => e1 (h.resolve_left (by decide)), fun h => e2 (h.resolve_left (by decide)), fun _ => rfl, fun h => e4 (h.resolve_left (by decide)), fun h => e5 (h.resolve_left (by decide)), fun h => e6 (h.resolve_left (by decide)), fun h => e7 (h.resolve_left (by decide)), fun h => e8 (h.resolve_left (by decide)), fun h => e9 (h.resolve_left (by decide)), fun h => e10 (h.resolve_left (by decide)), fun h => e11 (h.resolve_left (by decide)), fun h => hrb (h.resolve_left (by decide)), fun h => hr (h.resolve_left (by decide)), fun h h' => hnz (h.resolve_left (by decide)) (fun k => h' (.inr k))⟩
    | 4, ho =>
      cases Option.some.inj ho
      have ev : a.tmps[31]?.getD undef = .pointer (some ⟨lb, 1, none⟩) := by rw [ha, e3 (hd ⟨3, .data⟩ (by simp) rfl)]; kernel_rfl
      have hc := (log_cells ((hB.block lb (lt_of_block hl)).trans hl)).2.1
      refine wp_value (w' := w') (v := .int .i64 life) (by simp [execOp, ev, go_sem, hc]) ?_
      exact ⟨v28, v29, v30, v31, (.int .i64 life), v33, v34, v35, v36, v37, v38, v6, rb, by rw [ha]; kernel_rfl, hB, fun h => e0 (h.resolve_left (by decide)), fun h => e1 (h.resolve_left (by decide)), fun h => e2 (h.resolve_left (by decide)), fun h => e3 (h.resolve_left (by decide)), fun _ => rfl, fun h => e5 (h.resolve_left (by decide)), fun h => e6 (h.resolve_left (by decide)), fun h => e7 (h.resolve_left (by decide)), fun h => e8 (h.resolve_left (by decide)), fun h => e9 (h.resolve_left (by decide)), fun h => e10 (h.resolve_left (by decide)), fun h => e11 (h.resolve_left (by decide)), fun h => hrb (h.resolve_left (by decide)), fun h => hr (h.resolve_left (by decide)), fun h h' => hnz (h.resolve_left (by decide)) (fun k => h' (.inr k))⟩
    | 5, ho =>
      cases Option.some.inj ho
      have ev : a.tmps[0]?.getD undef = .pointer (some ⟨lb, 0, none⟩) := by rw [ha]; kernel_rfl
      refine wp_value (w' := w') (v := .pointer (some ⟨lb, 0, none⟩)) (by simp [execOp, ev, go_sem]) ?_
      exact ⟨v28, v29, v30, v31, v32, (.pointer (some ⟨lb, 0, none⟩)), v34, v35, v36, v37, v38, v6, rb, by rw [ha]; kernel_rfl, hB, fun h => e0 (h.resolve_left (by decide)), fun h => e1 (h.resolve_left (by decide)), fun h => e2 (h.resolve_left (by decide)), fun h => e3 (h.resolve_left (by decide)), fun h => e4 (h.resolve_left (by decide)), fun _ => rfl, fun h => e6 (h.resolve_left (by decide)), fun h => e7 (h.resolve_left (by decide)), fun h => e8 (h.resolve_left (by decide)), fun h => e9 (h.resolve_left (by decide)), fun h => e10 (h.resolve_left (by decide)), fun h => e11 (h.resolve_left (by decide)), fun h => hrb (h.resolve_left (by decide)), fun h => hr (h.resolve_left (by decide)), fun h h' => hnz (h.resolve_left (by decide)) (fun k => h' (.inr k))⟩
    | 6, ho =>
      cases Option.some.inj ho
      have ev : a.tmps[33]?.getD undef = .pointer (some ⟨lb, 0, none⟩) := by rw [ha, e5 (hd ⟨5, .data⟩ (by simp) rfl)]; kernel_rfl
      refine wp_value (w' := w') (v := .pointer (some ⟨lb, 0, none⟩)) (by simp [execOp, ev, go_sem]) ?_
      exact ⟨v28, v29, v30, v31, v32, v33, (.pointer (some ⟨lb, 0, none⟩)), v35, v36, v37, v38, v6, rb, by rw [ha]; kernel_rfl, hB, fun h => e0 (h.resolve_left (by decide)), fun h => e1 (h.resolve_left (by decide)), fun h => e2 (h.resolve_left (by decide)), fun h => e3 (h.resolve_left (by decide)), fun h => e4 (h.resolve_left (by decide)), fun h => e5 (h.resolve_left (by decide)), fun _ => rfl, fun h => e7 (h.resolve_left (by decide)), fun h => e8 (h.resolve_left (by decide)), fun h => e9 (h.resolve_left (by decide)), fun h => e10 (h.resolve_left (by decide)), fun h => e11 (h.resolve_left (by decide)), fun h => hrb (h.resolve_left (by decide)), fun h => hr (h.resolve_left (by decide)), fun h h' => hnz (h.resolve_left (by decide)) (fun k => h' (.inr k))⟩
    | 7, ho =>
      cases Option.some.inj ho
      have ev : a.tmps[34]?.getD undef = .pointer (some ⟨lb, 0, none⟩) := by rw [ha, e6 (hd ⟨6, .data⟩ (by simp) rfl)]; kernel_rfl
      refine wp_value (w' := w') (v := .pointer (some ⟨lb, 5, none⟩)) (by simp [execOp, ev, go_sem]) ?_
      exact ⟨v28, v29, v30, v31, v32, v33, v34, (.pointer (some ⟨lb, 5, none⟩)), v36, v37, v38, v6, rb, by rw [ha]; kernel_rfl, hB, fun h => e0 (h.resolve_left (by decide)), fun h => e1 (h.resolve_left (by decide)), fun h => e2 (h.resolve_left (by decide)), fun h => e3 (h.resolve_left (by decide)), fun h => e4 (h.resolve_left (by decide)), fun h => e5 (h.resolve_left (by decide)), fun h => e6 (h.resolve_left (by decide)), fun _ => rfl, fun h => e8 (h.resolve_left (by decide)), fun h => e9 (h.resolve_left (by decide)), fun h => e10 (h.resolve_left (by decide)), fun h => e11 (h.resolve_left (by decide)), fun h => hrb (h.resolve_left (by decide)), fun h => hr (h.resolve_left (by decide)), fun h h' => hnz (h.resolve_left (by decide)) (fun k => h' (.inr k))⟩
    | 8, ho =>
      cases Option.some.inj ho
      have ev : a.tmps[35]?.getD undef = .pointer (some ⟨lb, 5, none⟩) := by rw [ha, e7 (hd ⟨7, .data⟩ (by simp) rfl)]; kernel_rfl
      have hc := (log_cells ((hB.block lb (lt_of_block hl)).trans hl)).2.2.2.2.2.1
      refine wp_value (w' := w') (v := .int .i64 seq) (by simp [execOp, ev, go_sem, hc]) ?_
      exact ⟨v28, v29, v30, v31, v32, v33, v34, v35, (.int .i64 seq), v37, v38, v6, rb, by rw [ha]; kernel_rfl, hB, fun h => e0 (h.resolve_left (by decide)), fun h => e1 (h.resolve_left (by decide)), fun h => e2 (h.resolve_left (by decide)), fun h => e3 (h.resolve_left (by decide)), fun h => e4 (h.resolve_left (by decide)), fun h => e5 (h.resolve_left (by decide)), fun h => e6 (h.resolve_left (by decide)), fun h => e7 (h.resolve_left (by decide)), fun _ => rfl, fun h => e9 (h.resolve_left (by decide)), fun h => e10 (h.resolve_left (by decide)), fun h => e11 (h.resolve_left (by decide)), fun h => hrb (h.resolve_left (by decide)), fun h => hr (h.resolve_left (by decide)), fun h h' => hnz (h.resolve_left (by decide)) (fun k => h' (.inr k))⟩
    | 9, ho =>
      cases Option.some.inj ho
      have ev : a.tmps[1]?.getD undef = .slice (some ⟨gb, go, none⟩) n c := by rw [ha]; kernel_rfl
      refine wp_value (w' := w') (v := .slice (some ⟨gb, go, none⟩) n c) (by simp [execOp, ev, go_sem]) ?_
      exact ⟨v28, v29, v30, v31, v32, v33, v34, v35, v36, (.slice (some ⟨gb, go, none⟩) n c), v38, v6, rb, by rw [ha]; kernel_rfl, hB, fun h => e0 (h.resolve_left (by decide)), fun h => e1 (h.resolve_left (by decide)), fun h => e2 (h.resolve_left (by decide)), fun h => e3 (h.resolve_left (by decide)), fun h => e4 (h.resolve_left (by decide)), fun h => e5 (h.resolve_left (by decide)), fun h => e6 (h.resolve_left (by decide)), fun h => e7 (h.resolve_left (by decide)), fun h => e8 (h.resolve_left (by decide)), fun _ => rfl, fun h => e10 (h.resolve_left (by decide)), fun h => e11 (h.resolve_left (by decide)), fun h => hrb (h.resolve_left (by decide)), fun h => hr (h.resolve_left (by decide)), fun h h' => hnz (h.resolve_left (by decide)) (fun k => h' (.inr k))⟩
    | 10, ho =>
      cases Option.some.inj ho
      have ev : a.tmps[32]?.getD undef = .int .i64 life := by rw [ha, e4 (hd ⟨4, .data⟩ (by simp) rfl)]; kernel_rfl
      have ev' : a.tmps[36]?.getD undef = .int .i64 seq := by rw [ha, e8 (hd ⟨8, .data⟩ (by simp) rfl)]; kernel_rfl
      have ev'' : a.tmps[37]?.getD undef = .slice (some ⟨gb, go, none⟩) n c := by rw [ha, e9 (hd ⟨9, .data⟩ (by simp) rfl)]; kernel_rfl
      refine wp_value (w' := w') (v := .agg #[.int .i64 life, .int .i64 seq, .slice (some ⟨gb, go, none⟩) n c]) (by simp [execOp, ev, ev', ev'', go_sem]) ?_
      exact ⟨v28, v29, v30, v31, v32, v33, v34, v35, v36, v37, (.agg #[.int .i64 life, .int .i64 seq, .slice (some ⟨gb, go, none⟩) n c]), v6, rb, by rw [ha]; kernel_rfl, hB, fun h => e0 (h.resolve_left (by decide)), fun h => e1 (h.resolve_left (by decide)), fun h => e2 (h.resolve_left (by decide)), fun h => e3 (h.resolve_left (by decide)), fun h => e4 (h.resolve_left (by decide)), fun h => e5 (h.resolve_left (by decide)), fun h => e6 (h.resolve_left (by decide)), fun h => e7 (h.resolve_left (by decide)), fun h => e8 (h.resolve_left (by decide)), fun h => e9 (h.resolve_left (by decide)), fun _ => rfl, fun h => e11 (h.resolve_left (by decide)), fun h => hrb (h.resolve_left (by decide)), fun h => hr (h.resolve_left (by decide)), fun h h' => hnz (h.resolve_left (by decide)) (fun k => h' (.inr k))⟩
    | 11, ho =>
      cases Option.some.inj ho
      refine wp_value (w' := w'.alloc (.cells #[.int .i64 0, .int .i64 0, .slice none 0 0] 91)) (v := .pointer (some ⟨w'.heap.size, 0, none⟩)) (by simp [execOp, go_sem]) ?_
      exact ⟨v28, v29, v30, v31, v32, v33, v34, v35, v36, v37, v38, (.pointer (some ⟨w'.heap.size, 0, none⟩)), w'.heap.size, by rw [ha]; kernel_rfl, hB.alloc hB.size _, fun h => e0 (h.resolve_left (by decide)), fun h => e1 (h.resolve_left (by decide)), fun h => e2 (h.resolve_left (by decide)), fun h => e3 (h.resolve_left (by decide)), fun h => e4 (h.resolve_left (by decide)), fun h => e5 (h.resolve_left (by decide)), fun h => e6 (h.resolve_left (by decide)), fun h => e7 (h.resolve_left (by decide)), fun h => e8 (h.resolve_left (by decide)), fun h => e9 (h.resolve_left (by decide)), fun h => e10 (h.resolve_left (by decide)), fun _ => rfl, fun _ => hB.size, fun h => absurd (h.resolve_left (by decide)) (fun h => hn (hcl 12 _ rfl h ⟨11, .data⟩ (by simp) rfl)), fun _ _ => heap_alloc_new _ _⟩
    | 12, ho =>
      cases Option.some.inj ho
      have ev : a.tmps[6]?.getD undef = .pointer (some ⟨rb, 0, none⟩) := by rw [ha, e11 (hd ⟨11, .data⟩ (by simp) rfl)]; kernel_rfl
      have ev' : a.tmps[38]?.getD undef = .agg #[.int .i64 life, .int .i64 seq, .slice (some ⟨gb, go, none⟩) n c] := by rw [ha, e10 (hd ⟨10, .data⟩ (by simp) rfl)]; kernel_rfl
      have hz := hnz (hd ⟨11, .data⟩ (by simp) rfl) hn
      have hrb' := hrb (hd ⟨11, .data⟩ (by simp) rfl)
      refine wp_store_row 91 (.tmp 6) (.tmp 38) rfl rb #[.int .i64 life, .int .i64 seq, .slice (some ⟨gb, go, none⟩) n c] (eval_of ev) (eval_of ev') 91 _ hz (by kernel_rfl) rfl (by simp [Value.oneCell']) ?_
      exact ⟨v28, v29, v30, v31, v32, v33, v34, v35, v36, v37, v38, v6, rb, by rw [ha]; kernel_rfl, below_setRow hB hrb' _, fun h => e0 (h.resolve_left (by decide)), fun h => e1 (h.resolve_left (by decide)), fun h => e2 (h.resolve_left (by decide)), fun h => e3 (h.resolve_left (by decide)), fun h => e4 (h.resolve_left (by decide)), fun h => e5 (h.resolve_left (by decide)), fun h => e6 (h.resolve_left (by decide)), fun h => e7 (h.resolve_left (by decide)), fun h => e8 (h.resolve_left (by decide)), fun h => e9 (h.resolve_left (by decide)), fun h => e10 (h.resolve_left (by decide)), fun h => e11 (h.resolve_left (by decide)), fun h => hrb (h.resolve_left (by decide)), fun _ => setRow_heap _ _ _ _ _ _ hz, fun _ h' => absurd (.inl rfl) h'⟩
    | i + 13, ho => simp at ho
  case done =>
    rintro D a w' ⟨v28, v29, v30, v31, v32, v33, v34, v35, v36, v37, v38, v6, rb, ha, hB, e0, e1, e2, e3, e4, e5, e6, e7, e8, e9, e10, e11, hrb, hr, hnz⟩ hall
    have hrb' := hrb (hall 11 (by decide))
    have hr' := hr (hall 12 (by decide))
    obtain rfl := e0 (hall 0 (by decide))
    obtain rfl := e1 (hall 1 (by decide))
    obtain rfl := e2 (hall 2 (by decide))
    obtain rfl := e3 (hall 3 (by decide))
    obtain rfl := e4 (hall 4 (by decide))
    obtain rfl := e5 (hall 5 (by decide))
    obtain rfl := e6 (hall 6 (by decide))
    obtain rfl := e7 (hall 7 (by decide))
    obtain rfl := e8 (hall 8 (by decide))
    obtain rfl := e9 (hall 9 (by decide))
    obtain rfl := e10 (hall 10 (by decide))
    obtain rfl := e11 (hall 11 (by decide))
    clear hrb hr hnz hall e0 e1 e2 e3 e4 e5 e6 e7 e8 e9 e10 e11
    rw [ha]
    clear ha
    simp only [Act.put, List.setIfInBounds_toArray, List.set_cons_zero, List.set_cons_succ]
    have B2 := below_size B1 (Nat.le_refl _) hB
    have hl2 := (hB.block lb (lt_of_block hl)).trans hl
    clear hl B1 hB
    have D2 := D0.same (fun i hi => B2.block i hi)
    have hgb2 : gb < w'.heap.size := Nat.lt_of_lt_of_le hgb B2.size
    have hys2 : ∀ i, i < n → w'.cell? ⟨gb, go + i, none⟩ = some (.int .u8 (ys.getD i 0)) := fun i hi => (B2.cell (p := ⟨gb, go + i, none⟩) hgb).trans (hys i hi)
    go_upto_region 7 with fail
    have hr2 := hr'
    clear hr'
    obtain ⟨W2, rfl⟩ : ∃ W2, W2 = w' := ⟨_, rfl⟩
    refine wp_region_inv' (fun A D a w' => ∃ v39 v40 v41 v42 v43 v44 v45 v46 v47 v48 v49 v50 v51 v52 v53 v54 v55 v7 ob sb er, a = ((((((((((((((((((A.put (some 39) v39).put (some 40) v40).put (some 41) v41).put (some 42) v42).put (some 43) v43).put (some 44) v44).put (some 45) v45).put (some 46) v46).put (some 47) v47).put (some 48) v48).put (some 49) v49).put (some 50) v50).put (some 51) v51).put (some 52) v52).put (some 53) v53).put (some 54) v54).put (some 55) v55).put (some 7) v7) ∧ (D 16 ∨ Below W2.heap.size W2 w') ∧ (D 0 → v39 = .pointer (some ⟨lb, 0, none⟩)) ∧ (D 1 → v40 = .pointer (some ⟨lb, 0, none⟩)) ∧ (D 2 → v41 = .pointer (some ⟨lb, 0, none⟩)) ∧ (D 3 → v42 = .pointer (some ⟨lb, 0, none⟩)) ∧ (D 4 → v43 = .pointer (some ⟨lb, 1, none⟩)) ∧ (D 5 → v44 = .pointer (some ⟨lb, 2, none⟩)) ∧ (D 6 → v45 = .int .i64 half) ∧ (D 7 → v46 = .int .i64 (2 + half * hs)) ∧ (D 8 → v47 = .pointer (some ⟨lb, 0, none⟩)) ∧ (D 9 → v48 = .pointer (some ⟨lb, 0, none⟩)) ∧ (D 10 → v49 = .pointer (some ⟨lb, 7, none⟩)) ∧ (D 11 → v50 = .int .i64 used) ∧ (D 12 → v51 = .int .i64 at') ∧ (D 13 → v52 = .agg #[.int .i64 life, .int .i64 seq, .slice (some ⟨gb, go, none⟩) n c]) ∧ (D 14 → v53 = .slice (some ⟨ob, 0, none⟩) (K * 128) (K * 128)) ∧ (D 14 → W2.heap.size ≤ ob ∧ w'.heap[ob]? = some (.cells (cellsB (recB life seq ys)) 5 (0, 0))) ∧ (D 15 → v54 = .slice (some ⟨sb, 0, none⟩) 1 1) ∧ (D 15 → w'.heap[sb]? = some (.cells #[.slice (some ⟨ob, 0, none⟩) (K * 128) (K * 128)] 38 (0, 0))) ∧ (D 16 → v55 = .int .i64 er) ∧ (D 16 → Wrote W2 n₀ p bs bn pv size G0 G1 L left lb (logO p life half first since seq hs used) (wsL at' [recB life seq ys]) er w') ∧ (D 17 → v7 = .int .i64 er)) (by kernel_rfl) (by kernel_rfl) ?mono ?start ?step ?done
    case mono =>
      rintro D D' a w' hD ⟨v39, v40, v41, v42, v43, v44, v45, v46, v47, v48, v49, v50, v51, v52, v53, v54, v55, v7, ob, sb, er, ha, hB, e0, e1, e2, e3, e4, e5, e6, e7, e8, e9, e10, e11, e12, e13, e14, h14, e15, h15, e16, hz, e17⟩
      exact ⟨v39, v40, v41, v42, v43, v44, v45, v46, v47, v48, v49, v50, v51, v52, v53, v54, v55, v7, ob, sb, er, ha, hB.imp_left (hD 16).1, fun h => e0 ((hD 0).2 h), fun h => e1 ((hD 1).2 h), fun h => e2 ((hD 2).2 h), fun h => e3 ((hD 3).2 h), fun h => e4 ((hD 4).2 h), fun h => e5 ((hD 5).2 h), fun h => e6 ((hD 6).2 h), fun h => e7 ((hD 7).2 h), fun h => e8 ((hD 8).2 h), fun h => e9 ((hD 9).2 h), fun h => e10 ((hD 10).2 h), fun h => e11 ((hD 11).2 h), fun h => e12 ((hD 12).2 h), fun h => e13 ((hD 13).2 h), fun h => e14 ((hD 14).2 h), fun h => h14 ((hD 14).2 h), fun h => e15 ((hD 15).2 h), fun h => h15 ((hD 15).2 h), fun h => e16 ((hD 16).2 h), fun h => hz ((hD 16).2 h), fun h => e17 ((hD 17).2 h)⟩
    case start => exact ⟨undef, undef, undef, undef, undef, undef, undef, undef, undef, undef, undef, undef, undef, undef, undef, undef, undef, undef, 0, 0, 0, by kernel_rfl, .inr ((Below.refl _ _).drew), fun h => h.elim, fun h => h.elim, fun h => h.elim, fun h => h.elim, fun h => h.elim, fun h => h.elim, fun h => h.elim, fun h => h.elim, fun h => h.elim, fun h => h.elim, fun h => h.elim, fun h => h.elim, fun h => h.elim, fun h => h.elim, fun h => h.elim, fun h => h.elim, fun h => h.elim, fun h => h.elim, fun h => h.elim, fun h => h.elim, fun h => h.elim⟩
    case step =>
      intro i o ho D a w' hI hn hcl hd
      obtain ⟨v39, v40, v41, v42, v43, v44, v45, v46, v47, v48, v49, v50, v51, v52, v53, v54, v55, v7, ob, sb, er, ha, hB, e0, e1, e2, e3, e4, e5, e6, e7, e8, e9, e10, e11, e12, e13, e14, h14, e15, h15, e16, hz, e17⟩ := hI
      match i, ho with
      | 0, ho =>
        cases Option.some.inj ho
        have ev : a.tmps[0]?.getD undef = .pointer (some ⟨lb, 0, none⟩) := by rw [ha]; kernel_rfl
        refine wp_value (w' := w') (v := .pointer (some ⟨lb, 0, none⟩)) (by simp [execOp, ev, go_sem]) ?_
        exact ⟨(.pointer (some ⟨lb, 0, none⟩)), v40, v41, v42, v43, v44, v45, v46, v47, v48, v49, v50, v51, v52, v53, v54, v55, v7, ob, sb, er, by rw [ha]; kernel_rfl, hB.imp_left .inr, fun _ => rfl, fun h => e1 (h.resolve_left (by decide)), fun h => e2 (h.resolve_left (by decide)), fun h => e3 (h.resolve_left (by decide)), fun h => e4 (h.resolve_left (by decide)), fun h => e5 (h.resolve_left (by decide)), fun h => e6 (h.resolve_left (by decide)), fun h => e7 (h.resolve_left (by decide)), fun h => e8 (h.resolve_left (by decide)), fun h => e9 (h.resolve_left (by decide)), fun h => e10 (h.resolve_left (by decide)), fun h => e11 (h.resolve_left (by decide)), fun h => e12 (h.resolve_left (by decide)), fun h => e13 (h.resolve_left (by decide)), fun h => e14 (h.resolve_left (by decide)), fun h => h14 (h.resolve_left (by decide)), fun h => e15 (h.resolve_left (by decide)), fun h => h15 (h.resolve_left (by decide)), fun h => e16 (h.resolve_left (by decide)), fun h => hz (h.resolve_left (by decide)), fun h => e17 (h.resolve_left (by decide))⟩
      | 1, ho =>
        cases Option.some.inj ho
        have ev : a.tmps[0]?.getD undef = .pointer (some ⟨lb, 0, none⟩) := by rw [ha]; kernel_rfl
        refine wp_value (w' := w') (v := .pointer (some ⟨lb, 0, none⟩)) (by simp [execOp, ev, go_sem]) ?_
        exact ⟨v39, (.pointer (some ⟨lb, 0, none⟩)), v41, v42, v43, v44, v45, v46, v47, v48, v49, v50, v51, v52, v53, v54, v55, v7, ob, sb, er, by rw [ha]; kernel_rfl, hB.imp_left .inr, fun h => e0 (h.resolve_left (by decide)), fun _ => rfl, fun h => e2 (h.resolve_left (by decide)), fun h => e3 (h.resolve_left (by decide)), fun h => e4 (h.resolve_left (by decide)), fun h => e5 (h.resolve_left (by decide)), fun h => e6 (h.resolve_left (by decide)), fun h => e7 (h.resolve_left (by decide)), fun h => e8 (h.resolve_left (by decide)), fun h => e9 (h.resolve_left (by decide)), fun h => e10 (h.resolve_left (by decide)), fun h => e11 (h.resolve_left (by decide)), fun h => e12 (h.resolve_left (by decide)), fun h => e13 (h.resolve_left (by decide)), fun h => e14 (h.resolve_left (by decide)), fun h => h14 (h.resolve_left (by decide)), fun h => e15 (h.resolve_left (by decide)), fun h => h15 (h.resolve_left (by decide)), fun h => e16 (h.resolve_left (by decide)), fun h => hz (h.resolve_left (by decide)), fun h => e17 (h.resolve_left (by decide))⟩
      | 2, ho =>
        cases Option.some.inj ho
        have ev : a.tmps[0]?.getD undef = .pointer (some ⟨lb, 0, none⟩) := by rw [ha]; kernel_rfl
        refine wp_value (w' := w') (v := .pointer (some ⟨lb, 0, none⟩)) (by simp [execOp, ev, go_sem]) ?_
        exact ⟨v39, v40, (.pointer (some ⟨lb, 0, none⟩)), v42, v43, v44, v45, v46, v47, v48, v49, v50, v51, v52, v53, v54, v55, v7, ob, sb, er, by rw [ha]; kernel_rfl, hB.imp_left .inr, fun h => e0 (h.resolve_left (by decide)), fun h => e1 (h.resolve_left (by decide)), fun _ => rfl, fun h => e3 (h.resolve_left (by decide)), fun h => e4 (h.resolve_left (by decide)), fun h => e5 (h.resolve_left (by decide)), fun h => e6 (h.resolve_left (by decide)), fun h => e7 (h.resolve_left (by decide)), fun h => e8 (h.resolve_left (by decide)), fun h => e9 (h.resolve_left (by decide)), fun h => e10 (h.resolve_left (by decide)), fun h => e11 (h.resolve_left (by decide)), fun h => e12 (h.resolve_left (by decide)), fun h => e13 (h.resolve_left (by decide)), fun h => e14 (h.resolve_left (by decide)), fun h => h14 (h.resolve_left (by decide)), fun h => e15 (h.resolve_left (by decide)), fun h => h15 (h.resolve_left (by decide)), fun h => e16 (h.resolve_left (by decide)), fun h => hz (h.resolve_left (by decide)), fun h => e17 (h.resolve_left (by decide))⟩
      | 3, ho =>
        cases Option.some.inj ho
        have ev : a.tmps[41]?.getD undef = .pointer (some ⟨lb, 0, none⟩) := by rw [ha, e2 (hd ⟨2, .data⟩ (by simp) rfl)]; kernel_rfl
        refine wp_value (w' := w') (v := .pointer (some ⟨lb, 0, none⟩)) (by simp [execOp, ev, go_sem]) ?_
        exact ⟨v39, v40, v41, (.pointer (some ⟨lb, 0, none⟩)), v43, v44, v45, v46, v47, v48, v49, v50, v51, v52, v53, v54, v55, v7, ob, sb, er, by rw [ha]; kernel_rfl, hB.imp_left .inr, fun h => e0 (h.resolve_left (by decide)), fun h => e1 (h.resolve_left (by decide)), fun h => e2 (h.resolve_left (by decide)), fun _ => rfl, fun h => e4 (h.resolve_left (by decide)), fun h => e5 (h.resolve_left (by decide)), fun h => e6 (h.resolve_left (by decide)), fun h => e7 (h.resolve_left (by decide)), fun h => e8 (h.resolve_left (by decide)), fun h => e9 (h.resolve_left (by decide)), fun h => e10 (h.resolve_left (by decide)), fun h => e11 (h.resolve_left (by decide)), fun h => e12 (h.resolve_left (by decide)), fun h => e13 (h.resolve_left (by decide)), fun h => e14 (h.resolve_left (by decide)), fun h => h14 (h.resolve_left (by decide)), fun h => e15 (h.resolve_left (by decide)), fun h => h15 (h.resolve_left (by decide)), fun h => e16 (h.resolve_left (by decide)), fun h => hz (h.resolve_left (by decide)), fun h => e17 (h.resolve_left (by decide))⟩
      | 4, ho =>
        cases Option.some.inj ho
        have ev : a.tmps[42]?.getD undef = .pointer (some ⟨lb, 0, none⟩) := by rw [ha, e3 (hd ⟨3, .data⟩ (by simp) rfl)]; kernel_rfl
        refine wp_value (w' := w') (v := .pointer (some ⟨lb, 1, none⟩)) (by simp [execOp, ev, go_sem]) ?_
        exact ⟨v39, v40, v41, v42, (.pointer (some ⟨lb, 1, none⟩)), v44, v45, v46, v47, v48, v49, v50, v51, v52, v53, v54, v55, v7, ob, sb, er, by rw [ha]; kernel_rfl, hB.imp_left .inr, fun h => e0 (h.resolve_left (by decide)), fun h => e1 (h.resolve_left (by decide)), fun h => e2 (h.resolve_left (by decide)), fun h => e3 (h.resolve_left (by decide)), fun _ => rfl, fun h => e5 (h.resolve_left (by decide)), fun h => e6 (h.resolve_left (by decide)), fun h => e7 (h.resolve_left (by decide)), fun h => e8 (h.resolve_left (by decide)), fun h => e9 (h.resolve_left (by decide)), fun h => e10 (h.resolve_left (by decide)), fun h => e11 (h.resolve_left (by decide)), fun h => e12 (h.resolve_left (by decide)), fun h => e13 (h.resolve_left (by decide)), fun h => e14 (h.resolve_left (by decide)), fun h => h14 (h.resolve_left (by decide)), fun h => e15 (h.resolve_left (by decide)), fun h => h15 (h.resolve_left (by decide)), fun h => e16 (h.resolve_left (by decide)), fun h => hz (h.resolve_left (by decide)), fun h => e17 (h.resolve_left (by decide))⟩
      | 5, ho =>
        cases Option.some.inj ho
        have ev : a.tmps[43]?.getD undef = .pointer (some ⟨lb, 1, none⟩) := by rw [ha, e4 (hd ⟨4, .data⟩ (by simp) rfl)]; kernel_rfl
        refine wp_value (w' := w') (v := .pointer (some ⟨lb, 2, none⟩)) (by simp [execOp, ev, go_sem]) ?_
        exact ⟨v39, v40, v41, v42, v43, (.pointer (some ⟨lb, 2, none⟩)), v45, v46, v47, v48, v49, v50, v51, v52, v53, v54, v55, v7, ob, sb, er, by rw [ha]; kernel_rfl, hB.imp_left .inr, fun h => e0 (h.resolve_left (by decide)), fun h => e1 (h.resolve_left (by decide)), fun h => e2 (h.resolve_left (by decide)), fun h => e3 (h.resolve_left (by decide)), fun h => e4 (h.resolve_left (by decide)), fun _ => rfl, fun h => e6 (h.resolve_left (by decide)), fun h => e7 (h.resolve_left (by decide)), fun h => e8 (h.resolve_left (by decide)), fun h => e9 (h.resolve_left (by decide)), fun h => e10 (h.resolve_left (by decide)), fun h => e11 (h.resolve_left (by decide)), fun h => e12 (h.resolve_left (by decide)), fun h => e13 (h.resolve_left (by decide)), fun h => e14 (h.resolve_left (by decide)), fun h => h14 (h.resolve_left (by decide)), fun h => e15 (h.resolve_left (by decide)), fun h => h15 (h.resolve_left (by decide)), fun h => e16 (h.resolve_left (by decide)), fun h => hz (h.resolve_left (by decide)), fun h => e17 (h.resolve_left (by decide))⟩
      | 6, ho =>
        cases Option.some.inj ho
        have ev : a.tmps[44]?.getD undef = .pointer (some ⟨lb, 2, none⟩) := by rw [ha, e5 (hd ⟨5, .data⟩ (by simp) rfl)]; kernel_rfl
        have hb4 := hB.resolve_left (fun h => (fun h => (fun h => hn (hcl 7 _ rfl h ⟨6, .data⟩ (by simp) rfl)) (hcl 12 _ rfl h ⟨7, .data⟩ (by simp) rfl)) (hcl 16 _ rfl h ⟨12, .data⟩ (by simp) rfl))
        have hc := (log_cells ((hb4.block lb (lt_of_block hl2)).trans hl2)).2.2.1
        refine wp_value (w' := w') (v := .int .i64 half) (by simp [execOp, ev, go_sem, hc]) ?_
        exact ⟨v39, v40, v41, v42, v43, v44, (.int .i64 half), v46, v47, v48, v49, v50, v51, v52, v53, v54, v55, v7, ob, sb, er, by rw [ha]; kernel_rfl, hB.imp_left .inr, fun h => e0 (h.resolve_left (by decide)), fun h => e1 (h.resolve_left (by decide)), fun h => e2 (h.resolve_left (by decide)), fun h => e3 (h.resolve_left (by decide)), fun h => e4 (h.resolve_left (by decide)), fun h => e5 (h.resolve_left (by decide)), fun _ => rfl, fun h => e7 (h.resolve_left (by decide)), fun h => e8 (h.resolve_left (by decide)), fun h => e9 (h.resolve_left (by decide)), fun h => e10 (h.resolve_left (by decide)), fun h => e11 (h.resolve_left (by decide)), fun h => e12 (h.resolve_left (by decide)), fun h => e13 (h.resolve_left (by decide)), fun h => e14 (h.resolve_left (by decide)), fun h => h14 (h.resolve_left (by decide)), fun h => e15 (h.resolve_left (by decide)), fun h => h15 (h.resolve_left (by decide)), fun h => e16 (h.resolve_left (by decide)), fun h => hz (h.resolve_left (by decide)), fun h => e17 (h.resolve_left (by decide))⟩
      | 7, ho =>
        cases Option.some.inj ho
        have ev : a.tmps[40]?.getD undef = .pointer (some ⟨lb, 0, none⟩) := by rw [ha, e1 (hd ⟨1, .data⟩ (by simp) rfl)]; kernel_rfl
        have ev' : a.tmps[45]?.getD undef = .int .i64 half := by rw [ha, e6 (hd ⟨6, .data⟩ (by simp) rfl)]; kernel_rfl
        have hb4 := hB.resolve_left (fun h => (fun h => hn (hcl 12 _ rfl h ⟨7, .data⟩ (by simp) rfl)) (hcl 16 _ rfl h ⟨12, .data⟩ (by simp) rfl))
        refine wp_enter (f := 55) (args := #[.pointer (some ⟨lb, 0, none⟩), .int .i64 half]) (by simp [execOp, ev, ev', go_sem]) ?_
        refine (start_any ((hb4.block lb (lt_of_block hl2)).trans hl2) half hhalf hh0 hh1).mono ?_
        rintro e w6 ⟨rfl, rfl⟩
        refine ⟨_, rfl, ?_⟩
        exact ⟨v39, v40, v41, v42, v43, v44, v45, (.int .i64 (2 + half * hs)), v47, v48, v49, v50, v51, v52, v53, v54, v55, v7, ob, sb, er, by rw [ha]; kernel_rfl, hB.imp_left .inr, fun h => e0 (h.resolve_left (by decide)), fun h => e1 (h.resolve_left (by decide)), fun h => e2 (h.resolve_left (by decide)), fun h => e3 (h.resolve_left (by decide)), fun h => e4 (h.resolve_left (by decide)), fun h => e5 (h.resolve_left (by decide)), fun h => e6 (h.resolve_left (by decide)), fun _ => rfl, fun h => e8 (h.resolve_left (by decide)), fun h => e9 (h.resolve_left (by decide)), fun h => e10 (h.resolve_left (by decide)), fun h => e11 (h.resolve_left (by decide)), fun h => e12 (h.resolve_left (by decide)), fun h => e13 (h.resolve_left (by decide)), fun h => e14 (h.resolve_left (by decide)), fun h => h14 (h.resolve_left (by decide)), fun h => e15 (h.resolve_left (by decide)), fun h => h15 (h.resolve_left (by decide)), fun h => e16 (h.resolve_left (by decide)), fun h => hz (h.resolve_left (by decide)), fun h => e17 (h.resolve_left (by decide))⟩
      | 8, ho =>
        cases Option.some.inj ho
        have ev : a.tmps[0]?.getD undef = .pointer (some ⟨lb, 0, none⟩) := by rw [ha]; kernel_rfl
        refine wp_value (w' := w') (v := .pointer (some ⟨lb, 0, none⟩)) (by simp [execOp, ev, go_sem]) ?_
        exact ⟨v39, v40, v41, v42, v43, v44, v45, v46, (.pointer (some ⟨lb, 0, none⟩)), v48, v49, v50, v51, v52, v53, v54, v55, v7, ob, sb, er, by rw [ha]; kernel_rfl, hB.imp_left .inr, fun h => e0 (h.resolve_left (by decide)), fun h => e1 (h.resolve_left (by decide)), fun h => e2 (h.resolve_left (by decide)), fun h => e3 (h.resolve_left (by decide)), fun h => e4 (h.resolve_left (by decide)), fun h => e5 (h.resolve_left (by decide)), fun h => e6 (h.resolve_left (by decide)), fun h => e7 (h.resolve_left (by decide)), fun _ => rfl, fun h => e9 (h.resolve_left (by decide)), fun h => e10 (h.resolve_left (by decide)), fun h => e11 (h.resolve_left (by decide)), fun h => e12 (h.resolve_left (by decide)), fun h => e13 (h.resolve_left (by decide)), fun h => e14 (h.resolve_left (by decide)), fun h => h14 (h.resolve_left (by decide)), fun h => e15 (h.resolve_left (by decide)), fun h => h15 (h.resolve_left (by decide)), fun h => e16 (h.resolve_left (by decide)), fun h => hz (h.resolve_left (by decide)), fun h => e17 (h.resolve_left (by decide))⟩
      | 9, ho =>
        cases Option.some.inj ho
        have ev : a.tmps[47]?.getD undef = .pointer (some ⟨lb, 0, none⟩) := by rw [ha, e8 (hd ⟨8, .data⟩ (by simp) rfl)]; kernel_rfl
        refine wp_value (w' := w') (v := .pointer (some ⟨lb, 0, none⟩)) (by simp [execOp, ev, go_sem]) ?_
        exact ⟨v39, v40, v41, v42, v43, v44, v45, v46, v47, (.pointer (some ⟨lb, 0, none⟩)), v49, v50, v51, v52, v53, v54, v55, v7, ob, sb, er, by rw [ha]; kernel_rfl, hB.imp_left .inr, fun h => e0 (h.resolve_left (by decide)), fun h => e1 (h.resolve_left (by decide)), fun h => e2 (h.resolve_left (by decide)), fun h => e3 (h.resolve_left (by decide)), fun h => e4 (h.resolve_left (by decide)), fun h => e5 (h.resolve_left (by decide)), fun h => e6 (h.resolve_left (by decide)), fun h => e7 (h.resolve_left (by decide)), fun h => e8 (h.resolve_left (by decide)), fun _ => rfl, fun h => e10 (h.resolve_left (by decide)), fun h => e11 (h.resolve_left (by decide)), fun h => e12 (h.resolve_left (by decide)), fun h => e13 (h.resolve_left (by decide)), fun h => e14 (h.resolve_left (by decide)), fun h => h14 (h.resolve_left (by decide)), fun h => e15 (h.resolve_left (by decide)), fun h => h15 (h.resolve_left (by decide)), fun h => e16 (h.resolve_left (by decide)), fun h => hz (h.resolve_left (by decide)), fun h => e17 (h.resolve_left (by decide))⟩
      | 10, ho =>
        cases Option.some.inj ho
        have ev : a.tmps[48]?.getD undef = .pointer (some ⟨lb, 0, none⟩) := by rw [ha, e9 (hd ⟨9, .data⟩ (by simp) rfl)]; kernel_rfl
        refine wp_value (w' := w') (v := .pointer (some ⟨lb, 7, none⟩)) (by simp [execOp, ev, go_sem]) ?_
        exact ⟨v39, v40, v41, v42, v43, v44, v45, v46, v47, v48, (.pointer (some ⟨lb, 7, none⟩)), v50, v51, v52, v53, v54, v55, v7, ob, sb, er, by rw [ha]; kernel_rfl, hB.imp_left .inr, fun h => e0 (h.resolve_left (by decide)), fun h => e1 (h.resolve_left (by decide)), fun h => e2 (h.resolve_left (by decide)), fun h => e3 (h.resolve_left (by decide)), fun h => e4 (h.resolve_left (by decide)), fun h => e5 (h.resolve_left (by decide)), fun h => e6 (h.resolve_left (by decide)), fun h => e7 (h.resolve_left (by decide)), fun h => e8 (h.resolve_left (by decide)), fun h => e9 (h.resolve_left (by decide)), fun _ => rfl, fun h => e11 (h.resolve_left (by decide)), fun h => e12 (h.resolve_left (by decide)), fun h => e13 (h.resolve_left (by decide)), fun h => e14 (h.resolve_left (by decide)), fun h => h14 (h.resolve_left (by decide)), fun h => e15 (h.resolve_left (by decide)), fun h => h15 (h.resolve_left (by decide)), fun h => e16 (h.resolve_left (by decide)), fun h => hz (h.resolve_left (by decide)), fun h => e17 (h.resolve_left (by decide))⟩
      | 11, ho =>
        cases Option.some.inj ho
        have ev : a.tmps[49]?.getD undef = .pointer (some ⟨lb, 7, none⟩) := by rw [ha, e10 (hd ⟨10, .data⟩ (by simp) rfl)]; kernel_rfl
        have hb4 := hB.resolve_left (fun h => (fun h => hn (hcl 12 _ rfl h ⟨11, .data⟩ (by simp) rfl)) (hcl 16 _ rfl h ⟨12, .data⟩ (by simp) rfl))
        have hc := (log_cells ((hb4.block lb (lt_of_block hl2)).trans hl2)).2.2.2.2.2.2.2.1
        refine wp_value (w' := w') (v := .int .i64 used) (by simp [execOp, ev, go_sem, hc]) ?_
        exact ⟨v39, v40, v41, v42, v43, v44, v45, v46, v47, v48, v49, (.int .i64 used), v51, v52, v53, v54, v55, v7, ob, sb, er, by rw [ha]; kernel_rfl, hB.imp_left .inr, fun h => e0 (h.resolve_left (by decide)), fun h => e1 (h.resolve_left (by decide)), fun h => e2 (h.resolve_left (by decide)), fun h => e3 (h.resolve_left (by decide)), fun h => e4 (h.resolve_left (by decide)), fun h => e5 (h.resolve_left (by decide)), fun h => e6 (h.resolve_left (by decide)), fun h => e7 (h.resolve_left (by decide)), fun h => e8 (h.resolve_left (by decide)), fun h => e9 (h.resolve_left (by decide)), fun h => e10 (h.resolve_left (by decide)), fun _ => rfl, fun h => e12 (h.resolve_left (by decide)), fun h => e13 (h.resolve_left (by decide)), fun h => e14 (h.resolve_left (by decide)), fun h => h14 (h.resolve_left (by decide)), fun h => e15 (h.resolve_left (by decide)), fun h => h15 (h.resolve_left (by decide)), fun h => e16 (h.resolve_left (by decide)), fun h => hz (h.resolve_left (by decide)), fun h => e17 (h.resolve_left (by decide))⟩
      | 12, ho =>
        cases Option.some.inj ho
        have ev : a.tmps[46]?.getD undef = .int .i64 (2 + half * hs) := by rw [ha, e7 (hd ⟨7, .data⟩ (by simp) rfl)]; kernel_rfl
        have ev' : a.tmps[50]?.getD undef = .int .i64 used := by rw [ha, e11 (hd ⟨11, .data⟩ (by simp) rfl)]; kernel_rfl
        refine wp_value (w' := w') (v := .int .i64 at') (by simp [execOp, ev, ev', go_sem, hwat]) ?_
        exact ⟨v39, v40, v41, v42, v43, v44, v45, v46, v47, v48, v49, v50, (.int .i64 at'), v52, v53, v54, v55, v7, ob, sb, er, by rw [ha]; kernel_rfl, hB.imp_left .inr, fun h => e0 (h.resolve_left (by decide)), fun h => e1 (h.resolve_left (by decide)), fun h => e2 (h.resolve_left (by decide)), fun h => e3 (h.resolve_left (by decide)), fun h => e4 (h.resolve_left (by decide)), fun h => e5 (h.resolve_left (by decide)), fun h => e6 (h.resolve_left (by decide)), fun h => e7 (h.resolve_left (by decide)), fun h => e8 (h.resolve_left (by decide)), fun h => e9 (h.resolve_left (by decide)), fun h => e10 (h.resolve_left (by decide)), fun h => e11 (h.resolve_left (by decide)), fun _ => rfl, fun h => e13 (h.resolve_left (by decide)), fun h => e14 (h.resolve_left (by decide)), fun h => h14 (h.resolve_left (by decide)), fun h => e15 (h.resolve_left (by decide)), fun h => h15 (h.resolve_left (by decide)), fun h => e16 (h.resolve_left (by decide)), fun h => hz (h.resolve_left (by decide)), fun h => e17 (h.resolve_left (by decide))⟩
      | 13, ho =>
        cases Option.some.inj ho
        have ev : a.tmps[6]?.getD undef = .pointer (some ⟨rb, 0, none⟩) := by rw [ha]; kernel_rfl
        have hb4 := hB.resolve_left (fun h => (fun h => (fun h => hn (hcl 14 _ rfl h ⟨13, .data⟩ (by simp) rfl)) (hcl 15 _ rfl h ⟨14, .data⟩ (by simp) rfl)) (hcl 16 _ rfl h ⟨15, .data⟩ (by simp) rfl))
        refine wp_value (w' := w') (v := .agg #[.int .i64 life, .int .i64 seq, .slice (some ⟨gb, go, none⟩) n c]) (run_load91 (eval_of ev) rfl ((hb4.block rb (lt_of_block hr2)).trans hr2)) ?_
        exact ⟨v39, v40, v41, v42, v43, v44, v45, v46, v47, v48, v49, v50, v51, (.agg #[.int .i64 life, .int .i64 seq, .slice (some ⟨gb, go, none⟩) n c]), v53, v54, v55, v7, ob, sb, er, by rw [ha]; kernel_rfl, hB.imp_left .inr, fun h => e0 (h.resolve_left (by decide)), fun h => e1 (h.resolve_left (by decide)), fun h => e2 (h.resolve_left (by decide)), fun h => e3 (h.resolve_left (by decide)), fun h => e4 (h.resolve_left (by decide)), fun h => e5 (h.resolve_left (by decide)), fun h => e6 (h.resolve_left (by decide)), fun h => e7 (h.resolve_left (by decide)), fun h => e8 (h.resolve_left (by decide)), fun h => e9 (h.resolve_left (by decide)), fun h => e10 (h.resolve_left (by decide)), fun h => e11 (h.resolve_left (by decide)), fun h => e12 (h.resolve_left (by decide)), fun _ => rfl, fun h => e14 (h.resolve_left (by decide)), fun h => h14 (h.resolve_left (by decide)), fun h => e15 (h.resolve_left (by decide)), fun h => h15 (h.resolve_left (by decide)), fun h => e16 (h.resolve_left (by decide)), fun h => hz (h.resolve_left (by decide)), fun h => e17 (h.resolve_left (by decide))⟩
      | 14, ho =>
        cases Option.some.inj ho
        have ev : a.tmps[52]?.getD undef = .agg #[.int .i64 life, .int .i64 seq, .slice (some ⟨gb, go, none⟩) n c] := by rw [ha, e13 (hd ⟨13, .data⟩ (by simp) rfl)]; kernel_rfl
        have hb4 := hB.resolve_left (fun h => (fun h => hn (hcl 15 _ rfl h ⟨14, .data⟩ (by simp) rfl)) (hcl 16 _ rfl h ⟨15, .data⟩ (by simp) rfl))
        refine wp_enter (f := 56) (args := #[.agg #[.int .i64 life, .int .i64 seq, .slice (some ⟨gb, go, none⟩) n c]]) (by simp [execOp, ev, go_sem]) ?_
        refine (recSectors_any life seq hy hn0 hn1 hnc (Nat.lt_of_lt_of_le hgb2 hb4.size) hby (fun i hi => (hb4.cell (p := ⟨gb, go + i, none⟩) hgb2).trans (hys2 i hi))).mono ?_
        rintro e w6 ⟨ob', rfl, hob', hA', HB⟩
        refine ⟨_, rfl, ?_⟩
        rw [hKe.out]
        exact ⟨v39, v40, v41, v42, v43, v44, v45, v46, v47, v48, v49, v50, v51, v52, (.slice (some ⟨ob', 0, none⟩) (K * 128) (K * 128)), v54, v55, v7, ob', sb, er, by rw [ha]; kernel_rfl, hB.imp .inr (fun h => below_size h (Nat.le_refl _) HB), fun h => e0 (h.resolve_left (by decide)), fun h => e1 (h.resolve_left (by decide)), fun h => e2 (h.resolve_left (by decide)), fun h => e3 (h.resolve_left (by decide)), fun h => e4 (h.resolve_left (by decide)), fun h => e5 (h.resolve_left (by decide)), fun h => e6 (h.resolve_left (by decide)), fun h => e7 (h.resolve_left (by decide)), fun h => e8 (h.resolve_left (by decide)), fun h => e9 (h.resolve_left (by decide)), fun h => e10 (h.resolve_left (by decide)), fun h => e11 (h.resolve_left (by decide)), fun h => e12 (h.resolve_left (by decide)), fun h => e13 (h.resolve_left (by decide)), fun _ => rfl, fun _ => ⟨Nat.le_trans hb4.size hob', hA'⟩, fun h => e15 (h.resolve_left (by decide)), fun h => absurd (h.resolve_left (by decide)) (fun h => hn (hcl 15 _ rfl h ⟨14, .data⟩ (by simp) rfl)), fun h => e16 (h.resolve_left (by decide)), fun h => absurd (h.resolve_left (by decide)) (fun h => (fun h => hn (hcl 15 _ rfl h ⟨14, .data⟩ (by simp) rfl)) (hcl 16 _ rfl h ⟨15, .data⟩ (by simp) rfl)), fun h => e17 (h.resolve_left (by decide))⟩
      | 15, ho =>
        cases Option.some.inj ho
        have ev : a.tmps[53]?.getD undef = .slice (some ⟨ob, 0, none⟩) (K * 128) (K * 128) := by rw [ha, e14 (hd ⟨14, .data⟩ (by simp) rfl)]; kernel_rfl
        refine wp_value (w' := w'.alloc (.cells #[.slice (some ⟨ob, 0, none⟩) (K * 128) (K * 128)] 38)) (v := .slice (some ⟨w'.heap.size, 0, none⟩) 1 1) (by simp [execOp, ev, go_sem]) ?_
        exact ⟨v39, v40, v41, v42, v43, v44, v45, v46, v47, v48, v49, v50, v51, v52, v53, (.slice (some ⟨w'.heap.size, 0, none⟩) 1 1), v55, v7, ob, w'.heap.size, er, by rw [ha]; kernel_rfl, hB.imp .inr (fun h => h.alloc h.size _), fun h => e0 (h.resolve_left (by decide)), fun h => e1 (h.resolve_left (by decide)), fun h => e2 (h.resolve_left (by decide)), fun h => e3 (h.resolve_left (by decide)), fun h => e4 (h.resolve_left (by decide)), fun h => e5 (h.resolve_left (by decide)), fun h => e6 (h.resolve_left (by decide)), fun h => e7 (h.resolve_left (by decide)), fun h => e8 (h.resolve_left (by decide)), fun h => e9 (h.resolve_left (by decide)), fun h => e10 (h.resolve_left (by decide)), fun h => e11 (h.resolve_left (by decide)), fun h => e12 (h.resolve_left (by decide)), fun h => e13 (h.resolve_left (by decide)), fun h => e14 (h.resolve_left (by decide)), fun h => ⟨(h14 (h.resolve_left (by decide))).1, (Below.heap_alloc _ _ _ (lt_of_block (h14 (h.resolve_left (by decide))).2)).trans (h14 (h.resolve_left (by decide))).2⟩, fun _ => rfl, fun _ => heap_alloc_new _ _, fun h => e16 (h.resolve_left (by decide)), fun h => absurd (h.resolve_left (by decide)) (fun h => hn (hcl 16 _ rfl h ⟨15, .data⟩ (by simp) rfl)), fun h => e17 (h.resolve_left (by decide))⟩
      | 16, ho =>
        cases Option.some.inj ho
        have ev : a.tmps[39]?.getD undef = .pointer (some ⟨lb, 0, none⟩) := by rw [ha, e0 (hd ⟨0, .data⟩ (by simp) rfl)]; kernel_rfl
        have ev' : a.tmps[51]?.getD undef = .int .i64 at' := by rw [ha, e12 (hd ⟨12, .data⟩ (by simp) rfl)]; kernel_rfl
        have ev'' : a.tmps[54]?.getD undef = .slice (some ⟨sb, 0, none⟩) 1 1 := by rw [ha, e15 (hd ⟨15, .data⟩ (by simp) rfl)]; kernel_rfl
        have hb5 := hB.resolve_left hn
        have D5 := D2.same (fun i hi => hb5.block i hi)
        have l5 := (hb5.block lb (lt_of_block hl2)).trans hl2
        obtain ⟨ho5, A5⟩ := h14 (hcl 15 _ rfl (hd ⟨15, .data⟩ (by simp) rfl) ⟨14, .data⟩ (by simp) rfl)
        have s5 := h15 (hd ⟨15, .data⟩ (by simp) rfl)
        have ol5 : ob ≠ lb := by rintro rfl; rw [l5] at A5; exact absurd (cells_ty A5) (by decide)
        have sl5 : sb ≠ lb := by rintro rfl; rw [l5] at s5; exact absurd (cells_ty s5) (by decide)
        refine wp_enter (f := 54) (args := #[.pointer (some ⟨lb, 0, none⟩), .int .i64 at', .slice (some ⟨sb, 0, none⟩) 1 1]) (by simp [execOp, ev, ev', ev'', go_sem]) ?_
        refine (logWrite_any D5 l5 hs1 at' hat0 sb 1 1 _ s5 [recB life seq ys] rfl (one_part (part5 A5 hrb8 hrl hK0 hK1)) (by decide) (by show at' + (((recB life seq ys).length / 128 + 0 : Nat) : Int) ≤ size; rw [hrl]; omega) hlf0 hlf1 hL).mono ?_
        rintro e w6 ⟨er', rfl, W6⟩
        refine ⟨_, rfl, ?_⟩
        exact ⟨v39, v40, v41, v42, v43, v44, v45, v46, v47, v48, v49, v50, v51, v52, v53, v54, (.int .i64 er'), v7, ob, sb, er', by rw [ha]; kernel_rfl, .inl (.inl rfl), fun h => e0 (h.resolve_left (by decide)), fun h => e1 (h.resolve_left (by decide)), fun h => e2 (h.resolve_left (by decide)), fun h => e3 (h.resolve_left (by decide)), fun h => e4 (h.resolve_left (by decide)), fun h => e5 (h.resolve_left (by decide)), fun h => e6 (h.resolve_left (by decide)), fun h => e7 (h.resolve_left (by decide)), fun h => e8 (h.resolve_left (by decide)), fun h => e9 (h.resolve_left (by decide)), fun h => e10 (h.resolve_left (by decide)), fun h => e11 (h.resolve_left (by decide)), fun h => e12 (h.resolve_left (by decide)), fun h => e13 (h.resolve_left (by decide)), fun h => e14 (h.resolve_left (by decide)), fun h => ⟨ho5, W6.kept D5 A5 (by decide) (by decide) ol5⟩, fun h => e15 (h.resolve_left (by decide)), fun h => W6.kept D5 s5 (by decide) (by decide) sl5, fun _ => rfl, fun _ => W6.from hb5, fun h => absurd (h.resolve_left (by decide)) (fun h => hn (hcl 17 _ rfl h ⟨16, .data⟩ (by simp) rfl))⟩
      | 17, ho =>
        cases Option.some.inj ho
        have ev : a.tmps[55]?.getD undef = .int .i64 er := by rw [ha, e16 (hd ⟨16, .data⟩ (by simp) rfl)]; kernel_rfl
        refine wp_value (w' := w') (v := .int .i64 er) (by simp [execOp, ev, go_sem]) ?_
        exact ⟨v39, v40, v41, v42, v43, v44, v45, v46, v47, v48, v49, v50, v51, v52, v53, v54, v55, (.int .i64 er), ob, sb, er, by rw [ha]; kernel_rfl, hB.imp_left .inr, fun h => e0 (h.resolve_left (by decide)), fun h => e1 (h.resolve_left (by decide)), fun h => e2 (h.resolve_left (by decide)), fun h => e3 (h.resolve_left (by decide)), fun h => e4 (h.resolve_left (by decide)), fun h => e5 (h.resolve_left (by decide)), fun h => e6 (h.resolve_left (by decide)), fun h => e7 (h.resolve_left (by decide)), fun h => e8 (h.resolve_left (by decide)), fun h => e9 (h.resolve_left (by decide)), fun h => e10 (h.resolve_left (by decide)), fun h => e11 (h.resolve_left (by decide)), fun h => e12 (h.resolve_left (by decide)), fun h => e13 (h.resolve_left (by decide)), fun h => e14 (h.resolve_left (by decide)), fun h => h14 (h.resolve_left (by decide)), fun h => e15 (h.resolve_left (by decide)), fun h => h15 (h.resolve_left (by decide)), fun h => e16 (h.resolve_left (by decide)), fun h => hz (h.resolve_left (by decide)), fun _ => rfl⟩
      | i + 18, ho => simp at ho
    case done =>
      rintro D a w' ⟨v39, v40, v41, v42, v43, v44, v45, v46, v47, v48, v49, v50, v51, v52, v53, v54, v55, v7, ob, sb, er, ha, hB, e0, e1, e2, e3, e4, e5, e6, e7, e8, e9, e10, e11, e12, e13, e14, h14, e15, h15, e16, hz, e17⟩ hall
      have W6 := hz (hall 16 (by decide))
      obtain rfl := e0 (hall 0 (by decide))
      obtain rfl := e1 (hall 1 (by decide))
      obtain rfl := e2 (hall 2 (by decide))
      obtain rfl := e3 (hall 3 (by decide))
      obtain rfl := e4 (hall 4 (by decide))
      obtain rfl := e5 (hall 5 (by decide))
      obtain rfl := e6 (hall 6 (by decide))
      obtain rfl := e7 (hall 7 (by decide))
      obtain rfl := e8 (hall 8 (by decide))
      obtain rfl := e9 (hall 9 (by decide))
      obtain rfl := e10 (hall 10 (by decide))
      obtain rfl := e11 (hall 11 (by decide))
      obtain rfl := e12 (hall 12 (by decide))
      obtain rfl := e13 (hall 13 (by decide))
      obtain rfl := e14 (hall 14 (by decide))
      obtain rfl := e15 (hall 15 (by decide))
      obtain rfl := e16 (hall 16 (by decide))
      obtain rfl := e17 (hall 17 (by decide))
      clear h14 h15 hz hall hB e0 e1 e2 e3 e4 e5 e6 e7 e8 e9 e10 e11 e12 e13 e14 e15 e16 e17
      rw [ha]
      clear ha
      simp only [Act.put, List.setIfInBounds_toArray, List.set_cons_zero, List.set_cons_succ]
      have W7 := W6.from B2
      have hwsl : wsL at' [recB life seq ys] = wsP at' (recB life seq ys) (List.finRange K) := by
        have hl1 : (recB life seq ys).length / 128 = K := by rw [hrl]; omega
        simp only [wsL, List.append_nil]
        rw [wsP_range, wsP_range, hl1]
      have hwn : (wsP at' (recB life seq ys) (List.finRange K)).length = K := by rw [wsP_len, List.length_finRange]
      rw [hwsl] at W7
      clear W6 D2 hl2 hr2 B2
      rcases W7 with ⟨rfl, ho, D6, l6, F7⟩ | ⟨rfl, j, pv6, hj, ho, D6, l6, F7⟩
      rotate_left
      · rw [hwn] at hj
        go_wp2
        go_ret
        exact .inr ⟨rfl, j, pv6, hj, ho, D6, l6, F7⟩
      rw [hwn] at ho D6
      obtain ⟨wf, rfl⟩ : ∃ wf, wf = w' := ⟨_, rfl⟩
      have g7 := (log_cells l6).2.2.2.2.2.2.2.1
      have gf := (log_cells l6).2.2.2.2.2.2.2.2.2 7
      go_upto_region 10 with fail
      refine wp_region_inv' (fun A D a w' => ∃ v59 v60 v61 v62 v63 v64 v65 v66 v67 v68, a = ((((((((((A.put (some 59) v59).put (some 60) v60).put (some 61) v61).put (some 62) v62).put (some 63) v63).put (some 64) v64).put (some 65) v65).put (some 66) v66).put (some 67) v67).put (some 68) v68) ∧ (D 10 ∨ w' = wf.drew) ∧ (D 0 → v59 = .pointer (some ⟨lb, 0, none⟩)) ∧ (D 1 → v60 = .pointer (some ⟨lb, 0, none⟩)) ∧ (D 2 → v61 = .pointer (some ⟨lb, 7, none⟩)) ∧ (D 3 → v62 = .int .i64 used) ∧ (D 4 → v63 = .slice (some ⟨gb, go, none⟩) n c) ∧ (D 5 → v64 = .int .i64 (n : Int)) ∧ (D 6 → v65 = .int .i64 (K : Int)) ∧ (D 7 → v66 = .int .i64 (used + (K : Int))) ∧ (D 8 → v67 = .pointer (some ⟨lb, 0, none⟩)) ∧ (D 9 → v68 = .pointer (some ⟨lb, 7, none⟩)) ∧ (D 10 → w' = wf.drew.setCell ⟨lb, 7, none⟩ (.int .i64 (used + (K : Int))))) (by kernel_rfl) (by kernel_rfl) ?mono ?start ?step ?done
      case mono =>
        rintro D D' a w' hD ⟨v59, v60, v61, v62, v63, v64, v65, v66, v67, v68, ha, hw, e0, e1, e2, e3, e4, e5, e6, e7, e8, e9, hq⟩
        exact ⟨v59, v60, v61, v62, v63, v64, v65, v66, v67, v68, ha, hw.imp_left (hD 10).1, fun h => e0 ((hD 0).2 h), fun h => e1 ((hD 1).2 h), fun h => e2 ((hD 2).2 h), fun h => e3 ((hD 3).2 h), fun h => e4 ((hD 4).2 h), fun h => e5 ((hD 5).2 h), fun h => e6 ((hD 6).2 h), fun h => e7 ((hD 7).2 h), fun h => e8 ((hD 8).2 h), fun h => e9 ((hD 9).2 h), fun h => hq ((hD 10).2 h)⟩
      case start => exact ⟨undef, undef, undef, undef, undef, undef, undef, undef, undef, undef, by kernel_rfl, .inr (rfl), fun h => h.elim, fun h => h.elim, fun h => h.elim, fun h => h.elim, fun h => h.elim, fun h => h.elim, fun h => h.elim, fun h => h.elim, fun h => h.elim, fun h => h.elim, fun h => h.elim⟩
      case step =>
        intro i o ho D a w' hI hn hcl hd
        obtain ⟨v59, v60, v61, v62, v63, v64, v65, v66, v67, v68, ha, hw, e0, e1, e2, e3, e4, e5, e6, e7, e8, e9, hq⟩ := hI
        match i, ho with
        | 0, ho =>
          cases Option.some.inj ho
          have ev : a.tmps[0]?.getD undef = .pointer (some ⟨lb, 0, none⟩) := by rw [ha]; kernel_rfl
          refine wp_value (w' := w') (v := .pointer (some ⟨lb, 0, none⟩)) (by simp [execOp, ev, go_sem]) ?_
          exact ⟨(.pointer (some ⟨lb, 0, none⟩)), v60, v61, v62, v63, v64, v65, v66, v67, v68, by rw [ha]; kernel_rfl, hw.imp_left .inr, fun _ => rfl, fun h => e1 (h.resolve_left (by decide)), fun h => e2 (h.resolve_left (by decide)), fun h => e3 (h.resolve_left (by decide)), fun h => e4 (h.resolve_left (by decide)), fun h => e5 (h.resolve_left (by decide)), fun h => e6 (h.resolve_left (by decide)), fun h => e7 (h.resolve_left (by decide)), fun h => e8 (h.resolve_left (by decide)), fun h => e9 (h.resolve_left (by decide)), fun h => hq (h.resolve_left (by decide))⟩
        | 1, ho =>
          cases Option.some.inj ho
          have ev : a.tmps[59]?.getD undef = .pointer (some ⟨lb, 0, none⟩) := by rw [ha, e0 (hd ⟨0, .data⟩ (by simp) rfl)]; kernel_rfl
          refine wp_value (w' := w') (v := .pointer (some ⟨lb, 0, none⟩)) (by simp [execOp, ev, go_sem]) ?_
          exact ⟨v59, (.pointer (some ⟨lb, 0, none⟩)), v61, v62, v63, v64, v65, v66, v67, v68, by rw [ha]; kernel_rfl, hw.imp_left .inr, fun h => e0 (h.resolve_left (by decide)), fun _ => rfl, fun h => e2 (h.resolve_left (by decide)), fun h => e3 (h.resolve_left (by decide)), fun h => e4 (h.resolve_left (by decide)), fun h => e5 (h.resolve_left (by decide)), fun h => e6 (h.resolve_left (by decide)), fun h => e7 (h.resolve_left (by decide)), fun h => e8 (h.resolve_left (by decide)), fun h => e9 (h.resolve_left (by decide)), fun h => hq (h.resolve_left (by decide))⟩
        | 2, ho =>
          cases Option.some.inj ho
          have ev : a.tmps[60]?.getD undef = .pointer (some ⟨lb, 0, none⟩) := by rw [ha, e1 (hd ⟨1, .data⟩ (by simp) rfl)]; kernel_rfl
          refine wp_value (w' := w') (v := .pointer (some ⟨lb, 7, none⟩)) (by simp [execOp, ev, go_sem]) ?_
          exact ⟨v59, v60, (.pointer (some ⟨lb, 7, none⟩)), v62, v63, v64, v65, v66, v67, v68, by rw [ha]; kernel_rfl, hw.imp_left .inr, fun h => e0 (h.resolve_left (by decide)), fun h => e1 (h.resolve_left (by decide)), fun _ => rfl, fun h => e3 (h.resolve_left (by decide)), fun h => e4 (h.resolve_left (by decide)), fun h => e5 (h.resolve_left (by decide)), fun h => e6 (h.resolve_left (by decide)), fun h => e7 (h.resolve_left (by decide)), fun h => e8 (h.resolve_left (by decide)), fun h => e9 (h.resolve_left (by decide)), fun h => hq (h.resolve_left (by decide))⟩
        | 3, ho =>
          cases Option.some.inj ho
          have ev : a.tmps[61]?.getD undef = .pointer (some ⟨lb, 7, none⟩) := by rw [ha, e2 (hd ⟨2, .data⟩ (by simp) rfl)]; kernel_rfl
          have hc : w'.cell? ⟨lb, 7, none⟩ = some (.int .i64 used) := by rw [(hw.resolve_left (fun h => (fun h => hn (hcl 7 _ rfl h ⟨3, .data⟩ (by simp) rfl)) (hcl 10 _ rfl h ⟨7, .data⟩ (by simp) rfl)))]; exact g7
          refine wp_value (w' := w') (v := .int .i64 used) (by simp [execOp, ev, go_sem, hc]) ?_
          exact ⟨v59, v60, v61, (.int .i64 used), v63, v64, v65, v66, v67, v68, by rw [ha]; kernel_rfl, hw.imp_left .inr, fun h => e0 (h.resolve_left (by decide)), fun h => e1 (h.resolve_left (by decide)), fun h => e2 (h.resolve_left (by decide)), fun _ => rfl, fun h => e4 (h.resolve_left (by decide)), fun h => e5 (h.resolve_left (by decide)), fun h => e6 (h.resolve_left (by decide)), fun h => e7 (h.resolve_left (by decide)), fun h => e8 (h.resolve_left (by decide)), fun h => e9 (h.resolve_left (by decide)), fun h => hq (h.resolve_left (by decide))⟩
        | 4, ho =>
          cases Option.some.inj ho
          have ev : a.tmps[1]?.getD undef = .slice (some ⟨gb, go, none⟩) n c := by rw [ha]; kernel_rfl
          refine wp_value (w' := w') (v := .slice (some ⟨gb, go, none⟩) n c) (by simp [execOp, ev, go_sem]) ?_
          exact ⟨v59, v60, v61, v62, (.slice (some ⟨gb, go, none⟩) n c), v64, v65, v66, v67, v68, by rw [ha]; kernel_rfl, hw.imp_left .inr, fun h => e0 (h.resolve_left (by decide)), fun h => e1 (h.resolve_left (by decide)), fun h => e2 (h.resolve_left (by decide)), fun h => e3 (h.resolve_left (by decide)), fun _ => rfl, fun h => e5 (h.resolve_left (by decide)), fun h => e6 (h.resolve_left (by decide)), fun h => e7 (h.resolve_left (by decide)), fun h => e8 (h.resolve_left (by decide)), fun h => e9 (h.resolve_left (by decide)), fun h => hq (h.resolve_left (by decide))⟩
        | 5, ho =>
          cases Option.some.inj ho
          have ev : a.tmps[63]?.getD undef = .slice (some ⟨gb, go, none⟩) n c := by rw [ha, e4 (hd ⟨4, .data⟩ (by simp) rfl)]; kernel_rfl
          refine wp_value (w' := w') (v := .int .i64 (n : Int)) (by simp [execOp, ev, go_sem]) ?_
          exact ⟨v59, v60, v61, v62, v63, (.int .i64 (n : Int)), v65, v66, v67, v68, by rw [ha]; kernel_rfl, hw.imp_left .inr, fun h => e0 (h.resolve_left (by decide)), fun h => e1 (h.resolve_left (by decide)), fun h => e2 (h.resolve_left (by decide)), fun h => e3 (h.resolve_left (by decide)), fun h => e4 (h.resolve_left (by decide)), fun _ => rfl, fun h => e6 (h.resolve_left (by decide)), fun h => e7 (h.resolve_left (by decide)), fun h => e8 (h.resolve_left (by decide)), fun h => e9 (h.resolve_left (by decide)), fun h => hq (h.resolve_left (by decide))⟩
        | 6, ho =>
          cases Option.some.inj ho
          have ev : a.tmps[64]?.getD undef = .int .i64 (n : Int) := by rw [ha, e5 (hd ⟨5, .data⟩ (by simp) rfl)]; kernel_rfl
          refine wp_enter (f := 39) (args := #[.int .i64 (n : Int)]) (by simp [execOp, ev, go_sem]) ?_
          refine (show Calls Try.prog 39 #[.int .i64 (n : Int)] w' (fun e w6 => e = .returned (.int .i64 (K : Int)) ∧ w' = w6) from hsec ▸ sectors_any (n : Int) w').mono ?_
          rintro e w6 ⟨rfl, rfl⟩
          refine ⟨_, rfl, ?_⟩
          exact ⟨v59, v60, v61, v62, v63, v64, (.int .i64 (K : Int)), v66, v67, v68, by rw [ha]; kernel_rfl, hw.imp_left .inr, fun h => e0 (h.resolve_left (by decide)), fun h => e1 (h.resolve_left (by decide)), fun h => e2 (h.resolve_left (by decide)), fun h => e3 (h.resolve_left (by decide)), fun h => e4 (h.resolve_left (by decide)), fun h => e5 (h.resolve_left (by decide)), fun _ => rfl, fun h => e7 (h.resolve_left (by decide)), fun h => e8 (h.resolve_left (by decide)), fun h => e9 (h.resolve_left (by decide)), fun h => hq (h.resolve_left (by decide))⟩
        | 7, ho =>
          cases Option.some.inj ho
          have ev : a.tmps[62]?.getD undef = .int .i64 used := by rw [ha, e3 (hd ⟨3, .data⟩ (by simp) rfl)]; kernel_rfl
          have ev' : a.tmps[65]?.getD undef = .int .i64 (K : Int) := by rw [ha, e6 (hd ⟨6, .data⟩ (by simp) rfl)]; kernel_rfl
          refine wp_value (w' := w') (v := .int .i64 (used + (K : Int))) (by simp [execOp, ev, ev', go_sem, hwu]) ?_
          exact ⟨v59, v60, v61, v62, v63, v64, v65, (.int .i64 (used + (K : Int))), v67, v68, by rw [ha]; kernel_rfl, hw.imp_left .inr, fun h => e0 (h.resolve_left (by decide)), fun h => e1 (h.resolve_left (by decide)), fun h => e2 (h.resolve_left (by decide)), fun h => e3 (h.resolve_left (by decide)), fun h => e4 (h.resolve_left (by decide)), fun h => e5 (h.resolve_left (by decide)), fun h => e6 (h.resolve_left (by decide)), fun _ => rfl, fun h => e8 (h.resolve_left (by decide)), fun h => e9 (h.resolve_left (by decide)), fun h => hq (h.resolve_left (by decide))⟩
        | 8, ho =>
          cases Option.some.inj ho
          have ev : a.tmps[59]?.getD undef = .pointer (some ⟨lb, 0, none⟩) := by rw [ha, e0 (hd ⟨0, .data⟩ (by simp) rfl)]; kernel_rfl
          refine wp_value (w' := w') (v := .pointer (some ⟨lb, 0, none⟩)) (by simp [execOp, ev, go_sem]) ?_
          exact ⟨v59, v60, v61, v62, v63, v64, v65, v66, (.pointer (some ⟨lb, 0, none⟩)), v68, by rw [ha]; kernel_rfl, hw.imp_left .inr, fun h => e0 (h.resolve_left (by decide)), fun h => e1 (h.resolve_left (by decide)), fun h => e2 (h.resolve_left (by decide)), fun h => e3 (h.resolve_left (by decide)), fun h => e4 (h.resolve_left (by decide)), fun h => e5 (h.resolve_left (by decide)), fun h => e6 (h.resolve_left (by decide)), fun h => e7 (h.resolve_left (by decide)), fun _ => rfl, fun h => e9 (h.resolve_left (by decide)), fun h => hq (h.resolve_left (by decide))⟩
        | 9, ho =>
          cases Option.some.inj ho
          have ev : a.tmps[67]?.getD undef = .pointer (some ⟨lb, 0, none⟩) := by rw [ha, e8 (hd ⟨8, .data⟩ (by simp) rfl)]; kernel_rfl
          refine wp_value (w' := w') (v := .pointer (some ⟨lb, 7, none⟩)) (by simp [execOp, ev, go_sem]) ?_
          exact ⟨v59, v60, v61, v62, v63, v64, v65, v66, v67, (.pointer (some ⟨lb, 7, none⟩)), by rw [ha]; kernel_rfl, hw.imp_left .inr, fun h => e0 (h.resolve_left (by decide)), fun h => e1 (h.resolve_left (by decide)), fun h => e2 (h.resolve_left (by decide)), fun h => e3 (h.resolve_left (by decide)), fun h => e4 (h.resolve_left (by decide)), fun h => e5 (h.resolve_left (by decide)), fun h => e6 (h.resolve_left (by decide)), fun h => e7 (h.resolve_left (by decide)), fun h => e8 (h.resolve_left (by decide)), fun _ => rfl, fun h => hq (h.resolve_left (by decide))⟩
        | 10, ho =>
          cases Option.some.inj ho
          have ev : a.tmps[68]?.getD undef = .pointer (some ⟨lb, 7, none⟩) := by rw [ha, e9 (hd ⟨9, .data⟩ (by simp) rfl)]; kernel_rfl
          have ev' : a.tmps[66]?.getD undef = .int .i64 (used + (K : Int)) := by rw [ha, e7 (hd ⟨7, .data⟩ (by simp) rfl)]; kernel_rfl
          obtain rfl := hw.resolve_left hn
          refine wp_skip (w' := wf.drew.setCell ⟨lb, 7, none⟩ (.int .i64 (used + (K : Int)))) (by simp [execOp, Act.eval, ev, ev', go_sem, show wf.drew.cell? ⟨lb, 7, none⟩ = _ from g7, show wf.drew.frozen? ⟨lb, 7, none⟩ = _ from gf]) ?_
          exact ⟨v59, v60, v61, v62, v63, v64, v65, v66, v67, v68, by rw [ha]; kernel_rfl, .inl (.inl rfl), fun h => e0 (h.resolve_left (by decide)), fun h => e1 (h.resolve_left (by decide)), fun h => e2 (h.resolve_left (by decide)), fun h => e3 (h.resolve_left (by decide)), fun h => e4 (h.resolve_left (by decide)), fun h => e5 (h.resolve_left (by decide)), fun h => e6 (h.resolve_left (by decide)), fun h => e7 (h.resolve_left (by decide)), fun h => e8 (h.resolve_left (by decide)), fun h => e9 (h.resolve_left (by decide)), fun _ => rfl⟩
        | i + 11, ho => simp at ho
      case done =>
        rintro D a w' ⟨v59, v60, v61, v62, v63, v64, v65, v66, v67, v68, ha, hw, e0, e1, e2, e3, e4, e5, e6, e7, e8, e9, hq⟩ hall
        have hq' := hq (hall 10 (by decide))
        obtain rfl := e0 (hall 0 (by decide))
        obtain rfl := e1 (hall 1 (by decide))
        obtain rfl := e2 (hall 2 (by decide))
        obtain rfl := e3 (hall 3 (by decide))
        obtain rfl := e4 (hall 4 (by decide))
        obtain rfl := e5 (hall 5 (by decide))
        obtain rfl := e6 (hall 6 (by decide))
        obtain rfl := e7 (hall 7 (by decide))
        obtain rfl := e8 (hall 8 (by decide))
        obtain rfl := e9 (hall 9 (by decide))
        clear hw hq hall e0 e1 e2 e3 e4 e5 e6 e7 e8 e9
        rw [ha]
        clear ha
        simp only [Act.put, List.setIfInBounds_toArray, List.set_cons_zero, List.set_cons_succ]
        subst hq'
        have ap := D6.apart (b := lb) (t := 89) l6 (by decide) (by decide)
        have L7 := log_set7 (w := wf.drew) l6 (used + (K : Int))
        have N7 : But lb wf (wf.drew.setCell ⟨lb, 7, none⟩ (.int .i64 (used + (K : Int)))) := But.set ⟨rfl, rfl, rfl, Nat.le_refl _, fun _ _ _ => rfl⟩
        generalize wf.drew.setCell ⟨lb, 7, none⟩ (.int .i64 (used + (K : Int))) = wg at *
        have hw1 : IntKind.i64.wrap (seq + 1) = seq + 1 := by rw [IntKind.wrap_i64]; omega
        have g5 := (log_cells L7).2.2.2.2.2.1
        have gf5 := (log_cells L7).2.2.2.2.2.2.2.2.2 5
        have L8 := log_set5 L7 (seq + 1)
        have N8 := N7.set (i := 5) (v := .int .i64 (seq + 1))
        have D8 := D6.but N8 ap
        clear L7 N7 D6 l6 g7 gf
        go_wp2
        go_ret
        exact .inl ⟨rfl, ho, D8, L8, ⟨N8.os.trans F7.os, N8.tape.trans F7.tape, N8.output.trans F7.output, Nat.le_trans F7.size N8.size, fun i hi k0 k1 k2 k3 k4 => (N8.block i (by have := F7.size; omega) k0).trans (F7.keep i hi k0 k1 k2 k3 k4)⟩⟩
end
end Go.Proofs.Ytofgphiamllmdab
