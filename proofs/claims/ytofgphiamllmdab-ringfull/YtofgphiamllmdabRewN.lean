/- Log.Rewrite of nothing, where all goes well. -/
import Derived.Test.YtofgphiamllmdabFullA
namespace Go.Proofs.Ytofgphiamllmdab
open Go.RowKit
set_option maxRecDepth 100000
section
variable {w : World} {n₀ p bs bn : Nat} {pv : Value} {size : Int} {G0 G1 : Int → List Int} {L : List (Int × List Int)}
variable {lb : Nat} {life half first since seq hs used : Int}
set_option maxHeartbeats 8000000 in
theorem rewrite_none (D0 : Dev w n₀ p bs bn pv size G0 G1 L 0 false) (hl0 : w.heap[lb]? = some (logO p life half first since seq hs used false)) (hs0 : 2 ≤ size) (hs1 : size ≤ 4096) (hL : L.length ≤ 999990000) (hhalf : half = 0 ∨ half = 1) (hh0 : 0 ≤ hs) (hh1 : hs ≤ 100000) (hq0 : 0 ≤ seq) (hq1 : seq ≤ 1099511627776) (hf0 : 0 ≤ life) (hf1 : life < 1099511627776) :
    Calls Try.prog 22 #[.pointer (some ⟨lb, 0, none⟩), .slice none 0 0] w fun e w' => e = .returned (.int .i64 0) ∧ (∃ G0' G1', Dev w' n₀ p bs bn (.slice none 0 0) size G0' G1' [] 0 false) ∧ w'.heap[lb]? = some (logO p (life + 1) (1 - half) seq (life + 1) seq hs 0 false) ∧ w'.os = w.os ∧ w'.tape = w.tape ∧ w'.output = w.output ∧ w.heap.size ≤ w'.heap.size ∧ (∀ i, i < w.heap.size → i ≠ lb → i ≠ p → i ≠ bs → i ≠ bn → pv.ownBlock ≠ some i → w'.heap[i]? = w.heap[i]?) := by
  have hhalf' : 1 - half = 0 ∨ 1 - half = 1 := by omega
  have hwh : IntKind.i64.wrap (1 - half) = 1 - half := by rw [IntKind.wrap_i64]; omega
  have hwl : IntKind.i64.wrap (life + 1) = life + 1 := by rw [IntKind.wrap_i64]; omega
  have hws : IntKind.i64.wrap seq = seq := by rw [IntKind.wrap_i64]; omega
  replace hhalf : Hid (half = 0 ∨ half = 1) := hhalf
  go_enter Try.func22, Try.ntmps22
  go_wp2_with fail
  refine (may_none hl0).mono ?_
  rintro e w2 ⟨rfl, rfl⟩
  have hl := hl0
  obtain ⟨c0, c1, c2, c3, c4, c5, c6, c7, c8, cf⟩ := log_cells hl0
  go_wp2
  refine wp_loop_rounds 1 ?_
  rw [rounds_succ]
  have b1 : ¬ hs < 0 := by omega
  have b2 : decide (hs < 0) = false := by simp [b1]
  have b3 : ¬ life = 1099511627776 := by omega
  have b4 : (life == 1099511627776) = false := by simp [b3]
  have b5 : ¬ (1099511627776 : Int) < seq := by omega
  have b6 : decide ((1099511627776 : Int) < seq) = false := by simp [b5]
  go_upto_region 14 with fail
  clear c0 c1 c2 c3 c4 c5 c6 c7 c8 cf b1 b2 b3 b4 b5 b6
  obtain ⟨W, rfl⟩ : ∃ W, W = w := ⟨_, rfl⟩
  refine wp_region_inv' (fun A D a w' => ∃ v63 v64 v65 v66 v67 v68 v69 v70 v71 v72 v73 v74 v75 v11 hb, a = ((((((((((((((A.put (some 63) v63).put (some 64) v64).put (some 65) v65).put (some 66) v66).put (some 67) v67).put (some 68) v68).put (some 69) v69).put (some 70) v70).put (some 71) v71).put (some 72) v72).put (some 73) v73).put (some 74) v74).put (some 75) v75).put (some 11) v11) ∧ Below W.heap.size W w' ∧ (D 0 → v63 = .int .i64 (life + 1)) ∧ (D 1 → v64 = .pointer (some ⟨lb, 0, none⟩)) ∧ (D 2 → v65 = .pointer (some ⟨lb, 0, none⟩)) ∧ (D 3 → v66 = .pointer (some ⟨lb, 1, none⟩)) ∧ (D 4 → v67 = .pointer (some ⟨lb, 2, none⟩)) ∧ (D 5 → v68 = .int .i64 half) ∧ (D 6 → v69 = .int .i64 (1 - half)) ∧ (D 7 → v70 = .pointer (some ⟨lb, 0, none⟩)) ∧ (D 8 → v71 = .pointer (some ⟨lb, 0, none⟩)) ∧ (D 9 → v72 = .pointer (some ⟨lb, 5, none⟩)) ∧ (D 10 → v73 = .int .i64 seq) ∧ (D 11 → v74 = .int .i64 (life + 1)) ∧ (D 12 → v75 = .agg #[.int .i64 (life + 1), .int .i64 (1 - half), .int .i64 seq, .int .i64 (life + 1)]) ∧ (D 13 → v11 = .pointer (some ⟨hb, 0, none⟩)) ∧ (D 13 → W.heap.size ≤ hb) ∧ (D 14 → w'.heap[hb]? = some (.cells #[.int .i64 (life + 1), .int .i64 (1 - half), .int .i64 seq, .int .i64 (life + 1)] 80 (0, 0))) ∧ (D 13 → ¬ D 14 → w'.heap[hb]? = some (.cells #[.int .i64 0, .int .i64 0, .int .i64 0, .int .i64 0] 80 (0, 0)))) (by kernel_rfl) (by kernel_rfl) ?mono ?start ?step ?done
  case mono =>
    rintro D D' a w' hD ⟨v63, v64, v65, v66, v67, v68, v69, v70, v71, v72, v73, v74, v75, v11, hb, ha, hB, e0, e1, e2, e3, e4, e5, e6, e7, e8, e9, e10, e11, e12, e13, hhb, hr, hnz⟩
    exact ⟨v63, v64, v65, v66, v67, v68, v69, v70, v71, v72, v73, v74, v75, v11, hb, ha, hB, fun h => e0 ((hD 0).2 h), fun h => e1 ((hD 1).2 h), fun h => e2 ((hD 2).2 h), fun h => e3 ((hD 3).2 h), fun h => e4 ((hD 4).2 h), fun h => e5 ((hD 5).2 h), fun h => e6 ((hD 6).2 h), fun h => e7 ((hD 7).2 h), fun h => e8 ((hD 8).2 h), fun h => e9 ((hD 9).2 h), fun h => e10 ((hD 10).2 h), fun h => e11 ((hD 11).2 h), fun h => e12 ((hD 12).2 h), fun h => e13 ((hD 13).2 h), fun h => hhb ((hD 13).2 h), fun h => hr ((hD 14).2 h), fun h h' => hnz ((hD 13).2 h) (fun k => h' ((hD 14).1 k))⟩
  case start => exact ⟨undef, undef, undef, undef, undef, undef, undef, undef, undef, undef, undef, undef, undef, undef, 0, by kernel_rfl, (Below.refl _ _).drew, fun h => h.elim, fun h => h.elim, fun h => h.elim, fun h => h.elim, fun h => h.elim, fun h => h.elim, fun h => h.elim, fun h => h.elim, fun h => h.elim, fun h => h.elim, fun h => h.elim, fun h => h.elim, fun h => h.elim, fun h => h.elim, fun h => h.elim, fun h => h.elim, fun h _ => h.elim⟩
  case step =>
    intro i o ho D a w' hI hn hcl hd
    obtain ⟨v63, v64, v65, v66, v67, v68, v69, v70, v71, v72, v73, v74, v75, v11, hb, ha, hB, e0, e1, e2, e3, e4, e5, e6, e7, e8, e9, e10, e11, e12, e13, hhb, hr, hnz⟩ := hI
    match i, ho with
    | 0, ho =>
      cases Option.some.inj ho
      have ev : a.tmps[10]?.getD undef = .int .i64 (life + 1) := by rw [ha]; kernel_rfl
      refine wp_value (w' := w') (v := .int .i64 (life + 1)) (by simp [execOp, ev, go_sem]) ?_
      exact ⟨(.int .i64 (life + 1)), v64, v65, v66, v67, v68, v69, v70, v71, v72, v73, v74, v75, v11, hb, by rw [ha]; kernel_rfl, hB, fun _ => rfl, fun h => e1 (h.resolve_left (by decide)), fun h => e2 (h.resolve_left (by decide)), fun h => e3 (h.resolve_left (by decide)), fun h => e4 (h.resolve_left (by decide)), fun h => e5 (h.resolve_left (by decide)), fun h => e6 (h.resolve_left (by decide)), fun h => e7 (h.resolve_left (by decide)), fun h => e8 (h.resolve_left (by decide)), fun h => e9 (h.resolve_left (by decide)), fun h => e10 (h.resolve_left (by decide)), fun h => e11 (h.resolve_left (by decide)), fun h => e12 (h.resolve_left (by decide)), fun h => e13 (h.resolve_left (by decide)), fun h => hhb (h.resolve_left (by decide)), fun h => hr (h.resolve_left (by decide)), fun h h' => hnz (h.resolve_left (by decide)) (fun k => h' (.inr k))⟩
    | 1, ho =>
      cases Option.some.inj ho
      have ev : a.tmps[0]?.getD undef = .pointer (some ⟨lb, 0, none⟩) := by rw [ha]; kernel_rfl
      refine wp_value (w' := w') (v := .pointer (some ⟨lb, 0, none⟩)) (by simp [execOp, ev, go_sem]) ?_
      exact ⟨v63, (.pointer (some ⟨lb, 0, none⟩)), v65, v66, v67, v68, v69, v70, v71, v72, v73, v74, v75, v11, hb, by rw [ha]; kernel_rfl, hB, fun h => e0 (h.resolve_left (by decide)), fun _ => rfl, fun h => e2 (h.resolve_left (by decide)), fun h => e3 (h.resolve_left (by decide)), fun h => e4 (h.resolve_left (by decide)), fun h => e5 (h.resolve_left (by decide)), fun h => e6 (h.resolve_left (by decide)), fun h => e7 (h.resolve_left (by decide)), fun h => e8 (h.resolve_left (by decide)), fun h => e9 (h.resolve_left (by decide)), fun h => e10 (h.resolve_left (by decide)), fun h => e11 (h.resolve_left (by decide)), fun h => e12 (h.resolve_left (by decide)), fun h => e13 (h.resolve_left (by decide)), fun h => hhb (h.resolve_left (by decide)), fun h => hr (h.resolve_left (by decide)), fun h h' => hnz (h.resolve_left (by decide)) (fun k => h' (.inr k))⟩
    | 2, ho =>
      cases Option.some.inj ho
      have ev : a.tmps[64]?.getD undef = .pointer (some ⟨lb, 0, none⟩) := by rw [ha, e1 (hd ⟨1, .data⟩ (by simp) rfl)]; kernel_rfl
      refine wp_value (w' := w') (v := .pointer (some ⟨lb, 0, none⟩)) (by simp [execOp, ev, go_sem]) ?_
      exact ⟨v63, v64, (.pointer (some ⟨lb, 0, none⟩)), v66, v67, v68, v69, v70, v71, v72, v73, v74, v75, v11, hb, by rw [ha]; kernel_rfl, hB, fun h => e0 (h.resolve_left (by decide)), fun h => e1 (h.resolve_left (by decide)), fun _ => rfl, fun h => e3 (h.resolve_left (by decide)), fun h => e4 (h.resolve_left (by decide)), fun h => e5 (h.resolve_left (by decide)), fun h => e6 (h.resolve_left (by decide)), fun h => e7 (h.resolve_left (by decide)), fun h => e8 (h.resolve_left (by decide)), fun h => e9 (h.resolve_left (by decide)), fun h => e10 (h.resolve_left (by decide)), fun h => e11 (h.resolve_left (by decide)), fun h => e12 (h.resolve_left (by decide)), fun h => e13 (h.resolve_left (by decide)), fun h => hhb (h.resolve_left (by decide)), fun h => hr (h.resolve_left (by decide)), fun h h' => hnz (h.resolve_left (by decide)) (fun k => h' (.inr k))⟩
    | 3, ho =>
      cases Option.some.inj ho
      have ev : a.tmps[65]?.getD undef = .pointer (some ⟨lb, 0, none⟩) := by rw [ha, e2 (hd ⟨2, .data⟩ (by simp) rfl)]; kernel_rfl
      refine wp_value (w' := w') (v := .pointer (some ⟨lb, 1, none⟩)) (by simp [execOp, ev, go_sem]) ?_
      exact ⟨v63, v64, v65, (.pointer (some ⟨lb, 1, none⟩)), v67, v68, v69, v70, v71, v72, v73, v74, v75, v11, hb, by rw [ha]; kernel_rfl, hB, fun h => e0 (h.resolve_left (by decide)), fun h => e1 (h.resolve_left (by decide)), fun h => e2 (h.resolve_left (by decide)), fun _ => rfl, fun h => e4 (h.resolve_left (by decide)), fun h => e5 (h.resolve_left (by decide)), fun h => e6 (h.resolve_left (by decide)), fun h => e7 (h.resolve_left (by decide)), fun h => e8 (h.resolve_left (by decide)), fun h => e9 (h.resolve_left (by decide)), fun h => e10 (h.resolve_left (by decide)), fun h => e11 (h.resolve_left (by decide)), fun h => e12 (h.resolve_left (by decide)), fun h => e13 (h.resolve_left (by decide)), fun h => hhb (h.resolve_left (by decide)), fun h => hr (h.resolve_left (by decide)), fun h h' => hnz (h.resolve_left (by decide)) (fun k => h' (.inr k))⟩
    | 4, ho =>
      cases Option.some.inj ho
      have ev : a.tmps[66]?.getD undef = .pointer (some ⟨lb, 1, none⟩) := by rw [ha, e3 (hd ⟨3, .data⟩ (by simp) rfl)]; kernel_rfl
      refine wp_value (w' := w') (v := .pointer (some ⟨lb, 2, none⟩)) (by simp [execOp, ev, go_sem]) ?_
      exact ⟨v63, v64, v65, v66, (.pointer (some ⟨lb, 2, none⟩)), v68, v69, v70, v71, v72, v73, v74, v75, v11, hb, by rw [ha]; kernel_rfl, hB, fun h => e0 (h.resolve_left (by decide)), fun h => e1 (h.resolve_left (by decide)), fun h => e2 (h.resolve_left (by decide)), fun h => e3 (h.resolve_left (by decide)), fun _ => rfl, fun h => e5 (h.resolve_left (by decide)), fun h => e6 (h.resolve_left (by decide)), fun h => e7 (h.resolve_left (by decide)), fun h => e8 (h.resolve_left (by decide)), fun h => e9 (h.resolve_left (by decide)), fun h => e10 (h.resolve_left (by decide)), fun h => e11 (h.resolve_left (by decide)), fun h => e12 (h.resolve_left (by decide)), fun h => e13 (h.resolve_left (by decide)), fun h => hhb (h.resolve_left (by decide)), fun h => hr (h.resolve_left (by decide)), fun h h' => hnz (h.resolve_left (by decide)) (fun k => h' (.inr k))⟩
    | 5, ho =>
      cases Option.some.inj ho
      have ev : a.tmps[67]?.getD undef = .pointer (some ⟨lb, 2, none⟩) := by rw [ha, e4 (hd ⟨4, .data⟩ (by simp) rfl)]; kernel_rfl
      have hc := (log_cells ((hB.block lb (lt_of_block hl)).trans hl)).2.2.1
      refine wp_value (w' := w') (v := .int .i64 half) (by simp [execOp, ev, go_sem, hc]) ?_
      exact ⟨v63, v64, v65, v66, v67, (.int .i64 half), v69, v70, v71, v72, v73, v74, v75, v11, hb, by rw [ha]; kernel_rfl, hB, fun h => e0 (h.resolve_left (by decide)), fun h => e1 (h.resolve_left (by decide)), fun h => e2 (h.resolve_left (by decide)), fun h => e3 (h.resolve_left (by decide)), fun h => e4 (h.resolve_left (by decide)), fun _ => rfl, fun h => e6 (h.resolve_left (by decide)), fun h => e7 (h.resolve_left (by decide)), fun h => e8 (h.resolve_left (by decide)), fun h => e9 (h.resolve_left (by decide)), fun h => e10 (h.resolve_left (by decide)), fun h => e11 (h.resolve_left (by decide)), fun h => e12 (h.resolve_left (by decide)), fun h => e13 (h.resolve_left (by decide)), fun h => hhb (h.resolve_left (by decide)), fun h => hr (h.resolve_left (by decide)), fun h h' => hnz (h.resolve_left (by decide)) (fun k => h' (.inr k))⟩
    | 6, ho =>
      cases Option.some.inj ho
      have ev : a.tmps[68]?.getD undef = .int .i64 half := by rw [ha, e5 (hd ⟨5, .data⟩ (by simp) rfl)]; kernel_rfl
      refine wp_value (w' := w') (v := .int .i64 (1 - half)) (by simp [execOp, ev, go_sem, hwh]) ?_
      exact ⟨v63, v64, v65, v66, v67, v68, (.int .i64 (1 - half)), v70, v71, v72, v73, v74, v75, v11, hb, by rw [ha]; kernel_rfl, hB, fun h => e0 (h.resolve_left (by decide)), fun h => e1 (h.resolve_left (by decide)), fun h => e2 (h.resolve_left (by decide)), fun h => e3 (h.resolve_left (by decide)), fun h => e4 (h.resolve_left (by decide)), fun h => e5 (h.resolve_left (by decide)), fun _ => rfl, fun h => e7 (h.resolve_left (by decide)), fun h => e8 (h.resolve_left (by decide)), fun h => e9 (h.resolve_left (by decide)), fun h => e10 (h.resolve_left (by decide)), fun h => e11 (h.resolve_left (by decide)), fun h => e12 (h.resolve_left (by decide)), fun h => e13 (h.resolve_left (by decide)), fun h => hhb (h.resolve_left (by decide)), fun h => hr (h.resolve_left (by decide)), fun h h' => hnz (h.resolve_left (by decide)) (fun k => h' (.inr k))⟩
    | 7, ho =>
      cases Option.some.inj ho
      have ev : a.tmps[0]?.getD undef = .pointer (some ⟨lb, 0, none⟩) := by rw [ha]; kernel_rfl
      refine wp_value (w' := w') (v := .pointer (some ⟨lb, 0, none⟩)) (by simp [execOp, ev, go_sem]) ?_
      exact ⟨v63, v64, v65, v66, v67, v68, v69, (.pointer (some ⟨lb, 0, none⟩)), v71, v72, v73, v74, v75, v11, hb, by rw [ha]; kernel_rfl, hB, fun h => e0 (h.resolve_left (by decide)), fun h => e1 (h.resolve_left (by decide)), fun h => e2 (h.resolve_left (by decide)), fun h => e3 (h.resolve_left (by decide)), fun h => e4 (h.resolve_left (by decide)), fun h => e5 (h.resolve_left (by decide)), fun h => e6 (h.resolve_left (by decide)), fun _ => rfl, fun h => e8 (h.resolve_left (by decide)), fun h => e9 (h.resolve_left (by decide)), fun h => e10 (h.resolve_left (by decide)), fun h => e11 (h.resolve_left (by decide)), fun h => e12 (h.resolve_left (by decide)), fun h => e13 (h.resolve_left (by decide)), fun h => hhb (h.resolve_left (by decide)), fun h => hr (h.resolve_left (by decide)), fun h h' => hnz (h.resolve_left (by decide)) (fun k => h' (.inr k))⟩
    | 8, ho =>
      cases Option.some.inj ho
      have ev : a.tmps[70]?.getD undef = .pointer (some ⟨lb, 0, none⟩) := by rw [ha, e7 (hd ⟨7, .data⟩ (by simp) rfl)]; kernel_rfl
      refine wp_value (w' := w') (v := .pointer (some ⟨lb, 0, none⟩)) (by simp [execOp, ev, go_sem]) ?_
      exact ⟨v63, v64, v65, v66, v67, v68, v69, v70, (.pointer (some ⟨lb, 0, none⟩)), v72, v73, v74, v75, v11, hb, by rw [ha]; kernel_rfl, hB, fun h => e0 (h.resolve_left (by decide)), fun h => e1 (h.resolve_left (by decide)), fun h => e2 (h.resolve_left (by decide)), fun h => e3 (h.resolve_left (by decide)), fun h => e4 (h.resolve_left (by decide)), fun h => e5 (h.resolve_left (by decide)), fun h => e6 (h.resolve_left (by decide)), fun h => e7 (h.resolve_left (by decide)), fun _ => rfl, fun h => e9 (h.resolve_left (by decide)), fun h => e10 (h.resolve_left (by decide)), fun h => e11 (h.resolve_left (by decide)), fun h => e12 (h.resolve_left (by decide)), fun h => e13 (h.resolve_left (by decide)), fun h => hhb (h.resolve_left (by decide)), fun h => hr (h.resolve_left (by decide)), fun h h' => hnz (h.resolve_left (by decide)) (fun k => h' (.inr k))⟩
    | 9, ho =>
      cases Option.some.inj ho
      have ev : a.tmps[71]?.getD undef = .pointer (some ⟨lb, 0, none⟩) := by rw [ha, e8 (hd ⟨8, .data⟩ (by simp) rfl)]; kernel_rfl
      refine wp_value (w' := w') (v := .pointer (some ⟨lb, 5, none⟩)) (by simp [execOp, ev, go_sem]) ?_
      exact ⟨v63, v64, v65, v66, v67, v68, v69, v70, v71, (.pointer (some ⟨lb, 5, none⟩)), v73, v74, v75, v11, hb, by rw [ha]; kernel_rfl, hB, fun h => e0 (h.resolve_left (by decide)), fun h => e1 (h.resolve_left (by decide)), fun h => e2 (h.resolve_left (by decide)), fun h => e3 (h.resolve_left (by decide)), fun h => e4 (h.resolve_left (by decide)), fun h => e5 (h.resolve_left (by decide)), fun h => e6 (h.resolve_left (by decide)), fun h => e7 (h.resolve_left (by decide)), fun h => e8 (h.resolve_left (by decide)), fun _ => rfl, fun h => e10 (h.resolve_left (by decide)), fun h => e11 (h.resolve_left (by decide)), fun h => e12 (h.resolve_left (by decide)), fun h => e13 (h.resolve_left (by decide)), fun h => hhb (h.resolve_left (by decide)), fun h => hr (h.resolve_left (by decide)), fun h h' => hnz (h.resolve_left (by decide)) (fun k => h' (.inr k))⟩
    | 10, ho =>
      cases Option.some.inj ho
      have ev : a.tmps[72]?.getD undef = .pointer (some ⟨lb, 5, none⟩) := by rw [ha, e9 (hd ⟨9, .data⟩ (by simp) rfl)]; kernel_rfl
      have hc := (log_cells ((hB.block lb (lt_of_block hl)).trans hl)).2.2.2.2.2.1
      refine wp_value (w' := w') (v := .int .i64 seq) (by simp [execOp, ev, go_sem, hc]) ?_
      exact ⟨v63, v64, v65, v66, v67, v68, v69, v70, v71, v72, (.int .i64 seq), v74, v75, v11, hb, by rw [ha]; kernel_rfl, hB, fun h => e0 (h.resolve_left (by decide)), fun h => e1 (h.resolve_left (by decide)), fun h => e2 (h.resolve_left (by decide)), fun h => e3 (h.resolve_left (by decide)), fun h => e4 (h.resolve_left (by decide)), fun h => e5 (h.resolve_left (by decide)), fun h => e6 (h.resolve_left (by decide)), fun h => e7 (h.resolve_left (by decide)), fun h => e8 (h.resolve_left (by decide)), fun h => e9 (h.resolve_left (by decide)), fun _ => rfl, fun h => e11 (h.resolve_left (by decide)), fun h => e12 (h.resolve_left (by decide)), fun h => e13 (h.resolve_left (by decide)), fun h => hhb (h.resolve_left (by decide)), fun h => hr (h.resolve_left (by decide)), fun h h' => hnz (h.resolve_left (by decide)) (fun k => h' (.inr k))⟩
    | 11, ho =>
      cases Option.some.inj ho
      have ev : a.tmps[10]?.getD undef = .int .i64 (life + 1) := by rw [ha]; kernel_rfl
      refine wp_value (w' := w') (v := .int .i64 (life + 1)) (by simp [execOp, ev, go_sem]) ?_
      exact ⟨v63, v64, v65, v66, v67, v68, v69, v70, v71, v72, v73, (.int .i64 (life + 1)), v75, v11, hb, by rw [ha]; kernel_rfl, hB, fun h => e0 (h.resolve_left (by decide)), fun h => e1 (h.resolve_left (by decide)), fun h => e2 (h.resolve_left (by decide)), fun h => e3 (h.resolve_left (by decide)), fun h => e4 (h.resolve_left (by decide)), fun h => e5 (h.resolve_left (by decide)), fun h => e6 (h.resolve_left (by decide)), fun h => e7 (h.resolve_left (by decide)), fun h => e8 (h.resolve_left (by decide)), fun h => e9 (h.resolve_left (by decide)), fun h => e10 (h.resolve_left (by decide)), fun _ => rfl, fun h => e12 (h.resolve_left (by decide)), fun h => e13 (h.resolve_left (by decide)), fun h => hhb (h.resolve_left (by decide)), fun h => hr (h.resolve_left (by decide)), fun h h' => hnz (h.resolve_left (by decide)) (fun k => h' (.inr k))⟩
    | 12, ho =>
      cases Option.some.inj ho
      have ev : a.tmps[63]?.getD undef = .int .i64 (life + 1) := by rw [ha, e0 (hd ⟨0, .data⟩ (by simp) rfl)]; kernel_rfl
      have ev' : a.tmps[69]?.getD undef = .int .i64 (1 - half) := by rw [ha, e6 (hd ⟨6, .data⟩ (by simp) rfl)]; kernel_rfl
      have ev'' : a.tmps[73]?.getD undef = .int .i64 seq := by rw [ha, e10 (hd ⟨10, .data⟩ (by simp) rfl)]; kernel_rfl
      have ev''' : a.tmps[74]?.getD undef = .int .i64 (life + 1) := by rw [ha, e11 (hd ⟨11, .data⟩ (by simp) rfl)]; kernel_rfl
      refine wp_value (w' := w') (v := .agg #[.int .i64 (life + 1), .int .i64 (1 - half), .int .i64 seq, .int .i64 (life + 1)]) (by simp [execOp, ev, ev', ev'', ev''', go_sem]) ?_
      exact ⟨v63, v64, v65, v66, v67, v68, v69, v70, v71, v72, v73, v74, (.agg #[.int .i64 (life + 1), .int .i64 (1 - half), .int .i64 seq, .int .i64 (life + 1)]), v11, hb, by rw [ha]; kernel_rfl, hB, fun h => e0 (h.resolve_left (by decide)), fun h => e1 (h.resolve_left (by decide)), fun h => e2 (h.resolve_left (by decide)), fun h => e3 (h.resolve_left (by decide)), fun h => e4 (h.resolve_left (by decide)), fun h => e5 (h.resolve_left (by decide)), fun h => e6 (h.resolve_left (by decide)), fun h => e7 (h.resolve_left (by decide)), fun h => e8 (h.resolve_left (by decide)), fun h => e9 (h.resolve_left (by decide)), fun h => e10 (h.resolve_left (by decide)), fun h => e11 (h.resolve_left (by decide)), fun _ => rfl, fun h => e13 (h.resolve_left (by decide)), fun h => hhb (h.resolve_left (by decide)), fun h => hr (h.resolve_left (by decide)), fun h h' => hnz (h.resolve_left (by decide)) (fun k => h' (.inr k))⟩
    | 13, ho =>
      cases Option.some.inj ho
      refine wp_value (w' := w'.alloc (.cells #[.int .i64 0, .int .i64 0, .int .i64 0, .int .i64 0] 80)) (v := .pointer (some ⟨w'.heap.size, 0, none⟩)) (by simp [execOp, go_sem]) ?_
      exact ⟨v63, v64, v65, v66, v67, v68, v69, v70, v71, v72, v73, v74, v75, (.pointer (some ⟨w'.heap.size, 0, none⟩)), w'.heap.size, by rw [ha]; kernel_rfl, hB.alloc hB.size _, fun h => e0 (h.resolve_left (by decide)), fun h => e1 (h.resolve_left (by decide)), fun h => e2 (h.resolve_left (by decide)), fun h => e3 (h.resolve_left (by decide)), fun h => e4 (h.resolve_left (by decide)), fun h => e5 (h.resolve_left (by decide)), fun h => e6 (h.resolve_left (by decide)), fun h => e7 (h.resolve_left (by decide)), fun h => e8 (h.resolve_left (by decide)), fun h => e9 (h.resolve_left (by decide)), fun h => e10 (h.resolve_left (by decide)), fun h => e11 (h.resolve_left (by decide)), fun h => e12 (h.resolve_left (by decide)), fun _ => rfl, fun _ => hB.size, fun h => absurd (h.resolve_left (by decide)) (fun h => hn (hcl 14 _ rfl h ⟨13, .data⟩ (by simp) rfl)), fun _ _ => heap_alloc_new _ _⟩
    | 14, ho =>
      cases Option.some.inj ho
      have ev : a.tmps[11]?.getD undef = .pointer (some ⟨hb, 0, none⟩) := by rw [ha, e13 (hd ⟨13, .data⟩ (by simp) rfl)]; kernel_rfl
      have ev' : a.tmps[75]?.getD undef = .agg #[.int .i64 (life + 1), .int .i64 (1 - half), .int .i64 seq, .int .i64 (life + 1)] := by rw [ha, e12 (hd ⟨12, .data⟩ (by simp) rfl)]; kernel_rfl
      have hz := hnz (hd ⟨13, .data⟩ (by simp) rfl) hn
      have hhb' := hhb (hd ⟨13, .data⟩ (by simp) rfl)
      refine wp_store_row 80 (.tmp 11) (.tmp 75) rfl hb #[.int .i64 (life + 1), .int .i64 (1 - half), .int .i64 seq, .int .i64 (life + 1)] (eval_of ev) (eval_of ev') 80 _ hz (by kernel_rfl) rfl (by simp [Value.oneCell']) ?_
      exact ⟨v63, v64, v65, v66, v67, v68, v69, v70, v71, v72, v73, v74, v75, v11, hb, by rw [ha]; kernel_rfl, below_setRow hB hhb' _, fun h => e0 (h.resolve_left (by decide)), fun h => e1 (h.resolve_left (by decide)), fun h => e2 (h.resolve_left (by decide)), fun h => e3 (h.resolve_left (by decide)), fun h => e4 (h.resolve_left (by decide)), fun h => e5 (h.resolve_left (by decide)), fun h => e6 (h.resolve_left (by decide)), fun h => e7 (h.resolve_left (by decide)), fun h => e8 (h.resolve_left (by decide)), fun h => e9 (h.resolve_left (by decide)), fun h => e10 (h.resolve_left (by decide)), fun h => e11 (h.resolve_left (by decide)), fun h => e12 (h.resolve_left (by decide)), fun h => e13 (h.resolve_left (by decide)), fun h => hhb (h.resolve_left (by decide)), fun _ => setRow_heap _ _ _ _ _ _ hz, fun _ h' => absurd (.inl rfl) h'⟩
    | i + 15, ho => simp at ho
  case done =>
    rintro D a w' ⟨v63, v64, v65, v66, v67, v68, v69, v70, v71, v72, v73, v74, v75, v11, hb, ha, hB, e0, e1, e2, e3, e4, e5, e6, e7, e8, e9, e10, e11, e12, e13, hhb, hr, hnz⟩ hall
    have hhb' := hhb (hall 13 (by decide))
    have hr' := hr (hall 14 (by decide))
    obtain rfl := e0 (hall 0 (by decide))
    obtain rfl := e1 (hall 1 (by decide))
    obtain rfl := e2 (hall 2 (by decide))
    obtain rfl := e3 (hall 3 (by decide))
    obtain rfl := e4 (hall 4 (by decide))
    obtain rfl := e5 (hall 5 (by decide))
    obtain rfl := e6 (hall 6 (by decide))
    obtain rfl := e7 (hall 7 (by decide))
    obtain rfl := e8 (hall 8 (by decide))
    obtain rfl := e9 (hall 9 (by decide))
    obtain rfl := e10 (hall 10 (by decide))
    obtain rfl := e11 (hall 11 (by decide))
    obtain rfl := e12 (hall 12 (by decide))
    obtain rfl := e13 (hall 13 (by decide))
    clear hhb hr hnz hall e0 e1 e2 e3 e4 e5 e6 e7 e8 e9 e10 e11 e12 e13
    rw [ha]
    clear ha
    simp only [Act.put, List.setIfInBounds_toArray, List.set_cons_zero, List.set_cons_succ]
    have hr2 := hr'
    clear hr'
    have D2 := D0.same (fun i hi => hB.block i hi)
    have hl2 := (hB.block lb (lt_of_block hl)).trans hl
    go_upto_region 15 with fail
    have B2 := hB
    clear hB
    obtain ⟨W2, rfl⟩ : ∃ W2, W2 = w' := ⟨_, rfl⟩
    refine wp_region_inv' (fun A D a w' => ∃ v76 v77 v78 v79 v80 v81 v82 v83 v84 v85 v86 v87 v88 v12 sb, a = ((((((((((((((A.put (some 76) v76).put (some 77) v77).put (some 78) v78).put (some 79) v79).put (some 80) v80).put (some 81) v81).put (some 82) v82).put (some 83) v83).put (some 84) v84).put (some 85) v85).put (some 86) v86).put (some 87) v87).put (some 88) v88).put (some 12) v12) ∧ (D 12 ∨ Below W2.heap.size W2 w') ∧ (D 0 → v76 = .pointer (some ⟨lb, 0, none⟩)) ∧ (D 1 → v77 = .pointer (some ⟨lb, 0, none⟩)) ∧ (D 2 → v78 = .pointer (some ⟨hb, 1, none⟩)) ∧ (D 3 → v79 = .int .i64 (1 - half)) ∧ (D 4 → v80 = .int .i64 (2 + (1 - half) * hs)) ∧ (D 5 → v81 = .int .i64 (life + 1)) ∧ (D 6 → v82 = .pointer (some ⟨lb, 0, none⟩)) ∧ (D 7 → v83 = .pointer (some ⟨lb, 0, none⟩)) ∧ (D 8 → v84 = .pointer (some ⟨lb, 5, none⟩)) ∧ (D 9 → v85 = .int .i64 seq) ∧ (D 10 → v86 = .slice none 0 0) ∧ (D 11 → v87 = .slice (some ⟨sb, 0, none⟩) 0 0) ∧ (D 12 → v88 = .int .i64 0) ∧ (D 12 → Dev w' n₀ p bs bn (.slice none 0 0) size (appl G0 L) G1 [] 0 false ∧ Fr p bs bn W2 pv w' (.slice none 0 0)) ∧ (D 13 → v12 = .int .i64 0)) (by kernel_rfl) (by kernel_rfl) ?mono ?start ?step ?done
    case mono =>
      rintro D D' a w' hD ⟨v76, v77, v78, v79, v80, v81, v82, v83, v84, v85, v86, v87, v88, v12, sb, ha, hB, e0, e1, e2, e3, e4, e5, e6, e7, e8, e9, e10, e11, e12, hz, e13⟩
      exact ⟨v76, v77, v78, v79, v80, v81, v82, v83, v84, v85, v86, v87, v88, v12, sb, ha, hB.imp_left (hD 12).1, fun h => e0 ((hD 0).2 h), fun h => e1 ((hD 1).2 h), fun h => e2 ((hD 2).2 h), fun h => e3 ((hD 3).2 h), fun h => e4 ((hD 4).2 h), fun h => e5 ((hD 5).2 h), fun h => e6 ((hD 6).2 h), fun h => e7 ((hD 7).2 h), fun h => e8 ((hD 8).2 h), fun h => e9 ((hD 9).2 h), fun h => e10 ((hD 10).2 h), fun h => e11 ((hD 11).2 h), fun h => e12 ((hD 12).2 h), fun h => hz ((hD 12).2 h), fun h => e13 ((hD 13).2 h)⟩
    case start => exact ⟨undef, undef, undef, undef, undef, undef, undef, undef, undef, undef, undef, undef, undef, undef, 0, by kernel_rfl, .inr ((Below.refl _ _).drew), fun h => h.elim, fun h => h.elim, fun h => h.elim, fun h => h.elim, fun h => h.elim, fun h => h.elim, fun h => h.elim, fun h => h.elim, fun h => h.elim, fun h => h.elim, fun h => h.elim, fun h => h.elim, fun h => h.elim, fun h => h.elim, fun h => h.elim⟩
    case step =>
      intro i o ho D a w' hI hn hcl hd
      obtain ⟨v76, v77, v78, v79, v80, v81, v82, v83, v84, v85, v86, v87, v88, v12, sb, ha, hB, e0, e1, e2, e3, e4, e5, e6, e7, e8, e9, e10, e11, e12, hz, e13⟩ := hI
      match i, ho with
      | 0, ho =>
        cases Option.some.inj ho
        have ev : a.tmps[0]?.getD undef = .pointer (some ⟨lb, 0, none⟩) := by rw [ha]; kernel_rfl
        refine wp_value (w' := w') (v := .pointer (some ⟨lb, 0, none⟩)) (by simp [execOp, ev, go_sem]) ?_
        exact ⟨(.pointer (some ⟨lb, 0, none⟩)), v77, v78, v79, v80, v81, v82, v83, v84, v85, v86, v87, v88, v12, sb, by rw [ha]; kernel_rfl, hB.imp_left .inr, fun _ => rfl, fun h => e1 (h.resolve_left (by decide)), fun h => e2 (h.resolve_left (by decide)), fun h => e3 (h.resolve_left (by decide)), fun h => e4 (h.resolve_left (by decide)), fun h => e5 (h.resolve_left (by decide)), fun h => e6 (h.resolve_left (by decide)), fun h => e7 (h.resolve_left (by decide)), fun h => e8 (h.resolve_left (by decide)), fun h => e9 (h.resolve_left (by decide)), fun h => e10 (h.resolve_left (by decide)), fun h => e11 (h.resolve_left (by decide)), fun h => e12 (h.resolve_left (by decide)), fun h => hz (h.resolve_left (by decide)), fun h => e13 (h.resolve_left (by decide))⟩
      | 1, ho =>
        cases Option.some.inj ho
        have ev : a.tmps[0]?.getD undef = .pointer (some ⟨lb, 0, none⟩) := by rw [ha]; kernel_rfl
        refine wp_value (w' := w') (v := .pointer (some ⟨lb, 0, none⟩)) (by simp [execOp, ev, go_sem]) ?_
        exact ⟨v76, (.pointer (some ⟨lb, 0, none⟩)), v78, v79, v80, v81, v82, v83, v84, v85, v86, v87, v88, v12, sb, by rw [ha]; kernel_rfl, hB.imp_left .inr, fun h => e0 (h.resolve_left (by decide)), fun _ => rfl, fun h => e2 (h.resolve_left (by decide)), fun h => e3 (h.resolve_left (by decide)), fun h => e4 (h.resolve_left (by decide)), fun h => e5 (h.resolve_left (by decide)), fun h => e6 (h.resolve_left (by decide)), fun h => e7 (h.resolve_left (by decide)), fun h => e8 (h.resolve_left (by decide)), fun h => e9 (h.resolve_left (by decide)), fun h => e10 (h.resolve_left (by decide)), fun h => e11 (h.resolve_left (by decide)), fun h => e12 (h.resolve_left (by decide)), fun h => hz (h.resolve_left (by decide)), fun h => e13 (h.resolve_left (by decide))⟩
      | 2, ho =>
        cases Option.some.inj ho
        have ev : a.tmps[11]?.getD undef = .pointer (some ⟨hb, 0, none⟩) := by rw [ha]; kernel_rfl
        refine wp_value (w' := w') (v := .pointer (some ⟨hb, 1, none⟩)) (by simp [execOp, ev, go_sem]) ?_
        exact ⟨v76, v77, (.pointer (some ⟨hb, 1, none⟩)), v79, v80, v81, v82, v83, v84, v85, v86, v87, v88, v12, sb, by rw [ha]; kernel_rfl, hB.imp_left .inr, fun h => e0 (h.resolve_left (by decide)), fun h => e1 (h.resolve_left (by decide)), fun _ => rfl, fun h => e3 (h.resolve_left (by decide)), fun h => e4 (h.resolve_left (by decide)), fun h => e5 (h.resolve_left (by decide)), fun h => e6 (h.resolve_left (by decide)), fun h => e7 (h.resolve_left (by decide)), fun h => e8 (h.resolve_left (by decide)), fun h => e9 (h.resolve_left (by decide)), fun h => e10 (h.resolve_left (by decide)), fun h => e11 (h.resolve_left (by decide)), fun h => e12 (h.resolve_left (by decide)), fun h => hz (h.resolve_left (by decide)), fun h => e13 (h.resolve_left (by decide))⟩
      | 3, ho =>
        cases Option.some.inj ho
        have ev : a.tmps[78]?.getD undef = .pointer (some ⟨hb, 1, none⟩) := by rw [ha, e2 (hd ⟨2, .data⟩ (by simp) rfl)]; kernel_rfl
        have hb4 := hB.resolve_left (fun h => (fun h => hn (hcl 4 _ rfl h ⟨3, .data⟩ (by simp) rfl)) (hcl 12 _ rfl h ⟨4, .data⟩ (by simp) rfl))
        have hc : w'.cell? ⟨hb, 1, none⟩ = some (.int .i64 (1 - half)) := by rw [cell_of_row _ hb _ _ _ _ ((hb4.block hb (lt_of_block hr2)).trans hr2)]; rfl
        refine wp_value (w' := w') (v := .int .i64 (1 - half)) (by simp [execOp, ev, go_sem, hc]) ?_
        exact ⟨v76, v77, v78, (.int .i64 (1 - half)), v80, v81, v82, v83, v84, v85, v86, v87, v88, v12, sb, by rw [ha]; kernel_rfl, hB.imp_left .inr, fun h => e0 (h.resolve_left (by decide)), fun h => e1 (h.resolve_left (by decide)), fun h => e2 (h.resolve_left (by decide)), fun _ => rfl, fun h => e4 (h.resolve_left (by decide)), fun h => e5 (h.resolve_left (by decide)), fun h => e6 (h.resolve_left (by decide)), fun h => e7 (h.resolve_left (by decide)), fun h => e8 (h.resolve_left (by decide)), fun h => e9 (h.resolve_left (by decide)), fun h => e10 (h.resolve_left (by decide)), fun h => e11 (h.resolve_left (by decide)), fun h => e12 (h.resolve_left (by decide)), fun h => hz (h.resolve_left (by decide)), fun h => e13 (h.resolve_left (by decide))⟩
      | 4, ho =>
        cases Option.some.inj ho
        have ev : a.tmps[77]?.getD undef = .pointer (some ⟨lb, 0, none⟩) := by rw [ha, e1 (hd ⟨1, .data⟩ (by simp) rfl)]; kernel_rfl
        have ev' : a.tmps[79]?.getD undef = .int .i64 (1 - half) := by rw [ha, e3 (hd ⟨3, .data⟩ (by simp) rfl)]; kernel_rfl
        have hb4 := hB.resolve_left (fun h => hn (hcl 12 _ rfl h ⟨4, .data⟩ (by simp) rfl))
        refine wp_enter (f := 55) (args := #[.pointer (some ⟨lb, 0, none⟩), .int .i64 (1 - half)]) (by simp [execOp, ev, ev', go_sem]) ?_
        refine (start_any ((hb4.block lb (lt_of_block hl2)).trans hl2) (1 - half) hhalf' hh0 hh1).mono ?_
        rintro e w6 ⟨rfl, rfl⟩
        refine ⟨_, rfl, ?_⟩
        exact ⟨v76, v77, v78, v79, (.int .i64 (2 + (1 - half) * hs)), v81, v82, v83, v84, v85, v86, v87, v88, v12, sb, by rw [ha]; kernel_rfl, hB.imp_left .inr, fun h => e0 (h.resolve_left (by decide)), fun h => e1 (h.resolve_left (by decide)), fun h => e2 (h.resolve_left (by decide)), fun h => e3 (h.resolve_left (by decide)), fun _ => rfl, fun h => e5 (h.resolve_left (by decide)), fun h => e6 (h.resolve_left (by decide)), fun h => e7 (h.resolve_left (by decide)), fun h => e8 (h.resolve_left (by decide)), fun h => e9 (h.resolve_left (by decide)), fun h => e10 (h.resolve_left (by decide)), fun h => e11 (h.resolve_left (by decide)), fun h => e12 (h.resolve_left (by decide)), fun h => hz (h.resolve_left (by decide)), fun h => e13 (h.resolve_left (by decide))⟩
      | 5, ho =>
        cases Option.some.inj ho
        have ev : a.tmps[10]?.getD undef = .int .i64 (life + 1) := by rw [ha]; kernel_rfl
        refine wp_value (w' := w') (v := .int .i64 (life + 1)) (by simp [execOp, ev, go_sem]) ?_
        exact ⟨v76, v77, v78, v79, v80, (.int .i64 (life + 1)), v82, v83, v84, v85, v86, v87, v88, v12, sb, by rw [ha]; kernel_rfl, hB.imp_left .inr, fun h => e0 (h.resolve_left (by decide)), fun h => e1 (h.resolve_left (by decide)), fun h => e2 (h.resolve_left (by decide)), fun h => e3 (h.resolve_left (by decide)), fun h => e4 (h.resolve_left (by decide)), fun _ => rfl, fun h => e6 (h.resolve_left (by decide)), fun h => e7 (h.resolve_left (by decide)), fun h => e8 (h.resolve_left (by decide)), fun h => e9 (h.resolve_left (by decide)), fun h => e10 (h.resolve_left (by decide)), fun h => e11 (h.resolve_left (by decide)), fun h => e12 (h.resolve_left (by decide)), fun h => hz (h.resolve_left (by decide)), fun h => e13 (h.resolve_left (by decide))⟩
      | 6, ho =>
        cases Option.some.inj ho
        have ev : a.tmps[0]?.getD undef = .pointer (some ⟨lb, 0, none⟩) := by rw [ha]; kernel_rfl
        refine wp_value (w' := w') (v := .pointer (some ⟨lb, 0, none⟩)) (by simp [execOp, ev, go_sem]) ?_
        exact ⟨v76, v77, v78, v79, v80, v81, (.pointer (some ⟨lb, 0, none⟩)), v83, v84, v85, v86, v87, v88, v12, sb, by rw [ha]; kernel_rfl, hB.imp_left .inr, fun h => e0 (h.resolve_left (by decide)), fun h => e1 (h.resolve_left (by decide)), fun h => e2 (h.resolve_left (by decide)), fun h => e3 (h.resolve_left (by decide)), fun h => e4 (h.resolve_left (by decide)), fun h => e5 (h.resolve_left (by decide)), fun _ => rfl, fun h => e7 (h.resolve_left (by decide)), fun h => e8 (h.resolve_left (by decide)), fun h => e9 (h.resolve_left (by decide)), fun h => e10 (h.resolve_left (by decide)), fun h => e11 (h.resolve_left (by decide)), fun h => e12 (h.resolve_left (by decide)), fun h => hz (h.resolve_left (by decide)), fun h => e13 (h.resolve_left (by decide))⟩
      | 7, ho =>
        cases Option.some.inj ho
        have ev : a.tmps[82]?.getD undef = .pointer (some ⟨lb, 0, none⟩) := by rw [ha, e6 (hd ⟨6, .data⟩ (by simp) rfl)]; kernel_rfl
        refine wp_value (w' := w') (v := .pointer (some ⟨lb, 0, none⟩)) (by simp [execOp, ev, go_sem]) ?_
        exact ⟨v76, v77, v78, v79, v80, v81, v82, (.pointer (some ⟨lb, 0, none⟩)), v84, v85, v86, v87, v88, v12, sb, by rw [ha]; kernel_rfl, hB.imp_left .inr, fun h => e0 (h.resolve_left (by decide)), fun h => e1 (h.resolve_left (by decide)), fun h => e2 (h.resolve_left (by decide)), fun h => e3 (h.resolve_left (by decide)), fun h => e4 (h.resolve_left (by decide)), fun h => e5 (h.resolve_left (by decide)), fun h => e6 (h.resolve_left (by decide)), fun _ => rfl, fun h => e8 (h.resolve_left (by decide)), fun h => e9 (h.resolve_left (by decide)), fun h => e10 (h.resolve_left (by decide)), fun h => e11 (h.resolve_left (by decide)), fun h => e12 (h.resolve_left (by decide)), fun h => hz (h.resolve_left (by decide)), fun h => e13 (h.resolve_left (by decide))⟩
      | 8, ho =>
        cases Option.some.inj ho
        have ev : a.tmps[83]?.getD undef = .pointer (some ⟨lb, 0, none⟩) := by rw [ha, e7 (hd ⟨7, .data⟩ (by simp) rfl)]; kernel_rfl
        refine wp_value (w' := w') (v := .pointer (some ⟨lb, 5, none⟩)) (by simp [execOp, ev, go_sem]) ?_
        exact ⟨v76, v77, v78, v79, v80, v81, v82, v83, (.pointer (some ⟨lb, 5, none⟩)), v85, v86, v87, v88, v12, sb, by rw [ha]; kernel_rfl, hB.imp_left .inr, fun h => e0 (h.resolve_left (by decide)), fun h => e1 (h.resolve_left (by decide)), fun h => e2 (h.resolve_left (by decide)), fun h => e3 (h.resolve_left (by decide)), fun h => e4 (h.resolve_left (by decide)), fun h => e5 (h.resolve_left (by decide)), fun h => e6 (h.resolve_left (by decide)), fun h => e7 (h.resolve_left (by decide)), fun _ => rfl, fun h => e9 (h.resolve_left (by decide)), fun h => e10 (h.resolve_left (by decide)), fun h => e11 (h.resolve_left (by decide)), fun h => e12 (h.resolve_left (by decide)), fun h => hz (h.resolve_left (by decide)), fun h => e13 (h.resolve_left (by decide))⟩
      | 9, ho =>
        cases Option.some.inj ho
        have ev : a.tmps[84]?.getD undef = .pointer (some ⟨lb, 5, none⟩) := by rw [ha, e8 (hd ⟨8, .data⟩ (by simp) rfl)]; kernel_rfl
        have hb4 := hB.resolve_left (fun h => (fun h => hn (hcl 11 _ rfl h ⟨9, .data⟩ (by simp) rfl)) (hcl 12 _ rfl h ⟨11, .data⟩ (by simp) rfl))
        have hc := (log_cells ((hb4.block lb (lt_of_block hl2)).trans hl2)).2.2.2.2.2.1
        refine wp_value (w' := w') (v := .int .i64 seq) (by simp [execOp, ev, go_sem, hc]) ?_
        exact ⟨v76, v77, v78, v79, v80, v81, v82, v83, v84, (.int .i64 seq), v86, v87, v88, v12, sb, by rw [ha]; kernel_rfl, hB.imp_left .inr, fun h => e0 (h.resolve_left (by decide)), fun h => e1 (h.resolve_left (by decide)), fun h => e2 (h.resolve_left (by decide)), fun h => e3 (h.resolve_left (by decide)), fun h => e4 (h.resolve_left (by decide)), fun h => e5 (h.resolve_left (by decide)), fun h => e6 (h.resolve_left (by decide)), fun h => e7 (h.resolve_left (by decide)), fun h => e8 (h.resolve_left (by decide)), fun _ => rfl, fun h => e10 (h.resolve_left (by decide)), fun h => e11 (h.resolve_left (by decide)), fun h => e12 (h.resolve_left (by decide)), fun h => hz (h.resolve_left (by decide)), fun h => e13 (h.resolve_left (by decide))⟩
      | 10, ho =>
        cases Option.some.inj ho
        have ev : a.tmps[1]?.getD undef = .slice none 0 0 := by rw [ha]; kernel_rfl
        refine wp_value (w' := w') (v := .slice none 0 0) (by simp [execOp, ev, go_sem]) ?_
        exact ⟨v76, v77, v78, v79, v80, v81, v82, v83, v84, v85, (.slice none 0 0), v87, v88, v12, sb, by rw [ha]; kernel_rfl, hB.imp_left .inr, fun h => e0 (h.resolve_left (by decide)), fun h => e1 (h.resolve_left (by decide)), fun h => e2 (h.resolve_left (by decide)), fun h => e3 (h.resolve_left (by decide)), fun h => e4 (h.resolve_left (by decide)), fun h => e5 (h.resolve_left (by decide)), fun h => e6 (h.resolve_left (by decide)), fun h => e7 (h.resolve_left (by decide)), fun h => e8 (h.resolve_left (by decide)), fun h => e9 (h.resolve_left (by decide)), fun _ => rfl, fun h => e11 (h.resolve_left (by decide)), fun h => e12 (h.resolve_left (by decide)), fun h => hz (h.resolve_left (by decide)), fun h => e13 (h.resolve_left (by decide))⟩
      | 11, ho =>
        cases Option.some.inj ho
        have ev : a.tmps[81]?.getD undef = .int .i64 (life + 1) := by rw [ha, e5 (hd ⟨5, .data⟩ (by simp) rfl)]; kernel_rfl
        have ev' : a.tmps[85]?.getD undef = .int .i64 seq := by rw [ha, e9 (hd ⟨9, .data⟩ (by simp) rfl)]; kernel_rfl
        have ev'' : a.tmps[86]?.getD undef = .slice none 0 0 := by rw [ha, e10 (hd ⟨10, .data⟩ (by simp) rfl)]; kernel_rfl
        refine wp_enter (f := 60) (args := #[.int .i64 (life + 1), .int .i64 seq, .slice none 0 0]) (by simp [execOp, ev, ev', ev'', go_sem]) ?_
        refine (lay_none w' (life + 1) seq).mono ?_
        rintro e w6 ⟨rfl, HB⟩
        refine ⟨_, rfl, ?_⟩
        exact ⟨v76, v77, v78, v79, v80, v81, v82, v83, v84, v85, v86, (.slice (some ⟨w'.heap.size, 0, none⟩) 0 0), v88, v12, w'.heap.size, by rw [ha]; kernel_rfl, hB.imp .inr (fun h => below_size h (Nat.le_refl _) HB), fun h => e0 (h.resolve_left (by decide)), fun h => e1 (h.resolve_left (by decide)), fun h => e2 (h.resolve_left (by decide)), fun h => e3 (h.resolve_left (by decide)), fun h => e4 (h.resolve_left (by decide)), fun h => e5 (h.resolve_left (by decide)), fun h => e6 (h.resolve_left (by decide)), fun h => e7 (h.resolve_left (by decide)), fun h => e8 (h.resolve_left (by decide)), fun h => e9 (h.resolve_left (by decide)), fun h => e10 (h.resolve_left (by decide)), fun _ => rfl, fun h => e12 (h.resolve_left (by decide)), fun h => absurd (h.resolve_left (by decide)) (fun h => hn (hcl 12 _ rfl h ⟨11, .data⟩ (by simp) rfl)), fun h => e13 (h.resolve_left (by decide))⟩
      | 12, ho =>
        cases Option.some.inj ho
        have ev : a.tmps[76]?.getD undef = .pointer (some ⟨lb, 0, none⟩) := by rw [ha, e0 (hd ⟨0, .data⟩ (by simp) rfl)]; kernel_rfl
        have ev' : a.tmps[80]?.getD undef = .int .i64 (2 + (1 - half) * hs) := by rw [ha, e4 (hd ⟨4, .data⟩ (by simp) rfl)]; kernel_rfl
        have ev'' : a.tmps[87]?.getD undef = .slice (some ⟨sb, 0, none⟩) 0 0 := by rw [ha, e11 (hd ⟨11, .data⟩ (by simp) rfl)]; kernel_rfl
        have hb5 := hB.resolve_left hn
        have D5 := D2.same (fun i hi => hb5.block i hi)
        have l5 := (hb5.block lb (lt_of_block hl2)).trans hl2
        refine wp_enter (f := 54) (args := #[.pointer (some ⟨lb, 0, none⟩), .int .i64 (2 + (1 - half) * hs), .slice (some ⟨sb, 0, none⟩) 0 0]) (by simp [execOp, ev, ev', ev'', go_sem]) ?_
        refine (logWrite_none D5 l5 (2 + (1 - half) * hs) (some ⟨sb, 0, none⟩) 0 hL).mono ?_
        rintro e w6 ⟨rfl, D6, F6⟩
        refine ⟨_, rfl, ?_⟩
        exact ⟨v76, v77, v78, v79, v80, v81, v82, v83, v84, v85, v86, v87, (.int .i64 0), v12, sb, by rw [ha]; kernel_rfl, .inl (.inl rfl), fun h => e0 (h.resolve_left (by decide)), fun h => e1 (h.resolve_left (by decide)), fun h => e2 (h.resolve_left (by decide)), fun h => e3 (h.resolve_left (by decide)), fun h => e4 (h.resolve_left (by decide)), fun h => e5 (h.resolve_left (by decide)), fun h => e6 (h.resolve_left (by decide)), fun h => e7 (h.resolve_left (by decide)), fun h => e8 (h.resolve_left (by decide)), fun h => e9 (h.resolve_left (by decide)), fun h => e10 (h.resolve_left (by decide)), fun h => e11 (h.resolve_left (by decide)), fun _ => rfl, fun _ => ⟨D6, (Fr.of_below hb5).trans F6⟩, fun h => e13 (h.resolve_left (by decide))⟩
      | 13, ho =>
        cases Option.some.inj ho
        have ev : a.tmps[88]?.getD undef = .int .i64 0 := by rw [ha, e12 (hd ⟨12, .data⟩ (by simp) rfl)]; kernel_rfl
        refine wp_value (w' := w') (v := .int .i64 0) (by simp [execOp, ev, go_sem]) ?_
        exact ⟨v76, v77, v78, v79, v80, v81, v82, v83, v84, v85, v86, v87, v88, (.int .i64 0), sb, by rw [ha]; kernel_rfl, hB.imp_left .inr, fun h => e0 (h.resolve_left (by decide)), fun h => e1 (h.resolve_left (by decide)), fun h => e2 (h.resolve_left (by decide)), fun h => e3 (h.resolve_left (by decide)), fun h => e4 (h.resolve_left (by decide)), fun h => e5 (h.resolve_left (by decide)), fun h => e6 (h.resolve_left (by decide)), fun h => e7 (h.resolve_left (by decide)), fun h => e8 (h.resolve_left (by decide)), fun h => e9 (h.resolve_left (by decide)), fun h => e10 (h.resolve_left (by decide)), fun h => e11 (h.resolve_left (by decide)), fun h => e12 (h.resolve_left (by decide)), fun h => hz (h.resolve_left (by decide)), fun _ => rfl⟩
      | i + 14, ho => simp at ho
    case done =>
      rintro D a w' ⟨v76, v77, v78, v79, v80, v81, v82, v83, v84, v85, v86, v87, v88, v12, sb, ha, hB, e0, e1, e2, e3, e4, e5, e6, e7, e8, e9, e10, e11, e12, hz, e13⟩ hall
      obtain ⟨D6, F6⟩ := hz (hall 12 (by decide))
      obtain rfl := e0 (hall 0 (by decide))
      obtain rfl := e1 (hall 1 (by decide))
      obtain rfl := e2 (hall 2 (by decide))
      obtain rfl := e3 (hall 3 (by decide))
      obtain rfl := e4 (hall 4 (by decide))
      obtain rfl := e5 (hall 5 (by decide))
      obtain rfl := e6 (hall 6 (by decide))
      obtain rfl := e7 (hall 7 (by decide))
      obtain rfl := e8 (hall 8 (by decide))
      obtain rfl := e9 (hall 9 (by decide))
      obtain rfl := e10 (hall 10 (by decide))
      obtain rfl := e11 (hall 11 (by decide))
      obtain rfl := e12 (hall 12 (by decide))
      obtain rfl := e13 (hall 13 (by decide))
      clear hz hall hB e0 e1 e2 e3 e4 e5 e6 e7 e8 e9 e10 e11 e12 e13
      rw [ha]
      clear ha
      simp only [Act.put, List.setIfInBounds_toArray, List.set_cons_zero, List.set_cons_succ]
      have l6 : w'.heap[lb]? = some (logO p life half first since seq hs used false) := F6.cells D2 hl2 (by decide) (by decide)
      have r6 := F6.cells D2 hr2 (by decide) (by decide)
      have F7 := (Fr.of_below (p := p) (bs := bs) (bn := bn) (pv := pv) B2).trans F6
      clear F6 D2 hl2 hr2 B2
      go_wp2_with (first | (refine wpList_value rfl (run_load80 rfl rfl r6) ?_) | fail)
      refine (take_ok D6 l6 hs0 hs1 (by simp) (life + 1) (1 - half) seq (life + 1) (by omega)).mono ?_
      rintro e w7 ⟨rfl, D8, L8, o1, o2, o3, o4, o5⟩
      have ap := D8.apart (b := lb) (t := 89) L8 (by decide) (by decide)
      have a7 := (log_cells L8).2.2.2.2.2.2.2.1
      have f7 := (log_cells L8).2.2.2.2.2.2.2.2.2 7
      have L9 := log_set7 L8 0
      have a5 := (log_cells L9).2.2.2.2.2.1
      have f5 := (log_cells L9).2.2.2.2.2.2.2.2.2 5
      have L10 := log_set5 L9 seq
      have N10 := ((But.refl lb w7).set (i := 7) (v := .int .i64 0)).set (i := 5) (v := .int .i64 seq)
      have D10 := D8.but N10 ap
      clear D8 D6 l6 r6 ap
      go_wp2
      go_ret
      exact ⟨rfl, ⟨_, _, D10⟩, L10, N10.os.trans (o1.trans F7.os), N10.tape.trans (o2.trans F7.tape), N10.output.trans (o3.trans F7.output), Nat.le_trans F7.size (Nat.le_trans o4 N10.size), fun i hi k0 k1 k2 k3 k4 => (N10.block i (by have := F7.size; omega) k0).trans ((o5 i (by have := F7.size; omega) k0 k1 k2 k3 (by simp [Value.ownBlock])).trans (F7.keep i hi k1 k2 k3 k4).1)⟩
end
end Go.Proofs.Ytofgphiamllmdab
