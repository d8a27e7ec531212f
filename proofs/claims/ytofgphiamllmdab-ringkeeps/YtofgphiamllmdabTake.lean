/- Log.take. -/
import Derived.Test.YtofgphiamllmdabLogW
import Derived.Test.YtofgphiamllmdabReadH
namespace Go.Proofs.Ytofgphiamllmdab
open Go.RowKit
set_option maxRecDepth 100000

theorem ArrS.bytes2 {w : World} {b ty : Nat} {xs : List Int} (h : ArrS w b ty xs) (hb : ∀ x ∈ xs, 0 ≤ x ∧ x < 256) : Bytes w b 0 xs := ⟨hb, fun i hi => by rw [Nat.zero_add]; exact h.cell i hi⟩
theorem run_load80 {a : Act} {w : World} {o : Oper} {x : Operand} {b : Nat} {v0 v1 v2 v3 : Value} (h1 : a.eval x = .pointer (some ⟨b, 0, none⟩)) (ho : o.op = .load 80 x) (hx : w.heap[b]? = some (.cells #[v0, v1, v2, v3] 80 (0, 0))) : (execOp a.eval o).run Try.prog w = .ok (.value (.agg #[v0, v1, v2, v3])) w := by
  simp only [execOp, ho, h1, Instr.loadAt, Instr.sureAddr, Sem.run_bind, Sem.run_pure, Result.andThen_ok, load80 hx]
section
variable {w : World} {n₀ p bs bn : Nat} {pv : Value} {size : Int} {G0 G1 : Int → List Int} {L : List (Int × List Int)}
variable {lb : Nat} {life half first since seq hs used : Int} {failed : Bool}
theorem Fr.of_below {w' : World} (h : Below w.heap.size w w') : Fr p bs bn w pv w' pv := ⟨h.os, h.tape, h.output, h.size, fun i hi _ _ _ h4 => ⟨h.block i hi, h4⟩⟩
theorem log_set1 (h : w.heap[lb]? = some (logO p life half first since seq hs used failed)) (v : Int) : (w.setCell ⟨lb, 1, none⟩ (.int .i64 v)).heap[lb]? = some (logO p v half first since seq hs used failed) := by
  unfold logO at h ⊢
  rw [heap_setCell_same w lb 1 _ _ _ h]
  simp
theorem log_set2 (h : w.heap[lb]? = some (logO p life half first since seq hs used failed)) (v : Int) : (w.setCell ⟨lb, 2, none⟩ (.int .i64 v)).heap[lb]? = some (logO p life v first since seq hs used failed) := by
  unfold logO at h ⊢
  rw [heap_setCell_same w lb 2 _ _ _ h]
  simp
theorem log_set3 (h : w.heap[lb]? = some (logO p life half first since seq hs used failed)) (v : Int) : (w.setCell ⟨lb, 3, none⟩ (.int .i64 v)).heap[lb]? = some (logO p life half v since seq hs used failed) := by
  unfold logO at h ⊢
  rw [heap_setCell_same w lb 3 _ _ _ h]
  simp
theorem log_set4 (h : w.heap[lb]? = some (logO p life half first since seq hs used failed)) (v : Int) : (w.setCell ⟨lb, 4, none⟩ (.int .i64 v)).heap[lb]? = some (logO p life half first v seq hs used failed) := by
  unfold logO at h ⊢
  rw [heap_setCell_same w lb 4 _ _ _ h]
  simp
set_option maxHeartbeats 4000000 in
theorem take_ok (D0 : Dev w n₀ p bs bn pv size G0 G1 L 0 false) (hl0 : w.heap[lb]? = some (logO p life half first since seq hs used failed)) (hs0 : 2 ≤ size) (hs1 : size ≤ 4096) (hL : L.length ≤ 999990000) (life2 half2 first2 since2 : Int) (hlife : 0 ≤ life2) :
    Calls Try.prog 61 #[.pointer (some ⟨lb, 0, none⟩), .agg #[.int .i64 life2, .int .i64 half2, .int .i64 first2, .int .i64 since2]] w fun e w' => e = .returned (.int .i64 0) ∧ Dev w' n₀ p bs bn (.slice none 0 0) size (appl G0 (L ++ wsP (life2 % 2) (headB life2 half2 first2 since2) (List.finRange 1))) (appl G1 (wsP (life2 % 2) (headB life2 half2 first2 since2) (List.finRange 1))) [] 0 false ∧ w'.heap[lb]? = some (logO p life2 half2 first2 since2 seq hs used failed) ∧ w'.os = w.os ∧ w'.tape = w.tape ∧ w'.output = w.output ∧ w.heap.size ≤ w'.heap.size ∧ (∀ i, i < w.heap.size → i ≠ lb → i ≠ p → i ≠ bs → i ≠ bn → pv.ownBlock ≠ some i → w'.heap[i]? = w.heap[i]?) := by
  go_enter Try.func61, Try.ntmps61
  go_wp2_with (first | (refine wpList_value rfl (run_load80 rfl rfl (heap_alloc_new w (.cells #[.int .i64 life2, .int .i64 half2, .int .i64 first2, .int .i64 since2] 80))) ?_) | fail)
  refine (head_sector _ life2 half2 first2 since2).mono ?_
  rintro e w1 ⟨rfl, hb1⟩
  have hHS := headB_sec life2 half2 first2 since2
  obtain ⟨HB', hHB⟩ : ∃ X, Hid (headB life2 half2 first2 since2 = X) := ⟨_, rfl⟩
  rw [hHB.out] at hHS ⊢
  have hbw := below_size (box_below w (.cells #[.int .i64 life2, .int .i64 half2, .int .i64 first2, .int .i64 since2] 80)) (by simp) hb1
  have h1 := (hb1.block _ (lt_of_block (heap_alloc_new w (.cells #[.int .i64 life2, .int .i64 half2, .int .i64 first2, .int .i64 since2] 80)))).trans (heap_alloc_new w (.cells #[.int .i64 life2, .int .i64 half2, .int .i64 first2, .int .i64 since2] 80))
  have D1 := D0.same (fun i hi => hbw.block i hi)
  have l1 := (hbw.block lb (lt_of_block hl0)).trans hl0
  clear hb1
  have hA0 := heap_alloc_new w1 (.cells Try.zeroCells78 78)
  have z1 : (Try.prog.info? 78).map (·.size) = some (cellsB HB').size := by rw [cellsB_size, hHS.len]; kernel_rfl
  have z2 : Try.zeroCells78.size = (cellsB HB').size := by rw [zero78, cellsB_size, cellsB_size, hHS.len, fillB_len (by decide)]
  have z3 := cellsB_one HB'
  have hA : ArrS ((w1.alloc (.cells Try.zeroCells78 78)).setRow w1.heap.size (cellsB HB')) w1.heap.size 78 HB' := setRow_heap _ _ _ _ _ _ hA0
  have hbW : Below w1.heap.size w1 ((w1.alloc (.cells Try.zeroCells78 78)).setRow w1.heap.size (cellsB HB')) := below_setRow (box_below w1 _) (Nat.le_refl _) _
  go_upto_region 2 with (first | refine wpList_store_row rfl 78 _ _ rfl w1.heap.size _ rfl rfl 78 _ hA0 z1 z2 z3 ?_)
  generalize (w1.alloc (.cells Try.zeroCells78 78)).setRow w1.heap.size (cellsB HB') = W at *
  have DV := D1.same (fun i hi => hbW.block i hi)
  have hl := (hbW.block lb (lt_of_block l1)).trans l1
  have h1 := (hbW.block _ (lt_of_block h1)).trans h1
  have hbw2 := below_size hbw (Nat.le_refl _) hbW
  generalize w1.heap.size = ab at *
  clear D0 hl0 D1 l1 hbW hA0 z1 z2 z3 hbw
  obtain ⟨hb, hhb, hhb2⟩ : ∃ hb, w.heap.size = hb ∧ w.heap.size ≤ hb := ⟨_, rfl, Nat.le_refl _⟩
  rw [hhb] at h1
  have e0 : (Value.pointer (some ⟨w.heap.size, 0, none⟩)) = .pointer (some ⟨hb, 0, none⟩) := by rw [hhb]
  rw [e0]
  clear hhb e0
  refine wp_region_inv' (fun A D a w' => ∃ v9 v10 v11 v12 v13 v14 v6 nb, a = (((((((A.put (some 9) v9).put (some 10) v10).put (some 11) v11).put (some 12) v12).put (some 13) v13).put (some 14) v14).put (some 6) v6) ∧ (D 5 ∨ Below W.heap.size W w') ∧ (D 0 → v9 = .pointer (some ⟨lb, 0, none⟩)) ∧ (D 1 → v10 = .agg #[.int .i64 life2, .int .i64 half2, .int .i64 first2, .int .i64 since2]) ∧ (D 2 → v11 = .int .i64 (life2 % 2)) ∧ (D 3 → v12 = .slice (some ⟨ab, 0, none⟩) 128 128) ∧ (D 4 → v13 = .slice (some ⟨nb, 0, none⟩) 1 1) ∧ (D 4 → w'.heap[nb]? = some (.cells #[.slice (some ⟨ab, 0, none⟩) 128 128] 38 (0, 0))) ∧ (D 5 → v14 = .int .i64 0) ∧ (D 5 → Dev w' n₀ p bs bn (.slice none 0 0) size (appl G0 (L ++ wsP (life2 % 2) HB' (List.finRange 1))) (appl G1 (wsP (life2 % 2) HB' (List.finRange 1))) [] 0 false ∧ Fr p bs bn W pv w' (.slice none 0 0)) ∧ (D 6 → v6 = .int .i64 0)) (by kernel_rfl) (by kernel_rfl) ?mono ?start ?step ?done
  case mono =>
    rintro D D' a w' hD ⟨v9, v10, v11, v12, v13, v14, v6, nb, ha, hB, e0, e1, e2, e3, e4, h4, e5, hz, e6⟩
    exact ⟨v9, v10, v11, v12, v13, v14, v6, nb, ha, hB.imp_left (hD 5).1, fun h => e0 ((hD 0).2 h), fun h => e1 ((hD 1).2 h), fun h => e2 ((hD 2).2 h), fun h => e3 ((hD 3).2 h), fun h => e4 ((hD 4).2 h), fun h => h4 ((hD 4).2 h), fun h => e5 ((hD 5).2 h), fun h => hz ((hD 5).2 h), fun h => e6 ((hD 6).2 h)⟩
  case start => exact ⟨undef, undef, undef, undef, undef, undef, undef, 0, by kernel_rfl, .inr ((Below.refl _ _).drew), fun h => h.elim, fun h => h.elim, fun h => h.elim, fun h => h.elim, fun h => h.elim, fun h => h.elim, fun h => h.elim, fun h => h.elim, fun h => h.elim⟩
  case step =>
    intro i o ho D a w' hI hn hcl hd
    obtain ⟨v9, v10, v11, v12, v13, v14, v6, nb, ha, hB, e0, e1, e2, e3, e4, h4, e5, hz, e6⟩ := hI
    match i, ho with
    | 0, ho =>
      cases Option.some.inj ho
      have ev : a.tmps[0]?.getD undef = .pointer (some ⟨lb, 0, none⟩) := by rw [ha]; kernel_rfl
      refine wp_value (w' := w') (v := .pointer (some ⟨lb, 0, none⟩)) (by simp [execOp, ev, go_sem]) ?_
      exact ⟨(.pointer (some ⟨lb, 0, none⟩)), v10, v11, v12, v13, v14, v6, nb, by rw [ha]; kernel_rfl, hB.imp_left .inr, fun _ => rfl, fun h => e1 (h.resolve_left (by decide)), fun h => e2 (h.resolve_left (by decide)), fun h => e3 (h.resolve_left (by decide)), fun h => e4 (h.resolve_left (by decide)), fun h => h4 (h.resolve_left (by decide)), fun h => e5 (h.resolve_left (by decide)), fun h => hz (h.resolve_left (by decide)), fun h => e6 (h.resolve_left (by decide))⟩
    | 1, ho =>
      cases Option.some.inj ho
      have ev : a.tmps[3]?.getD undef = .pointer (some ⟨hb, 0, none⟩) := by rw [ha]; kernel_rfl
      refine wp_value (w' := w') (v := .agg #[.int .i64 life2, .int .i64 half2, .int .i64 first2, .int .i64 since2]) (run_load80 (eval_of ev) rfl (((hB.resolve_left (fun h => hn (hcl 2 _ rfl (hcl 5 _ rfl h ⟨2, .data⟩ (by simp) rfl) ⟨1, .data⟩ (by simp) rfl))).block hb (lt_of_block h1)).trans h1)) ?_
      exact ⟨v9, (.agg #[.int .i64 life2, .int .i64 half2, .int .i64 first2, .int .i64 since2]), v11, v12, v13, v14, v6, nb, by rw [ha]; kernel_rfl, hB.imp_left .inr, fun h => e0 (h.resolve_left (by decide)), fun _ => rfl, fun h => e2 (h.resolve_left (by decide)), fun h => e3 (h.resolve_left (by decide)), fun h => e4 (h.resolve_left (by decide)), fun h => h4 (h.resolve_left (by decide)), fun h => e5 (h.resolve_left (by decide)), fun h => hz (h.resolve_left (by decide)), fun h => e6 (h.resolve_left (by decide))⟩
    | 2, ho =>
      cases Option.some.inj ho
      have ev : a.tmps[10]?.getD undef = .agg #[.int .i64 life2, .int .i64 half2, .int .i64 first2, .int .i64 since2] := by rw [ha, e1 (hd ⟨1, .data⟩ (by simp) rfl)]; kernel_rfl
      refine wp_enter (f := 85) (args := #[.agg #[.int .i64 life2, .int .i64 half2, .int .i64 first2, .int .i64 since2]]) (by simp [execOp, ev, go_sem]) ?_
      refine (place_any w' life2 half2 first2 since2 hlife).mono ?_
      rintro e w6 ⟨rfl, HB⟩
      refine ⟨_, rfl, ?_⟩
      exact ⟨v9, v10, (.int .i64 (life2 % 2)), v12, v13, v14, v6, nb, by rw [ha]; kernel_rfl, hB.imp .inr (fun h => below_size h (Nat.le_refl _) HB), fun h => e0 (h.resolve_left (by decide)), fun h => e1 (h.resolve_left (by decide)), fun _ => rfl, fun h => e3 (h.resolve_left (by decide)), fun h => e4 (h.resolve_left (by decide)), fun h => (HB.block _ (lt_of_block (h4 (h.resolve_left (by decide))))).trans (h4 (h.resolve_left (by decide))), fun h => e5 (h.resolve_left (by decide)), fun h => absurd (h.resolve_left (by decide)) (fun h => hn (hcl 5 _ rfl h ⟨2, .data⟩ (by simp) rfl)), fun h => e6 (h.resolve_left (by decide))⟩
    | 3, ho =>
      cases Option.some.inj ho
      have ev : a.tmps[5]?.getD undef = .pointer (some ⟨ab, 0, none⟩) := by rw [ha]; kernel_rfl
      refine wp_value (w' := w') (v := .slice (some ⟨ab, 0, none⟩) 128 128) (by simp [execOp, ev, go_sem]) ?_
      exact ⟨v9, v10, v11, (.slice (some ⟨ab, 0, none⟩) 128 128), v13, v14, v6, nb, by rw [ha]; kernel_rfl, hB.imp_left .inr, fun h => e0 (h.resolve_left (by decide)), fun h => e1 (h.resolve_left (by decide)), fun h => e2 (h.resolve_left (by decide)), fun _ => rfl, fun h => e4 (h.resolve_left (by decide)), fun h => h4 (h.resolve_left (by decide)), fun h => e5 (h.resolve_left (by decide)), fun h => hz (h.resolve_left (by decide)), fun h => e6 (h.resolve_left (by decide))⟩
    | 4, ho =>
      cases Option.some.inj ho
      have ev : a.tmps[12]?.getD undef = .slice (some ⟨ab, 0, none⟩) 128 128 := by rw [ha, e3 (hd ⟨3, .data⟩ (by simp) rfl)]; kernel_rfl
      refine wp_value (w' := w'.alloc (.cells #[.slice (some ⟨ab, 0, none⟩) 128 128] 38)) (v := .slice (some ⟨w'.heap.size, 0, none⟩) 1 1) (by simp [execOp, ev, go_sem]) ?_
      exact ⟨v9, v10, v11, v12, (.slice (some ⟨w'.heap.size, 0, none⟩) 1 1), v14, v6, w'.heap.size, by rw [ha]; kernel_rfl, hB.imp .inr (fun h => h.alloc h.size _), fun h => e0 (h.resolve_left (by decide)), fun h => e1 (h.resolve_left (by decide)), fun h => e2 (h.resolve_left (by decide)), fun h => e3 (h.resolve_left (by decide)), fun _ => rfl, fun _ => heap_alloc_new _ _, fun h => e5 (h.resolve_left (by decide)), fun h => absurd (h.resolve_left (by decide)) (fun h => hn (hcl 5 _ rfl h ⟨4, .data⟩ (by simp) rfl)), fun h => e6 (h.resolve_left (by decide))⟩
    | 5, ho =>
      cases Option.some.inj ho
      have ev : a.tmps[9]?.getD undef = .pointer (some ⟨lb, 0, none⟩) := by rw [ha, e0 (hd ⟨0, .data⟩ (by simp) rfl)]; kernel_rfl
      have ev' : a.tmps[11]?.getD undef = .int .i64 (life2 % 2) := by rw [ha, e2 (hd ⟨2, .data⟩ (by simp) rfl)]; kernel_rfl
      have ev'' : a.tmps[13]?.getD undef = .slice (some ⟨nb, 0, none⟩) 1 1 := by rw [ha, e4 (hd ⟨4, .data⟩ (by simp) rfl)]; kernel_rfl
      have hb5 := hB.resolve_left hn
      have D5 := DV.same (fun i hi => hb5.block i hi)
      have A5 : ArrS w' ab 78 HB' := (hb5.block ab (lt_of_block hA)).trans hA
      have l5 := (hb5.block lb (lt_of_block hl)).trans hl
      have d5 := D5.apart (b := ab) A5 (by decide) (by decide)
      refine wp_enter (f := 54) (args := #[.pointer (some ⟨lb, 0, none⟩), .int .i64 (life2 % 2), .slice (some ⟨nb, 0, none⟩) 1 1]) (by simp [execOp, ev, ev', ev'', go_sem]) ?_
      refine (logWrite_ok D5 l5 hs1 (life2 % 2) (by omega) nb ab 0 128 1 (h4 (hd ⟨4, .data⟩ (by simp) rfl)) (by decide) (by unfold maxLen; decide) (by decide) (by omega) HB' hHS.len (A5.bytes2 hHS.byte) (lt_of_block A5) d5.1 d5.2.1 d5.2.2.1 d5.2.2.2 hL).mono ?_
      rintro e w6 ⟨rfl, D6, F6⟩
      refine ⟨_, rfl, ?_⟩
      exact ⟨v9, v10, v11, v12, v13, (.int .i64 0), v6, nb, by rw [ha]; kernel_rfl, .inl (.inl rfl), fun h => e0 (h.resolve_left (by decide)), fun h => e1 (h.resolve_left (by decide)), fun h => e2 (h.resolve_left (by decide)), fun h => e3 (h.resolve_left (by decide)), fun h => e4 (h.resolve_left (by decide)), fun h => F6.cells D5 (h4 (h.resolve_left (by decide))) (by decide) (by decide), fun _ => rfl, fun _ => ⟨D6, (Fr.of_below hb5).trans F6⟩, fun h => e6 (h.resolve_left (by decide))⟩
    | 6, ho =>
      cases Option.some.inj ho
      have ev : a.tmps[14]?.getD undef = .int .i64 0 := by rw [ha, e5 (hd ⟨5, .data⟩ (by simp) rfl)]; kernel_rfl
      refine wp_value (w' := w') (v := .int .i64 0) (by simp [execOp, ev, go_sem]) ?_
      exact ⟨v9, v10, v11, v12, v13, v14, (.int .i64 0), nb, by rw [ha]; kernel_rfl, hB.imp_left .inr, fun h => e0 (h.resolve_left (by decide)), fun h => e1 (h.resolve_left (by decide)), fun h => e2 (h.resolve_left (by decide)), fun h => e3 (h.resolve_left (by decide)), fun h => e4 (h.resolve_left (by decide)), fun h => h4 (h.resolve_left (by decide)), fun h => e5 (h.resolve_left (by decide)), fun h => hz (h.resolve_left (by decide)), fun _ => rfl⟩
    | i + 7, ho => simp at ho
  case done =>
    rintro D a w' ⟨v9, v10, v11, v12, v13, v14, v6, nb, ha, hB, e0, e1, e2, e3, e4, h4, e5, hz, e6⟩ hall
    obtain ⟨D6, F6⟩ := hz (hall 5 (by decide))
    obtain rfl := e0 (hall 0 (by decide))
    obtain rfl := e1 (hall 1 (by decide))
    obtain rfl := e2 (hall 2 (by decide))
    obtain rfl := e3 (hall 3 (by decide))
    obtain rfl := e4 (hall 4 (by decide))
    obtain rfl := e5 (hall 5 (by decide))
    obtain rfl := e6 (hall 6 (by decide))
    clear h4 hz hall hB e0 e1 e2 e3 e4 e5 e6
    rw [ha]
    clear ha
    simp only [Act.put, List.setIfInBounds_toArray, List.set_cons_zero, List.set_cons_succ]
    have l6 : w'.heap[lb]? = some (logO p life half first since seq hs used failed) := F6.cells DV hl (by decide) (by decide)
    have g6 := F6.cells DV h1 (by decide) (by decide)
    have p6 := D6.apart (b := lb) (t := 89) l6 (by decide) (by decide)
    have l7 := log_set1 l6 life2
    have l8 := log_set2 l7 half2
    have l9 := log_set3 l8 first2
    have l10 := log_set4 l9 since2
    obtain ⟨_, c1, _⟩ := log_cells l6
    obtain ⟨_, _, c2, _⟩ := log_cells l7
    obtain ⟨_, _, _, c3, _⟩ := log_cells l8
    obtain ⟨_, _, _, _, c4, _⟩ := log_cells l9
    have f1 := (log_cells l6).2.2.2.2.2.2.2.2.2 1
    have f2 := (log_cells l7).2.2.2.2.2.2.2.2.2 2
    have f3 := (log_cells l8).2.2.2.2.2.2.2.2.2 3
    have f4 := (log_cells l9).2.2.2.2.2.2.2.2.2 4
    have k10 : ∀ i, i ≠ lb → ((((w'.setCell ⟨lb, 1, none⟩ (.int .i64 life2)).setCell ⟨lb, 2, none⟩ (.int .i64 half2)).setCell ⟨lb, 3, none⟩ (.int .i64 first2)).setCell ⟨lb, 4, none⟩ (.int .i64 since2)).heap[i]? = w'.heap[i]? := fun i hi => (heap_setCell_other _ _ _ _ hi).trans ((heap_setCell_other _ _ _ _ hi).trans ((heap_setCell_other _ _ _ _ hi).trans (heap_setCell_other _ _ _ _ hi)))
    have D7 : Dev ((((w'.setCell ⟨lb, 1, none⟩ (.int .i64 life2)).setCell ⟨lb, 2, none⟩ (.int .i64 half2)).setCell ⟨lb, 3, none⟩ (.int .i64 first2)).setCell ⟨lb, 4, none⟩ (.int .i64 since2)) n₀ p bs bn (.slice none 0 0) size _ _ [] 0 false := ⟨(k10 p (Ne.symm p6.1)).trans D6.obj, D6.safe.same (k10 bs (Ne.symm p6.2.1)), D6.now.same (k10 bn (Ne.symm p6.2.2.1)), World.ownsRow_nil _ _ _ _, D6.secs, D6.ne, D6.fromP, D6.fromS, D6.fromN⟩
    have hx := F6.size
    have o1 := F6.os.trans hbw2.os
    have o2 := F6.tape.trans hbw2.tape
    have o3 := F6.output.trans hbw2.output
    have o4 := Nat.le_trans hbw2.size F6.size
    have o5 : ∀ i, i < w.heap.size → i ≠ lb → i ≠ p → i ≠ bs → i ≠ bn → pv.ownBlock ≠ some i → ((((w'.setCell ⟨lb, 1, none⟩ (.int .i64 life2)).setCell ⟨lb, 2, none⟩ (.int .i64 half2)).setCell ⟨lb, 3, none⟩ (.int .i64 first2)).setCell ⟨lb, 4, none⟩ (.int .i64 since2)).heap[i]? = w.heap[i]? := fun i hi k0 k1 k2 k3 k4 => (k10 i k0).trans (((F6.keep i (Nat.lt_of_lt_of_le hi hbw2.size) k1 k2 k3 k4).1).trans (hbw2.block i hi))
    clear hl hA l6 l7 l8 l9 D6 F6 DV h1 k10 p6
    go_wp2_with (first | (refine wpList_value rfl (run_load80 rfl rfl g6) ?_) | fail)
    go_ret
    rw [hHB.out]
    exact ⟨rfl, D7, l10, o1, o2, o3, by simpa using o4, o5⟩
end
end Go.Proofs.Ytofgphiamllmdab
