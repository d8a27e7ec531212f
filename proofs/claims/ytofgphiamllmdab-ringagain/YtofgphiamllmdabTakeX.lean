/- Log.take on a device that may fail. -/
import Derived.Test.YtofgphiamllmdabLogX
import Derived.Test.YtofgphiamllmdabTake
namespace Go.Proofs.Ytofgphiamllmdab
open Go.RowKit
set_option maxRecDepth 100000
section
variable {w : World} {n₀ p bs bn : Nat} {pv : Value} {size : Int} {G0 G1 : Int → List Int} {L : List (Int × List Int)} {left : Int}
variable {lb : Nat} {life half first since seq hs used : Int}
theorem part78 {b : Nat} {xs : List Int} (h : ArrS w b 78 xs) (hs : IsSec xs) : PartAt w (.slice (some ⟨b, 0, none⟩) 128 128) xs :=
  ⟨b, 128, _, 78, by rw [hs.len], by rw [hs.len]; exact Nat.le_refl _, by unfold maxLen; decide, h, by decide, by decide, by decide, h.bytes2 hs.byte, by rw [hs.len], by rw [hs.len]; decide⟩
theorem one_part {v : Value} {xs : List Int} (h : PartAt w v xs) : ∀ (i : Nat) (ys : List Int), ([xs] : List (List Int))[i]? = some ys → ∃ u, (#[v] : Array Value)[i]? = some u ∧ PartAt w u ys := by
  intro i ys hi
  rcases Nat.eq_zero_or_pos i with rfl | h0
  · simp only [List.getElem?_cons_zero, Option.some.injEq] at hi
    subst hi
    exact ⟨v, rfl, h⟩
  · rw [List.getElem?_eq_none (show 1 ≤ i from h0)] at hi
    cases hi
theorem Wrote.fl {ws : List (Int × List Int)} {r : Int} {w' : World} {lg : Bool → Obj} (h : Wrote w n₀ p bs bn pv size G0 G1 L left lb lg ws r w') : Fl lb p bs bn w pv w' := by
  rcases h with ⟨_, _, _, _, h⟩ | ⟨_, _, _, _, _, _, _, h⟩ <;> exact h
theorem Wrote.kept {ws : List (Int × List Int)} {r : Int} {w' : World} {b t : Nat} {c : Array Value} {dead : Bool} (h : Wrote w n₀ p bs bn pv size G0 G1 L left lb (logO p life half first since seq hs used) ws r w') (D : Dev w n₀ p bs bn pv size G0 G1 L left dead) (hb : w.heap[b]? = some (.cells c t (0, 0))) (h1 : t ≠ 104) (h2 : t ≠ 107) (hlb : b ≠ lb) : w'.heap[b]? = some (.cells c t (0, 0)) := by
  have d := D.apart hb h1 h2
  exact (h.fl.keep b (lt_of_block hb) hlb d.1 d.2.1 d.2.2.1 d.2.2.2).trans hb
/-- From a world of before. -/
theorem Wrote.from {w1 w' : World} {ws : List (Int × List Int)} {r : Int} (h : Wrote w1 n₀ p bs bn pv size G0 G1 L left lb (logO p life half first since seq hs used) ws r w') (B : Below w.heap.size w w1) : Wrote w n₀ p bs bn pv size G0 G1 L left lb (logO p life half first since seq hs used) ws r w' := by
  have hf : Fl lb p bs bn w1 pv w' → Fl lb p bs bn w pv w' := fun F => ⟨F.os.trans B.os, F.tape.trans B.tape, F.output.trans B.output, Nat.le_trans B.size F.size, fun i hi k0 k1 k2 k3 k4 => (F.keep i (by have := B.size; omega) k0 k1 k2 k3 k4).trans (B.block i hi)⟩
  rcases h with ⟨h1, h2, h3, h4, h5⟩ | ⟨h1, j, pv', h2, h3, h4, h5, h6⟩
  · exact .inl ⟨h1, h2, h3, h4, hf h5⟩
  · exact .inr ⟨h1, j, pv', h2, h3, h4, h5, hf h6⟩
set_option maxHeartbeats 4000000 in
theorem take_any (D0 : Dev w n₀ p bs bn pv size G0 G1 L left false) (hlg0 : w.heap[lb]? = some (logO p life half first since seq hs used false)) (hs0 : 2 ≤ size) (hs1 : size ≤ 4096) (hL : L.length ≤ 999980000) (hl0' : 0 ≤ left) (hl1' : left ≤ 9223372036854775807) (life2 half2 first2 since2 : Int) (hlife : 0 ≤ life2) :
    Calls Try.prog 61 #[.pointer (some ⟨lb, 0, none⟩), .agg #[.int .i64 life2, .int .i64 half2, .int .i64 first2, .int .i64 since2]] w fun e w' => (e = .returned (.int .i64 0) ∧ (left = 0 ∨ 1 < left) ∧ Dev w' n₀ p bs bn (.slice none 0 0) size (appl G0 (L ++ [(life2 % 2, headB life2 half2 first2 since2)])) (appl G1 [(life2 % 2, headB life2 half2 first2 since2)]) [] (max 0 (left - 1)) false ∧ w'.heap[lb]? = some (logO p life2 half2 first2 since2 seq hs used false) ∧ Fl lb p bs bn w pv w') ∨
      (e = .returned (.int .i64 14) ∧ left = 1 ∧ ∃ pv', Dev w' n₀ p bs bn pv' size G0 G1 L 1 true ∧ w'.heap[lb]? = some (logO p life half first since seq hs used true) ∧ Fl lb p bs bn w pv w') := by
  go_enter Try.func61, Try.ntmps61
  go_wp2_with (first | (refine wpList_value rfl (run_load80 rfl rfl (heap_alloc_new w (.cells #[.int .i64 life2, .int .i64 half2, .int .i64 first2, .int .i64 since2] 80))) ?_) | fail)
  refine (head_sector _ life2 half2 first2 since2).mono ?_
  rintro e w1 ⟨rfl, hb1⟩
  have hHS := headB_sec life2 half2 first2 since2
  obtain ⟨HB', hHB⟩ : ∃ X, Hid (headB life2 half2 first2 since2 = X) := ⟨_, rfl⟩
  rw [hHB.out] at hHS ⊢
  have hbw := below_size (box_below w (.cells #[.int .i64 life2, .int .i64 half2, .int .i64 first2, .int .i64 since2] 80)) (by simp) hb1
  have h1 := (hb1.block _ (lt_of_block (heap_alloc_new w (.cells #[.int .i64 life2, .int .i64 half2, .int .i64 first2, .int .i64 since2] 80)))).trans (heap_alloc_new w (.cells #[.int .i64 life2, .int .i64 half2, .int .i64 first2, .int .i64 since2] 80))
  have D1 := D0.same (fun i hi => hbw.block i hi)
  have l1 := (hbw.block lb (lt_of_block hlg0)).trans hlg0
  clear hb1
  have hA0 := heap_alloc_new w1 (.cells Try.zeroCells78 78)
  have z1 : (Try.prog.info? 78).map (·.size) = some (cellsB HB').size := by rw [cellsB_size, hHS.len]; kernel_rfl
  have z2 : Try.zeroCells78.size = (cellsB HB').size := by rw [zero78, cellsB_size, cellsB_size, hHS.len, fillB_len (by decide)]
  have z3 := cellsB_one HB'
  have hA : ArrS ((w1.alloc (.cells Try.zeroCells78 78)).setRow w1.heap.size (cellsB HB')) w1.heap.size 78 HB' := setRow_heap _ _ _ _ _ _ hA0
  have hbW : Below w1.heap.size w1 ((w1.alloc (.cells Try.zeroCells78 78)).setRow w1.heap.size (cellsB HB')) := below_setRow (box_below w1 _) (Nat.le_refl _) _
  go_upto_region 2 with (first | refine wpList_store_row rfl 78 _ _ rfl w1.heap.size _ rfl rfl 78 _ hA0 z1 z2 z3 ?_)
  generalize (w1.alloc (.cells Try.zeroCells78 78)).setRow w1.heap.size (cellsB HB') = W at *
  have DV := D1.same (fun i hi => hbW.block i hi)
  have hl := (hbW.block lb (lt_of_block l1)).trans l1
  have h1 := (hbW.block _ (lt_of_block h1)).trans h1
  have hbw2 := below_size hbw (Nat.le_refl _) hbW
  generalize w1.heap.size = ab at *
  clear D0 hlg0 D1 l1 hbW hA0 z1 z2 z3 hbw
  obtain ⟨hb, hhb, hhb2⟩ : ∃ hb, w.heap.size = hb ∧ w.heap.size ≤ hb := ⟨_, rfl, Nat.le_refl _⟩
  rw [hhb] at h1
  have e0 : (Value.pointer (some ⟨w.heap.size, 0, none⟩)) = .pointer (some ⟨hb, 0, none⟩) := by rw [hhb]
  rw [e0]
  clear hhb e0
  have hwsl : wsL (life2 % 2) [HB'] = [(life2 % 2, HB')] := by
    have hl1 : HB'.length / 128 = 1 := by rw [hHS.len]
    simp only [wsL, List.append_nil]
    rw [wsP_range, hl1]
    show [(life2 % 2 + ((0 : Nat) : Int), ch HB' 0)] = _
    rw [ch_one hHS.len]
    simp
  have hhl : hb ≠ lb := by
    rintro rfl
    rw [hl] at h1
    exact absurd (cells_ty h1) (by decide)
  refine wp_region_inv' (fun A D a w' => ∃ v9 v10 v11 v12 v13 v14 v6 nb er, a = (((((((A.put (some 9) v9).put (some 10) v10).put (some 11) v11).put (some 12) v12).put (some 13) v13).put (some 14) v14).put (some 6) v6) ∧ (D 5 ∨ Below W.heap.size W w') ∧ (D 0 → v9 = .pointer (some ⟨lb, 0, none⟩)) ∧ (D 1 → v10 = .agg #[.int .i64 life2, .int .i64 half2, .int .i64 first2, .int .i64 since2]) ∧ (D 2 → v11 = .int .i64 (life2 % 2)) ∧ (D 3 → v12 = .slice (some ⟨ab, 0, none⟩) 128 128) ∧ (D 4 → v13 = .slice (some ⟨nb, 0, none⟩) 1 1) ∧ (D 4 → w'.heap[nb]? = some (.cells #[.slice (some ⟨ab, 0, none⟩) 128 128] 38 (0, 0))) ∧ (D 5 → v14 = .int .i64 er) ∧ (D 5 → Wrote W n₀ p bs bn pv size G0 G1 L left lb (logO p life half first since seq hs used) (wsL (life2 % 2) [HB']) er w') ∧ (D 6 → v6 = .int .i64 er)) (by kernel_rfl) (by kernel_rfl) ?mono ?start ?step ?done
  case mono =>
    rintro D D' a w' hD ⟨v9, v10, v11, v12, v13, v14, v6, nb, er, ha, hB, e0, e1, e2, e3, e4, h4, e5, hz, e6⟩
    exact ⟨v9, v10, v11, v12, v13, v14, v6, nb, er, ha, hB.imp_left (hD 5).1, fun h => e0 ((hD 0).2 h), fun h => e1 ((hD 1).2 h), fun h => e2 ((hD 2).2 h), fun h => e3 ((hD 3).2 h), fun h => e4 ((hD 4).2 h), fun h => h4 ((hD 4).2 h), fun h => e5 ((hD 5).2 h), fun h => hz ((hD 5).2 h), fun h => e6 ((hD 6).2 h)⟩
  case start => exact ⟨undef, undef, undef, undef, undef, undef, undef, 0, 0, by kernel_rfl, .inr ((Below.refl _ _).drew), fun h => h.elim, fun h => h.elim, fun h => h.elim, fun h => h.elim, fun h => h.elim, fun h => h.elim, fun h => h.elim, fun h => h.elim, fun h => h.elim⟩
  case step =>
    intro i o ho D a w' hI hn hcl hd
    obtain ⟨v9, v10, v11, v12, v13, v14, v6, nb, er, ha, hB, e0, e1, e2, e3, e4, h4, e5, hz, e6⟩ := hI
    match i, ho with
    | 0, ho =>
      cases Option.some.inj ho
      have ev : a.tmps[0]?.getD undef = .pointer (some ⟨lb, 0, none⟩) := by rw [ha]; kernel_rfl
      refine wp_value (w' := w') (v := .pointer (some ⟨lb, 0, none⟩)) (by simp [execOp, ev, go_sem]) ?_
      exact ⟨(.pointer (some ⟨lb, 0, none⟩)), v10, v11, v12, v13, v14, v6, nb, er, by rw [ha]; kernel_rfl, hB.imp_left .inr, fun _ => rfl, fun h => e1 (h.resolve_left (by decide)), fun h => e2 (h.resolve_left (by decide)), fun h => e3 (h.resolve_left (by decide)), fun h => e4 (h.resolve_left (by decide)), fun h => h4 (h.resolve_left (by decide)), fun h => e5 (h.resolve_left (by decide)), fun h => hz (h.resolve_left (by decide)), fun h => e6 (h.resolve_left (by decide))⟩
    | 1, ho =>
      cases Option.some.inj ho
      have ev : a.tmps[3]?.getD undef = .pointer (some ⟨hb, 0, none⟩) := by rw [ha]; kernel_rfl
      refine wp_value (w' := w') (v := .agg #[.int .i64 life2, .int .i64 half2, .int .i64 first2, .int .i64 since2]) (run_load80 (eval_of ev) rfl (((hB.resolve_left (fun h => (fun h => hn (hcl 2 _ rfl h ⟨1, .data⟩ (by simp) rfl)) (hcl 5 _ rfl h ⟨2, .data⟩ (by simp) rfl))).block hb (lt_of_block h1)).trans h1)) ?_
      exact ⟨v9, (.agg #[.int .i64 life2, .int .i64 half2, .int .i64 first2, .int .i64 since2]), v11, v12, v13, v14, v6, nb, er, by rw [ha]; kernel_rfl, hB.imp_left .inr, fun h => e0 (h.resolve_left (by decide)), fun _ => rfl, fun h => e2 (h.resolve_left (by decide)), fun h => e3 (h.resolve_left (by decide)), fun h => e4 (h.resolve_left (by decide)), fun h => h4 (h.resolve_left (by decide)), fun h => e5 (h.resolve_left (by decide)), fun h => hz (h.resolve_left (by decide)), fun h => e6 (h.resolve_left (by decide))⟩
    | 2, ho =>
      cases Option.some.inj ho
      have ev : a.tmps[10]?.getD undef = .agg #[.int .i64 life2, .int .i64 half2, .int .i64 first2, .int .i64 since2] := by rw [ha, e1 (hd ⟨1, .data⟩ (by simp) rfl)]; kernel_rfl
      refine wp_enter (f := 85) (args := #[.agg #[.int .i64 life2, .int .i64 half2, .int .i64 first2, .int .i64 since2]]) (by simp [execOp, ev, go_sem]) ?_
      refine (place_any w' life2 half2 first2 since2 hlife).mono ?_
      rintro e w6 ⟨rfl, HB⟩
      refine ⟨_, rfl, ?_⟩
      exact ⟨v9, v10, (.int .i64 (life2 % 2)), v12, v13, v14, v6, nb, er, by rw [ha]; kernel_rfl, hB.imp .inr (fun h => below_size h (Nat.le_refl _) HB), fun h => e0 (h.resolve_left (by decide)), fun h => e1 (h.resolve_left (by decide)), fun _ => rfl, fun h => e3 (h.resolve_left (by decide)), fun h => e4 (h.resolve_left (by decide)), fun h => (HB.block _ (lt_of_block (h4 (h.resolve_left (by decide))))).trans (h4 (h.resolve_left (by decide))), fun h => e5 (h.resolve_left (by decide)), fun h => absurd (h.resolve_left (by decide)) (fun h => hn (hcl 5 _ rfl h ⟨2, .data⟩ (by simp) rfl)), fun h => e6 (h.resolve_left (by decide))⟩
    | 3, ho =>
      cases Option.some.inj ho
      have ev : a.tmps[5]?.getD undef = .pointer (some ⟨ab, 0, none⟩) := by rw [ha]; kernel_rfl
      refine wp_value (w' := w') (v := .slice (some ⟨ab, 0, none⟩) 128 128) (by simp [execOp, ev, go_sem]) ?_
      exact ⟨v9, v10, v11, (.slice (some ⟨ab, 0, none⟩) 128 128), v13, v14, v6, nb, er, by rw [ha]; kernel_rfl, hB.imp_left .inr, fun h => e0 (h.resolve_left (by decide)), fun h => e1 (h.resolve_left (by decide)), fun h => e2 (h.resolve_left (by decide)), fun _ => rfl, fun h => e4 (h.resolve_left (by decide)), fun h => h4 (h.resolve_left (by decide)), fun h => e5 (h.resolve_left (by decide)), fun h => hz (h.resolve_left (by decide)), fun h => e6 (h.resolve_left (by decide))⟩
    | 4, ho =>
      cases Option.some.inj ho
      have ev : a.tmps[12]?.getD undef = .slice (some ⟨ab, 0, none⟩) 128 128 := by rw [ha, e3 (hd ⟨3, .data⟩ (by simp) rfl)]; kernel_rfl
      refine wp_value (w' := w'.alloc (.cells #[.slice (some ⟨ab, 0, none⟩) 128 128] 38)) (v := .slice (some ⟨w'.heap.size, 0, none⟩) 1 1) (by simp [execOp, ev, go_sem]) ?_
      exact ⟨v9, v10, v11, v12, (.slice (some ⟨w'.heap.size, 0, none⟩) 1 1), v14, v6, w'.heap.size, er, by rw [ha]; kernel_rfl, hB.imp .inr (fun h => h.alloc h.size _), fun h => e0 (h.resolve_left (by decide)), fun h => e1 (h.resolve_left (by decide)), fun h => e2 (h.resolve_left (by decide)), fun h => e3 (h.resolve_left (by decide)), fun _ => rfl, fun _ => heap_alloc_new _ _, fun h => e5 (h.resolve_left (by decide)), fun h => absurd (h.resolve_left (by decide)) (fun h => hn (hcl 5 _ rfl h ⟨4, .data⟩ (by simp) rfl)), fun h => e6 (h.resolve_left (by decide))⟩
    | 5, ho =>
      cases Option.some.inj ho
      have ev : a.tmps[9]?.getD undef = .pointer (some ⟨lb, 0, none⟩) := by rw [ha, e0 (hd ⟨0, .data⟩ (by simp) rfl)]; kernel_rfl
      have ev' : a.tmps[11]?.getD undef = .int .i64 (life2 % 2) := by rw [ha, e2 (hd ⟨2, .data⟩ (by simp) rfl)]; kernel_rfl
      have ev'' : a.tmps[13]?.getD undef = .slice (some ⟨nb, 0, none⟩) 1 1 := by rw [ha, e4 (hd ⟨4, .data⟩ (by simp) rfl)]; kernel_rfl
      have hb5 := hB.resolve_left hn
      have D5 := DV.same (fun i hi => hb5.block i hi)
      have A5 : ArrS w' ab 78 HB' := (hb5.block ab (lt_of_block hA)).trans hA
      have l5 := (hb5.block lb (lt_of_block hl)).trans hl
      have n5 := h4 (hd ⟨4, .data⟩ (by simp) rfl)
      refine wp_enter (f := 54) (args := #[.pointer (some ⟨lb, 0, none⟩), .int .i64 (life2 % 2), .slice (some ⟨nb, 0, none⟩) 1 1]) (by simp [execOp, ev, ev', ev'', go_sem]) ?_
      refine (logWrite_any D5 l5 hs1 (life2 % 2) (by omega) nb 1 1 _ n5 [HB'] rfl (one_part (part78 A5 hHS)) (by decide) (by show life2 % 2 + ((HB'.length / 128 + 0 : Nat) : Int) ≤ size; rw [hHS.len]; omega) hl0' hl1' hL).mono ?_
      rintro e w6 ⟨er', rfl, W6⟩
      refine ⟨_, rfl, ?_⟩
      exact ⟨v9, v10, v11, v12, v13, (.int .i64 er'), v6, nb, er', by rw [ha]; kernel_rfl, .inl (.inl rfl), fun h => e0 (h.resolve_left (by decide)), fun h => e1 (h.resolve_left (by decide)), fun h => e2 (h.resolve_left (by decide)), fun h => e3 (h.resolve_left (by decide)), fun h => e4 (h.resolve_left (by decide)), fun h => W6.kept D5 n5 (by decide) (by decide) (by rintro rfl; rw [l5] at n5; exact absurd (cells_ty n5) (by decide)), fun _ => rfl, fun _ => W6.from hb5, fun h => absurd (h.resolve_left (by decide)) (fun h => hn (hcl 6 _ rfl h ⟨5, .data⟩ (by simp) rfl))⟩
    | 6, ho =>
      cases Option.some.inj ho
      have ev : a.tmps[14]?.getD undef = .int .i64 er := by rw [ha, e5 (hd ⟨5, .data⟩ (by simp) rfl)]; kernel_rfl
      refine wp_value (w' := w') (v := .int .i64 er) (by simp [execOp, ev, go_sem]) ?_
      exact ⟨v9, v10, v11, v12, v13, v14, (.int .i64 er), nb, er, by rw [ha]; kernel_rfl, hB.imp_left .inr, fun h => e0 (h.resolve_left (by decide)), fun h => e1 (h.resolve_left (by decide)), fun h => e2 (h.resolve_left (by decide)), fun h => e3 (h.resolve_left (by decide)), fun h => e4 (h.resolve_left (by decide)), fun h => h4 (h.resolve_left (by decide)), fun h => e5 (h.resolve_left (by decide)), fun h => hz (h.resolve_left (by decide)), fun _ => rfl⟩
    | i + 7, ho => simp at ho
  case done =>
    rintro D a w' ⟨v9, v10, v11, v12, v13, v14, v6, nb, er, ha, hB, e0, e1, e2, e3, e4, h4, e5, hz, e6⟩ hall
    have W6 := hz (hall 5 (by decide))
    obtain rfl := e0 (hall 0 (by decide))
    obtain rfl := e1 (hall 1 (by decide))
    obtain rfl := e2 (hall 2 (by decide))
    obtain rfl := e3 (hall 3 (by decide))
    obtain rfl := e4 (hall 4 (by decide))
    obtain rfl := e5 (hall 5 (by decide))
    obtain rfl := e6 (hall 6 (by decide))
    clear h4 hz hall hB e0 e1 e2 e3 e4 e5 e6
    rw [ha]
    clear ha
    simp only [Act.put, List.setIfInBounds_toArray, List.set_cons_zero, List.set_cons_succ]
    have g6 := W6.kept DV h1 (by decide) (by decide) hhl
    have W7 := W6.from hbw2
    clear W6
    rw [hwsl] at W7
    rcases W7 with ⟨rfl, ho, D6, l6, F6⟩ | ⟨rfl, j, pv6, hj, ho, D6, l6, F6⟩
    · have l7 := log_set1 l6 life2
      have l8 := log_set2 l7 half2
      have l9 := log_set3 l8 first2
      have l10 := log_set4 l9 since2
      obtain ⟨_, c1, _⟩ := log_cells l6
      obtain ⟨_, _, c2, _⟩ := log_cells l7
      obtain ⟨_, _, _, c3, _⟩ := log_cells l8
      obtain ⟨_, _, _, _, c4, _⟩ := log_cells l9
      have f1 := (log_cells l6).2.2.2.2.2.2.2.2.2 1
      have f2 := (log_cells l7).2.2.2.2.2.2.2.2.2 2
      have f3 := (log_cells l8).2.2.2.2.2.2.2.2.2 3
      have f4 := (log_cells l9).2.2.2.2.2.2.2.2.2 4
      have ap := D6.apart l6 (by decide) (by decide)
      have N10 := ((((But.refl lb w').set (i := 1) (v := .int .i64 life2)).set (i := 2) (v := .int .i64 half2)).set (i := 3) (v := .int .i64 first2)).set (i := 4) (v := .int .i64 since2)
      have D10 := D6.but N10 ap
      have F10 : Fl lb p bs bn w pv ((((w'.setCell ⟨lb, 1, none⟩ (.int .i64 life2)).setCell ⟨lb, 2, none⟩ (.int .i64 half2)).setCell ⟨lb, 3, none⟩ (.int .i64 first2)).setCell ⟨lb, 4, none⟩ (.int .i64 since2)) := ⟨N10.os.trans F6.os, N10.tape.trans F6.tape, N10.output.trans F6.output, Nat.le_trans F6.size N10.size, fun i hi k0 k1 k2 k3 k4 => (N10.block i (by have := F6.size; omega) k0).trans (F6.keep i hi k0 k1 k2 k3 k4)⟩
      clear hl hA l6 l7 l8 l9 D6 F6 DV h1 ap N10
      go_wp2_with (first | (refine wpList_value rfl (run_load80 rfl rfl g6) ?_) | fail)
      go_ret
      rw [hHB.out]
      exact .inl ⟨rfl, ho, D10, l10, F10⟩
    · have hj0 : j = 0 := by simpa using hj
      subst hj0
      rw [List.take_zero, List.append_nil, appl_nil] at D6
      clear hl hA DV h1 g6
      go_wp2
      go_ret
      exact .inr ⟨rfl, by omega, pv6, D6, l6, F6⟩
end
end Go.Proofs.Ytofgphiamllmdab
