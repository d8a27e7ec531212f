/- one: is a call's answer alike, and was what was handed in kept; it writes over the answer. -/
import Derived.Test.YtgammgdckneoiabDoorRAdd
import Derived.Test.YtgammgdckneoiabDoorAnyG
import Derived.Test.YtgammgdckneoiabDoorGiven
namespace Go.Proofs.YtgammgdckneoiabDoor
open Go.RowKit


set_option maxHeartbeats 1000000 in
theorem spoil_keep (base g n cap : Nat) (xs : List Int) (w : World) (h : w.ownsRow base 5 1 (.slice (some ⟨g, 0, none⟩) n cap) n (xs.map (Value.int .u8))) (hbase : base ≤ w.heap.size) :
    Calls Tryd.prog 45 #[.slice (some ⟨g, 0, none⟩) n cap] w fun e w' => e = .returned (.tuple #[]) ∧ Below base w w' ∧ ∀ j, j ≠ g → w'.heap[j]? = w.heap[j]? := by
  have hm : n ≤ 9223372036854775807 := by
    rcases h.2 with ⟨h', _⟩ | ⟨g', cap', cur, h', _, _, hnc, hcm, _⟩
    · simp at h'
    · simp at h'; unfold maxLen at hcm; omega
  have hbg := (h.lt g rfl).1
  go_enter Tryd.func45, Tryd.ntmps45
  go_wp2
  go_loopw [2] (fun i wr => ∃ (k : Nat) (ys : List Int), k ≤ n ∧ i = .int .i64 k ∧ wr.ownsRow base 5 1 (.slice (some ⟨g, 0, none⟩) n cap) n (ys.map (Value.int .u8)) ∧ Below base w wr ∧ ∀ j, j ≠ g → wr.heap[j]? = w.heap[j]?) (fun i _ => n - (intOf i).toNat)
  case atStart => exact ⟨0, xs, Nat.zero_le _, rfl, h, Below.refl _ _, fun _ _ => rfl⟩
  case round =>
    obtain ⟨k, ys, hk, rfl, hown, hbel, hkp⟩ := hrel
    by_cases hlt : k < n
    · have hf := hown.frozenAt k
      have hyl : ys.length = n := by have := hown.1; simpa using this
      have hc : wr.cell? ⟨g, k, none⟩ = some (.int .u8 (ys.getD k 0)) := by
        rw [hown.cellAt k (by omega)]
        simp [show k < ys.length by omega]
      have hst := hown.stored k (.int .u8 90)
      have hkp' : ∀ j, j ≠ g → (wr.setCell ⟨g, k, none⟩ (.int .u8 90)).heap[j]? = w.heap[j]? := fun j hj => (heap_setCell_other wr ⟨g, k, none⟩ j _ hj).trans (hkp j hj)
      have Hkp : Hid (∀ j, j ≠ g → (wr.setCell ⟨g, k, none⟩ (.int .u8 90)).heap[j]? = w.heap[j]?) := hkp'
      clear h hkp hkp'
      go_wp2
      go_roundw
      case rel =>
        refine ⟨k + 1, ys.set k 90, by omega, by go_num, ?_, hbel.grown hst.2 (Nat.le_trans hbase hbel.size) (by simpa using hbg), Hkp.out⟩
        rw [List.map_set]
        exact hst.1
      case measure => simp [intOf]; omega
    · have Hkp : Hid (∀ j, j ≠ g → wr.heap[j]? = w.heap[j]?) := hkp
      clear hkp
      go_wp2
      go_end0
      exact ⟨rfl, hbel, Hkp.out⟩
theorem spoil_far {base : Nat} {v : Value} {xs : List Int} {w : World} (h : OwnB w base v xs) (hbase : base ≤ w.heap.size) :
    Calls Tryd.prog 45 #[v] w fun e w' => e = .returned (.tuple #[]) ∧ Below base w w' ∧ ∀ j, (∀ g n c, v = .slice (some ⟨g, 0, none⟩) n c → j ≠ g) → w'.heap[j]? = w.heap[j]? := by
  obtain ⟨h1, a, cap, rfl, hB⟩ := h
  rcases h1.2 with ⟨h', h0⟩ | ⟨g, cap', cur, h', _⟩
  · rw [h0]
    refine (spoil_none a cap w).mono ?_
    rintro e w' ⟨rfl, rfl⟩
    exact ⟨rfl, Below.refl _ _, fun _ _ => rfl⟩
  · simp at h'
    obtain ⟨rfl, rfl⟩ := h'
    refine (spoil_keep base g xs.length cap xs w h1 hbase).mono ?_
    rintro e w' ⟨rfl, hb, hk⟩
    exact ⟨rfl, hb, fun j hj => hk j (hj g _ _ rfl)⟩

set_option maxRecDepth 100000 in
set_option maxHeartbeats 8000000 in
theorem one_true {av bp a1 : Option Addr} {ml cv bl bc g len c1 : Nat} {ms xs : List Int} {wo w : World} (n n' m' : Bool) (ee : Int) (hwo : Below wo.heap.size wo w) (hO : OwnB w wo.heap.size (.slice av ml cv) ms) (hbI : IsB w bp bl bc ms)
    (kg : IsB wo (some ⟨g, 0, none⟩) (len + 8) (len + 8) (xs ++ pad)) (kx : IsB wo a1 len c1 xs) (hl : len ≤ 140737488351232) :
    Calls Tryd.prog 25 #[.agg #[.bool n, .slice av ml cv], .int .i64 ee, .agg #[.bool n, .slice bp bl bc], .int .i64 ee, .agg #[.bool n', .slice (some ⟨g, 0, none⟩) len (len + 8)], .agg #[.bool m', .slice a1 len c1]] w fun e w' => e = .returned (.bool true) ∧ Below wo.heap.size wo w' ∧ ∀ j, j < w.heap.size → (∀ g' n' c', Value.slice av ml cv = .slice (some ⟨g', 0, none⟩) n' c' → j ≠ g') → w'.heap[j]? = w.heap[j]? := by
  obtain ⟨s, hs⟩ : ∃ s, w.heap.size = s := ⟨_, rfl⟩
  obtain ⟨z6, z8, z10, z11, hb4⟩ := alloc4 w (.cells #[.bool n, .slice av ml cv] 25) (.cells #[.bool n, .slice bp bl bc] 24) (.cells #[.bool n', .slice (some ⟨g, 0, none⟩) len (len + 8)] 25) (.cells #[.bool m', .slice a1 len c1] 24)
  go_enter Tryd.func25, Tryd.ntmps25
  go_wp2
  have hO0 := hO.below hb4
  have hvs : ∀ g' n' c', Value.slice av ml cv = .slice (some ⟨g', 0, none⟩) n' c' → g' < s := by
    intro g' n' c' he
    rw [← hs]
    have ho := hO.1
    rw [he] at ho
    exact (ho.lt g' rfl).2
  have hI := hO0.isB
  have hb := hbI.below hb4
  have hw0 := hwo.trans (hb4.mono hwo.size)
  have hs0 : s ≤ ((((w.alloc (.cells #[.bool n, .slice av ml cv] 25)).alloc (.cells #[.bool n, .slice bp bl bc] 24)).alloc (.cells #[.bool n', .slice (some ⟨g, 0, none⟩) len (len + 8)] 25)).alloc (.cells #[.bool m', .slice a1 len c1] 24)).heap.size := by simp; omega
  generalize (((w.alloc (.cells #[.bool n, .slice av ml cv] 25)).alloc (.cells #[.bool n, .slice bp bl bc] 24)).alloc (.cells #[.bool n', .slice (some ⟨g, 0, none⟩) len (len + 8)] 25)).alloc (.cells #[.bool m', .slice a1 len c1] 24) = w0 at *
  rw [hs] at z6 z8 z10 z11
  refine wp_region_inv2' (fun A D a w' => ∃ v14 v15 v16 v17 v18 v19 v20 v21 v22 v13, a = ((((((((((A.put (some 14) v14).put (some 15) v15).put (some 16) v16).put (some 17) v17).put (some 18) v18).put (some 19) v19).put (some 20) v20).put (some 21) v21).put (some 22) v22).put (some 13) v13) ∧ Below w0.heap.size w0 w' ∧ (D 0 → v14 = .agg #[.bool n, .slice av ml cv]) ∧ (D 1 → v15 = .agg #[.bool n, .slice av ml cv]) ∧ (D 2 → v16 = .agg #[.bool n, .slice bp bl bc]) ∧ (D 3 → v17 = .bool true) ∧ (D 4 → v18 = .bool true) ∧ (D 5 → v19 = .int .i64 ee) ∧ (D 6 → v20 = .int .i64 ee) ∧ (D 7 → v21 = .bool true) ∧ (D 8 → v22 = .bool true) ∧ (D 9 → v13 = .bool true)) (by kernel_rfl) (by kernel_rfl) ?mono ?start ?step ?done
  case mono =>
    rintro D D' a w' hD ⟨v14, v15, v16, v17, v18, v19, v20, v21, v22, v13, ha, hB, e0, e1, e2, e3, e4, e5, e6, e7, e8, e9⟩
    exact ⟨v14, v15, v16, v17, v18, v19, v20, v21, v22, v13, ha, hB, fun h => e0 ((hD 0).2 h), fun h => e1 ((hD 1).2 h), fun h => e2 ((hD 2).2 h), fun h => e3 ((hD 3).2 h), fun h => e4 ((hD 4).2 h), fun h => e5 ((hD 5).2 h), fun h => e6 ((hD 6).2 h), fun h => e7 ((hD 7).2 h), fun h => e8 ((hD 8).2 h), fun h => e9 ((hD 9).2 h)⟩
  case start => exact ⟨undef, undef, undef, undef, undef, undef, undef, undef, undef, undef, by kernel_rfl, (Below.refl _ _).drew, fun h => h.elim, fun h => h.elim, fun h => h.elim, fun h => h.elim, fun h => h.elim, fun h => h.elim, fun h => h.elim, fun h => h.elim, fun h => h.elim, fun h => h.elim⟩
  case step =>
    intro i o ho D a w' hI' hn' hcl hd
    obtain ⟨v14, v15, v16, v17, v18, v19, v20, v21, v22, v13, ha, hB, e0, e1, e2, e3, e4, e5, e6, e7, e8, e9⟩ := hI'
    match i, ho with
    | 0, ho =>
      cases Option.some.inj ho
      refine ⟨rfl, ?_⟩
      have ev : a.tmps[6]?.getD undef = .pointer (some ⟨s, 0, none⟩) := by rw [ha]; kernel_rfl
      refine wp_load_row 25 (.tmp 6) rfl s (eval_of ev) 25 _ _ _ ((hB.block _ (lt_of_block z6)).trans z6) Tryd.underlying25 rfl size25 ?_
      exact ⟨(.agg #[.bool n, .slice av ml cv]), v15, v16, v17, v18, v19, v20, v21, v22, v13, by rw [ha]; kernel_rfl, hB, fun _ => rfl, fun h => e1 (h.resolve_left (by decide)), fun h => e2 (h.resolve_left (by decide)), fun h => e3 (h.resolve_left (by decide)), fun h => e4 (h.resolve_left (by decide)), fun h => e5 (h.resolve_left (by decide)), fun h => e6 (h.resolve_left (by decide)), fun h => e7 (h.resolve_left (by decide)), fun h => e8 (h.resolve_left (by decide)), fun h => e9 (h.resolve_left (by decide))⟩
    | 1, ho =>
      cases Option.some.inj ho
      refine ⟨rfl, ?_⟩
      have ev : a.tmps[14]?.getD undef = .agg #[.bool n, .slice av ml cv] := by rw [ha, e0 (hd ⟨0, .data⟩ (by simp) rfl)]; kernel_rfl
      refine wp_enter (f := 12) (args := #[.agg #[.bool n, .slice av ml cv]]) (by simp [execOp, ev, go_sem]) ?_
      refine (taken_any n av ml cv w').mono ?_
      rintro e w6 ⟨rfl, HB⟩
      refine ⟨_, rfl, ?_⟩
      exact ⟨v14, (.agg #[.bool n, .slice av ml cv]), v16, v17, v18, v19, v20, v21, v22, v13, by rw [ha]; kernel_rfl, below_size hB (Nat.le_refl _) HB, fun h => e0 (h.resolve_left (by decide)), fun _ => rfl, fun h => e2 (h.resolve_left (by decide)), fun h => e3 (h.resolve_left (by decide)), fun h => e4 (h.resolve_left (by decide)), fun h => e5 (h.resolve_left (by decide)), fun h => e6 (h.resolve_left (by decide)), fun h => e7 (h.resolve_left (by decide)), fun h => e8 (h.resolve_left (by decide)), fun h => e9 (h.resolve_left (by decide))⟩
    | 2, ho =>
      cases Option.some.inj ho
      refine ⟨rfl, ?_⟩
      have ev : a.tmps[8]?.getD undef = .pointer (some ⟨s + 1, 0, none⟩) := by rw [ha]; kernel_rfl
      refine wp_load_row 24 (.tmp 8) rfl (s + 1) (eval_of ev) 24 _ _ _ ((hB.block _ (lt_of_block z8)).trans z8) Tryd.underlying24 rfl size24' ?_
      exact ⟨v14, v15, (.agg #[.bool n, .slice bp bl bc]), v17, v18, v19, v20, v21, v22, v13, by rw [ha]; kernel_rfl, hB, fun h => e0 (h.resolve_left (by decide)), fun h => e1 (h.resolve_left (by decide)), fun _ => rfl, fun h => e3 (h.resolve_left (by decide)), fun h => e4 (h.resolve_left (by decide)), fun h => e5 (h.resolve_left (by decide)), fun h => e6 (h.resolve_left (by decide)), fun h => e7 (h.resolve_left (by decide)), fun h => e8 (h.resolve_left (by decide)), fun h => e9 (h.resolve_left (by decide))⟩
    | 3, ho =>
      cases Option.some.inj ho
      refine ⟨rfl, ?_⟩
      have ev : a.tmps[15]?.getD undef = .agg #[.bool n, .slice av ml cv] := by rw [ha, e1 (hd ⟨1, .data⟩ (by simp) rfl)]; kernel_rfl
      have ev' : a.tmps[16]?.getD undef = .agg #[.bool n, .slice bp bl bc] := by rw [ha, e2 (hd ⟨2, .data⟩ (by simp) rfl)]; kernel_rfl
      refine wp_enter (f := 11) (args := #[.agg #[.bool n, .slice av ml cv], .agg #[.bool n, .slice bp bl bc]]) (by simp [execOp, ev, ev', go_sem]) ?_
      refine (same_true n (hI.below hB) (hb.below hB)).mono ?_
      rintro e w6 ⟨rfl, HB⟩
      refine ⟨_, rfl, ?_⟩
      exact ⟨v14, v15, v16, (.bool true), v18, v19, v20, v21, v22, v13, by rw [ha]; kernel_rfl, below_size hB (Nat.le_refl _) HB, fun h => e0 (h.resolve_left (by decide)), fun h => e1 (h.resolve_left (by decide)), fun h => e2 (h.resolve_left (by decide)), fun _ => rfl, fun h => e4 (h.resolve_left (by decide)), fun h => e5 (h.resolve_left (by decide)), fun h => e6 (h.resolve_left (by decide)), fun h => e7 (h.resolve_left (by decide)), fun h => e8 (h.resolve_left (by decide)), fun h => e9 (h.resolve_left (by decide))⟩
    | 4, ho =>
      cases Option.some.inj ho
      refine ⟨rfl, ?_⟩
      have ev : a.tmps[17]?.getD undef = .bool true := by rw [ha, e3 (hd ⟨3, .data⟩ (by simp) rfl)]; kernel_rfl
      refine wp_value (w' := w') (v := .bool true) (by simp [execOp, ev, go_sem]) ?_
      exact ⟨v14, v15, v16, v17, (.bool true), v19, v20, v21, v22, v13, by rw [ha]; kernel_rfl, hB, fun h => e0 (h.resolve_left (by decide)), fun h => e1 (h.resolve_left (by decide)), fun h => e2 (h.resolve_left (by decide)), fun h => e3 (h.resolve_left (by decide)), fun _ => rfl, fun h => e5 (h.resolve_left (by decide)), fun h => e6 (h.resolve_left (by decide)), fun h => e7 (h.resolve_left (by decide)), fun h => e8 (h.resolve_left (by decide)), fun h => e9 (h.resolve_left (by decide))⟩
    | 5, ho =>
      cases Option.some.inj ho
      refine ⟨by rw [ha, e4 (hd ⟨4, .guard⟩ (by simp) rfl)]; kernel_rfl, ?_⟩
      have ev : a.tmps[1]?.getD undef = .int .i64 ee := by rw [ha]; kernel_rfl
      refine wp_value (w' := w') (v := .int .i64 ee) (by simp [execOp, ev, go_sem]) ?_
      exact ⟨v14, v15, v16, v17, v18, (.int .i64 ee), v20, v21, v22, v13, by rw [ha]; kernel_rfl, hB, fun h => e0 (h.resolve_left (by decide)), fun h => e1 (h.resolve_left (by decide)), fun h => e2 (h.resolve_left (by decide)), fun h => e3 (h.resolve_left (by decide)), fun h => e4 (h.resolve_left (by decide)), fun _ => rfl, fun h => e6 (h.resolve_left (by decide)), fun h => e7 (h.resolve_left (by decide)), fun h => e8 (h.resolve_left (by decide)), fun h => e9 (h.resolve_left (by decide))⟩
    | 6, ho =>
      cases Option.some.inj ho
      refine ⟨by rw [ha, e4 (hd ⟨4, .guard⟩ (by simp) rfl)]; kernel_rfl, ?_⟩
      have ev : a.tmps[3]?.getD undef = .int .i64 ee := by rw [ha]; kernel_rfl
      refine wp_value (w' := w') (v := .int .i64 ee) (by simp [execOp, ev, go_sem]) ?_
      exact ⟨v14, v15, v16, v17, v18, v19, (.int .i64 ee), v21, v22, v13, by rw [ha]; kernel_rfl, hB, fun h => e0 (h.resolve_left (by decide)), fun h => e1 (h.resolve_left (by decide)), fun h => e2 (h.resolve_left (by decide)), fun h => e3 (h.resolve_left (by decide)), fun h => e4 (h.resolve_left (by decide)), fun h => e5 (h.resolve_left (by decide)), fun _ => rfl, fun h => e7 (h.resolve_left (by decide)), fun h => e8 (h.resolve_left (by decide)), fun h => e9 (h.resolve_left (by decide))⟩
    | 7, ho =>
      cases Option.some.inj ho
      refine ⟨by rw [ha, e4 (hd ⟨4, .guard⟩ (by simp) rfl)]; kernel_rfl, ?_⟩
      have ev : a.tmps[19]?.getD undef = .int .i64 ee := by rw [ha, e5 (hd ⟨5, .data⟩ (by simp) rfl)]; kernel_rfl
      have ev' : a.tmps[20]?.getD undef = .int .i64 ee := by rw [ha, e6 (hd ⟨6, .data⟩ (by simp) rfl)]; kernel_rfl
      refine wp_value (w' := w') (v := .bool true) (by simp [execOp, ev, ev', go_sem]) ?_
      exact ⟨v14, v15, v16, v17, v18, v19, v20, (.bool true), v22, v13, by rw [ha]; kernel_rfl, hB, fun h => e0 (h.resolve_left (by decide)), fun h => e1 (h.resolve_left (by decide)), fun h => e2 (h.resolve_left (by decide)), fun h => e3 (h.resolve_left (by decide)), fun h => e4 (h.resolve_left (by decide)), fun h => e5 (h.resolve_left (by decide)), fun h => e6 (h.resolve_left (by decide)), fun _ => rfl, fun h => e8 (h.resolve_left (by decide)), fun h => e9 (h.resolve_left (by decide))⟩
    | 8, ho =>
      cases Option.some.inj ho
      refine ⟨rfl, ?_⟩
      have ev : a.tmps[18]?.getD undef = .bool true := by rw [ha, e4 (hd ⟨4, .data⟩ (by simp) rfl)]; kernel_rfl
      have ev' : a.tmps[21]?.getD undef = .bool true := by rw [ha, e7 (hd ⟨7, .data⟩ (by simp) rfl)]; kernel_rfl
      refine wp_value (w' := w') (v := .bool true) (by simp [execOp, ev, ev', go_sem]) ?_
      exact ⟨v14, v15, v16, v17, v18, v19, v20, v21, (.bool true), v13, by rw [ha]; kernel_rfl, hB, fun h => e0 (h.resolve_left (by decide)), fun h => e1 (h.resolve_left (by decide)), fun h => e2 (h.resolve_left (by decide)), fun h => e3 (h.resolve_left (by decide)), fun h => e4 (h.resolve_left (by decide)), fun h => e5 (h.resolve_left (by decide)), fun h => e6 (h.resolve_left (by decide)), fun h => e7 (h.resolve_left (by decide)), fun _ => rfl, fun h => e9 (h.resolve_left (by decide))⟩
    | 9, ho =>
      cases Option.some.inj ho
      refine ⟨rfl, ?_⟩
      have ev : a.tmps[22]?.getD undef = .bool true := by rw [ha, e8 (hd ⟨8, .data⟩ (by simp) rfl)]; kernel_rfl
      refine wp_value (w' := w') (v := .bool true) (by simp [execOp, ev, go_sem]) ?_
      exact ⟨v14, v15, v16, v17, v18, v19, v20, v21, v22, (.bool true), by rw [ha]; kernel_rfl, hB, fun h => e0 (h.resolve_left (by decide)), fun h => e1 (h.resolve_left (by decide)), fun h => e2 (h.resolve_left (by decide)), fun h => e3 (h.resolve_left (by decide)), fun h => e4 (h.resolve_left (by decide)), fun h => e5 (h.resolve_left (by decide)), fun h => e6 (h.resolve_left (by decide)), fun h => e7 (h.resolve_left (by decide)), fun h => e8 (h.resolve_left (by decide)), fun _ => rfl⟩
    | i + 10, ho => simp at ho
  case done =>
    rintro D a w' ⟨v14, v15, v16, v17, v18, v19, v20, v21, v22, v13, ha, hB, e0, e1, e2, e3, e4, e5, e6, e7, e8, e9⟩ hall
    obtain rfl := e9 (hall 9 (by decide))
    clear e0 e1 e2 e3 e4 e5 e6 e7 e8 e9 hall
    rw [ha]
    clear ha
    simp only [Act.put, List.setIfInBounds_toArray, List.set_cons_zero, List.set_cons_succ]
    replace z6 := (hB.block _ (lt_of_block z6)).trans z6
    replace z10 := (hB.block _ (lt_of_block z10)).trans z10
    replace z11 := (hB.block _ (lt_of_block z11)).trans z11
    have hOw := hO0.below hB
    have hW := hw0.trans (hB.mono hw0.size)
    obtain ⟨x0, x1, _, _⟩ := intVarT z6
    go_wp2_with fail
    refine (spoil_far hOw hW.size).mono ?_
    rintro e w5 ⟨rfl, hb5, hk5⟩
    have hW5 := hW.trans hb5
    replace z10 := (hk5 _ (fun g' n' c' he => by have := hvs g' n' c' he; omega)).trans z10
    replace z11 := (hk5 _ (fun g' n' c' he => by have := hvs g' n' c' he; omega)).trans z11
    have hkeep : Hid (∀ j, j < s → (∀ g' n' c', Value.slice av ml cv = .slice (some ⟨g', 0, none⟩) n' c' → j ≠ g') → w5.heap[j]? = w.heap[j]?) := fun j hj hne => (hk5 j hne).trans ((hB.block j (by omega)).trans (hb4.block j (by omega)))
    clear hk5
    clear x0 x1
    obtain ⟨x0, x1, _, _⟩ := intVarT z10
    obtain ⟨y0, y1, _, _⟩ := intVarT z11
    go_wp2_with fail
    refine (kept_true (kg.below hW5) (kx.below hW5) hl).mono ?_
    rintro e w7 ⟨rfl, k7, rfl⟩
    have hW7 := below_drewN hW5 k7
    go_wp2
    go_ret
    exact ⟨rfl, hW7, fun j hj hne => hkeep.out j (by omega) hne⟩
end Go.Proofs.YtgammgdckneoiabDoor
