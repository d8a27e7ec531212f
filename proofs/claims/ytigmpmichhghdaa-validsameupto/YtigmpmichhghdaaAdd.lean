/- History.Add. -/
import Derived.Test.YtigmpmichhghdaaHis
namespace Go.Proofs.Ytigmpmichhghdaa
open Go.RowKit
set_option maxRecDepth 100000
theorem his_set1 {w : World} {b : Nat} {mv kv : Value} {bb : Bool} {n : Int} (h : w.heap[b]? = some (hisB mv kv bb n)) (v : Value) : (w.setCell ⟨b, 1, none⟩ v).heap[b]? = some (hisB mv v bb n) := by
  unfold hisB at h ⊢
  rw [heap_setCell_same w b 1 _ _ _ h]
  simp
theorem his_set2 {w : World} {b : Nat} {mv kv : Value} {bb : Bool} {n : Int} (h : w.heap[b]? = some (hisB mv kv bb n)) (x : Bool) : (w.setCell ⟨b, 2, none⟩ (.bool x)).heap[b]? = some (hisB mv kv x n) := by
  unfold hisB at h ⊢
  rw [heap_setCell_same w b 2 _ _ _ h]
  simp
theorem his_set3 {w : World} {b : Nat} {mv kv : Value} {bb : Bool} {n : Int} (h : w.heap[b]? = some (hisB mv kv bb n)) (x : Int) : (w.setCell ⟨b, 3, none⟩ (.int .i64 x)).heap[b]? = some (hisB mv kv bb x) := by
  unfold hisB at h ⊢
  rw [heap_setCell_same w b 3 _ _ _ h]
  simp
theorem his_add {w : World} {b : Nat} {mv kv : Value} {bb : Bool} {n : Int} (h : w.heap[b]? = some (hisB mv kv bb n)) (c : Int) : ((w.setCell ⟨b, 2, none⟩ (.bool true)).setCell ⟨b, 3, none⟩ (.int .i64 c)).heap[b]? = some (hisB mv kv true c) := his_set3 (his_set2 h true) c
def okA (ad : Option Int) (c : Int) : Bool := !ad.isSome || decide (ad.getD 0 < c)
set_option maxHeartbeats 4000000 in
theorem add_no {w : World} {S T : Nat → Prop} {bh : Nat} {f : Int → List Int} {ks : List Int} {ad : Option Int} {m : Tm} (H : Hist w S T bh f ks ad) (hin : m.In w) (hno : okA ad m.com = false) :
    Calls Try.prog 22 #[.pointer (some ⟨bh, 0, none⟩), .agg #[.int .i64 m.base, .int .i64 m.com, .slice m.ra m.rn m.rc, .slice m.wa m.wn m.wc]] w fun e w' => e = .returned (.int .i64 5) ∧ Below w.heap.size w w' := by
  have B1 : Below w.heap.size w (w.alloc (txB m 31)) := box_below
  have E1 : (w.alloc (txB m 31)).heap[w.heap.size]? = some (txB m 31) := new1 _ _
  have H1 := H.below B1
  have hin1 := hin.below B1
  obtain ⟨y0, y1, y2, y3, _⟩ := tx_cells E1
  have htl := lt_of_block E1
  have hTlt := H.lt
  obtain ⟨P1, hst, hlt1, _, mv, ka, kn, kc, EH1, OK1, hK⟩ := H1
  have hbT : T bh := hst _ P1.own
  have hbne : bh ≠ w.heap.size := fun e => by have := hTlt bh hbT; omega
  have hbl := lt_of_block EH1
  obtain ⟨_, q1, q2, q3, _, _, _⟩ := his_cells EH1
  obtain ⟨rr, hrr⟩ : ∃ rr, Hid ((!ad.isSome || decide (ad.getD 0 < m.com)) = rr) := ⟨_, rfl⟩
  obtain ⟨ba, hba⟩ : ∃ ba, Hid (ad.isSome = ba) := ⟨_, rfl⟩
  obtain ⟨na, hna⟩ : ∃ na, Hid (ad.getD 0 = na) := ⟨_, rfl⟩
  rw [hba.out] at hrr EH1 q2
  rw [hna.out] at hrr EH1 q3
  go_enter Try.func22, Try.ntmps22
  go_upto_region 3 with fail
  unfold txB at B1 E1 hin1 y0 y1 y2 y3 htl P1 hlt1 EH1 OK1 hbl q1 q2 q3
  generalize w.alloc (.cells #[.int .i64 m.base, .int .i64 m.com, .slice m.ra m.rn m.rc, .slice m.wa m.wn m.wc] 31) = w1 at *
  have er : rr = false := hrr.out.symm.trans (by rw [← hba.out, ← hna.out]; exact hno)
  refine wp_region_inv' (fun A D a w' => ∃ v7 v8 v9 v10 v11 v12 v13 v14, a = ((((((((A.put (some 7) v7).put (some 8) v8).put (some 9) v9).put (some 10) v10).put (some 11) v11).put (some 12) v12).put (some 13) v13).put (some 14) v14) ∧ Below w1.heap.size w1 w' ∧ (D 0 → v7 = .pointer (some ⟨bh, 0, none⟩)) ∧ (D 1 → v8 = .pointer (some ⟨bh, 0, none⟩)) ∧ (D 2 → v9 = .pointer (some ⟨bh, 2, none⟩)) ∧ (D 3 → v10 = .agg #[.bool ba, .int .i64 na]) ∧ (D 4 → v11 = .pointer (some ⟨w.heap.size, 1, none⟩)) ∧ (D 5 → v12 = .int .i64 (Tm.com m)) ∧ (D 6 → v13 = .bool rr) ∧ (D 7 → v14 = .bool (!rr))) (by kernel_rfl) (by kernel_rfl) ?mono ?start ?step ?done
  case mono =>
    rintro D D' a w' hD ⟨v7, v8, v9, v10, v11, v12, v13, v14, ha, hB, e0, e1, e2, e3, e4, e5, e6, e7⟩
    exact ⟨v7, v8, v9, v10, v11, v12, v13, v14, ha, hB, fun h => e0 ((hD 0).2 h), fun h => e1 ((hD 1).2 h), fun h => e2 ((hD 2).2 h), fun h => e3 ((hD 3).2 h), fun h => e4 ((hD 4).2 h), fun h => e5 ((hD 5).2 h), fun h => e6 ((hD 6).2 h), fun h => e7 ((hD 7).2 h)⟩
  case start => exact ⟨undef, undef, undef, undef, undef, undef, undef, undef, by kernel_rfl, (Below.refl _ _).drew, fun h => h.elim, fun h => h.elim, fun h => h.elim, fun h => h.elim, fun h => h.elim, fun h => h.elim, fun h => h.elim, fun h => h.elim⟩
  case step =>
    intro i o ho D a w' hI hn hcl hd
    obtain ⟨v7, v8, v9, v10, v11, v12, v13, v14, ha, hB, e0, e1, e2, e3, e4, e5, e6, e7⟩ := hI
    match i, ho with
    | 0, ho =>
      cases Option.some.inj ho
      have ev : a.tmps[0]?.getD undef = .pointer (some ⟨bh, 0, none⟩) := by rw [ha]; kernel_rfl
      refine wp_value (w' := w') (v := .pointer (some ⟨bh, 0, none⟩)) (by simp [execOp, ev, go_sem]) ?_
      exact ⟨(.pointer (some ⟨bh, 0, none⟩)), v8, v9, v10, v11, v12, v13, v14, by rw [ha]; kernel_rfl, hB, fun _ => rfl, fun h => e1 (h.resolve_left (by decide)), fun h => e2 (h.resolve_left (by decide)), fun h => e3 (h.resolve_left (by decide)), fun h => e4 (h.resolve_left (by decide)), fun h => e5 (h.resolve_left (by decide)), fun h => e6 (h.resolve_left (by decide)), fun h => e7 (h.resolve_left (by decide))⟩
    | 1, ho =>
      cases Option.some.inj ho
      have ev : a.tmps[7]?.getD undef = .pointer (some ⟨bh, 0, none⟩) := by rw [ha, e0 (hd ⟨0, .data⟩ (by simp) rfl)]; kernel_rfl
      refine wp_value (w' := w') (v := .pointer (some ⟨bh, 0, none⟩)) (by simp [execOp, ev, go_sem]) ?_
      exact ⟨v7, (.pointer (some ⟨bh, 0, none⟩)), v9, v10, v11, v12, v13, v14, by rw [ha]; kernel_rfl, hB, fun h => e0 (h.resolve_left (by decide)), fun _ => rfl, fun h => e2 (h.resolve_left (by decide)), fun h => e3 (h.resolve_left (by decide)), fun h => e4 (h.resolve_left (by decide)), fun h => e5 (h.resolve_left (by decide)), fun h => e6 (h.resolve_left (by decide)), fun h => e7 (h.resolve_left (by decide))⟩
    | 2, ho =>
      cases Option.some.inj ho
      have ev : a.tmps[8]?.getD undef = .pointer (some ⟨bh, 0, none⟩) := by rw [ha, e1 (hd ⟨1, .data⟩ (by simp) rfl)]; kernel_rfl
      refine wp_value (w' := w') (v := .pointer (some ⟨bh, 2, none⟩)) (by simp [execOp, ev, go_sem]) ?_
      exact ⟨v7, v8, (.pointer (some ⟨bh, 2, none⟩)), v10, v11, v12, v13, v14, by rw [ha]; kernel_rfl, hB, fun h => e0 (h.resolve_left (by decide)), fun h => e1 (h.resolve_left (by decide)), fun _ => rfl, fun h => e3 (h.resolve_left (by decide)), fun h => e4 (h.resolve_left (by decide)), fun h => e5 (h.resolve_left (by decide)), fun h => e6 (h.resolve_left (by decide)), fun h => e7 (h.resolve_left (by decide))⟩
    | 3, ho =>
      cases Option.some.inj ho
      have ev : a.tmps[9]?.getD undef = .pointer (some ⟨bh, 2, none⟩) := by rw [ha, e2 (hd ⟨2, .data⟩ (by simp) rfl)]; kernel_rfl
      have z2 := (hB.cell (p := ⟨bh, 2, none⟩) hbl).trans q2
      have z3 := (hB.cell (p := ⟨bh, 3, none⟩) hbl).trans q3
      refine wp_value (w' := w') (v := .agg #[.bool ba, .int .i64 na]) (by simp [execOp, ev, go_sem, z2, z3]) ?_
      exact ⟨v7, v8, v9, (.agg #[.bool ba, .int .i64 na]), v11, v12, v13, v14, by rw [ha]; kernel_rfl, hB, fun h => e0 (h.resolve_left (by decide)), fun h => e1 (h.resolve_left (by decide)), fun h => e2 (h.resolve_left (by decide)), fun _ => rfl, fun h => e4 (h.resolve_left (by decide)), fun h => e5 (h.resolve_left (by decide)), fun h => e6 (h.resolve_left (by decide)), fun h => e7 (h.resolve_left (by decide))⟩
    | 4, ho =>
      cases Option.some.inj ho
      have ev : a.tmps[3]?.getD undef = .pointer (some ⟨w.heap.size, 0, none⟩) := by rw [ha]; kernel_rfl
      refine wp_value (w' := w') (v := .pointer (some ⟨w.heap.size, 1, none⟩)) (by simp [execOp, ev, go_sem]) ?_
      exact ⟨v7, v8, v9, v10, (.pointer (some ⟨w.heap.size, 1, none⟩)), v12, v13, v14, by rw [ha]; kernel_rfl, hB, fun h => e0 (h.resolve_left (by decide)), fun h => e1 (h.resolve_left (by decide)), fun h => e2 (h.resolve_left (by decide)), fun h => e3 (h.resolve_left (by decide)), fun _ => rfl, fun h => e5 (h.resolve_left (by decide)), fun h => e6 (h.resolve_left (by decide)), fun h => e7 (h.resolve_left (by decide))⟩
    | 5, ho =>
      cases Option.some.inj ho
      have ev : a.tmps[11]?.getD undef = .pointer (some ⟨w.heap.size, 1, none⟩) := by rw [ha, e4 (hd ⟨4, .data⟩ (by simp) rfl)]; kernel_rfl
      have z1 := (hB.cell (p := ⟨w.heap.size, 1, none⟩) htl).trans y1
      refine wp_value (w' := w') (v := .int .i64 (Tm.com m)) (by simp [execOp, ev, go_sem, z1]) ?_
      exact ⟨v7, v8, v9, v10, v11, (.int .i64 (Tm.com m)), v13, v14, by rw [ha]; kernel_rfl, hB, fun h => e0 (h.resolve_left (by decide)), fun h => e1 (h.resolve_left (by decide)), fun h => e2 (h.resolve_left (by decide)), fun h => e3 (h.resolve_left (by decide)), fun h => e4 (h.resolve_left (by decide)), fun _ => rfl, fun h => e6 (h.resolve_left (by decide)), fun h => e7 (h.resolve_left (by decide))⟩
    | 6, ho =>
      cases Option.some.inj ho
      have ev : a.tmps[10]?.getD undef = .agg #[.bool ba, .int .i64 na] := by rw [ha, e3 (hd ⟨3, .data⟩ (by simp) rfl)]; kernel_rfl
      have ev' : a.tmps[12]?.getD undef = .int .i64 (Tm.com m) := by rw [ha, e5 (hd ⟨5, .data⟩ (by simp) rfl)]; kernel_rfl
      have hbw := below_any ba na m.com w'
      rw [hrr.out] at hbw
      refine wp_enter (f := 34) (args := #[.agg #[.bool ba, .int .i64 na], .int .i64 (Tm.com m)]) (by simp [execOp, ev, ev', go_sem]) ?_
      refine (hbw).mono ?_
      rintro e w6 ⟨rfl, B6⟩
      refine ⟨_, rfl, ?_⟩
      exact ⟨v7, v8, v9, v10, v11, v12, (.bool rr), v14, by rw [ha]; kernel_rfl, below_size hB hB.size B6, fun h => e0 (h.resolve_left (by decide)), fun h => e1 (h.resolve_left (by decide)), fun h => e2 (h.resolve_left (by decide)), fun h => e3 (h.resolve_left (by decide)), fun h => e4 (h.resolve_left (by decide)), fun h => e5 (h.resolve_left (by decide)), fun _ => rfl, fun h => e7 (h.resolve_left (by decide))⟩
    | 7, ho =>
      cases Option.some.inj ho
      have ev : a.tmps[13]?.getD undef = .bool rr := by rw [ha, e6 (hd ⟨6, .data⟩ (by simp) rfl)]; kernel_rfl
      refine wp_value (w' := w') (v := .bool (!rr)) (by simp [execOp, ev, go_sem]) ?_
      exact ⟨v7, v8, v9, v10, v11, v12, v13, (.bool (!rr)), by rw [ha]; kernel_rfl, hB, fun h => e0 (h.resolve_left (by decide)), fun h => e1 (h.resolve_left (by decide)), fun h => e2 (h.resolve_left (by decide)), fun h => e3 (h.resolve_left (by decide)), fun h => e4 (h.resolve_left (by decide)), fun h => e5 (h.resolve_left (by decide)), fun h => e6 (h.resolve_left (by decide)), fun _ => rfl⟩
    | i + 8, ho => simp at ho
  case done =>
    rintro D a w' ⟨v7, v8, v9, v10, v11, v12, v13, v14, ha, hB, e0, e1, e2, e3, e4, e5, e6, e7⟩ hall
    obtain rfl := e0 (hall 0 (by decide))
    obtain rfl := e1 (hall 1 (by decide))
    obtain rfl := e2 (hall 2 (by decide))
    obtain rfl := e3 (hall 3 (by decide))
    obtain rfl := e4 (hall 4 (by decide))
    obtain rfl := e5 (hall 5 (by decide))
    obtain rfl := e6 (hall 6 (by decide))
    obtain rfl := e7 (hall 7 (by decide))
    clear hall e0 e1 e2 e3 e4 e5 e6 e7
    rw [ha]
    clear ha
    simp only [Act.put, List.setIfInBounds_toArray, List.set_cons_zero, List.set_cons_succ]
    subst er
    have B2 := B1.trans (hB.mono B1.size)
    clear hB hrr hba hna q1 q2 q3 y0 y1 y2 y3
    go_wp2
    go_ret
    exact ⟨rfl, B2⟩
set_option maxHeartbeats 4000000 in
theorem add_ok {w : World} {S T : Nat → Prop} {bh : Nat} {f : Int → List Int} {ks : List Int} {ad : Option Int} {m : Tm} (H : Hist w S T bh f ks ad) (hin : m.In w) (hok : okA ad m.com = true) (hap : ∀ b off, m.wa = some ⟨b, off, none⟩ → 0 < m.wn → ¬ T b) (hwn : m.wn ≤ 1048576) (hc64 : I64 m.com) (hkl : ks.length ≤ 1000000000) (hfl : ∀ o, (f o).length ≤ 900000000) :
    Calls Try.prog 22 #[.pointer (some ⟨bh, 0, none⟩), .agg #[.int .i64 m.base, .int .i64 m.com, .slice m.ra m.rn m.rc, .slice m.wa m.wn m.wc]] w fun e w' => e = .returned (.int .i64 0) ∧ ∃ S' T', Hist w' S' T' bh (putF m.com m.ws f) (ks ++ [m.com]) (some m.com) ∧ Fp T w w' ∧ ∀ b, T' b → T b ∨ w.heap.size ≤ b := by
  have B1 : Below w.heap.size w (w.alloc (txB m 31)) := box_below
  have E1 : (w.alloc (txB m 31)).heap[w.heap.size]? = some (txB m 31) := new1 _ _
  have H1 := H.below B1
  have hin1 := hin.below B1
  obtain ⟨y0, y1, y2, y3, _⟩ := tx_cells E1
  have htl := lt_of_block E1
  have hTlt := H.lt
  obtain ⟨P1, hst, hlt1, _, mv, ka, kn, kc, EH1, OK1, hK⟩ := H1
  have hbT : T bh := hst _ P1.own
  have hbne : bh ≠ w.heap.size := fun e => by have := hTlt bh hbT; omega
  have hbl := lt_of_block EH1
  obtain ⟨_, q1, q2, q3, _, _, _⟩ := his_cells EH1
  obtain ⟨rr, hrr⟩ : ∃ rr, Hid ((!ad.isSome || decide (ad.getD 0 < m.com)) = rr) := ⟨_, rfl⟩
  obtain ⟨ba, hba⟩ : ∃ ba, Hid (ad.isSome = ba) := ⟨_, rfl⟩
  obtain ⟨na, hna⟩ : ∃ na, Hid (ad.getD 0 = na) := ⟨_, rfl⟩
  rw [hba.out] at hrr EH1 q2
  rw [hna.out] at hrr EH1 q3
  go_enter Try.func22, Try.ntmps22
  go_upto_region 3 with fail
  unfold txB at B1 E1 hin1 y0 y1 y2 y3 htl P1 hlt1 EH1 OK1 hbl q1 q2 q3
  generalize w.alloc (.cells #[.int .i64 m.base, .int .i64 m.com, .slice m.ra m.rn m.rc, .slice m.wa m.wn m.wc] 31) = w1 at *
  have er : rr = true := hrr.out.symm.trans (by rw [← hba.out, ← hna.out]; exact hok)
  refine wp_region_inv' (fun A D a w' => ∃ v7 v8 v9 v10 v11 v12 v13 v14, a = ((((((((A.put (some 7) v7).put (some 8) v8).put (some 9) v9).put (some 10) v10).put (some 11) v11).put (some 12) v12).put (some 13) v13).put (some 14) v14) ∧ Below w1.heap.size w1 w' ∧ (D 0 → v7 = .pointer (some ⟨bh, 0, none⟩)) ∧ (D 1 → v8 = .pointer (some ⟨bh, 0, none⟩)) ∧ (D 2 → v9 = .pointer (some ⟨bh, 2, none⟩)) ∧ (D 3 → v10 = .agg #[.bool ba, .int .i64 na]) ∧ (D 4 → v11 = .pointer (some ⟨w.heap.size, 1, none⟩)) ∧ (D 5 → v12 = .int .i64 (Tm.com m)) ∧ (D 6 → v13 = .bool rr) ∧ (D 7 → v14 = .bool (!rr))) (by kernel_rfl) (by kernel_rfl) ?mono ?start ?step ?done
  case mono =>
    rintro D D' a w' hD ⟨v7, v8, v9, v10, v11, v12, v13, v14, ha, hB, e0, e1, e2, e3, e4, e5, e6, e7⟩
    exact ⟨v7, v8, v9, v10, v11, v12, v13, v14, ha, hB, fun h => e0 ((hD 0).2 h), fun h => e1 ((hD 1).2 h), fun h => e2 ((hD 2).2 h), fun h => e3 ((hD 3).2 h), fun h => e4 ((hD 4).2 h), fun h => e5 ((hD 5).2 h), fun h => e6 ((hD 6).2 h), fun h => e7 ((hD 7).2 h)⟩
  case start => exact ⟨undef, undef, undef, undef, undef, undef, undef, undef, by kernel_rfl, (Below.refl _ _).drew, fun h => h.elim, fun h => h.elim, fun h => h.elim, fun h => h.elim, fun h => h.elim, fun h => h.elim, fun h => h.elim, fun h => h.elim⟩
  case step =>
    intro i o ho D a w' hI hn hcl hd
    obtain ⟨v7, v8, v9, v10, v11, v12, v13, v14, ha, hB, e0, e1, e2, e3, e4, e5, e6, e7⟩ := hI
    match i, ho with
    | 0, ho =>
      cases Option.some.inj ho
      have ev : a.tmps[0]?.getD undef = .pointer (some ⟨bh, 0, none⟩) := by rw [ha]; kernel_rfl
      refine wp_value (w' := w') (v := .pointer (some ⟨bh, 0, none⟩)) (by simp [execOp, ev, go_sem]) ?_
      exact ⟨(.pointer (some ⟨bh, 0, none⟩)), v8, v9, v10, v11, v12, v13, v14, by rw [ha]; kernel_rfl, hB, fun _ => rfl, fun h => e1 (h.resolve_left (by decide)), fun h => e2 (h.resolve_left (by decide)), fun h => e3 (h.resolve_left (by decide)), fun h => e4 (h.resolve_left (by decide)), fun h => e5 (h.resolve_left (by decide)), fun h => e6 (h.resolve_left (by decide)), fun h => e7 (h.resolve_left (by decide))⟩
    | 1, ho =>
      cases Option.some.inj ho
      have ev : a.tmps[7]?.getD undef = .pointer (some ⟨bh, 0, none⟩) := by rw [ha, e0 (hd ⟨0, .data⟩ (by simp) rfl)]; kernel_rfl
      refine wp_value (w' := w') (v := .pointer (some ⟨bh, 0, none⟩)) (by simp [execOp, ev, go_sem]) ?_
      exact ⟨v7, (.pointer (some ⟨bh, 0, none⟩)), v9, v10, v11, v12, v13, v14, by rw [ha]; kernel_rfl, hB, fun h => e0 (h.resolve_left (by decide)), fun _ => rfl, fun h => e2 (h.resolve_left (by decide)), fun h => e3 (h.resolve_left (by decide)), fun h => e4 (h.resolve_left (by decide)), fun h => e5 (h.resolve_left (by decide)), fun h => e6 (h.resolve_left (by decide)), fun h => e7 (h.resolve_left (by decide))⟩
    | 2, ho =>
      cases Option.some.inj ho
      have ev : a.tmps[8]?.getD undef = .pointer (some ⟨bh, 0, none⟩) := by rw [ha, e1 (hd ⟨1, .data⟩ (by simp) rfl)]; kernel_rfl
      refine wp_value (w' := w') (v := .pointer (some ⟨bh, 2, none⟩)) (by simp [execOp, ev, go_sem]) ?_
      exact ⟨v7, v8, (.pointer (some ⟨bh, 2, none⟩)), v10, v11, v12, v13, v14, by rw [ha]; kernel_rfl, hB, fun h => e0 (h.resolve_left (by decide)), fun h => e1 (h.resolve_left (by decide)), fun _ => rfl, fun h => e3 (h.resolve_left (by decide)), fun h => e4 (h.resolve_left (by decide)), fun h => e5 (h.resolve_left (by decide)), fun h => e6 (h.resolve_left (by decide)), fun h => e7 (h.resolve_left (by decide))⟩
    | 3, ho =>
      cases Option.some.inj ho
      have ev : a.tmps[9]?.getD undef = .pointer (some ⟨bh, 2, none⟩) := by rw [ha, e2 (hd ⟨2, .data⟩ (by simp) rfl)]; kernel_rfl
      have z2 := (hB.cell (p := ⟨bh, 2, none⟩) hbl).trans q2
      have z3 := (hB.cell (p := ⟨bh, 3, none⟩) hbl).trans q3
      refine wp_value (w' := w') (v := .agg #[.bool ba, .int .i64 na]) (by simp [execOp, ev, go_sem, z2, z3]) ?_
      exact ⟨v7, v8, v9, (.agg #[.bool ba, .int .i64 na]), v11, v12, v13, v14, by rw [ha]; kernel_rfl, hB, fun h => e0 (h.resolve_left (by decide)), fun h => e1 (h.resolve_left (by decide)), fun h => e2 (h.resolve_left (by decide)), fun _ => rfl, fun h => e4 (h.resolve_left (by decide)), fun h => e5 (h.resolve_left (by decide)), fun h => e6 (h.resolve_left (by decide)), fun h => e7 (h.resolve_left (by decide))⟩
    | 4, ho =>
      cases Option.some.inj ho
      have ev : a.tmps[3]?.getD undef = .pointer (some ⟨w.heap.size, 0, none⟩) := by rw [ha]; kernel_rfl
      refine wp_value (w' := w') (v := .pointer (some ⟨w.heap.size, 1, none⟩)) (by simp [execOp, ev, go_sem]) ?_
      exact ⟨v7, v8, v9, v10, (.pointer (some ⟨w.heap.size, 1, none⟩)), v12, v13, v14, by rw [ha]; kernel_rfl, hB, fun h => e0 (h.resolve_left (by decide)), fun h => e1 (h.resolve_left (by decide)), fun h => e2 (h.resolve_left (by decide)), fun h => e3 (h.resolve_left (by decide)), fun _ => rfl, fun h => e5 (h.resolve_left (by decide)), fun h => e6 (h.resolve_left (by decide)), fun h => e7 (h.resolve_left (by decide))⟩
    | 5, ho =>
      cases Option.some.inj ho
      have ev : a.tmps[11]?.getD undef = .pointer (some ⟨w.heap.size, 1, none⟩) := by rw [ha, e4 (hd ⟨4, .data⟩ (by simp) rfl)]; kernel_rfl
      have z1 := (hB.cell (p := ⟨w.heap.size, 1, none⟩) htl).trans y1
      refine wp_value (w' := w') (v := .int .i64 (Tm.com m)) (by simp [execOp, ev, go_sem, z1]) ?_
      exact ⟨v7, v8, v9, v10, v11, (.int .i64 (Tm.com m)), v13, v14, by rw [ha]; kernel_rfl, hB, fun h => e0 (h.resolve_left (by decide)), fun h => e1 (h.resolve_left (by decide)), fun h => e2 (h.resolve_left (by decide)), fun h => e3 (h.resolve_left (by decide)), fun h => e4 (h.resolve_left (by decide)), fun _ => rfl, fun h => e6 (h.resolve_left (by decide)), fun h => e7 (h.resolve_left (by decide))⟩
    | 6, ho =>
      cases Option.some.inj ho
      have ev : a.tmps[10]?.getD undef = .agg #[.bool ba, .int .i64 na] := by rw [ha, e3 (hd ⟨3, .data⟩ (by simp) rfl)]; kernel_rfl
      have ev' : a.tmps[12]?.getD undef = .int .i64 (Tm.com m) := by rw [ha, e5 (hd ⟨5, .data⟩ (by simp) rfl)]; kernel_rfl
      have hbw := below_any ba na m.com w'
      rw [hrr.out] at hbw
      refine wp_enter (f := 34) (args := #[.agg #[.bool ba, .int .i64 na], .int .i64 (Tm.com m)]) (by simp [execOp, ev, ev', go_sem]) ?_
      refine (hbw).mono ?_
      rintro e w6 ⟨rfl, B6⟩
      refine ⟨_, rfl, ?_⟩
      exact ⟨v7, v8, v9, v10, v11, v12, (.bool rr), v14, by rw [ha]; kernel_rfl, below_size hB hB.size B6, fun h => e0 (h.resolve_left (by decide)), fun h => e1 (h.resolve_left (by decide)), fun h => e2 (h.resolve_left (by decide)), fun h => e3 (h.resolve_left (by decide)), fun h => e4 (h.resolve_left (by decide)), fun h => e5 (h.resolve_left (by decide)), fun _ => rfl, fun h => e7 (h.resolve_left (by decide))⟩
    | 7, ho =>
      cases Option.some.inj ho
      have ev : a.tmps[13]?.getD undef = .bool rr := by rw [ha, e6 (hd ⟨6, .data⟩ (by simp) rfl)]; kernel_rfl
      refine wp_value (w' := w') (v := .bool (!rr)) (by simp [execOp, ev, go_sem]) ?_
      exact ⟨v7, v8, v9, v10, v11, v12, v13, (.bool (!rr)), by rw [ha]; kernel_rfl, hB, fun h => e0 (h.resolve_left (by decide)), fun h => e1 (h.resolve_left (by decide)), fun h => e2 (h.resolve_left (by decide)), fun h => e3 (h.resolve_left (by decide)), fun h => e4 (h.resolve_left (by decide)), fun h => e5 (h.resolve_left (by decide)), fun h => e6 (h.resolve_left (by decide)), fun _ => rfl⟩
    | i + 8, ho => simp at ho
  case done =>
    rintro D a w' ⟨v7, v8, v9, v10, v11, v12, v13, v14, ha, hB, e0, e1, e2, e3, e4, e5, e6, e7⟩ hall
    obtain rfl := e0 (hall 0 (by decide))
    obtain rfl := e1 (hall 1 (by decide))
    obtain rfl := e2 (hall 2 (by decide))
    obtain rfl := e3 (hall 3 (by decide))
    obtain rfl := e4 (hall 4 (by decide))
    obtain rfl := e5 (hall 5 (by decide))
    obtain rfl := e6 (hall 6 (by decide))
    obtain rfl := e7 (hall 7 (by decide))
    clear hall e0 e1 e2 e3 e4 e5 e6 e7
    rw [ha]
    clear ha
    simp only [Act.put, List.setIfInBounds_toArray, List.set_cons_zero, List.set_cons_succ]
    subst er
    have E2 := (hB.block _ htl).trans E1
    have EH2 := (hB.block _ hbl).trans EH1
    have P2 := P1.below hB
    have OK2 := OK1.below hB
    have hin2 := hin1.below hB
    have B2 := B1.trans (hB.mono B1.size)
    clear hrr hba hna q1 q2 q3 y0 y1 y2 y3 B1 E1 hin1 P1 EH1 OK1 htl hbl hlt1 hB
    obtain ⟨y0, y1, y2, y3, _⟩ := tx_cells (m := m) (t := 31) E2
    obtain ⟨_, q1, q2, q3, _, _, zf⟩ := his_cells EH2
    have zf2 := zf 2
    have zf3 := zf 3
    clear zf
    go_upto_region 6 with fail
    have EH3 := his_add EH2 m.com
    have hot : ∀ c, c ≠ bh → ((w'.setCell ⟨bh, 2, none⟩ (.bool true)).setCell ⟨bh, 3, none⟩ (.int .i64 m.com)).heap[c]? = w'.heap[c]? := fun c hc => (heap_setCell_other _ _ _ _ hc).trans (heap_setCell_other _ _ _ _ hc)
    have P3 := P2.head EH2 EH3 hot
    have OK3 : OwnI ((w'.setCell ⟨bh, 2, none⟩ (.bool true)).setCell ⟨bh, 3, none⟩ (.int .i64 m.com)) 0 (.slice ka kn kc) ks := ⟨own_same OK2.1 (fun g hg => hot g (fun e => own_ne OK2.1 EH2 (by decide) (by rw [hg, e]))), OK2.2⟩
    have E3 := (hot _ (fun e => hbne e.symm)).trans E2
    have F3 : Fp T w ((w'.setCell ⟨bh, 2, none⟩ (.bool true)).setCell ⟨bh, 3, none⟩ (.int .i64 m.com)) := ⟨B2.os, B2.tape, B2.output, by simpa using B2.size, fun b hb ht => (hot b (fun e => ht (by rw [e]; exact hbT))).trans (B2.block b hb)⟩
    clear q1 q2 q3 y0 y1 y2 y3 zf2 zf3 hot EH2 P2 OK2 E2 hin2 B2
    generalize (w'.setCell ⟨bh, 2, none⟩ (.bool true)).setCell ⟨bh, 3, none⟩ (.int .i64 m.com) = w3 at *
    obtain ⟨_, y1, _, _, _⟩ := tx_cells (m := m) (t := 31) E3
    obtain ⟨_, q1, _, _, _, _, _⟩ := his_cells EH3
    have hbl3 := lt_of_block EH3
    have htl3 := lt_of_block E3
    refine wp_region_inv' (fun A D a w' => ∃ v21 v22 v23 v24 v25 v26 v27 v28 v29 v30 v31 nb a8 n8 c8, a = (((((((((((A.put (some 21) v21).put (some 22) v22).put (some 23) v23).put (some 24) v24).put (some 25) v25).put (some 26) v26).put (some 27) v27).put (some 28) v28).put (some 29) v29).put (some 30) v30).put (some 31) v31) ∧ (D 8 ∨ Below w3.heap.size w3 w') ∧ (D 0 → v21 = .pointer (some ⟨bh, 0, none⟩)) ∧ (D 1 → v22 = .pointer (some ⟨bh, 0, none⟩)) ∧ (D 2 → v23 = .pointer (some ⟨bh, 0, none⟩)) ∧ (D 3 → v24 = .pointer (some ⟨bh, 1, none⟩)) ∧ (D 4 → v25 = .slice ka kn kc) ∧ (D 5 → v26 = .pointer (some ⟨w.heap.size, 1, none⟩)) ∧ (D 6 → v27 = .int .i64 (Tm.com m)) ∧ (D 7 → v28 = .slice (some ⟨nb, 0, none⟩) 1 1) ∧ (D 8 → v29 = .slice a8 n8 c8) ∧ (D 9 → v30 = .pointer (some ⟨bh, 0, none⟩)) ∧ (D 10 → v31 = .pointer (some ⟨bh, 1, none⟩)) ∧ (D 11 → ∃ wp w6 : World, Below w3.heap.size w3 wp ∧ wp.grownBy w6 (Value.slice ka kn kc).ownBlock ∧ OwnI w6 0 (.slice a8 n8 c8) (ks ++ [m.com]) ∧ (∀ g, (Value.slice a8 n8 c8).ownBlock = some g → (Value.slice ka kn kc).ownBlock = some g ∨ wp.heap.size ≤ g) ∧ w6.heap[bh]? = some (hisB mv (.slice ka kn kc) true m.com) ∧ w' = w6.setCell ⟨bh, 1, none⟩ (.slice a8 n8 c8)) ∧ (D 7 → ¬ D 8 → w'.cell? ⟨nb, 0, none⟩ = some (.int .i64 (Tm.com m))) ∧ (D 8 → ¬ D 11 → ∃ wp, Below w3.heap.size w3 wp ∧ wp.grownBy w' (Value.slice ka kn kc).ownBlock ∧ OwnI w' 0 (.slice a8 n8 c8) (ks ++ [m.com]) ∧ (∀ g, (Value.slice a8 n8 c8).ownBlock = some g → (Value.slice ka kn kc).ownBlock = some g ∨ wp.heap.size ≤ g))) (by kernel_rfl) (by kernel_rfl) ?mono ?start ?step ?done
    case mono =>
      rintro D D' a w' hD ⟨v21, v22, v23, v24, v25, v26, v27, v28, v29, v30, v31, nb, a8, n8, c8, ha, hB, e0, e1, e2, e3, e4, e5, e6, e7, e8, e9, e10, hQ, hLit, hA⟩
      exact ⟨v21, v22, v23, v24, v25, v26, v27, v28, v29, v30, v31, nb, a8, n8, c8, ha, hB.imp_left (hD 8).1, fun h => e0 ((hD 0).2 h), fun h => e1 ((hD 1).2 h), fun h => e2 ((hD 2).2 h), fun h => e3 ((hD 3).2 h), fun h => e4 ((hD 4).2 h), fun h => e5 ((hD 5).2 h), fun h => e6 ((hD 6).2 h), fun h => e7 ((hD 7).2 h), fun h => e8 ((hD 8).2 h), fun h => e9 ((hD 9).2 h), fun h => e10 ((hD 10).2 h), fun h => hQ ((hD 11).2 h), fun h h' => hLit ((hD 7).2 h) (fun k => h' ((hD 8).1 k)), fun h h' => hA ((hD 8).2 h) (fun k => h' ((hD 11).1 k))⟩
    case start => exact ⟨undef, undef, undef, undef, undef, undef, undef, undef, undef, undef, undef, 0, none, 0, 0, by kernel_rfl, .inr ((Below.refl _ _).drew), fun h => h.elim, fun h => h.elim, fun h => h.elim, fun h => h.elim, fun h => h.elim, fun h => h.elim, fun h => h.elim, fun h => h.elim, fun h => h.elim, fun h => h.elim, fun h => h.elim, fun h => h.elim, fun h _ => h.elim, fun h _ => h.elim⟩
    case step =>
      intro i o ho D a w' hI hn hcl hd
      obtain ⟨v21, v22, v23, v24, v25, v26, v27, v28, v29, v30, v31, nb, a8, n8, c8, ha, hB, e0, e1, e2, e3, e4, e5, e6, e7, e8, e9, e10, hQ, hLit, hA⟩ := hI
      match i, ho with
      | 0, ho =>
        cases Option.some.inj ho
        have ev : a.tmps[0]?.getD undef = .pointer (some ⟨bh, 0, none⟩) := by rw [ha]; kernel_rfl
        refine wp_value (w' := w') (v := .pointer (some ⟨bh, 0, none⟩)) (by simp [execOp, ev, go_sem]) ?_
        exact ⟨(.pointer (some ⟨bh, 0, none⟩)), v22, v23, v24, v25, v26, v27, v28, v29, v30, v31, nb, a8, n8, c8, by rw [ha]; kernel_rfl, hB.imp_left .inr, fun _ => rfl, fun h => e1 (h.resolve_left (by decide)), fun h => e2 (h.resolve_left (by decide)), fun h => e3 (h.resolve_left (by decide)), fun h => e4 (h.resolve_left (by decide)), fun h => e5 (h.resolve_left (by decide)), fun h => e6 (h.resolve_left (by decide)), fun h => e7 (h.resolve_left (by decide)), fun h => e8 (h.resolve_left (by decide)), fun h => e9 (h.resolve_left (by decide)), fun h => e10 (h.resolve_left (by decide)), fun h => hQ (h.resolve_left (by decide)), fun h h' => hLit (h.resolve_left (by decide)) (fun k => h' (.inr k)), fun h h' => hA (h.resolve_left (by decide)) (fun k => h' (.inr k))⟩
      | 1, ho =>
        cases Option.some.inj ho
        have ev : a.tmps[0]?.getD undef = .pointer (some ⟨bh, 0, none⟩) := by rw [ha]; kernel_rfl
        refine wp_value (w' := w') (v := .pointer (some ⟨bh, 0, none⟩)) (by simp [execOp, ev, go_sem]) ?_
        exact ⟨v21, (.pointer (some ⟨bh, 0, none⟩)), v23, v24, v25, v26, v27, v28, v29, v30, v31, nb, a8, n8, c8, by rw [ha]; kernel_rfl, hB.imp_left .inr, fun h => e0 (h.resolve_left (by decide)), fun _ => rfl, fun h => e2 (h.resolve_left (by decide)), fun h => e3 (h.resolve_left (by decide)), fun h => e4 (h.resolve_left (by decide)), fun h => e5 (h.resolve_left (by decide)), fun h => e6 (h.resolve_left (by decide)), fun h => e7 (h.resolve_left (by decide)), fun h => e8 (h.resolve_left (by decide)), fun h => e9 (h.resolve_left (by decide)), fun h => e10 (h.resolve_left (by decide)), fun h => hQ (h.resolve_left (by decide)), fun h h' => hLit (h.resolve_left (by decide)) (fun k => h' (.inr k)), fun h h' => hA (h.resolve_left (by decide)) (fun k => h' (.inr k))⟩
      | 2, ho =>
        cases Option.some.inj ho
        have ev : a.tmps[22]?.getD undef = .pointer (some ⟨bh, 0, none⟩) := by rw [ha, e1 (hd ⟨1, .data⟩ (by simp) rfl)]; kernel_rfl
        refine wp_value (w' := w') (v := .pointer (some ⟨bh, 0, none⟩)) (by simp [execOp, ev, go_sem]) ?_
        exact ⟨v21, v22, (.pointer (some ⟨bh, 0, none⟩)), v24, v25, v26, v27, v28, v29, v30, v31, nb, a8, n8, c8, by rw [ha]; kernel_rfl, hB.imp_left .inr, fun h => e0 (h.resolve_left (by decide)), fun h => e1 (h.resolve_left (by decide)), fun _ => rfl, fun h => e3 (h.resolve_left (by decide)), fun h => e4 (h.resolve_left (by decide)), fun h => e5 (h.resolve_left (by decide)), fun h => e6 (h.resolve_left (by decide)), fun h => e7 (h.resolve_left (by decide)), fun h => e8 (h.resolve_left (by decide)), fun h => e9 (h.resolve_left (by decide)), fun h => e10 (h.resolve_left (by decide)), fun h => hQ (h.resolve_left (by decide)), fun h h' => hLit (h.resolve_left (by decide)) (fun k => h' (.inr k)), fun h h' => hA (h.resolve_left (by decide)) (fun k => h' (.inr k))⟩
      | 3, ho =>
        cases Option.some.inj ho
        have ev : a.tmps[23]?.getD undef = .pointer (some ⟨bh, 0, none⟩) := by rw [ha, e2 (hd ⟨2, .data⟩ (by simp) rfl)]; kernel_rfl
        refine wp_value (w' := w') (v := .pointer (some ⟨bh, 1, none⟩)) (by simp [execOp, ev, go_sem]) ?_
        exact ⟨v21, v22, v23, (.pointer (some ⟨bh, 1, none⟩)), v25, v26, v27, v28, v29, v30, v31, nb, a8, n8, c8, by rw [ha]; kernel_rfl, hB.imp_left .inr, fun h => e0 (h.resolve_left (by decide)), fun h => e1 (h.resolve_left (by decide)), fun h => e2 (h.resolve_left (by decide)), fun _ => rfl, fun h => e4 (h.resolve_left (by decide)), fun h => e5 (h.resolve_left (by decide)), fun h => e6 (h.resolve_left (by decide)), fun h => e7 (h.resolve_left (by decide)), fun h => e8 (h.resolve_left (by decide)), fun h => e9 (h.resolve_left (by decide)), fun h => e10 (h.resolve_left (by decide)), fun h => hQ (h.resolve_left (by decide)), fun h h' => hLit (h.resolve_left (by decide)) (fun k => h' (.inr k)), fun h h' => hA (h.resolve_left (by decide)) (fun k => h' (.inr k))⟩
      | 4, ho =>
        cases Option.some.inj ho
        have ev : a.tmps[24]?.getD undef = .pointer (some ⟨bh, 1, none⟩) := by rw [ha, e3 (hd ⟨3, .data⟩ (by simp) rfl)]; kernel_rfl
        have hb := hB.resolve_left (fun h => hn (hcl 8 _ rfl h ⟨4, .data⟩ (by simp) rfl))
        have z1 := (hb.cell (p := ⟨bh, 1, none⟩) hbl3).trans q1
        refine wp_value (w' := w') (v := .slice ka kn kc) (by simp [execOp, ev, go_sem, z1]) ?_
        exact ⟨v21, v22, v23, v24, (.slice ka kn kc), v26, v27, v28, v29, v30, v31, nb, a8, n8, c8, by rw [ha]; kernel_rfl, hB.imp_left .inr, fun h => e0 (h.resolve_left (by decide)), fun h => e1 (h.resolve_left (by decide)), fun h => e2 (h.resolve_left (by decide)), fun h => e3 (h.resolve_left (by decide)), fun _ => rfl, fun h => e5 (h.resolve_left (by decide)), fun h => e6 (h.resolve_left (by decide)), fun h => e7 (h.resolve_left (by decide)), fun h => e8 (h.resolve_left (by decide)), fun h => e9 (h.resolve_left (by decide)), fun h => e10 (h.resolve_left (by decide)), fun h => hQ (h.resolve_left (by decide)), fun h h' => hLit (h.resolve_left (by decide)) (fun k => h' (.inr k)), fun h h' => hA (h.resolve_left (by decide)) (fun k => h' (.inr k))⟩
      | 5, ho =>
        cases Option.some.inj ho
        have ev : a.tmps[3]?.getD undef = .pointer (some ⟨w.heap.size, 0, none⟩) := by rw [ha]; kernel_rfl
        refine wp_value (w' := w') (v := .pointer (some ⟨w.heap.size, 1, none⟩)) (by simp [execOp, ev, go_sem]) ?_
        exact ⟨v21, v22, v23, v24, v25, (.pointer (some ⟨w.heap.size, 1, none⟩)), v27, v28, v29, v30, v31, nb, a8, n8, c8, by rw [ha]; kernel_rfl, hB.imp_left .inr, fun h => e0 (h.resolve_left (by decide)), fun h => e1 (h.resolve_left (by decide)), fun h => e2 (h.resolve_left (by decide)), fun h => e3 (h.resolve_left (by decide)), fun h => e4 (h.resolve_left (by decide)), fun _ => rfl, fun h => e6 (h.resolve_left (by decide)), fun h => e7 (h.resolve_left (by decide)), fun h => e8 (h.resolve_left (by decide)), fun h => e9 (h.resolve_left (by decide)), fun h => e10 (h.resolve_left (by decide)), fun h => hQ (h.resolve_left (by decide)), fun h h' => hLit (h.resolve_left (by decide)) (fun k => h' (.inr k)), fun h h' => hA (h.resolve_left (by decide)) (fun k => h' (.inr k))⟩
      | 6, ho =>
        cases Option.some.inj ho
        have ev : a.tmps[26]?.getD undef = .pointer (some ⟨w.heap.size, 1, none⟩) := by rw [ha, e5 (hd ⟨5, .data⟩ (by simp) rfl)]; kernel_rfl
        have hb := hB.resolve_left (fun h => (fun h => hn (hcl 7 _ rfl h ⟨6, .data⟩ (by simp) rfl)) (hcl 8 _ rfl h ⟨7, .data⟩ (by simp) rfl))
        have z1 := (hb.cell (p := ⟨w.heap.size, 1, none⟩) htl3).trans y1
        refine wp_value (w' := w') (v := .int .i64 (Tm.com m)) (by simp [execOp, ev, go_sem, z1]) ?_
        exact ⟨v21, v22, v23, v24, v25, v26, (.int .i64 (Tm.com m)), v28, v29, v30, v31, nb, a8, n8, c8, by rw [ha]; kernel_rfl, hB.imp_left .inr, fun h => e0 (h.resolve_left (by decide)), fun h => e1 (h.resolve_left (by decide)), fun h => e2 (h.resolve_left (by decide)), fun h => e3 (h.resolve_left (by decide)), fun h => e4 (h.resolve_left (by decide)), fun h => e5 (h.resolve_left (by decide)), fun _ => rfl, fun h => e7 (h.resolve_left (by decide)), fun h => e8 (h.resolve_left (by decide)), fun h => e9 (h.resolve_left (by decide)), fun h => e10 (h.resolve_left (by decide)), fun h => hQ (h.resolve_left (by decide)), fun h h' => hLit (h.resolve_left (by decide)) (fun k => h' (.inr k)), fun h h' => hA (h.resolve_left (by decide)) (fun k => h' (.inr k))⟩
      | 7, ho =>
        cases Option.some.inj ho
        have ev : a.tmps[27]?.getD undef = .int .i64 (Tm.com m) := by rw [ha, e6 (hd ⟨6, .data⟩ (by simp) rfl)]; kernel_rfl
        refine wp_value (w' := w'.alloc (.cells #[.int .i64 m.com] 2)) (v := .slice (some ⟨w'.heap.size, 0, none⟩) 1 1) (by simp [execOp, ev, go_sem]) ?_
        exact ⟨v21, v22, v23, v24, v25, v26, v27, (.slice (some ⟨w'.heap.size, 0, none⟩) 1 1), v29, v30, v31, w'.heap.size, a8, n8, c8, by rw [ha]; kernel_rfl, hB.imp .inr (fun h => below_size h h.size box_below), fun h => e0 (h.resolve_left (by decide)), fun h => e1 (h.resolve_left (by decide)), fun h => e2 (h.resolve_left (by decide)), fun h => e3 (h.resolve_left (by decide)), fun h => e4 (h.resolve_left (by decide)), fun h => e5 (h.resolve_left (by decide)), fun h => e6 (h.resolve_left (by decide)), fun _ => rfl, fun h => absurd (h.resolve_left (by decide)) (fun h => hn (hcl 8 _ rfl h ⟨7, .data⟩ (by simp) rfl)), fun h => e9 (h.resolve_left (by decide)), fun h => e10 (h.resolve_left (by decide)), fun h => absurd (h.resolve_left (by decide)) (fun h => (fun h => hn (hcl 8 _ rfl h ⟨7, .data⟩ (by simp) rfl)) (hcl 11 _ rfl h ⟨8, .data⟩ (by simp) rfl)), fun _ _ => by simp, fun h _ => absurd (h.resolve_left (by decide)) (fun h => hn (hcl 8 _ rfl h ⟨7, .data⟩ (by simp) rfl))⟩
      | 8, ho =>
        cases Option.some.inj ho
        have ev : a.tmps[25]?.getD undef = .slice ka kn kc := by rw [ha, e4 (hd ⟨4, .data⟩ (by simp) rfl)]; kernel_rfl
        have ev' : a.tmps[28]?.getD undef = .slice (some ⟨nb, 0, none⟩) 1 1 := by rw [ha, e7 (hd ⟨7, .data⟩ (by simp) rfl)]; kernel_rfl
        have hb := hB.resolve_left hn
        have hL := hLit (hd ⟨7, .data⟩ (by simp) rfl) hn
        obtain ⟨a8', n8', c8', w6, hr6, O6, g6, at6⟩ := append_at w' 23 0 _ _ (OK3.below hb) m.com hc64 nb hL hkl (Nat.zero_le _)
        refine Lib.wp_append_run w' (.tmp 25) (.tmp 28) 23 23 rfl _ _ (by simpa [Act.eval] using ev) (by simpa [Act.eval] using ev') _ w6 hr6 ?_
        exact ⟨v21, v22, v23, v24, v25, v26, v27, v28, (.slice a8' n8' c8'), v30, v31, nb, a8', n8', c8', by rw [ha]; kernel_rfl, .inl (.inl rfl), fun h => e0 (h.resolve_left (by decide)), fun h => e1 (h.resolve_left (by decide)), fun h => e2 (h.resolve_left (by decide)), fun h => e3 (h.resolve_left (by decide)), fun h => e4 (h.resolve_left (by decide)), fun h => e5 (h.resolve_left (by decide)), fun h => e6 (h.resolve_left (by decide)), fun h => e7 (h.resolve_left (by decide)), fun _ => rfl, fun h => e9 (h.resolve_left (by decide)), fun h => e10 (h.resolve_left (by decide)), fun h => absurd (h.resolve_left (by decide)) (fun h => hn (hcl 11 _ rfl h ⟨8, .data⟩ (by simp) rfl)), fun _ h' => absurd (.inl rfl) h', fun _ _ => ⟨w', hb, g6, O6, at6⟩⟩
      | 9, ho =>
        cases Option.some.inj ho
        have ev : a.tmps[21]?.getD undef = .pointer (some ⟨bh, 0, none⟩) := by rw [ha, e0 (hd ⟨0, .data⟩ (by simp) rfl)]; kernel_rfl
        refine wp_value (w' := w') (v := .pointer (some ⟨bh, 0, none⟩)) (by simp [execOp, ev, go_sem]) ?_
        exact ⟨v21, v22, v23, v24, v25, v26, v27, v28, v29, (.pointer (some ⟨bh, 0, none⟩)), v31, nb, a8, n8, c8, by rw [ha]; kernel_rfl, hB.imp_left .inr, fun h => e0 (h.resolve_left (by decide)), fun h => e1 (h.resolve_left (by decide)), fun h => e2 (h.resolve_left (by decide)), fun h => e3 (h.resolve_left (by decide)), fun h => e4 (h.resolve_left (by decide)), fun h => e5 (h.resolve_left (by decide)), fun h => e6 (h.resolve_left (by decide)), fun h => e7 (h.resolve_left (by decide)), fun h => e8 (h.resolve_left (by decide)), fun _ => rfl, fun h => e10 (h.resolve_left (by decide)), fun h => hQ (h.resolve_left (by decide)), fun h h' => hLit (h.resolve_left (by decide)) (fun k => h' (.inr k)), fun h h' => hA (h.resolve_left (by decide)) (fun k => h' (.inr k))⟩
      | 10, ho =>
        cases Option.some.inj ho
        have ev : a.tmps[30]?.getD undef = .pointer (some ⟨bh, 0, none⟩) := by rw [ha, e9 (hd ⟨9, .data⟩ (by simp) rfl)]; kernel_rfl
        refine wp_value (w' := w') (v := .pointer (some ⟨bh, 1, none⟩)) (by simp [execOp, ev, go_sem]) ?_
        exact ⟨v21, v22, v23, v24, v25, v26, v27, v28, v29, v30, (.pointer (some ⟨bh, 1, none⟩)), nb, a8, n8, c8, by rw [ha]; kernel_rfl, hB.imp_left .inr, fun h => e0 (h.resolve_left (by decide)), fun h => e1 (h.resolve_left (by decide)), fun h => e2 (h.resolve_left (by decide)), fun h => e3 (h.resolve_left (by decide)), fun h => e4 (h.resolve_left (by decide)), fun h => e5 (h.resolve_left (by decide)), fun h => e6 (h.resolve_left (by decide)), fun h => e7 (h.resolve_left (by decide)), fun h => e8 (h.resolve_left (by decide)), fun h => e9 (h.resolve_left (by decide)), fun _ => rfl, fun h => hQ (h.resolve_left (by decide)), fun h h' => hLit (h.resolve_left (by decide)) (fun k => h' (.inr k)), fun h h' => hA (h.resolve_left (by decide)) (fun k => h' (.inr k))⟩
      | 11, ho =>
        cases Option.some.inj ho
        have ev : a.tmps[31]?.getD undef = .pointer (some ⟨bh, 1, none⟩) := by rw [ha, e10 (hd ⟨10, .data⟩ (by simp) rfl)]; kernel_rfl
        have ev' : a.tmps[29]?.getD undef = .slice a8 n8 c8 := by rw [ha, e8 (hd ⟨8, .data⟩ (by simp) rfl)]; kernel_rfl
        obtain ⟨wp, hbp, gp, Op, atp⟩ := hA (hd ⟨8, .data⟩ (by simp) rfl) hn
        have EH6 := (gp.block bh (Nat.lt_of_lt_of_le hbl3 hbp.size) (fun e => own_ne (OK3.below hbp).1 ((hbp.block _ hbl3).trans EH3) (by decide) e.symm)).trans ((hbp.block _ hbl3).trans EH3)
        obtain ⟨_, zc1, _, _, _, _, zf⟩ := his_cells EH6
        have zf1 := zf 1
        refine wp_skip (w' := w'.setCell ⟨bh, 1, none⟩ (.slice a8 n8 c8)) (by simp [execOp, Act.eval, ev, ev', go_sem, zc1, zf1]) ?_
        exact ⟨v21, v22, v23, v24, v25, v26, v27, v28, v29, v30, v31, nb, a8, n8, c8, by rw [ha]; kernel_rfl, .inl (.inr (hd ⟨8, .data⟩ (by simp) rfl)), fun h => e0 (h.resolve_left (by decide)), fun h => e1 (h.resolve_left (by decide)), fun h => e2 (h.resolve_left (by decide)), fun h => e3 (h.resolve_left (by decide)), fun h => e4 (h.resolve_left (by decide)), fun h => e5 (h.resolve_left (by decide)), fun h => e6 (h.resolve_left (by decide)), fun h => e7 (h.resolve_left (by decide)), fun h => e8 (h.resolve_left (by decide)), fun h => e9 (h.resolve_left (by decide)), fun h => e10 (h.resolve_left (by decide)), fun _ => ⟨wp, w', hbp, gp, Op, atp, EH6, rfl⟩, fun _ h' => absurd (Or.inr (hd ⟨8, .data⟩ (by simp) rfl)) h', fun _ h' => absurd (.inl rfl) h'⟩
      | i + 12, ho => simp at ho
    case done =>
      rintro D a w' ⟨v21, v22, v23, v24, v25, v26, v27, v28, v29, v30, v31, nb, a8, n8, c8, ha, hB, e0, e1, e2, e3, e4, e5, e6, e7, e8, e9, e10, hQ, hLit, hA⟩ hall
      obtain rfl := e0 (hall 0 (by decide))
      obtain rfl := e1 (hall 1 (by decide))
      obtain rfl := e2 (hall 2 (by decide))
      obtain rfl := e3 (hall 3 (by decide))
      obtain rfl := e4 (hall 4 (by decide))
      obtain rfl := e5 (hall 5 (by decide))
      obtain rfl := e6 (hall 6 (by decide))
      obtain rfl := e7 (hall 7 (by decide))
      obtain rfl := e8 (hall 8 (by decide))
      obtain rfl := e9 (hall 9 (by decide))
      obtain rfl := e10 (hall 10 (by decide))
      obtain ⟨wp, w6, hbp, gp, Op, atp, EH6, rfl⟩ := hQ (hall 11 (by decide))
      clear hLit hA hQ hB hall e0 e1 e2 e3 e4 e5 e6 e7 e8 e9 e10
      rw [ha]
      clear ha
      simp only [Act.put, List.setIfInBounds_toArray, List.set_cons_zero, List.set_cons_succ]
      have hkS : ∀ b, S b → b < wp.heap.size → w6.heap[b]? = wp.heap[b]? := fun b hb hl => gp.block b hl (fun e => (hK b e.symm).2 hb)
      have P6 : Pl w6 S bh f := (P3.below hbp).same (fun _ h => h) (fun b hl hb => hkS b hb hl)
      have E6 := (gp.block _ (Nat.lt_of_lt_of_le htl3 hbp.size) (fun e => by have := hTlt _ (hK _ e.symm).1; omega)).trans ((hbp.block _ htl3).trans E3)
      have hot : ∀ c, c ≠ bh → (w6.setCell ⟨bh, 1, none⟩ (.slice a8 n8 c8)).heap[c]? = w6.heap[c]? := fun c hc => heap_setCell_other _ _ _ _ hc
      have EH7 := his_set1 EH6 (.slice a8 n8 c8)
      have P7 := P6.head EH6 EH7 hot
      have O7 : OwnI (w6.setCell ⟨bh, 1, none⟩ (.slice a8 n8 c8)) 0 (.slice a8 n8 c8) (ks ++ [m.com]) := ⟨own_setCell Op.1 EH6 (by decide), Op.2⟩
      have E7 := (hot _ (fun e => hbne e.symm)).trans E6
      have F7 : Fp T w (w6.setCell ⟨bh, 1, none⟩ (.slice a8 n8 c8)) := by
        refine ⟨gp.os.trans (hbp.os.trans F3.os), gp.tape.trans (hbp.tape.trans F3.tape), gp.output.trans (hbp.output.trans F3.output), ?_, fun b hb ht => ?_⟩
        · have h1 := gp.size
          have h2 := hbp.size
          have h3 := F3.size
          simp
          omega
        · refine (hot b (fun e => ht (by rw [e]; exact hbT))).trans ((gp.block b (Nat.lt_of_lt_of_le hb (Nat.le_trans F3.size hbp.size)) (fun e => ht (hK b e.symm).1)).trans ((hbp.block b (Nat.lt_of_lt_of_le hb F3.size)).trans (F3.block b hb ht)))
      have hat : ∀ g, (Value.slice a8 n8 c8).ownBlock = some g → (T g ∨ w.heap.size ≤ g) ∧ ¬ S g := fun g hg => by
        rcases atp g hg with h | h
        · exact ⟨.inl (hK g h).1, (hK g h).2⟩
        · have h2 := hbp.size
          have h3 := F3.size
          exact ⟨.inr (by omega), fun hs => by have := hTlt g (hst g hs); omega⟩
      clear hkS P6 E6 hot EH6 atp gp hbp Op P3 E3 htl3 hbl3 q1 y1 OK3 EH3 F3
      go_upto_region 7 with fail
      generalize w6.setCell ⟨bh, 1, none⟩ (.slice a8 n8 c8) = w7 at *
      obtain ⟨y0, y1, y2, y3, _⟩ := tx_cells (m := m) (t := 31) E7
      have IW := hin.w.1.fp F7 hap
      have hput := put_any (w := w7.drew) m.com hc64 (P7.below ((Below.refl _ _).drew)) (IW.below ((Below.refl _ _).drew)) (fun b off h1 h2 h3 => hap b off h1 h2 (hst b h3)) hwn hfl
      refine wp_region_inv' (fun A D a w' => ∃ v32 v33 v34 v35 v36 v37 v38 v39, a = ((((((((A.put (some 32) v32).put (some 33) v33).put (some 34) v34).put (some 35) v35).put (some 36) v36).put (some 37) v37).put (some 38) v38).put (some 39) v39) ∧ (D 7 ∨ w' = w7.drew) ∧ (D 0 → v32 = .pointer (some ⟨bh, 0, none⟩)) ∧ (D 1 → v33 = .pointer (some ⟨bh, 0, none⟩)) ∧ (D 2 → v34 = .pointer (some ⟨bh, 0, none⟩)) ∧ (D 3 → v35 = .pointer (some ⟨w.heap.size, 1, none⟩)) ∧ (D 4 → v36 = .int .i64 (Tm.com m)) ∧ (D 5 → v37 = .pointer (some ⟨w.heap.size, 3, none⟩)) ∧ (D 6 → v38 = .slice (Tm.wa m) (Tm.wn m) (Tm.wc m)) ∧ (D 7 → v39 = .tuple #[]) ∧ (D 7 → Pl w' (fun b => S b ∨ w7.drew.heap.size ≤ b) bh (putF m.com m.ws f) ∧ Fp S w7.drew w' ∧ KeepC bh w7.drew w')) (by kernel_rfl) (by kernel_rfl) ?mono ?start ?step ?done
      case mono =>
        rintro D D' a w' hD ⟨v32, v33, v34, v35, v36, v37, v38, v39, ha, hW, e0, e1, e2, e3, e4, e5, e6, e7, hQ⟩
        exact ⟨v32, v33, v34, v35, v36, v37, v38, v39, ha, hW.imp_left (hD 7).1, fun h => e0 ((hD 0).2 h), fun h => e1 ((hD 1).2 h), fun h => e2 ((hD 2).2 h), fun h => e3 ((hD 3).2 h), fun h => e4 ((hD 4).2 h), fun h => e5 ((hD 5).2 h), fun h => e6 ((hD 6).2 h), fun h => e7 ((hD 7).2 h), fun h => hQ ((hD 7).2 h)⟩
      case start => exact ⟨undef, undef, undef, undef, undef, undef, undef, undef, by kernel_rfl, .inr (rfl), fun h => h.elim, fun h => h.elim, fun h => h.elim, fun h => h.elim, fun h => h.elim, fun h => h.elim, fun h => h.elim, fun h => h.elim, fun h => h.elim⟩
      case step =>
        intro i o ho D a w' hI hn hcl hd
        obtain ⟨v32, v33, v34, v35, v36, v37, v38, v39, ha, hW, e0, e1, e2, e3, e4, e5, e6, e7, hQ⟩ := hI
        match i, ho with
        | 0, ho =>
          cases Option.some.inj ho
          have ev : a.tmps[0]?.getD undef = .pointer (some ⟨bh, 0, none⟩) := by rw [ha]; kernel_rfl
          refine wp_value (w' := w') (v := .pointer (some ⟨bh, 0, none⟩)) (by simp [execOp, ev, go_sem]) ?_
          exact ⟨(.pointer (some ⟨bh, 0, none⟩)), v33, v34, v35, v36, v37, v38, v39, by rw [ha]; kernel_rfl, hW.imp_left .inr, fun _ => rfl, fun h => e1 (h.resolve_left (by decide)), fun h => e2 (h.resolve_left (by decide)), fun h => e3 (h.resolve_left (by decide)), fun h => e4 (h.resolve_left (by decide)), fun h => e5 (h.resolve_left (by decide)), fun h => e6 (h.resolve_left (by decide)), fun h => e7 (h.resolve_left (by decide)), fun h => hQ (h.resolve_left (by decide))⟩
        | 1, ho =>
          cases Option.some.inj ho
          have ev : a.tmps[32]?.getD undef = .pointer (some ⟨bh, 0, none⟩) := by rw [ha, e0 (hd ⟨0, .data⟩ (by simp) rfl)]; kernel_rfl
          refine wp_value (w' := w') (v := .pointer (some ⟨bh, 0, none⟩)) (by simp [execOp, ev, go_sem]) ?_
          exact ⟨v32, (.pointer (some ⟨bh, 0, none⟩)), v34, v35, v36, v37, v38, v39, by rw [ha]; kernel_rfl, hW.imp_left .inr, fun h => e0 (h.resolve_left (by decide)), fun _ => rfl, fun h => e2 (h.resolve_left (by decide)), fun h => e3 (h.resolve_left (by decide)), fun h => e4 (h.resolve_left (by decide)), fun h => e5 (h.resolve_left (by decide)), fun h => e6 (h.resolve_left (by decide)), fun h => e7 (h.resolve_left (by decide)), fun h => hQ (h.resolve_left (by decide))⟩
        | 2, ho =>
          cases Option.some.inj ho
          have ev : a.tmps[33]?.getD undef = .pointer (some ⟨bh, 0, none⟩) := by rw [ha, e1 (hd ⟨1, .data⟩ (by simp) rfl)]; kernel_rfl
          refine wp_value (w' := w') (v := .pointer (some ⟨bh, 0, none⟩)) (by simp [execOp, ev, go_sem]) ?_
          exact ⟨v32, v33, (.pointer (some ⟨bh, 0, none⟩)), v35, v36, v37, v38, v39, by rw [ha]; kernel_rfl, hW.imp_left .inr, fun h => e0 (h.resolve_left (by decide)), fun h => e1 (h.resolve_left (by decide)), fun _ => rfl, fun h => e3 (h.resolve_left (by decide)), fun h => e4 (h.resolve_left (by decide)), fun h => e5 (h.resolve_left (by decide)), fun h => e6 (h.resolve_left (by decide)), fun h => e7 (h.resolve_left (by decide)), fun h => hQ (h.resolve_left (by decide))⟩
        | 3, ho =>
          cases Option.some.inj ho
          have ev : a.tmps[3]?.getD undef = .pointer (some ⟨w.heap.size, 0, none⟩) := by rw [ha]; kernel_rfl
          refine wp_value (w' := w') (v := .pointer (some ⟨w.heap.size, 1, none⟩)) (by simp [execOp, ev, go_sem]) ?_
          exact ⟨v32, v33, v34, (.pointer (some ⟨w.heap.size, 1, none⟩)), v36, v37, v38, v39, by rw [ha]; kernel_rfl, hW.imp_left .inr, fun h => e0 (h.resolve_left (by decide)), fun h => e1 (h.resolve_left (by decide)), fun h => e2 (h.resolve_left (by decide)), fun _ => rfl, fun h => e4 (h.resolve_left (by decide)), fun h => e5 (h.resolve_left (by decide)), fun h => e6 (h.resolve_left (by decide)), fun h => e7 (h.resolve_left (by decide)), fun h => hQ (h.resolve_left (by decide))⟩
        | 4, ho =>
          cases Option.some.inj ho
          have ev : a.tmps[35]?.getD undef = .pointer (some ⟨w.heap.size, 1, none⟩) := by rw [ha, e3 (hd ⟨3, .data⟩ (by simp) rfl)]; kernel_rfl
          have hw := hW.resolve_left (fun h => hn (hcl 7 _ rfl h ⟨4, .data⟩ (by simp) rfl))
          have z1 : w'.cell? ⟨w.heap.size, 1, none⟩ = some (.int .i64 m.com) := by rw [hw]; exact y1
          refine wp_value (w' := w') (v := .int .i64 (Tm.com m)) (by simp [execOp, ev, go_sem, z1]) ?_
          exact ⟨v32, v33, v34, v35, (.int .i64 (Tm.com m)), v37, v38, v39, by rw [ha]; kernel_rfl, hW.imp_left .inr, fun h => e0 (h.resolve_left (by decide)), fun h => e1 (h.resolve_left (by decide)), fun h => e2 (h.resolve_left (by decide)), fun h => e3 (h.resolve_left (by decide)), fun _ => rfl, fun h => e5 (h.resolve_left (by decide)), fun h => e6 (h.resolve_left (by decide)), fun h => e7 (h.resolve_left (by decide)), fun h => hQ (h.resolve_left (by decide))⟩
        | 5, ho =>
          cases Option.some.inj ho
          have ev : a.tmps[3]?.getD undef = .pointer (some ⟨w.heap.size, 0, none⟩) := by rw [ha]; kernel_rfl
          refine wp_value (w' := w') (v := .pointer (some ⟨w.heap.size, 3, none⟩)) (by simp [execOp, ev, go_sem]) ?_
          exact ⟨v32, v33, v34, v35, v36, (.pointer (some ⟨w.heap.size, 3, none⟩)), v38, v39, by rw [ha]; kernel_rfl, hW.imp_left .inr, fun h => e0 (h.resolve_left (by decide)), fun h => e1 (h.resolve_left (by decide)), fun h => e2 (h.resolve_left (by decide)), fun h => e3 (h.resolve_left (by decide)), fun h => e4 (h.resolve_left (by decide)), fun _ => rfl, fun h => e6 (h.resolve_left (by decide)), fun h => e7 (h.resolve_left (by decide)), fun h => hQ (h.resolve_left (by decide))⟩
        | 6, ho =>
          cases Option.some.inj ho
          have ev : a.tmps[37]?.getD undef = .pointer (some ⟨w.heap.size, 3, none⟩) := by rw [ha, e5 (hd ⟨5, .data⟩ (by simp) rfl)]; kernel_rfl
          have hw := hW.resolve_left (fun h => hn (hcl 7 _ rfl h ⟨6, .data⟩ (by simp) rfl))
          have z3 : w'.cell? ⟨w.heap.size, 3, none⟩ = some (.slice m.wa m.wn m.wc) := by rw [hw]; exact y3
          refine wp_value (w' := w') (v := .slice (Tm.wa m) (Tm.wn m) (Tm.wc m)) (by simp [execOp, ev, go_sem, z3]) ?_
          exact ⟨v32, v33, v34, v35, v36, v37, (.slice (Tm.wa m) (Tm.wn m) (Tm.wc m)), v39, by rw [ha]; kernel_rfl, hW.imp_left .inr, fun h => e0 (h.resolve_left (by decide)), fun h => e1 (h.resolve_left (by decide)), fun h => e2 (h.resolve_left (by decide)), fun h => e3 (h.resolve_left (by decide)), fun h => e4 (h.resolve_left (by decide)), fun h => e5 (h.resolve_left (by decide)), fun _ => rfl, fun h => e7 (h.resolve_left (by decide)), fun h => hQ (h.resolve_left (by decide))⟩
        | 7, ho =>
          cases Option.some.inj ho
          have ev : a.tmps[34]?.getD undef = .pointer (some ⟨bh, 0, none⟩) := by rw [ha, e2 (hd ⟨2, .data⟩ (by simp) rfl)]; kernel_rfl
          have ev' : a.tmps[36]?.getD undef = .int .i64 (Tm.com m) := by rw [ha, e4 (hd ⟨4, .data⟩ (by simp) rfl)]; kernel_rfl
          have ev'' : a.tmps[38]?.getD undef = .slice (Tm.wa m) (Tm.wn m) (Tm.wc m) := by rw [ha, e6 (hd ⟨6, .data⟩ (by simp) rfl)]; kernel_rfl
          have hw := hW.resolve_left hn
          have hput' := hput
          rw [← hw] at hput'
          refine wp_enter (f := 32) (args := #[.pointer (some ⟨bh, 0, none⟩), .int .i64 (Tm.com m), .slice (Tm.wa m) (Tm.wn m) (Tm.wc m)]) (by simp [execOp, ev, ev', ev'', go_sem]) ?_
          refine (hput').mono ?_
          rintro e w6 ⟨rfl, P9, F9, K9⟩
          refine ⟨_, rfl, ?_⟩
          exact ⟨v32, v33, v34, v35, v36, v37, v38, (.tuple #[]), by rw [ha]; kernel_rfl, .inl (.inl rfl), fun h => e0 (h.resolve_left (by decide)), fun h => e1 (h.resolve_left (by decide)), fun h => e2 (h.resolve_left (by decide)), fun h => e3 (h.resolve_left (by decide)), fun h => e4 (h.resolve_left (by decide)), fun h => e5 (h.resolve_left (by decide)), fun h => e6 (h.resolve_left (by decide)), fun _ => rfl, fun _ => by rw [← hw]; exact ⟨P9, F9, K9⟩⟩
        | i + 8, ho => simp at ho
      case done =>
        rintro D a w' ⟨v32, v33, v34, v35, v36, v37, v38, v39, ha, hW, e0, e1, e2, e3, e4, e5, e6, e7, hQ⟩ hall
        obtain ⟨P9, F9, K9⟩ := hQ (hall 7 (by decide))
        obtain rfl := e0 (hall 0 (by decide))
        obtain rfl := e1 (hall 1 (by decide))
        obtain rfl := e2 (hall 2 (by decide))
        obtain rfl := e3 (hall 3 (by decide))
        obtain rfl := e4 (hall 4 (by decide))
        obtain rfl := e5 (hall 5 (by decide))
        obtain rfl := e6 (hall 6 (by decide))
        obtain rfl := e7 (hall 7 (by decide))
        clear hW hQ hall e0 e1 e2 e3 e4 e5 e6 e7
        rw [ha]
        clear ha
        simp only [Act.put, List.setIfInBounds_toArray, List.set_cons_zero, List.set_cons_succ]
        have er9 : Fp S w7.drew w' := F9
        obtain ⟨v9, EH9⟩ := K9 _ _ EH7
        have EH10 : w'.heap[bh]? = some (hisB v9 (.slice a8 n8 c8) true m.com) := by rw [EH9]; rfl
        clear EH9 K9
        go_wp2
        go_ret
        refine ⟨rfl, ?_⟩
        have hg8 : ∀ g, (Value.slice a8 n8 c8).ownBlock = some g → (T g ∨ w.heap.size ≤ g) ∧ ¬ S g ∧ g < w7.heap.size := fun g hg => ⟨(hat g hg).1, (hat g hg).2, lt_of_block (own_block O7.1 hg).2.choose_spec⟩
        have O9 : OwnI w' 0 (.slice a8 n8 c8) (ks ++ [m.com]) := ⟨own_same O7.1 (fun g hg => F9.block g (hg8 g hg).2.2 (hg8 g hg).2.1), O7.2⟩
        have hn9 : ∀ cs, w'.heap[bh]? ≠ some (.cells cs 25 (0, 0)) := fun cs e => by
          rw [EH10] at e
          exact absurd (cells_ty e) (by decide)
        have hsz : w7.heap.size ≤ w'.heap.size := F9.size
        refine ⟨_, fun b => (T b ∨ w.heap.size ≤ b) ∧ b < w'.heap.size ∧ ∀ cs, w'.heap[b]? ≠ some (.cells cs 25 (0, 0)), ⟨P9.cut hn9, fun b hb => ⟨hb.1.imp (hst b) (fun h => Nat.le_trans F7.size h), hb.2⟩, fun b hb => hb.2.1, fun b hb => hb.2.2, v9, a8, n8, c8, EH10, O9, fun g hg => ⟨⟨(hg8 g hg).1, lt_of_block (own_block O9.1 hg).2.choose_spec, fun cs e => ?_⟩, fun h => ?_⟩⟩, ?_, fun b hb => hb.1⟩
        · obtain ⟨_, cur, hh⟩ := own_block O9.1 hg
          rw [hh] at e
          exact absurd (cells_ty e) (by decide)
        · have := hg8 g hg
          rcases h.1 with h | h
          · exact this.2.1 h
          · have h' : w7.heap.size ≤ g := h
            omega
        · exact ⟨F9.os.trans F7.os, F9.tape.trans F7.tape, F9.output.trans F7.output, Nat.le_trans F7.size F9.size, fun b hb ht => (F9.block b (Nat.lt_of_lt_of_le hb F7.size) (fun h => ht (hst b h))).trans (F7.block b hb ht)⟩
end Go.Proofs.Ytigmpmichhghdaa
