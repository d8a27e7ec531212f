/- readHead. -/
import Derived.Test.YtofgphiamllmdabHead
import Derived.Test.YtofgphiamllmdabSmall
import Derived.Test.YtofgphiamllmdabAnyS
import Derived.Deep.CutRange
namespace Go.Proofs.Ytofgphiamllmdab
open Go.RowKit
set_option maxRecDepth 100000

set_option maxRecDepth 100000 in
theorem equal_78 (d : Nat) (hd : d = Op.maxDepth) {xs ys : List Int} (hx : IsSec xs) (hy : IsSec ys) (w : World) : (Op.equalIn d 78 (.agg (cellsB xs)) (.agg (cellsB ys))).run Try.prog w = .ok (decide (xs = ys)) w := by
  obtain ⟨i, hi⟩ : ∃ i, Try.prog.info? 5 = some i := by
    have hs : (Try.prog.info? 5).map (·.size) = some 1 := by kernel_rfl
    cases hq : Try.prog.info? 5 with
    | none => simp [hq] at hs
    | some i => exact ⟨i, rfl⟩
  have hc : Try.prog.cellsOf 5 = 1 := by kernel_rfl
  obtain ⟨k, rfl⟩ : ∃ k, d = k + 1 + 1 := ⟨d - 2, by have : Op.maxDepth = 10000 := rfl; omega⟩
  clear hd
  rw [run_equalIn_array w (k + 1) _ _ Try.underlying78 hi, hc]
  rw [eqItems_bytes k _ _ w _ (fun i hi => by rw [List.mem_range] at hi; rw [hx.len, hy.len]; exact ⟨hi, hi⟩)]
  congr 1
  by_cases h : xs = ys
  · subst h
    rw [decide_eq_true rfl, List.all_eq_true]
    intro i _
    exact beq_self_eq_true _
  · rw [decide_eq_false h, Bool.eq_false_iff]
    intro hall
    rw [List.all_eq_true] at hall
    apply h
    apply List.ext_getElem (by rw [hx.len, hy.len])
    intro i h1 h2
    have := hall i (by rw [List.mem_range, ← hx.len]; exact h1)
    rw [beq_iff_eq] at this
    simpa [List.getD, h1, h2] using this


def cnts (n : Int) : Bool := decide (1 ≤ n ∧ n ≤ 1099511627776)
set_option maxHeartbeats 1000000 in
theorem counts_any (n : Int) (w : World) : Calls Try.prog 92 #[.int .i64 n] w fun e w' => e = .returned (.bool (cnts n)) ∧ w = w' := by
  by_cases h1 : 1 ≤ n
  · by_cases h2 : n ≤ 1099511627776
    · have e : cnts n = true := decide_eq_true ⟨h1, h2⟩
      rw [e]
      go_enter Try.func92, Try.ntmps92
      go_wp2
      go_ret
      exact ⟨rfl, rfl⟩
    · have e : cnts n = false := decide_eq_false (by omega)
      rw [e]
      go_enter Try.func92, Try.ntmps92
      go_wp2
      go_ret
      exact ⟨rfl, rfl⟩
  · have e : cnts n = false := decide_eq_false (by omega)
    rw [e]
    go_enter Try.func92, Try.ntmps92
    go_wp2
    go_ret
    exact ⟨rfl, rfl⟩
/-- The numbers of a head. -/
def hdAt (xs : List Int) (off size : Nat) : Int := num ((xs.drop off).take size)
def canHead (life half first since : Int) : Bool := cnts life && (cnts first && (cnts since && decide (half ≤ 1)))

/-- What readHead answers. -/
def rdHead (xs : List Int) : Option (Int × Int × Int × Int) :=
  if canHead (hdAt xs 8 6) (hdAt xs 14 1) (hdAt xs 15 6) (hdAt xs 21 6) = true ∧ headB (hdAt xs 8 6) (hdAt xs 14 1) (hdAt xs 15 6) (hdAt xs 21 6) = xs then some (hdAt xs 8 6, hdAt xs 14 1, hdAt xs 15 6, hdAt xs 21 6) else none
def hdV : Option (Int × Int × Int × Int) → Value
  | some (life, half, first, since) => .tuple #[.agg #[.int .i64 life, .int .i64 half, .int .i64 first, .int .i64 since], .bool true]
  | none => .tuple #[.agg #[.int .i64 0, .int .i64 0, .int .i64 0, .int .i64 0], .bool false]
theorem getF {w : World} {cb g off : Nat} {xs : List Int} (h : Cur w cb g off (128 - off)) (hx : ArrS w g 78 xs) (hs : IsSec xs) (size : Nat) (h1 : off + size < 128) (h6 : size ≤ 6) (hne : cb ≠ g) :
    Calls Try.prog 91 #[.pointer (some ⟨cb, 0, none⟩), .int .i64 (size : Int)] w fun e w' => e = .returned (.int .i64 (hdAt xs off size)) ∧ Cur w' cb g (off + size) (128 - (off + size)) ∧ ArrS w' g 78 xs ∧ Only cb cb w w' := by
  refine (get_some h hx hs.byte (by rw [hs.len]; omega) size (by omega) h6 hne).mono ?_
  rintro e w' ⟨rfl, rfl⟩
  have c := h.set g (off + size) (128 - off - size)
  rw [Nat.sub_sub] at c ⊢
  exact ⟨rfl, c, (heap_setCell_other _ _ _ _ (Ne.symm hne)).trans hx, Only.set cb cb w 0 _⟩
theorem load80 {w : World} {b : Nat} {v0 v1 v2 v3 : Value} (hx : w.heap[b]? = some (.cells #[v0, v1, v2, v3] 80 (0, 0))) : (loadVar 80 ⟨b, 0, none⟩).run Try.prog w = .ok (.agg #[v0, v1, v2, v3]) w := by
  have hr := run_loadCells_list (P := Try.prog) w ⟨b, 0, none⟩ [v0, v1, v2, v3] (fun i v hi => by
    have hadd : (⟨b, 0, none⟩ : Addr).add i = ⟨b, i, none⟩ := by unfold Addr.add; split <;> simp_all
    rw [hadd, cell_of_row w b i _ _ _ hx]
    simpa using hi)
  have hagg : (isAgg 80).run Try.prog w = .ok true w := by simp [isAgg, run_underlying Try.underlying80]
  have hr' : (loadCells ⟨b, 0, none⟩ 4).run Try.prog w = .ok #[v0, v1, v2, v3] w := hr
  simp [loadVar, hagg, hr']
theorem results_two {P : Program} {fn : Func} {tmps : Array Value} {a t b : Nat} {ad : Addr} {w : World} {v x : Value} (hf : fn.results = #[.cell a t, .tmp b]) (ha : tmps[a]?.getD undef = .pointer (some ad)) (hl : (loadVar t ad).run P w = .ok v w) (hb : tmps[b]?.getD undef = x) : (results fn tmps).run P w = .ok (.tuple #[v, x]) w := by
  unfold results
  rw [hf]
  simp [ha, asAddr, hl, hb]
/-- What the operations yield. -/
def valRT (life half first since : Int) (xs : List Int) (j : Nat) : Value :=
  ([.bool true,
    .bool false,
    .bool false,
    .agg #[.int .i64 life, .int .i64 half, .int .i64 first, .int .i64 since],
    .agg (cellsB (headB life half first since)),
    .agg (cellsB xs),
    .bool (decide (¬ headB life half first since = xs)),
    .bool (decide (¬ headB life half first since = xs))] : List Value).getD j undef
theorem valRT_list {l : List Value} (hh : l.length = 8) : ∃ v0 v1 v2 v3 v4 v5 v6 v7, l = [v0, v1, v2, v3, v4, v5, v6, v7] := by
  obtain ⟨v0, t0, rfl, h0⟩ := cons_of hh
  obtain ⟨v1, t1, rfl, h1⟩ := cons_of h0
  obtain ⟨v2, t2, rfl, h2⟩ := cons_of h1
  obtain ⟨v3, t3, rfl, h3⟩ := cons_of h2
  obtain ⟨v4, t4, rfl, h4⟩ := cons_of h3
  obtain ⟨v5, t5, rfl, h5⟩ := cons_of h4
  obtain ⟨v6, t6, rfl, h6⟩ := cons_of h5
  obtain ⟨v7, t7, rfl, h7⟩ := cons_of h6
  obtain rfl := List.eq_nil_of_length_eq_zero h7
  exact ⟨_, _, _, _, _, _, _, _, rfl⟩
/-- What the operations yield. -/
def valRF (_ : Unit) (j : Nat) : Value :=
  ([.bool false,
    .bool true,
    .bool true,
    undef,
    undef,
    undef,
    undef,
    .bool true] : List Value).getD j undef
theorem valRF_list {l : List Value} (hh : l.length = 8) : ∃ v0 v1 v2 v3 v4 v5 v6 v7, l = [v0, v1, v2, v3, v4, v5, v6, v7] := by
  obtain ⟨v0, t0, rfl, h0⟩ := cons_of hh
  obtain ⟨v1, t1, rfl, h1⟩ := cons_of h0
  obtain ⟨v2, t2, rfl, h2⟩ := cons_of h1
  obtain ⟨v3, t3, rfl, h3⟩ := cons_of h2
  obtain ⟨v4, t4, rfl, h4⟩ := cons_of h3
  obtain ⟨v5, t5, rfl, h5⟩ := cons_of h4
  obtain ⟨v6, t6, rfl, h6⟩ := cons_of h5
  obtain ⟨v7, t7, rfl, h7⟩ := cons_of h6
  obtain rfl := List.eq_nil_of_length_eq_zero h7
  exact ⟨_, _, _, _, _, _, _, _, rfl⟩
set_option maxHeartbeats 4000000 in
theorem readHead_any (w : World) {xs : List Int} (hs : IsSec xs) : Calls Try.prog 87 #[.agg (cellsB xs)] w fun e w' => e = .returned (hdV (rdHead xs)) ∧ Below w.heap.size w w' := by
  go_enter Try.func87, Try.ntmps87
  go_wp2_with fail
  have hb0 : Below w.heap.size w (((w.alloc (.cells (cellsB xs) 78)).alloc (.cells #[.int .i64 0, .int .i64 0, .int .i64 0, .int .i64 0] 80)).alloc (.cells #[.slice (some ⟨w.heap.size, 8, none⟩) 120 120] 120)) :=
    (((Below.refl _ w).alloc (Nat.le_refl _) _).alloc (by simp) _).alloc (by simp; omega) _
  obtain ⟨W, hW⟩ : ∃ W, ((w.alloc (.cells (cellsB xs) 78)).alloc (.cells #[.int .i64 0, .int .i64 0, .int .i64 0, .int .i64 0] 80)).alloc (.cells #[.slice (some ⟨w.heap.size, 8, none⟩) 120 120] 120) = W := ⟨_, rfl⟩
  have b0 : ArrS W w.heap.size 78 xs := by
    rw [← hW]
    exact (Below.heap_alloc _ _ _ (by simp <;> omega)).trans ((Below.heap_alloc _ _ _ (by simp <;> omega)).trans (heap_alloc_new _ _))
  have b1 : W.heap[w.heap.size + 1]? = some (.cells #[.int .i64 0, .int .i64 0, .int .i64 0, .int .i64 0] 80 (0, 0)) := by
    rw [← hW]
    exact (Below.heap_alloc _ _ _ (by simp <;> omega)).trans (by have := heap_alloc_new (w.alloc (.cells (cellsB xs) 78)) (.cells #[.int .i64 0, .int .i64 0, .int .i64 0, .int .i64 0] 80); simpa using this)
  have b2 : Cur W (w.heap.size + 1 + 1) w.heap.size 8 (128 - 8) := by
    rw [← hW]
    have := heap_alloc_new ((w.alloc (.cells (cellsB xs) 78)).alloc (.cells #[.int .i64 0, .int .i64 0, .int .i64 0, .int .i64 0] 80)) (.cells #[.slice (some ⟨w.heap.size, 8, none⟩) 120 120] 120)
    simpa [Cur] using this
  rw [hW] at hb0 ⊢
  clear hW
  obtain ⟨xb, hxb⟩ : ∃ b, w.heap.size = b := ⟨_, rfl⟩
  obtain ⟨rb, hrb⟩ : ∃ b, w.heap.size + 1 = b := ⟨_, rfl⟩
  obtain ⟨cb, hcb⟩ : ∃ b, w.heap.size + 1 + 1 = b := ⟨_, rfl⟩
  have n1 : xb ≠ rb ∧ xb ≠ cb ∧ cb ≠ rb := by omega
  have n2 : w.heap.size ≤ xb ∧ w.heap.size ≤ rb ∧ w.heap.size ≤ cb := by omega
  rw [hcb, hxb] at b2
  rw [hrb] at b1
  rw [hxb] at b0
  have e0 : (Value.pointer (some ⟨w.heap.size, 0, none⟩)) = .pointer (some ⟨xb, 0, none⟩) := by rw [hxb]
  have e1 : (Value.slice (some ⟨w.heap.size, 8, none⟩) 120 120) = .slice (some ⟨xb, 8, none⟩) 120 120 := by rw [hxb]
  rw [hcb, hrb, e0, e1]
  clear hcb hrb e0 e1
  refine (getF b2 b0 hs 6 (by decide) (by decide) (by omega)).mono ?_
  rintro e W1 ⟨rfl, C1, A1, O1⟩
  go_wp2_with fail
  refine (getF C1 A1 hs 1 (by decide) (by decide) (by omega)).mono ?_
  rintro e W2 ⟨rfl, C2, A2, P2⟩
  have O2 := O1.trans P2
  go_wp2_with fail
  refine (getF C2 A2 hs 6 (by decide) (by decide) (by omega)).mono ?_
  rintro e W3 ⟨rfl, C3, A3, P3⟩
  have O3 := O2.trans P3
  go_wp2_with fail
  refine (getF C3 A3 hs 6 (by decide) (by decide) (by omega)).mono ?_
  rintro e W4 ⟨rfl, C4, A4, P4⟩
  have O4 := O3.trans P4
  clear C1 A1 O1 C2 A2 P2 O2 C3 A3 P3 O3 C4 P4
  have hr4 := (O4.block rb (by omega) (by omega)).trans b1
  have hB4 := hb0.trans (O4.below n2.2.2 n2.2.2)
  have hrd : rdHead xs = if canHead (hdAt xs 8 6) (hdAt xs 14 1) (hdAt xs 15 6) (hdAt xs 21 6) = true ∧ headB (hdAt xs 8 6) (hdAt xs 14 1) (hdAt xs 15 6) (hdAt xs 21 6) = xs then some (hdAt xs 8 6, hdAt xs 14 1, hdAt xs 15 6, hdAt xs 21 6) else none := rfl
  simp only [Nat.reduceAdd] at *
  generalize hdAt xs 8 6 = life at *
  generalize hdAt xs 14 1 = half at *
  generalize hdAt xs 15 6 = first at *
  generalize hdAt xs 21 6 = since at *
  have h5 := heap_alloc_new W4 (.cells #[.int .i64 life, .int .i64 half, .int .i64 first, .int .i64 since] 80)
  have hB5 := hB4.alloc hB4.size (.cells #[.int .i64 life, .int .i64 half, .int .i64 first, .int .i64 since] 80)
  have A5 : ArrS (W4.alloc (.cells #[.int .i64 life, .int .i64 half, .int .i64 first, .int .i64 since] 80)) xb 78 xs := (Below.heap_alloc _ _ _ (lt_of_block A4)).trans A4
  have r5 : (W4.alloc (.cells #[.int .i64 life, .int .i64 half, .int .i64 first, .int .i64 since] 80)).heap[rb]? = _ := (Below.heap_alloc _ _ _ (lt_of_block hr4)).trans hr4
  go_upto_region 3 with fail
  generalize W4.alloc (.cells #[.int .i64 life, .int .i64 half, .int .i64 first, .int .i64 since] 80) = W5 at *
  generalize W4.heap.size = hb at *
  clear A4 hr4 hB4 O4 b0 b1 b2
  clear hxb
  have hcells : ∀ w', Below W5.heap.size W5 w' → w'.cell? ⟨hb, 0, none⟩ = some (.int .i64 life) ∧ w'.cell? ⟨hb, 1, none⟩ = some (.int .i64 half) ∧ w'.cell? ⟨hb, 2, none⟩ = some (.int .i64 first) ∧ w'.cell? ⟨hb, 3, none⟩ = some (.int .i64 since) := fun w' O => by
    have e := (O.block hb (lt_of_block h5)).trans h5
    refine ⟨?_, ?_, ?_, ?_⟩ <;> (rw [cell_of_row _ hb _ _ _ _ e]; rfl)
  have hxs : ∀ w', Below W5.heap.size W5 w' → ArrS w' xb 78 xs := fun w' O => (O.block xb (lt_of_block A5)).trans A5
  obtain ⟨q0, q1, q2, q3⟩ := hcells W5 (Below.refl _ _)
  go_cut [6] from 13 to 30 (fun v wx => v = .bool (canHead life half first since) ∧ wx = W5)
  case first =>
    go_wp2_with fail
    refine (counts_any life W5).mono ?_
    rintro e W6 ⟨rfl, rfl⟩
    cases hc1 : cnts life
    · go_wp2
      go_meet
      case rel => exact ⟨by simp [canHead, hc1], rfl⟩
    · go_wp2_with fail
      refine (counts_any first W5).mono ?_
      rintro e W6 ⟨rfl, rfl⟩
      cases hc2 : cnts first
      · go_wp2
        go_meet
        case rel => exact ⟨by simp [canHead, hc2], rfl⟩
      · go_wp2_with fail
        refine (counts_any since W5).mono ?_
        rintro e W6 ⟨rfl, rfl⟩
        cases hc3 : cnts since
        · go_wp2
          go_meet
          case rel => exact ⟨by simp [canHead, hc3], rfl⟩
        · by_cases hh : half ≤ 1
          · go_wp2
            go_meet
            case rel => exact ⟨by simp [canHead, hc1, hc2, hc3, hh], rfl⟩
          · go_wp2
            go_meet
            case rel => exact ⟨by simp [canHead, hc1, hc2, hc3], rfl⟩
  case rest =>
    obtain ⟨rfl, rfl⟩ := hcut
    clear q0 q1 q2 q3
    cases hcan : canHead life half first since
    · have hnone : rdHead xs = none := by rw [hrd, if_neg (by rw [hcan]; simp)]
      clear hrd hcan
      go_upto_region 4 with fail
      refine abstract_act fun A hA => ?_
      have s6 : A.tmps[6]? = some (.bool false) := by rw [hA]; rfl
      have hsz : A.tmps.size = 41 := by rw [hA]; rfl
      refine wp_region_inv3' (fun A D a w' => ∃ (l : List Value), a = putAll A 31 l ∧ l.length = 8 ∧ Below wc.heap.size wc w' ∧ (∀ j, j < 8 → D j → l[j]? = some (valRF () j))) (by kernel_rfl) (by kernel_rfl) ?mono ?start ?step ?done
      case mono =>
        rintro D D' a w' hD ⟨l, ha, hlen, hB, hl⟩
        exact ⟨l, ha, hlen, hB, fun j hj h => hl j hj ((hD j).2 h)⟩
      case start => exact ⟨_, (putAll_start A 31 8 (by omega)).1, (putAll_start A 31 8 (by omega)).2, (Below.refl _ _).drew, fun _ _ h => h.elim⟩
      case step =>
        clear hA
        intro i o ho D a w' hI hn hcl hd
        obtain ⟨l, ha, hlen, hB, hl⟩ := hI
        match i, ho with
        | 0, ho =>
          cases Option.some.inj ho
          refine .inl ⟨rfl, ?_⟩
          have ev : a.tmps[6]? = some (.bool false) := by rw [ha, putAll_low A 31 6 l (by omega) (by decide)]; exact s6
          refine wp_value (w' := w') (v := .bool false) (by simp [execOp, ev, go_sem]) ?_
          exact ⟨_, by rw [ha]; exact putAll_put A 31 0 l _ (by omega) (by omega), by rw [List.length_set]; exact hlen, hB, set_known hlen (by decide) hl⟩
        | 1, ho =>
          cases Option.some.inj ho
          refine .inl ⟨rfl, ?_⟩
          have ev : a.tmps[31]? = some (.bool false) := known_at ha hsz hlen hl 0 (by decide) (hd ⟨0, .data⟩ (by simp) rfl)
          refine wp_value (w' := w') (v := .bool true) (by simp [execOp, ev, go_sem]) ?_
          exact ⟨_, by rw [ha]; exact putAll_put A 31 1 l _ (by omega) (by omega), by rw [List.length_set]; exact hlen, hB, set_known hlen (by decide) hl⟩
        | 2, ho =>
          cases Option.some.inj ho
          refine .inl ⟨rfl, ?_⟩
          have ev : a.tmps[32]? = some (.bool true) := known_at ha hsz hlen hl 1 (by decide) (hd ⟨1, .data⟩ (by simp) rfl)
          refine wp_value (w' := w') (v := .bool true) (by simp [execOp, ev, go_sem]) ?_
          exact ⟨_, by rw [ha]; exact putAll_put A 31 2 l _ (by omega) (by omega), by rw [List.length_set]; exact hlen, hB, set_known hlen (by decide) hl⟩
        | 3, ho =>
          cases Option.some.inj ho
          refine .inr ⟨wanted_not (k := 33) rfl rfl rfl (known_at ha hsz hlen hl 2 (by decide) (hd ⟨2, .guard⟩ (by simp) rfl)) (by simp [valRF, undef]), ?_⟩
          exact ⟨_, by rw [ha]; exact putAll_put A 31 3 l _ (by omega) (by omega), by rw [List.length_set]; exact hlen, hB, set_known hlen (by decide) hl⟩
        | 4, ho =>
          cases Option.some.inj ho
          refine .inr ⟨wanted_not (k := 33) rfl rfl rfl (known_at ha hsz hlen hl 2 (by decide) (hd ⟨2, .guard⟩ (by simp) rfl)) (by simp [valRF, undef]), ?_⟩
          exact ⟨_, by rw [ha]; exact putAll_put A 31 4 l _ (by omega) (by omega), by rw [List.length_set]; exact hlen, hB, set_known hlen (by decide) hl⟩
        | 5, ho =>
          cases Option.some.inj ho
          refine .inr ⟨wanted_not (k := 33) rfl rfl rfl (known_at ha hsz hlen hl 2 (by decide) (hd ⟨2, .guard⟩ (by simp) rfl)) (by simp [valRF, undef]), ?_⟩
          exact ⟨_, by rw [ha]; exact putAll_put A 31 5 l _ (by omega) (by omega), by rw [List.length_set]; exact hlen, hB, set_known hlen (by decide) hl⟩
        | 6, ho =>
          cases Option.some.inj ho
          refine .inr ⟨wanted_not (k := 33) rfl rfl rfl (known_at ha hsz hlen hl 2 (by decide) (hd ⟨2, .guard⟩ (by simp) rfl)) (by simp [valRF, undef]), ?_⟩
          exact ⟨_, by rw [ha]; exact putAll_put A 31 6 l _ (by omega) (by omega), by rw [List.length_set]; exact hlen, hB, set_known hlen (by decide) hl⟩
        | 7, ho =>
          cases Option.some.inj ho
          refine .inl ⟨rfl, ?_⟩
          have ev : a.tmps[33]? = some (.bool true) := known_at ha hsz hlen hl 2 (by decide) (hd ⟨2, .data⟩ (by simp) rfl)
          refine wp_value (w' := w') (v := .bool true) (by simp [execOp, ev, go_sem]) ?_
          exact ⟨_, by rw [ha]; exact putAll_put A 31 7 l _ (by omega) (by omega), by rw [List.length_set]; exact hlen, hB, set_known hlen (by decide) hl⟩
        | i + 8, ho => simp at ho
      case done =>
        rintro D a w' ⟨l, ha, hlen, hB, hl⟩ hall
        obtain ⟨v0, v1, v2, v3, v4, v5, v6, v7, rfl⟩ := valRF_list hlen
        have hz := hl 7 (by decide) (hall 7 (by decide))
        simp only [List.getElem?_cons_succ, List.getElem?_cons_zero, Option.some.injEq] at hz
        have hz' : v7 = .bool true := hz
        subst hz'
        clear hl hall
        clear s6 hsz hlen
        subst hA
        have hfr : a = _ := ha
        rw [hfr]
        clear hfr ha
        simp only [putAll, List.take_succ_cons, List.take_zero, List.drop_succ_cons, List.drop_zero, List.cons_append, List.nil_append, List.length_cons, List.length_nil]
        have r6 := (hB.block rb (lt_of_block r5)).trans r5
        have hB6 := below_size hB5 (Nat.le_refl _) hB
        clear hcells hxs hB5 A5 h5 r5 hB
        have z1 : (Try.prog.info? 80).map (·.size) = some (#[Value.int .i64 0, .int .i64 0, .int .i64 0, .int .i64 0] : Array Value).size := by kernel_rfl
        have z2 : (#[Value.int .i64 0, .int .i64 0, .int .i64 0, .int .i64 0] : Array Value).size = (#[Value.int .i64 0, .int .i64 0, .int .i64 0, .int .i64 0] : Array Value).size := rfl
        have z3 : (#[Value.int .i64 0, .int .i64 0, .int .i64 0, .int .i64 0] : Array Value).all (·.oneCell') = true := by simp [Value.oneCell']
        have r7 : (w'.setRow rb #[.int .i64 0, .int .i64 0, .int .i64 0, .int .i64 0]).heap[rb]? = _ := setRow_heap _ _ _ _ _ _ r6
        have hB7 := below_setRow hB6 n2.2.1 #[.int .i64 0, .int .i64 0, .int .i64 0, .int .i64 0]
        go_wp2_with (first | refine wpList_store_row rfl 80 _ _ rfl rb _ rfl rfl 80 _ r6 z1 z2 z3 ?_)
        exact bodyPost_ret (v := .tuple #[.agg #[.int .i64 0, .int .i64 0, .int .i64 0, .int .i64 0], .bool false]) (results_two Try.results87 rfl (load80 r7) rfl) rfl ⟨rfl, hB7⟩
    · have hHS := headB_sec life half first since
      go_upto_region 4 with fail
      refine abstract_act fun A hA => ?_
      have s6 : A.tmps[6]? = some (.bool true) := by rw [hA]; rfl
      have s5 : A.tmps[5]? = some (.pointer (some ⟨hb, 0, none⟩)) := by rw [hA]; rfl
      have s1 : A.tmps[1]? = some (.pointer (some ⟨xb, 0, none⟩)) := by rw [hA]; rfl
      have hsz : A.tmps.size = 41 := by rw [hA]; rfl
      refine wp_region_inv3' (fun A D a w' => ∃ (l : List Value), a = putAll A 31 l ∧ l.length = 8 ∧ Below wc.heap.size wc w' ∧ (∀ j, j < 8 → D j → l[j]? = some (valRT life half first since xs j))) (by kernel_rfl) (by kernel_rfl) ?mono ?start ?step ?done
      case mono =>
        rintro D D' a w' hD ⟨l, ha, hlen, hB, hl⟩
        exact ⟨l, ha, hlen, hB, fun j hj h => hl j hj ((hD j).2 h)⟩
      case start => exact ⟨_, (putAll_start A 31 8 (by omega)).1, (putAll_start A 31 8 (by omega)).2, (Below.refl _ _).drew, fun _ _ h => h.elim⟩
      case step =>
        clear hA
        intro i o ho D a w' hI hn hcl hd
        obtain ⟨l, ha, hlen, hB, hl⟩ := hI
        match i, ho with
        | 0, ho =>
          cases Option.some.inj ho
          refine .inl ⟨rfl, ?_⟩
          have ev : a.tmps[6]? = some (.bool true) := by rw [ha, putAll_low A 31 6 l (by omega) (by decide)]; exact s6
          refine wp_value (w' := w') (v := .bool true) (by simp [execOp, ev, go_sem]) ?_
          exact ⟨_, by rw [ha]; exact putAll_put A 31 0 l _ (by omega) (by omega), by rw [List.length_set]; exact hlen, hB, set_known hlen (by decide) hl⟩
        | 1, ho =>
          cases Option.some.inj ho
          refine .inl ⟨rfl, ?_⟩
          have ev : a.tmps[31]? = some (.bool true) := known_at ha hsz hlen hl 0 (by decide) (hd ⟨0, .data⟩ (by simp) rfl)
          refine wp_value (w' := w') (v := .bool false) (by simp [execOp, ev, go_sem]) ?_
          exact ⟨_, by rw [ha]; exact putAll_put A 31 1 l _ (by omega) (by omega), by rw [List.length_set]; exact hlen, hB, set_known hlen (by decide) hl⟩
        | 2, ho =>
          cases Option.some.inj ho
          refine .inl ⟨rfl, ?_⟩
          have ev : a.tmps[32]? = some (.bool false) := known_at ha hsz hlen hl 1 (by decide) (hd ⟨1, .data⟩ (by simp) rfl)
          refine wp_value (w' := w') (v := .bool false) (by simp [execOp, ev, go_sem]) ?_
          exact ⟨_, by rw [ha]; exact putAll_put A 31 2 l _ (by omega) (by omega), by rw [List.length_set]; exact hlen, hB, set_known hlen (by decide) hl⟩
        | 3, ho =>
          cases Option.some.inj ho
          refine .inl ⟨wanted_of (k := 33) rfl rfl rfl (known_at ha hsz hlen hl 2 (by decide) (hd ⟨2, .guard⟩ (by simp) rfl)), ?_⟩
          have ev : a.tmps[5]? = some (.pointer (some ⟨hb, 0, none⟩)) := by rw [ha, putAll_low A 31 5 l (by omega) (by decide)]; exact s5
          have hc := hcells w' hB
          refine wp_value (w' := w') (v := .agg #[.int .i64 life, .int .i64 half, .int .i64 first, .int .i64 since]) (by simp [execOp, ev, go_sem, hc.1, hc.2.1, hc.2.2.1, hc.2.2.2]) ?_
          exact ⟨_, by rw [ha]; exact putAll_put A 31 3 l _ (by omega) (by omega), by rw [List.length_set]; exact hlen, hB, set_known hlen (by decide) hl⟩
        | 4, ho =>
          cases Option.some.inj ho
          refine .inl ⟨wanted_of (k := 33) rfl rfl rfl (known_at ha hsz hlen hl 2 (by decide) (hd ⟨2, .guard⟩ (by simp) rfl)), ?_⟩
          have ev : a.tmps[34]? = some (.agg #[.int .i64 life, .int .i64 half, .int .i64 first, .int .i64 since]) := known_at ha hsz hlen hl 3 (by decide) (hd ⟨3, .data⟩ (by simp) rfl)
          refine wp_enter (f := 46) (args := #[.agg #[.int .i64 life, .int .i64 half, .int .i64 first, .int .i64 since]]) (by simp [execOp, ev, go_sem]) ?_
          refine (head_sector w' life half first since).mono ?_
          rintro e w6 ⟨rfl, HB⟩
          refine ⟨_, rfl, ?_⟩
          exact ⟨_, by rw [ha]; exact putAll_put A 31 4 l _ (by omega) (by omega), by rw [List.length_set]; exact hlen, below_size hB (Nat.le_refl _) HB, set_known hlen (by decide) hl⟩
        | 5, ho =>
          cases Option.some.inj ho
          refine .inl ⟨wanted_of (k := 33) rfl rfl rfl (known_at ha hsz hlen hl 2 (by decide) (hd ⟨2, .guard⟩ (by simp) rfl)), ?_⟩
          have ev : a.tmps[1]? = some (.pointer (some ⟨xb, 0, none⟩)) := by rw [ha, putAll_low A 31 1 l (by omega) (by decide)]; exact s1
          refine wp_value (w' := w') (v := .agg (cellsB xs)) (run_load78 (eval_some ev) rfl (hxs w' hB) hs.len) ?_
          exact ⟨_, by rw [ha]; exact putAll_put A 31 5 l _ (by omega) (by omega), by rw [List.length_set]; exact hlen, hB, set_known hlen (by decide) hl⟩
        | 6, ho =>
          cases Option.some.inj ho
          refine .inl ⟨wanted_of (k := 33) rfl rfl rfl (known_at ha hsz hlen hl 2 (by decide) (hd ⟨2, .guard⟩ (by simp) rfl)), ?_⟩
          have ev : a.tmps[35]? = some (.agg (cellsB (headB life half first since))) := known_at ha hsz hlen hl 4 (by decide) (hd ⟨4, .data⟩ (by simp) rfl)
          have ev' : a.tmps[36]? = some (.agg (cellsB xs)) := known_at ha hsz hlen hl 5 (by decide) (hd ⟨5, .data⟩ (by simp) rfl)
          have hc := equal_78 10000 rfl hHS hs w'
          refine wp_value (w' := w') (v := .bool (decide (¬ headB life half first since = xs))) (by simp [execOp, ev, ev', go_sem, hc]) ?_
          exact ⟨_, by rw [ha]; exact putAll_put A 31 6 l _ (by omega) (by omega), by rw [List.length_set]; exact hlen, hB, set_known hlen (by decide) hl⟩
        | 7, ho =>
          cases Option.some.inj ho
          refine .inl ⟨rfl, ?_⟩
          have ev : a.tmps[33]? = some (.bool false) := known_at ha hsz hlen hl 2 (by decide) (hd ⟨2, .data⟩ (by simp) rfl)
          have ev' : a.tmps[37]? = some (.bool (decide (¬ headB life half first since = xs))) := known_at ha hsz hlen hl 6 (by decide) (hd ⟨6, .data⟩ (by simp) rfl)
          refine wp_value (w' := w') (v := .bool (decide (¬ headB life half first since = xs))) (by simp [execOp, ev, ev', go_sem]) ?_
          exact ⟨_, by rw [ha]; exact putAll_put A 31 7 l _ (by omega) (by omega), by rw [List.length_set]; exact hlen, hB, set_known hlen (by decide) hl⟩
        | i + 8, ho => simp at ho
      case done =>
        rintro D a w' ⟨l, ha, hlen, hB, hl⟩ hall
        obtain ⟨v0, v1, v2, v3, v4, v5, v6, v7, rfl⟩ := valRT_list hlen
        have hz := hl 7 (by decide) (hall 7 (by decide))
        simp only [List.getElem?_cons_succ, List.getElem?_cons_zero, Option.some.injEq] at hz
        have hz' : v7 = .bool (decide (¬ headB life half first since = xs)) := hz
        subst hz'
        clear hl hall
        clear s6 s5 s1 hsz hlen
        subst hA
        have hfr : a = _ := ha
        rw [hfr]
        clear hfr ha
        simp only [putAll, List.take_succ_cons, List.take_zero, List.drop_succ_cons, List.drop_zero, List.cons_append, List.nil_append, List.length_cons, List.length_nil]
        obtain ⟨q0, q1, q2, q3⟩ := hcells w' hB
        have h6 := (hB.block hb (lt_of_block h5)).trans h5
        have r6 := (hB.block rb (lt_of_block r5)).trans r5
        have hB6 := below_size hB5 (Nat.le_refl _) hB
        clear hcells hxs hB5 A5 h5 r5 hB
        by_cases hE : headB life half first since = xs
        · have hsome : rdHead xs = some (life, half, first, since) := by rw [hrd, if_pos ⟨hcan, hE⟩]
          have hd1 : decide (¬ headB life half first since = xs) = false := decide_eq_false (fun h => h hE)
          rw [hd1]
          clear hrd hcan hE hd1
          have z1 : (Try.prog.info? 80).map (·.size) = some (#[Value.int .i64 life, .int .i64 half, .int .i64 first, .int .i64 since] : Array Value).size := by kernel_rfl
          have z2 : (#[Value.int .i64 0, .int .i64 0, .int .i64 0, .int .i64 0] : Array Value).size = (#[Value.int .i64 life, .int .i64 half, .int .i64 first, .int .i64 since] : Array Value).size := rfl
          have z3 : (#[Value.int .i64 life, .int .i64 half, .int .i64 first, .int .i64 since] : Array Value).all (·.oneCell') = true := by simp [Value.oneCell']
          have r7 : (w'.setRow rb #[.int .i64 life, .int .i64 half, .int .i64 first, .int .i64 since]).heap[rb]? = _ := setRow_heap _ _ _ _ _ _ r6
          have hB7 := below_setRow hB6 n2.2.1 #[.int .i64 life, .int .i64 half, .int .i64 first, .int .i64 since]
          go_wp2_with (first | refine wpList_store_row rfl 80 _ _ rfl rb _ rfl rfl 80 _ r6 z1 z2 z3 ?_)
          exact bodyPost_ret (v := .tuple #[.agg #[.int .i64 life, .int .i64 half, .int .i64 first, .int .i64 since], .bool true]) (results_two Try.results87 rfl (load80 r7) rfl) rfl ⟨by rw [hsome]; rfl, hB7⟩
        · have hnone : rdHead xs = none := by rw [hrd, if_neg (fun h => hE h.2)]
          have hd1 : decide (¬ headB life half first since = xs) = true := decide_eq_true hE
          rw [hd1]
          clear hrd hcan hE hd1
          have z1 : (Try.prog.info? 80).map (·.size) = some (#[Value.int .i64 0, .int .i64 0, .int .i64 0, .int .i64 0] : Array Value).size := by kernel_rfl
          have z2 : (#[Value.int .i64 0, .int .i64 0, .int .i64 0, .int .i64 0] : Array Value).size = (#[Value.int .i64 0, .int .i64 0, .int .i64 0, .int .i64 0] : Array Value).size := rfl
          have z3 : (#[Value.int .i64 0, .int .i64 0, .int .i64 0, .int .i64 0] : Array Value).all (·.oneCell') = true := by simp [Value.oneCell']
          have r7 : (w'.setRow rb #[.int .i64 0, .int .i64 0, .int .i64 0, .int .i64 0]).heap[rb]? = _ := setRow_heap _ _ _ _ _ _ r6
          have hB7 := below_setRow hB6 n2.2.1 #[.int .i64 0, .int .i64 0, .int .i64 0, .int .i64 0]
          go_wp2_with (first | refine wpList_store_row rfl 80 _ _ rfl rb _ rfl rfl 80 _ r6 z1 z2 z3 ?_)
          exact bodyPost_ret (v := .tuple #[.agg #[.int .i64 0, .int .i64 0, .int .i64 0, .int .i64 0], .bool false]) (results_two Try.results87 rfl (load80 r7) rfl) rfl ⟨rfl, hB7⟩
end Go.Proofs.Ytofgphiamllmdab
