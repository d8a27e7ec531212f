/- All: the rows of what comes out are new. -/
import Derived.Test.YtajdelinfkodbaaKno
import Derived.Test.YtajdelinfkodbaaGvd
namespace Go.Proofs.Ytajdelinfkodbaa
open Go.RowKit Go.Shelf
attribute [local go_sem] Oper.semAt_some
set_option maxRecDepth 100000
theorem app_chPE (w : World) (ty : Nat) {base : Nat} {v : Value} {xs : List Ch} (h : OwnE w base 51 v xs) (y : Cs) (nb : Nat) (hc : ∀ j u, y.cells[j]? = some u → w.cell? ⟨nb, j, none⟩ = some u) (hy : ElB base w y) (hyo : -9223372036854775808 ≤ y.x.oop ∧ y.x.oop ≤ 9223372036854775807) (hlen : xs.length ≤ 4096) (hbase : base ≤ w.heap.size) :
    ∃ a' n' c' w', (Builtin.append_ #[36, 36] ty #[v, .slice (some ⟨nb, 0, none⟩) 1 1]).run Try.prog w = .ok (.slice a' n' c') w' ∧ OwnE w' base 51 (.slice a' n' c') (xs ++ [y.x]) ∧ w.grownBy w' v.ownBlock ∧ (∀ g, (Value.slice a' n' c').ownBlock = some g → v.ownBlock = some g ∨ w.heap.size ≤ g) := by
  obtain ⟨i, hi, hz, hs, hb⟩ := info_parts Try.info51
  obtain ⟨ss, q1, rfl, h3, h4⟩ := h
  rw [List.length_map] at hlen
  have hnews : ∀ j u, (flatC [y])[j]? = some u → w.cell? ((⟨nb, 0, none⟩ : Addr).add j) = some u := cell_at rfl hc
  have h1c : ∀ u ∈ flatC [y], u.oneCell' = true := flatC_one _
  obtain ⟨v', w', hr, o1, o2, _⟩ := run_append_own (P := Try.prog) w base 36 ty 51 i _ 5 72 Try.underlying36 hi hz hs hb rfl (by decide) v ss.length _ q1 ⟨nb, 0, none⟩ 1 1 (flatC [y]) rfl hnews h1c (by unfold maxLen; omega) (by omega) hbase
  rw [← flatC_app] at o1
  have o1' : w'.ownsRow base 51 5 v' (ss ++ [y]).length (flatC (ss ++ [y])) := by rw [List.length_append]; exact o1
  obtain ⟨a', n', c', rfl⟩ : ∃ a n c, v' = .slice a n c := by
    rcases o1'.2 with ⟨rfl, _⟩ | ⟨g, cap, cur, rfl, _⟩
    · exact ⟨_, _, _, rfl⟩
    · exact ⟨_, _, _, rfl⟩
  have hsame : ∀ s : Cs, ElB base w s → ElB base w' s := fun s hs => hs.same fun g cur e' he hg => o2.block g (lt_of_block hg) (fun k => own_ne q1 hg (by rcases he with rfl | rfl <;> omega) k.symm)
  refine ⟨a', n', c', w', hr, ⟨ss ++ [y], o1', by simp, fun s hs => ?_, fun z hz => ?_⟩, o2, ?_⟩
  · rcases List.mem_append.1 hs with hs | hs
    · exact hsame s (h3 s hs)
    · rw [List.mem_singleton] at hs
      subst hs
      exact hsame _ hy
  · rcases List.mem_append.1 hz with hz | hz
    · exact h4 z hz
    · rw [List.mem_singleton] at hz
      subst hz
      exact hyo
  · intro g hg
    rcases q1.2 with ⟨rfl, h0⟩ | ⟨g0, cap, cur, rfl, hbg, hgh, hnc, hcm, hcs, htake⟩
    · have hx0 : ss = [] := List.eq_nil_of_length_eq_zero h0
      subst hx0
      obtain ⟨v2, w2, hr2, h12, _, _⟩ := run_append_own (P := Try.prog) w w.heap.size 36 ty 51 i _ 5 72 Try.underlying36 hi hz hs hb rfl (by decide) (.slice none 0 0) 0 [] (World.ownsRow_nil _ _ _ _) ⟨nb, 0, none⟩ 1 1 (flatC [y]) rfl hnews h1c (by unfold maxLen; omega) (by omega) (Nat.le_refl _)
      rw [hr] at hr2
      injection hr2 with e1 e2
      subst e1
      exact .inr (own_block h12 hg).1
    · by_cases hroom : ss.length + 1 ≤ cap
      · obtain ⟨w2, hr2, _, _⟩ := run_append_own_spare (P := Try.prog) w base 36 ty 51 i 5 Try.underlying36 hi hs g0 ss.length cap _ q1 ⟨nb, 0, none⟩ 1 1 (flatC [y]) rfl hnews h1c hroom
        rw [hr] at hr2
        injection hr2 with e1 e2
        rw [e1] at hg
        exact .inl hg
      · have holds : ∀ j u, (flatC ss)[j]? = some u → w.cell? ((⟨g0, 0, none⟩ : Addr).add j) = some u := World.ownsRow.cells q1 (g := g0) rfl
        have hr2 := run_append_grow (P := Try.prog) w 36 ty 51 i _ Try.underlying36 hi hz ⟨g0, 0, none⟩ ss.length cap _ (by rw [hs]; exact q1.1) holds ⟨nb, 0, none⟩ 1 1 (flatC [y]) (by rw [hs]; rfl) hnews (by omega) (by omega) (growslice_fits (by omega) (by rw [hb]; omega))
        rw [hr] at hr2
        injection hr2 with e1 e2
        rw [e1] at hg
        simp [Value.ownBlock] at hg
        exact .inr (by omega)
theorem OwnE.cellsKept {w w' : World} {base : Nat} {v : Value} {xs : List Ch} (h : OwnE w base 51 v xs) (k : ∀ (g : Nat) (cur : Array Value) (e : Nat), w.heap[g]? = some (Obj.cells cur e (0, 0)) → w'.heap[g]? = w.heap[g]?) : OwnE w' base 51 v xs := by
  obtain ⟨ss, h1, h2, h3, h4⟩ := h
  refine ⟨ss, own_same h1 (fun g hg => ?_), h2, fun s hs => (h3 s hs).same (fun g cur e _ hh => k g cur e hh), h4⟩
  obtain ⟨_, cur, hh⟩ := own_block h1 hg
  exact k g cur _ hh
set_option maxHeartbeats 8000000 in
theorem all_anyE {w : World} {S R : Nat → Prop} {b : Nat} {t : Tab} (h : Tb w S R b t) : Calls Try.prog 26 #[.pointer (some ⟨b, 0, none⟩)] w (GivE w t.last (allL t)) := by
  refine (callsIn_wide (n := 20)).1 ?_
  obtain ⟨mv, hblk, hV⟩ := h.blk
  obtain ⟨y0, y1, y2⟩ := tab_cells hblk
  have hf2 : Fence.wide.fn 49 := trivial
  have bl := lt_of_block hblk
  have z1 : (w.alloc (.cells #[.int .i64 0, .slice none 0 0] 38)).cell? ⟨b, 1, none⟩ = some (.int .i64 t.last) := (box_below.cell (p := ⟨b, 1, none⟩) bl).trans y1
  refine callsIn_of_wp_marks Try.func26 rfl trivial ?_ rfl
  simp only [Try.ntmps26, List.size_toArray, List.length_cons, List.length_nil, Nat.reduceAdd, Nat.reduceSub, Array.replicate_succ, Array.replicate_zero, List.push_toArray, List.append_toArray, List.nil_append, List.cons_append]
  gi_wp2_with (first
      | (gi_at_call 49; refine (behind_any _ _ _ _).mono ?_; rintro e w' ⟨rfl, rfl⟩))
  obtain ⟨Wl, hWl⟩ : ∃ Wl, ((((w.alloc (.cells #[.int .i64 0, .slice none 0 0] 38)).alloc (.cells #[.int .i64 t.last, .slice none 0 0] 38)).alloc (.cells #[.pointer (some ⟨b, 0, none⟩)] 23)).alloc (.cells #[.int .i64 t.last] 2)) = Wl := ⟨_, rfl⟩
  have ER : Wl.heap[w.heap.size]? = some (recB 0 (.slice none 0 0) 38) := by rw [← hWl]; exact old1 (old1 (old1 (new1 _ _) _) _) _
  have E5 : Wl.heap[w.heap.size + 1]? = some (recB t.last (.slice none 0 0) 38) := by rw [← hWl]; exact old1 (old1 (new2 _ _ _) _) _
  have Et : Wl.heap[w.heap.size + 1 + 1]? = some (.cells #[.pointer (some ⟨b, 0, none⟩)] 23 (0, 0)) := by rw [← hWl]; exact old1 (new3 _ _ _ _) _
  have Ec : Wl.heap[w.heap.size + 1 + 1 + 1]? = some (.cells #[.int .i64 t.last] 2 (0, 0)) := by
    rw [← hWl]
    have := new1 (((w.alloc (.cells #[.int .i64 0, .slice none 0 0] 38)).alloc (.cells #[.int .i64 t.last, .slice none 0 0] 38)).alloc (.cells #[.pointer (some ⟨b, 0, none⟩)] 23)) (.cells #[.int .i64 t.last] 2)
    simpa using this
  have BL : Below w.heap.size w Wl := by rw [← hWl]; exact below_size (below_size (below_size box_below box_below.size box_below) (by simp; omega) box_below) (by simp; omega) box_below
  rw [hWl]
  clear hWl z1 hV hblk y0 y1 y2 bl
  have n0 : w.heap.size ≤ w.heap.size + 1 := by omega
  have n1 : w.heap.size ≤ w.heap.size + 1 + 1 := by omega
  have n2 : w.heap.size ≤ w.heap.size + 1 + 1 + 1 := by omega
  have d1 : w.heap.size + 1 + 1 ≠ w.heap.size + 1 := by omega
  have d2 : w.heap.size + 1 + 1 + 1 ≠ w.heap.size + 1 := by omega
  have d3 : w.heap.size ≠ w.heap.size + 1 := by omega
  generalize w.heap.size + 1 + 1 + 1 = bc at *
  generalize w.heap.size + 1 + 1 = bt at *
  generalize w.heap.size + 1 = br at *
  obtain ⟨bR, hbR⟩ : ∃ q, q = w.heap.size := ⟨_, rfl⟩
  rw [← hbR] at ER d3 ⊢
  have nR : w.heap.size ≤ bR := Nat.le_of_eq hbR.symm
  clear hbR
  have lR := lt_of_block' ER
  have l5 := lt_of_block' E5
  have lt := lt_of_block Et
  have lc := lt_of_block Ec
  have lw := BL.size
  have hI : OwnFrom Wl.heap.size (fun (pre : List (Int × Value)) W => (∃ v, W.heap[br]? = some (recB t.last v 38) ∧ OwnE W Wl.heap.size 51 v (pre.map (fun x => chK t t.last x.1))) ∧ Below w.heap.size w W ∧ W.heap[bt]? = some (.cells #[.pointer (some ⟨b, 0, none⟩)] 23 (0, 0)) ∧ W.heap[bc]? = some (.cells #[.int .i64 t.last] 2 (0, 0)) ∧ W.heap[bR]? = some (recB 0 (.slice none 0 0) 38) ∧ Wl.heap.size ≤ W.heap.size ∧ pre.length ≤ 4096) := by
    rintro pre A B row ⟨⟨v, q1, q2⟩, q3, q4, q5, qR, q6, q7⟩ hg hr
    have low : ∀ q, q < Wl.heap.size → B.heap[q]? = A.heap[q]? := fun q hq => hg.block q (by omega) (fun e => by have := (hr q e.symm).1; omega)
    refine ⟨⟨v, (low br l5).trans q1, q2.cellsKept (fun g cur e hh => ?_)⟩, ⟨hg.os.trans q3.os, hg.tape.trans q3.tape, hg.output.trans q3.output, Nat.le_trans q3.size hg.size, fun q hq => (low q (by omega)).trans (q3.block q hq)⟩, (low bt lt).trans q4, (low bc lc).trans q5, (low bR lR).trans qR, Nat.le_trans q6 hg.size, q7⟩
    refine hg.block g (lt_of_block hh) (fun e => ?_)
    obtain ⟨_, o, z1, z2⟩ := hr g e.symm
    rw [hh] at z1
    cases z1
    cases z2
  refine rangeW (F := Fence.wide) (n := 20) rfl (by decide) (gf := 64) (lb := #[.pointer (some ⟨bt, 0, none⟩), .pointer (some ⟨bc, 0, none⟩)]) rfl trivial (enters_of Try.func64 (by kernel_rfl) rfl) (beh_seq (n := 19) (by decide) (bt := bt) (bc := bc) h t.last) (fun _ => rfl)
    _ (fun _ _ _ => False) (fun W k => ∃ v, W.heap[br]? = some (recB t.last v 38) ∧ v.ownBlock = some k) hI (fun _ _ _ _ _ hs _ _ => hs) ?hV ?hO1 ?hO2 (fun pre x => okB_own t t.last _ pre x) ⟨⟨_, E5, ownE_nil _ _ _⟩, BL, Et, Ec, ER, Nat.le_refl _, by simp⟩
    (fun x a' W' => ∃ bo c0 v1 v2, x.2 = .agg #[.int .i64 c0, v1, v2] ∧ W'.heap[bo]? = some (objB c0 v1 v2) ∧ a' = { tmps := #[.pointer (some ⟨b, 0, none⟩), undef, .pointer (some ⟨bR, 0, none⟩), .pointer (some ⟨br, 0, none⟩), .int .i64 x.1, .pointer (some ⟨bo, 0, none⟩), .pointer (some ⟨b, 0, none⟩), .bool false, undef, .pointer (some ⟨b, 0, none⟩), .pointer (some ⟨b, 0, none⟩), .pointer (some ⟨b, 1, none⟩), .int .i64 t.last, .agg #[.int .i64 t.last, .slice none 0 0], .pointer (some ⟨b, 0, none⟩), .pointer (some ⟨b, 0, none⟩), .pointer (some ⟨b, 0, none⟩), .pointer (some ⟨b, 1, none⟩), .int .i64 t.last, .func (.func 64) #[] #[.pointer (some ⟨bt, 0, none⟩), .pointer (some ⟨bc, 0, none⟩)], .int .i64 x.1, x.2, undef, undef, undef, undef, undef, undef, undef, undef, undef, undef], defers := [] }) ?hAx ?assign ?body ?done ?stop
  case hV =>
    rintro pre W ⟨_, q3, q4, q5, _, q6, _⟩
    exact ⟨q3.size, fun g hg => q3.block g (h.sets.lt hg), by rw [cell_of_row W bt _ _ _ _ q4]; rfl, by rw [cell_of_row W bc _ _ _ _ q5]; rfl⟩
  case hO1 =>
    rintro pre W ⟨⟨v, q1, q2⟩, _⟩ k ⟨v', z1, z2⟩
    rw [q1] at z1
    cases z1
    obtain ⟨ss, o1, _⟩ := q2
    obtain ⟨_, cur, hh⟩ := own_block o1 z2
    exact lt_of_block hh
  case hO2 =>
    rintro pre W W2 row ⟨⟨v, q1, q2⟩, _, _, _, _, q6, _⟩ hg hr k ⟨v', z1, z2⟩
    refine ⟨v', ?_, z2⟩
    rw [← hg.block br (by omega) (fun e => by have := (hr br e.symm).1; omega)]
    exact z1
  case hAx =>
    rintro x a' _ A B row ⟨bo, c0, v1, v2, k1, k2, k3⟩ hg hr
    refine ⟨bo, c0, v1, v2, k1, (hg.block bo (lt_of_block' k2) (fun e => ?_)).trans k2, k3⟩
    obtain ⟨_, o, z1, z2⟩ := hr bo e.symm
    rw [k2] at z1
    cases z1
    cases z2
  case assign =>
    rintro l pre x W K hi ⟨o1, y, sa, sn, sc, ba, bn, bq, o2, o3, o4⟩ hK
    rw [o3]
    gi_wp2
    have B8 : Below W.heap.size W (W.alloc (.cells #[.int .i64 y.cls, .slice sa sn sc, .slice ba bn bq] 49)) := box_below
    have l8 : br < W.heap.size := by
      obtain ⟨_, _, _, _, _, q6, _⟩ := hi
      omega
    refine hK _ _ ⟨B8.size, fun k o _ hk _ => (B8.block k (lt_of_block' hk)).trans hk⟩ (KcO.of_below B8 ?_) (hI pre W _ none hi ⟨B8.os, B8.tape, B8.output, B8.size, fun q hq _ => B8.block q hq⟩ (fun r e => by cases e)) ⟨o1, y, sa, sn, sc, ba, bn, bq, o2, o3, o4.below B8⟩ ⟨W.heap.size, y.cls, .slice sa sn sc, .slice ba bn bq, o3, new1 _ _, by rw [o3]⟩
    rintro k ⟨v, z1, z2⟩
    exact .inl ⟨v, by rw [← B8.block br l8]; exact z1, z2⟩
  case stop =>
    rintro D c' pre W _ _ hx
    exact hx.elim
  case done =>
    rintro D xs W hD hxs ⟨⟨v, q1, q2⟩, q3, _, _, qR, q6, _⟩ hK
    have eL : xs.map (fun x => chK t t.last x.1) = allL t := by
      unfold allL
      rw [← hxs, List.map_map]
      rfl
    rw [eL] at q2
    obtain ⟨a, n, cap, rfl, hn⟩ := q2.shape'
    replace hn : Hid _ := hn
    obtain ⟨g0, g1⟩ := rec_cells q1
    have gf := rec_frozen qR
    obtain ⟨r0, r1⟩ := rec_cells qR
    gi_wp2
    have qR' : W.heap[bR]? = some (.cells #[.int .i64 0, .slice none 0 0] 38 (0, 0)) := qR
    have qR1 : (W.setCell ⟨bR, 0, none⟩ (.int .i64 t.last)).heap[bR]? = some (.cells #[.int .i64 t.last, .slice none 0 0] 38 (0, 0)) := rec_set0 qR t.last
    have OX := (q2.set (i := 0) (x := .int .i64 t.last) qR' (by decide) (by decide) (by decide)).set (i := 1) (x := .slice a n cap) qR1 (by decide) (by decide) (by decide)
    have BX := (q3.setCell (p := ⟨bR, 0, none⟩) nR (.int .i64 t.last)).setCell (p := ⟨bR, 1, none⟩) nR (.slice a n cap)
    have EX := rec_set01 qR t.last (.slice a n cap)
    have hKX : ((W.setCell ⟨bR, 0, none⟩ (.int .i64 t.last)).setCell ⟨bR, 1, none⟩ (.slice a n cap)).heap[D]? = some (.deferred (some [])) := by
      rw [heap_setCell_other _ ⟨bR, 1, none⟩ D _ (by show D ≠ bR; omega), heap_setCell_other _ ⟨bR, 0, none⟩ D _ (by show D ≠ bR; omega)]
      exact hK
    clear qR' qR1 q2 qR gf r0 r1 g0 g1 q1 q3 hK q6
    generalize (W.setCell ⟨bR, 0, none⟩ (.int .i64 t.last)).setCell ⟨bR, 1, none⟩ (.slice a n cap) = X at *
    refine ⟨by simp, .inl ⟨_, _, rfl, run_takeDeferred hKX, ?_⟩⟩
    refine ⟨_, results_cell Try.results26 rfl (load38 ((World.putObj_heap_other (by omega)).trans EX)), a, n, cap, rfl, ?_, ?_⟩
    · refine (OX.cellsKept (fun g cur e hh => World.putObj_heap_other (fun e' => ?_))).mono (by omega)
      subst e'
      rw [hKX] at hh
      cases hh
    · exact ⟨BX.os, BX.tape, BX.output, Nat.le_trans BX.size (grownBy_putObj' X D _).size, fun q hq => (World.putObj_heap_other (by omega)).trans (BX.block q hq)⟩
  case body =>
    rintro l pre x a' W ⟨⟨v, q1, q2⟩, q3, q4, q5, qR, q6, q7⟩ ⟨o1, y, sa, sn, sc, ba, bn, bq, o2, o3, o4⟩ ⟨bo, c0, v1, v2, k1, EO, rfl⟩
    obtain ⟨rfl, rfl, rfl⟩ : y.cls = c0 ∧ Value.slice sa sn sc = v1 ∧ Value.slice ba bn bq = v2 := by rw [o3] at k1; simpa using k1
    have hlen : (pre.map (fun x => chK t t.last x.1)).length + 1 ≤ 4096 := by
      have := (List.getElem?_eq_some_iff.1 o1).1
      have h2 : (liveK t t.last).length ≤ 4096 := by unfold liveK; exact Nat.le_trans (List.length_filter_le _ _) (by simp)
      rw [List.length_map]
      omega
    have hx64 : -9223372036854775808 ≤ x.1 ∧ x.1 ≤ 9223372036854775807 := by
      have hm := List.mem_of_getElem? o1
      unfold liveK at hm
      simp only [List.mem_filter, List.mem_map, List.mem_range] at hm
      obtain ⟨⟨i, hi, he⟩, _⟩ := hm
      omega
    obtain ⟨hsn, hbn⟩ : sn ≤ 8796093022208 ∧ bn ≤ 140737488355328 := by
      obtain ⟨m1, _, m3⟩ := atC_mem o2
      have h2 := (h.good.ver x.1 y m1).2.2
      simp only [okCh, m3, okO, Bool.false_eq_true, if_false, Bool.and_eq_true, decide_eq_true_eq] at h2
      have e1 := o4.v.size
      have e2 := o4.b.size
      omega
    have hck : Hid (chK t t.last x.1 = ⟨x.1, false, y.cls, y.vs, y.bs⟩) := by
      show chK t t.last x.1 = _
      unfold chK
      rw [o2]
    rw [o3]
    obtain ⟨a5, m5, cap5, rfl, hm5⟩ := q2.shape'
    replace hm5 : Hid _ := hm5
    have hge : ∀ g, (Value.slice a5 m5 cap5).ownBlock = some g → Wl.heap.size ≤ g ∧ ∃ cur, W.heap[g]? = some (.cells cur 51 (0, 0)) := fun g hg => by
      obtain ⟨ss, o, _⟩ := q2
      exact own_block o hg
    have hne : (Value.slice a5 m5 cap5).ownBlock = some br → False := fun e => by have := (hge br e).1; omega
    replace o1 : Hid _ := o1
    replace o2 : Hid _ := o2
    replace o3 : Hid _ := o3
    replace hlen : Hid _ := hlen
    gi_wp2_with fail
    refine wpIn_region_inv' (fun A D a w' => ∃ v22 v23 v24 v25 v26 v27 v28 v29 v30 ga gn gc qa qn qc nb a8 n8 c8, a = (((((((((A.put (some 22) v22).put (some 23) v23).put (some 24) v24).put (some 25) v25).put (some 26) v26).put (some 27) v27).put (some 28) v28).put (some 29) v29).put (some 30) v30) ∧ (D 9 ∨ w'.heap[br]? = W.heap[br]?) ∧ (D 7 ∨ Below W.heap.size W w') ∧ (D 0 → v22 = .pointer (some ⟨br, 1, none⟩)) ∧ (D 1 → v23 = .slice a5 m5 cap5) ∧ (D 2 → v24 = .int .i64 x.1) ∧ (D 3 → v25 = .agg #[.int .i64 y.cls, .slice sa sn sc, .slice ba bn bq]) ∧ (D 4 → v26 = .agg #[.int .i64 y.cls, .slice ga gn gc, .slice qa qn qc]) ∧ (D 5 → v27 = .agg #[.int .i64 x.1, .bool false, .int .i64 y.cls, .slice ga gn gc, .slice qa qn qc]) ∧ (D 6 → v28 = .slice (some ⟨nb, 0, none⟩) 1 1) ∧ (D 7 → v29 = .slice a8 n8 c8) ∧ (D 8 → v30 = .pointer (some ⟨br, 1, none⟩)) ∧ (D 9 → ∃ w6 : World, w6.heap[br]? = W.heap[br]? ∧ w' = w6.setCell ⟨br, 1, none⟩ (.slice a8 n8 c8) ∧ ∃ wp : World, Below W.heap.size W wp ∧ wp.grownBy w6 (Value.slice a5 m5 cap5).ownBlock ∧ OwnE w6 Wl.heap.size 51 (.slice a8 n8 c8) ((pre.map (fun x => chK t t.last x.1)) ++ [⟨x.1, false, y.cls, y.vs, y.bs⟩]) ∧ (∀ g, (Value.slice a8 n8 c8).ownBlock = some g → (Value.slice a5 m5 cap5).ownBlock = some g ∨ wp.heap.size ≤ g)) ∧ (D 4 → ¬ D 7 → OwnV w' W.heap.size (.slice ga gn gc) y.vs ∧ OwnB w' W.heap.size (.slice qa qn qc) y.bs) ∧ (D 6 → ¬ D 7 → ∀ j v, (⟨⟨x.1, false, y.cls, y.vs, y.bs⟩, ga, gn, gc, qa, qn, qc⟩ : Cs).cells[j]? = some v → w'.cell? ⟨nb, j, none⟩ = some v) ∧ (D 7 → ¬ D 9 → ∃ wp : World, Below W.heap.size W wp ∧ wp.grownBy w' (Value.slice a5 m5 cap5).ownBlock ∧ OwnE w' Wl.heap.size 51 (.slice a8 n8 c8) ((pre.map (fun x => chK t t.last x.1)) ++ [⟨x.1, false, y.cls, y.vs, y.bs⟩]) ∧ (∀ g, (Value.slice a8 n8 c8).ownBlock = some g → (Value.slice a5 m5 cap5).ownBlock = some g ∨ wp.heap.size ≤ g))) (by kernel_rfl) (by kernel_rfl) ?mono ?start ?step ?done
    case mono =>
      rintro D D' a w' hD ⟨v22, v23, v24, v25, v26, v27, v28, v29, v30, ga, gn, gc, qa, qn, qc, nb, a8, n8, c8, ha, hC, hB, e0, e1, e2, e3, e4, e5, e6, e7, e8, hQ, hCp, hLit, hA⟩
      exact ⟨v22, v23, v24, v25, v26, v27, v28, v29, v30, ga, gn, gc, qa, qn, qc, nb, a8, n8, c8, ha, hC.imp_left (hD 9).1, hB.imp_left (hD 7).1, fun h => e0 ((hD 0).2 h), fun h => e1 ((hD 1).2 h), fun h => e2 ((hD 2).2 h), fun h => e3 ((hD 3).2 h), fun h => e4 ((hD 4).2 h), fun h => e5 ((hD 5).2 h), fun h => e6 ((hD 6).2 h), fun h => e7 ((hD 7).2 h), fun h => e8 ((hD 8).2 h), fun h => hQ ((hD 9).2 h), fun h h' => hCp ((hD 4).2 h) (fun k => h' ((hD 7).1 k)), fun h h' => hLit ((hD 6).2 h) (fun k => h' ((hD 7).1 k)), fun h h' => hA ((hD 7).2 h) (fun k => h' ((hD 9).1 k))⟩
    case start => exact ⟨undef, undef, undef, undef, undef, undef, undef, undef, undef, none, 0, 0, none, 0, 0, 0, none, 0, 0, by kernel_rfl, .inr (rfl), .inr ((Below.refl _ _).drew), fun h => h.elim, fun h => h.elim, fun h => h.elim, fun h => h.elim, fun h => h.elim, fun h => h.elim, fun h => h.elim, fun h => h.elim, fun h => h.elim, fun h => h.elim, fun h _ => h.elim, fun h _ => h.elim, fun h _ => h.elim⟩
    case step =>
      intro i o ho D a w' hI hn hcl hd
      obtain ⟨v22, v23, v24, v25, v26, v27, v28, v29, v30, ga, gn, gc, qa, qn, qc, nb, a8, n8, c8, ha, hC, hB, e0, e1, e2, e3, e4, e5, e6, e7, e8, hQ, hCp, hLit, hA⟩ := hI
      match i, ho with
      | 0, ho =>
        cases Option.some.inj ho
        refine roundIn_op (by intro c h; cases h) ?_
        have ev : a.tmps[3]?.getD undef = .pointer (some ⟨br, 0, none⟩) := by rw [ha]; kernel_rfl
        refine wp_value (w' := w') (v := .pointer (some ⟨br, 1, none⟩)) (by simp [execOp, ev, go_sem]) ?_
        exact ⟨(.pointer (some ⟨br, 1, none⟩)), v23, v24, v25, v26, v27, v28, v29, v30, ga, gn, gc, qa, qn, qc, nb, a8, n8, c8, by rw [ha]; kernel_rfl, hC.imp_left .inr, hB.imp_left .inr, fun _ => rfl, fun h => e1 (h.resolve_left (by decide)), fun h => e2 (h.resolve_left (by decide)), fun h => e3 (h.resolve_left (by decide)), fun h => e4 (h.resolve_left (by decide)), fun h => e5 (h.resolve_left (by decide)), fun h => e6 (h.resolve_left (by decide)), fun h => e7 (h.resolve_left (by decide)), fun h => e8 (h.resolve_left (by decide)), fun h => hQ (h.resolve_left (by decide)), fun h h' => hCp (h.resolve_left (by decide)) (fun k => h' (.inr k)), fun h h' => hLit (h.resolve_left (by decide)) (fun k => h' (.inr k)), fun h h' => hA (h.resolve_left (by decide)) (fun k => h' (.inr k))⟩
      | 1, ho =>
        cases Option.some.inj ho
        refine roundIn_op (by intro c h; cases h) ?_
        have ev : a.tmps[22]?.getD undef = .pointer (some ⟨br, 1, none⟩) := by rw [ha, e0 (hd ⟨0, .data⟩ (by simp) rfl)]; kernel_rfl
        have hb := hC.resolve_left (fun h => (fun h => hn (hcl 7 _ rfl h ⟨1, .data⟩ (by simp) rfl)) (hcl 9 _ rfl h ⟨7, .data⟩ (by simp) rfl))
        have hcc := (rec_cells (hb.trans q1)).2
        refine wp_value (w' := w') (v := .slice a5 m5 cap5) (by simp [execOp, ev, go_sem, hcc]) ?_
        exact ⟨v22, (.slice a5 m5 cap5), v24, v25, v26, v27, v28, v29, v30, ga, gn, gc, qa, qn, qc, nb, a8, n8, c8, by rw [ha]; kernel_rfl, hC.imp_left .inr, hB.imp_left .inr, fun h => e0 (h.resolve_left (by decide)), fun _ => rfl, fun h => e2 (h.resolve_left (by decide)), fun h => e3 (h.resolve_left (by decide)), fun h => e4 (h.resolve_left (by decide)), fun h => e5 (h.resolve_left (by decide)), fun h => e6 (h.resolve_left (by decide)), fun h => e7 (h.resolve_left (by decide)), fun h => e8 (h.resolve_left (by decide)), fun h => hQ (h.resolve_left (by decide)), fun h h' => hCp (h.resolve_left (by decide)) (fun k => h' (.inr k)), fun h h' => hLit (h.resolve_left (by decide)) (fun k => h' (.inr k)), fun h h' => hA (h.resolve_left (by decide)) (fun k => h' (.inr k))⟩
      | 2, ho =>
        cases Option.some.inj ho
        refine roundIn_op (by intro c h; cases h) ?_
        have ev : a.tmps[4]?.getD undef = .int .i64 x.1 := by rw [ha]; kernel_rfl
        refine wp_value (w' := w') (v := .int .i64 x.1) (by simp [execOp, ev, go_sem]) ?_
        exact ⟨v22, v23, (.int .i64 x.1), v25, v26, v27, v28, v29, v30, ga, gn, gc, qa, qn, qc, nb, a8, n8, c8, by rw [ha]; kernel_rfl, hC.imp_left .inr, hB.imp_left .inr, fun h => e0 (h.resolve_left (by decide)), fun h => e1 (h.resolve_left (by decide)), fun _ => rfl, fun h => e3 (h.resolve_left (by decide)), fun h => e4 (h.resolve_left (by decide)), fun h => e5 (h.resolve_left (by decide)), fun h => e6 (h.resolve_left (by decide)), fun h => e7 (h.resolve_left (by decide)), fun h => e8 (h.resolve_left (by decide)), fun h => hQ (h.resolve_left (by decide)), fun h h' => hCp (h.resolve_left (by decide)) (fun k => h' (.inr k)), fun h h' => hLit (h.resolve_left (by decide)) (fun k => h' (.inr k)), fun h h' => hA (h.resolve_left (by decide)) (fun k => h' (.inr k))⟩
      | 3, ho =>
        cases Option.some.inj ho
        refine roundIn_op (by intro c h; cases h) ?_
        have ev : a.tmps[5]?.getD undef = .pointer (some ⟨bo, 0, none⟩) := by rw [ha]; kernel_rfl
        have hb := hB.resolve_left (fun h => (fun h => (fun h => (fun h => hn (hcl 4 _ rfl h ⟨3, .data⟩ (by simp) rfl)) (hcl 5 _ rfl h ⟨4, .data⟩ (by simp) rfl)) (hcl 6 _ rfl h ⟨5, .data⟩ (by simp) rfl)) (hcl 7 _ rfl h ⟨6, .data⟩ (by simp) rfl))
        obtain ⟨z0, z1, z2, _⟩ := obj_cells ((hb.block bo (lt_of_block EO)).trans EO)
        refine wp_value (w' := w') (v := .agg #[.int .i64 y.cls, .slice sa sn sc, .slice ba bn bq]) (by simp [execOp, ev, go_sem, z0, z1, z2]) ?_
        exact ⟨v22, v23, v24, (.agg #[.int .i64 y.cls, .slice sa sn sc, .slice ba bn bq]), v26, v27, v28, v29, v30, ga, gn, gc, qa, qn, qc, nb, a8, n8, c8, by rw [ha]; kernel_rfl, hC.imp_left .inr, hB.imp_left .inr, fun h => e0 (h.resolve_left (by decide)), fun h => e1 (h.resolve_left (by decide)), fun h => e2 (h.resolve_left (by decide)), fun _ => rfl, fun h => e4 (h.resolve_left (by decide)), fun h => e5 (h.resolve_left (by decide)), fun h => e6 (h.resolve_left (by decide)), fun h => e7 (h.resolve_left (by decide)), fun h => e8 (h.resolve_left (by decide)), fun h => hQ (h.resolve_left (by decide)), fun h h' => hCp (h.resolve_left (by decide)) (fun k => h' (.inr k)), fun h h' => hLit (h.resolve_left (by decide)) (fun k => h' (.inr k)), fun h h' => hA (h.resolve_left (by decide)) (fun k => h' (.inr k))⟩
      | 4, ho =>
        cases Option.some.inj ho
        refine roundIn_op (by intro c h; cases h) ?_
        have ev : a.tmps[25]?.getD undef = .agg #[.int .i64 y.cls, .slice sa sn sc, .slice ba bn bq] := by rw [ha, e3 (hd ⟨3, .data⟩ (by simp) rfl)]; kernel_rfl
        have hb := hB.resolve_left (fun h => (fun h => (fun h => hn (hcl 5 _ rfl h ⟨4, .data⟩ (by simp) rfl)) (hcl 6 _ rfl h ⟨5, .data⟩ (by simp) rfl)) (hcl 7 _ rfl h ⟨6, .data⟩ (by simp) rfl))
        refine wp_enter (f := 47) (args := #[.agg #[.int .i64 y.cls, .slice sa sn sc, .slice ba bn bq]]) (by simp [execOp, ev, go_sem]) ?_
        refine (copy_shape (o4.below hb) hsn hbn).mono ?_
        rintro e w6 ⟨ga', gn', gc', qa', qn', qc', rfl, oV, oB, HB⟩
        refine ⟨_, rfl, ?_⟩
        exact ⟨v22, v23, v24, v25, (.agg #[.int .i64 y.cls, .slice ga' gn' gc', .slice qa' qn' qc']), v27, v28, v29, v30, ga', gn', gc', qa', qn', qc', nb, a8, n8, c8, by rw [ha]; kernel_rfl, hC.imp .inr (fun h => (HB.block br (lt_of_block (h.trans q1))).trans h), hB.imp .inr (fun h => below_size h h.size HB), fun h => e0 (h.resolve_left (by decide)), fun h => e1 (h.resolve_left (by decide)), fun h => e2 (h.resolve_left (by decide)), fun h => e3 (h.resolve_left (by decide)), fun _ => rfl, fun h => absurd (h.resolve_left (by decide)) (fun h => hn (hcl 5 _ rfl h ⟨4, .data⟩ (by simp) rfl)), fun h => e6 (h.resolve_left (by decide)), fun h => e7 (h.resolve_left (by decide)), fun h => e8 (h.resolve_left (by decide)), fun h => absurd (h.resolve_left (by decide)) (fun h => (fun h => (fun h => (fun h => hn (hcl 5 _ rfl h ⟨4, .data⟩ (by simp) rfl)) (hcl 6 _ rfl h ⟨5, .data⟩ (by simp) rfl)) (hcl 7 _ rfl h ⟨6, .data⟩ (by simp) rfl)) (hcl 9 _ rfl h ⟨7, .data⟩ (by simp) rfl)), fun _ _ => ⟨oV.mono hb.size, oB.mono hb.size⟩, fun h _ => absurd (h.resolve_left (by decide)) (fun h => (fun h => hn (hcl 5 _ rfl h ⟨4, .data⟩ (by simp) rfl)) (hcl 6 _ rfl h ⟨5, .data⟩ (by simp) rfl)), fun h _ => absurd (h.resolve_left (by decide)) (fun h => (fun h => (fun h => hn (hcl 5 _ rfl h ⟨4, .data⟩ (by simp) rfl)) (hcl 6 _ rfl h ⟨5, .data⟩ (by simp) rfl)) (hcl 7 _ rfl h ⟨6, .data⟩ (by simp) rfl))⟩
      | 5, ho =>
        cases Option.some.inj ho
        refine roundIn_op (by intro c h; cases h) ?_
        have ev : a.tmps[24]?.getD undef = .int .i64 x.1 := by rw [ha, e2 (hd ⟨2, .data⟩ (by simp) rfl)]; kernel_rfl
        have ev' : a.tmps[26]?.getD undef = .agg #[.int .i64 y.cls, .slice ga gn gc, .slice qa qn qc] := by rw [ha, e4 (hd ⟨4, .data⟩ (by simp) rfl)]; kernel_rfl
        refine wp_value (w' := w') (v := .agg #[.int .i64 x.1, .bool false, .int .i64 y.cls, .slice ga gn gc, .slice qa qn qc]) (by simp [execOp, ev, ev', go_sem]) ?_
        exact ⟨v22, v23, v24, v25, v26, (.agg #[.int .i64 x.1, .bool false, .int .i64 y.cls, .slice ga gn gc, .slice qa qn qc]), v28, v29, v30, ga, gn, gc, qa, qn, qc, nb, a8, n8, c8, by rw [ha]; kernel_rfl, hC.imp_left .inr, hB.imp_left .inr, fun h => e0 (h.resolve_left (by decide)), fun h => e1 (h.resolve_left (by decide)), fun h => e2 (h.resolve_left (by decide)), fun h => e3 (h.resolve_left (by decide)), fun h => e4 (h.resolve_left (by decide)), fun _ => rfl, fun h => e6 (h.resolve_left (by decide)), fun h => e7 (h.resolve_left (by decide)), fun h => e8 (h.resolve_left (by decide)), fun h => hQ (h.resolve_left (by decide)), fun h h' => hCp (h.resolve_left (by decide)) (fun k => h' (.inr k)), fun h h' => hLit (h.resolve_left (by decide)) (fun k => h' (.inr k)), fun h h' => hA (h.resolve_left (by decide)) (fun k => h' (.inr k))⟩
      | 6, ho =>
        cases Option.some.inj ho
        refine roundIn_op (by intro c h; cases h) ?_
        have ev : a.tmps[27]?.getD undef = .agg #[.int .i64 x.1, .bool false, .int .i64 y.cls, .slice ga gn gc, .slice qa qn qc] := by rw [ha, e5 (hd ⟨5, .data⟩ (by simp) rfl)]; kernel_rfl
        refine wp_value (w' := w'.alloc (.cells #[.int .i64 x.1, .bool false, .int .i64 y.cls, .slice ga gn gc, .slice qa qn qc] 51)) (v := .slice (some ⟨w'.heap.size, 0, none⟩) 1 1) (by simp [execOp, ev, go_sem]) ?_
        exact ⟨v22, v23, v24, v25, v26, v27, (.slice (some ⟨w'.heap.size, 0, none⟩) 1 1), v29, v30, ga, gn, gc, qa, qn, qc, w'.heap.size, a8, n8, c8, by rw [ha]; kernel_rfl, hC.imp .inr (fun h => (box_below.block br (lt_of_block (h.trans q1))).trans h), hB.imp .inr (fun h => below_size h h.size box_below), fun h => e0 (h.resolve_left (by decide)), fun h => e1 (h.resolve_left (by decide)), fun h => e2 (h.resolve_left (by decide)), fun h => e3 (h.resolve_left (by decide)), fun h => e4 (h.resolve_left (by decide)), fun h => e5 (h.resolve_left (by decide)), fun _ => rfl, fun h => e7 (h.resolve_left (by decide)), fun h => e8 (h.resolve_left (by decide)), fun h => absurd (h.resolve_left (by decide)) (fun h => (fun h => hn (hcl 7 _ rfl h ⟨6, .data⟩ (by simp) rfl)) (hcl 9 _ rfl h ⟨7, .data⟩ (by simp) rfl)), fun h h' => ⟨(hCp (h.resolve_left (by decide)) (fun k => h' (.inr k))).1.below box_below, (hCp (h.resolve_left (by decide)) (fun k => h' (.inr k))).2.below box_below⟩, fun _ _ => lit_cells (w := w') (y := (⟨⟨x.1, false, y.cls, y.vs, y.bs⟩, ga, gn, gc, qa, qn, qc⟩ : Cs)) (t := 51), fun h _ => absurd (h.resolve_left (by decide)) (fun h => hn (hcl 7 _ rfl h ⟨6, .data⟩ (by simp) rfl))⟩
      | 7, ho =>
        cases Option.some.inj ho
        refine roundIn_op (by intro c h; cases h) ?_
        have ev : a.tmps[23]?.getD undef = .slice a5 m5 cap5 := by rw [ha, e1 (hd ⟨1, .data⟩ (by simp) rfl)]; kernel_rfl
        have ev' : a.tmps[28]?.getD undef = .slice (some ⟨nb, 0, none⟩) 1 1 := by rw [ha, e6 (hd ⟨6, .data⟩ (by simp) rfl)]; kernel_rfl
        have hb := hB.resolve_left hn
        obtain ⟨oV, oB⟩ := hCp (hcl 5 _ rfl (hcl 6 _ rfl (hd ⟨6, .data⟩ (by simp) rfl) ⟨5, .data⟩ (by simp) rfl) ⟨4, .data⟩ (by simp) rfl) hn
        have hL := hLit (hd ⟨6, .data⟩ (by simp) rfl) hn
        obtain ⟨a8', n8', c8', w6, hr6, hO6, hG, hP⟩ := app_chPE w' 36 (q2.below hb) (⟨⟨x.1, false, y.cls, y.vs, y.bs⟩, ga, gn, gc, qa, qn, qc⟩ : Cs) nb hL ⟨o4.cls, oV.mono q6, oB.mono q6⟩ hx64 (Nat.le_of_succ_le hlen.out) (Nat.le_trans q6 hb.size)
        refine Lib.wp_append_run w' (.tmp 23) (.tmp 28) 36 36 rfl _ _ (by simpa [Act.eval] using ev) (by simpa [Act.eval] using ev') _ w6 hr6 ?_
        exact ⟨v22, v23, v24, v25, v26, v27, v28, (.slice a8' n8' c8'), v30, ga, gn, gc, qa, qn, qc, nb, a8', n8', c8', by rw [ha]; kernel_rfl, hC.imp .inr (fun h => (hG.block br (lt_of_block (h.trans q1)) (fun e => hne e.symm)).trans h), .inl (.inl rfl), fun h => e0 (h.resolve_left (by decide)), fun h => e1 (h.resolve_left (by decide)), fun h => e2 (h.resolve_left (by decide)), fun h => e3 (h.resolve_left (by decide)), fun h => e4 (h.resolve_left (by decide)), fun h => e5 (h.resolve_left (by decide)), fun h => e6 (h.resolve_left (by decide)), fun _ => rfl, fun h => e8 (h.resolve_left (by decide)), fun h => absurd (h.resolve_left (by decide)) (fun h => hn (hcl 9 _ rfl h ⟨7, .data⟩ (by simp) rfl)), fun _ h' => absurd (.inl rfl) h', fun _ h' => absurd (.inl rfl) h', fun _ _ => ⟨w', hb, hG, hO6, hP⟩⟩
      | 8, ho =>
        cases Option.some.inj ho
        refine roundIn_op (by intro c h; cases h) ?_
        have ev : a.tmps[3]?.getD undef = .pointer (some ⟨br, 0, none⟩) := by rw [ha]; kernel_rfl
        refine wp_value (w' := w') (v := .pointer (some ⟨br, 1, none⟩)) (by simp [execOp, ev, go_sem]) ?_
        exact ⟨v22, v23, v24, v25, v26, v27, v28, v29, (.pointer (some ⟨br, 1, none⟩)), ga, gn, gc, qa, qn, qc, nb, a8, n8, c8, by rw [ha]; kernel_rfl, hC.imp_left .inr, hB.imp_left .inr, fun h => e0 (h.resolve_left (by decide)), fun h => e1 (h.resolve_left (by decide)), fun h => e2 (h.resolve_left (by decide)), fun h => e3 (h.resolve_left (by decide)), fun h => e4 (h.resolve_left (by decide)), fun h => e5 (h.resolve_left (by decide)), fun h => e6 (h.resolve_left (by decide)), fun h => e7 (h.resolve_left (by decide)), fun _ => rfl, fun h => hQ (h.resolve_left (by decide)), fun h h' => hCp (h.resolve_left (by decide)) (fun k => h' (.inr k)), fun h h' => hLit (h.resolve_left (by decide)) (fun k => h' (.inr k)), fun h h' => hA (h.resolve_left (by decide)) (fun k => h' (.inr k))⟩
      | 9, ho =>
        cases Option.some.inj ho
        refine roundIn_op (by intro c h; cases h) ?_
        have ev : a.tmps[30]?.getD undef = .pointer (some ⟨br, 1, none⟩) := by rw [ha, e8 (hd ⟨8, .data⟩ (by simp) rfl)]; kernel_rfl
        have ev' : a.tmps[29]?.getD undef = .slice a8 n8 c8 := by rw [ha, e7 (hd ⟨7, .data⟩ (by simp) rfl)]; kernel_rfl
        have hb := hC.resolve_left hn
        have hfr := rec_frozen (hb.trans q1) 1
        obtain ⟨hcc0, hcc⟩ := rec_cells (hb.trans q1)
        have hA' := hA (hd ⟨7, .data⟩ (by simp) rfl) hn
        refine wp_skip (w' := w'.setCell ⟨br, 1, none⟩ (.slice a8 n8 c8)) (by simp [execOp, ev, ev', go_sem, hfr, hcc]) ?_
        exact ⟨v22, v23, v24, v25, v26, v27, v28, v29, v30, ga, gn, gc, qa, qn, qc, nb, a8, n8, c8, by rw [ha]; kernel_rfl, .inl (.inl rfl), .inl (.inr (hd ⟨7, .data⟩ (by simp) rfl)), fun h => e0 (h.resolve_left (by decide)), fun h => e1 (h.resolve_left (by decide)), fun h => e2 (h.resolve_left (by decide)), fun h => e3 (h.resolve_left (by decide)), fun h => e4 (h.resolve_left (by decide)), fun h => e5 (h.resolve_left (by decide)), fun h => e6 (h.resolve_left (by decide)), fun h => e7 (h.resolve_left (by decide)), fun h => e8 (h.resolve_left (by decide)), fun _ => ⟨w', hb, rfl, hA'⟩, fun _ h' => absurd (.inr (hd ⟨7, .data⟩ (by simp) rfl)) h', fun _ h' => absurd (.inr (hd ⟨7, .data⟩ (by simp) rfl)) h', fun _ h' => absurd (.inl rfl) h'⟩
      | i + 10, ho => simp at ho
    case done =>
      rintro D a w' ⟨v22, v23, v24, v25, v26, v27, v28, v29, v30, ga, gn, gc, qa, qn, qc, nb, a8, n8, c8, ha, hC, hB, e0, e1, e2, e3, e4, e5, e6, e7, e8, hQ, hCp, hLit, hA⟩ hall
      obtain rfl := e0 (hall 0 (by decide))
      obtain rfl := e1 (hall 1 (by decide))
      obtain rfl := e2 (hall 2 (by decide))
      obtain rfl := e3 (hall 3 (by decide))
      obtain rfl := e4 (hall 4 (by decide))
      obtain rfl := e5 (hall 5 (by decide))
      obtain rfl := e6 (hall 6 (by decide))
      obtain rfl := e7 (hall 7 (by decide))
      obtain rfl := e8 (hall 8 (by decide))
      obtain ⟨w6, u1, rfl, wp, p1, p2, p3, p4⟩ := hQ (hall 9 (by decide))
      clear hC hB hCp hLit hA hQ hall ha e0 e1 e2 e3 e4 e5 e6 e7 e8
      have cellsK : ∀ q, q < W.heap.size → (Value.slice a5 m5 cap5).ownBlock ≠ some q → w6.heap[q]? = W.heap[q]? := fun q hq hn => (p2.block q (Nat.lt_of_lt_of_le hq p1.size) (fun e => hn e.symm)).trans (p1.block q hq)
      have u2 : w6.heap[br]? = some (recB t.last (.slice a5 m5 cap5) 38) := u1.trans q1
      have u2' : w6.heap[br]? = some (.cells #[.int .i64 t.last, .slice a5 m5 cap5] 38 (0, 0)) := u2
      have X5 : (w6.setCell ⟨br, 1, none⟩ (.slice a8 n8 c8)).heap[br]? = some (recB t.last (.slice a8 n8 c8) 38) := rec_set1 u2 _
      have oth : ∀ q, q ≠ br → (w6.setCell ⟨br, 1, none⟩ (.slice a8 n8 c8)).heap[q]? = w6.heap[q]? := fun q hq => heap_setCell_other w6 ⟨br, 1, none⟩ q _ hq
      have sz : (w6.setCell ⟨br, 1, none⟩ (.slice a8 n8 c8)).heap.size = w6.heap.size := by simp
      have gr : W.heap.size ≤ w6.heap.size := Nat.le_trans p1.size p2.size
      have low : ∀ q, q < Wl.heap.size → w6.heap[q]? = W.heap[q]? := fun q hq => cellsK q (by omega) (fun e => by have := (hge q e).1; omega)
      have OC : OwnE (w6.setCell ⟨br, 1, none⟩ (.slice a8 n8 c8)) Wl.heap.size 51 (.slice a8 n8 c8) ((pre ++ [x]).map (fun x => chK t t.last x.1)) := by
        rw [List.map_append, List.map_cons, List.map_nil, hck.out]
        exact p3.set u2' (by decide) (by decide) (by decide)
      refine ⟨⟨by rw [sz]; exact gr, fun q o hq ho hc => ?_⟩, ⟨by rw [sz]; exact gr, fun q cur e hq hn hh => ?_, ?_⟩, ⟨_, X5, OC⟩, ?_, ?_, ?_, ?_, ?_, ?_⟩
      · rw [oth q (by omega), cellsK q (lt_of_block' ho) (fun e => ?_)]
        · exact ho
        · obtain ⟨_, cur, hh⟩ := hge q e
          rw [ho] at hh
          cases hh
          cases hc
      · rw [oth q (by omega), cellsK q (lt_of_block' hh) (fun e => hn ⟨_, q1, e⟩)]
      · rintro k ⟨v', z1, z2⟩
        rw [X5] at z1
        cases z1
        rcases p4 k z2 with z | z
        · exact .inl ⟨_, q1, z⟩
        · exact .inr (Nat.le_trans p1.size z)
      · have B1 : Below w.heap.size w w6 := ⟨p2.os.trans (p1.os.trans q3.os), p2.tape.trans (p1.tape.trans q3.tape), p2.output.trans (p1.output.trans q3.output), Nat.le_trans q3.size gr, fun q hq => (low q (by omega)).trans (q3.block q hq)⟩
        exact B1.setCell (p := ⟨br, 1, none⟩) n0 _
      · rw [oth bt d1, low bt lt]; exact q4
      · rw [oth bc d2, low bc lc]; exact q5
      · rw [oth bR d3, low bR lR]; exact qR
      · rw [sz]; omega
      · have := hlen.out
        simp at this ⊢
        omega
end Go.Proofs.Ytajdelinfkodbaa
