/- Disk.write: one sector's write. -/
import Derived.Test.YtofgphiamllmdabFill
import Derived.Maps.AppendAt
namespace Go.Proofs.Ytofgphiamllmdab
open Go.RowKit
set_option maxRecDepth 100000

section
variable {w : World} {n₀ p bs bn : Nat} {pv : Value} {size : Int} {G0 G1 : Int → List Int} {L : List (Int × List Int)} {left : Int} {dead : Bool}

theorem own_succ {w : World} {n₀ e sz n : Nat} {v : Value} {xs : List Value} (h : w.ownsRow n₀ e sz v (n + 1) xs) : ∃ g cap, v = .slice (some ⟨g, 0, none⟩) (n + 1) cap := by
  rcases h.2 with ⟨_, h⟩ | ⟨g', cap, cur, rfl, _⟩
  · omega
  · exact ⟨g', cap, rfl⟩
theorem wp_skip {P : Program} {o : Oper} {a : Act} {w w' : World} {K : Act → World → Prop} {Q : Exit → Act → World → Prop} (h : (execOp a.eval o).run P w = .ok .skip w') (hk : K (a.put o.dst undef) w') : o.wp P a w K Q := by
  unfold Oper.wp; rw [h]; exact hk
theorem Dev.set (h : Dev w n₀ p bs bn pv size G0 G1 L left dead) {i : Nat} {v : Value} {left' : Int} {dead' : Bool} (ho : (w.setCell ⟨p, i, none⟩ v).heap[p]? = some (devO size bs bn pv left' dead')) : Dev (w.setCell ⟨p, i, none⟩ v) n₀ p bs bn pv size G0 G1 L left' dead' :=
  ⟨ho, h.safe.same (heap_setCell_other _ _ _ _ h.pbs.symm), h.now.same (heap_setCell_other _ _ _ _ h.pbn.symm), own_same h.pend (fun g hg => heap_setCell_other _ _ _ _ (fun e => h.pvp (by rw [hg, e]))), h.secs, h.ne, h.fromP, h.fromS, h.fromN⟩

set_option maxRecDepth 100000 in
set_option maxHeartbeats 2000000 in
theorem write_dead (h : Dev w n₀ p bs bn pv size G0 G1 L left dead) (at' : Int) {xs : List Int} (hd : left = 1 ∨ dead = true) :
    Calls Try.prog 68 #[.pointer (some ⟨p, 0, none⟩), .int .i64 at', .agg (cellsB xs)] w fun e w' => e = .returned (.bool false) ∧ Dev w' n₀ p bs bn pv size G0 G1 L left true ∧ Fr p bs bn w pv w' pv := by
  have hk : ∀ i, i < w.heap.size → (w.alloc (.cells (cellsB xs) 105)).heap[i]? = w.heap[i]? := fun i hi => Below.heap_alloc w _ i hi
  have hD := h.same hk
  have hF : Fr p bs bn w pv (w.alloc (.cells (cellsB xs) 105)) pv := Fr.grown (World.grownBy_alloc w _ none) (.inl rfl)
  obtain ⟨d0, d1, d2, d3, d4, d5, df⟩ := dev_cells hD.obj
  go_enter Try.func68, Try.ntmps68
  by_cases h1 : left = 1
  · subst h1
    have hO := devO_dead hD.obj true
    obtain ⟨e0, e1, e2, e3, e4, e5, ef⟩ := dev_cells hO
    have hN := hD.pbs
    have hN2 := hD.pbn
    go_wp2_with fail
    go_ret
    exact ⟨rfl, hD.set hO, hF.trans (Fr.set _ _ _ _)⟩
  · obtain rfl : dead = true := hd.resolve_left h1
    have h1' : (left == 1) = false := by simpa using h1
    go_wp2_with fail
    go_ret
    exact ⟨rfl, hD, hF⟩

set_option maxRecDepth 100000 in
set_option maxHeartbeats 4000000 in
theorem write_done (h : Dev w n₀ p bs bn pv size G0 G1 L left false) (at' : Int) {xs : List Int} (hx : IsSec xs) (h1 : left ≠ 1) (hl0 : 0 ≤ left) (hl1 : left ≤ 9223372036854775807) (hL : L.length ≤ 1000000000) :
    Calls Try.prog 68 #[.pointer (some ⟨p, 0, none⟩), .int .i64 at', .agg (cellsB xs)] w fun e w' => e = .returned (.bool true) ∧ ∃ pv', Dev w' n₀ p bs bn pv' size G0 (fun i => if i = at' then xs else G1 i) (L ++ [(at', xs)]) (max 0 (left - 1)) false ∧ Fr p bs bn w pv w' pv' := by
  have A := heap_alloc_new w (.cells (cellsB xs) 105)
  have hk : ∀ i, i < w.heap.size → (w.alloc (.cells (cellsB xs) 105)).heap[i]? = w.heap[i]? := fun i hi => Below.heap_alloc w _ i hi
  have hD := h.same hk
  have hF : Fr p bs bn w pv (w.alloc (.cells (cellsB xs) 105)) pv := Fr.grown (World.grownBy_alloc w _ none) (.inl rfl)
  have hsz : (w.alloc (.cells (cellsB xs) 105)).heap.size = w.heap.size + 1 := by simp
  obtain ⟨c0, c1, c2, c3, c4, c5, cf⟩ := dev_cells hD.obj
  have h1' : (left == 1) = false := by simpa using h1
  have hw : IntKind.i64.wrap (left - 1) = left - 1 := by rw [IntKind.wrap_i64]; omega
  go_enter Try.func68, Try.ntmps68
  by_cases h0 : left = 0
  · have hmx : Hid (max 0 (left - 1) = 0) := by show _ = _; omega
    subst h0
    have hO := devO_left hD.obj (0)
    have D2 := hD.set hO
    have hF2 : Fr p bs bn w pv ((w.alloc (.cells (cellsB xs) 105)).setCell ⟨p, 4, none⟩ (.int .i64 (0))) pv := hF.trans (Fr.set _ _ _ _)
    have A2 : ((w.alloc (.cells (cellsB xs) 105)).setCell ⟨p, 4, none⟩ (.int .i64 (0))).heap[w.heap.size]? = some (.cells (cellsB xs) 105) := (heap_setCell_other _ _ _ _ (by have := h.lt; show w.heap.size ≠ p; omega)).trans A
    go_wp2_with fail
    generalize hw2 : (w.alloc (.cells (cellsB xs) 105)).setCell ⟨p, 4, none⟩ (.int .i64 (0)) = w2 at *
    obtain ⟨d0, d1, d2, d3, d4, d5, df⟩ := dev_cells D2.obj
    have hpn : p ≠ bn := D2.pbn
    have hwn : w.heap.size ≠ bn := by have := h.now.lt; omega
    clear hw2 hO hD c0 c1 c2 c3 c4 c5 cf hk hF A hw h1' hsz
    refine wp_region_inv' (fun A D a w' => ∃ v28 v29 v30 v31 v32 v33 v34, a = (((((((A.put (some 28) v28).put (some 29) v29).put (some 30) v30).put (some 31) v31).put (some 32) v32).put (some 33) v33).put (some 34) v34) ∧ w2.grownBy w' (some bn) ∧ (D 6 ∨ HasSec w' bn G1) ∧ (D 6 → HasSec w' bn (fun i => if i = at' then xs else G1 i)) ∧ (D 0 → v28 = .pointer (some ⟨p, 0, none⟩)) ∧ (D 1 → v29 = .pointer (some ⟨p, 0, none⟩)) ∧ (D 2 → v30 = .pointer (some ⟨p, 2, none⟩)) ∧ (D 3 → v31 = .map (some bn)) ∧ (D 4 → v32 = .int .i64 at') ∧ (D 5 → v33 = .agg (cellsB xs)) ∧ (D 6 → v34 = .tuple #[])) (by kernel_rfl) (by kernel_rfl) ?mono ?start ?step ?done
    case mono =>
      rintro D D' a w' hD ⟨v28, v29, v30, v31, v32, v33, v34, ha, hB, hN, hM, e0, e1, e2, e3, e4, e5, e6⟩
      exact ⟨v28, v29, v30, v31, v32, v33, v34, ha, hB, hN.imp_left (hD 6).1, fun h => hM ((hD 6).2 h), fun h => e0 ((hD 0).2 h), fun h => e1 ((hD 1).2 h), fun h => e2 ((hD 2).2 h), fun h => e3 ((hD 3).2 h), fun h => e4 ((hD 4).2 h), fun h => e5 ((hD 5).2 h), fun h => e6 ((hD 6).2 h)⟩
    case start => exact ⟨undef, undef, undef, undef, undef, undef, undef, by kernel_rfl, ⟨rfl, rfl, rfl, Nat.le_refl _, fun _ _ _ => rfl⟩, .inr (D2.now.same rfl), fun h => h.elim, fun h => h.elim, fun h => h.elim, fun h => h.elim, fun h => h.elim, fun h => h.elim, fun h => h.elim, fun h => h.elim⟩
    case step =>
      intro i o ho D a w' hI hn hcl hd
      obtain ⟨v28, v29, v30, v31, v32, v33, v34, ha, hB, hN, hM, e0, e1, e2, e3, e4, e5, e6⟩ := hI
      match i, ho with
      | 0, ho =>
        cases Option.some.inj ho
        have ev : a.tmps[0]?.getD undef = .pointer (some ⟨p, 0, none⟩) := by rw [ha]; kernel_rfl
        refine wp_value (w' := w') (v := .pointer (some ⟨p, 0, none⟩)) (by simp [execOp, ev, go_sem]) ?_
        exact ⟨(.pointer (some ⟨p, 0, none⟩)), v29, v30, v31, v32, v33, v34, by rw [ha]; kernel_rfl, hB, hN.imp_left .inr, fun h => hM (h.resolve_left (by decide)), fun _ => rfl, fun h => e1 (h.resolve_left (by decide)), fun h => e2 (h.resolve_left (by decide)), fun h => e3 (h.resolve_left (by decide)), fun h => e4 (h.resolve_left (by decide)), fun h => e5 (h.resolve_left (by decide)), fun h => e6 (h.resolve_left (by decide))⟩
      | 1, ho =>
        cases Option.some.inj ho
        have ev : a.tmps[28]?.getD undef = .pointer (some ⟨p, 0, none⟩) := by rw [ha, e0 (hd ⟨0, .data⟩ (by simp) rfl)]; kernel_rfl
        refine wp_value (w' := w') (v := .pointer (some ⟨p, 0, none⟩)) (by simp [execOp, ev, go_sem]) ?_
        exact ⟨v28, (.pointer (some ⟨p, 0, none⟩)), v30, v31, v32, v33, v34, by rw [ha]; kernel_rfl, hB, hN.imp_left .inr, fun h => hM (h.resolve_left (by decide)), fun h => e0 (h.resolve_left (by decide)), fun _ => rfl, fun h => e2 (h.resolve_left (by decide)), fun h => e3 (h.resolve_left (by decide)), fun h => e4 (h.resolve_left (by decide)), fun h => e5 (h.resolve_left (by decide)), fun h => e6 (h.resolve_left (by decide))⟩
      | 2, ho =>
        cases Option.some.inj ho
        have ev : a.tmps[29]?.getD undef = .pointer (some ⟨p, 0, none⟩) := by rw [ha, e1 (hd ⟨1, .data⟩ (by simp) rfl)]; kernel_rfl
        refine wp_value (w' := w') (v := .pointer (some ⟨p, 2, none⟩)) (by simp [execOp, ev, go_sem]) ?_
        exact ⟨v28, v29, (.pointer (some ⟨p, 2, none⟩)), v31, v32, v33, v34, by rw [ha]; kernel_rfl, hB, hN.imp_left .inr, fun h => hM (h.resolve_left (by decide)), fun h => e0 (h.resolve_left (by decide)), fun h => e1 (h.resolve_left (by decide)), fun _ => rfl, fun h => e3 (h.resolve_left (by decide)), fun h => e4 (h.resolve_left (by decide)), fun h => e5 (h.resolve_left (by decide)), fun h => e6 (h.resolve_left (by decide))⟩
      | 3, ho =>
        cases Option.some.inj ho
        have ev : a.tmps[30]?.getD undef = .pointer (some ⟨p, 2, none⟩) := by rw [ha, e2 (hd ⟨2, .data⟩ (by simp) rfl)]; kernel_rfl
        have hc := hB.cell d2 (by simpa using hpn)
        refine wp_value (w' := w') (v := .map (some bn)) (by simp [execOp, ev, go_sem, hc]) ?_
        exact ⟨v28, v29, v30, (.map (some bn)), v32, v33, v34, by rw [ha]; kernel_rfl, hB, hN.imp_left .inr, fun h => hM (h.resolve_left (by decide)), fun h => e0 (h.resolve_left (by decide)), fun h => e1 (h.resolve_left (by decide)), fun h => e2 (h.resolve_left (by decide)), fun _ => rfl, fun h => e4 (h.resolve_left (by decide)), fun h => e5 (h.resolve_left (by decide)), fun h => e6 (h.resolve_left (by decide))⟩
      | 4, ho =>
        cases Option.some.inj ho
        have ev : a.tmps[1]?.getD undef = .int .i64 at' := by rw [ha]; kernel_rfl
        refine wp_value (w' := w') (v := .int .i64 at') (by simp [execOp, ev, go_sem]) ?_
        exact ⟨v28, v29, v30, v31, (.int .i64 at'), v33, v34, by rw [ha]; kernel_rfl, hB, hN.imp_left .inr, fun h => hM (h.resolve_left (by decide)), fun h => e0 (h.resolve_left (by decide)), fun h => e1 (h.resolve_left (by decide)), fun h => e2 (h.resolve_left (by decide)), fun h => e3 (h.resolve_left (by decide)), fun _ => rfl, fun h => e5 (h.resolve_left (by decide)), fun h => e6 (h.resolve_left (by decide))⟩
      | 5, ho =>
        cases Option.some.inj ho
        have ev : a.tmps[5]?.getD undef = .pointer (some ⟨w.heap.size, 0, none⟩) := by rw [ha]; kernel_rfl
        refine wp_load_row 105 (.tmp 5) rfl w.heap.size (eval_of ev) 105 _ _ _ ((hB.block _ (lt_of_block A2) (by simpa using hwn)).trans A2) Try.underlying105 rfl (size57 hx) ?_
        exact ⟨v28, v29, v30, v31, v32, (.agg (cellsB xs)), v34, by rw [ha]; kernel_rfl, hB, hN.imp_left .inr, fun h => hM (h.resolve_left (by decide)), fun h => e0 (h.resolve_left (by decide)), fun h => e1 (h.resolve_left (by decide)), fun h => e2 (h.resolve_left (by decide)), fun h => e3 (h.resolve_left (by decide)), fun h => e4 (h.resolve_left (by decide)), fun _ => rfl, fun h => e6 (h.resolve_left (by decide))⟩
      | 6, ho =>
        cases Option.some.inj ho
        have ev : a.tmps[31]?.getD undef = .map (some bn) := by rw [ha, e3 (hd ⟨3, .data⟩ (by simp) rfl)]; kernel_rfl
        have ev' : a.tmps[32]?.getD undef = .int .i64 at' := by rw [ha, e4 (hd ⟨4, .data⟩ (by simp) rfl)]; kernel_rfl
        have ev'' : a.tmps[33]?.getD undef = .agg (cellsB xs) := by rw [ha, e5 (hd ⟨5, .data⟩ (by simp) rfl)]; kernel_rfl
        refine wp_enter (f := 64) (args := #[.map (some bn), .int .i64 at', .agg (cellsB xs)]) (by simp [execOp, ev, ev', ev'', go_sem]) ?_
        refine (put_any at' hx (hN.resolve_left hn)).mono ?_
        rintro e w6 ⟨rfl, hM6, HG⟩
        refine ⟨_, rfl, ?_⟩
        exact ⟨v28, v29, v30, v31, v32, v33, (.tuple #[]), by rw [ha]; kernel_rfl, World.grownBy.trans hB HG, .inl (.inl rfl), fun _ => hM6, fun h => e0 (h.resolve_left (by decide)), fun h => e1 (h.resolve_left (by decide)), fun h => e2 (h.resolve_left (by decide)), fun h => e3 (h.resolve_left (by decide)), fun h => e4 (h.resolve_left (by decide)), fun h => e5 (h.resolve_left (by decide)), fun _ => rfl⟩
      | i + 7, ho => simp at ho
    case done =>
      rintro D a w' ⟨v28, v29, v30, v31, v32, v33, v34, ha, hB, hN, hM, e0, e1, e2, e3, e4, e5, e6⟩ hall
      have hM' := hM (hall 6 (by decide))
      obtain rfl := e0 (hall 0 (by decide))
      obtain rfl := e1 (hall 1 (by decide))
      obtain rfl := e2 (hall 2 (by decide))
      obtain rfl := e3 (hall 3 (by decide))
      obtain rfl := e4 (hall 4 (by decide))
      obtain rfl := e5 (hall 5 (by decide))
      obtain rfl := e6 (hall 6 (by decide))
      clear hN hM hall
      rw [ha]
      clear ha
      simp only [Act.put, List.setIfInBounds_toArray, List.set_cons_zero, List.set_cons_succ]
      have D3 : Dev w' n₀ p bs bn pv size G0 (fun i => if i = at' then xs else G1 i) L (0) false :=
        ⟨(hB.block _ (lt_of_block D2.obj) (by simpa using hpn)).trans D2.obj, D2.safe.same (hB.block _ D2.safe.lt (by simpa using D2.ne)), hM', own_same D2.pend (fun g hg => hB.block _ (D2.pvlt hg) (by rw [← hg]; exact D2.pvn)), D2.secs, D2.ne, D2.fromP, D2.fromS, D2.fromN⟩
      have A3 := (hB.block _ (lt_of_block A2) (by simpa using hwn)).trans A2
      have hF3 := hF2.trans (Fr.grown (pv := pv) (p := p) (bs := bs) (bn := bn) hB (.inr (.inr (.inr rfl))))
      have hxp : w.heap.size ≠ p := by have := h.lt; omega
      have hxpv : pv.ownBlock ≠ some w.heap.size := fun e => by have := h.pvlt e; omega
      clear hB hM' D2 A2 hF2 e0 e1 e2 e3 e4 e5 e6 hpn hwn d0 d1 d2 d3 d4 d5 df
      go_wp2_with fail
      generalize w' = w3 at *
      refine wp_region_inv' (fun A D a w' => ∃ v35 v36 v37 v38 v39 v40 v41 v42 v43 v44 v45 v46 b8 nv, a = ((((((((((((A.put (some 35) v35).put (some 36) v36).put (some 37) v37).put (some 38) v38).put (some 39) v39).put (some 40) v40).put (some 41) v41).put (some 42) v42).put (some 43) v43).put (some 44) v44).put (some 45) v45).put (some 46) v46) ∧ Fr p p p w3 pv w' pv ∧ w'.heap[w.heap.size]? = some (.cells (cellsB xs) 105) ∧ (D 12 ∨ w'.heap[p]? = some (devO size bs bn pv (0) false)) ∧ (D 9 ∨ w'.ownsRow n₀ 107 129 pv L.length (L.flatMap wcells)) ∧ (D 8 → w3.heap.size ≤ b8 ∧ w'.heap[b8]? = some (.cells (wcells (at', xs)).toArray 107 (0, 0))) ∧ (D 9 → w'.ownsRow n₀ 107 129 nv (L.length + 1) (L.flatMap wcells ++ wcells (at', xs)) ∧ (∀ g, nv.ownBlock = some g → pv.ownBlock = some g ∨ w3.heap.size ≤ g)) ∧ (D 12 → w'.heap[p]? = some (devO size bs bn nv (0) false)) ∧ (D 0 → v35 = .pointer (some ⟨p, 0, none⟩)) ∧ (D 1 → v36 = .pointer (some ⟨p, 0, none⟩)) ∧ (D 2 → v37 = .pointer (some ⟨p, 0, none⟩)) ∧ (D 3 → v38 = .pointer (some ⟨p, 3, none⟩)) ∧ (D 4 → v39 = pv) ∧ (D 5 → v40 = .int .i64 at') ∧ (D 6 → v41 = .agg (cellsB xs)) ∧ (D 7 → v42 = .agg (wcells (at', xs)).toArray) ∧ (D 8 → v43 = .slice (some ⟨b8, 0, none⟩) 1 1) ∧ (D 9 → v44 = nv) ∧ (D 10 → v45 = .pointer (some ⟨p, 0, none⟩)) ∧ (D 11 → v46 = .pointer (some ⟨p, 3, none⟩))) (by kernel_rfl) (by kernel_rfl) ?mono ?start ?step ?done
      case mono =>
        rintro D D' a w' hD ⟨v35, v36, v37, v38, v39, v40, v41, v42, v43, v44, v45, v46, b8, nv, ha, hF, hX, hP, hO, hS, hV, hQ, e0, e1, e2, e3, e4, e5, e6, e7, e8, e9, e10, e11⟩
        exact ⟨v35, v36, v37, v38, v39, v40, v41, v42, v43, v44, v45, v46, b8, nv, ha, hF, hX, hP.imp_left (hD 12).1, hO.imp_left (hD 9).1, fun h => hS ((hD 8).2 h), fun h => hV ((hD 9).2 h), fun h => hQ ((hD 12).2 h), fun h => e0 ((hD 0).2 h), fun h => e1 ((hD 1).2 h), fun h => e2 ((hD 2).2 h), fun h => e3 ((hD 3).2 h), fun h => e4 ((hD 4).2 h), fun h => e5 ((hD 5).2 h), fun h => e6 ((hD 6).2 h), fun h => e7 ((hD 7).2 h), fun h => e8 ((hD 8).2 h), fun h => e9 ((hD 9).2 h), fun h => e10 ((hD 10).2 h), fun h => e11 ((hD 11).2 h)⟩
      case start => exact ⟨undef, undef, undef, undef, undef, undef, undef, undef, undef, undef, undef, undef, 0, pv, by kernel_rfl, ⟨rfl, rfl, rfl, Nat.le_refl _, fun _ _ _ _ _ h => ⟨rfl, h⟩⟩, A3, .inr (D3.obj), .inr (own_same D3.pend (fun _ _ => rfl)), fun h => h.elim, fun h => h.elim, fun h => h.elim, fun h => h.elim, fun h => h.elim, fun h => h.elim, fun h => h.elim, fun h => h.elim, fun h => h.elim, fun h => h.elim, fun h => h.elim, fun h => h.elim, fun h => h.elim, fun h => h.elim, fun h => h.elim⟩
      case step =>
        intro i o ho D a w' hI hn hcl hd
        obtain ⟨v35, v36, v37, v38, v39, v40, v41, v42, v43, v44, v45, v46, b8, nv, ha, hF, hX, hP, hO, hS, hV, hQ, e0, e1, e2, e3, e4, e5, e6, e7, e8, e9, e10, e11⟩ := hI
        match i, ho with
        | 0, ho =>
          cases Option.some.inj ho
          have ev : a.tmps[0]?.getD undef = .pointer (some ⟨p, 0, none⟩) := by rw [ha]; kernel_rfl
          refine wp_value (w' := w') (v := .pointer (some ⟨p, 0, none⟩)) (by simp [execOp, ev, go_sem]) ?_
          exact ⟨(.pointer (some ⟨p, 0, none⟩)), v36, v37, v38, v39, v40, v41, v42, v43, v44, v45, v46, b8, nv, by rw [ha]; kernel_rfl, hF, hX, hP.imp_left .inr, hO.imp_left .inr, fun h => hS (h.resolve_left (by decide)), fun h => hV (h.resolve_left (by decide)), fun h => hQ (h.resolve_left (by decide)), fun _ => rfl, fun h => e1 (h.resolve_left (by decide)), fun h => e2 (h.resolve_left (by decide)), fun h => e3 (h.resolve_left (by decide)), fun h => e4 (h.resolve_left (by decide)), fun h => e5 (h.resolve_left (by decide)), fun h => e6 (h.resolve_left (by decide)), fun h => e7 (h.resolve_left (by decide)), fun h => e8 (h.resolve_left (by decide)), fun h => e9 (h.resolve_left (by decide)), fun h => e10 (h.resolve_left (by decide)), fun h => e11 (h.resolve_left (by decide))⟩
        | 1, ho =>
          cases Option.some.inj ho
          have ev : a.tmps[0]?.getD undef = .pointer (some ⟨p, 0, none⟩) := by rw [ha]; kernel_rfl
          refine wp_value (w' := w') (v := .pointer (some ⟨p, 0, none⟩)) (by simp [execOp, ev, go_sem]) ?_
          exact ⟨v35, (.pointer (some ⟨p, 0, none⟩)), v37, v38, v39, v40, v41, v42, v43, v44, v45, v46, b8, nv, by rw [ha]; kernel_rfl, hF, hX, hP.imp_left .inr, hO.imp_left .inr, fun h => hS (h.resolve_left (by decide)), fun h => hV (h.resolve_left (by decide)), fun h => hQ (h.resolve_left (by decide)), fun h => e0 (h.resolve_left (by decide)), fun _ => rfl, fun h => e2 (h.resolve_left (by decide)), fun h => e3 (h.resolve_left (by decide)), fun h => e4 (h.resolve_left (by decide)), fun h => e5 (h.resolve_left (by decide)), fun h => e6 (h.resolve_left (by decide)), fun h => e7 (h.resolve_left (by decide)), fun h => e8 (h.resolve_left (by decide)), fun h => e9 (h.resolve_left (by decide)), fun h => e10 (h.resolve_left (by decide)), fun h => e11 (h.resolve_left (by decide))⟩
        | 2, ho =>
          cases Option.some.inj ho
          have ev : a.tmps[36]?.getD undef = .pointer (some ⟨p, 0, none⟩) := by rw [ha, e1 (hd ⟨1, .data⟩ (by simp) rfl)]; kernel_rfl
          refine wp_value (w' := w') (v := .pointer (some ⟨p, 0, none⟩)) (by simp [execOp, ev, go_sem]) ?_
          exact ⟨v35, v36, (.pointer (some ⟨p, 0, none⟩)), v38, v39, v40, v41, v42, v43, v44, v45, v46, b8, nv, by rw [ha]; kernel_rfl, hF, hX, hP.imp_left .inr, hO.imp_left .inr, fun h => hS (h.resolve_left (by decide)), fun h => hV (h.resolve_left (by decide)), fun h => hQ (h.resolve_left (by decide)), fun h => e0 (h.resolve_left (by decide)), fun h => e1 (h.resolve_left (by decide)), fun _ => rfl, fun h => e3 (h.resolve_left (by decide)), fun h => e4 (h.resolve_left (by decide)), fun h => e5 (h.resolve_left (by decide)), fun h => e6 (h.resolve_left (by decide)), fun h => e7 (h.resolve_left (by decide)), fun h => e8 (h.resolve_left (by decide)), fun h => e9 (h.resolve_left (by decide)), fun h => e10 (h.resolve_left (by decide)), fun h => e11 (h.resolve_left (by decide))⟩
        | 3, ho =>
          cases Option.some.inj ho
          have ev : a.tmps[37]?.getD undef = .pointer (some ⟨p, 0, none⟩) := by rw [ha, e2 (hd ⟨2, .data⟩ (by simp) rfl)]; kernel_rfl
          refine wp_value (w' := w') (v := .pointer (some ⟨p, 3, none⟩)) (by simp [execOp, ev, go_sem]) ?_
          exact ⟨v35, v36, v37, (.pointer (some ⟨p, 3, none⟩)), v39, v40, v41, v42, v43, v44, v45, v46, b8, nv, by rw [ha]; kernel_rfl, hF, hX, hP.imp_left .inr, hO.imp_left .inr, fun h => hS (h.resolve_left (by decide)), fun h => hV (h.resolve_left (by decide)), fun h => hQ (h.resolve_left (by decide)), fun h => e0 (h.resolve_left (by decide)), fun h => e1 (h.resolve_left (by decide)), fun h => e2 (h.resolve_left (by decide)), fun _ => rfl, fun h => e4 (h.resolve_left (by decide)), fun h => e5 (h.resolve_left (by decide)), fun h => e6 (h.resolve_left (by decide)), fun h => e7 (h.resolve_left (by decide)), fun h => e8 (h.resolve_left (by decide)), fun h => e9 (h.resolve_left (by decide)), fun h => e10 (h.resolve_left (by decide)), fun h => e11 (h.resolve_left (by decide))⟩
        | 4, ho =>
          cases Option.some.inj ho
          have ev : a.tmps[38]?.getD undef = .pointer (some ⟨p, 3, none⟩) := by rw [ha, e3 (hd ⟨3, .data⟩ (by simp) rfl)]; kernel_rfl
          obtain ⟨_, _, _, hc, _⟩ := dev_cells (hP.resolve_left (fun h => hn (hcl 9 _ rfl (hcl 12 _ rfl h ⟨9, .data⟩ (by simp) rfl) ⟨4, .data⟩ (by simp) rfl)))
          refine wp_value (w' := w') (v := pv) (by simp [execOp, ev, go_sem, hc]) ?_
          exact ⟨v35, v36, v37, v38, (pv), v40, v41, v42, v43, v44, v45, v46, b8, nv, by rw [ha]; kernel_rfl, hF, hX, hP.imp_left .inr, hO.imp_left .inr, fun h => hS (h.resolve_left (by decide)), fun h => hV (h.resolve_left (by decide)), fun h => hQ (h.resolve_left (by decide)), fun h => e0 (h.resolve_left (by decide)), fun h => e1 (h.resolve_left (by decide)), fun h => e2 (h.resolve_left (by decide)), fun h => e3 (h.resolve_left (by decide)), fun _ => rfl, fun h => e5 (h.resolve_left (by decide)), fun h => e6 (h.resolve_left (by decide)), fun h => e7 (h.resolve_left (by decide)), fun h => e8 (h.resolve_left (by decide)), fun h => e9 (h.resolve_left (by decide)), fun h => e10 (h.resolve_left (by decide)), fun h => e11 (h.resolve_left (by decide))⟩
        | 5, ho =>
          cases Option.some.inj ho
          have ev : a.tmps[1]?.getD undef = .int .i64 at' := by rw [ha]; kernel_rfl
          refine wp_value (w' := w') (v := .int .i64 at') (by simp [execOp, ev, go_sem]) ?_
          exact ⟨v35, v36, v37, v38, v39, (.int .i64 at'), v41, v42, v43, v44, v45, v46, b8, nv, by rw [ha]; kernel_rfl, hF, hX, hP.imp_left .inr, hO.imp_left .inr, fun h => hS (h.resolve_left (by decide)), fun h => hV (h.resolve_left (by decide)), fun h => hQ (h.resolve_left (by decide)), fun h => e0 (h.resolve_left (by decide)), fun h => e1 (h.resolve_left (by decide)), fun h => e2 (h.resolve_left (by decide)), fun h => e3 (h.resolve_left (by decide)), fun h => e4 (h.resolve_left (by decide)), fun _ => rfl, fun h => e6 (h.resolve_left (by decide)), fun h => e7 (h.resolve_left (by decide)), fun h => e8 (h.resolve_left (by decide)), fun h => e9 (h.resolve_left (by decide)), fun h => e10 (h.resolve_left (by decide)), fun h => e11 (h.resolve_left (by decide))⟩
        | 6, ho =>
          cases Option.some.inj ho
          have ev : a.tmps[5]?.getD undef = .pointer (some ⟨w.heap.size, 0, none⟩) := by rw [ha]; kernel_rfl
          refine wp_load_row 105 (.tmp 5) rfl w.heap.size (eval_of ev) 105 _ _ _ hX Try.underlying105 rfl (size57 hx) ?_
          exact ⟨v35, v36, v37, v38, v39, v40, (.agg (cellsB xs)), v42, v43, v44, v45, v46, b8, nv, by rw [ha]; kernel_rfl, hF, hX, hP.imp_left .inr, hO.imp_left .inr, fun h => hS (h.resolve_left (by decide)), fun h => hV (h.resolve_left (by decide)), fun h => hQ (h.resolve_left (by decide)), fun h => e0 (h.resolve_left (by decide)), fun h => e1 (h.resolve_left (by decide)), fun h => e2 (h.resolve_left (by decide)), fun h => e3 (h.resolve_left (by decide)), fun h => e4 (h.resolve_left (by decide)), fun h => e5 (h.resolve_left (by decide)), fun _ => rfl, fun h => e7 (h.resolve_left (by decide)), fun h => e8 (h.resolve_left (by decide)), fun h => e9 (h.resolve_left (by decide)), fun h => e10 (h.resolve_left (by decide)), fun h => e11 (h.resolve_left (by decide))⟩
        | 7, ho =>
          cases Option.some.inj ho
          have ev : a.tmps[40]?.getD undef = .int .i64 at' := by rw [ha, e5 (hd ⟨5, .data⟩ (by simp) rfl)]; kernel_rfl
          have ev' : a.tmps[41]?.getD undef = .agg (cellsB xs) := by rw [ha, e6 (hd ⟨6, .data⟩ (by simp) rfl)]; kernel_rfl
          refine wp_value (w' := w') (v := .agg (wcells (at', xs)).toArray) (run_build59 (eval_of ev) (eval_of ev') hx rfl) ?_
          exact ⟨v35, v36, v37, v38, v39, v40, v41, (.agg (wcells (at', xs)).toArray), v43, v44, v45, v46, b8, nv, by rw [ha]; kernel_rfl, hF, hX, hP.imp_left .inr, hO.imp_left .inr, fun h => hS (h.resolve_left (by decide)), fun h => hV (h.resolve_left (by decide)), fun h => hQ (h.resolve_left (by decide)), fun h => e0 (h.resolve_left (by decide)), fun h => e1 (h.resolve_left (by decide)), fun h => e2 (h.resolve_left (by decide)), fun h => e3 (h.resolve_left (by decide)), fun h => e4 (h.resolve_left (by decide)), fun h => e5 (h.resolve_left (by decide)), fun h => e6 (h.resolve_left (by decide)), fun _ => rfl, fun h => e8 (h.resolve_left (by decide)), fun h => e9 (h.resolve_left (by decide)), fun h => e10 (h.resolve_left (by decide)), fun h => e11 (h.resolve_left (by decide))⟩
        | 8, ho =>
          cases Option.some.inj ho
          have ev : a.tmps[42]?.getD undef = .agg (wcells (at', xs)).toArray := by rw [ha, e7 (hd ⟨7, .data⟩ (by simp) rfl)]; kernel_rfl
          refine wp_value (w' := w'.alloc (.cells (wcells (at', xs)).toArray 107)) (v := .slice (some ⟨w'.heap.size, 0, none⟩) 1 1) (run_slice59 (eval_of ev) hx rfl) ?_
          exact ⟨v35, v36, v37, v38, v39, v40, v41, v42, (.slice (some ⟨w'.heap.size, 0, none⟩) 1 1), v44, v45, v46, w'.heap.size, nv, by rw [ha]; kernel_rfl, hF.trans (Fr.grown (World.grownBy_alloc _ _ none) (.inl rfl)), (Below.heap_alloc _ _ _ (lt_of_block hX)).trans hX, hP.imp .inr (fun h => (Below.heap_alloc _ _ _ (lt_of_block h)).trans h), hO.imp .inr (fun h => own_same h (fun g hg => Below.heap_alloc _ _ _ (by obtain ⟨_, _, hh⟩ := own_block h hg; exact lt_of_block hh))), fun _ => ⟨hF.size, heap_alloc_new _ _⟩, fun h => absurd (h.resolve_left (by decide)) (fun h => hn (hcl 9 _ rfl h ⟨8, .data⟩ (by simp) rfl)), fun h => absurd (h.resolve_left (by decide)) (fun h => hn (hcl 9 _ rfl (hcl 12 _ rfl h ⟨9, .data⟩ (by simp) rfl) ⟨8, .data⟩ (by simp) rfl)), fun h => e0 (h.resolve_left (by decide)), fun h => e1 (h.resolve_left (by decide)), fun h => e2 (h.resolve_left (by decide)), fun h => e3 (h.resolve_left (by decide)), fun h => e4 (h.resolve_left (by decide)), fun h => e5 (h.resolve_left (by decide)), fun h => e6 (h.resolve_left (by decide)), fun h => e7 (h.resolve_left (by decide)), fun _ => rfl, fun h => e9 (h.resolve_left (by decide)), fun h => e10 (h.resolve_left (by decide)), fun h => e11 (h.resolve_left (by decide))⟩
        | 9, ho =>
          cases Option.some.inj ho
          have ev : a.tmps[39]?.getD undef = pv := by rw [ha, e4 (hd ⟨4, .data⟩ (by simp) rfl)]; kernel_rfl
          have ev' : a.tmps[43]?.getD undef = .slice (some ⟨b8, 0, none⟩) 1 1 := by rw [ha, e8 (hd ⟨8, .data⟩ (by simp) rfl)]; kernel_rfl
          obtain ⟨q1, q2⟩ := hS (hd ⟨8, .data⟩ (by simp) rfl)
          obtain ⟨v9, w9, hr, k1, HG, k3⟩ := append_dev w' n₀ 102 pv L.length _ (hO.resolve_left hn) (q := (at', xs)) hx b8 q2 hL (Nat.le_trans D3.base hF.size)
          refine wp_value (w' := w9) (v := v9) (by simp [execOp, resolve, invoke, builtin, Act.eval, ev, ev', hr]) ?_
          exact ⟨v35, v36, v37, v38, v39, v40, v41, v42, v43, (v9), v45, v46, b8, v9, by rw [ha]; kernel_rfl, ⟨HG.os.trans hF.os, HG.tape.trans hF.tape, HG.output.trans hF.output, Nat.le_trans hF.size HG.size, fun i hi h1 h2 h3 h4 => ⟨(HG.block i (Nat.lt_of_lt_of_le hi hF.size) (fun e => h4 e.symm)).trans (hF.keep i hi h1 h2 h3 h4).1, h4⟩⟩, (HG.block _ (lt_of_block hX) (fun e => hxpv e.symm)).trans hX, hP.imp .inr (fun h => (HG.block _ (lt_of_block h) (fun e => D3.pvp e.symm)).trans h), .inl (.inl rfl), fun h => ⟨q1, (HG.block _ (lt_of_block q2) (fun e => by have := D3.pvlt e.symm; omega)).trans q2⟩, fun _ => ⟨k1, fun g hg => (k3 g hg).imp_right (fun h => Nat.le_trans hF.size h)⟩, fun h => absurd (h.resolve_left (by decide)) (fun h => hn (hcl 12 _ rfl h ⟨9, .data⟩ (by simp) rfl)), fun h => e0 (h.resolve_left (by decide)), fun h => e1 (h.resolve_left (by decide)), fun h => e2 (h.resolve_left (by decide)), fun h => e3 (h.resolve_left (by decide)), fun h => e4 (h.resolve_left (by decide)), fun h => e5 (h.resolve_left (by decide)), fun h => e6 (h.resolve_left (by decide)), fun h => e7 (h.resolve_left (by decide)), fun h => e8 (h.resolve_left (by decide)), fun _ => rfl, fun h => e10 (h.resolve_left (by decide)), fun h => e11 (h.resolve_left (by decide))⟩
        | 10, ho =>
          cases Option.some.inj ho
          have ev : a.tmps[35]?.getD undef = .pointer (some ⟨p, 0, none⟩) := by rw [ha, e0 (hd ⟨0, .data⟩ (by simp) rfl)]; kernel_rfl
          refine wp_value (w' := w') (v := .pointer (some ⟨p, 0, none⟩)) (by simp [execOp, ev, go_sem]) ?_
          exact ⟨v35, v36, v37, v38, v39, v40, v41, v42, v43, v44, (.pointer (some ⟨p, 0, none⟩)), v46, b8, nv, by rw [ha]; kernel_rfl, hF, hX, hP.imp_left .inr, hO.imp_left .inr, fun h => hS (h.resolve_left (by decide)), fun h => hV (h.resolve_left (by decide)), fun h => hQ (h.resolve_left (by decide)), fun h => e0 (h.resolve_left (by decide)), fun h => e1 (h.resolve_left (by decide)), fun h => e2 (h.resolve_left (by decide)), fun h => e3 (h.resolve_left (by decide)), fun h => e4 (h.resolve_left (by decide)), fun h => e5 (h.resolve_left (by decide)), fun h => e6 (h.resolve_left (by decide)), fun h => e7 (h.resolve_left (by decide)), fun h => e8 (h.resolve_left (by decide)), fun h => e9 (h.resolve_left (by decide)), fun _ => rfl, fun h => e11 (h.resolve_left (by decide))⟩
        | 11, ho =>
          cases Option.some.inj ho
          have ev : a.tmps[45]?.getD undef = .pointer (some ⟨p, 0, none⟩) := by rw [ha, e10 (hd ⟨10, .data⟩ (by simp) rfl)]; kernel_rfl
          refine wp_value (w' := w') (v := .pointer (some ⟨p, 3, none⟩)) (by simp [execOp, ev, go_sem]) ?_
          exact ⟨v35, v36, v37, v38, v39, v40, v41, v42, v43, v44, v45, (.pointer (some ⟨p, 3, none⟩)), b8, nv, by rw [ha]; kernel_rfl, hF, hX, hP.imp_left .inr, hO.imp_left .inr, fun h => hS (h.resolve_left (by decide)), fun h => hV (h.resolve_left (by decide)), fun h => hQ (h.resolve_left (by decide)), fun h => e0 (h.resolve_left (by decide)), fun h => e1 (h.resolve_left (by decide)), fun h => e2 (h.resolve_left (by decide)), fun h => e3 (h.resolve_left (by decide)), fun h => e4 (h.resolve_left (by decide)), fun h => e5 (h.resolve_left (by decide)), fun h => e6 (h.resolve_left (by decide)), fun h => e7 (h.resolve_left (by decide)), fun h => e8 (h.resolve_left (by decide)), fun h => e9 (h.resolve_left (by decide)), fun h => e10 (h.resolve_left (by decide)), fun _ => rfl⟩
        | 12, ho =>
          cases Option.some.inj ho
          have ev : a.tmps[46]?.getD undef = .pointer (some ⟨p, 3, none⟩) := by rw [ha, e11 (hd ⟨11, .data⟩ (by simp) rfl)]; kernel_rfl
          have ev' : a.tmps[44]?.getD undef = nv := by rw [ha, e9 (hd ⟨9, .data⟩ (by simp) rfl)]; kernel_rfl
          obtain ⟨q1, q2⟩ := hV (hd ⟨9, .data⟩ (by simp) rfl)
          have hp := hP.resolve_left hn
          obtain ⟨_, _, _, hc, _, _, hf⟩ := dev_cells hp
          have hnp : ∀ g, nv.ownBlock = some g → g ≠ p := by
            rintro g hg rfl
            obtain ⟨_, cur, hh⟩ := own_block q1 hg
            rw [hp] at hh
            cases hh
          obtain ⟨g9, cap9, rfl⟩ := own_succ q1
          refine wp_skip (w' := w'.setCell ⟨p, 3, none⟩ (.slice (some ⟨g9, 0, none⟩) (L.length + 1) cap9)) (by simp [execOp, Act.eval, ev, ev', go_sem, hc, hf]) ?_
          exact ⟨v35, v36, v37, v38, v39, v40, v41, v42, v43, v44, v45, v46, b8, (.slice (some ⟨g9, 0, none⟩) (L.length + 1) cap9), by rw [ha]; kernel_rfl, hF.trans (Fr.set _ _ _ _), (heap_setCell_other _ _ _ _ hxp).trans hX, .inl (.inl rfl), .inl (.inr (hd ⟨9, .data⟩ (by simp) rfl)), fun h => ⟨(hS (h.resolve_left (by decide))).1, (heap_setCell_other _ _ _ _ (by have := (hS (h.resolve_left (by decide))).1; have := D3.lt; show b8 ≠ p; omega)).trans (hS (h.resolve_left (by decide))).2⟩, fun _ => ⟨own_same q1 (fun g hg => heap_setCell_other _ _ _ _ (hnp g hg)), q2⟩, fun _ => devO_pv hp _, fun h => e0 (h.resolve_left (by decide)), fun h => e1 (h.resolve_left (by decide)), fun h => e2 (h.resolve_left (by decide)), fun h => e3 (h.resolve_left (by decide)), fun h => e4 (h.resolve_left (by decide)), fun h => e5 (h.resolve_left (by decide)), fun h => e6 (h.resolve_left (by decide)), fun h => e7 (h.resolve_left (by decide)), fun h => e8 (h.resolve_left (by decide)), fun h => e9 (h.resolve_left (by decide)), fun h => e10 (h.resolve_left (by decide)), fun h => e11 (h.resolve_left (by decide))⟩
        | i + 13, ho => simp at ho
      case done =>
        rintro D a w' ⟨v35, v36, v37, v38, v39, v40, v41, v42, v43, v44, v45, v46, b8, nv, ha, hF, hX, hP, hO, hS, hV, hQ, e0, e1, e2, e3, e4, e5, e6, e7, e8, e9, e10, e11⟩ hall
        obtain ⟨q1, q2⟩ := hV (hall 9 (by decide))
        have q3 := hQ (hall 12 (by decide))
        clear e0 e1 e2 e3 e4 e5 e6 e7 e8 e9 e10 e11 hP hO hS hV hQ hall
        rw [ha]
        clear ha
        simp only [Act.put, List.setIfInBounds_toArray, List.set_cons_zero, List.set_cons_succ]
        have hDf : Dev w' n₀ p bs bn nv size G0 (fun i => if i = at' then xs else G1 i) (L ++ [(at', xs)]) (0) false :=
          ⟨q3, D3.safe.same (hF.keep _ D3.safe.lt D3.pbs.symm D3.pbs.symm D3.pbs.symm D3.pvs).1, D3.now.same (hF.keep _ D3.now.lt D3.pbn.symm D3.pbn.symm D3.pbn.symm D3.pvn).1,
            by rw [List.length_append, List.flatMap_append]; simpa using q1, fun q hq => by
              rcases List.mem_append.1 hq with hq | hq
              · exact D3.secs q hq
              · rw [List.mem_singleton.1 hq]; exact hx, D3.ne, D3.fromP, D3.fromS, D3.fromN⟩
        have hFf : Fr p bs bn w pv w' nv := hF3.trans ⟨hF.os, hF.tape, hF.output, hF.size, fun i hi h1 h2 h3 h4 => ⟨(hF.keep i hi h1 h1 h1 h4).1, fun e => (q2 i e).elim h4 (fun h => by omega)⟩⟩
        clear hF hX q1 q2 q3 D3 hF3 A3
        go_wp2_with fail
        go_ret
        exact ⟨rfl, nv, by rw [hmx.out]; exact hDf, hFf⟩
  · have hmx : Hid (max 0 (left - 1) = left - 1) := by show _ = _; omega
    have hgt : 1 < left := by omega
    have hO := devO_left hD.obj (left - 1)
    have D2 := hD.set hO
    have hF2 : Fr p bs bn w pv ((w.alloc (.cells (cellsB xs) 105)).setCell ⟨p, 4, none⟩ (.int .i64 (left - 1))) pv := hF.trans (Fr.set _ _ _ _)
    have A2 : ((w.alloc (.cells (cellsB xs) 105)).setCell ⟨p, 4, none⟩ (.int .i64 (left - 1))).heap[w.heap.size]? = some (.cells (cellsB xs) 105) := (heap_setCell_other _ _ _ _ (by have := h.lt; show w.heap.size ≠ p; omega)).trans A
    go_wp2_with fail
    generalize hw2 : (w.alloc (.cells (cellsB xs) 105)).setCell ⟨p, 4, none⟩ (.int .i64 (left - 1)) = w2 at *
    obtain ⟨d0, d1, d2, d3, d4, d5, df⟩ := dev_cells D2.obj
    have hpn : p ≠ bn := D2.pbn
    have hwn : w.heap.size ≠ bn := by have := h.now.lt; omega
    clear hw2 hO hD c0 c1 c2 c3 c4 c5 cf hk hF A hw h1' hsz
    refine wp_region_inv' (fun A D a w' => ∃ v28 v29 v30 v31 v32 v33 v34, a = (((((((A.put (some 28) v28).put (some 29) v29).put (some 30) v30).put (some 31) v31).put (some 32) v32).put (some 33) v33).put (some 34) v34) ∧ w2.grownBy w' (some bn) ∧ (D 6 ∨ HasSec w' bn G1) ∧ (D 6 → HasSec w' bn (fun i => if i = at' then xs else G1 i)) ∧ (D 0 → v28 = .pointer (some ⟨p, 0, none⟩)) ∧ (D 1 → v29 = .pointer (some ⟨p, 0, none⟩)) ∧ (D 2 → v30 = .pointer (some ⟨p, 2, none⟩)) ∧ (D 3 → v31 = .map (some bn)) ∧ (D 4 → v32 = .int .i64 at') ∧ (D 5 → v33 = .agg (cellsB xs)) ∧ (D 6 → v34 = .tuple #[])) (by kernel_rfl) (by kernel_rfl) ?mono ?start ?step ?done
    case mono =>
      rintro D D' a w' hD ⟨v28, v29, v30, v31, v32, v33, v34, ha, hB, hN, hM, e0, e1, e2, e3, e4, e5, e6⟩
      exact ⟨v28, v29, v30, v31, v32, v33, v34, ha, hB, hN.imp_left (hD 6).1, fun h => hM ((hD 6).2 h), fun h => e0 ((hD 0).2 h), fun h => e1 ((hD 1).2 h), fun h => e2 ((hD 2).2 h), fun h => e3 ((hD 3).2 h), fun h => e4 ((hD 4).2 h), fun h => e5 ((hD 5).2 h), fun h => e6 ((hD 6).2 h)⟩
    case start => exact ⟨undef, undef, undef, undef, undef, undef, undef, by kernel_rfl, ⟨rfl, rfl, rfl, Nat.le_refl _, fun _ _ _ => rfl⟩, .inr (D2.now.same rfl), fun h => h.elim, fun h => h.elim, fun h => h.elim, fun h => h.elim, fun h => h.elim, fun h => h.elim, fun h => h.elim, fun h => h.elim⟩
    case step =>
      intro i o ho D a w' hI hn hcl hd
      obtain ⟨v28, v29, v30, v31, v32, v33, v34, ha, hB, hN, hM, e0, e1, e2, e3, e4, e5, e6⟩ := hI
      match i, ho with
      | 0, ho =>
        cases Option.some.inj ho
        have ev : a.tmps[0]?.getD undef = .pointer (some ⟨p, 0, none⟩) := by rw [ha]; kernel_rfl
        refine wp_value (w' := w') (v := .pointer (some ⟨p, 0, none⟩)) (by simp [execOp, ev, go_sem]) ?_
        exact ⟨(.pointer (some ⟨p, 0, none⟩)), v29, v30, v31, v32, v33, v34, by rw [ha]; kernel_rfl, hB, hN.imp_left .inr, fun h => hM (h.resolve_left (by decide)), fun _ => rfl, fun h => e1 (h.resolve_left (by decide)), fun h => e2 (h.resolve_left (by decide)), fun h => e3 (h.resolve_left (by decide)), fun h => e4 (h.resolve_left (by decide)), fun h => e5 (h.resolve_left (by decide)), fun h => e6 (h.resolve_left (by decide))⟩
      | 1, ho =>
        cases Option.some.inj ho
        have ev : a.tmps[28]?.getD undef = .pointer (some ⟨p, 0, none⟩) := by rw [ha, e0 (hd ⟨0, .data⟩ (by simp) rfl)]; kernel_rfl
        refine wp_value (w' := w') (v := .pointer (some ⟨p, 0, none⟩)) (by simp [execOp, ev, go_sem]) ?_
        exact ⟨v28, (.pointer (some ⟨p, 0, none⟩)), v30, v31, v32, v33, v34, by rw [ha]; kernel_rfl, hB, hN.imp_left .inr, fun h => hM (h.resolve_left (by decide)), fun h => e0 (h.resolve_left (by decide)), fun _ => rfl, fun h => e2 (h.resolve_left (by decide)), fun h => e3 (h.resolve_left (by decide)), fun h => e4 (h.resolve_left (by decide)), fun h => e5 (h.resolve_left (by decide)), fun h => e6 (h.resolve_left (by decide))⟩
      | 2, ho =>
        cases Option.some.inj ho
        have ev : a.tmps[29]?.getD undef = .pointer (some ⟨p, 0, none⟩) := by rw [ha, e1 (hd ⟨1, .data⟩ (by simp) rfl)]; kernel_rfl
        refine wp_value (w' := w') (v := .pointer (some ⟨p, 2, none⟩)) (by simp [execOp, ev, go_sem]) ?_
        exact ⟨v28, v29, (.pointer (some ⟨p, 2, none⟩)), v31, v32, v33, v34, by rw [ha]; kernel_rfl, hB, hN.imp_left .inr, fun h => hM (h.resolve_left (by decide)), fun h => e0 (h.resolve_left (by decide)), fun h => e1 (h.resolve_left (by decide)), fun _ => rfl, fun h => e3 (h.resolve_left (by decide)), fun h => e4 (h.resolve_left (by decide)), fun h => e5 (h.resolve_left (by decide)), fun h => e6 (h.resolve_left (by decide))⟩
      | 3, ho =>
        cases Option.some.inj ho
        have ev : a.tmps[30]?.getD undef = .pointer (some ⟨p, 2, none⟩) := by rw [ha, e2 (hd ⟨2, .data⟩ (by simp) rfl)]; kernel_rfl
        have hc := hB.cell d2 (by simpa using hpn)
        refine wp_value (w' := w') (v := .map (some bn)) (by simp [execOp, ev, go_sem, hc]) ?_
        exact ⟨v28, v29, v30, (.map (some bn)), v32, v33, v34, by rw [ha]; kernel_rfl, hB, hN.imp_left .inr, fun h => hM (h.resolve_left (by decide)), fun h => e0 (h.resolve_left (by decide)), fun h => e1 (h.resolve_left (by decide)), fun h => e2 (h.resolve_left (by decide)), fun _ => rfl, fun h => e4 (h.resolve_left (by decide)), fun h => e5 (h.resolve_left (by decide)), fun h => e6 (h.resolve_left (by decide))⟩
      | 4, ho =>
        cases Option.some.inj ho
        have ev : a.tmps[1]?.getD undef = .int .i64 at' := by rw [ha]; kernel_rfl
        refine wp_value (w' := w') (v := .int .i64 at') (by simp [execOp, ev, go_sem]) ?_
        exact ⟨v28, v29, v30, v31, (.int .i64 at'), v33, v34, by rw [ha]; kernel_rfl, hB, hN.imp_left .inr, fun h => hM (h.resolve_left (by decide)), fun h => e0 (h.resolve_left (by decide)), fun h => e1 (h.resolve_left (by decide)), fun h => e2 (h.resolve_left (by decide)), fun h => e3 (h.resolve_left (by decide)), fun _ => rfl, fun h => e5 (h.resolve_left (by decide)), fun h => e6 (h.resolve_left (by decide))⟩
      | 5, ho =>
        cases Option.some.inj ho
        have ev : a.tmps[5]?.getD undef = .pointer (some ⟨w.heap.size, 0, none⟩) := by rw [ha]; kernel_rfl
        refine wp_load_row 105 (.tmp 5) rfl w.heap.size (eval_of ev) 105 _ _ _ ((hB.block _ (lt_of_block A2) (by simpa using hwn)).trans A2) Try.underlying105 rfl (size57 hx) ?_
        exact ⟨v28, v29, v30, v31, v32, (.agg (cellsB xs)), v34, by rw [ha]; kernel_rfl, hB, hN.imp_left .inr, fun h => hM (h.resolve_left (by decide)), fun h => e0 (h.resolve_left (by decide)), fun h => e1 (h.resolve_left (by decide)), fun h => e2 (h.resolve_left (by decide)), fun h => e3 (h.resolve_left (by decide)), fun h => e4 (h.resolve_left (by decide)), fun _ => rfl, fun h => e6 (h.resolve_left (by decide))⟩
      | 6, ho =>
        cases Option.some.inj ho
        have ev : a.tmps[31]?.getD undef = .map (some bn) := by rw [ha, e3 (hd ⟨3, .data⟩ (by simp) rfl)]; kernel_rfl
        have ev' : a.tmps[32]?.getD undef = .int .i64 at' := by rw [ha, e4 (hd ⟨4, .data⟩ (by simp) rfl)]; kernel_rfl
        have ev'' : a.tmps[33]?.getD undef = .agg (cellsB xs) := by rw [ha, e5 (hd ⟨5, .data⟩ (by simp) rfl)]; kernel_rfl
        refine wp_enter (f := 64) (args := #[.map (some bn), .int .i64 at', .agg (cellsB xs)]) (by simp [execOp, ev, ev', ev'', go_sem]) ?_
        refine (put_any at' hx (hN.resolve_left hn)).mono ?_
        rintro e w6 ⟨rfl, hM6, HG⟩
        refine ⟨_, rfl, ?_⟩
        exact ⟨v28, v29, v30, v31, v32, v33, (.tuple #[]), by rw [ha]; kernel_rfl, World.grownBy.trans hB HG, .inl (.inl rfl), fun _ => hM6, fun h => e0 (h.resolve_left (by decide)), fun h => e1 (h.resolve_left (by decide)), fun h => e2 (h.resolve_left (by decide)), fun h => e3 (h.resolve_left (by decide)), fun h => e4 (h.resolve_left (by decide)), fun h => e5 (h.resolve_left (by decide)), fun _ => rfl⟩
      | i + 7, ho => simp at ho
    case done =>
      rintro D a w' ⟨v28, v29, v30, v31, v32, v33, v34, ha, hB, hN, hM, e0, e1, e2, e3, e4, e5, e6⟩ hall
      have hM' := hM (hall 6 (by decide))
      obtain rfl := e0 (hall 0 (by decide))
      obtain rfl := e1 (hall 1 (by decide))
      obtain rfl := e2 (hall 2 (by decide))
      obtain rfl := e3 (hall 3 (by decide))
      obtain rfl := e4 (hall 4 (by decide))
      obtain rfl := e5 (hall 5 (by decide))
      obtain rfl := e6 (hall 6 (by decide))
      clear hN hM hall
      rw [ha]
      clear ha
      simp only [Act.put, List.setIfInBounds_toArray, List.set_cons_zero, List.set_cons_succ]
      have D3 : Dev w' n₀ p bs bn pv size G0 (fun i => if i = at' then xs else G1 i) L (left - 1) false :=
        ⟨(hB.block _ (lt_of_block D2.obj) (by simpa using hpn)).trans D2.obj, D2.safe.same (hB.block _ D2.safe.lt (by simpa using D2.ne)), hM', own_same D2.pend (fun g hg => hB.block _ (D2.pvlt hg) (by rw [← hg]; exact D2.pvn)), D2.secs, D2.ne, D2.fromP, D2.fromS, D2.fromN⟩
      have A3 := (hB.block _ (lt_of_block A2) (by simpa using hwn)).trans A2
      have hF3 := hF2.trans (Fr.grown (pv := pv) (p := p) (bs := bs) (bn := bn) hB (.inr (.inr (.inr rfl))))
      have hxp : w.heap.size ≠ p := by have := h.lt; omega
      have hxpv : pv.ownBlock ≠ some w.heap.size := fun e => by have := h.pvlt e; omega
      clear hB hM' D2 A2 hF2 e0 e1 e2 e3 e4 e5 e6 hpn hwn d0 d1 d2 d3 d4 d5 df
      go_wp2_with fail
      generalize w' = w3 at *
      refine wp_region_inv' (fun A D a w' => ∃ v35 v36 v37 v38 v39 v40 v41 v42 v43 v44 v45 v46 b8 nv, a = ((((((((((((A.put (some 35) v35).put (some 36) v36).put (some 37) v37).put (some 38) v38).put (some 39) v39).put (some 40) v40).put (some 41) v41).put (some 42) v42).put (some 43) v43).put (some 44) v44).put (some 45) v45).put (some 46) v46) ∧ Fr p p p w3 pv w' pv ∧ w'.heap[w.heap.size]? = some (.cells (cellsB xs) 105) ∧ (D 12 ∨ w'.heap[p]? = some (devO size bs bn pv (left - 1) false)) ∧ (D 9 ∨ w'.ownsRow n₀ 107 129 pv L.length (L.flatMap wcells)) ∧ (D 8 → w3.heap.size ≤ b8 ∧ w'.heap[b8]? = some (.cells (wcells (at', xs)).toArray 107 (0, 0))) ∧ (D 9 → w'.ownsRow n₀ 107 129 nv (L.length + 1) (L.flatMap wcells ++ wcells (at', xs)) ∧ (∀ g, nv.ownBlock = some g → pv.ownBlock = some g ∨ w3.heap.size ≤ g)) ∧ (D 12 → w'.heap[p]? = some (devO size bs bn nv (left - 1) false)) ∧ (D 0 → v35 = .pointer (some ⟨p, 0, none⟩)) ∧ (D 1 → v36 = .pointer (some ⟨p, 0, none⟩)) ∧ (D 2 → v37 = .pointer (some ⟨p, 0, none⟩)) ∧ (D 3 → v38 = .pointer (some ⟨p, 3, none⟩)) ∧ (D 4 → v39 = pv) ∧ (D 5 → v40 = .int .i64 at') ∧ (D 6 → v41 = .agg (cellsB xs)) ∧ (D 7 → v42 = .agg (wcells (at', xs)).toArray) ∧ (D 8 → v43 = .slice (some ⟨b8, 0, none⟩) 1 1) ∧ (D 9 → v44 = nv) ∧ (D 10 → v45 = .pointer (some ⟨p, 0, none⟩)) ∧ (D 11 → v46 = .pointer (some ⟨p, 3, none⟩))) (by kernel_rfl) (by kernel_rfl) ?mono ?start ?step ?done
      case mono =>
        rintro D D' a w' hD ⟨v35, v36, v37, v38, v39, v40, v41, v42, v43, v44, v45, v46, b8, nv, ha, hF, hX, hP, hO, hS, hV, hQ, e0, e1, e2, e3, e4, e5, e6, e7, e8, e9, e10, e11⟩
        exact ⟨v35, v36, v37, v38, v39, v40, v41, v42, v43, v44, v45, v46, b8, nv, ha, hF, hX, hP.imp_left (hD 12).1, hO.imp_left (hD 9).1, fun h => hS ((hD 8).2 h), fun h => hV ((hD 9).2 h), fun h => hQ ((hD 12).2 h), fun h => e0 ((hD 0).2 h), fun h => e1 ((hD 1).2 h), fun h => e2 ((hD 2).2 h), fun h => e3 ((hD 3).2 h), fun h => e4 ((hD 4).2 h), fun h => e5 ((hD 5).2 h), fun h => e6 ((hD 6).2 h), fun h => e7 ((hD 7).2 h), fun h => e8 ((hD 8).2 h), fun h => e9 ((hD 9).2 h), fun h => e10 ((hD 10).2 h), fun h => e11 ((hD 11).2 h)⟩
      case start => exact ⟨undef, undef, undef, undef, undef, undef, undef, undef, undef, undef, undef, undef, 0, pv, by kernel_rfl, ⟨rfl, rfl, rfl, Nat.le_refl _, fun _ _ _ _ _ h => ⟨rfl, h⟩⟩, A3, .inr (D3.obj), .inr (own_same D3.pend (fun _ _ => rfl)), fun h => h.elim, fun h => h.elim, fun h => h.elim, fun h => h.elim, fun h => h.elim, fun h => h.elim, fun h => h.elim, fun h => h.elim, fun h => h.elim, fun h => h.elim, fun h => h.elim, fun h => h.elim, fun h => h.elim, fun h => h.elim, fun h => h.elim⟩
      case step =>
        intro i o ho D a w' hI hn hcl hd
        obtain ⟨v35, v36, v37, v38, v39, v40, v41, v42, v43, v44, v45, v46, b8, nv, ha, hF, hX, hP, hO, hS, hV, hQ, e0, e1, e2, e3, e4, e5, e6, e7, e8, e9, e10, e11⟩ := hI
        match i, ho with
        | 0, ho =>
          cases Option.some.inj ho
          have ev : a.tmps[0]?.getD undef = .pointer (some ⟨p, 0, none⟩) := by rw [ha]; kernel_rfl
          refine wp_value (w' := w') (v := .pointer (some ⟨p, 0, none⟩)) (by simp [execOp, ev, go_sem]) ?_
          exact ⟨(.pointer (some ⟨p, 0, none⟩)), v36, v37, v38, v39, v40, v41, v42, v43, v44, v45, v46, b8, nv, by rw [ha]; kernel_rfl, hF, hX, hP.imp_left .inr, hO.imp_left .inr, fun h => hS (h.resolve_left (by decide)), fun h => hV (h.resolve_left (by decide)), fun h => hQ (h.resolve_left (by decide)), fun _ => rfl, fun h => e1 (h.resolve_left (by decide)), fun h => e2 (h.resolve_left (by decide)), fun h => e3 (h.resolve_left (by decide)), fun h => e4 (h.resolve_left (by decide)), fun h => e5 (h.resolve_left (by decide)), fun h => e6 (h.resolve_left (by decide)), fun h => e7 (h.resolve_left (by decide)), fun h => e8 (h.resolve_left (by decide)), fun h => e9 (h.resolve_left (by decide)), fun h => e10 (h.resolve_left (by decide)), fun h => e11 (h.resolve_left (by decide))⟩
        | 1, ho =>
          cases Option.some.inj ho
          have ev : a.tmps[0]?.getD undef = .pointer (some ⟨p, 0, none⟩) := by rw [ha]; kernel_rfl
          refine wp_value (w' := w') (v := .pointer (some ⟨p, 0, none⟩)) (by simp [execOp, ev, go_sem]) ?_
          exact ⟨v35, (.pointer (some ⟨p, 0, none⟩)), v37, v38, v39, v40, v41, v42, v43, v44, v45, v46, b8, nv, by rw [ha]; kernel_rfl, hF, hX, hP.imp_left .inr, hO.imp_left .inr, fun h => hS (h.resolve_left (by decide)), fun h => hV (h.resolve_left (by decide)), fun h => hQ (h.resolve_left (by decide)), fun h => e0 (h.resolve_left (by decide)), fun _ => rfl, fun h => e2 (h.resolve_left (by decide)), fun h => e3 (h.resolve_left (by decide)), fun h => e4 (h.resolve_left (by decide)), fun h => e5 (h.resolve_left (by decide)), fun h => e6 (h.resolve_left (by decide)), fun h => e7 (h.resolve_left (by decide)), fun h => e8 (h.resolve_left (by decide)), fun h => e9 (h.resolve_left (by decide)), fun h => e10 (h.resolve_left (by decide)), fun h => e11 (h.resolve_left (by decide))⟩
        | 2, ho =>
          cases Option.some.inj ho
          have ev : a.tmps[36]?.getD undef = .pointer (some ⟨p, 0, none⟩) := by rw [ha, e1 (hd ⟨1, .data⟩ (by simp) rfl)]; kernel_rfl
          refine wp_value (w' := w') (v := .pointer (some ⟨p, 0, none⟩)) (by simp [execOp, ev, go_sem]) ?_
          exact ⟨v35, v36, (.pointer (some ⟨p, 0, none⟩)), v38, v39, v40, v41, v42, v43, v44, v45, v46, b8, nv, by rw [ha]; kernel_rfl, hF, hX, hP.imp_left .inr, hO.imp_left .inr, fun h => hS (h.resolve_left (by decide)), fun h => hV (h.resolve_left (by decide)), fun h => hQ (h.resolve_left (by decide)), fun h => e0 (h.resolve_left (by decide)), fun h => e1 (h.resolve_left (by decide)), fun _ => rfl, fun h => e3 (h.resolve_left (by decide)), fun h => e4 (h.resolve_left (by decide)), fun h => e5 (h.resolve_left (by decide)), fun h => e6 (h.resolve_left (by decide)), fun h => e7 (h.resolve_left (by decide)), fun h => e8 (h.resolve_left (by decide)), fun h => e9 (h.resolve_left (by decide)), fun h => e10 (h.resolve_left (by decide)), fun h => e11 (h.resolve_left (by decide))⟩
        | 3, ho =>
          cases Option.some.inj ho
          have ev : a.tmps[37]?.getD undef = .pointer (some ⟨p, 0, none⟩) := by rw [ha, e2 (hd ⟨2, .data⟩ (by simp) rfl)]; kernel_rfl
          refine wp_value (w' := w') (v := .pointer (some ⟨p, 3, none⟩)) (by simp [execOp, ev, go_sem]) ?_
          exact ⟨v35, v36, v37, (.pointer (some ⟨p, 3, none⟩)), v39, v40, v41, v42, v43, v44, v45, v46, b8, nv, by rw [ha]; kernel_rfl, hF, hX, hP.imp_left .inr, hO.imp_left .inr, fun h => hS (h.resolve_left (by decide)), fun h => hV (h.resolve_left (by decide)), fun h => hQ (h.resolve_left (by decide)), fun h => e0 (h.resolve_left (by decide)), fun h => e1 (h.resolve_left (by decide)), fun h => e2 (h.resolve_left (by decide)), fun _ => rfl, fun h => e4 (h.resolve_left (by decide)), fun h => e5 (h.resolve_left (by decide)), fun h => e6 (h.resolve_left (by decide)), fun h => e7 (h.resolve_left (by decide)), fun h => e8 (h.resolve_left (by decide)), fun h => e9 (h.resolve_left (by decide)), fun h => e10 (h.resolve_left (by decide)), fun h => e11 (h.resolve_left (by decide))⟩
        | 4, ho =>
          cases Option.some.inj ho
          have ev : a.tmps[38]?.getD undef = .pointer (some ⟨p, 3, none⟩) := by rw [ha, e3 (hd ⟨3, .data⟩ (by simp) rfl)]; kernel_rfl
          obtain ⟨_, _, _, hc, _⟩ := dev_cells (hP.resolve_left (fun h => hn (hcl 9 _ rfl (hcl 12 _ rfl h ⟨9, .data⟩ (by simp) rfl) ⟨4, .data⟩ (by simp) rfl)))
          refine wp_value (w' := w') (v := pv) (by simp [execOp, ev, go_sem, hc]) ?_
          exact ⟨v35, v36, v37, v38, (pv), v40, v41, v42, v43, v44, v45, v46, b8, nv, by rw [ha]; kernel_rfl, hF, hX, hP.imp_left .inr, hO.imp_left .inr, fun h => hS (h.resolve_left (by decide)), fun h => hV (h.resolve_left (by decide)), fun h => hQ (h.resolve_left (by decide)), fun h => e0 (h.resolve_left (by decide)), fun h => e1 (h.resolve_left (by decide)), fun h => e2 (h.resolve_left (by decide)), fun h => e3 (h.resolve_left (by decide)), fun _ => rfl, fun h => e5 (h.resolve_left (by decide)), fun h => e6 (h.resolve_left (by decide)), fun h => e7 (h.resolve_left (by decide)), fun h => e8 (h.resolve_left (by decide)), fun h => e9 (h.resolve_left (by decide)), fun h => e10 (h.resolve_left (by decide)), fun h => e11 (h.resolve_left (by decide))⟩
        | 5, ho =>
          cases Option.some.inj ho
          have ev : a.tmps[1]?.getD undef = .int .i64 at' := by rw [ha]; kernel_rfl
          refine wp_value (w' := w') (v := .int .i64 at') (by simp [execOp, ev, go_sem]) ?_
          exact ⟨v35, v36, v37, v38, v39, (.int .i64 at'), v41, v42, v43, v44, v45, v46, b8, nv, by rw [ha]; kernel_rfl, hF, hX, hP.imp_left .inr, hO.imp_left .inr, fun h => hS (h.resolve_left (by decide)), fun h => hV (h.resolve_left (by decide)), fun h => hQ (h.resolve_left (by decide)), fun h => e0 (h.resolve_left (by decide)), fun h => e1 (h.resolve_left (by decide)), fun h => e2 (h.resolve_left (by decide)), fun h => e3 (h.resolve_left (by decide)), fun h => e4 (h.resolve_left (by decide)), fun _ => rfl, fun h => e6 (h.resolve_left (by decide)), fun h => e7 (h.resolve_left (by decide)), fun h => e8 (h.resolve_left (by decide)), fun h => e9 (h.resolve_left (by decide)), fun h => e10 (h.resolve_left (by decide)), fun h => e11 (h.resolve_left (by decide))⟩
        | 6, ho =>
          cases Option.some.inj ho
          have ev : a.tmps[5]?.getD undef = .pointer (some ⟨w.heap.size, 0, none⟩) := by rw [ha]; kernel_rfl
          refine wp_load_row 105 (.tmp 5) rfl w.heap.size (eval_of ev) 105 _ _ _ hX Try.underlying105 rfl (size57 hx) ?_
          exact ⟨v35, v36, v37, v38, v39, v40, (.agg (cellsB xs)), v42, v43, v44, v45, v46, b8, nv, by rw [ha]; kernel_rfl, hF, hX, hP.imp_left .inr, hO.imp_left .inr, fun h => hS (h.resolve_left (by decide)), fun h => hV (h.resolve_left (by decide)), fun h => hQ (h.resolve_left (by decide)), fun h => e0 (h.resolve_left (by decide)), fun h => e1 (h.resolve_left (by decide)), fun h => e2 (h.resolve_left (by decide)), fun h => e3 (h.resolve_left (by decide)), fun h => e4 (h.resolve_left (by decide)), fun h => e5 (h.resolve_left (by decide)), fun _ => rfl, fun h => e7 (h.resolve_left (by decide)), fun h => e8 (h.resolve_left (by decide)), fun h => e9 (h.resolve_left (by decide)), fun h => e10 (h.resolve_left (by decide)), fun h => e11 (h.resolve_left (by decide))⟩
        | 7, ho =>
          cases Option.some.inj ho
          have ev : a.tmps[40]?.getD undef = .int .i64 at' := by rw [ha, e5 (hd ⟨5, .data⟩ (by simp) rfl)]; kernel_rfl
          have ev' : a.tmps[41]?.getD undef = .agg (cellsB xs) := by rw [ha, e6 (hd ⟨6, .data⟩ (by simp) rfl)]; kernel_rfl
          refine wp_value (w' := w') (v := .agg (wcells (at', xs)).toArray) (run_build59 (eval_of ev) (eval_of ev') hx rfl) ?_
          exact ⟨v35, v36, v37, v38, v39, v40, v41, (.agg (wcells (at', xs)).toArray), v43, v44, v45, v46, b8, nv, by rw [ha]; kernel_rfl, hF, hX, hP.imp_left .inr, hO.imp_left .inr, fun h => hS (h.resolve_left (by decide)), fun h => hV (h.resolve_left (by decide)), fun h => hQ (h.resolve_left (by decide)), fun h => e0 (h.resolve_left (by decide)), fun h => e1 (h.resolve_left (by decide)), fun h => e2 (h.resolve_left (by decide)), fun h => e3 (h.resolve_left (by decide)), fun h => e4 (h.resolve_left (by decide)), fun h => e5 (h.resolve_left (by decide)), fun h => e6 (h.resolve_left (by decide)), fun _ => rfl, fun h => e8 (h.resolve_left (by decide)), fun h => e9 (h.resolve_left (by decide)), fun h => e10 (h.resolve_left (by decide)), fun h => e11 (h.resolve_left (by decide))⟩
        | 8, ho =>
          cases Option.some.inj ho
          have ev : a.tmps[42]?.getD undef = .agg (wcells (at', xs)).toArray := by rw [ha, e7 (hd ⟨7, .data⟩ (by simp) rfl)]; kernel_rfl
          refine wp_value (w' := w'.alloc (.cells (wcells (at', xs)).toArray 107)) (v := .slice (some ⟨w'.heap.size, 0, none⟩) 1 1) (run_slice59 (eval_of ev) hx rfl) ?_
          exact ⟨v35, v36, v37, v38, v39, v40, v41, v42, (.slice (some ⟨w'.heap.size, 0, none⟩) 1 1), v44, v45, v46, w'.heap.size, nv, by rw [ha]; kernel_rfl, hF.trans (Fr.grown (World.grownBy_alloc _ _ none) (.inl rfl)), (Below.heap_alloc _ _ _ (lt_of_block hX)).trans hX, hP.imp .inr (fun h => (Below.heap_alloc _ _ _ (lt_of_block h)).trans h), hO.imp .inr (fun h => own_same h (fun g hg => Below.heap_alloc _ _ _ (by obtain ⟨_, _, hh⟩ := own_block h hg; exact lt_of_block hh))), fun _ => ⟨hF.size, heap_alloc_new _ _⟩, fun h => absurd (h.resolve_left (by decide)) (fun h => hn (hcl 9 _ rfl h ⟨8, .data⟩ (by simp) rfl)), fun h => absurd (h.resolve_left (by decide)) (fun h => hn (hcl 9 _ rfl (hcl 12 _ rfl h ⟨9, .data⟩ (by simp) rfl) ⟨8, .data⟩ (by simp) rfl)), fun h => e0 (h.resolve_left (by decide)), fun h => e1 (h.resolve_left (by decide)), fun h => e2 (h.resolve_left (by decide)), fun h => e3 (h.resolve_left (by decide)), fun h => e4 (h.resolve_left (by decide)), fun h => e5 (h.resolve_left (by decide)), fun h => e6 (h.resolve_left (by decide)), fun h => e7 (h.resolve_left (by decide)), fun _ => rfl, fun h => e9 (h.resolve_left (by decide)), fun h => e10 (h.resolve_left (by decide)), fun h => e11 (h.resolve_left (by decide))⟩
        | 9, ho =>
          cases Option.some.inj ho
          have ev : a.tmps[39]?.getD undef = pv := by rw [ha, e4 (hd ⟨4, .data⟩ (by simp) rfl)]; kernel_rfl
          have ev' : a.tmps[43]?.getD undef = .slice (some ⟨b8, 0, none⟩) 1 1 := by rw [ha, e8 (hd ⟨8, .data⟩ (by simp) rfl)]; kernel_rfl
          obtain ⟨q1, q2⟩ := hS (hd ⟨8, .data⟩ (by simp) rfl)
          obtain ⟨v9, w9, hr, k1, HG, k3⟩ := append_dev w' n₀ 102 pv L.length _ (hO.resolve_left hn) (q := (at', xs)) hx b8 q2 hL (Nat.le_trans D3.base hF.size)
          refine wp_value (w' := w9) (v := v9) (by simp [execOp, resolve, invoke, builtin, Act.eval, ev, ev', hr]) ?_
          exact ⟨v35, v36, v37, v38, v39, v40, v41, v42, v43, (v9), v45, v46, b8, v9, by rw [ha]; kernel_rfl, ⟨HG.os.trans hF.os, HG.tape.trans hF.tape, HG.output.trans hF.output, Nat.le_trans hF.size HG.size, fun i hi h1 h2 h3 h4 => ⟨(HG.block i (Nat.lt_of_lt_of_le hi hF.size) (fun e => h4 e.symm)).trans (hF.keep i hi h1 h2 h3 h4).1, h4⟩⟩, (HG.block _ (lt_of_block hX) (fun e => hxpv e.symm)).trans hX, hP.imp .inr (fun h => (HG.block _ (lt_of_block h) (fun e => D3.pvp e.symm)).trans h), .inl (.inl rfl), fun h => ⟨q1, (HG.block _ (lt_of_block q2) (fun e => by have := D3.pvlt e.symm; omega)).trans q2⟩, fun _ => ⟨k1, fun g hg => (k3 g hg).imp_right (fun h => Nat.le_trans hF.size h)⟩, fun h => absurd (h.resolve_left (by decide)) (fun h => hn (hcl 12 _ rfl h ⟨9, .data⟩ (by simp) rfl)), fun h => e0 (h.resolve_left (by decide)), fun h => e1 (h.resolve_left (by decide)), fun h => e2 (h.resolve_left (by decide)), fun h => e3 (h.resolve_left (by decide)), fun h => e4 (h.resolve_left (by decide)), fun h => e5 (h.resolve_left (by decide)), fun h => e6 (h.resolve_left (by decide)), fun h => e7 (h.resolve_left (by decide)), fun h => e8 (h.resolve_left (by decide)), fun _ => rfl, fun h => e10 (h.resolve_left (by decide)), fun h => e11 (h.resolve_left (by decide))⟩
        | 10, ho =>
          cases Option.some.inj ho
          have ev : a.tmps[35]?.getD undef = .pointer (some ⟨p, 0, none⟩) := by rw [ha, e0 (hd ⟨0, .data⟩ (by simp) rfl)]; kernel_rfl
          refine wp_value (w' := w') (v := .pointer (some ⟨p, 0, none⟩)) (by simp [execOp, ev, go_sem]) ?_
          exact ⟨v35, v36, v37, v38, v39, v40, v41, v42, v43, v44, (.pointer (some ⟨p, 0, none⟩)), v46, b8, nv, by rw [ha]; kernel_rfl, hF, hX, hP.imp_left .inr, hO.imp_left .inr, fun h => hS (h.resolve_left (by decide)), fun h => hV (h.resolve_left (by decide)), fun h => hQ (h.resolve_left (by decide)), fun h => e0 (h.resolve_left (by decide)), fun h => e1 (h.resolve_left (by decide)), fun h => e2 (h.resolve_left (by decide)), fun h => e3 (h.resolve_left (by decide)), fun h => e4 (h.resolve_left (by decide)), fun h => e5 (h.resolve_left (by decide)), fun h => e6 (h.resolve_left (by decide)), fun h => e7 (h.resolve_left (by decide)), fun h => e8 (h.resolve_left (by decide)), fun h => e9 (h.resolve_left (by decide)), fun _ => rfl, fun h => e11 (h.resolve_left (by decide))⟩
        | 11, ho =>
          cases Option.some.inj ho
          have ev : a.tmps[45]?.getD undef = .pointer (some ⟨p, 0, none⟩) := by rw [ha, e10 (hd ⟨10, .data⟩ (by simp) rfl)]; kernel_rfl
          refine wp_value (w' := w') (v := .pointer (some ⟨p, 3, none⟩)) (by simp [execOp, ev, go_sem]) ?_
          exact ⟨v35, v36, v37, v38, v39, v40, v41, v42, v43, v44, v45, (.pointer (some ⟨p, 3, none⟩)), b8, nv, by rw [ha]; kernel_rfl, hF, hX, hP.imp_left .inr, hO.imp_left .inr, fun h => hS (h.resolve_left (by decide)), fun h => hV (h.resolve_left (by decide)), fun h => hQ (h.resolve_left (by decide)), fun h => e0 (h.resolve_left (by decide)), fun h => e1 (h.resolve_left (by decide)), fun h => e2 (h.resolve_left (by decide)), fun h => e3 (h.resolve_left (by decide)), fun h => e4 (h.resolve_left (by decide)), fun h => e5 (h.resolve_left (by decide)), fun h => e6 (h.resolve_left (by decide)), fun h => e7 (h.resolve_left (by decide)), fun h => e8 (h.resolve_left (by decide)), fun h => e9 (h.resolve_left (by decide)), fun h => e10 (h.resolve_left (by decide)), fun _ => rfl⟩
        | 12, ho =>
          cases Option.some.inj ho
          have ev : a.tmps[46]?.getD undef = .pointer (some ⟨p, 3, none⟩) := by rw [ha, e11 (hd ⟨11, .data⟩ (by simp) rfl)]; kernel_rfl
          have ev' : a.tmps[44]?.getD undef = nv := by rw [ha, e9 (hd ⟨9, .data⟩ (by simp) rfl)]; kernel_rfl
          obtain ⟨q1, q2⟩ := hV (hd ⟨9, .data⟩ (by simp) rfl)
          have hp := hP.resolve_left hn
          obtain ⟨_, _, _, hc, _, _, hf⟩ := dev_cells hp
          have hnp : ∀ g, nv.ownBlock = some g → g ≠ p := by
            rintro g hg rfl
            obtain ⟨_, cur, hh⟩ := own_block q1 hg
            rw [hp] at hh
            cases hh
          obtain ⟨g9, cap9, rfl⟩ := own_succ q1
          refine wp_skip (w' := w'.setCell ⟨p, 3, none⟩ (.slice (some ⟨g9, 0, none⟩) (L.length + 1) cap9)) (by simp [execOp, Act.eval, ev, ev', go_sem, hc, hf]) ?_
          exact ⟨v35, v36, v37, v38, v39, v40, v41, v42, v43, v44, v45, v46, b8, (.slice (some ⟨g9, 0, none⟩) (L.length + 1) cap9), by rw [ha]; kernel_rfl, hF.trans (Fr.set _ _ _ _), (heap_setCell_other _ _ _ _ hxp).trans hX, .inl (.inl rfl), .inl (.inr (hd ⟨9, .data⟩ (by simp) rfl)), fun h => ⟨(hS (h.resolve_left (by decide))).1, (heap_setCell_other _ _ _ _ (by have := (hS (h.resolve_left (by decide))).1; have := D3.lt; show b8 ≠ p; omega)).trans (hS (h.resolve_left (by decide))).2⟩, fun _ => ⟨own_same q1 (fun g hg => heap_setCell_other _ _ _ _ (hnp g hg)), q2⟩, fun _ => devO_pv hp _, fun h => e0 (h.resolve_left (by decide)), fun h => e1 (h.resolve_left (by decide)), fun h => e2 (h.resolve_left (by decide)), fun h => e3 (h.resolve_left (by decide)), fun h => e4 (h.resolve_left (by decide)), fun h => e5 (h.resolve_left (by decide)), fun h => e6 (h.resolve_left (by decide)), fun h => e7 (h.resolve_left (by decide)), fun h => e8 (h.resolve_left (by decide)), fun h => e9 (h.resolve_left (by decide)), fun h => e10 (h.resolve_left (by decide)), fun h => e11 (h.resolve_left (by decide))⟩
        | i + 13, ho => simp at ho
      case done =>
        rintro D a w' ⟨v35, v36, v37, v38, v39, v40, v41, v42, v43, v44, v45, v46, b8, nv, ha, hF, hX, hP, hO, hS, hV, hQ, e0, e1, e2, e3, e4, e5, e6, e7, e8, e9, e10, e11⟩ hall
        obtain ⟨q1, q2⟩ := hV (hall 9 (by decide))
        have q3 := hQ (hall 12 (by decide))
        clear e0 e1 e2 e3 e4 e5 e6 e7 e8 e9 e10 e11 hP hO hS hV hQ hall
        rw [ha]
        clear ha
        simp only [Act.put, List.setIfInBounds_toArray, List.set_cons_zero, List.set_cons_succ]
        have hDf : Dev w' n₀ p bs bn nv size G0 (fun i => if i = at' then xs else G1 i) (L ++ [(at', xs)]) (left - 1) false :=
          ⟨q3, D3.safe.same (hF.keep _ D3.safe.lt D3.pbs.symm D3.pbs.symm D3.pbs.symm D3.pvs).1, D3.now.same (hF.keep _ D3.now.lt D3.pbn.symm D3.pbn.symm D3.pbn.symm D3.pvn).1,
            by rw [List.length_append, List.flatMap_append]; simpa using q1, fun q hq => by
              rcases List.mem_append.1 hq with hq | hq
              · exact D3.secs q hq
              · rw [List.mem_singleton.1 hq]; exact hx, D3.ne, D3.fromP, D3.fromS, D3.fromN⟩
        have hFf : Fr p bs bn w pv w' nv := hF3.trans ⟨hF.os, hF.tape, hF.output, hF.size, fun i hi h1 h2 h3 h4 => ⟨(hF.keep i hi h1 h1 h1 h4).1, fun e => (q2 i e).elim h4 (fun h => by omega)⟩⟩
        clear hF hX q1 q2 q3 D3 hF3 A3
        go_wp2_with fail
        go_ret
        exact ⟨rfl, nv, by rw [hmx.out]; exact hDf, hFf⟩


end
end Go.Proofs.Ytofgphiamllmdab
