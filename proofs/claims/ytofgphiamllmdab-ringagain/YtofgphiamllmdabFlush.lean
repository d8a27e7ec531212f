/- Disk.Flush. -/
import Derived.Test.YtofgphiamllmdabCrash
namespace Go.Proofs.Ytofgphiamllmdab
open Go.RowKit
set_option maxRecDepth 100000

section
variable {w : World} {n₀ p bs bn : Nat} {pv : Value} {size : Int} {G0 G1 : Int → List Int} {L : List (Int × List Int)} {left : Int}
set_option maxRecDepth 100000 in
set_option maxHeartbeats 4000000 in
theorem Flush_some (h : Dev w n₀ p bs bn pv size G0 G1 L left false) (hLl : L.length ≤ 1000000000) :
    Calls Try.prog 48 #[.pointer (some ⟨p, 0, none⟩)] w fun e w' => e = .returned (.int .i64 0) ∧ Dev w' n₀ p bs bn (.slice none 0 0) size (appl G0 L) G1 [] left false ∧ Fr p bs bn w pv w' (.slice none 0 0) := by
  obtain ⟨d0, d1, d2, d3, d4, d5, df⟩ := dev_cells h.obj
  obtain ⟨pa, pc, hpv⟩ : ∃ a c, pv = .slice a L.length c := by
    rcases h.pend.2 with ⟨rfl, hn⟩ | ⟨g, cap, cur, rfl, _⟩
    · exact ⟨none, 0, by rw [hn]⟩
    · exact ⟨_, _, rfl⟩
  rw [hpv] at d3 h ⊢
  clear hpv
  go_enter Try.func48, Try.ntmps48
  go_wp2
  go_loopw [16] (fun i wr => ∃ j : Nat, j ≤ L.length ∧ i = .int .i64 (j : Int) ∧ Dev wr n₀ p bs bn (.slice pa L.length pc) size (appl G0 (L.take j)) G1 L left false ∧ Fr p bs bn w (.slice pa L.length pc) wr (.slice pa L.length pc)) (fun i _ => L.length - (intOf i).toNat)
  case atStart => exact ⟨0, by omega, rfl, by simpa [appl] using h, Fr.refl _ _ _ _ _⟩
  case round =>
    obtain ⟨j, hj, rfl, hD, hF⟩ := hrel
    by_cases hjn : j = L.length
    · have hlt : ¬ (j : Int) < (L.length : Int) := by omega
      rw [hjn, List.take_length] at hD
      obtain ⟨GK, hGK⟩ : ∃ GK, appl G0 L = GK := ⟨_, rfl⟩
      rw [hGK] at hD
      obtain ⟨b0, b1, b2, b3, b4, b5, bf⟩ := dev_cells hD.obj
      have o1 := devO_pv hD.obj (.slice none 0 0)
      have hN1 := hD.pbs
      have hN2 := hD.pbn
      clear d0 d1 d2 d3 d4 d5 df hjn
      go_wp2
      go_ret
      refine ⟨rfl, ⟨o1, hD.safe.same (heap_setCell_other _ _ _ _ hN1.symm), hD.now.same (heap_setCell_other _ _ _ _ hN2.symm), World.ownsRow_nil _ _ _ _, by simp, hD.ne, hD.fromP, hD.fromS, hD.fromN⟩, ?_⟩
      have f1 := hF.trans (Fr.set (p := p) (bs := bs) (bn := bn) wr (.slice pa L.length pc) 3 (.slice none 0 0))
      exact f1.trans ⟨rfl, rfl, rfl, Nat.le_refl _, fun i _ _ _ _ _ => ⟨rfl, by simp [Value.ownBlock]⟩⟩
    · have hlt : (j : Int) < (L.length : Int) := by omega
      obtain ⟨q, hq⟩ : ∃ q, L[j]? = some q := ⟨L[j], List.getElem?_eq_getElem (by omega)⟩
      obtain ⟨g, cap, hpe⟩ : ∃ g cap, Value.slice pa L.length pc = .slice (some ⟨g, 0, none⟩) L.length cap := by
        rcases hD.pend.2 with ⟨e, hn⟩ | ⟨g, cap, cur, e, _⟩
        · omega
        · exact ⟨g, cap, e⟩
      injection hpe with e1 e2 e3
      subst e1 e3
      have hsq := hD.secs q (List.mem_of_getElem? hq)
      have hld := own_load hD.pend hD.secs hq
      have hz := zero59
      have hA := heap_alloc_new wr (.cells (wcells (0, z128)).toArray 107)
      have A2 : ((wr.alloc (.cells (wcells (0, z128)).toArray 107)).setRow wr.heap.size (wcells q).toArray).heap[wr.heap.size]? = some (.cells (wcells q).toArray 107 (0, 0)) := setRow_heap _ _ _ _ _ _ hA
      have hk2 : ∀ i, i < wr.heap.size → ((wr.alloc (.cells (wcells (0, z128)).toArray 107)).setRow wr.heap.size (wcells q).toArray).heap[i]? = wr.heap[i]? := fun i hi => (setRow_other _ _ _ _ (by omega)).trans (Below.heap_alloc _ _ _ hi)
      have hg2 : wr.grownBy ((wr.alloc (.cells (wcells (0, z128)).toArray 107)).setRow wr.heap.size (wcells q).toArray) none := ⟨rfl, rfl, rfl, by simp, fun i hi _ => hk2 i hi⟩
      have D2 := hD.same hk2
      have F2 := hF.trans (Fr.grown (pv := .slice (some ⟨g, 0, none⟩) L.length pc) (p := p) (bs := bs) (bn := bn) hg2 (.inl rfl))
      have hsz1 : (Try.prog.info? 107).map (·.size) = some (wcells q).toArray.size := by rw [List.size_toArray, wcells_len hsq]; kernel_rfl
      have hsz2 : (wcells (0, z128)).toArray.size = (wcells q).toArray.size := by rw [List.size_toArray, List.size_toArray, wcells_len hsq, wcells_len isSec_z]
      have hone : (wcells q).toArray.all (·.oneCell') = true := by simpa using wcells_one q
      go_wp2_with (first | (refine wpList_value rfl (run_load59 rfl rfl hld) ?_) | refine wpList_store_row rfl 107 _ _ rfl wr.heap.size _ rfl rfl 107 _ hA hsz1 hsz2 hone ?_)
      generalize (wr.alloc (.cells (wcells (0, z128)).toArray 107)).setRow wr.heap.size (wcells q).toArray = w2 at *
      obtain ⟨GK, hGK⟩ : ∃ GK, appl G0 (L.take j) = GK := ⟨_, rfl⟩
      rw [hGK] at D2
      obtain ⟨_, c1, c2, _⟩ := dev_cells D2.obj
      have hpn : p ≠ bs := D2.pbs
      have hxn : wr.heap.size ≠ bs := by have := hD.safe.lt; omega
      have hS2 := D2.safe
      have hw1 : IntKind.i64.wrap ((j : Int) + 1) = (j : Int) + 1 := by rw [IntKind.wrap_i64]; omega
      clear hD hF hld hz hA hk2 hg2 hsz1 hsz2 hone
      refine wp_region_inv' (fun A D a w' => ∃ v20 v21 v22 v23 v24 v25 v26 v27 v28, a = (((((((((A.put (some 20) v20).put (some 21) v21).put (some 22) v22).put (some 23) v23).put (some 24) v24).put (some 25) v25).put (some 26) v26).put (some 27) v27).put (some 28) v28) ∧ w2.grownBy w' (some bs) ∧ (D 8 ∨ HasSec w' bs (GK)) ∧ (D 8 → HasSec w' bs (fun i => if i = q.1 then q.2 else (GK) i)) ∧ (D 0 → v20 = .pointer (some ⟨p, 0, none⟩)) ∧ (D 1 → v21 = .pointer (some ⟨p, 0, none⟩)) ∧ (D 2 → v22 = .pointer (some ⟨p, 1, none⟩)) ∧ (D 3 → v23 = .map (some bs)) ∧ (D 4 → v24 = .pointer (some ⟨wr.heap.size, 0, none⟩)) ∧ (D 5 → v25 = .int .i64 q.1) ∧ (D 6 → v26 = .pointer (some ⟨wr.heap.size, 1, none⟩)) ∧ (D 7 → v27 = .agg (cellsB q.2)) ∧ (D 8 → v28 = .tuple #[])) (by kernel_rfl) (by kernel_rfl) ?rmono ?rstart ?rstep ?rdone
      case rmono =>
        rintro D D' a w' hD ⟨v20, v21, v22, v23, v24, v25, v26, v27, v28, ha, hB, hN, hM, e0, e1, e2, e3, e4, e5, e6, e7, e8⟩
        exact ⟨v20, v21, v22, v23, v24, v25, v26, v27, v28, ha, hB, hN.imp_left (hD 8).1, fun h => hM ((hD 8).2 h), fun h => e0 ((hD 0).2 h), fun h => e1 ((hD 1).2 h), fun h => e2 ((hD 2).2 h), fun h => e3 ((hD 3).2 h), fun h => e4 ((hD 4).2 h), fun h => e5 ((hD 5).2 h), fun h => e6 ((hD 6).2 h), fun h => e7 ((hD 7).2 h), fun h => e8 ((hD 8).2 h)⟩
      case rstart => exact ⟨u20, u21, u22, u23, u24, u25, u26, u27, u28, by kernel_rfl, ⟨rfl, rfl, rfl, Nat.le_refl _, fun _ _ _ => rfl⟩, .inr ((show HasSec w2 bs (GK) from hS2).same rfl), fun h => h.elim, fun h => h.elim, fun h => h.elim, fun h => h.elim, fun h => h.elim, fun h => h.elim, fun h => h.elim, fun h => h.elim, fun h => h.elim, fun h => h.elim⟩
      case rstep =>
        intro i o ho D a w' hI hn hcl hd
        obtain ⟨v20, v21, v22, v23, v24, v25, v26, v27, v28, ha, hB, hN, hM, e0, e1, e2, e3, e4, e5, e6, e7, e8⟩ := hI
        match i, ho with
        | 0, ho =>
          cases Option.some.inj ho
          have ev : a.tmps[0]?.getD undef = .pointer (some ⟨p, 0, none⟩) := by rw [ha]; kernel_rfl
          refine wp_value (w' := w') (v := .pointer (some ⟨p, 0, none⟩)) (by simp [execOp, ev, go_sem]) ?_
          exact ⟨(.pointer (some ⟨p, 0, none⟩)), v21, v22, v23, v24, v25, v26, v27, v28, by rw [ha]; kernel_rfl, hB, hN.imp_left .inr, fun h => hM (h.resolve_left (by decide)), fun _ => rfl, fun h => e1 (h.resolve_left (by decide)), fun h => e2 (h.resolve_left (by decide)), fun h => e3 (h.resolve_left (by decide)), fun h => e4 (h.resolve_left (by decide)), fun h => e5 (h.resolve_left (by decide)), fun h => e6 (h.resolve_left (by decide)), fun h => e7 (h.resolve_left (by decide)), fun h => e8 (h.resolve_left (by decide))⟩
        | 1, ho =>
          cases Option.some.inj ho
          have ev : a.tmps[20]?.getD undef = .pointer (some ⟨p, 0, none⟩) := by rw [ha, e0 (hd ⟨0, .data⟩ (by simp) rfl)]; kernel_rfl
          refine wp_value (w' := w') (v := .pointer (some ⟨p, 0, none⟩)) (by simp [execOp, ev, go_sem]) ?_
          exact ⟨v20, (.pointer (some ⟨p, 0, none⟩)), v22, v23, v24, v25, v26, v27, v28, by rw [ha]; kernel_rfl, hB, hN.imp_left .inr, fun h => hM (h.resolve_left (by decide)), fun h => e0 (h.resolve_left (by decide)), fun _ => rfl, fun h => e2 (h.resolve_left (by decide)), fun h => e3 (h.resolve_left (by decide)), fun h => e4 (h.resolve_left (by decide)), fun h => e5 (h.resolve_left (by decide)), fun h => e6 (h.resolve_left (by decide)), fun h => e7 (h.resolve_left (by decide)), fun h => e8 (h.resolve_left (by decide))⟩
        | 2, ho =>
          cases Option.some.inj ho
          have ev : a.tmps[21]?.getD undef = .pointer (some ⟨p, 0, none⟩) := by rw [ha, e1 (hd ⟨1, .data⟩ (by simp) rfl)]; kernel_rfl
          refine wp_value (w' := w') (v := .pointer (some ⟨p, 1, none⟩)) (by simp [execOp, ev, go_sem]) ?_
          exact ⟨v20, v21, (.pointer (some ⟨p, 1, none⟩)), v23, v24, v25, v26, v27, v28, by rw [ha]; kernel_rfl, hB, hN.imp_left .inr, fun h => hM (h.resolve_left (by decide)), fun h => e0 (h.resolve_left (by decide)), fun h => e1 (h.resolve_left (by decide)), fun _ => rfl, fun h => e3 (h.resolve_left (by decide)), fun h => e4 (h.resolve_left (by decide)), fun h => e5 (h.resolve_left (by decide)), fun h => e6 (h.resolve_left (by decide)), fun h => e7 (h.resolve_left (by decide)), fun h => e8 (h.resolve_left (by decide))⟩
        | 3, ho =>
          cases Option.some.inj ho
          have ev : a.tmps[22]?.getD undef = .pointer (some ⟨p, 1, none⟩) := by rw [ha, e2 (hd ⟨2, .data⟩ (by simp) rfl)]; kernel_rfl
          have hc := hB.cell c1 (by simpa using hpn)
          refine wp_value (w' := w') (v := .map (some bs)) (by simp [execOp, ev, go_sem, hc]) ?_
          exact ⟨v20, v21, v22, (.map (some bs)), v24, v25, v26, v27, v28, by rw [ha]; kernel_rfl, hB, hN.imp_left .inr, fun h => hM (h.resolve_left (by decide)), fun h => e0 (h.resolve_left (by decide)), fun h => e1 (h.resolve_left (by decide)), fun h => e2 (h.resolve_left (by decide)), fun _ => rfl, fun h => e4 (h.resolve_left (by decide)), fun h => e5 (h.resolve_left (by decide)), fun h => e6 (h.resolve_left (by decide)), fun h => e7 (h.resolve_left (by decide)), fun h => e8 (h.resolve_left (by decide))⟩
        | 4, ho =>
          cases Option.some.inj ho
          have ev : a.tmps[4]?.getD undef = .pointer (some ⟨wr.heap.size, 0, none⟩) := by rw [ha]; kernel_rfl
          refine wp_value (w' := w') (v := .pointer (some ⟨wr.heap.size, 0, none⟩)) (by simp [execOp, ev, go_sem]) ?_
          exact ⟨v20, v21, v22, v23, (.pointer (some ⟨wr.heap.size, 0, none⟩)), v25, v26, v27, v28, by rw [ha]; kernel_rfl, hB, hN.imp_left .inr, fun h => hM (h.resolve_left (by decide)), fun h => e0 (h.resolve_left (by decide)), fun h => e1 (h.resolve_left (by decide)), fun h => e2 (h.resolve_left (by decide)), fun h => e3 (h.resolve_left (by decide)), fun _ => rfl, fun h => e5 (h.resolve_left (by decide)), fun h => e6 (h.resolve_left (by decide)), fun h => e7 (h.resolve_left (by decide)), fun h => e8 (h.resolve_left (by decide))⟩
        | 5, ho =>
          cases Option.some.inj ho
          have ev : a.tmps[24]?.getD undef = .pointer (some ⟨wr.heap.size, 0, none⟩) := by rw [ha, e4 (hd ⟨4, .data⟩ (by simp) rfl)]; kernel_rfl
          have hc := box_at ((hB.block _ (lt_of_block A2) (by simpa using hxn)).trans A2)
          refine wp_value (w' := w') (v := .int .i64 q.1) (by simp [execOp, ev, go_sem, hc]) ?_
          exact ⟨v20, v21, v22, v23, v24, (.int .i64 q.1), v26, v27, v28, by rw [ha]; kernel_rfl, hB, hN.imp_left .inr, fun h => hM (h.resolve_left (by decide)), fun h => e0 (h.resolve_left (by decide)), fun h => e1 (h.resolve_left (by decide)), fun h => e2 (h.resolve_left (by decide)), fun h => e3 (h.resolve_left (by decide)), fun h => e4 (h.resolve_left (by decide)), fun _ => rfl, fun h => e6 (h.resolve_left (by decide)), fun h => e7 (h.resolve_left (by decide)), fun h => e8 (h.resolve_left (by decide))⟩
        | 6, ho =>
          cases Option.some.inj ho
          have ev : a.tmps[4]?.getD undef = .pointer (some ⟨wr.heap.size, 0, none⟩) := by rw [ha]; kernel_rfl
          refine wp_value (w' := w') (v := .pointer (some ⟨wr.heap.size, 1, none⟩)) (by simp [execOp, ev, go_sem]) ?_
          exact ⟨v20, v21, v22, v23, v24, v25, (.pointer (some ⟨wr.heap.size, 1, none⟩)), v27, v28, by rw [ha]; kernel_rfl, hB, hN.imp_left .inr, fun h => hM (h.resolve_left (by decide)), fun h => e0 (h.resolve_left (by decide)), fun h => e1 (h.resolve_left (by decide)), fun h => e2 (h.resolve_left (by decide)), fun h => e3 (h.resolve_left (by decide)), fun h => e4 (h.resolve_left (by decide)), fun h => e5 (h.resolve_left (by decide)), fun _ => rfl, fun h => e7 (h.resolve_left (by decide)), fun h => e8 (h.resolve_left (by decide))⟩
        | 7, ho =>
          cases Option.some.inj ho
          have ev : a.tmps[26]?.getD undef = .pointer (some ⟨wr.heap.size, 1, none⟩) := by rw [ha, e6 (hd ⟨6, .data⟩ (by simp) rfl)]; kernel_rfl
          refine wp_value (w' := w') (v := .agg (cellsB q.2)) (run_load57x (eval_of ev) rfl (box_load hsq ((hB.block _ (lt_of_block A2) (by simpa using hxn)).trans A2))) ?_
          exact ⟨v20, v21, v22, v23, v24, v25, v26, (.agg (cellsB q.2)), v28, by rw [ha]; kernel_rfl, hB, hN.imp_left .inr, fun h => hM (h.resolve_left (by decide)), fun h => e0 (h.resolve_left (by decide)), fun h => e1 (h.resolve_left (by decide)), fun h => e2 (h.resolve_left (by decide)), fun h => e3 (h.resolve_left (by decide)), fun h => e4 (h.resolve_left (by decide)), fun h => e5 (h.resolve_left (by decide)), fun h => e6 (h.resolve_left (by decide)), fun _ => rfl, fun h => e8 (h.resolve_left (by decide))⟩
        | 8, ho =>
          cases Option.some.inj ho
          have ev : a.tmps[23]?.getD undef = .map (some bs) := by rw [ha, e3 (hd ⟨3, .data⟩ (by simp) rfl)]; kernel_rfl
          have ev' : a.tmps[25]?.getD undef = .int .i64 q.1 := by rw [ha, e5 (hd ⟨5, .data⟩ (by simp) rfl)]; kernel_rfl
          have ev'' : a.tmps[27]?.getD undef = .agg (cellsB q.2) := by rw [ha, e7 (hd ⟨7, .data⟩ (by simp) rfl)]; kernel_rfl
          refine wp_enter (f := 64) (args := #[.map (some bs), .int .i64 q.1, .agg (cellsB q.2)]) (by simp [execOp, ev, ev', ev'', go_sem]) ?_
          refine (put_any q.1 hsq (hN.resolve_left hn)).mono ?_
          rintro e w6 ⟨rfl, hM8, HG⟩
          refine ⟨_, rfl, ?_⟩
          exact ⟨v20, v21, v22, v23, v24, v25, v26, v27, (.tuple #[]), by rw [ha]; kernel_rfl, World.grownBy.trans hB HG, .inl (.inl rfl), fun _ => hM8, fun h => e0 (h.resolve_left (by decide)), fun h => e1 (h.resolve_left (by decide)), fun h => e2 (h.resolve_left (by decide)), fun h => e3 (h.resolve_left (by decide)), fun h => e4 (h.resolve_left (by decide)), fun h => e5 (h.resolve_left (by decide)), fun h => e6 (h.resolve_left (by decide)), fun h => e7 (h.resolve_left (by decide)), fun _ => rfl⟩
        | i + 9, ho => simp at ho
      case rdone =>
        rintro D a w' ⟨v20, v21, v22, v23, v24, v25, v26, v27, v28, ha, hB, hN, hM, e0, e1, e2, e3, e4, e5, e6, e7, e8⟩ hall
        have hM' := hM (hall 8 (by decide))
        obtain rfl := e0 (hall 0 (by decide))
        obtain rfl := e1 (hall 1 (by decide))
        obtain rfl := e2 (hall 2 (by decide))
        obtain rfl := e3 (hall 3 (by decide))
        obtain rfl := e4 (hall 4 (by decide))
        obtain rfl := e5 (hall 5 (by decide))
        obtain rfl := e6 (hall 6 (by decide))
        obtain rfl := e7 (hall 7 (by decide))
        obtain rfl := e8 (hall 8 (by decide))
        clear hN hM hall e0 e1 e2 e3 e4 e5 e6 e7 e8
        rw [ha]
        clear ha
        simp only [Act.put, List.setIfInBounds_toArray, List.set_cons_zero, List.set_cons_succ]
        have D3 := D2.bs2 hB hM'
        have F3 := F2.trans (Fr.grown (pv := .slice (some ⟨g, 0, none⟩) L.length pc) (p := p) (bs := bs) (bn := bn) hB (.inr (.inr (.inl rfl))))
        clear hB hM' D2 F2
        go_wp2
        go_roundw
        case rel => exact ⟨j + 1, by omega, rfl, by rw [take_succ_of hq, appl_snoc, hGK]; exact D3, F3⟩
        case measure => simp [intOf]; omega
end
end Go.Proofs.Ytofgphiamllmdab
