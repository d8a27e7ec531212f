/- Disk.Crash. -/
import Derived.Test.YtofgphiamllmdabWr
import Derived.Test.YtofgphiamllmdabFull
import Derived.Test.YtofgphiamllmdabAppl
namespace Go.Proofs.Ytofgphiamllmdab
open Go.RowKit
set_option maxRecDepth 100000

/-- The writes that stay. -/
def keptL (L : List (Int × List Int)) (ks : List Bool) : List (Int × List Int) := (L.zipIdx.filter fun q => ks.getD q.2 false).map (·.1)
theorem keptL_snoc (L : List (Int × List Int)) (q : Int × List Int) (ks : List Bool) : keptL (L ++ [q]) ks = keptL L ks ++ (if ks.getD L.length false then [q] else []) := by
  unfold keptL
  rw [List.zipIdx_append, List.filter_append, List.map_append]
  congr 1
  simp only [Nat.zero_add, List.zipIdx_singleton]
  by_cases h : ks.getD L.length false
  · simp only [List.filter_cons, h, if_true]; rfl
  · simp only [List.filter_cons, h]; rfl


section
variable {w : World} {n₀ p bs bn : Nat} {pv : Value} {size : Int} {G0 G1 : Int → List Int} {L : List (Int × List Int)} {left : Int} {dead : Bool}
/-- What stands there when some places are put back. -/
def backG (GK G : Int → List Int) (l : List (Int × List Int)) : Int → List Int := fun i => if i ∈ l.map (·.1) then GK i else G i
theorem backG_nil (GK G : Int → List Int) : backG GK G [] = G := by
  funext i
  simp [backG]
theorem backG_snoc (GK G : Int → List Int) (l : List (Int × List Int)) (q : Int × List Int) : backG GK G (l ++ [q]) = fun i => if i = q.1 then GK q.1 else backG GK G l i := by
  funext i
  unfold backG
  by_cases h : i = q.1
  · subst h; simp
  · simp only [List.map_append, List.map_cons, List.map_nil, List.mem_append, List.mem_singleton, h, or_false, if_false]
theorem take_succ_of {α : Type} {L : List α} {j : Nat} {q : α} (h : L[j]? = some q) : L.take (j + 1) = L.take j ++ [q] := by
  rw [List.take_add_one, h]; rfl
theorem appl_other (G : Int → List Int) : ∀ (l : List (Int × List Int)) (i : Int), i ∉ l.map (·.1) → appl G l i = G i := by
  intro l
  unfold appl
  induction l generalizing G with
  | nil => intro i _; rfl
  | cons q l ih =>
    intro i hi
    simp only [List.map_cons, List.mem_cons, not_or] at hi
    rw [List.foldl_cons, ih _ i hi.2, if_neg hi.1]
theorem kept_mem (L : List (Int × List Int)) (ks : List Bool) (i : Int) (h : i ∈ (keptL L ks).map (·.1)) : i ∈ L.map (·.1) := by
  unfold keptL at h
  rw [List.map_map, List.mem_map] at h
  obtain ⟨x, hx, rfl⟩ := h
  have h1 := (List.mem_filter.1 hx).1
  exact List.mem_map_of_mem (List.fst_mem_of_mem_zipIdx h1)
/-- A crash puts back what stands there safely. -/
theorem back_kept {G0 G1 : Int → List Int} {L : List (Int × List Int)} (ks : List Bool) (hI : ∀ i, G1 i = appl G0 L i) : backG (appl G0 (keptL L ks)) G1 L = appl G0 (keptL L ks) := by
  funext i
  unfold backG
  by_cases h : i ∈ L.map (·.1)
  · rw [if_pos h]
  · rw [if_neg h, hI, appl_other G0 L i h, appl_other G0 _ i (fun h' => h (kept_mem L ks i h'))]
theorem Dev.bs2 {w2 w' : World} {GK : Int → List Int} (D2 : Dev w2 n₀ p bs bn pv size G0 G1 L left dead) (hB : w2.grownBy w' (some bs)) (hM : HasSec w' bs GK) : Dev w' n₀ p bs bn pv size GK G1 L left dead :=
  ⟨(hB.block _ D2.lt (by simpa using D2.pbs)).trans D2.obj, hM, D2.now.same (hB.block _ D2.now.lt (by simpa using D2.ne.symm)), own_same D2.pend (fun g hg => hB.block _ (D2.pvlt hg) (by rw [← hg]; exact D2.pvs)), D2.secs, D2.ne, D2.fromP, D2.fromS, D2.fromN⟩
theorem Dev.bn2 {w2 w' : World} {GK : Int → List Int} (D2 : Dev w2 n₀ p bs bn pv size G0 G1 L left dead) (hB : w2.grownBy w' (some bn)) (hM : HasSec w' bn GK) : Dev w' n₀ p bs bn pv size G0 GK L left dead :=
  ⟨(hB.block _ D2.lt (by simpa using D2.pbn)).trans D2.obj, D2.safe.same (hB.block _ D2.safe.lt (by simpa using D2.ne)), hM, own_same D2.pend (fun g hg => hB.block _ (D2.pvlt hg) (by rw [← hg]; exact D2.pvn)), D2.secs, D2.ne, D2.fromP, D2.fromS, D2.fromN⟩
/-- A slice of bools. -/
structure Bools (w : World) (a : Option Addr) (len : Nat) (ks : List Bool) : Prop where
  size : ks.length = len
  cell : 0 < len → ∃ b off, a = some ⟨b, off, none⟩ ∧ ∀ i, i < len → w.cell? ⟨b, off + i, none⟩ = some (.bool (ks.getD i false))

set_option maxRecDepth 100000 in
set_option maxHeartbeats 4000000 in
theorem Crash_some (h : Dev w n₀ p bs bn pv size G0 G1 L left dead) (hI : ∀ i, G1 i = appl G0 L i) (ka : Option Addr) (klen kcap : Nat) (ks : List Bool) (hk : Bools w ka klen ks) (hkl : klen ≤ 140737488355328) (hLl : L.length ≤ 1000000000)
    (hkf : ∀ b off, ka = some ⟨b, off, none⟩ → 0 < klen → b ≠ p ∧ b ≠ bs ∧ b ≠ bn ∧ pv.ownBlock ≠ some b) :
    Calls Try.prog 27 #[.pointer (some ⟨p, 0, none⟩), .slice ka klen kcap] w fun e w' => e = .returned (.tuple #[]) ∧ Dev w' n₀ p bs bn (.slice none 0 0) size (appl G0 (keptL L ks)) (appl G0 (keptL L ks)) [] 0 false ∧ Fr p bs bn w pv w' (.slice none 0 0) := by
  obtain ⟨d0, d1, d2, d3, d4, d5, df⟩ := dev_cells h.obj
  obtain ⟨pa, pc, hpv⟩ : ∃ a c, pv = .slice a L.length c := by
    rcases h.pend.2 with ⟨rfl, hn⟩ | ⟨g, cap, cur, rfl, _⟩
    · exact ⟨none, 0, by rw [hn]⟩
    · exact ⟨_, _, rfl⟩
  rw [hpv] at d3 h hkf ⊢
  clear hpv
  go_enter Try.func27, Try.ntmps27
  go_wp2
  go_loopw [15] (fun i wr => ∃ j : Nat, j ≤ L.length ∧ i = .int .i64 (j : Int) ∧ Dev wr n₀ p bs bn (.slice pa L.length pc) size (appl G0 (keptL (L.take j) ks)) G1 L left dead ∧ Fr p bs bn w (.slice pa L.length pc) wr (.slice pa L.length pc)) (fun i _ => L.length - (intOf i).toNat)
  case atStart => exact ⟨0, by omega, rfl, by simpa [keptL, appl] using h, Fr.refl _ _ _ _ _⟩
  case round =>
    obtain ⟨j, hj, rfl, hD, hF⟩ := hrel
    by_cases hjn : j = L.length
    · have hlt : ¬ (j : Int) < (L.length : Int) := by omega
      rw [hjn, List.take_length] at hD
      obtain ⟨GK, hGK⟩ : ∃ GK, appl G0 (keptL L ks) = GK := ⟨_, rfl⟩
      rw [hGK] at hD
      obtain ⟨b0, b1, b2, b3, b4, b5, bf⟩ := dev_cells hD.obj
      clear d0 d1 d2 d3 d4 d5 df
      go_wp2
      go_loopw [45] (fun i wr => ∃ j : Nat, j ≤ L.length ∧ i = .int .i64 (j : Int) ∧ Dev wr n₀ p bs bn (.slice pa L.length pc) size GK (backG GK G1 (L.take j)) L left dead ∧ Fr p bs bn w (.slice pa L.length pc) wr (.slice pa L.length pc)) (fun i _ => L.length - (intOf i).toNat)
      case atStart => exact ⟨0, by omega, rfl, by rw [List.take_zero, backG_nil]; exact hD, hF⟩
      case round =>
        clear hD hF b0 b1 b2 b3 b4 b5 bf
        obtain ⟨j, hj, rfl, hD, hF⟩ := hrel
        by_cases hjn : j = L.length
        · have hlt : ¬ (j : Int) < (L.length : Int) := by omega
          rw [hjn, List.take_length] at hD
          have hD' : Dev wr n₀ p bs bn (.slice pa L.length pc) size GK GK L left dead := by
            rw [← hGK] at hD ⊢
            rw [back_kept ks hI] at hD
            exact hD
          obtain ⟨b0, b1, b2, b3, b4, b5, bf⟩ := dev_cells hD'.obj
          have o1 := devO_pv hD'.obj (.slice none 0 0)
          obtain ⟨x0, x1, x2, x3, x4, x5, xf⟩ := dev_cells o1
          have o2 := devO_left o1 0
          obtain ⟨y0, y1, y2, y3, y4, y5, yf⟩ := dev_cells o2
          have o3 := devO_dead o2 false
          have hN1 := hD'.pbs
          have hN2 := hD'.pbn
          go_wp2
          go_end0
          refine ⟨rfl, ⟨o3, ?_, ?_, World.ownsRow_nil _ _ _ _, by simp, hD'.ne, hD'.fromP, hD'.fromS, hD'.fromN⟩, ?_⟩
          · exact hD'.safe.same ((heap_setCell_other _ _ _ _ hN1.symm).trans ((heap_setCell_other _ _ _ _ hN1.symm).trans (heap_setCell_other _ _ _ _ hN1.symm)))
          · exact hD'.now.same ((heap_setCell_other _ _ _ _ hN2.symm).trans ((heap_setCell_other _ _ _ _ hN2.symm).trans (heap_setCell_other _ _ _ _ hN2.symm)))
          · have f1 := hF.trans (Fr.set (p := p) (bs := bs) (bn := bn) wr (.slice pa L.length pc) 3 (.slice none 0 0))
            have f2 := f1.trans (Fr.set _ _ 4 (.int .i64 0))
            have f3 := f2.trans (Fr.set _ _ 5 (.bool false))
            exact f3.trans ⟨rfl, rfl, rfl, Nat.le_refl _, fun i _ _ _ _ _ => ⟨rfl, by simp [Value.ownBlock]⟩⟩
        · have hlt : (j : Int) < (L.length : Int) := by omega
          obtain ⟨q, hq⟩ : ∃ q, L[j]? = some q := ⟨L[j], List.getElem?_eq_getElem (by omega)⟩
          obtain ⟨g, cap, hpe⟩ : ∃ g cap, Value.slice pa L.length pc = .slice (some ⟨g, 0, none⟩) L.length cap := by
            rcases hD.pend.2 with ⟨e, hn⟩ | ⟨g, cap, cur, e, _⟩
            · omega
            · exact ⟨g, cap, e⟩
          injection hpe with e1 e2 e3
          subst e1 e3
          have hsq := hD.secs q (List.mem_of_getElem? hq)
          have hld := own_load hD.pend hD.secs hq
          have hz := zero59
          have hA := heap_alloc_new wr (.cells (wcells (0, z128)).toArray 107)
          have A2 : ((wr.alloc (.cells (wcells (0, z128)).toArray 107)).setRow wr.heap.size (wcells q).toArray).heap[wr.heap.size]? = some (.cells (wcells q).toArray 107 (0, 0)) := setRow_heap _ _ _ _ _ _ hA
          have hk2 : ∀ i, i < wr.heap.size → ((wr.alloc (.cells (wcells (0, z128)).toArray 107)).setRow wr.heap.size (wcells q).toArray).heap[i]? = wr.heap[i]? := fun i hi => (setRow_other _ _ _ _ (by omega)).trans (Below.heap_alloc _ _ _ hi)
          have hg2 : wr.grownBy ((wr.alloc (.cells (wcells (0, z128)).toArray 107)).setRow wr.heap.size (wcells q).toArray) none := ⟨rfl, rfl, rfl, by simp, fun i hi _ => hk2 i hi⟩
          have D2 := hD.same hk2
          have F2 := hF.trans (Fr.grown (pv := .slice (some ⟨g, 0, none⟩) L.length pc) (p := p) (bs := bs) (bn := bn) hg2 (.inl rfl))
          have hsz1 : (Try.prog.info? 107).map (·.size) = some (wcells q).toArray.size := by rw [List.size_toArray, wcells_len hsq]; kernel_rfl
          have hsz2 : (wcells (0, z128)).toArray.size = (wcells q).toArray.size := by rw [List.size_toArray, List.size_toArray, wcells_len hsq, wcells_len isSec_z]
          have hone : (wcells q).toArray.all (·.oneCell') = true := by simpa using wcells_one q
          obtain ⟨GB, hGB⟩ : ∃ GB, backG GK G1 (L.take j) = GB := ⟨_, rfl⟩
          rw [hGB] at D2
          go_wp2_with (first | (refine wpList_value rfl (run_load59 rfl rfl hld) ?_) | refine wpList_store_row rfl 107 _ _ rfl wr.heap.size _ rfl rfl 107 _ hA hsz1 hsz2 hone ?_)
          generalize (wr.alloc (.cells (wcells (0, z128)).toArray 107)).setRow wr.heap.size (wcells q).toArray = w2 at *
          obtain ⟨_, c1, c2, _⟩ := dev_cells D2.obj
          have hpn : p ≠ bn := D2.pbn
          have hne : bs ≠ bn := D2.ne
          have hxn : wr.heap.size ≠ bn := by have := hD.now.lt; omega
          have hS1 := D2.safe
          have hS2 := D2.now
          have hw1 : IntKind.i64.wrap ((j : Int) + 1) = (j : Int) + 1 := by rw [IntKind.wrap_i64]; omega
          clear hD hF hld hz hA hk2 hg2 hsz1 hsz2 hone
          refine wp_region_inv' (fun A D a w' => ∃ v49 v50 v51 v52 v53 v54 v55 v56 v57 v58 v59 v60 v61 v62, a = ((((((((((((((A.put (some 49) v49).put (some 50) v50).put (some 51) v51).put (some 52) v52).put (some 53) v53).put (some 54) v54).put (some 55) v55).put (some 56) v56).put (some 57) v57).put (some 58) v58).put (some 59) v59).put (some 60) v60).put (some 61) v61).put (some 62) v62) ∧ w2.grownBy w' (some bn) ∧ (D 13 ∨ HasSec w' bn GB) ∧ (D 13 → HasSec w' bn (fun i => if i = q.1 then GK q.1 else GB i)) ∧ (D 0 → v49 = .pointer (some ⟨p, 0, none⟩)) ∧ (D 1 → v50 = .pointer (some ⟨p, 0, none⟩)) ∧ (D 2 → v51 = .pointer (some ⟨p, 2, none⟩)) ∧ (D 3 → v52 = .map (some bn)) ∧ (D 4 → v53 = .pointer (some ⟨wr.heap.size, 0, none⟩)) ∧ (D 5 → v54 = .int .i64 q.1) ∧ (D 6 → v55 = .pointer (some ⟨p, 0, none⟩)) ∧ (D 7 → v56 = .pointer (some ⟨p, 0, none⟩)) ∧ (D 8 → v57 = .pointer (some ⟨p, 1, none⟩)) ∧ (D 9 → v58 = .map (some bs)) ∧ (D 10 → v59 = .pointer (some ⟨wr.heap.size, 0, none⟩)) ∧ (D 11 → v60 = .int .i64 q.1) ∧ (D 12 → v61 = .agg (cellsB (GK q.1))) ∧ (D 13 → v62 = .tuple #[])) (by kernel_rfl) (by kernel_rfl) ?rmono ?rstart ?rstep ?rdone
          case rmono =>
            rintro D D' a w' hD ⟨v49, v50, v51, v52, v53, v54, v55, v56, v57, v58, v59, v60, v61, v62, ha, hB, hN, hM, e0, e1, e2, e3, e4, e5, e6, e7, e8, e9, e10, e11, e12, e13⟩
            exact ⟨v49, v50, v51, v52, v53, v54, v55, v56, v57, v58, v59, v60, v61, v62, ha, hB, hN.imp_left (hD 13).1, fun h => hM ((hD 13).2 h), fun h => e0 ((hD 0).2 h), fun h => e1 ((hD 1).2 h), fun h => e2 ((hD 2).2 h), fun h => e3 ((hD 3).2 h), fun h => e4 ((hD 4).2 h), fun h => e5 ((hD 5).2 h), fun h => e6 ((hD 6).2 h), fun h => e7 ((hD 7).2 h), fun h => e8 ((hD 8).2 h), fun h => e9 ((hD 9).2 h), fun h => e10 ((hD 10).2 h), fun h => e11 ((hD 11).2 h), fun h => e12 ((hD 12).2 h), fun h => e13 ((hD 13).2 h)⟩
          case rstart => exact ⟨u49, u50, u51, u52, u53, u54, u55, u56, u57, u58, u59, u60, u61, u62, by kernel_rfl, ⟨rfl, rfl, rfl, Nat.le_refl _, fun _ _ _ => rfl⟩, .inr ((show HasSec w2 bn GB from hS2).same rfl), fun h => h.elim, fun h => h.elim, fun h => h.elim, fun h => h.elim, fun h => h.elim, fun h => h.elim, fun h => h.elim, fun h => h.elim, fun h => h.elim, fun h => h.elim, fun h => h.elim, fun h => h.elim, fun h => h.elim, fun h => h.elim, fun h => h.elim⟩
          case rstep =>
            intro i o ho D a w' hI hn hcl hd
            obtain ⟨v49, v50, v51, v52, v53, v54, v55, v56, v57, v58, v59, v60, v61, v62, ha, hB, hN, hM, e0, e1, e2, e3, e4, e5, e6, e7, e8, e9, e10, e11, e12, e13⟩ := hI
            match i, ho with
            | 0, ho =>
              cases Option.some.inj ho
              have ev : a.tmps[0]?.getD undef = .pointer (some ⟨p, 0, none⟩) := by rw [ha]; kernel_rfl
              refine wp_value (w' := w') (v := .pointer (some ⟨p, 0, none⟩)) (by simp [execOp, ev, go_sem]) ?_
              exact ⟨(.pointer (some ⟨p, 0, none⟩)), v50, v51, v52, v53, v54, v55, v56, v57, v58, v59, v60, v61, v62, by rw [ha]; kernel_rfl, hB, hN.imp_left .inr, fun h => hM (h.resolve_left (by decide)), fun _ => rfl, fun h => e1 (h.resolve_left (by decide)), fun h => e2 (h.resolve_left (by decide)), fun h => e3 (h.resolve_left (by decide)), fun h => e4 (h.resolve_left (by decide)), fun h => e5 (h.resolve_left (by decide)), fun h => e6 (h.resolve_left (by decide)), fun h => e7 (h.resolve_left (by decide)), fun h => e8 (h.resolve_left (by decide)), fun h => e9 (h.resolve_left (by decide)), fun h => e10 (h.resolve_left (by decide)), fun h => e11 (h.resolve_left (by decide)), fun h => e12 (h.resolve_left (by decide)), fun h => e13 (h.resolve_left (by decide))⟩
            | 1, ho =>
              cases Option.some.inj ho
              have ev : a.tmps[49]?.getD undef = .pointer (some ⟨p, 0, none⟩) := by rw [ha, e0 (hd ⟨0, .data⟩ (by simp) rfl)]; kernel_rfl
              refine wp_value (w' := w') (v := .pointer (some ⟨p, 0, none⟩)) (by simp [execOp, ev, go_sem]) ?_
              exact ⟨v49, (.pointer (some ⟨p, 0, none⟩)), v51, v52, v53, v54, v55, v56, v57, v58, v59, v60, v61, v62, by rw [ha]; kernel_rfl, hB, hN.imp_left .inr, fun h => hM (h.resolve_left (by decide)), fun h => e0 (h.resolve_left (by decide)), fun _ => rfl, fun h => e2 (h.resolve_left (by decide)), fun h => e3 (h.resolve_left (by decide)), fun h => e4 (h.resolve_left (by decide)), fun h => e5 (h.resolve_left (by decide)), fun h => e6 (h.resolve_left (by decide)), fun h => e7 (h.resolve_left (by decide)), fun h => e8 (h.resolve_left (by decide)), fun h => e9 (h.resolve_left (by decide)), fun h => e10 (h.resolve_left (by decide)), fun h => e11 (h.resolve_left (by decide)), fun h => e12 (h.resolve_left (by decide)), fun h => e13 (h.resolve_left (by decide))⟩
            | 2, ho =>
              cases Option.some.inj ho
              have ev : a.tmps[50]?.getD undef = .pointer (some ⟨p, 0, none⟩) := by rw [ha, e1 (hd ⟨1, .data⟩ (by simp) rfl)]; kernel_rfl
              refine wp_value (w' := w') (v := .pointer (some ⟨p, 2, none⟩)) (by simp [execOp, ev, go_sem]) ?_
              exact ⟨v49, v50, (.pointer (some ⟨p, 2, none⟩)), v52, v53, v54, v55, v56, v57, v58, v59, v60, v61, v62, by rw [ha]; kernel_rfl, hB, hN.imp_left .inr, fun h => hM (h.resolve_left (by decide)), fun h => e0 (h.resolve_left (by decide)), fun h => e1 (h.resolve_left (by decide)), fun _ => rfl, fun h => e3 (h.resolve_left (by decide)), fun h => e4 (h.resolve_left (by decide)), fun h => e5 (h.resolve_left (by decide)), fun h => e6 (h.resolve_left (by decide)), fun h => e7 (h.resolve_left (by decide)), fun h => e8 (h.resolve_left (by decide)), fun h => e9 (h.resolve_left (by decide)), fun h => e10 (h.resolve_left (by decide)), fun h => e11 (h.resolve_left (by decide)), fun h => e12 (h.resolve_left (by decide)), fun h => e13 (h.resolve_left (by decide))⟩
            | 3, ho =>
              cases Option.some.inj ho
              have ev : a.tmps[51]?.getD undef = .pointer (some ⟨p, 2, none⟩) := by rw [ha, e2 (hd ⟨2, .data⟩ (by simp) rfl)]; kernel_rfl
              have hc := hB.cell c2 (by simpa using hpn)
              refine wp_value (w' := w') (v := .map (some bn)) (by simp [execOp, ev, go_sem, hc]) ?_
              exact ⟨v49, v50, v51, (.map (some bn)), v53, v54, v55, v56, v57, v58, v59, v60, v61, v62, by rw [ha]; kernel_rfl, hB, hN.imp_left .inr, fun h => hM (h.resolve_left (by decide)), fun h => e0 (h.resolve_left (by decide)), fun h => e1 (h.resolve_left (by decide)), fun h => e2 (h.resolve_left (by decide)), fun _ => rfl, fun h => e4 (h.resolve_left (by decide)), fun h => e5 (h.resolve_left (by decide)), fun h => e6 (h.resolve_left (by decide)), fun h => e7 (h.resolve_left (by decide)), fun h => e8 (h.resolve_left (by decide)), fun h => e9 (h.resolve_left (by decide)), fun h => e10 (h.resolve_left (by decide)), fun h => e11 (h.resolve_left (by decide)), fun h => e12 (h.resolve_left (by decide)), fun h => e13 (h.resolve_left (by decide))⟩
            | 4, ho =>
              cases Option.some.inj ho
              have ev : a.tmps[7]?.getD undef = .pointer (some ⟨wr.heap.size, 0, none⟩) := by rw [ha]; kernel_rfl
              refine wp_value (w' := w') (v := .pointer (some ⟨wr.heap.size, 0, none⟩)) (by simp [execOp, ev, go_sem]) ?_
              exact ⟨v49, v50, v51, v52, (.pointer (some ⟨wr.heap.size, 0, none⟩)), v54, v55, v56, v57, v58, v59, v60, v61, v62, by rw [ha]; kernel_rfl, hB, hN.imp_left .inr, fun h => hM (h.resolve_left (by decide)), fun h => e0 (h.resolve_left (by decide)), fun h => e1 (h.resolve_left (by decide)), fun h => e2 (h.resolve_left (by decide)), fun h => e3 (h.resolve_left (by decide)), fun _ => rfl, fun h => e5 (h.resolve_left (by decide)), fun h => e6 (h.resolve_left (by decide)), fun h => e7 (h.resolve_left (by decide)), fun h => e8 (h.resolve_left (by decide)), fun h => e9 (h.resolve_left (by decide)), fun h => e10 (h.resolve_left (by decide)), fun h => e11 (h.resolve_left (by decide)), fun h => e12 (h.resolve_left (by decide)), fun h => e13 (h.resolve_left (by decide))⟩
            | 5, ho =>
              cases Option.some.inj ho
              have ev : a.tmps[53]?.getD undef = .pointer (some ⟨wr.heap.size, 0, none⟩) := by rw [ha, e4 (hd ⟨4, .data⟩ (by simp) rfl)]; kernel_rfl
              have hc := box_at ((hB.block _ (lt_of_block A2) (by simpa using hxn)).trans A2)
              refine wp_value (w' := w') (v := .int .i64 q.1) (by simp [execOp, ev, go_sem, hc]) ?_
              exact ⟨v49, v50, v51, v52, v53, (.int .i64 q.1), v55, v56, v57, v58, v59, v60, v61, v62, by rw [ha]; kernel_rfl, hB, hN.imp_left .inr, fun h => hM (h.resolve_left (by decide)), fun h => e0 (h.resolve_left (by decide)), fun h => e1 (h.resolve_left (by decide)), fun h => e2 (h.resolve_left (by decide)), fun h => e3 (h.resolve_left (by decide)), fun h => e4 (h.resolve_left (by decide)), fun _ => rfl, fun h => e6 (h.resolve_left (by decide)), fun h => e7 (h.resolve_left (by decide)), fun h => e8 (h.resolve_left (by decide)), fun h => e9 (h.resolve_left (by decide)), fun h => e10 (h.resolve_left (by decide)), fun h => e11 (h.resolve_left (by decide)), fun h => e12 (h.resolve_left (by decide)), fun h => e13 (h.resolve_left (by decide))⟩
            | 6, ho =>
              cases Option.some.inj ho
              have ev : a.tmps[0]?.getD undef = .pointer (some ⟨p, 0, none⟩) := by rw [ha]; kernel_rfl
              refine wp_value (w' := w') (v := .pointer (some ⟨p, 0, none⟩)) (by simp [execOp, ev, go_sem]) ?_
              exact ⟨v49, v50, v51, v52, v53, v54, (.pointer (some ⟨p, 0, none⟩)), v56, v57, v58, v59, v60, v61, v62, by rw [ha]; kernel_rfl, hB, hN.imp_left .inr, fun h => hM (h.resolve_left (by decide)), fun h => e0 (h.resolve_left (by decide)), fun h => e1 (h.resolve_left (by decide)), fun h => e2 (h.resolve_left (by decide)), fun h => e3 (h.resolve_left (by decide)), fun h => e4 (h.resolve_left (by decide)), fun h => e5 (h.resolve_left (by decide)), fun _ => rfl, fun h => e7 (h.resolve_left (by decide)), fun h => e8 (h.resolve_left (by decide)), fun h => e9 (h.resolve_left (by decide)), fun h => e10 (h.resolve_left (by decide)), fun h => e11 (h.resolve_left (by decide)), fun h => e12 (h.resolve_left (by decide)), fun h => e13 (h.resolve_left (by decide))⟩
            | 7, ho =>
              cases Option.some.inj ho
              have ev : a.tmps[55]?.getD undef = .pointer (some ⟨p, 0, none⟩) := by rw [ha, e6 (hd ⟨6, .data⟩ (by simp) rfl)]; kernel_rfl
              refine wp_value (w' := w') (v := .pointer (some ⟨p, 0, none⟩)) (by simp [execOp, ev, go_sem]) ?_
              exact ⟨v49, v50, v51, v52, v53, v54, v55, (.pointer (some ⟨p, 0, none⟩)), v57, v58, v59, v60, v61, v62, by rw [ha]; kernel_rfl, hB, hN.imp_left .inr, fun h => hM (h.resolve_left (by decide)), fun h => e0 (h.resolve_left (by decide)), fun h => e1 (h.resolve_left (by decide)), fun h => e2 (h.resolve_left (by decide)), fun h => e3 (h.resolve_left (by decide)), fun h => e4 (h.resolve_left (by decide)), fun h => e5 (h.resolve_left (by decide)), fun h => e6 (h.resolve_left (by decide)), fun _ => rfl, fun h => e8 (h.resolve_left (by decide)), fun h => e9 (h.resolve_left (by decide)), fun h => e10 (h.resolve_left (by decide)), fun h => e11 (h.resolve_left (by decide)), fun h => e12 (h.resolve_left (by decide)), fun h => e13 (h.resolve_left (by decide))⟩
            | 8, ho =>
              cases Option.some.inj ho
              have ev : a.tmps[56]?.getD undef = .pointer (some ⟨p, 0, none⟩) := by rw [ha, e7 (hd ⟨7, .data⟩ (by simp) rfl)]; kernel_rfl
              refine wp_value (w' := w') (v := .pointer (some ⟨p, 1, none⟩)) (by simp [execOp, ev, go_sem]) ?_
              exact ⟨v49, v50, v51, v52, v53, v54, v55, v56, (.pointer (some ⟨p, 1, none⟩)), v58, v59, v60, v61, v62, by rw [ha]; kernel_rfl, hB, hN.imp_left .inr, fun h => hM (h.resolve_left (by decide)), fun h => e0 (h.resolve_left (by decide)), fun h => e1 (h.resolve_left (by decide)), fun h => e2 (h.resolve_left (by decide)), fun h => e3 (h.resolve_left (by decide)), fun h => e4 (h.resolve_left (by decide)), fun h => e5 (h.resolve_left (by decide)), fun h => e6 (h.resolve_left (by decide)), fun h => e7 (h.resolve_left (by decide)), fun _ => rfl, fun h => e9 (h.resolve_left (by decide)), fun h => e10 (h.resolve_left (by decide)), fun h => e11 (h.resolve_left (by decide)), fun h => e12 (h.resolve_left (by decide)), fun h => e13 (h.resolve_left (by decide))⟩
            | 9, ho =>
              cases Option.some.inj ho
              have ev : a.tmps[57]?.getD undef = .pointer (some ⟨p, 1, none⟩) := by rw [ha, e8 (hd ⟨8, .data⟩ (by simp) rfl)]; kernel_rfl
              have hc := hB.cell c1 (by simpa using hpn)
              refine wp_value (w' := w') (v := .map (some bs)) (by simp [execOp, ev, go_sem, hc]) ?_
              exact ⟨v49, v50, v51, v52, v53, v54, v55, v56, v57, (.map (some bs)), v59, v60, v61, v62, by rw [ha]; kernel_rfl, hB, hN.imp_left .inr, fun h => hM (h.resolve_left (by decide)), fun h => e0 (h.resolve_left (by decide)), fun h => e1 (h.resolve_left (by decide)), fun h => e2 (h.resolve_left (by decide)), fun h => e3 (h.resolve_left (by decide)), fun h => e4 (h.resolve_left (by decide)), fun h => e5 (h.resolve_left (by decide)), fun h => e6 (h.resolve_left (by decide)), fun h => e7 (h.resolve_left (by decide)), fun h => e8 (h.resolve_left (by decide)), fun _ => rfl, fun h => e10 (h.resolve_left (by decide)), fun h => e11 (h.resolve_left (by decide)), fun h => e12 (h.resolve_left (by decide)), fun h => e13 (h.resolve_left (by decide))⟩
            | 10, ho =>
              cases Option.some.inj ho
              have ev : a.tmps[7]?.getD undef = .pointer (some ⟨wr.heap.size, 0, none⟩) := by rw [ha]; kernel_rfl
              refine wp_value (w' := w') (v := .pointer (some ⟨wr.heap.size, 0, none⟩)) (by simp [execOp, ev, go_sem]) ?_
              exact ⟨v49, v50, v51, v52, v53, v54, v55, v56, v57, v58, (.pointer (some ⟨wr.heap.size, 0, none⟩)), v60, v61, v62, by rw [ha]; kernel_rfl, hB, hN.imp_left .inr, fun h => hM (h.resolve_left (by decide)), fun h => e0 (h.resolve_left (by decide)), fun h => e1 (h.resolve_left (by decide)), fun h => e2 (h.resolve_left (by decide)), fun h => e3 (h.resolve_left (by decide)), fun h => e4 (h.resolve_left (by decide)), fun h => e5 (h.resolve_left (by decide)), fun h => e6 (h.resolve_left (by decide)), fun h => e7 (h.resolve_left (by decide)), fun h => e8 (h.resolve_left (by decide)), fun h => e9 (h.resolve_left (by decide)), fun _ => rfl, fun h => e11 (h.resolve_left (by decide)), fun h => e12 (h.resolve_left (by decide)), fun h => e13 (h.resolve_left (by decide))⟩
            | 11, ho =>
              cases Option.some.inj ho
              have ev : a.tmps[59]?.getD undef = .pointer (some ⟨wr.heap.size, 0, none⟩) := by rw [ha, e10 (hd ⟨10, .data⟩ (by simp) rfl)]; kernel_rfl
              have hc := box_at ((hB.block _ (lt_of_block A2) (by simpa using hxn)).trans A2)
              refine wp_value (w' := w') (v := .int .i64 q.1) (by simp [execOp, ev, go_sem, hc]) ?_
              exact ⟨v49, v50, v51, v52, v53, v54, v55, v56, v57, v58, v59, (.int .i64 q.1), v61, v62, by rw [ha]; kernel_rfl, hB, hN.imp_left .inr, fun h => hM (h.resolve_left (by decide)), fun h => e0 (h.resolve_left (by decide)), fun h => e1 (h.resolve_left (by decide)), fun h => e2 (h.resolve_left (by decide)), fun h => e3 (h.resolve_left (by decide)), fun h => e4 (h.resolve_left (by decide)), fun h => e5 (h.resolve_left (by decide)), fun h => e6 (h.resolve_left (by decide)), fun h => e7 (h.resolve_left (by decide)), fun h => e8 (h.resolve_left (by decide)), fun h => e9 (h.resolve_left (by decide)), fun h => e10 (h.resolve_left (by decide)), fun _ => rfl, fun h => e12 (h.resolve_left (by decide)), fun h => e13 (h.resolve_left (by decide))⟩
            | 12, ho =>
              cases Option.some.inj ho
              have ev : a.tmps[58]?.getD undef = .map (some bs) := by rw [ha, e9 (hd ⟨9, .data⟩ (by simp) rfl)]; kernel_rfl
              have ev' : a.tmps[60]?.getD undef = .int .i64 q.1 := by rw [ha, e11 (hd ⟨11, .data⟩ (by simp) rfl)]; kernel_rfl
              have hc := (hS1.same (hB.block _ hS1.lt (by simpa using hne))).lookup q.1
              unfold secV at hc
              refine wp_value (w' := w') (v := .agg (cellsB (GK q.1))) (by simp [execOp, ev, ev', go_sem, hc]) ?_
              exact ⟨v49, v50, v51, v52, v53, v54, v55, v56, v57, v58, v59, v60, (.agg (cellsB (GK q.1))), v62, by rw [ha]; kernel_rfl, hB, hN.imp_left .inr, fun h => hM (h.resolve_left (by decide)), fun h => e0 (h.resolve_left (by decide)), fun h => e1 (h.resolve_left (by decide)), fun h => e2 (h.resolve_left (by decide)), fun h => e3 (h.resolve_left (by decide)), fun h => e4 (h.resolve_left (by decide)), fun h => e5 (h.resolve_left (by decide)), fun h => e6 (h.resolve_left (by decide)), fun h => e7 (h.resolve_left (by decide)), fun h => e8 (h.resolve_left (by decide)), fun h => e9 (h.resolve_left (by decide)), fun h => e10 (h.resolve_left (by decide)), fun h => e11 (h.resolve_left (by decide)), fun _ => rfl, fun h => e13 (h.resolve_left (by decide))⟩
            | 13, ho =>
              cases Option.some.inj ho
              have ev : a.tmps[52]?.getD undef = .map (some bn) := by rw [ha, e3 (hd ⟨3, .data⟩ (by simp) rfl)]; kernel_rfl
              have ev' : a.tmps[54]?.getD undef = .int .i64 q.1 := by rw [ha, e5 (hd ⟨5, .data⟩ (by simp) rfl)]; kernel_rfl
              have ev'' : a.tmps[61]?.getD undef = .agg (cellsB (GK q.1)) := by rw [ha, e12 (hd ⟨12, .data⟩ (by simp) rfl)]; kernel_rfl
              refine wp_enter (f := 64) (args := #[.map (some bn), .int .i64 q.1, .agg (cellsB (GK q.1))]) (by simp [execOp, ev, ev', ev'', go_sem]) ?_
              refine (put_any q.1 (hS1.isSec q.1) (hN.resolve_left hn)).mono ?_
              rintro e w6 ⟨rfl, hM8, HG⟩
              refine ⟨_, rfl, ?_⟩
              exact ⟨v49, v50, v51, v52, v53, v54, v55, v56, v57, v58, v59, v60, v61, (.tuple #[]), by rw [ha]; kernel_rfl, World.grownBy.trans hB HG, .inl (.inl rfl), fun _ => hM8, fun h => e0 (h.resolve_left (by decide)), fun h => e1 (h.resolve_left (by decide)), fun h => e2 (h.resolve_left (by decide)), fun h => e3 (h.resolve_left (by decide)), fun h => e4 (h.resolve_left (by decide)), fun h => e5 (h.resolve_left (by decide)), fun h => e6 (h.resolve_left (by decide)), fun h => e7 (h.resolve_left (by decide)), fun h => e8 (h.resolve_left (by decide)), fun h => e9 (h.resolve_left (by decide)), fun h => e10 (h.resolve_left (by decide)), fun h => e11 (h.resolve_left (by decide)), fun h => e12 (h.resolve_left (by decide)), fun _ => rfl⟩
            | i + 14, ho => simp at ho
          case rdone =>
            rintro D a w' ⟨v49, v50, v51, v52, v53, v54, v55, v56, v57, v58, v59, v60, v61, v62, ha, hB, hN, hM, e0, e1, e2, e3, e4, e5, e6, e7, e8, e9, e10, e11, e12, e13⟩ hall
            have hM' := hM (hall 13 (by decide))
            obtain rfl := e0 (hall 0 (by decide))
            obtain rfl := e1 (hall 1 (by decide))
            obtain rfl := e2 (hall 2 (by decide))
            obtain rfl := e3 (hall 3 (by decide))
            obtain rfl := e4 (hall 4 (by decide))
            obtain rfl := e5 (hall 5 (by decide))
            obtain rfl := e6 (hall 6 (by decide))
            obtain rfl := e7 (hall 7 (by decide))
            obtain rfl := e8 (hall 8 (by decide))
            obtain rfl := e9 (hall 9 (by decide))
            obtain rfl := e10 (hall 10 (by decide))
            obtain rfl := e11 (hall 11 (by decide))
            obtain rfl := e12 (hall 12 (by decide))
            obtain rfl := e13 (hall 13 (by decide))
            clear hN hM hall e0 e1 e2 e3 e4 e5 e6 e7 e8 e9 e10 e11 e12 e13
            rw [ha]
            clear ha
            simp only [Act.put, List.setIfInBounds_toArray, List.set_cons_zero, List.set_cons_succ]
            have D3 := D2.bn2 hB hM'
            have F3 := F2.trans (Fr.grown (pv := .slice (some ⟨g, 0, none⟩) L.length pc) (p := p) (bs := bs) (bn := bn) hB (.inr (.inr (.inr rfl))))
            clear hB hM' D2 F2
            go_wp2
            go_roundw
            case rel => exact ⟨j + 1, by omega, rfl, by rw [take_succ_of hq, backG_snoc, hGB]; exact D3, F3⟩
            case measure => simp [intOf]; omega
    · have hlt : (j : Int) < (L.length : Int) := by omega
      obtain ⟨q, hq⟩ : ∃ q, L[j]? = some q := ⟨L[j], List.getElem?_eq_getElem (by omega)⟩
      obtain ⟨g, cap, hpe⟩ : ∃ g cap, Value.slice pa L.length pc = .slice (some ⟨g, 0, none⟩) L.length cap := by
        rcases hD.pend.2 with ⟨e, hn⟩ | ⟨g, cap, cur, e, _⟩
        · omega
        · exact ⟨g, cap, e⟩
      injection hpe with e1 e2 e3
      subst e1 e3
      have hsq := hD.secs q (List.mem_of_getElem? hq)
      have hld := own_load hD.pend hD.secs hq
      have hz := zero59
      have hA := heap_alloc_new wr (.cells (wcells (0, z128)).toArray 107)
      have A2 : ((wr.alloc (.cells (wcells (0, z128)).toArray 107)).setRow wr.heap.size (wcells q).toArray).heap[wr.heap.size]? = some (.cells (wcells q).toArray 107 (0, 0)) := setRow_heap _ _ _ _ _ _ hA
      have hk2 : ∀ i, i < wr.heap.size → ((wr.alloc (.cells (wcells (0, z128)).toArray 107)).setRow wr.heap.size (wcells q).toArray).heap[i]? = wr.heap[i]? := fun i hi => (setRow_other _ _ _ _ (by omega)).trans (Below.heap_alloc _ _ _ hi)
      have hg2 : wr.grownBy ((wr.alloc (.cells (wcells (0, z128)).toArray 107)).setRow wr.heap.size (wcells q).toArray) none := ⟨rfl, rfl, rfl, by simp, fun i hi _ => hk2 i hi⟩
      have D2 := hD.same hk2
      have F2 := hF.trans (Fr.grown (pv := .slice (some ⟨g, 0, none⟩) L.length pc) (p := p) (bs := bs) (bn := bn) hg2 (.inl rfl))
      have hsz1 : (Try.prog.info? 107).map (·.size) = some (wcells q).toArray.size := by rw [List.size_toArray, wcells_len hsq]; kernel_rfl
      have hsz2 : (wcells (0, z128)).toArray.size = (wcells q).toArray.size := by rw [List.size_toArray, List.size_toArray, wcells_len hsq, wcells_len isSec_z]
      have hone : (wcells q).toArray.all (·.oneCell') = true := by simpa using wcells_one q
      by_cases hkj : ks.getD j false = true
      · have hjk : j < klen := by
          rw [← hk.size]
          by_cases hlt : j < ks.length
          · exact hlt
          · simp [List.getD, List.getElem?_eq_none (show ks.length ≤ j by omega)] at hkj
        obtain ⟨kb, koff, rfl, hkc⟩ := hk.cell (by omega)
        obtain ⟨n1, n2, n3, n4⟩ := hkf kb koff rfl (by omega)
        have hkb := block_lt_of_cell (hkc j hjk)
        have kc2 : ((wr.alloc (.cells (wcells (0, z128)).toArray 107)).setRow wr.heap.size (wcells q).toArray).cell? ⟨kb, koff + j, none⟩ = some (.bool true) := by
          rw [← hkj, ← hkc j hjk]
          exact World.cell?_of_block (F2.keep kb hkb n1 n2 n3 n4).1
        have hjk' : (j : Int) < (klen : Int) := by omega
        go_wp2_with (first | (refine wpList_value rfl (run_load59 rfl rfl hld) ?_) | refine wpList_store_row rfl 107 _ _ rfl wr.heap.size _ rfl rfl 107 _ hA hsz1 hsz2 hone ?_)
        generalize (wr.alloc (.cells (wcells (0, z128)).toArray 107)).setRow wr.heap.size (wcells q).toArray = w2 at *
        obtain ⟨GK, hGK⟩ : ∃ GK, appl G0 (keptL (L.take j) ks) = GK := ⟨_, rfl⟩
        rw [hGK] at D2
        obtain ⟨_, c1, c2, _⟩ := dev_cells D2.obj
        have hpn : p ≠ bs := D2.pbs
        have hxn : wr.heap.size ≠ bs := by have := hD.safe.lt; omega
        have hS2 := D2.safe
        have hw1 : IntKind.i64.wrap ((j : Int) + 1) = (j : Int) + 1 := by rw [IntKind.wrap_i64]; omega
        clear hD hF hld hz hA hk2 hg2 hsz1 hsz2 hone kc2
        refine wp_region_inv' (fun A D a w' => ∃ v30 v31 v32 v33 v34 v35 v36 v37 v38, a = (((((((((A.put (some 30) v30).put (some 31) v31).put (some 32) v32).put (some 33) v33).put (some 34) v34).put (some 35) v35).put (some 36) v36).put (some 37) v37).put (some 38) v38) ∧ w2.grownBy w' (some bs) ∧ (D 8 ∨ HasSec w' bs (GK)) ∧ (D 8 → HasSec w' bs (fun i => if i = q.1 then q.2 else (GK) i)) ∧ (D 0 → v30 = .pointer (some ⟨p, 0, none⟩)) ∧ (D 1 → v31 = .pointer (some ⟨p, 0, none⟩)) ∧ (D 2 → v32 = .pointer (some ⟨p, 1, none⟩)) ∧ (D 3 → v33 = .map (some bs)) ∧ (D 4 → v34 = .pointer (some ⟨wr.heap.size, 0, none⟩)) ∧ (D 5 → v35 = .int .i64 q.1) ∧ (D 6 → v36 = .pointer (some ⟨wr.heap.size, 1, none⟩)) ∧ (D 7 → v37 = .agg (cellsB q.2)) ∧ (D 8 → v38 = .tuple #[])) (by kernel_rfl) (by kernel_rfl) ?rmono ?rstart ?rstep ?rdone
        case rmono =>
          rintro D D' a w' hD ⟨v30, v31, v32, v33, v34, v35, v36, v37, v38, ha, hB, hN, hM, e0, e1, e2, e3, e4, e5, e6, e7, e8⟩
          exact ⟨v30, v31, v32, v33, v34, v35, v36, v37, v38, ha, hB, hN.imp_left (hD 8).1, fun h => hM ((hD 8).2 h), fun h => e0 ((hD 0).2 h), fun h => e1 ((hD 1).2 h), fun h => e2 ((hD 2).2 h), fun h => e3 ((hD 3).2 h), fun h => e4 ((hD 4).2 h), fun h => e5 ((hD 5).2 h), fun h => e6 ((hD 6).2 h), fun h => e7 ((hD 7).2 h), fun h => e8 ((hD 8).2 h)⟩
        case rstart => exact ⟨u30, u31, u32, u33, u34, u35, u36, u37, u38, by kernel_rfl, ⟨rfl, rfl, rfl, Nat.le_refl _, fun _ _ _ => rfl⟩, .inr ((show HasSec w2 bs (GK) from hS2).same rfl), fun h => h.elim, fun h => h.elim, fun h => h.elim, fun h => h.elim, fun h => h.elim, fun h => h.elim, fun h => h.elim, fun h => h.elim, fun h => h.elim, fun h => h.elim⟩
        case rstep =>
          intro i o ho D a w' hI hn hcl hd
          obtain ⟨v30, v31, v32, v33, v34, v35, v36, v37, v38, ha, hB, hN, hM, e0, e1, e2, e3, e4, e5, e6, e7, e8⟩ := hI
          match i, ho with
          | 0, ho =>
            cases Option.some.inj ho
            have ev : a.tmps[0]?.getD undef = .pointer (some ⟨p, 0, none⟩) := by rw [ha]; kernel_rfl
            refine wp_value (w' := w') (v := .pointer (some ⟨p, 0, none⟩)) (by simp [execOp, ev, go_sem]) ?_
            exact ⟨(.pointer (some ⟨p, 0, none⟩)), v31, v32, v33, v34, v35, v36, v37, v38, by rw [ha]; kernel_rfl, hB, hN.imp_left .inr, fun h => hM (h.resolve_left (by decide)), fun _ => rfl, fun h => e1 (h.resolve_left (by decide)), fun h => e2 (h.resolve_left (by decide)), fun h => e3 (h.resolve_left (by decide)), fun h => e4 (h.resolve_left (by decide)), fun h => e5 (h.resolve_left (by decide)), fun h => e6 (h.resolve_left (by decide)), fun h => e7 (h.resolve_left (by decide)), fun h => e8 (h.resolve_left (by decide))⟩
          | 1, ho =>
            cases Option.some.inj ho
            have ev : a.tmps[30]?.getD undef = .pointer (some ⟨p, 0, none⟩) := by rw [ha, e0 (hd ⟨0, .data⟩ (by simp) rfl)]; kernel_rfl
            refine wp_value (w' := w') (v := .pointer (some ⟨p, 0, none⟩)) (by simp [execOp, ev, go_sem]) ?_
            exact ⟨v30, (.pointer (some ⟨p, 0, none⟩)), v32, v33, v34, v35, v36, v37, v38, by rw [ha]; kernel_rfl, hB, hN.imp_left .inr, fun h => hM (h.resolve_left (by decide)), fun h => e0 (h.resolve_left (by decide)), fun _ => rfl, fun h => e2 (h.resolve_left (by decide)), fun h => e3 (h.resolve_left (by decide)), fun h => e4 (h.resolve_left (by decide)), fun h => e5 (h.resolve_left (by decide)), fun h => e6 (h.resolve_left (by decide)), fun h => e7 (h.resolve_left (by decide)), fun h => e8 (h.resolve_left (by decide))⟩
          | 2, ho =>
            cases Option.some.inj ho
            have ev : a.tmps[31]?.getD undef = .pointer (some ⟨p, 0, none⟩) := by rw [ha, e1 (hd ⟨1, .data⟩ (by simp) rfl)]; kernel_rfl
            refine wp_value (w' := w') (v := .pointer (some ⟨p, 1, none⟩)) (by simp [execOp, ev, go_sem]) ?_
            exact ⟨v30, v31, (.pointer (some ⟨p, 1, none⟩)), v33, v34, v35, v36, v37, v38, by rw [ha]; kernel_rfl, hB, hN.imp_left .inr, fun h => hM (h.resolve_left (by decide)), fun h => e0 (h.resolve_left (by decide)), fun h => e1 (h.resolve_left (by decide)), fun _ => rfl, fun h => e3 (h.resolve_left (by decide)), fun h => e4 (h.resolve_left (by decide)), fun h => e5 (h.resolve_left (by decide)), fun h => e6 (h.resolve_left (by decide)), fun h => e7 (h.resolve_left (by decide)), fun h => e8 (h.resolve_left (by decide))⟩
          | 3, ho =>
            cases Option.some.inj ho
            have ev : a.tmps[32]?.getD undef = .pointer (some ⟨p, 1, none⟩) := by rw [ha, e2 (hd ⟨2, .data⟩ (by simp) rfl)]; kernel_rfl
            have hc := hB.cell c1 (by simpa using hpn)
            refine wp_value (w' := w') (v := .map (some bs)) (by simp [execOp, ev, go_sem, hc]) ?_
            exact ⟨v30, v31, v32, (.map (some bs)), v34, v35, v36, v37, v38, by rw [ha]; kernel_rfl, hB, hN.imp_left .inr, fun h => hM (h.resolve_left (by decide)), fun h => e0 (h.resolve_left (by decide)), fun h => e1 (h.resolve_left (by decide)), fun h => e2 (h.resolve_left (by decide)), fun _ => rfl, fun h => e4 (h.resolve_left (by decide)), fun h => e5 (h.resolve_left (by decide)), fun h => e6 (h.resolve_left (by decide)), fun h => e7 (h.resolve_left (by decide)), fun h => e8 (h.resolve_left (by decide))⟩
          | 4, ho =>
            cases Option.some.inj ho
            have ev : a.tmps[5]?.getD undef = .pointer (some ⟨wr.heap.size, 0, none⟩) := by rw [ha]; kernel_rfl
            refine wp_value (w' := w') (v := .pointer (some ⟨wr.heap.size, 0, none⟩)) (by simp [execOp, ev, go_sem]) ?_
            exact ⟨v30, v31, v32, v33, (.pointer (some ⟨wr.heap.size, 0, none⟩)), v35, v36, v37, v38, by rw [ha]; kernel_rfl, hB, hN.imp_left .inr, fun h => hM (h.resolve_left (by decide)), fun h => e0 (h.resolve_left (by decide)), fun h => e1 (h.resolve_left (by decide)), fun h => e2 (h.resolve_left (by decide)), fun h => e3 (h.resolve_left (by decide)), fun _ => rfl, fun h => e5 (h.resolve_left (by decide)), fun h => e6 (h.resolve_left (by decide)), fun h => e7 (h.resolve_left (by decide)), fun h => e8 (h.resolve_left (by decide))⟩
          | 5, ho =>
            cases Option.some.inj ho
            have ev : a.tmps[34]?.getD undef = .pointer (some ⟨wr.heap.size, 0, none⟩) := by rw [ha, e4 (hd ⟨4, .data⟩ (by simp) rfl)]; kernel_rfl
            have hc := box_at ((hB.block _ (lt_of_block A2) (by simpa using hxn)).trans A2)
            refine wp_value (w' := w') (v := .int .i64 q.1) (by simp [execOp, ev, go_sem, hc]) ?_
            exact ⟨v30, v31, v32, v33, v34, (.int .i64 q.1), v36, v37, v38, by rw [ha]; kernel_rfl, hB, hN.imp_left .inr, fun h => hM (h.resolve_left (by decide)), fun h => e0 (h.resolve_left (by decide)), fun h => e1 (h.resolve_left (by decide)), fun h => e2 (h.resolve_left (by decide)), fun h => e3 (h.resolve_left (by decide)), fun h => e4 (h.resolve_left (by decide)), fun _ => rfl, fun h => e6 (h.resolve_left (by decide)), fun h => e7 (h.resolve_left (by decide)), fun h => e8 (h.resolve_left (by decide))⟩
          | 6, ho =>
            cases Option.some.inj ho
            have ev : a.tmps[5]?.getD undef = .pointer (some ⟨wr.heap.size, 0, none⟩) := by rw [ha]; kernel_rfl
            refine wp_value (w' := w') (v := .pointer (some ⟨wr.heap.size, 1, none⟩)) (by simp [execOp, ev, go_sem]) ?_
            exact ⟨v30, v31, v32, v33, v34, v35, (.pointer (some ⟨wr.heap.size, 1, none⟩)), v37, v38, by rw [ha]; kernel_rfl, hB, hN.imp_left .inr, fun h => hM (h.resolve_left (by decide)), fun h => e0 (h.resolve_left (by decide)), fun h => e1 (h.resolve_left (by decide)), fun h => e2 (h.resolve_left (by decide)), fun h => e3 (h.resolve_left (by decide)), fun h => e4 (h.resolve_left (by decide)), fun h => e5 (h.resolve_left (by decide)), fun _ => rfl, fun h => e7 (h.resolve_left (by decide)), fun h => e8 (h.resolve_left (by decide))⟩
          | 7, ho =>
            cases Option.some.inj ho
            have ev : a.tmps[36]?.getD undef = .pointer (some ⟨wr.heap.size, 1, none⟩) := by rw [ha, e6 (hd ⟨6, .data⟩ (by simp) rfl)]; kernel_rfl
            refine wp_value (w' := w') (v := .agg (cellsB q.2)) (run_load57x (eval_of ev) rfl (box_load hsq ((hB.block _ (lt_of_block A2) (by simpa using hxn)).trans A2))) ?_
            exact ⟨v30, v31, v32, v33, v34, v35, v36, (.agg (cellsB q.2)), v38, by rw [ha]; kernel_rfl, hB, hN.imp_left .inr, fun h => hM (h.resolve_left (by decide)), fun h => e0 (h.resolve_left (by decide)), fun h => e1 (h.resolve_left (by decide)), fun h => e2 (h.resolve_left (by decide)), fun h => e3 (h.resolve_left (by decide)), fun h => e4 (h.resolve_left (by decide)), fun h => e5 (h.resolve_left (by decide)), fun h => e6 (h.resolve_left (by decide)), fun _ => rfl, fun h => e8 (h.resolve_left (by decide))⟩
          | 8, ho =>
            cases Option.some.inj ho
            have ev : a.tmps[33]?.getD undef = .map (some bs) := by rw [ha, e3 (hd ⟨3, .data⟩ (by simp) rfl)]; kernel_rfl
            have ev' : a.tmps[35]?.getD undef = .int .i64 q.1 := by rw [ha, e5 (hd ⟨5, .data⟩ (by simp) rfl)]; kernel_rfl
            have ev'' : a.tmps[37]?.getD undef = .agg (cellsB q.2) := by rw [ha, e7 (hd ⟨7, .data⟩ (by simp) rfl)]; kernel_rfl
            refine wp_enter (f := 64) (args := #[.map (some bs), .int .i64 q.1, .agg (cellsB q.2)]) (by simp [execOp, ev, ev', ev'', go_sem]) ?_
            refine (put_any q.1 hsq (hN.resolve_left hn)).mono ?_
            rintro e w6 ⟨rfl, hM8, HG⟩
            refine ⟨_, rfl, ?_⟩
            exact ⟨v30, v31, v32, v33, v34, v35, v36, v37, (.tuple #[]), by rw [ha]; kernel_rfl, World.grownBy.trans hB HG, .inl (.inl rfl), fun _ => hM8, fun h => e0 (h.resolve_left (by decide)), fun h => e1 (h.resolve_left (by decide)), fun h => e2 (h.resolve_left (by decide)), fun h => e3 (h.resolve_left (by decide)), fun h => e4 (h.resolve_left (by decide)), fun h => e5 (h.resolve_left (by decide)), fun h => e6 (h.resolve_left (by decide)), fun h => e7 (h.resolve_left (by decide)), fun _ => rfl⟩
          | i + 9, ho => simp at ho
        case rdone =>
          rintro D a w' ⟨v30, v31, v32, v33, v34, v35, v36, v37, v38, ha, hB, hN, hM, e0, e1, e2, e3, e4, e5, e6, e7, e8⟩ hall
          have hM' := hM (hall 8 (by decide))
          obtain rfl := e0 (hall 0 (by decide))
          obtain rfl := e1 (hall 1 (by decide))
          obtain rfl := e2 (hall 2 (by decide))
          obtain rfl := e3 (hall 3 (by decide))
          obtain rfl := e4 (hall 4 (by decide))
          obtain rfl := e5 (hall 5 (by decide))
          obtain rfl := e6 (hall 6 (by decide))
          obtain rfl := e7 (hall 7 (by decide))
          obtain rfl := e8 (hall 8 (by decide))
          clear hN hM hall e0 e1 e2 e3 e4 e5 e6 e7 e8
          rw [ha]
          clear ha
          simp only [Act.put, List.setIfInBounds_toArray, List.set_cons_zero, List.set_cons_succ]
          have D3 := D2.bs2 hB hM'
          have F3 := F2.trans (Fr.grown (pv := .slice (some ⟨g, 0, none⟩) L.length pc) (p := p) (bs := bs) (bn := bn) hB (.inr (.inr (.inl rfl))))
          clear hB hM' D2 F2
          go_wp2
          go_roundw
          case rel => exact ⟨j + 1, by omega, rfl, by rw [take_succ_of hq, keptL_snoc, List.length_take, Nat.min_eq_left hj, if_pos hkj, appl_snoc, hGK]; exact D3, F3⟩
          case measure => simp [intOf]; omega
      · have hkf' : ks.getD j false = false := by simpa using hkj
        have hw1 : IntKind.i64.wrap ((j : Int) + 1) = (j : Int) + 1 := by rw [IntKind.wrap_i64]; omega
        have hnew : Dev ((wr.alloc (.cells (wcells (0, z128)).toArray 107)).setRow wr.heap.size (wcells q).toArray) n₀ p bs bn (.slice (some ⟨g, 0, none⟩) L.length pc) size (appl G0 (keptL (L.take (j + 1)) ks)) G1 L left dead := by
          rw [take_succ_of hq, keptL_snoc, List.length_take, Nat.min_eq_left hj, if_neg hkj, List.append_nil]
          exact D2
        by_cases hjk : j < klen
        · obtain ⟨kb, koff, rfl, hkc⟩ := hk.cell (by omega)
          obtain ⟨n1, n2, n3, n4⟩ := hkf kb koff rfl (by omega)
          have hkb := block_lt_of_cell (hkc j hjk)
          have kc2 : ((wr.alloc (.cells (wcells (0, z128)).toArray 107)).setRow wr.heap.size (wcells q).toArray).cell? ⟨kb, koff + j, none⟩ = some (.bool false) := by
            rw [← hkf', ← hkc j hjk]
            exact World.cell?_of_block (F2.keep kb hkb n1 n2 n3 n4).1
          have hjk' : (j : Int) < (klen : Int) := by omega
          go_wp2_with (first | (refine wpList_value rfl (run_load59 rfl rfl hld) ?_) | refine wpList_store_row rfl 107 _ _ rfl wr.heap.size _ rfl rfl 107 _ hA hsz1 hsz2 hone ?_)
          go_roundw
          case rel => exact ⟨j + 1, by omega, rfl, hnew, F2⟩
          case measure => simp [intOf]; omega
        · have hjk' : ¬ (j : Int) < (klen : Int) := by omega
          go_wp2_with (first | (refine wpList_value rfl (run_load59 rfl rfl hld) ?_) | refine wpList_store_row rfl 107 _ _ rfl wr.heap.size _ rfl rfl 107 _ hA hsz1 hsz2 hone ?_)
          go_roundw
          case rel => exact ⟨j + 1, by omega, rfl, hnew, F2⟩
          case measure => simp [intOf]; omega
end
end Go.Proofs.Ytofgphiamllmdab
