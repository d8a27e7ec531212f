/- slices.Insert of one value. -/
import Derived.Test.YtkkilenokpoaoaaBag
import Derived.Shelf.Spec.SlicesInsertGrow
import Derived.Laws.CopyRow
namespace Go.Proofs.Ytkkilenokpoaoaa
open Go.RowKit
set_option maxRecDepth 100000
theorem run_copy_row2 {P : Program} (w : World) (dT sT ty elem : TypeId) (g o dLen dCap : Nat) (a : Addr) (sLen sCap : Nat) (cur : Array Value) (t : TypeId) (cs : List Value)
    (hu : P.underlying dT = some (.slice elem)) (hs : (P.info? elem).map (·.size) = some 2)
    (hg : w.heap[g]? = some (.cells cur t (0, 0))) (hn : cs.length = Nat.min sLen dLen * 2)
    (hsrc : ∀ j v, cs[j]? = some v → w.cell? (a.add j) = some v) (hfit : o + cs.length ≤ cur.size) (h1 : ∀ v ∈ cs, v.oneCell' = true) :
    (Builtin.copy_ #[dT, sT] ty #[.slice (some ⟨g, o, none⟩) dLen dCap, .slice (some a) sLen sCap]).run P w =
      .ok (goInt (Nat.min sLen dLen)) (w.setRow g (cur.toList.take o ++ cs ++ cur.toList.drop (o + cs.length)).toArray) := by
  have hl := run_loadCells_list (P := P) w a cs hsrc
  have hst := run_storeCells_at P g o t cs 0 cur w hg (by simpa using hfit) h1
  cases hq : P.info? elem with
  | none => simp [hq] at hs
  | some i =>
    have hi : i.size = 2 := by simpa [hq] using hs
    simp [Builtin.copy_, run_underlying hu, Builtin.lenOf, Builtin.firstCells, sizeOf, typeInfo, hq, hi, ← hn, hl, hst]
theorem Try.size60 : (Try.prog.info? 60).map (·.size) = some 2 := by kernel_rfl
theorem Try.sizeOf60' (w : World) : (sizeOf 60).run Try.prog w = .ok 2 w := by
  obtain ⟨i0, hi, _, hz1, _⟩ := info_parts Try.info60
  simp [sizeOf, typeInfo, hi, hz1]
theorem flatV_drop : ∀ (vs : List (Int × Int)) (i : Nat), flatV (vs.drop i) = (flatV vs).drop (i * 2)
  | [], i => by simp [flatV]
  | v :: t, 0 => by simp
  | v :: t, i + 1 => by
    rw [show (i + 1) * 2 = i * 2 + 2 by omega]
    simp only [List.drop_succ_cons, flatV]
    exact flatV_drop t i
theorem flatV_take : ∀ (vs : List (Int × Int)) (i : Nat), flatV (vs.take i) = (flatV vs).take (i * 2)
  | [], i => by simp [flatV]
  | v :: t, 0 => by simp [flatV]
  | v :: t, i + 1 => by
    rw [show (i + 1) * 2 = i * 2 + 2 by omega]
    simp only [List.take_succ_cons, flatV]
    rw [flatV_take t i]
set_option maxHeartbeats 4000000 in
theorem ins_shift {w : World} {g n c i vb : Nat} {cur : Array Value} {vs : List (Int × Int)} (x : Int × Int) (hg : w.heap[g]? = some (.cells cur 60 (0, 0))) (hsz : cur.size = c * 2) (htk : cur.toList.take (n * 2) = flatV vs) (hvl : vs.length = n)
    (hi : i < n) (hroom : n + 1 ≤ c) (hc : c ≤ 9223372036854775807) (hvb : vb ≠ g) (hV : w.heap[vb]? = some (.cells #[.int .i64 x.1, .int .i64 x.2] 60 (0, 0))) :
    Calls Try.prog 75 #[.slice (some ⟨g, 0, none⟩) n c, .int .i64 i, .slice (some ⟨vb, 0, none⟩) 1 1] w fun e w' => e = .returned (.slice (some ⟨g, 0, none⟩) (n + 1) c) ∧ ∃ q, w' = (w.drewN q).setRow g (flatV (vs.take i ++ x :: vs.drop i) ++ cur.toList.drop ((n + 1) * 2)).toArray := by
  have hz2 : ¬ ((i : Int) = (n : Int)) := by omega
  have hw1 : IntKind.i64.wrap ((i : Int) + 1) = (i : Int) + 1 := by rw [IntKind.wrap_i64]; omega
  have hw2 : IntKind.i64.wrap ((n : Int) + 1) = (n : Int) + 1 := by rw [IntKind.wrap_i64]; omega
  have hov : ∀ lb cb o, (callFunc 92 #[.slice (some ⟨vb, 0, none⟩) 1 1, .slice (some ⟨g, o, none⟩) lb cb]).run Try.prog w = .ok (.value (.bool false)) w := fun lb cb o => by
    rw [run_callFunc_extern Try.func92 (by kernel_rfl) (by kernel_rfl) (by kernel_rfl) (e := Extern.SlicesOverlaps.overlaps #[35, 35] #[4]) (by kernel_rfl),
      Lib.run_overlaps_apart w 35 4 60 Try.underlying35 2 Try.sizeOf60' ⟨vb, 0, none⟩ ⟨g, o, none⟩ 1 1 lb cb hvb 60 60 2 (c * 2) (by simp [World.shape?, hV]) (by simp [World.shape?, hg, hsz]) (by omega) (by simp [World.frozen?, hV]) (by simp [World.frozen?, hV])]
    rfl
  have hb1 : (0 : Int) ≤ (i : Int) + 1 := by omega
  have hin : i ≤ n := by omega
  have htn : ((i : Int) + 1).toNat = i + 1 := by omega
  have hb2 : ¬ (c = i + 1) := by omega
  have hb3 : (i : Int) ≤ (n : Int) + 1 := by omega
  have hb4 : ¬ (c = i) := by omega
  have hb5 : (i : Int) + 1 ≤ (n : Int) + 1 := by omega
  have mixed : Try.prog.follows .mixedOrders = true := by kernel_rfl
  have hfl : (flatV (vs.drop i)).length = (n - i) * 2 := by rw [flatV_len, List.length_drop, hvl]
  have hcl : cur.toList.length = c * 2 := by simpa using hsz
  have hcp1 : ∀ ty dc sc, (Builtin.copy_ #[35, 35] ty #[.slice (some ⟨g, (i + 1) * 2, none⟩) (n + 1 - (i + 1)) dc, .slice (some ⟨g, i * 2, none⟩) (n + 1 - i) sc]).run Try.prog w.drew = .ok (goInt (Nat.min (n + 1 - i) (n + 1 - (i + 1)))) (w.drew.setRow g (cur.toList.take ((i + 1) * 2) ++ flatV (vs.drop i) ++ cur.toList.drop ((i + 1) * 2 + (flatV (vs.drop i)).length)).toArray) := fun ty dc sc =>
    run_copy_row2 w.drew 35 35 ty 60 g ((i + 1) * 2) (n + 1 - (i + 1)) dc ⟨g, i * 2, none⟩ (n + 1 - i) sc cur 60 (flatV (vs.drop i)) Try.underlying35 Try.size60 hg (by rw [hfl]; simp only [Nat.min_def]; split <;> omega)
      (fun j v hj => by
        rw [addr_add, show w.drew.cell? ⟨g, i * 2 + j, none⟩ = w.cell? ⟨g, i * 2 + j, none⟩ from rfl, cell_of_row w g _ _ _ _ hg]
        rw [flatV_drop, ← htk, List.getElem?_drop, List.getElem?_take] at hj
        split at hj
        · rw [← Array.getElem?_toList]; exact hj
        · cases hj)
      (by rw [hfl, hsz]; omega) (flatV_one _)
  obtain ⟨R1, hR1⟩ : ∃ R1, R1 = (cur.toList.take ((i + 1) * 2) ++ flatV (vs.drop i) ++ cur.toList.drop ((i + 1) * 2 + (flatV (vs.drop i)).length)).toArray := ⟨_, rfl⟩
  rw [← hR1] at hcp1
  have hg1 : (w.drew.setRow g R1).heap[g]? = some (.cells R1 60 (0, 0)) := setRow_heap w.drew g cur R1 60 (0, 0) hg
  have hR1s : R1.size = c * 2 := by rw [hR1]; simp [hfl, hsz]; omega
  have hcp2 : ∀ ty dc, (Builtin.copy_ #[35, 35] ty #[.slice (some ⟨g, i * 2, none⟩) (n + 1 - i) dc, .slice (some ⟨vb, 0, none⟩) 1 1]).run Try.prog (w.drew.setRow g R1) = .ok (goInt (Nat.min 1 (n + 1 - i))) ((w.drew.setRow g R1).setRow g (R1.toList.take (i * 2) ++ ([.int .i64 x.1, .int .i64 x.2] : List Value) ++ R1.toList.drop (i * 2 + 2)).toArray) := fun ty dc =>
    run_copy_row2 (w.drew.setRow g R1) 35 35 ty 60 g (i * 2) (n + 1 - i) dc ⟨vb, 0, none⟩ 1 1 R1 60 [.int .i64 x.1, .int .i64 x.2] Try.underlying35 Try.size60 hg1 (by simp only [Nat.min_def]; split <;> first | rfl | omega)
      (fun j v hj => by
        rw [addr_add, cell_setRow_other _ _ _ _ (show (⟨vb, 0 + j, none⟩ : Addr).block ≠ g from hvb), show w.drew.cell? ⟨vb, 0 + j, none⟩ = w.cell? ⟨vb, 0 + j, none⟩ from rfl, cell_of_row w vb _ _ _ _ hV, Nat.zero_add]
        simpa using hj)
      (by rw [hR1s]; simp; omega) (by intro v hv; simp at hv; rcases hv with rfl | rfl <;> rfl)
  have hfin : (R1.toList.take (i * 2) ++ ([.int .i64 x.1, .int .i64 x.2] : List Value) ++ R1.toList.drop (i * 2 + 2)) = flatV (vs.take i ++ x :: vs.drop i) ++ cur.toList.drop ((n + 1) * 2) := by
    have hA : (cur.toList.take ((i + 1) * 2)).length = i * 2 + 2 := by rw [List.length_take, hcl]; omega
    have t1 : R1.toList.take (i * 2) = (flatV vs).take (i * 2) := by
      rw [hR1, List.append_assoc]
      show (cur.toList.take ((i + 1) * 2) ++ _).take (i * 2) = _
      rw [List.take_append_of_le_length (by rw [hA]; omega), List.take_take, ← htk, List.take_take, Nat.min_eq_left (by omega), Nat.min_eq_left (by omega)]
    have t2 : R1.toList.drop (i * 2 + 2) = flatV (vs.drop i) ++ cur.toList.drop ((n + 1) * 2) := by
      rw [hR1, List.append_assoc]
      show (cur.toList.take ((i + 1) * 2) ++ _).drop (i * 2 + 2) = _
      rw [← hA, List.drop_left, hfl, show (i + 1) * 2 + (n - i) * 2 = (n + 1) * 2 by omega]
    rw [t1, t2, ← flatV_take, flatV_app]
    simp [flatV]
  clear hR1
  go_enter Try.func75, Try.ntmps75
  go_wp2_with (simp only [hov])
  go_region_law_o (refine step_copy_runI rfl _ _ 35 35 rfl (.slice (some ⟨g, (i + 1) * 2, none⟩) (n + 1 - (i + 1)) (c - (i + 1))) (.slice (some ⟨g, i * 2, none⟩) (n + 1 - i) (c - i)) (by simp [Act.eval, Act.put]) (by simp [Act.eval, Act.put]) (hcp1 _ _ _) ?_)
  go_wp2_with (at_builtin; refine wpList_copy_runI _ rfl _ _ 35 35 rfl _ _ rfl rfl (hcp2 _ _) ?_)
  go_ret
  refine ⟨rfl, 1, ?_⟩
  rw [← hfin, setRow_setRow]
  rfl
theorem zc_len (k : Nat) : (Builtin.zeroCells (Value.agg #[.int .i64 0, .int .i64 0]).cells k).toList.length = k * 2 := by
  rw [Array.length_toList, size_zeroCells]
  rfl
set_option maxHeartbeats 4000000 in
theorem ins_grow {w : World} {g n c i vb : Nat} {cur : Array Value} {vs : List (Int × Int)} (x : Int × Int) (hg : w.heap[g]? = some (.cells cur 60 (0, 0))) (htk : cur.toList.take (n * 2) = flatV vs) (hvl : vs.length = n)
    (hi : i < n) (hnc : n ≤ c) (hroom : c < n + 1) (hbig : n + 1 ≤ 8796093022208) (hV : w.heap[vb]? = some (.cells #[.int .i64 x.1, .int .i64 x.2] 60 (0, 0))) (hx : wfVs (vs.take i ++ x :: vs.drop i)) :
    Calls Try.prog 75 #[.slice (some ⟨g, 0, none⟩) n c, .int .i64 i, .slice (some ⟨vb, 0, none⟩) 1 1] w fun e w' => ∃ a cap, e = .returned (.slice a (n + 1) cap) ∧ OwnV w' w.heap.size (.slice a (n + 1) cap) (vs.take i ++ x :: vs.drop i) ∧ Below w.heap.size w w' := by
  have mixed : Try.prog.follows .mixedOrders = true := by kernel_rfl
  obtain ⟨i0, hi0, hz0, hzs, hzb⟩ := info_parts Try.info60
  have hz2 : ¬ ((i : Int) = (n : Int)) := by omega
  have hz3 : (c : Int) < (n : Int) + 1 := by omega
  have hgw : g < w.heap.size := lt_of_block hg
  have hvw : vb < w.heap.size := lt_of_block hV
  have hkk : (n : Int) + 1 - (i : Int) = ((n + 1 - i : Nat) : Int) := by omega
  have hik : i + (n + 1 - i) = n + 1 := by omega
  have hcell : ∀ j v, (flatV vs)[j]? = some v → w.cell? ⟨g, j, none⟩ = some v := fun j v hj => by
    rw [cell_of_row w g _ _ _ _ hg]
    rw [← htk, List.getElem?_take] at hj
    split at hj
    · rw [← Array.getElem?_toList]; exact hj
    · cases hj
  have hold : (Builtin.firstCells i0.size i (.slice (some ⟨g, 0, none⟩) i c)).run Try.prog w.drew = .ok (flatV (vs.take i)).toArray w.drew := by
    rw [hzs]
    refine run_firstCells_some w.drew 2 i ⟨g, 0, none⟩ i c (flatV (vs.take i)) (by rw [flatV_len, List.length_take]; omega) (fun j v hj => ?_)
    rw [addr_add, Nat.zero_add]
    rw [flatV_take, List.getElem?_take] at hj
    split at hj
    · exact hcell j v hj
    · cases hj
  obtain ⟨G, hG⟩ : ∃ G, G = grownCap w (n + 1) c 60 := ⟨_, rfl⟩
  obtain ⟨ROW, hROW⟩ : ∃ ROW : Array Value, ROW = (flatV (vs.take i)).toArray ++ Builtin.zeroCells (Value.agg #[.int .i64 0, .int .i64 0]).cells (n + 1 - i) ++ Builtin.zeroCells (Value.agg #[.int .i64 0, .int .i64 0]).cells (G - (n + 1)) := ⟨_, rfl⟩
  have hrz : ∀ ty, (Builtin.append_ #[35, 3] ty #[.slice (some ⟨g, 0, none⟩) i c, .int .i64 ((n : Int) + 1 - (i : Int))]).run Try.prog w = .ok (.slice (some ⟨w.heap.size, 0, none⟩) (n + 1) G) (w.drew.alloc (.cells ROW 60)) := fun ty => by
    have h := Lib.run_append_grow_zeros w 35 3 ty 60 i0 _ .i64 .i64 Try.underlying35 Try.underlying3 hi0 hz0 (some ⟨g, 0, none⟩) i c (flatV (vs.take i)) hold (n + 1 - i) (by omega) (by omega) (by omega) (by omega) (by rw [hzb]; omega) (by rw [hzb, hik]; exact growslice_fits hroom (by omega))
    rw [hik] at h
    rw [hkk, hROW, hG]
    exact h
  have hGn : n + 1 ≤ G := by rw [hG]; exact grownCap_ge w _ _ _
  have hG63 : G ≤ maxLen := by rw [hG]; exact grownCap_le_maxLen w (n + 1) c 60 (by unfold maxLen; omega)
  have hG63' : G ≤ 9223372036854775807 := by unfold maxLen at hG63; omega
  have hRs : ROW.size = G * 2 := by
    have h1 := zc_len (n + 1 - i)
    have h2 := zc_len (G - (n + 1))
    rw [Array.length_toList] at h1 h2
    rw [hROW, Array.size_append, Array.size_append, h1, h2, List.size_toArray, flatV_len, List.length_take]
    omega
  have hR0 : ROW.toList.take (i * 2) = flatV (vs.take i) := by
    rw [hROW, Array.toList_append, Array.toList_append, List.append_assoc, List.take_append_of_le_length (by simp [flatV_len]; omega)]
    exact List.take_of_length_le (by simp [flatV_len]; omega)
  have hRl : ROW.toList.length = G * 2 := by rw [Array.length_toList, hRs]
  obtain ⟨RA, hRA⟩ : ∃ RA : List Value, RA = ROW.toList.take (i * 2) ++ ([.int .i64 x.1, .int .i64 x.2] : List Value) ++ ROW.toList.drop (i * 2 + 2) := ⟨_, rfl⟩
  have hRAl : RA.length = G * 2 := by rw [hRA]; simp [hRs]; omega
  have hRA' : RA.take ((i + 1) * 2) = flatV (vs.take i ++ [x]) := by
    rw [hRA, hR0, List.take_append_of_le_length (by simp [flatV_len]; omega), List.take_of_length_le (by simp [flatV_len]; omega), flatV_app]
    rfl
  have hfl : (flatV (vs.drop i)).length = (n - i) * 2 := by rw [flatV_len, List.length_drop, hvl]
  obtain ⟨RB, hRB⟩ : ∃ RB : List Value, RB = RA.take ((i + 1) * 2) ++ flatV (vs.drop i) ++ RA.drop ((i + 1) * 2 + (flatV (vs.drop i)).length) := ⟨_, rfl⟩
  have hRBl : RB.length = G * 2 := by rw [hRB]; simp [hRAl, hfl]; omega
  have hRB' : RB.take ((n + 1) * 2) = flatV (vs.take i ++ x :: vs.drop i) := by
    rw [hRB, hRA', List.take_append_of_le_length (by simp [flatV_len, hvl]; omega), List.take_of_length_le (by simp [flatV_len, hvl]; omega), ← flatV_app]
    simp
  obtain ⟨W1, hW1⟩ : ∃ W1, W1 = w.drew.alloc (.cells ROW 60) := ⟨_, rfl⟩
  have hN1 : W1.heap[w.heap.size]? = some (.cells ROW 60 (0, 0)) := by rw [hW1]; exact heap_alloc_new w.drew _
  have hcpA : ∀ (W : World), W.heap = W1.heap → ∀ ty dc, (Builtin.copy_ #[35, 35] ty #[.slice (some ⟨w.heap.size, i * 2, none⟩) (n + 1 - i) dc, .slice (some ⟨vb, 0, none⟩) 1 1]).run Try.prog W = .ok (goInt (Nat.min 1 (n + 1 - i))) (W.setRow w.heap.size RA.toArray) := fun W hW ty dc => by
    have hV1 : W.heap[vb]? = some (.cells #[.int .i64 x.1, .int .i64 x.2] 60 (0, 0)) := by rw [hW, hW1]; exact (Below.heap_alloc _ _ _ hvw).trans hV
    rw [hRA]
    exact run_copy_row2 W 35 35 ty 60 w.heap.size (i * 2) (n + 1 - i) dc ⟨vb, 0, none⟩ 1 1 ROW 60 [.int .i64 x.1, .int .i64 x.2] Try.underlying35 Try.size60 (by rw [hW]; exact hN1) (by simp only [Nat.min_def]; split <;> first | rfl | omega)
      (fun j v hj => by
        rw [addr_add, cell_of_row W vb _ _ _ _ hV1, Nat.zero_add]
        simpa using hj)
      (by rw [hRs]; simp; omega) (by intro v hv; simp at hv; rcases hv with rfl | rfl <;> rfl)
  have hN2 : (W1.setRow w.heap.size RA.toArray).heap[w.heap.size]? = some (.cells RA.toArray 60 (0, 0)) := setRow_heap W1 w.heap.size ROW RA.toArray 60 (0, 0) hN1
  have hcpB : ∀ (W : World), W.heap = (W1.setRow w.heap.size RA.toArray).heap → ∀ ty dc sc, (Builtin.copy_ #[35, 35] ty #[.slice (some ⟨w.heap.size, (i + 1) * 2, none⟩) (n + 1 - (i + 1)) dc, .slice (some ⟨g, i * 2, none⟩) (n - i) sc]).run Try.prog W = .ok (goInt (Nat.min (n - i) (n + 1 - (i + 1)))) (W.setRow w.heap.size RB.toArray) := fun W hW ty dc sc => by
    have hg2 : W.heap[g]? = some (.cells cur 60 (0, 0)) := by rw [hW, setRow_other _ _ _ _ (by omega), hW1]; exact (Below.heap_alloc _ _ _ hgw).trans hg
    rw [hRB]
    exact run_copy_row2 W 35 35 ty 60 w.heap.size ((i + 1) * 2) (n + 1 - (i + 1)) dc ⟨g, i * 2, none⟩ (n - i) sc RA.toArray 60 (flatV (vs.drop i)) Try.underlying35 Try.size60 (by rw [hW]; exact hN2) (by rw [hfl]; simp only [Nat.min_def]; split <;> omega)
      (fun j v hj => by
        rw [addr_add, cell_of_row W g _ _ _ _ hg2]
        rw [flatV_drop, ← htk, List.getElem?_drop, List.getElem?_take] at hj
        split at hj
        · rw [← Array.getElem?_toList]; exact hj
        · cases hj)
      (by rw [hfl]; simp [hRAl]; omega) (flatV_one _)
  have hGi : ¬ (G = i) := by omega
  have hGim : ¬ (G = i + 1) := by omega
  have hci : ¬ (c = i) := by omega
  have hw1 : IntKind.i64.wrap ((i : Int) + 1) = (i : Int) + 1 := by rw [IntKind.wrap_i64]; omega
  have hw2 : IntKind.i64.wrap ((n : Int) + 1) = (n : Int) + 1 := by rw [IntKind.wrap_i64]; omega
  have hb1 : (0 : Int) ≤ (i : Int) + 1 := by omega
  have hin : i ≤ n := by omega
  have htn : ((i : Int) + 1).toNat = i + 1 := by omega
  have hb3 : (i : Int) ≤ (n : Int) := by omega
  have hb5 : (i : Int) + 1 ≤ (n : Int) + 1 := by omega
  have hend : ∀ W : World, W.heap = (W1.setRow w.heap.size RA.toArray).heap → W.os = w.os → W.tape = w.tape → W.output = w.output → OwnV (W.setRow w.heap.size RB.toArray) w.heap.size (.slice (some ⟨w.heap.size, 0, none⟩) (n + 1) G) (vs.take i ++ x :: vs.drop i) ∧ Below w.heap.size w (W.setRow w.heap.size RB.toArray) := fun W hW ho ht hu => by
    have hN3 : (W.setRow w.heap.size RB.toArray).heap[w.heap.size]? = some (.cells RB.toArray 60 (0, 0)) := setRow_heap W w.heap.size RA.toArray RB.toArray 60 (0, 0) (by rw [hW]; exact hN2)
    refine ⟨ownV_of (n := n + 1) ⟨by rw [flatV_len]; simp; omega, .inr ⟨w.heap.size, G, RB.toArray, rfl, Nat.le_refl _, hN3, hGn, hG63, by simpa using hRBl, by simpa using hRB'⟩⟩ hx, ⟨ho, ht, hu, ?_, fun j hj => ?_⟩⟩
    · rw [setRow_size, hW, setRow_size, hW1]; simp
    · rw [setRow_other _ _ _ _ (by omega), hW, setRow_other _ _ _ _ (by omega), hW1]
      exact Below.heap_alloc _ _ _ hj
  clear hkk hik hold hROW hG hRA hRB hRA' hRB' hRAl hRBl hRl hR0 hN1 hN2 hcell
  subst hW1
  have hE1 : ((w.alloc (.cells ROW 60)).drew).heap = (w.drew.alloc (.cells ROW 60)).heap := rfl
  have hF1 : ((((w.alloc (.cells ROW 60)).drew).setRow w.heap.size RA.toArray).drew).heap = ((w.drew.alloc (.cells ROW 60)).setRow w.heap.size RA.toArray).heap := rfl
  have hF2 := hend ((((w.alloc (.cells ROW 60)).drew).setRow w.heap.size RA.toArray).drew) hF1 rfl rfl rfl
  clear hend
  go_enter Try.func75, Try.ntmps75
  go_wp2_with (first
    | (at_builtin; refine Lib.wpList_append_run _ rfl _ _ _ _ rfl _ _ rfl rfl _ _ (hrz _) ?_)
    | (at_builtin; refine wpList_copy_runI _ rfl _ _ 35 35 rfl _ _ rfl rfl (hcpA _ hE1 _ _) ?_))
  go_region_law_o (refine step_copy_runI rfl _ _ 35 35 rfl (.slice (some ⟨w.heap.size, (i + 1) * 2, none⟩) (n + 1 - (i + 1)) (G - (i + 1))) (.slice (some ⟨g, i * 2, none⟩) (n - i) (c - i)) (by simp [Act.eval, Act.put]) (by simp [Act.eval, Act.put]) (hcpB _ hF1 3 (G - (i + 1)) (c - i)) ?_)
  go_wp2
  go_ret
  exact ⟨_, _, rfl, hF2.1, hF2.2⟩
theorem Kp.of_grown {v : Value} {w w' : World} (h : w.grownBy w' v.ownBlock) : Kp v w w' := ⟨h.os, h.tape, h.output, h.size, fun j hj hn => h.block j hj (fun e => hn e.symm)⟩
theorem app_valsK {ops : Array Oper} {rest : List Oper} {o : Oper} {a : Act} {Q : Exit → Act → World → Prop} (w : World) (hgd : o.guard = none) (s x : Operand)
    (ho : o.op = .call { callee := .builtin .append, args := #[s, x], argTypes := #[35, 35] })
    (base : Nat) (v : Value) (xs : List (Int × Int)) (hs : a.eval s = v) (hown : OwnV w base v xs)
    (ad : Addr) (len cap : Nat) (ys : List (Int × Int)) (hx : a.eval x = .slice (some ad) len cap) (hB : IsV w (some ad) len cap ys) (h47 : xs.length + len ≤ 8796093022208) (hbase : base ≤ w.heap.size)
    (h : ∀ a' c' w', OwnV w' base (.slice a' (xs ++ ys).length c') (xs ++ ys) → Kp v w w' → wpList Try.prog ops Q rest (a.put o.dst (.slice a' (xs ++ ys).length c')) w') : wpList Try.prog ops Q (o :: rest) a w := by
  obtain ⟨i0, hi, hz0, hz1, hz2⟩ := info_parts Try.info60
  refine wpList_append_own w hgd s x 35 ho base 60 i0 (.agg #[.int .i64 0, .int .i64 0]) 2 16 Try.underlying35 hi hz0 hz1 hz2 rfl (by decide) _ xs.length _ hs hown.1 ad len cap (flatV ys) hx (by rw [flatV_len, hB.size]) (hB.cellsAt ad rfl) (flatV_one ys) (by unfold maxLen; omega) (by omega) hbase ?_
  intro v' w' hown' hgrow _
  rw [← flatV_app] at hown'
  have O := ownV_of hown' (wfVs_app hown.wf hB.wf)
  obtain ⟨_, a', c', rfl, _⟩ := id O
  exact h a' c' w' O (Kp.of_grown hgrow)
set_option maxHeartbeats 2000000 in
theorem ins_end {w : World} {base vb : Nat} {v : Value} {vs : List (Int × Int)} (x : Int × Int) (h : OwnV w base v vs) (hl : vs.length + 1 ≤ 8796093022208) (hb : base ≤ w.heap.size) (hV : IsV w (some ⟨vb, 0, none⟩) 1 1 [x]) :
    Calls Try.prog 75 #[v, .int .i64 (vs.length : Int), .slice (some ⟨vb, 0, none⟩) 1 1] w fun e w' => ∃ a cap, e = .returned (.slice a (vs.length + 1) cap) ∧ OwnV w' base (.slice a (vs.length + 1) cap) (vs ++ [x]) ∧ Kp v w w' := by
  obtain ⟨_, a, c, rfl, hv⟩ := id h
  have hr := hv.room
  have hm := hv.most
  unfold maxLen at hm
  have h0 := hv.nil'
  obtain ⟨L, hL⟩ : ∃ L, Hid (vs.length = L) := ⟨_, rfl⟩
  rw [hL.out] at h hl hr h0 ⊢
  have hnn : a = none → L = 0 ∧ c = 0 := h0
  have hcase : (a = none ∧ L = 0 ∧ c = 0) ∨ ∃ g, a = some ⟨g, 0, none⟩ := by
    rcases h.1.2 with ⟨e, _⟩ | ⟨g, cap, cur, e, _⟩
    · cases e; exact .inl ⟨rfl, rfl, rfl⟩
    · simp only [Value.slice.injEq] at e; exact .inr ⟨g, e.1⟩
  rcases hcase with ⟨rfl, rfl, rfl⟩ | ⟨g, rfl⟩
  · go_enter Try.func75, Try.ntmps75
    go_wp2_with (at_builtin; refine app_valsK _ rfl _ _ rfl base _ vs rfl h _ 1 1 [x] rfl hV (by rw [hL.out]; omega) hb ?_)
    all_goals
      intro a' c' w' O K
      rw [hL.out] at O ⊢
      go_wp2
      go_ret
      exact ⟨a', c', rfl, O, ⟨K.os, K.tape, K.output, K.size, K.block⟩⟩
  · go_enter Try.func75, Try.ntmps75
    go_wp2_with (at_builtin; refine app_valsK _ rfl _ _ rfl base _ vs rfl h _ 1 1 [x] rfl hV (by rw [hL.out]; omega) hb ?_)
    all_goals
      intro a' c' w' O K
      rw [hL.out] at O ⊢
      go_wp2
      go_ret
      exact ⟨a', c', rfl, O, ⟨K.os, K.tape, K.output, K.size, K.block⟩⟩
theorem wfVs_ins {vs : List (Int × Int)} {x : Int × Int} {i : Nat} (h : wfVs vs) (hx : (-9223372036854775808 ≤ x.1 ∧ x.1 ≤ 9223372036854775807) ∧ (-9223372036854775808 ≤ x.2 ∧ x.2 ≤ 9223372036854775807)) : wfVs (vs.take i ++ x :: vs.drop i) :=
  wfVs_app (fun v hv => h v (List.mem_of_mem_take hv)) (wfVs_cons hx (fun v hv => h v (List.mem_of_mem_drop hv)))
theorem insert_any {w : World} {base i vb : Nat} {v : Value} {vs : List (Int × Int)} (x : Int × Int) (h : OwnV w base v vs) (hi : i ≤ vs.length) (hl : vs.length + 1 ≤ 8796093022208) (hb : base ≤ w.heap.size)
    (hV : w.heap[vb]? = some (.cells #[.int .i64 x.1, .int .i64 x.2] 60 (0, 0))) (hI : IsV w (some ⟨vb, 0, none⟩) 1 1 [x]) (hne : v.ownBlock ≠ some vb) :
    Calls Try.prog 75 #[v, .int .i64 (i : Int), .slice (some ⟨vb, 0, none⟩) 1 1] w fun e w' => ∃ a cap, e = .returned (.slice a (vs.length + 1) cap) ∧ OwnV w' base (.slice a (vs.length + 1) cap) (vs.take i ++ x :: vs.drop i) ∧ Kp v w w' := by
  rcases Nat.lt_or_ge i vs.length with hlt | hge
  · have hxw := hI.wf x (by simp)
    rcases h.1.2 with ⟨_, h0⟩ | ⟨g, c, cur, hv, hbg, hg, hnc, hcm, hcs, htake⟩
    · omega
    · subst hv
      have hcm' : c ≤ 9223372036854775807 := by unfold maxLen at hcm; omega
      have hvg : vb ≠ g := fun e => hne (by rw [e]; rfl)
      by_cases hroom : vs.length + 1 ≤ c
      · refine (ins_shift x hg hcs htake rfl hlt hroom hcm' hvg hV).mono ?_
        rintro e w' ⟨rfl, q, rfl⟩
        have hh : ((w.drewN q).setRow g (flatV (vs.take i ++ x :: vs.drop i) ++ cur.toList.drop ((vs.length + 1) * 2)).toArray).heap[g]? = some (.cells (flatV (vs.take i ++ x :: vs.drop i) ++ cur.toList.drop ((vs.length + 1) * 2)).toArray 60 (0, 0)) := setRow_heap (w.drewN q) g cur _ 60 (0, 0) hg
        have hfl : (flatV (vs.take i ++ x :: vs.drop i)).length = (vs.length + 1) * 2 := by rw [flatV_len]; simp; omega
        refine ⟨_, c, rfl, ownV_of (n := vs.length + 1) ⟨hfl, .inr ⟨g, c, _, rfl, hbg, hh, hroom, hcm, ?_, ?_⟩⟩ (wfVs_ins h.wf hxw), ⟨rfl, rfl, rfl, ?_, fun j hj hn => ?_⟩⟩
        · simp [hfl, hcs]
          omega
        · show (flatV (vs.take i ++ x :: vs.drop i) ++ cur.toList.drop ((vs.length + 1) * 2)).take ((vs.length + 1) * 2) = _
          rw [← hfl, List.take_left]
        · rw [setRow_size]
          exact Nat.le_refl _
        · exact setRow_other (w.drewN q) g j _ (fun e => hn (by rw [e]; rfl))
      · refine (ins_grow x hg htake rfl hlt hnc (by omega) hl hV (wfVs_ins h.wf hxw)).mono ?_
        rintro e w' ⟨a, cap, rfl, O, B⟩
        exact ⟨a, cap, rfl, O.mono hb, Kp.of B⟩
  · obtain rfl : i = vs.length := by omega
    rw [List.take_length, List.drop_length]
    exact ins_end x h hl hb hI
end Go.Proofs.Ytkkilenokpoaoaa
