/- slices.Delete of one value. -/
import Derived.Test.YtkkilenokpoaoaaIns
namespace Go.Proofs.Ytkkilenokpoaoaa
open Go.RowKit
set_option maxRecDepth 100000
theorem step_append_runI {P : Program} {ops : Array Oper} {o : Oper} {a : Act} {w : World} {K : Act → World → Prop} {Q : Exit → Act → World → Prop} {E : Prop}
    (hg : o.guard = none) (d x : Operand) (dT sT : TypeId) (hop : o.op = Op.call { callee := Callee.builtin Builtin.append, args := #[d, x], argTypes := #[dT, sT] })
    (v u : Value) (hd : a.eval d = v) (hx : a.eval x = u) {v' : Value} {w' : World} (hr : (Builtin.append_ #[dT, sT] o.type #[v, u]).run P w = .ok v' w') (hK : K (a.put o.dst v') w') :
    if Region.wanted o (yielded ops a.tmps) = true then Oper.wp P o a w K Q else E := by
  have hw : Region.wanted o (yielded ops a.tmps) = true := by simp [Region.wanted, hg]
  rw [if_pos hw]
  unfold Oper.wp
  simp [execOp, hop, resolve, invoke, builtin, hd, hx, hr, Result.andThen]
  exact hK
theorem run_clear_row2 (w : World) (ty g o c : Nat) (cur : Array Value) (hg : w.heap[g]? = some (.cells cur 60 (0, 0))) (hfit : o + 2 ≤ cur.size) :
    (Builtin.clear_ #[35] ty #[.slice (some ⟨g, o, none⟩) 1 c]).run Try.prog w = .ok (.tuple #[]) (w.setRow g (cur.toList.take o ++ ([.int .i64 0, .int .i64 0] : List Value) ++ cur.toList.drop (o + 2)).toArray) := by
  have hst := run_storeCells_at Try.prog g o 60 [.int .i64 0, .int .i64 0] 0 cur w hg (by simpa using hfit) (by intro v hv; simp at hv; subst hv; rfl)
  obtain ⟨i0, hi, hz0, hz1, _⟩ := info_parts Try.info60
  have hzv : (zeroValue 60).run Try.prog w = .ok (.agg #[.int .i64 0, .int .i64 0]) w := by simp [zeroValue, typeInfo, hi, hz0]
  have hzc : (Builtin.zeroCells (Value.agg #[.int .i64 0, .int .i64 0]).cells 1).toList = [.int .i64 0, .int .i64 0] := by simp [Builtin.zeroCells, Value.cells]; rfl
  simp [Builtin.clear_, run_underlying Try.underlying35, hzv, hzc, hst]
set_option maxHeartbeats 2000000 in
theorem del_walk1 {w W1 W2 : World} {g m c i : Nat} (hrun : (Builtin.append_ #[35, 35] 35 #[.slice (some ⟨g, 0, none⟩) i c, .slice (some ⟨g, 0, none⟩) 0 0]).run Try.prog w.drew = .ok (.slice (some ⟨g, 0, none⟩) m c) W1)
    (hclr : ∀ ty cc, (Builtin.clear_ #[35] ty #[.slice (some ⟨g, m * 2, none⟩) 1 cc]).run Try.prog W1 = .ok (.tuple #[]) W2) (hin : i ≤ c) (hne : ¬ (i : Int) = (c : Int)) (hmc : m ≤ c) (hmm : c - m = 1) :
    Calls Try.prog 54 #[.slice (some ⟨g, 0, none⟩) c c, .int .i64 (i : Int), .int .i64 (c : Int)] w fun e w' => e = .returned (.slice (some ⟨g, 0, none⟩) m c) ∧ w' = W2 := by
  have mixed : Try.prog.follows .mixedOrders = true := by kernel_rfl
  have hcm : ¬ (c = m) := by omega
  go_enter Try.func54, Try.ntmps54
  go_wp2
  go_region_law_o (refine step_append_runI rfl _ _ 35 35 rfl (.slice (some ⟨g, 0, none⟩) i c) (.slice (some ⟨g, 0, none⟩) 0 0) (by simp [Act.eval, Act.put]) (by simp [Act.eval, Act.put]) hrun ?_)
  go_wp2
  go_ret
  exact ⟨rfl, rfl⟩
set_option maxHeartbeats 2000000 in
theorem del_walk2 {w W1 W2 : World} {g m n c i : Nat} (hrun : (Builtin.append_ #[35, 35] 35 #[.slice (some ⟨g, 0, none⟩) i c, .slice (some ⟨g, (i + 1) * 2, none⟩) (m - i) (c - (i + 1))]).run Try.prog w.drew = .ok (.slice (some ⟨g, 0, none⟩) m c) W1)
    (hclr : ∀ ty cc, (Builtin.clear_ #[35] ty #[.slice (some ⟨g, m * 2, none⟩) 1 cc]).run Try.prog W1 = .ok (.tuple #[]) W2) (hin : i ≤ c) (hb5 : (i : Int) + 1 ≤ (n : Int)) (hmc : m ≤ n) (hmm : n - m = 1) (hcc : ¬ c = i + 1) (hnc : n ≤ c) :
    Calls Try.prog 54 #[.slice (some ⟨g, 0, none⟩) n c, .int .i64 (i : Int), .int .i64 ((i : Int) + 1)] w fun e w' => e = .returned (.slice (some ⟨g, 0, none⟩) m c) ∧ w' = W2 := by
  have mixed : Try.prog.follows .mixedOrders = true := by kernel_rfl
  have hcm : ¬ (c = m) := by omega
  have hb1 : (0 : Int) ≤ (i : Int) + 1 := by omega
  have htn : ((i : Int) + 1).toNat = i + 1 := by omega
  have hmi : n - (i + 1) = m - i := by omega
  have hne : ¬ (i : Int) = (i : Int) + 1 := by omega
  go_enter Try.func54, Try.ntmps54
  go_wp2
  go_region_law_o (refine step_append_runI rfl _ _ 35 35 rfl (.slice (some ⟨g, 0, none⟩) i c) (.slice (some ⟨g, (i + 1) * 2, none⟩) (m - i) (c - (i + 1))) (by simp [Act.eval, Act.put]) (by simp [Act.eval, Act.put]) hrun ?_)
  go_wp2
  go_ret
  exact ⟨rfl, rfl⟩
set_option maxHeartbeats 4000000 in
theorem delete_any {w : World} {base g m n c i : Nat} {vs : List (Int × Int)} (hmn : Hid (n = m + 1)) (h : OwnV w base (.slice (some ⟨g, 0, none⟩) n c) vs) (hi : i ≤ m) :
    Calls Try.prog 54 #[.slice (some ⟨g, 0, none⟩) n c, .int .i64 (i : Int), .int .i64 ((i : Int) + 1)] w fun e w' => e = .returned (.slice (some ⟨g, 0, none⟩) m c) ∧ OwnV w' base (.slice (some ⟨g, 0, none⟩) m c) (vs.take i ++ vs.drop (i + 1)) ∧ Kp (.slice (some ⟨g, 0, none⟩) n c) w w' := by
  have mixed : Try.prog.follows .mixedOrders = true := by kernel_rfl
  have hlen : vs.length = m + 1 := (own_len h).symm.trans hmn.out
  have hwf := h.wf
  obtain ⟨i0, hi0, hz0, hzs, hzb⟩ := info_parts Try.info60
  rcases h.1.2 with ⟨e, _⟩ | ⟨g', c', cur, hv, hbg, hg, hnc, hcm, hcs, htake⟩
  · cases e
  simp only [Value.slice.injEq] at hv
  obtain ⟨e1, _, rfl⟩ := hv
  obtain ⟨rfl⟩ : g = g' := by simpa using e1
  rw [hlen] at hnc htake
  have hcm' : c ≤ 9223372036854775807 := by unfold maxLen at hcm; omega
  have hown : w.drew.ownsRow base 60 2 (.slice (some ⟨g, 0, none⟩) i c) i (flatV (vs.take i)) := ⟨by rw [flatV_len, List.length_take]; omega, .inr ⟨g, c, cur, rfl, hbg, hg, by omega, hcm, hcs, by rw [flatV_take, ← htake, List.take_take, Nat.min_eq_left (by omega)]⟩⟩
  have hnl : (flatV (vs.drop (i + 1))).length = (m - i) * 2 := by rw [flatV_len, List.length_drop, hlen]; omega
  have hcell : ∀ j v, (flatV (vs.drop (i + 1)))[j]? = some v → w.drew.cell? ((⟨g, (i + 1) * 2, none⟩ : Addr).add j) = some v := fun j v hj => by
    rw [addr_add, show w.drew.cell? ⟨g, (i + 1) * 2 + j, none⟩ = w.cell? ⟨g, (i + 1) * 2 + j, none⟩ from rfl, cell_of_row w g _ _ _ _ hg]
    rw [flatV_drop, ← htake, List.getElem?_drop, List.getElem?_take] at hj
    split at hj
    · rw [← Array.getElem?_toList]; exact hj
    · cases hj
  obtain ⟨A, hA, hAc⟩ : ∃ A : Addr, (A = if c = i + 1 then ⟨g, 0, none⟩ else ⟨g, (i + 1) * 2, none⟩) ∧ ∀ j v, (flatV (vs.drop (i + 1)))[j]? = some v → w.drew.cell? (A.add j) = some v := by
    refine ⟨_, rfl, ?_⟩
    split
    · intro j v hj
      have : vs.drop (i + 1) = [] := List.drop_eq_nil_of_le (by omega)
      rw [this] at hj
      cases hj
    · exact hcell
  obtain ⟨W1, hrun, hown1, hgr⟩ := run_append_fits (P := Try.prog) w.drew base 35 35 60 i0 2 Try.underlying35 hi0 hzs g i c _ hown A (m - i) (c - (i + 1)) _ hnl hAc (flatV_one _) (by omega)
  rw [← flatV_app, show i + (m - i) = m by omega] at hown1
  rw [show i + (m - i) = m by omega] at hrun
  obtain ⟨cur1, hg1, hcs1, htk1⟩ : ∃ cur1, W1.heap[g]? = some (.cells cur1 60 (0, 0)) ∧ cur1.size = c * 2 ∧ cur1.toList.take (m * 2) = flatV (vs.take i ++ vs.drop (i + 1)) := by
    rcases hown1.2 with ⟨e, _⟩ | ⟨g', c', cur1, hv, _, hg1, _, _, hcs1, htake1⟩
    · cases e
    · simp only [Value.slice.injEq, Option.some.injEq, Addr.mk.injEq] at hv
      obtain ⟨⟨rfl, _⟩, _, rfl⟩ := hv
      exact ⟨cur1, hg1, hcs1, htake1⟩
  have hcl := run_clear_row2 W1
  have hclr : ∀ ty cc, (Builtin.clear_ #[35] ty #[.slice (some ⟨g, m * 2, none⟩) 1 cc]).run Try.prog W1 = .ok (.tuple #[]) (W1.setRow g (cur1.toList.take (m * 2) ++ ([.int .i64 0, .int .i64 0] : List Value) ++ cur1.toList.drop (m * 2 + 2)).toArray) := fun ty cc => run_clear_row2 W1 ty g (m * 2) cc cur1 hg1 (by omega)
  have hl1 : cur1.toList.length = c * 2 := by simpa using hcs1
  have hh : (W1.setRow g (cur1.toList.take (m * 2) ++ ([.int .i64 0, .int .i64 0] : List Value) ++ cur1.toList.drop (m * 2 + 2)).toArray).heap[g]? = some (.cells (cur1.toList.take (m * 2) ++ ([.int .i64 0, .int .i64 0] : List Value) ++ cur1.toList.drop (m * 2 + 2)).toArray 60 (0, 0)) := setRow_heap W1 g cur1 _ 60 (0, 0) hg1
  have hfin : OwnV (W1.setRow g (cur1.toList.take (m * 2) ++ ([.int .i64 0, .int .i64 0] : List Value) ++ cur1.toList.drop (m * 2 + 2)).toArray) base (.slice (some ⟨g, 0, none⟩) m c) (vs.take i ++ vs.drop (i + 1)) := by
    refine ownV_of (n := m) ⟨hown1.1, .inr ⟨g, c, _, rfl, hbg, hh, by omega, hcm, ?_, ?_⟩⟩ (wfVs_app (fun v hv => hwf v (List.mem_of_mem_take hv)) (fun v hv => hwf v (List.mem_of_mem_drop hv)))
    · simp [hcs1]
      omega
    · show (cur1.toList.take (m * 2) ++ ([.int .i64 0, .int .i64 0] : List Value) ++ cur1.toList.drop (m * 2 + 2)).take (m * 2) = _
      rw [List.append_assoc, List.take_append_of_le_length (by rw [List.length_take, hl1]; omega), List.take_take, Nat.min_self]
      exact htk1
  have hkp : Kp (.slice (some ⟨g, 0, none⟩) n c) w (W1.setRow g (cur1.toList.take (m * 2) ++ ([.int .i64 0, .int .i64 0] : List Value) ++ cur1.toList.drop (m * 2 + 2)).toArray) :=
    ⟨hgr.os, hgr.tape, hgr.output, by rw [setRow_size]; exact hgr.size, fun j hj hn => (setRow_other W1 g j _ (fun e => hn (by rw [e]; rfl))).trans (hgr.block j hj (fun e => hn (by rw [e]; rfl)))⟩
  generalize (W1.setRow g (cur1.toList.take (m * 2) ++ ([.int .i64 0, .int .i64 0] : List Value) ++ cur1.toList.drop (m * 2 + 2)).toArray) = W2 at *
  clear hh hcl hown hcell hAc hown1 hgr hg1 htk1 hcs1 hl1
  have hn' := hmn.out
  by_cases hcc : c = i + 1
  · rw [if_pos hcc] at hA
    subst hA
    obtain rfl : c = n := by omega
    have hmi0 : m - i = 0 := by omega
    have hzz : c - (i + 1) = 0 := by omega
    rw [hmi0, hzz] at hrun
    have hw := del_walk1 (i := i) hrun hclr (by omega) (by omega) (by omega) (by omega)
    rw [show (i : Int) + 1 = (c : Int) by omega]
    refine hw.mono ?_
    rintro e w' ⟨rfl, rfl⟩
    exact ⟨rfl, hfin, hkp⟩
  · rw [if_neg hcc] at hA
    subst hA
    refine (del_walk2 (i := i) hrun hclr (by omega) (by omega) (by omega) (by omega) hcc (by omega)).mono ?_
    rintro e w' ⟨rfl, rfl⟩
    exact ⟨rfl, hfin, hkp⟩
end Go.Proofs.Ytkkilenokpoaoaa
