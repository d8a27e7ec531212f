/- slices.Chunk over bytes: what its loop hands out. -/
import Derived.RangeFuncNested
import Derived.RangeFuncBound
import Derived.RangeFuncCalls
import Derived.RangeFuncLeaves
import Derived.Shelf.Abstract
import Derived.Shelf.RegionOpen
import Derived.WalkKit
import Derived.OwnWalkIn
import Derived.TacticsInMore
import Derived.LoopNIn
import Derived.LoopIn
import Derived.Test.YtofgphiamllmdabWr
import Derived.Test.YtofgphiamllmdabAnyIn
namespace Go.Proofs.Ytofgphiamllmdab
open Go.RowKit Go.Shelf
set_option maxRecDepth 100000
attribute [local go_sem] Oper.semAt_some

set_option maxHeartbeats 1000000 in
theorem chunk_in (a : Option Addr) (len cap : Nat) (w : World) (n : Nat) :
    CallsIn Fence.wide n Try.prog 67 #[.slice a len cap, .int .i64 128] w fun e w' => e = .returned (.func (.func 86) #[] #[.pointer (some ⟨w.heap.size, 0, none⟩), .pointer (some ⟨w.heap.size + 1, 0, none⟩)]) ∧ w' = (w.alloc (.cells #[.slice a len cap] 38)).alloc (.cells #[.int .i64 128] 3) := by
  refine callsIn_of_wp Try.func67 rfl trivial ?_ rfl
  simp only [Try.ntmps67, List.size_toArray, List.length_cons, List.length_nil, Nat.reduceAdd, Nat.reduceSub, Array.replicate_succ, Array.replicate_zero, List.push_toArray, List.append_toArray, List.nil_append, List.cons_append]
  gi_wp2
  go_ret
  exact ⟨rfl, rfl⟩

/-- What the iterator reads between two rounds. -/
def Boxes (Bs Bn : Nat) (W W' : World) : Prop := W'.heap[Bs]? = W.heap[Bs]? ∧ W'.heap[Bn]? = W.heap[Bn]?

set_option maxRecDepth 100000 in
set_option maxHeartbeats 2000000 in
theorem chunk1_in (n : Nat) (hn : 1 ≤ n) (l Bs Bn gb off cap m : Nat) (hm : 128 * m ≤ cap) (hc : cap ≤ maxLen) (J Jx : List (Fin m) → World → Prop) (hA : ∀ s A B, J s A → A.grownBy B none → J s B)
    (hY : ∀ pre x W, J pre W → pre.length < m → YieldAt Fence.wide (n - 1) Try.prog l #[.slice (some ⟨gb, off + 128 * x.1, none⟩) 128 128] W fun e W' =>
      (e = .returned (.bool true) ∧ J (pre ++ [x]) W' ∧ Boxes Bs Bn W W') ∨ (e = .returned (.bool false) ∧ Jx (pre ++ [x]) W'))
    (W : World) (hs : W.heap[Bs]? = some (.cells #[.slice (some ⟨gb, off, none⟩) (128 * m) cap] 38 (0, 0))) (hb : W.heap[Bn]? = some (.cells #[.int .i64 128] 3 (0, 0))) (h0 : J [] W) :
    CallsIn Fence.wide n Try.prog 86 #[.func (.yield l) #[] #[], .pointer (some ⟨Bs, 0, none⟩), .pointer (some ⟨Bn, 0, none⟩)] W fun e W' => (∃ v, e = .returned v) ∧
      ((∃ ys, ys = List.finRange m ∧ J ys W') ∨ (∃ pre, pre <+: List.finRange m ∧ Jx pre W')) := by
  unfold maxLen at hc
  refine callsIn_of_wp Try.func86 rfl trivial ?_ rfl
  simp only [Try.ntmps86, List.size_toArray, List.length_cons, List.length_nil, Nat.reduceAdd, Nat.reduceSub, Array.replicate_succ, Array.replicate_zero, List.push_toArray, List.append_toArray, List.nil_append, List.cons_append]
  gi_wp2
  gi_loopw [4] (fun i wr => ∃ k : Nat, k ≤ m ∧ i = .int .i64 ((128 * k : Nat) : Int) ∧ J ((List.finRange m).take k) wr ∧ wr.heap[Bs]? = some (.cells #[.slice (some ⟨gb, off, none⟩) (128 * m) cap] 38 (0, 0)) ∧ wr.heap[Bn]? = some (.cells #[.int .i64 128] 3 (0, 0)))
    (fun i _ => 128 * m - (intOf i).toNat)
  case atStart => exact ⟨0, by omega, rfl, by simpa using h0, hs, hb⟩
  case round =>
    obtain ⟨k, hk, rfl, hJ, ks, kb⟩ := hrel
    have cs : wr.cell? ⟨Bs, 0, none⟩ = some (.slice (some ⟨gb, off, none⟩) (128 * m) cap) := by rw [cell_of_row wr Bs 0 _ _ _ ks]; rfl
    have cb : wr.cell? ⟨Bn, 0, none⟩ = some (.int .i64 128) := by rw [cell_of_row wr Bn 0 _ _ _ kb]; rfl
    by_cases hkm : k = m
    · subst hkm
      have hlt : ¬ ((128 * k : Nat) : Int) < ((128 * k : Nat) : Int) := by omega
      gi_wp2
      go_end0
      refine ⟨⟨_, rfl⟩, .inl ?_⟩
      rw [List.take_of_length_le (by simp)] at hJ
      first | exact hJ | exact ⟨_, rfl, hJ⟩
    · have hlt : ((128 * k : Nat) : Int) < ((128 * m : Nat) : Int) := by omega
      have hkm' : k < m := by omega
      have hb1 : 0 ≤ 128 * (k : Int) := by omega
      have hb2 : k ≤ m := hk
      have hb3 : (128 * (k : Int)).toNat = 128 * k := by omega
      have hb4 : ¬ cap = 128 * k := by omega
      have hb5 : ¬ ((128 * m - 128 * k : Nat) : Int) < 128 := by omega
      gi_wp2
      refine wpIn_region_inv' (fun A D a w' => ∃ v13 v14 v15 v16 v17 v18 v5, a = (((((((A.put (some 13) v13).put (some 14) v14).put (some 15) v15).put (some 16) v16).put (some 17) v17).put (some 18) v18).put (some 5) v5) ∧ w' = wr.drew ∧ (D 0 → v13 = .int .i64 128) ∧ (D 1 → v14 = .slice (some ⟨gb, off, none⟩) (128 * m) cap) ∧ (D 2 → v15 = .int .i64 (128 * (k : Int))) ∧ (D 3 → v16 = .slice (some ⟨gb, off + 128 * k, none⟩) (128 * m - 128 * k) (cap - 128 * k)) ∧ (D 4 → v17 = .int .i64 ((128 * m - 128 * k : Nat) : Int)) ∧ (D 5 → v18 = .int .i64 128) ∧ (D 6 → v5 = .int .i64 128)) (by kernel_rfl) (by kernel_rfl) ?mono ?start ?step ?done
      case mono =>
        rintro D D' a w' hD ⟨v13, v14, v15, v16, v17, v18, v5, ha, hw, e0, e1, e2, e3, e4, e5, e6⟩
        exact ⟨v13, v14, v15, v16, v17, v18, v5, ha, hw, fun h => e0 ((hD 0).2 h), fun h => e1 ((hD 1).2 h), fun h => e2 ((hD 2).2 h), fun h => e3 ((hD 3).2 h), fun h => e4 ((hD 4).2 h), fun h => e5 ((hD 5).2 h), fun h => e6 ((hD 6).2 h)⟩
      case start => exact ⟨u13, u14, u15, u16, u17, u18, u5, by kernel_rfl, rfl, fun h => h.elim, fun h => h.elim, fun h => h.elim, fun h => h.elim, fun h => h.elim, fun h => h.elim, fun h => h.elim⟩
      case step =>
        intro i o ho D a w' hI hn hcl hd
        obtain ⟨v13, v14, v15, v16, v17, v18, v5, ha, hw, e0, e1, e2, e3, e4, e5, e6⟩ := hI
        match i, ho with
        | 0, ho =>
          cases Option.some.inj ho
          refine wideIn_op ?_
          have ev : a.tmps[2]?.getD undef = .pointer (some ⟨Bn, 0, none⟩) := by rw [ha]; kernel_rfl
          have hc : w'.cell? ⟨Bn, 0, none⟩ = some (.int .i64 128) := by rw [hw]; exact cb
          refine wp_value (w' := w') (v := .int .i64 128) (by simp [execOp, ev, go_sem, hc]) ?_
          exact ⟨(.int .i64 128), v14, v15, v16, v17, v18, v5, by rw [ha]; kernel_rfl, hw, fun _ => rfl, fun h => e1 (h.resolve_left (by decide)), fun h => e2 (h.resolve_left (by decide)), fun h => e3 (h.resolve_left (by decide)), fun h => e4 (h.resolve_left (by decide)), fun h => e5 (h.resolve_left (by decide)), fun h => e6 (h.resolve_left (by decide))⟩
        | 1, ho =>
          cases Option.some.inj ho
          refine wideIn_op ?_
          have ev : a.tmps[1]?.getD undef = .pointer (some ⟨Bs, 0, none⟩) := by rw [ha]; kernel_rfl
          have hc : w'.cell? ⟨Bs, 0, none⟩ = some (.slice (some ⟨gb, off, none⟩) (128 * m) cap) := by rw [hw]; exact cs
          refine wp_value (w' := w') (v := .slice (some ⟨gb, off, none⟩) (128 * m) cap) (by simp [execOp, ev, go_sem, hc]) ?_
          exact ⟨v13, (.slice (some ⟨gb, off, none⟩) (128 * m) cap), v15, v16, v17, v18, v5, by rw [ha]; kernel_rfl, hw, fun h => e0 (h.resolve_left (by decide)), fun _ => rfl, fun h => e2 (h.resolve_left (by decide)), fun h => e3 (h.resolve_left (by decide)), fun h => e4 (h.resolve_left (by decide)), fun h => e5 (h.resolve_left (by decide)), fun h => e6 (h.resolve_left (by decide))⟩
        | 2, ho =>
          cases Option.some.inj ho
          refine wideIn_op ?_
          have ev : a.tmps[4]?.getD undef = .int .i64 (128 * (k : Int)) := by rw [ha]; kernel_rfl
          refine wp_value (w' := w') (v := .int .i64 (128 * (k : Int))) (by simp [execOp, ev, go_sem]) ?_
          exact ⟨v13, v14, (.int .i64 (128 * (k : Int))), v16, v17, v18, v5, by rw [ha]; kernel_rfl, hw, fun h => e0 (h.resolve_left (by decide)), fun h => e1 (h.resolve_left (by decide)), fun _ => rfl, fun h => e3 (h.resolve_left (by decide)), fun h => e4 (h.resolve_left (by decide)), fun h => e5 (h.resolve_left (by decide)), fun h => e6 (h.resolve_left (by decide))⟩
        | 3, ho =>
          cases Option.some.inj ho
          refine wideIn_op ?_
          have ev : a.tmps[14]?.getD undef = .slice (some ⟨gb, off, none⟩) (128 * m) cap := by rw [ha, e1 (hd ⟨1, .data⟩ (by simp) rfl)]; kernel_rfl
          have ev' : a.tmps[15]?.getD undef = .int .i64 (128 * (k : Int)) := by rw [ha, e2 (hd ⟨2, .data⟩ (by simp) rfl)]; kernel_rfl
          refine wp_value (w' := w') (v := .slice (some ⟨gb, off + 128 * k, none⟩) (128 * m - 128 * k) (cap - 128 * k)) (by simp [execOp, ev, ev', go_sem, hb1, hb2, hb3, hb4]) ?_
          exact ⟨v13, v14, v15, (.slice (some ⟨gb, off + 128 * k, none⟩) (128 * m - 128 * k) (cap - 128 * k)), v17, v18, v5, by rw [ha]; kernel_rfl, hw, fun h => e0 (h.resolve_left (by decide)), fun h => e1 (h.resolve_left (by decide)), fun h => e2 (h.resolve_left (by decide)), fun _ => rfl, fun h => e4 (h.resolve_left (by decide)), fun h => e5 (h.resolve_left (by decide)), fun h => e6 (h.resolve_left (by decide))⟩
        | 4, ho =>
          cases Option.some.inj ho
          refine wideIn_op ?_
          have ev : a.tmps[16]?.getD undef = .slice (some ⟨gb, off + 128 * k, none⟩) (128 * m - 128 * k) (cap - 128 * k) := by rw [ha, e3 (hd ⟨3, .data⟩ (by simp) rfl)]; kernel_rfl
          refine wp_value (w' := w') (v := .int .i64 ((128 * m - 128 * k : Nat) : Int)) (by simp [execOp, ev, go_sem]) ?_
          exact ⟨v13, v14, v15, v16, (.int .i64 ((128 * m - 128 * k : Nat) : Int)), v18, v5, by rw [ha]; kernel_rfl, hw, fun h => e0 (h.resolve_left (by decide)), fun h => e1 (h.resolve_left (by decide)), fun h => e2 (h.resolve_left (by decide)), fun h => e3 (h.resolve_left (by decide)), fun _ => rfl, fun h => e5 (h.resolve_left (by decide)), fun h => e6 (h.resolve_left (by decide))⟩
        | 5, ho =>
          cases Option.some.inj ho
          refine wideIn_op ?_
          have ev : a.tmps[13]?.getD undef = .int .i64 128 := by rw [ha, e0 (hd ⟨0, .data⟩ (by simp) rfl)]; kernel_rfl
          have ev' : a.tmps[17]?.getD undef = .int .i64 ((128 * m - 128 * k : Nat) : Int) := by rw [ha, e4 (hd ⟨4, .data⟩ (by simp) rfl)]; kernel_rfl
          refine wp_value (w' := w') (v := .int .i64 128) (by simp [execOp, ev, ev', go_sem]; omega) ?_
          exact ⟨v13, v14, v15, v16, v17, (.int .i64 128), v5, by rw [ha]; kernel_rfl, hw, fun h => e0 (h.resolve_left (by decide)), fun h => e1 (h.resolve_left (by decide)), fun h => e2 (h.resolve_left (by decide)), fun h => e3 (h.resolve_left (by decide)), fun h => e4 (h.resolve_left (by decide)), fun _ => rfl, fun h => e6 (h.resolve_left (by decide))⟩
        | 6, ho =>
          cases Option.some.inj ho
          refine wideIn_op ?_
          have ev : a.tmps[18]?.getD undef = .int .i64 128 := by rw [ha, e5 (hd ⟨5, .data⟩ (by simp) rfl)]; kernel_rfl
          refine wp_value (w' := w') (v := .int .i64 128) (by simp [execOp, ev, go_sem]) ?_
          exact ⟨v13, v14, v15, v16, v17, v18, (.int .i64 128), by rw [ha]; kernel_rfl, hw, fun h => e0 (h.resolve_left (by decide)), fun h => e1 (h.resolve_left (by decide)), fun h => e2 (h.resolve_left (by decide)), fun h => e3 (h.resolve_left (by decide)), fun h => e4 (h.resolve_left (by decide)), fun h => e5 (h.resolve_left (by decide)), fun _ => rfl⟩
        | i + 7, ho => simp at ho
      case done =>
        rintro D a w' ⟨v13, v14, v15, v16, v17, v18, v5, ha, hw, e0, e1, e2, e3, e4, e5, e6⟩ hall
        obtain rfl := e0 (hall 0 (by decide))
        obtain rfl := e1 (hall 1 (by decide))
        obtain rfl := e2 (hall 2 (by decide))
        obtain rfl := e3 (hall 3 (by decide))
        obtain rfl := e4 (hall 4 (by decide))
        obtain rfl := e5 (hall 5 (by decide))
        obtain rfl := e6 (hall 6 (by decide))
        subst hw
        clear hall e0 e1 e2 e3 e4 e5 e6
        rw [ha]
        clear ha
        simp only [Act.put, List.setIfInBounds_toArray, List.set_cons_zero, List.set_cons_succ]
        obtain ⟨fn, tmps, assign, body, hy, hR⟩ := hY ((List.finRange m).take k) ⟨k, by omega⟩ _ (hA _ _ wr.drew hJ ⟨rfl, rfl, rfl, Nat.le_refl _, fun _ _ _ => rfl⟩) (by simp; omega)
        have htk : (List.finRange m).take k ++ [⟨k, hkm'⟩] = (List.finRange m).take (k + 1) := by
          rw [List.take_succ_eq_append_getElem (by simpa using hkm')]
          simp
        rw [htk] at hR
        gi_wp2
        refine hR.mono ?_
        rintro e W3 (⟨rfl, hJ3, hk3⟩ | ⟨rfl, hJx3⟩)
        · have ks3 : W3.heap[Bs]? = some (.cells #[.slice (some ⟨gb, off, none⟩) (128 * m) cap] 38 (0, 0)) := hk3.1.trans ks
          have kb3 : W3.heap[Bn]? = some (.cells #[.int .i64 128] 3 (0, 0)) := hk3.2.trans kb
          have cb3 : W3.cell? ⟨Bn, 0, none⟩ = some (.int .i64 128) := by rw [cell_of_row W3 Bn 0 _ _ _ kb3]; rfl
          have hwr : IntKind.i64.wrap (128 * (k : Int) + 128) = 128 * (k : Int) + 128 := by rw [IntKind.wrap_i64]; omega
          gi_wp2
          go_roundw
          case rel => exact ⟨k + 1, by omega, by congr 1, hJ3, ks3, kb3⟩
          case measure => simp [intOf]; omega
        · gi_wp2
          refine bodyPost_ret (results_none rfl _ _ _) rfl ?_
          exact ⟨⟨_, rfl⟩, .inr ⟨_, List.take_prefix _ _, hJx3⟩⟩

theorem chunk_stops (n : Nat) (hn : 1 ≤ n) (Bs Bn gb off cap m : Nat) (w : World) (hm : 128 * m ≤ cap) (hc : cap ≤ maxLen) (hs : w.heap[Bs]? = some (.cells #[.slice (some ⟨gb, off, none⟩) (128 * m) cap] 38 (0, 0))) (hb : w.heap[Bn]? = some (.cells #[.int .i64 128] 3 (0, 0))) :
    SeqStopsK Fence.wide n Try.prog 86 #[.pointer (some ⟨Bs, 0, none⟩), .pointer (some ⟨Bn, 0, none⟩)] (fun x : Fin m => #[Value.slice (some ⟨gb, off + 128 * x.1, none⟩) 128 128]) (Boxes Bs Bn) (fun ys => ys = List.finRange m) (fun pre => pre <+: List.finRange m) m w := fun l J Jx W hW hJ _ hY h0 =>
  chunk1_in n hn l Bs Bn gb off cap m hm hc J Jx (fun s A B h hg => hJ s A B none h hg (fun r e => by cases e)) hY W ((hW.block _ (lt_of_block hs)).trans hs) ((hW.block _ (lt_of_block hb)).trans hb) h0
end Go.Proofs.Ytofgphiamllmdab
