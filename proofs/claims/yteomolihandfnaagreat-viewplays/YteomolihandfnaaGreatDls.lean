/- The document's view: Reads, News. -/
import Derived.Test.YteomolihandfnaaGreatDpt
namespace Go.Proofs.YteomolihandfnaaGreat
open Go.RowKit
set_option maxRecDepth 100000
theorem rd_snoc (p : Nat → Bool) (j : Nat) : (((List.range (j + 1)).filter p).map (fun i : Nat => (i : Int))) = ((List.range j).filter p).map (fun i : Nat => (i : Int)) ++ (if p j = true then [(j : Int)] else []) := by
  rw [List.range_succ, List.filter_append, List.map_append]
  by_cases h : p j = true
  · rw [List.filter_cons_of_pos h, if_pos h]; rfl
  · rw [List.filter_cons_of_neg h, if_neg h]; rfl
set_option maxHeartbeats 4000000 in
theorem dreads_any {w : World} {X : Nat → Prop} {b ub : Nat} {v : Dv} (h : Db w X b ub v) : Calls Tryz.prog 27 #[.pointer (some ⟨b, 0, none⟩)] w (OopP w (rdL v)) := by
  obtain ⟨lv, rb, hblk, _, hR, _, _⟩ := h.blk
  have lr : rb < w.heap.size := by obtain ⟨cur, q, _⟩ := hR.row; exact lt_of_block q
  have lb := lt_of_block hblk
  clear h
  go_enter Tryz.func27, Tryz.ntmps27
  go_wp2_with fail
  go_loopw [3, 4] (fun ov iv wr => ∃ (j : Nat) (xs : List Int) (oa : Option Addr) (onc : Nat × Nat), j ≤ 4097 ∧ iv = .int .i64 (j : Int) ∧ ov = .slice oa onc.1 onc.2 ∧ Hid (xs = ((List.range j).filter v.rd).map (fun i : Nat => (i : Int)) ∧ xs.length ≤ j) ∧ wr.ownsRow w.heap.size 2 1 ov xs.length (xs.map (Value.int .i64)) ∧ Below w.heap.size w wr) (fun _ iv _ => 4097 - (intOf iv).toNat)
  case atStart => exact ⟨0, [], none, (0, 0), by omega, rfl, rfl, ⟨rfl, Nat.le_refl _⟩, World.ownsRow_nil _ _ _ _, Below.refl _ _⟩
  case round =>
    obtain ⟨j, xs, oa, ⟨on, oc⟩, hj, rfl, rfl, hxs, hrow, hbel⟩ := hrel
    have hlen : xs.length ≤ 4097 := by have := hxs.out.2; omega
    obtain ⟨x0, x1, x2, x3, x4⟩ := dv_cells ((hbel.block b lb).trans hblk)
    by_cases hlt : j < 4097
    · have hji : (j : Int) < 4097 := by omega
      obtain ⟨y0, _⟩ := hR.at_ (k := j) hlt
      have y1 : wr.cell? ⟨rb, j, none⟩ = some (.bool (v.rd j)) := (hbel.cell lr).trans y0
      clear y0
      cases hv : v.rd j with
      | true =>
        rw [hv] at y1
        have E8 := new1 wr (.cells #[.int .i64 ((j : Int))] 2)
        have B8 : Below wr.heap.size wr (wr.alloc (.cells #[.int .i64 ((j : Int))] 2)) := box_below
        have c8 : (wr.alloc (.cells #[.int .i64 ((j : Int))] 2)).cell? ⟨wr.heap.size, 0, none⟩ = some (.int .i64 ((j : Int))) := by rw [cell_of_row _ _ _ _ _ _ E8]; rfl
        have r8 := own_below hrow B8
        have b8 := below_size hbel hbel.size B8
        clear E8
        go_wp2_with (at_builtin; refine app_ints _ (by rfl) _ _ (by rfl) w.heap.size _ xs (by rfl) r8 wr.heap.size ((j : Int)) (by rfl) c8 (by omega) b8.size ?_)
        intro o2a o2n o2c w6 r6 B6
        have b6 := b8.trans B6
        clear r8 c8 B8 b8 B6
        go_wp2
        go_roundw
        case rel => exact ⟨j + 1, xs ++ [(j : Int)], o2a, (o2n, o2c), by omega, by go_num, rfl, ⟨by rw [rd_snoc, hv, hxs.out.1]; simp, by have := hxs.out.2; simp; omega⟩, by rw [List.length_append, List.map_append]; exact r6, b6⟩
        case measure => simp [intOf]; omega
      | false =>
        rw [hv] at y1
        have hx2 : Hid (xs = ((List.range (j + 1)).filter v.rd).map (fun i : Nat => (i : Int)) ∧ xs.length ≤ j + 1) := ⟨by rw [rd_snoc, hv, hxs.out.1]; simp, by have := hxs.out.2; omega⟩
        go_wp2
        go_roundw
        case rel => exact ⟨j + 1, xs, oa, (on, oc), by omega, by go_num, rfl, hx2, hrow, hbel⟩
        case measure => simp [intOf]; omega
    · have hji : ¬ (j : Int) < 4097 := by omega
      have fin : Hid (xs = rdL v) := by show _ = _; rw [hxs.out.1, show j = 4097 by omega]; rfl
      go_wp2
      go_ret
      obtain ⟨a', c', e⟩ := own_slice hrow
      cases e
      exact ⟨oa, xs.length, oc, rfl, by rw [fin.out], by rw [← fin.out]; exact hrow, hbel⟩
theorem new_snoc (j : Nat) : ((List.range (j + 1)).map (fun i : Nat => 4096 + ((i : Int) + 1))) = (List.range j).map (fun i : Nat => 4096 + ((i : Int) + 1)) ++ [4096 + ((j : Int) + 1)] := by
  rw [List.range_succ, List.map_append]
  rfl
set_option maxHeartbeats 4000000 in
theorem dnews_any {w : World} {X : Nat → Prop} {b ub : Nat} {v : Dv} (h : Db w X b ub v) (hn0 : 0 ≤ v.n ∧ v.n ≤ 4096) : Calls Tryz.prog 31 #[.pointer (some ⟨b, 0, none⟩)] w (OopP w (newL v)) := by
  obtain ⟨lv, rb, hblk, _, _, _, _⟩ := h.blk
  have lb := lt_of_block hblk
  obtain ⟨n, hn⟩ : ∃ n : Nat, v.n = (n : Int) := ⟨v.n.toNat, by omega⟩
  have en : Hid (newL v = (List.range n).map (fun i : Nat => 4096 + ((i : Int) + 1))) := by show _ = _; unfold newL; rw [hn]; rfl
  rw [hn] at hblk hn0
  have hn1 : n ≤ 4096 := by omega
  clear h hn hn0
  go_enter Tryz.func31, Tryz.ntmps31
  go_wp2_with fail
  go_loopw [3, 4] (fun ov iv wr => ∃ (j : Nat) (xs : List Int) (oa : Option Addr) (onc : Nat × Nat), j ≤ n ∧ iv = .int .i64 ((j : Int) + 1) ∧ ov = .slice oa onc.1 onc.2 ∧ Hid (xs = (List.range j).map (fun i : Nat => 4096 + ((i : Int) + 1)) ∧ xs.length ≤ j) ∧ wr.ownsRow w.heap.size 2 1 ov xs.length (xs.map (Value.int .i64)) ∧ Below w.heap.size w wr) (fun _ iv _ => n + 1 - (intOf iv).toNat)
  case atStart => exact ⟨0, [], none, (0, 0), by omega, rfl, rfl, ⟨rfl, Nat.le_refl _⟩, World.ownsRow_nil _ _ _ _, Below.refl _ _⟩
  case round =>
    obtain ⟨j, xs, oa, ⟨on, oc⟩, hj, rfl, rfl, hxs, hrow, hbel⟩ := hrel
    have hlen : xs.length ≤ 4097 := by have := hxs.out.2; omega
    obtain ⟨x0, x1, x2, x3, x4⟩ := dv_cells ((hbel.block b lb).trans hblk)
    by_cases hlt : j < n
    · have hji : (j : Int) + 1 ≤ (n : Int) := by omega
      have wr1 : IntKind.i64.wrap (4096 + ((j : Int) + 1)) = 4096 + ((j : Int) + 1) := wrap64 (by omega) (by omega)
      have wr2 : IntKind.i64.wrap ((j : Int) + 1 + 1) = (j : Int) + 1 + 1 := wrap64 (by omega) (by omega)
      have E8 := new1 wr (.cells #[.int .i64 (4096 + ((j : Int) + 1))] 2)
      have B8 : Below wr.heap.size wr (wr.alloc (.cells #[.int .i64 (4096 + ((j : Int) + 1))] 2)) := box_below
      have c8 : (wr.alloc (.cells #[.int .i64 (4096 + ((j : Int) + 1))] 2)).cell? ⟨wr.heap.size, 0, none⟩ = some (.int .i64 (4096 + ((j : Int) + 1))) := by rw [cell_of_row _ _ _ _ _ _ E8]; rfl
      have r8 := own_below hrow B8
      have b8 := below_size hbel hbel.size B8
      clear E8
      go_wp2_with (at_builtin; refine app_ints _ (by rfl) _ _ (by rfl) w.heap.size _ xs (by rfl) r8 wr.heap.size (4096 + ((j : Int) + 1)) (by rfl) c8 (by omega) b8.size ?_)
      intro o2a o2n o2c w6 r6 B6
      have b6 := b8.trans B6
      clear r8 c8 B8 b8 B6
      go_wp2
      go_roundw
      case rel => exact ⟨j + 1, xs ++ [4096 + ((j : Int) + 1)], o2a, (o2n, o2c), by omega, by simp, rfl, ⟨by rw [new_snoc, hxs.out.1], by have := hxs.out.2; simp; omega⟩, by rw [List.length_append, List.map_append]; exact r6, b6⟩
      case measure => simp [intOf]; omega
    · have hji : ¬ (j : Int) + 1 ≤ (n : Int) := by omega
      have fin : Hid (xs = newL v) := by show _ = _; rw [hxs.out.1, en.out, show j = n by omega]
      go_wp2
      go_ret
      obtain ⟨a', c', e⟩ := own_slice hrow
      cases e
      exact ⟨oa, xs.length, oc, rfl, by rw [fin.out], by rw [← fin.out]; exact hrow, hbel⟩
end Go.Proofs.YteomolihandfnaaGreat
