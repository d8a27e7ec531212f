/- The document's made: a number of bytes, without noughts ahead. -/
import Derived.Test.YtlhmeipbcioncaaDoorStep
namespace Go.Proofs.YtlhmeipbcioncaaDoor
open Go.RowKit

theorem intVarT {w : World} {b t : Nat} {v0 v1 : Value} (h : w.heap[b]? = some (.cells #[v0, v1] t (0, 0))) :
    w.cell? ⟨b, 0, none⟩ = some v0 ∧ w.cell? ⟨b, 0 + 1, none⟩ = some v1 ∧ w.frozen? ⟨b, 0, none⟩ = false ∧ w.frozen? ⟨b, 0 + 1, none⟩ = false :=
  ⟨by rw [cell_of_row w _ 0 _ _ _ h]; rfl, by rw [cell_of_row w _ (0 + 1) _ _ _ h]; rfl, frozen_of_row w b 0 _ _ h, frozen_of_row w b (0 + 1) _ _ h⟩
/-- Two variables ahead of a call, behind a draw. -/
theorem var2d {w w1 : World} {o1 o2 : Obj} (hb : Below ((w.alloc o1).alloc o2).drew.heap.size ((w.alloc o1).alloc o2).drew w1) : w1.heap[w.heap.size]? = some o1 ∧ w1.heap[w.heap.size + 1]? = some o2 ∧ Below w.heap.size w w1 := by
  have hs : ((w.alloc o1).alloc o2).drew.heap.size = w.heap.size + 2 := by show ((w.alloc o1).alloc o2).heap.size = _; simp
  refine ⟨(hb.block _ (by omega)).trans ((Below.heap_alloc _ _ _ (by simp)).trans (heap_alloc_new w _)), (hb.block _ (by omega)).trans ?_, ?_⟩
  · show ((w.alloc o1).alloc o2).heap[w.heap.size + 1]? = some o2
    have := heap_alloc_new (w.alloc o1) o2
    rwa [show (w.alloc o1).heap.size = w.heap.size + 1 by simp] at this
  · exact (((Below.refl w.heap.size w).alloc (Nat.le_refl _) _).alloc (by simp) _).drew.trans (hb.mono (by omega))

set_option maxRecDepth 100000 in
set_option maxHeartbeats 2000000 in
theorem made_any {a : Option Addr} {len cap : Nat} {xs : List Int} {w : World} (neg : Bool) (h : IsB w a len cap xs) (hl : len ≤ 140737488355328) :
    Calls Tryd.prog 72 #[.bool neg, .slice a len cap] w fun e w' => ∃ v, e = .returned (.agg #[.bool (neg && decide (val8 xs ≠ 0)), v]) ∧ OwnB w' w.heap.size v (mag (val8 xs)) ∧ Below w.heap.size w w' := by
  have hsz := h.size
  have hbel : Below w.heap.size w (w.alloc (.cells #[.bool false, .slice none 0 0] 58)) := (Below.refl _ _).alloc (Nat.le_refl _) _
  have hI := h.below hbel
  go_enter Tryd.func72, Tryd.ntmps72
  go_wp2
  go_loop [5] (fun n => ∃ k : Nat, k ≤ len ∧ n = .int .i64 k ∧ Hid (val8 xs = val8 (xs.drop k))) (fun n => len - (intOf n).toNat)
  case atStart => exact ⟨0, Nat.zero_le _, rfl, by show _ = _; rw [List.drop_zero]⟩
  case round =>
    obtain ⟨k, hk, rfl, hv⟩ := hrel
    have hrun := fun w => run_from a len cap k w hk
    by_cases hlt : k < len
    · obtain ⟨b, off, rfl, hc⟩ := hI.cells (by omega)
      obtain ⟨c, hc8, hcx, _⟩ := byteAt xs h.byte k (by omega)
      have hck := hc k hlt
      rw [hcx] at hck
      by_cases hc0 : c = 0
      · have hb0 : ((c : Int) == 0) = true := by simp; omega
        have hnx : Hid (val8 xs = val8 (xs.drop (k + 1))) := by
          show _ = _; rw [hv.out]; exact val8_drop xs k (by omega) (by rw [hcx]; omega)
        clear hc hcx
        go_wp2
        go_round
        case rel => exact ⟨k + 1, by omega, by go_num, hnx⟩
        case measure => simp [intOf]; omega
      · have hb0 : ((c : Int) == 0) = false := by simp; omega
        obtain ⟨m1, m2⟩ := mag_drop xs k (by omega) h.byte (by rw [hcx]; omega)
        have Hm : Hid (mag (val8 xs) = xs.drop k) := by show _ = _; rw [hv.out]; exact m1
        have Hd : Hid (decide (val8 xs ≠ 0) = true) := by show _ = _; rw [hv.out]; simpa using m2
        clear hc hcx m1 m2
        have hW0 : ∀ o, IsB ((w.alloc (Obj.cells #[Value.bool false, Value.slice none 0 0] 58)).alloc o) (winA (some ⟨b, off, none⟩) k cap) (len - k) (cap - k) (xs.drop k) := fun o => (hI.below ((Below.refl _ _).alloc (Nat.le_refl _) o)).from k (by omega)
        cases neg
        · skip
          go_wp2
          go_region_law (refine step_app_nil rfl (.tmp 29) (.tmp 32) rfl (by simp [Act.eval]) (winA (some ⟨b, off, none⟩) k cap) (len - k) (cap - k) (xs.drop k) (by simp [Act.eval]) (by exact (hW0 _).below (Below.refl _ _).drew) (by omega) ?_; intro av cv w2 hO2 hb2; obtain ⟨hv1, hv2, hbw⟩ := var2d hb2; obtain ⟨x0, x1, f0, f1⟩ := intVarT hv2; obtain ⟨y0, y1, g0, g1⟩ := intVarT hv1)
          go_wp2
          exact bodyPost_ret (v := .agg #[.bool false, .slice av (len - k) cv]) (by simp [results, Tryd.results72, go_sem, y0, y1]) rfl ⟨_, by rw [Hd.out]; rfl, by rw [Hm.out]; exact (hO2.set (by show _ < ((w.alloc _).alloc _).heap.size; simp) _).put (by show _ < ((w.alloc _).alloc _).heap.size; simp; omega) (by show _ ≤ ((w.alloc _).alloc _).heap.size; simp; omega), below_put (hbw.setCell (by simp) _) (Nat.le_refl _)⟩
        · skip
          go_wp2
          go_region_law (refine step_app_nil rfl (.tmp 29) (.tmp 32) rfl (by simp [Act.eval]) (winA (some ⟨b, off, none⟩) k cap) (len - k) (cap - k) (xs.drop k) (by simp [Act.eval]) (by exact (hW0 _).below (Below.refl _ _).drew) (by omega) ?_; intro av cv w2 hO2 hb2; obtain ⟨hv1, hv2, hbw⟩ := var2d hb2; obtain ⟨x0, x1, f0, f1⟩ := intVarT hv2; obtain ⟨y0, y1, g0, g1⟩ := intVarT hv1)
          go_wp2
          exact bodyPost_ret (v := .agg #[.bool true, .slice av (len - k) cv]) (by simp [results, Tryd.results72, go_sem, y0, y1]) rfl ⟨_, by rw [Hd.out]; rfl, by rw [Hm.out]; exact (hO2.set (by show _ < ((w.alloc _).alloc _).heap.size; simp) _).put (by show _ < ((w.alloc _).alloc _).heap.size; simp; omega) (by show _ ≤ ((w.alloc _).alloc _).heap.size; simp; omega), below_put (hbw.setCell (by simp) _) (Nat.le_refl _)⟩
    · obtain rfl : k = len := by omega
      have hd0 : xs.drop k = [] := List.drop_eq_nil_of_le (by omega)
      have Hm : Hid (mag (val8 xs) = xs.drop k) := by show _ = _; rw [hv.out, hd0]; rfl
      have Hd : Hid (decide (val8 xs ≠ 0) = false) := by show _ = _; rw [hv.out, hd0]; rfl
      have hW0 : ∀ o, IsB ((w.alloc (Obj.cells #[Value.bool false, Value.slice none 0 0] 58)).alloc o) (winA a k cap) (k - k) (cap - k) (xs.drop k) := fun o => (hI.below ((Below.refl _ _).alloc (Nat.le_refl _) o)).from k (by omega)
      clear hd0
      cases neg
      · skip
        go_wp2
        go_region_law (refine step_app_nil rfl (.tmp 29) (.tmp 32) rfl (by simp [Act.eval]) (winA a k cap) (k - k) (cap - k) (xs.drop k) (by simp [Act.eval]) (by exact (hW0 _).below (Below.refl _ _).drew) (by omega) ?_; intro av cv w2 hO2 hb2; obtain ⟨hv1, hv2, hbw⟩ := var2d hb2; obtain ⟨x0, x1, f0, f1⟩ := intVarT hv2; obtain ⟨y0, y1, g0, g1⟩ := intVarT hv1)
        go_wp2
        exact bodyPost_ret (v := .agg #[.bool false, .slice av (k - k) cv]) (by simp [results, Tryd.results72, go_sem, y0, y1]) rfl ⟨_, by rw [Hd.out]; rfl, by rw [Hm.out]; exact (hO2.set (by show _ < ((w.alloc _).alloc _).heap.size; simp) _).put (by show _ < ((w.alloc _).alloc _).heap.size; simp; omega) (by show _ ≤ ((w.alloc _).alloc _).heap.size; simp; omega), below_put (hbw.setCell (by simp) _) (Nat.le_refl _)⟩
      · skip
        go_wp2
        go_region_law (refine step_app_nil rfl (.tmp 29) (.tmp 32) rfl (by simp [Act.eval]) (winA a k cap) (k - k) (cap - k) (xs.drop k) (by simp [Act.eval]) (by exact (hW0 _).below (Below.refl _ _).drew) (by omega) ?_; intro av cv w2 hO2 hb2; obtain ⟨hv1, hv2, hbw⟩ := var2d hb2; obtain ⟨x0, x1, f0, f1⟩ := intVarT hv2; obtain ⟨y0, y1, g0, g1⟩ := intVarT hv1)
        go_wp2
        exact bodyPost_ret (v := .agg #[.bool false, .slice av (k - k) cv]) (by simp [results, Tryd.results72, go_sem, y0, y1]) rfl ⟨_, by rw [Hd.out]; rfl, by rw [Hm.out]; exact (hO2.set (by show _ < ((w.alloc _).alloc _).heap.size; simp) _).put (by show _ < ((w.alloc _).alloc _).heap.size; simp; omega) (by show _ ≤ ((w.alloc _).alloc _).heap.size; simp; omega), below_put (hbw.setCell (by simp) _) (Nat.le_refl _)⟩
end Go.Proofs.YtlhmeipbcioncaaDoor
