/- The document's fits: a number of bytes, if it has not too many. -/
import Derived.Test.YtgammgdckneoiabDoorRLess
import Derived.Test.YtgammgdckneoiabDoorAddSub
namespace Go.Proofs.YtgammgdckneoiabDoor
open Go.RowKit

set_option maxRecDepth 100000 in
set_option maxHeartbeats 2000000 in
theorem fits_any {a : Option Addr} {len cap : Nat} {xs : List Int} {w : World} (neg : Bool) (h : IsB w a len cap xs) (hl : len ≤ 100000) :
    Calls Tryd.prog 42 #[.bool neg, .slice a len cap] w fun e w' => ∃ v, e = .returned (.tuple #[.agg #[.bool (fitB neg (val8 xs)), v], .int .i64 (fitE (val8 xs))]) ∧ OwnB w' w.heap.size v (fitM (val8 xs)) ∧ Below w.heap.size w w' := by
  have hb := box_below w (.cells #[.bool false, .slice none 0 0] 24)
  have hs1 : (w.alloc (.cells #[.bool false, .slice none 0 0] 24)).heap.size = w.heap.size + 1 := by simp
  have z0 := heap_alloc_new w (.cells #[.bool false, .slice none 0 0] 24)
  have hI := h.below hb
  obtain ⟨V, HV⟩ : ∃ V, Hid (val8 xs = V) := ⟨_, rfl⟩
  rw [HV.out]
  go_enter Tryd.func42, Tryd.ntmps42
  go_wp2_with fail
  generalize w.alloc (.cells #[.bool false, .slice none 0 0] 24) = w1 at *
  refine (made_any neg hI (by omega)).mono ?_
  rintro e w2 ⟨v, rfl, hO, hb2⟩
  rw [HV.out] at hO ⊢
  have u0 := (hb2.block _ (lt_of_block z0)).trans z0
  have hB2 := below_size hb (Nat.le_refl _) hb2
  have hsz2 := hb2.size
  rw [hs1] at hsz2
  obtain ⟨av, cv, rfl, _⟩ := hO.2
  have hlen : Hid ((mag V).length = blen V) := mag_len V
  rw [hlen.out] at hO ⊢
  have hvar' : ∀ o, (w2.alloc o).heap[w.heap.size]? = some (.cells #[.bool false, .slice none 0 0] 24 (0, 0)) := fun o => (Below.heap_alloc w2 o _ (lt_of_block u0)).trans u0
  have hc0 := fun o => (intVarT (hvar' o)).1
  have hc1 := fun o => (intVarT (hvar' o)).2.1
  have hf0 := fun o => (intVarT (hvar' o)).2.2.1
  have hf1 := fun o => (intVarT (hvar' o)).2.2.2
  have hBo : ∀ o, Below w.heap.size w (w2.alloc o) := fun o => hB2.alloc hB2.size _
  rw [hs1] at hO
  clear hvar' u0 z0 hb hb2 hI
  by_cases hm : blen V ≤ 128
  · have hm' : ¬ (128 : Int) < (blen V : Int) := by omega
    have e1 : Hid (fitB neg V = (neg && decide (V ≠ 0))) := by show _ = _; unfold fitB; rw [decide_eq_true hm, Bool.and_true]
    have e2 : Hid (fitE V = 0) := by show _ = _; unfold fitE; rw [if_pos hm]
    have e3 : Hid (fitM V = mag V) := by show _ = _; unfold fitM; rw [if_pos hm]
    obtain ⟨bq, hbq⟩ : ∃ bq, Hid ((neg && decide (V ≠ 0)) = bq) := ⟨_, rfl⟩
    rw [hbq.out]
    obtain ⟨n, hn⟩ : ∃ n, Hid (blen V = n) := ⟨_, rfl⟩
    rw [hn.out] at hm hm' hO ⊢
    go_wp2
    exact bodyPost_ret (v := .tuple #[.agg #[.bool bq, .slice av n cv], .int .i64 0]) (by simp [results, Tryd.results42, go_sem, hc0, hc1]) rfl ⟨_, by rw [e1.out, e2.out, hbq.out], by rw [e3.out]; exact OwnB.put (base := w.heap.size + 1) (b := w.heap.size) (b0 := w.heap.size) (hO.alloc _) (by omega) (by omega), below_put (b := w.heap.size) (hBo _) (Nat.le_refl _)⟩
  · have hm' : (128 : Int) < (blen V : Int) := by omega
    have e1 : Hid (fitB neg V = false) := by show _ = _; unfold fitB; rw [decide_eq_false hm, Bool.and_false]
    have e2 : Hid (fitE V = 24) := by show _ = _; unfold fitE; rw [if_neg hm]
    have e3 : Hid (fitM V = []) := by show _ = _; unfold fitM; rw [if_neg hm]
    obtain ⟨bq, hbq⟩ : ∃ bq, Hid ((neg && decide (V ≠ 0)) = bq) := ⟨_, rfl⟩
    rw [hbq.out]
    obtain ⟨n, hn⟩ : ∃ n, Hid (blen V = n) := ⟨_, rfl⟩
    rw [hn.out] at hm hm' hO ⊢
    go_wp2
    exact bodyPost_ret (v := .tuple #[.agg #[.bool false, .slice none 0 0], .int .i64 24]) (by simp [results, Tryd.results42, go_sem, hc0, hc1]) rfl ⟨.slice none 0 0, by rw [e1.out, e2.out], by rw [e3.out]; exact ownB_of (n := 0) (World.ownsRow_nil _ _ _ _) (by simp), below_put (b := w.heap.size) (hBo _) (Nat.le_refl _)⟩
end Go.Proofs.YtgammgdckneoiabDoor
