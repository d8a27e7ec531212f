/- Two tables of the same records, with the commits' order. -/
import Derived.Test.YteomolihandfnaaBth
namespace Go.Proofs.Yteomolihandfnaa
open Go.RowKit
set_option maxRecDepth 100000
structure Rel2 (t : Tab) (u : RTab) : Prop where
  rel : Rel t u
  le : ∀ r ∈ u.recs, r.1 ≤ u.end_
theorem Rel2.new : Rel2 tab0 rtab0 := ⟨Rel.new, by simp [rtab0]⟩
theorem Rel2.apply {t : Tab} {u : RTab} (h : Rel2 t u) (c : Int) (xs : List Ch) : Rel2 (applyT t c xs) (rapplyT u c xs) := by
  refine ⟨h.rel.apply c xs, ?_⟩
  unfold rapplyT
  by_cases h0 : rapplyE u c xs = 0
  · rw [if_pos h0]
    intro r hr
    have hc : u.end_ < c := by
      unfold rapplyE at h0
      split at h0
      · cases h0
      · split at h0
        · cases h0
        · omega
    rcases List.mem_append.1 hr with hr | hr
    · have := h.le r hr
      show r.1 ≤ c
      omega
    · rw [List.mem_singleton] at hr
      subst hr
      exact Int.le_refl _
  · rw [if_neg h0]
    exact h.le
def BothP2 (w : World) (ls : List Rm) (e : Ending) (w' : World) : Prop := ∃ b ub u, e = .returned (.tuple #[.pointer (some ⟨b, 0, none⟩), .pointer (some ⟨ub, 0, none⟩)]) ∧ Hb w b ub (tabOf (ls.take 12)) u w' ∧ Rel2 (tabOf (ls.take 12)) u ∧ u.k ≤ 12
set_option maxHeartbeats 4000000 in
theorem both_any2 {w : World} {la : Option Addr} {ln lc : Nat} {ls : List Rm} (hl : IsRs w la ln lc ls) : Calls Try.prog 15 #[.slice la ln lc] w (BothP2 w ls) := by
  have t0 := Hb.new w
  go_enter Try.func15, Try.ntmps15
  go_wp2_with fail
  refine (new_tab w).mono ?_
  rintro e w1 ⟨rfl, rfl⟩
  obtain ⟨b, hb⟩ : ∃ q, Hid (q = w.heap.size) := ⟨_, rfl⟩
  rw [← hb.out] at t0 ⊢
  generalize w.alloc (tabB 0 0 none) = w1 at *
  go_wp2_with fail
  refine (rnew_tab w1).mono ?_
  rintro e w2 ⟨rfl, rfl⟩
  obtain ⟨ub, hub⟩ : ∃ q, Hid (q = w1.heap.size) := ⟨_, rfl⟩
  rw [← hub.out] at t0 ⊢
  generalize w1.alloc (rtB 0 0 (.slice none 0 0) (.slice none 0 0)) = w2 at *
  clear hb hub
  have s1 := hl.size
  have s2 := hl.room
  have s3 := hl.most
  unfold maxLen at s3
  go_wp2_with fail
  go_loopw [6] (fun iv wr => ∃ (j : Nat) (t : Tab) (u : RTab), iv = .int .i64 (j : Int) ∧ j ≤ ln ∧ j ≤ 12 ∧ u.k = j ∧ Rel2 t u ∧ Hb w b ub t u wr ∧ t = tabOf (ls.take j)) (fun iv _ => ln - (intOf iv).toNat)
  case atStart => exact ⟨0, tab0, rtab0, rfl, by omega, by omega, rfl, Rel2.new, t0, rfl⟩
  case round =>
    clear t0
    obtain ⟨j, t, u, rfl, hj, hj2, huk, hrel0, hd, htj⟩ := hrel
    replace huk : Hid _ := huk
    replace htj : Hid _ := htj
    by_cases hlt : j < ln ∧ j < 12
    · obtain ⟨h1, h2⟩ := hlt
      obtain ⟨rb, ro, m, rfl, hmj, hC, hnn, hpart, hcel⟩ := hl.at2 j h1
      have htj1 : Hid (applyT t m.com m.xs = tabOf (ls.take (j + 1))) := by show applyT t m.com m.xs = _; rw [tabOf_snoc hmj, ← htj.out]
      replace hmj : Hid _ := hmj
      obtain ⟨hrb, c0, c1⟩ := hcel wr hd.belowW
      have i1 : (j : Int) < (ln : Int) := by omega
      have i2 : (j : Int) < 12 := by omega
      go_wp2_with fail
      refine (given_any m.com (hC.below hd.belowW) hnn hpart).mono ?_
      rintro e w3 ⟨a2, n2, cap2, rfl, hO, B2⟩
      have hd2 := hd.below B2
      go_wp2_with fail
      refine (hb_apply hd2 m.com hO).mono ?_
      rintro e w4 ⟨rfl, hd3⟩
      obtain ⟨hrb4, d0, d1⟩ := hcel w4 hd3.belowW
      clear c0 c1 hrb hO B2 hd2 hd
      go_wp2_with fail
      refine (hb_rapply hd3 m.com hC (by have := huk.out; omega)).mono ?_
      rintro e w5 ⟨rfl, hd5⟩
      have hrel1 := hrel0.apply m.com m.xs
      have hk1 := rapplyT_k u m.com m.xs
      replace hk1 : Hid _ := hk1
      clear d0 d1 hrb4 hd3
      go_wp2
      go_roundw
      case rel => exact ⟨j + 1, _, _, by go_num, by omega, by omega, by have h1 := hk1.out; have h2 := huk.out; omega, hrel1, hd5, htj1.out⟩
      case measure => simp [intOf]; omega
    · have i1 : ¬ ((j : Int) < (ln : Int) ∧ (j : Int) < 12) := by omega
      by_cases i2 : (j : Int) < (ln : Int)
      · have i3 : ¬ (j : Int) < 12 := by omega
        clear i1 hlt
        go_wp2
        go_ret2
        have e12 : tabOf (ls.take 12) = t := by rw [htj.out, show j = 12 by omega]
        exact ⟨b, ub, u, rfl, by rw [e12]; exact hd, by rw [e12]; exact hrel0, by have := huk.out; omega⟩
      · clear i1 hlt
        go_wp2
        go_ret2
        have e12 : tabOf (ls.take 12) = t := by rw [htj.out, List.take_of_length_le (by omega), List.take_of_length_le (by omega)]
        exact ⟨b, ub, u, rfl, by rw [e12]; exact hd, by rw [e12]; exact hrel0, by have := huk.out; omega⟩
end Go.Proofs.Yteomolihandfnaa
