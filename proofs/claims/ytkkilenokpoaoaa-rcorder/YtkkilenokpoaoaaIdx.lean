/- slices.Index of values. -/
import Derived.Test.YtkkilenokpoaoaaCnt
namespace Go.Proofs.Ytkkilenokpoaoaa
open Go.RowKit
set_option maxRecDepth 100000
/-- Where a value stands first, from a place on; -1: nowhere. -/
def vIdx : List (Int × Int) → Nat → Int × Int → Int
  | [], _, _ => -1
  | v :: t, i, x => if v = x then (i : Int) else vIdx t (i + 1) x
theorem vIdx_hit {vs : List (Int × Int)} {k : Nat} {v : Int × Int} (h : vs[k]? = some v) : vIdx (vs.drop k) k v = (k : Int) := by
  obtain ⟨hk, e⟩ := List.getElem?_eq_some_iff.1 h
  rw [List.drop_eq_getElem_cons hk, e]
  simp [vIdx]
theorem vIdx_miss {vs : List (Int × Int)} {k : Nat} {v x : Int × Int} (h : vs[k]? = some v) (hn : v ≠ x) : vIdx (vs.drop k) k x = vIdx (vs.drop (k + 1)) (k + 1) x := by
  obtain ⟨hk, e⟩ := List.getElem?_eq_some_iff.1 h
  rw [List.drop_eq_getElem_cons hk, e]
  simp [vIdx, hn]
set_option maxHeartbeats 2000000 in
theorem index_any {w : World} {a : Option Addr} {n c : Nat} {vs : List (Int × Int)} (x y : Int) (hv : IsV w a n c vs) :
    Calls Try.prog 53 #[.slice a n c, .agg #[.int .i64 x, .int .i64 y]] w fun e w' => e = .returned (.int .i64 (vIdx vs 0 (x, y))) ∧ Below w.heap.size w w' := by
  have s1 := hv.size
  have m1 := hv.most
  have r1 := hv.room
  unfold maxLen at m1
  have hv1 := hv.below (box_below (o := .cells #[.int .i64 x, .int .i64 y] 60))
  have B1 : Below w.heap.size w (w.alloc (.cells #[.int .i64 x, .int .i64 y] 60)) := box_below
  have b0 : (w.alloc (.cells #[.int .i64 x, .int .i64 y] 60)).cell? ⟨w.heap.size, 0, none⟩ = some (.int .i64 x) := by simp
  have b1 : (w.alloc (.cells #[.int .i64 x, .int .i64 y] 60)).cell? ⟨w.heap.size, 1, none⟩ = some (.int .i64 y) := by simp
  obtain ⟨R, hR⟩ : ∃ R, Hid (vIdx vs 0 (x, y) = R) := ⟨_, rfl⟩
  rw [hR.out]
  go_enter Try.func53, Try.ntmps53
  go_wp2
  generalize w.alloc (.cells #[.int .i64 x, .int .i64 y] 60) = w1 at *
  go_loopw [8] (fun iv wr => ∃ (k q : Nat), k ≤ n ∧ iv = .int .i64 (k : Int) ∧ wr = w1.drewN q ∧ vIdx (vs.drop k) k (x, y) = R) (fun iv _ => n - (intOf iv).toNat)
  case atStart => exact ⟨0, 0, by omega, rfl, rfl, by simpa using hR.out⟩
  case round =>
    obtain ⟨k, q, hk, rfl, rfl, hok⟩ := hrel
    by_cases hlt : k < n
    · obtain ⟨b, off, x1, y1, rfl, hb1, c1, d1, e1, _, _⟩ := hv1.at_ k hlt
      replace hok : Hid (vIdx (vs.drop k) k (x, y) = R) := hok
      have hki : (k : Int) < (n : Int) := by omega
      by_cases he : x = x1 ∧ y = y1
      · obtain ⟨rfl, rfl⟩ := he
        have hRk : Hid (R = (k : Int)) := by rw [vIdx_hit e1.out] at hok; exact hok.out.symm
        go_wp2_with fail
        go_quiet (fail)
        go_wp2
        go_ret
        exact ⟨by rw [hRk.out]; rfl, below_drewN' (below_drewN' B1 _) _⟩
      · have hne : Hid (vIdx (vs.drop (k + 1)) (k + 1) (x, y) = R) := by rw [← vIdx_miss e1.out (fun h => he (by simp at h; exact ⟨h.1.symm, h.2.symm⟩))]; exact hok
        by_cases hx : x = x1
        · subst hx
          have hy : ¬ y = y1 := fun h => he ⟨rfl, h⟩
          clear he
          go_wp2_with fail
          go_quiet (fail)
          go_wp2
          go_roundw
          case rel => exact ⟨k + 1, _, by omega, by go_num, rfl, hne.out⟩
          case measure => simp [intOf]; omega
        · clear he
          go_wp2_with fail
          go_quiet (fail)
          go_wp2
          go_roundw
          case rel => exact ⟨k + 1, _, by omega, by go_num, rfl, hne.out⟩
          case measure => simp [intOf]; omega
    · rw [List.drop_of_length_le (by omega)] at hok
      replace hok : Hid (-1 = R) := hok
      go_wp2
      go_ret
      exact ⟨by rw [← hok.out]; rfl, below_drewN' B1 _⟩
end Go.Proofs.Ytkkilenokpoaoaa
