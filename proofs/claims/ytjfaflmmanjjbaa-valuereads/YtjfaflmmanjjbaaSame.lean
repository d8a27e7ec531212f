/- Are two slices of values alike? -/
import Derived.Test.YtjfaflmmanjjbaaEq
namespace Go.Proofs.Ytjfaflmmanjjbaa
open Go.RowKit
set_option maxRecDepth 100000
theorem take_eq {α : Type} {l m : List α} {x : α} {k : Nat} (h : l[k]? = some x) (h' : m[k]? = some x) (e : l.take k = m.take k) : l.take (k + 1) = m.take (k + 1) := by
  rw [take_at h, take_at h', e]
theorem ne_at {l m : List (Int × Int)} {x y : Int × Int} {k : Nat} (h : l[k]? = some x) (h' : m[k]? = some y) (e : x ≠ y) : l ≠ m := by
  rintro rfl
  rw [h] at h'
  exact e (Option.some.inj h')

set_option maxHeartbeats 2000000 in
theorem equal_any {w : World} {a b : Option Addr} {n c m d : Nat} {vs us : List (Int × Int)} (hv : IsV w a n c vs) (hu : IsV w b m d us) :
    Calls Try.prog 41 #[.slice a n c, .slice b m d] w fun e w' => e = .returned (.bool (decide (vs = us))) ∧ ∃ q, w' = w.drewN q := by
  have s1 := hv.size
  have s2 := hu.size
  have m1 := hv.most
  have m2 := hu.most
  have r1 := hv.room
  have r2 := hu.room
  unfold maxLen at m1 m2
  by_cases hn : n = m
  · subst hn
    go_enter Try.func41, Try.ntmps41
    go_wp2
    go_loopw [13] (fun iv wr => ∃ (k q : Nat), k ≤ n ∧ iv = .int .i64 (k : Int) ∧ wr = w.drewN q ∧ vs.take k = us.take k) (fun iv _ => n - (intOf iv).toNat)
    case atStart => exact ⟨0, 0, by omega, rfl, rfl, by simp⟩
    case round =>
      obtain ⟨k, q, hk, rfl, rfl, hok⟩ := hrel
      by_cases hlt : k < n
      · obtain ⟨b1, o1, x1, y1, rfl, hb1, c1, d1, e1, _, _⟩ := hv.at_ k hlt
        obtain ⟨b2, o2, x2, y2, rfl, hb2, c2, d2, e2, _, _⟩ := hu.at_ k hlt
        replace hok : Hid (vs.take k = us.take k) := hok
        have hki : (k : Int) < (n : Int) := by omega
        by_cases he : x1 = x2 ∧ y1 = y2
        · obtain ⟨rfl, rfl⟩ := he
          go_wp2_with fail
          go_quiet (fail)
          go_wp2
          go_roundw
          case rel => exact ⟨k + 1, _, by omega, by go_num, rfl, take_eq e1.out e2.out hok.out⟩
          case measure => simp [intOf]; omega
        · have hne : vs ≠ us := ne_at e1.out e2.out (fun h => he (by simpa using h))
          replace hne : Hid (vs ≠ us) := hne
          by_cases hx : x1 = x2
          · subst hx
            have hy : ¬ y1 = y2 := fun h => he ⟨rfl, h⟩
            clear he
            go_wp2_with fail
            go_quiet (fail)
            go_wp2
            go_ret
            exact ⟨by rw [decide_eq_false hne.out]; rfl, _, World.drewN_drewN ..⟩
          · clear he
            go_wp2_with fail
            go_quiet (fail)
            go_wp2
            go_ret
            exact ⟨by rw [decide_eq_false hne.out]; rfl, _, World.drewN_drewN ..⟩
      · rw [List.take_of_length_le (by omega), List.take_of_length_le (by omega)] at hok
        replace hok : Hid (vs = us) := hok
        go_wp2
        go_ret
        exact ⟨by rw [decide_eq_true hok.out]; rfl, _, rfl⟩
  · have hne : vs ≠ us := by rintro rfl; omega
    rw [decide_eq_false hne]
    go_enter Try.func41, Try.ntmps41
    go_wp2
    go_ret
    exact ⟨rfl, 0, rfl⟩

end Go.Proofs.Ytjfaflmmanjjbaa
