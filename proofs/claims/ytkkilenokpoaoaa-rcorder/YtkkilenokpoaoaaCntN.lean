/- count; how often a number is in a Bag. -/
import Derived.Test.YtkkilenokpoaoaaBagS
namespace Go.Proofs.Ytkkilenokpoaoaa
open Go.RowKit
set_option maxRecDepth 100000
/-- How often a number is there. -/
def cN (us : List (Int × Int)) (n : Int) : Nat := us.countP fun v => decide (v = (3, n))
theorem cN_nil (n : Int) : cN [] n = 0 := rfl
theorem cN_app (xs ys : List (Int × Int)) (n : Int) : cN (xs ++ ys) n = cN xs n + cN ys n := by unfold cN; rw [List.countP_append]
theorem cN_cons (x : Int × Int) (ys : List (Int × Int)) (n : Int) : cN (x :: ys) n = (if x = (3, n) then 1 else 0) + cN ys n := by
  unfold cN
  rw [List.countP_cons]
  by_cases h : x = (3, n)
  · simp [h]; omega
  · simp [h]
theorem cN_le (us : List (Int × Int)) (n : Int) : cN us n ≤ us.length := List.countP_le_length
theorem cN_ins (us : List (Int × Int)) (x : Int × Int) (n : Int) : cN (bIns us x) n = cN us n + (if x = (3, n) then 1 else 0) := by
  have h : cN us n = cN (us.take (gPos us x)) n + cN (us.drop (gPos us x)) n := by rw [← cN_app, List.take_append_drop]
  unfold bIns
  rw [cN_app, cN_cons, h]
  omega
theorem vPos_split : ∀ (us : List (Int × Int)) (x : Int × Int), x ∈ us → us = us.take (vPos us x) ++ x :: us.drop (vPos us x + 1)
  | [], _, h => by cases h
  | v :: t, x, h => by
    by_cases e : v = x
    · simp [vPos, e]
    · have hm : x ∈ t := by
        rcases List.mem_cons.1 h with rfl | h
        · exact absurd rfl e
        · exact h
      have ih := vPos_split t x hm
      simp only [vPos, if_neg e, List.take_succ_cons, List.drop_succ_cons, List.cons_append]
      rw [← ih]
theorem cN_rem (us : List (Int × Int)) (x : Int × Int) (n : Int) (h : x ∈ us) : cN (bRem us x) n + (if x = (3, n) then 1 else 0) = cN us n := by
  have e := congrArg (fun l => cN l n) (vPos_split us x h)
  simp only [cN_app, cN_cons] at e
  unfold bRem
  rw [cN_app]
  omega
theorem cN_mem (us : List (Int × Int)) (n : Int) : (3, n) ∈ us ↔ 0 < cN us n := by
  unfold cN
  rw [List.countP_pos_iff]
  simp
theorem bRem_len (us : List (Int × Int)) (x : Int × Int) : (bRem us x).length ≤ us.length := by
  unfold bRem
  simp
  omega
theorem cN_take {us : List (Int × Int)} {k : Nat} {v : Int × Int} (n : Int) (h : us[k]? = some v) : cN (us.take (k + 1)) n = cN (us.take k) n + (if v = (3, n) then 1 else 0) := by
  rw [take_at h, cN_app, cN_cons]
  simp [cN_nil]
set_option maxHeartbeats 2000000 in
theorem count_any {w : World} {c : Int} {sa ba : Option Addr} {sn sc bn bc : Nat} {vs : List (Int × Int)} (n : Int) (hv : IsV w sa sn sc vs) :
    Calls Try.prog 23 #[.agg #[.int .i64 c, .slice sa sn sc, .slice ba bn bc], .int .i64 n] w fun e w' => e = .returned (.int .i64 (cN vs n : Int)) ∧ Below w.heap.size w w' := by
  have s1 := hv.size
  have m1 := hv.most
  have r1 := hv.room
  unfold maxLen at m1
  have hv1 := hv.below (box_below (o := objB c (.slice sa sn sc) (.slice ba bn bc)))
  have B1 : Below w.heap.size w (w.alloc (objB c (.slice sa sn sc) (.slice ba bn bc))) := box_below
  obtain ⟨z0, z1, z2, zf⟩ := obj_cells (new1 w (objB c (.slice sa sn sc) (.slice ba bn bc)))
  obtain ⟨R, hR⟩ : ∃ R, Hid (cN vs n = R) := ⟨_, rfl⟩
  rw [hR.out]
  unfold objB at hv1 B1 z1
  go_enter Try.func23, Try.ntmps23
  go_wp2
  generalize w.alloc (.cells #[.int .i64 c, .slice sa sn sc, .slice ba bn bc] 38) = w1 at *
  clear z0 z2 zf
  go_loopw [5, 6] (fun kv iv wr => ∃ (k j : Nat), k ≤ sn ∧ iv = .int .i64 (k : Int) ∧ kv = .int .i64 (j : Int) ∧ Hid (j = cN (vs.take k) n) ∧ wr = w1) (fun _ iv _ => sn - (intOf iv).toNat)
  case atStart => exact ⟨0, 0, by omega, rfl, rfl, rfl, rfl⟩
  case round =>
    obtain ⟨k, j, hk, rfl, rfl, hj, rfl⟩ := hrel
    by_cases hlt : k < sn
    · obtain ⟨b, off, x, y, rfl, hbl, c0, c1, hx, _, _⟩ := hv1.at_ k hlt
      have hki : (k : Int) < (sn : Int) := by omega
      have hst := cN_take n hx.out
      rw [← hj.out] at hst
      have hjb : j ≤ k := by rw [hj.out]; have := cN_le (vs.take k) n; rw [List.length_take] at this; omega
      have hw1 : IntKind.i64.wrap ((j : Int) + 1) = (j : Int) + 1 := by rw [IntKind.wrap_i64]; omega
      by_cases hx3 : x = 3
      · by_cases hyn : y = n
        · rw [if_pos (by rw [hx3, hyn])] at hst
          replace hst : Hid (cN (vs.take (k + 1)) n = j + 1) := hst
          subst hx3 hyn
          go_wp2
          go_roundw
          case rel => exact ⟨k + 1, j + 1, by omega, by go_num, by go_num, hst.out.symm, trivial⟩
          case measure => simp [intOf]; omega
        · rw [if_neg (by simp [hyn])] at hst
          replace hst : Hid (cN (vs.take (k + 1)) n = j + 0) := hst
          subst hx3
          go_wp2
          go_roundw
          case rel => exact ⟨k + 1, j, by omega, by go_num, by go_num, hst.out.symm, trivial⟩
          case measure => simp [intOf]; omega
      · rw [if_neg (by simp [hx3])] at hst
        replace hst : Hid (cN (vs.take (k + 1)) n = j + 0) := hst
        go_wp2
        go_roundw
        case rel => exact ⟨k + 1, j, by omega, by go_num, by go_num, hst.out.symm, trivial⟩
        case measure => simp [intOf]; omega
    · have hjR : Hid (j = R) := by
        have e := hj.out
        rw [List.take_of_length_le (by omega)] at e
        exact e.trans hR.out
      go_wp2
      go_ret
      exact ⟨by rw [← hjR.out]; rfl, B1⟩
end Go.Proofs.Ytkkilenokpoaoaa
