/- slices.Grow of nil, slices.Concat of two, slices.Min, at numbers, as this program bears them. -/
import Derived.Test.YtigmpmichhghdaaTxn
import Derived.Lib.AppendZeros
namespace Go.Proofs.Ytigmpmichhghdaa
open Go.RowKit
set_option maxRecDepth 100000
theorem grow_zero (w : World) :
    Calls Try.prog 45 #[.slice none 0 0, .int .i64 0] w fun e w' => e = .returned (.slice none 0 0) ∧ w = w' := by
  go_enter Try.func45, Try.ntmps45
  go_wp2
  go_ret
  exact ⟨rfl, rfl⟩
set_option maxHeartbeats 1000000 in
theorem grow_some (n : Nat) (w : World) (h0 : 0 < n) (hn : n ≤ 17592186044415) :
    Calls Try.prog 45 #[.slice none 0 0, .int .i64 (n : Int)] w fun e w' => ∃ cap, e = .returned (.slice (some ⟨w.heap.size, 0, none⟩) 0 cap) ∧ w'.ownsRow w.heap.size 2 1 (.slice (some ⟨w.heap.size, 0, none⟩) 0 cap) 0 [] ∧ Below w.heap.size w w' := by
  obtain ⟨i0, hi, hz0, hz1, hz2⟩ := info_parts Try.info2
  have hr := Lib.run_append_nil_zeros (P := Try.prog) w 23 3 23 2 i0 (.int .i64 0) .i64 .i64 Try.underlying23 Try.underlying3 hi hz0 n h0 (by omega) (by omega) (by rw [hz2]; omega)
  have hcm := grownCap_le_maxLen w n 0 2 (by unfold maxLen; omega)
  have hcap := grownCap_ge w n 0 2
  go_enter Try.func45, Try.ntmps45
  go_wp2_with (at_builtin; refine Lib.wpList_append_run _ rfl _ _ 23 3 rfl _ _ rfl rfl _ _ hr ?_)
  go_ret
  refine ⟨grownCap w n 0 2, rfl, ?_, ?_⟩
  · exact (World.ownsRow_made w _ _ (Nat.le_refl _) hcm (by simp [size_zeroCells]; omega)).drew
  · exact ((Below.refl _ _).alloc (Nat.le_refl _) _).drew
theorem grow_any (n : Nat) (w : World) (hn : n ≤ 17592186044415) :
    Calls Try.prog 45 #[.slice none 0 0, .int .i64 (n : Int)] w fun e w' => ∃ a c, e = .returned (.slice a 0 c) ∧ OwnI w' w.heap.size (.slice a 0 c) [] ∧ Below w.heap.size w w' := by
  rcases Nat.eq_zero_or_pos n with rfl | h0
  · refine (grow_zero w).mono ?_
    rintro e w' ⟨rfl, rfl⟩
    exact ⟨_, _, rfl, ownI_nil _ _, Below.refl _ _⟩
  · refine (grow_some n w h0 hn).mono ?_
    rintro e w' ⟨cap, rfl, O, B⟩
    exact ⟨_, _, rfl, ⟨O, by simp⟩, B⟩
set_option maxHeartbeats 2000000 in
theorem concat2 {b : Nat} {a1 a2 : Option Addr} {l1 c1 l2 c2 : Nat} {xs ys : List Int} {w : World} (h1 : IsI w a1 l1 c1 xs) (h2 : IsI w a2 l2 c2 ys)
    (hc0 : w.cell? ⟨b, 0, none⟩ = some (.slice a1 l1 c1)) (hc1 : w.cell? ⟨b, 1, none⟩ = some (.slice a2 l2 c2)) (hs1 : l1 ≤ 1048576) (hs2 : l2 ≤ 1048576) :
    Calls Try.prog 36 #[.slice (some ⟨b, 0, none⟩) 2 2] w fun e w' => ∃ a n c, e = .returned (.slice a n c) ∧ OwnI w' w.heap.size (.slice a n c) (xs ++ ys) ∧ Below w.heap.size w w' := by
  have hbl : b < w.heap.size := lt_of_cell hc0
  have z1 := h1.size
  go_enter Try.func36, Try.ntmps36
  go_wp2
  refine wp_loop_rounds 3 ?_
  rw [rounds_succ]
  go_wp2
  rw [rounds_succ]
  go_wp2
  rw [rounds_succ]
  go_wp2_with fail
  rw [show ((l1 : Int) + (l2 : Int)) = ((l1 + l2 : Nat) : Int) by omega]
  refine (grow_any (l1 + l2) w (by omega)).mono ?_
  rintro e w1 ⟨ga, gc, rfl, hown, hbel⟩
  have hc0' := (hbel.cell (p := ⟨b, 0, none⟩) hbl).trans hc0
  have hc1' := (hbel.cell (p := ⟨b, 1, none⟩) hbl).trans hc1
  have k1 := h1.below hbel
  go_wp2
  refine wp_loop_rounds 3 ?_
  rw [rounds_succ]
  go_wp2_with (at_builtin; refine app_ints _ rfl _ _ rfl w.heap.size _ [] rfl hown _ _ _ _ rfl k1 (by simp; omega) hbel.size ?_)
  intro a3 n3 c3 w2 hown2 hb2 _
  have hbel2 := hbel.trans hb2
  have hc1'' := (hbel2.cell (p := ⟨b, 1, none⟩) hbl).trans hc1
  have k2 := h2.below hbel2
  clear hown hb2 hc0' hc1' k1 hbel
  go_wp2
  rw [rounds_succ]
  go_wp2_with (at_builtin; refine app_ints _ rfl _ _ rfl w.heap.size _ xs rfl hown2 _ _ _ _ rfl k2 (by omega) hbel2.size ?_)
  intro a4 n4 c4 w3 hown3 hb3 _
  have hbel3 := hbel2.trans hb3
  clear hown2 hb3 hbel2 k2
  go_wp2
  rw [rounds_succ]
  go_wp2
  go_ret
  exact ⟨_, _, _, rfl, hown3, hbel3⟩
/-- The least one of some. -/
def minL (x : Int) (l : List Int) : Int := l.foldl min x
theorem minL_snoc (x : Int) (l : List Int) (y : Int) : minL x (l ++ [y]) = min (minL x l) y := by unfold minL; rw [List.foldl_append]; rfl
theorem minL_mem (x : Int) : ∀ l : List Int, minL x l = x ∨ minL x l ∈ l := by
  intro l
  induction l generalizing x with
  | nil => exact .inl rfl
  | cons y r ih =>
    have e : minL x (y :: r) = minL (min x y) r := rfl
    rw [e]
    rcases ih (min x y) with h | h
    · rw [h]
      rcases Int.le_total x y with hh | hh
      · left; omega
      · right
        have : min x y = y := by omega
        rw [this]; simp
    · exact .inr (List.mem_cons_of_mem _ h)
theorem minL_le (x : Int) : ∀ l : List Int, minL x l ≤ x ∧ ∀ y ∈ l, minL x l ≤ y := by
  intro l
  induction l generalizing x with
  | nil => exact ⟨Int.le_refl _, by simp⟩
  | cons z r ih =>
    have e : minL x (z :: r) = minL (min x z) r := rfl
    rw [e]
    obtain ⟨h1, h2⟩ := ih (min x z)
    refine ⟨by omega, fun y hy => ?_⟩
    rcases List.mem_cons.1 hy with rfl | hy
    · omega
    · exact h2 y hy
set_option maxHeartbeats 2000000 in
theorem min_any {w : World} {a : Option Addr} {n c : Nat} {x : Int} {xs : List Int} (h : IsI w a n c (x :: xs)) (hn : n ≤ 1048576000) :
    Calls Try.prog 38 #[.slice a n c] w fun e w' => e = .returned (.int .i64 (minL x xs)) ∧ w = w' := by
  have hs := h.size
  rw [List.length_cons] at hs
  obtain ⟨b, off, y, rfl, _, cx, hx, _⟩ := h.at_ 0 (by omega)
  obtain rfl : x = y := by have := hx.out; simpa using this
  rw [Nat.add_zero] at cx
  have hn0 : ¬ (n : Int) < 1 := by omega
  have hn1 : (0 : Int) < (n : Int) := by omega
  have hs' : Hid (xs.length + 1 = n) := hs
  clear hs hx
  go_enter Try.func38, Try.ntmps38
  go_wp2
  go_loopw [3, 4] (fun mv iv wr => ∃ k : Nat, 1 ≤ k ∧ k ≤ n ∧ iv = .int .i64 (k : Int) ∧ mv = .int .i64 (minL x (xs.take (k - 1))) ∧ w = wr) (fun _ iv _ => n - (intOf iv).toNat)
  case atStart => exact ⟨1, by omega, by omega, rfl, rfl, rfl⟩
  case round =>
    obtain ⟨k, hk1, hk, rfl, rfl, rfl⟩ := hrel
    by_cases hlt : k < n
    · obtain ⟨b', off', y, e, _, cy, hy, _⟩ := h.at_ k hlt
      cases e
      have hyk : Hid (xs[k - 1]? = some y) := by
        have := hy.out
        rw [show k = (k - 1) + 1 by omega, List.getElem?_cons_succ] at this
        exact this
      have hkI : (k : Int) < (n : Int) := by omega
      clear hy
      go_wp2
      go_roundw
      case rel =>
        refine ⟨k + 1, by omega, by omega, by go_num, ?_, trivial⟩
        rw [show k + 1 - 1 = (k - 1) + 1 by omega, take_at hyk.out, minL_snoc]
        congr 1
        split <;> omega
      case measure => simp [intOf]; omega
    · have hge : ¬ (k : Int) < (n : Int) := by omega
      have e : Hid (xs.take (k - 1) = xs) := List.take_of_length_le (by have := hs'.out; omega)
      go_wp2
      go_ret
      exact ⟨by rw [e.out]; rfl, rfl⟩
end Go.Proofs.Ytigmpmichhghdaa
