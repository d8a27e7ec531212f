/- known: what must come of fixed calls. -/
import Derived.Test.YtigmpmichhghdaaChk
namespace Go.Proofs.Ytigmpmichhghdaa
open Go.RowKit
set_option maxRecDepth 100000
theorem isI_lit (w : World) (arr : Array Value) (zs : List Int) (n : Nat) (ha : arr = (zs.map (Value.int .i64)).toArray) (hn : zs.length = n) (hm : n ≤ maxLen) (hw : ∀ z ∈ zs, I64 z) : IsI (w.alloc (.cells arr 2)) (some ⟨w.heap.size, 0, none⟩) n n zs := by
  refine ⟨hn, Nat.le_refl _, hm, by simp, hw, fun h0 => ⟨_, 0, rfl, fun i hi => ?_⟩⟩
  subst ha
  have hi' : i < zs.length := by omega
  rw [cell_of_row _ w.heap.size _ _ _ _ (new1 _ _)]
  simp [hi']
theorem i64n (n : Nat) (h : n ≤ 1000) : I64 (n : Int) := by unfold I64; omega
theorem chk7 : chkR [⟨0, 3, [], [5, 7]⟩] 2 [7] [] = some 7 := by decide
theorem chk0 : chkR [⟨0, 3, [], [5, 7]⟩] 3 [7] [] = none := by decide
set_option maxHeartbeats 4000000 in
theorem known_true (w : World) : Calls Try.prog 17 #[] w fun e w' => e = .returned (.bool true) ∧ Below w.heap.size w w' := by
  have i64 : ∀ z ∈ [(5 : Int), 7], I64 z := by intro z hz; simp at hz; rcases hz with rfl | rfl <;> first | exact i64n 5 (by decide) | exact i64n 7 (by decide)
  have i7 : ∀ z ∈ [(7 : Int)], I64 z := by intro z hz; simp at hz; subst hz; exact i64n 7 (by decide)
  have J1 := isI_lit w #[.int .i64 5, .int .i64 7] [5, 7] 2 rfl rfl (by decide) i64
  have B1 : Below w.heap.size w (w.alloc (.cells #[.int .i64 5, .int .i64 7] 2)) := box_below
  obtain ⟨m0, hm0⟩ : ∃ m0 : Tm, m0 = ⟨0, 3, none, 0, 0, some ⟨w.heap.size, 0, none⟩, 2, 2, [], [5, 7]⟩ := ⟨_, rfl⟩
  have hD : IsTs ((w.alloc (.cells #[.int .i64 5, .int .i64 7] 2)).alloc (.cells #[.int .i64 0, .int .i64 3, .slice none 0 0, .slice (some ⟨w.heap.size, 0, none⟩) 2 2] 31)) (some ⟨w.heap.size + 1, 0, none⟩) 1 1 [m0] := by
    refine ⟨rfl, Nat.le_refl _, by decide, by simp, fun _ => ⟨_, 0, rfl, fun i m hm => ?_⟩, fun m hm => ?_⟩
    · match i with
      | 0 => cases hm; subst hm0; simp
      | i + 1 => cases hm
    · rw [List.mem_singleton] at hm
      subst hm hm0
      exact ⟨i64n 0 (by decide), i64n 3 (by decide), (isI_nil _).st, (J1.below box_below).st⟩
  have hd : [m0].map Tm.d = [⟨0, 3, [], [5, 7]⟩] := by rw [hm0]; rfl
  have hsh : Short [m0] := fun m hm => by rw [List.mem_singleton] at hm; subst hm hm0; exact ⟨by show 0 ≤ 1048576; decide, by show 2 ≤ 1048576; decide⟩
  have B2 := below_size B1 B1.size (box_below (o := .cells #[.int .i64 0, .int .i64 3, .slice none 0 0, .slice (some ⟨w.heap.size, 0, none⟩) 2 2] 31))
  have hsz2 : ((w.alloc (.cells #[.int .i64 5, .int .i64 7] 2)).alloc (.cells #[.int .i64 0, .int .i64 3, .slice none 0 0, .slice (some ⟨w.heap.size, 0, none⟩) 2 2] 31)).heap.size = w.heap.size + 1 + 1 := by simp
  have step : ∀ (W : World) (bs : Int) (_ : I64 bs), IsTs W (some ⟨w.heap.size + 1, 0, none⟩) 1 1 [m0] → Calls Try.prog 10 #[.slice (some ⟨w.heap.size + 1, 0, none⟩) 1 1, .agg #[.int .i64 bs, .int .i64 0, .slice (some ⟨W.heap.size, 0, none⟩) 1 1, .slice none 0 0]] (W.alloc (.cells #[.int .i64 7] 2)) fun e w' => e = .returned (chkV (chkR [⟨0, 3, [], [5, 7]⟩] bs [7] [])) ∧ Below W.heap.size W w' := by
    intro W bs hb hT
    have J7 := isI_lit W #[.int .i64 7] [7] 1 rfl rfl (by decide) i7
    have := check_any (m := ⟨bs, 0, some ⟨W.heap.size, 0, none⟩, 1, 1, none, 0, 0, [7], []⟩) (hT.below (box_below (o := .cells #[.int .i64 7] 2))) (by decide) hsh ⟨hb, i64n 0 (by decide), J7.st, (isI_nil _).st⟩ (by show 1 ≤ 1048576; decide) (by show 0 ≤ 1048576; decide)
    rw [hd] at this
    refine this.mono ?_
    rintro e w' ⟨rfl, B⟩
    exact ⟨rfl, below_size box_below box_below.size B⟩
  have s1 := step _ 2 (i64n 2 (by decide)) hD
  rw [hsz2, chk7] at s1
  clear J1 hd
  unfold chkV at s1
  go_enter Try.func17, Try.ntmps17
  go_wp2_with fail
  refine s1.mono ?_
  rintro e w3 ⟨rfl, B3⟩
  rw [← hsz2] at B3
  have B4 := below_size B2 B2.size B3
  have s2 := step w3 3 (i64n 3 (by decide)) (hD.below B3)
  rw [chk0] at s2
  unfold chkV at s2
  clear hD B3 s1 B2 B1 hsz2
  dsimp only [Option.getD, eN, Option.isSome, if_true]
  go_wp2_with fail
  refine s2.mono ?_
  rintro e w5 ⟨rfl, B5⟩
  have B6 := below_size B4 B4.size B5
  dsimp only [Option.getD, eN, Option.isSome, if_false]
  go_wp2
  go_ret
  exact ⟨rfl, B6⟩
end Go.Proofs.Ytigmpmichhghdaa
