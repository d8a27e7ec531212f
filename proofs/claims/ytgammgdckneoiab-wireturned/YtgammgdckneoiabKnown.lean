/- lapidarylaw01.known: the fixed calls come to what the document says. -/
import Derived.Test.YtgammgdckneoiabFrame
import Derived.Lib.SlBytesConst
namespace Go.Proofs.Ytgammgdckneoiab
open Go.RowKit

theorem frame_a : frameB [97] = [0, 0, 0, 1, 232, 183, 190, 67, 97] := by decide +kernel
theorem crc_digits : crc [49, 50, 51, 52, 53, 54, 55, 56, 57] = 3421780262 := by decide +kernel
theorem uvar_300 : uvar 300 = [172, 2] := by decide +kernel
theorem usz_300 : usz 300 = 2 := by decide +kernel

theorem uint_300 (w : World) :
    Calls Try.prog 11 #[.int .u64 300] w fun e w' => e = .returned (.slice (some ⟨w.heap.size, 0, none⟩) 2 2) ∧ IsB w' (some ⟨w.heap.size, 0, none⟩) 2 2 [172, 2] ∧ Below w.heap.size w w' := by
  refine (uint_any 300 w (by decide)).mono ?_
  rintro e w' ⟨rfl, hown, hbel⟩
  rw [usz_300, uvar_300] at hown
  exact ⟨by rw [usz_300], isB_own hown (by decide), hbel⟩
theorem frame_lit (a : Option Addr) (w : World) (h : IsB w a 1 1 [97]) :
    Calls Try.prog 4 #[.slice a 1 1] w fun e w' => ∃ g c, e = .returned (.tuple #[.slice (some ⟨g, 0, none⟩) 9 c, .int .i64 0]) ∧
      IsB w' (some ⟨g, 0, none⟩) 9 c [0, 0, 0, 1, 232, 183, 190, 67, 97] ∧ Below w.heap.size w w' := by
  refine (frame_ok a 1 1 [97] w h (by decide) (by decide)).mono ?_
  rintro e w' ⟨g, c, rfl, hown, hbel⟩
  rw [frame_a] at hown
  exact ⟨g, c, rfl, isB_own hown (by decide), hbel⟩
theorem fold_m1 (w : World) : Calls Try.prog 12 #[.int .i64 (-1)] w fun e w' => e = .returned (.int .u64 1) ∧ w = w' := by
  refine (fold_any (-1) w (by decide) (by decide)).mono ?_
  rintro e w' ⟨rfl, rfl⟩
  exact ⟨rfl, rfl⟩
theorem sum_digits (a : Option Addr) (w : World) (h : IsB w a 9 9 [49, 50, 51, 52, 53, 54, 55, 56, 57]) :
    Calls Try.prog 9 #[.slice a 9 9] w fun e w' => e = .returned (.int .u32 3421780262) ∧ w = w' := by
  refine (sum_any h).mono ?_
  rintro e w' ⟨rfl, rfl⟩
  exact ⟨ret_int (by rw [crc_digits]; rfl), rfl⟩
/-- A literal's bytes. -/
theorem isB_lit (w : World) (C : Array Value) (xs : List Int) (n : Nat) (hn : xs.length = n) (hm : n ≤ maxLen) (hC : C = (xs.map (Value.int .u8)).toArray) (hb : ∀ x ∈ xs, 0 ≤ x ∧ x < 256) (mk : Nat × Nat) :
    IsB (w.alloc (.cells C 5 mk)) (some ⟨w.heap.size, 0, none⟩) n n xs := by
  refine ⟨hn, Nat.le_refl _, hm, by simp, hb, fun _ => ⟨_, _, rfl, fun i hi => ?_⟩⟩
  rw [World.cell?_alloc_mark, hC]
  simp [show i < xs.length by omega]

set_option maxHeartbeats 1000000 in
theorem known_any (w : World) :
    Calls Try.prog 5 #[] w fun e w' => e = .returned (.bool true) ∧ Below w.heap.size w w' := by
  have kc := fun (w : World) (C : Array Value) (n c : Nat) => Lib.run_convert_bytes_const (P := Try.prog) w 22 5 C n c Try.underlying22 Try.underlying5
  go_enter Try.func5, Try.ntmps5
  go_wp2_with fail
  refine (frame_lit _ _ (isB_lit w _ [97] 1 rfl (by decide) rfl (by decide) _)).mono ?_
  rintro e w1 ⟨g, c, rfl, hB1, hbel1⟩
  have hb1 := ((Below.refl _ w).alloc (Nat.le_refl _) (.cells #[.int .u8 97] 5 (1, 2))).trans (hbel1.mono (by simp))
  clear hbel1
  go_wp2_with fail
  refine (uint_300 _).mono ?_
  rintro e w2 ⟨rfl, hB2, hbel2⟩
  have hs2 := hB2.str
  rw [show strOfNums [172, 2] = ⟨#[172, 2]⟩ from rfl] at hs2
  have hB3 := hB1.below hbel2
  have hb2 := hb1.trans (hbel2.mono hb1.size)
  clear hB2 hbel2 hB1 hb1
  go_wp2_with fail
  refine (fold_m1 _).mono ?_
  rintro e w3 ⟨rfl, rfl⟩
  go_wp2_with fail
  refine (sum_digits _ _ (isB_lit w2 _ [49, 50, 51, 52, 53, 54, 55, 56, 57] 9 rfl (by decide) rfl (by decide) _)).mono ?_
  rintro e w3 ⟨rfl, rfl⟩
  have hs3 := (hB3.below ((Below.refl _ w2).alloc (Nat.le_refl _) (.cells #[.int .u8 49, .int .u8 50, .int .u8 51, .int .u8 52, .int .u8 53, .int .u8 54, .int .u8 55, .int .u8 56, .int .u8 57] 5 (9, 10)))).str
  rw [show strOfNums [0, 0, 0, 1, 232, 183, 190, 67, 97] = ⟨#[0, 0, 0, 1, 232, 183, 190, 67, 97]⟩ from rfl] at hs3
  clear hs2
  go_wp2
  go_ret
  exact ⟨rfl, hb2.alloc hb2.size _⟩
end Go.Proofs.Ytgammgdckneoiab
