/- The fixed calls. -/
import Derived.Test.YtlhmeipbcioncaaDoorTak
import Derived.Test.YtlhmeipbcioncaaDoorSam
import Derived.Test.YtlhmeipbcioncaaDoorRep
namespace Go.Proofs.YtlhmeipbcioncaaDoor
open Go.RowKit
set_option maxRecDepth 100000
def srcA : List Int := [97, 32, 97, 116, 58, 32, 51, 32, 112, 117, 116, 58, 32, 35, 98, 58, 99]
def tokA : List Tk := [⟨1, [97], 0⟩, ⟨2, [97, 116, 58], 2⟩, ⟨4, [51], 6⟩, ⟨2, [112, 117, 116, 58], 8⟩, ⟨6, [98, 58, 99], 13⟩, ⟨0, [], 17⟩]
theorem lexA : lexR rdB0 0 srcA = .ok tokA := by kernel_rfl
theorem lexB : lexR rdB0 0 [51, 32, 36] = .error 2 := by kernel_rfl
theorem readA (w : World) : Calls Tryd.prog 9 #[.string ⟨#[97, 32, 97, 116, 58, 32, 51, 32, 112, 117, 116, 58, 32, 35, 98, 58, 99]⟩] w fun e w' => ∃ a cap, e = .returned (.tuple #[.slice a 6 cap, .int .i64 0, .int .i64 0]) ∧ IsT w' a 6 cap tokA ∧ Below w.heap.size w w' := by
  refine (read_lex srcA w (by decide) (by decide)).mono ?_
  rintro e w' ⟨h, hB⟩
  unfold RdP at h
  rw [if_neg (by decide), lexA] at h
  obtain ⟨a, cap, rfl, hT⟩ := h
  exact ⟨a, cap, rfl, hT, hB⟩
theorem readB (w : World) : Calls Tryd.prog 9 #[.string ⟨#[51, 32, 36]⟩] w fun e w' => e = .returned (.tuple #[.slice none 0 0, .int .i64 2, .int .i64 20]) ∧ Below w.heap.size w w' := by
  refine (read_lex [51, 32, 36] w (by decide) (by decide)).mono ?_
  rintro e w' ⟨h, hB⟩
  unfold RdP at h
  rw [if_neg (by decide), lexB] at h
  exact ⟨h, hB⟩
theorem quoteA (w : World) : Calls Tryd.prog 14 #[.string ⟨#[105, 116, 39, 115]⟩] w fun e w' => e = .returned (.string ⟨#[39, 105, 116, 39, 39, 115, 39]⟩) ∧ Below w.heap.size w w' := quote_any [105, 116, 39, 115] w (by decide) (by decide)
theorem wantA {w : World} {g : Nat} (h : w.heap[g]? = some (.cells #[.int .i64 1, .string ⟨#[97]⟩, .int .i64 0, .int .i64 2, .string ⟨#[97, 116, 58]⟩, .int .i64 2, .int .i64 4, .string ⟨#[51]⟩, .int .i64 6, .int .i64 2, .string ⟨#[112, 117, 116, 58]⟩, .int .i64 8, .int .i64 6, .string ⟨#[98, 58, 99]⟩, .int .i64 13, .int .i64 0, .string ⟨#[]⟩, .int .i64 17] 44)) : IsT w (some ⟨g, 0, none⟩) 6 6 tokA := by
  refine ⟨rfl, Nat.le_refl _, by decide, fun h => absurd h (by simp), fun _ => ⟨g, 0, rfl, fun i hi => ?_⟩⟩
  match i, hi with
  | 0, _ => exact ⟨by simp [World.cell?, h]; rfl, by simp [World.cell?, h]; rfl, by simp [World.cell?, h]; rfl⟩
  | 1, _ => exact ⟨by simp [World.cell?, h]; rfl, by simp [World.cell?, h]; rfl, by simp [World.cell?, h]; rfl⟩
  | 2, _ => exact ⟨by simp [World.cell?, h]; rfl, by simp [World.cell?, h]; rfl, by simp [World.cell?, h]; rfl⟩
  | 3, _ => exact ⟨by simp [World.cell?, h]; rfl, by simp [World.cell?, h]; rfl, by simp [World.cell?, h]; rfl⟩
  | 4, _ => exact ⟨by simp [World.cell?, h]; rfl, by simp [World.cell?, h]; rfl, by simp [World.cell?, h]; rfl⟩
  | 5, _ => exact ⟨by simp [World.cell?, h]; rfl, by simp [World.cell?, h]; rfl, by simp [World.cell?, h]; rfl⟩
set_option maxHeartbeats 4000000 in
theorem known_true (w : World) : Calls Tryd.prog 13 #[] w fun e w' => e = .returned (.bool true) ∧ Below w.heap.size w w' := by
  go_enter Tryd.func13, Tryd.ntmps13
  go_wp2_with fail
  refine (readA _).mono ?_
  rintro e w1 ⟨a, cap, rfl, hT, hB⟩
  go_wp2_with fail
  refine (readB _).mono ?_
  rintro e w2 ⟨rfl, hB2⟩
  replace hT := hT.below hB2
  replace hB := below_size hB (Nat.le_refl _) hB2
  clear hB2
  go_wp2_with fail
  have hW := wantA (newT w2 _)
  replace hT := hT.below (boxT (o := .cells #[.int .i64 1, .string ⟨#[97]⟩, .int .i64 0, .int .i64 2, .string ⟨#[97, 116, 58]⟩, .int .i64 2, .int .i64 4, .string ⟨#[51]⟩, .int .i64 6, .int .i64 2, .string ⟨#[112, 117, 116, 58]⟩, .int .i64 8, .int .i64 6, .string ⟨#[98, 58, 99]⟩, .int .i64 13, .int .i64 0, .string ⟨#[]⟩, .int .i64 17] 44))
  replace hB := below_size hB (Nat.le_refl _) (boxT (o := .cells #[.int .i64 1, .string ⟨#[97]⟩, .int .i64 0, .int .i64 2, .string ⟨#[97, 116, 58]⟩, .int .i64 2, .int .i64 4, .string ⟨#[51]⟩, .int .i64 6, .int .i64 2, .string ⟨#[112, 117, 116, 58]⟩, .int .i64 8, .int .i64 6, .string ⟨#[98, 58, 99]⟩, .int .i64 13, .int .i64 0, .string ⟨#[]⟩, .int .i64 17] 44))
  generalize w2.alloc (.cells #[.int .i64 1, .string ⟨#[97]⟩, .int .i64 0, .int .i64 2, .string ⟨#[97, 116, 58]⟩, .int .i64 2, .int .i64 4, .string ⟨#[51]⟩, .int .i64 6, .int .i64 2, .string ⟨#[112, 117, 116, 58]⟩, .int .i64 8, .int .i64 6, .string ⟨#[98, 58, 99]⟩, .int .i64 13, .int .i64 0, .string ⟨#[]⟩, .int .i64 17] 44) = w3 at *
  generalize w2.heap.size = g at *
  refine (taken_any hT (by decide)).mono ?_
  rintro e w4 ⟨a4, cap4, rfl, hT4, hB4⟩
  replace hW := hW.below hB4
  replace hB := below_size hB (Nat.le_refl _) hB4
  clear hB4
  have e6 : tokA.length = 6 := rfl
  rw [e6] at hT4 ⊢
  go_wp2_with fail
  refine (same_toks hT4 hW (by decide)).mono ?_
  rintro e w5 ⟨rfl, hB5⟩
  replace hB := below_size hB (Nat.le_refl _) hB5
  clear hB5
  go_wp2_with fail
  refine (quoteA _).mono ?_
  rintro e w6 ⟨rfl, hB6⟩
  replace hB := below_size hB (Nat.le_refl _) hB6
  go_wp2
  go_ret
  exact ⟨rfl, hB⟩
end Go.Proofs.YtlhmeipbcioncaaDoor
