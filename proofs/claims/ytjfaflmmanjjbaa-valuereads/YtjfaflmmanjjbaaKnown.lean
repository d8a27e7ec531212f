/- lapidarylaw01.known: the fixed calls come to what the document says. -/
import Derived.Test.YtjfaflmmanjjbaaCat
import Derived.Test.YtjfaflmmanjjbaaApp
import Derived.Lib.SlBytesConst
namespace Go.Proofs.Ytjfaflmmanjjbaa
open Go.RowKit
set_option maxRecDepth 100000
theorem own_mono {w : World} {b b' e n m : Nat} {v : Value} {xs : List Value} (h : w.ownsRow b' e m v n xs) (hb : b ≤ b') : w.ownsRow b e m v n xs := by
  obtain ⟨h1, h2⟩ := h
  refine ⟨h1, ?_⟩
  rcases h2 with h2 | ⟨g, cap, cur, hv, hg, h3⟩
  · exact .inl h2
  · exact .inr ⟨g, cap, cur, hv, Nat.le_trans hb hg, h3⟩

theorem uvar_300 : uvar 300 = [172, 2] := by decide +kernel
theorem usz_300 : usz 300 = 2 := by decide +kernel

theorem uint_300 (w : World) :
    Calls Try.prog 64 #[.int .u64 300] w fun e w' => e = .returned (.slice (some ⟨w.heap.size, 0, none⟩) 2 2) ∧ IsB w' (some ⟨w.heap.size, 0, none⟩) 2 2 [172, 2] ∧ Below w.heap.size w w' := by
  refine (uint_any 300 w (by decide)).mono ?_
  rintro e w' ⟨rfl, hown, hbel⟩
  rw [usz_300, uvar_300] at hown
  exact ⟨by rw [usz_300], isB_own hown (by decide), hbel⟩
theorem fold_m1 (w : World) : Calls Try.prog 69 #[.int .i64 (-1)] w fun e w' => e = .returned (.int .u64 1) ∧ w = w' := by
  refine (fold_any (-1) w (by decide) (by decide)).mono ?_
  rintro e w' ⟨rfl, rfl⟩
  exact ⟨rfl, rfl⟩
/-- A literal's bytes. -/
theorem isB_lit (w : World) (C : Array Value) (xs : List Int) (n : Nat) (hn : xs.length = n) (hm : n ≤ maxLen) (hC : C = (xs.map (Value.int .u8)).toArray) (hb : ∀ x ∈ xs, 0 ≤ x ∧ x < 256) (mk : Nat × Nat) :
    IsB (w.alloc (.cells C 5 mk)) (some ⟨w.heap.size, 0, none⟩) n n xs := by
  refine ⟨hn, Nat.le_refl _, hm, by simp, hb, fun _ => ⟨_, _, rfl, fun i hi => ?_⟩⟩
  rw [World.cell?_alloc_mark, hC]
  simp [show i < xs.length by omega]

end Go.Proofs.Ytjfaflmmanjjbaa
