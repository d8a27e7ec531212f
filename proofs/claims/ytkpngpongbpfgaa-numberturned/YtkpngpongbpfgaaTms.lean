/- Products of any two complex numbers. -/
import Derived.Test.YtkpngpongbpfgaaNan
namespace Go.Proofs.Ytkpngpongbpfgaa
open Go.RowKit
set_option maxRecDepth 100000
structure TimesR (a b c d r i : Nat) : Prop where
  ex : ∃ p1 p2 p3 p4, FR .mul a c p1 ∧ FR .mul b d p2 ∧ FR .sub p1 p2 r ∧ FR .mul a d p3 ∧ FR .mul b c p4 ∧ FR .add p3 p4 i
theorem timesR_turn {a b c d r i r' i' : Nat} (h : TimesR a b c d r i) (h' : TimesR c d a b r' i') : Alike r r' ∧ Alike i i' := by
  obtain ⟨p1, p2, p3, p4, h1, h2, h3, h4, h5, h6⟩ := h.ex
  obtain ⟨q1, q2, q3, q4, g1, g2, g3, g4, g5, g6⟩ := h'.ex
  have A1 := fr_alike h1 (fr_comm (.inr rfl) g1) (.inl rfl) (.inl rfl)
  have A2 := fr_alike h2 (fr_comm (.inr rfl) g2) (.inl rfl) (.inl rfl)
  have A3 := fr_alike h4 (fr_comm (.inr rfl) g5) (.inl rfl) (.inl rfl)
  have A4 := fr_alike h5 (fr_comm (.inr rfl) g4) (.inl rfl) (.inl rfl)
  exact ⟨fr_alike h3 g3 A1 A2, fr_alike h6 (fr_comm (.inl rfl) g6) A3 A4⟩
set_option maxHeartbeats 1000000 in
theorem times_gen (a b c d : Nat) (w : World) : Calls Try.prog 54 #[.complex .f64 a b, .complex .f64 c d] w fun e w' => ∃ r i, e = .returned (.complex .f64 r i) ∧ TimesR a b c d r i ∧ Below w.heap.size w w' := by
  have g1 := fun (x y : Nat) (w : World) => run_fl .mul (by simp) 25 x y w
  have g2 := fun (x y : Nat) (w : World) => run_fl .sub (by simp) 25 x y w
  have g3 := fun (x y : Nat) (w : World) => run_fl .add (by simp) 25 x y w
  go_enter Try.func54, Try.ntmps54
  go_wp2
  go_ret
  refine ⟨_, _, rfl, ⟨_, _, _, _, flV_FR _ _ _ _, flV_FR _ _ _ _, flV_FR _ _ _ _, flV_FR _ _ _ _, flV_FR _ _ _ _, flV_FR _ _ _ _⟩, ?_⟩
  exact flW_below (flW_below (flW_below (flW_below (flW_below (flW_below (Below.refl _ _))))))
end Go.Proofs.Ytkpngpongbpfgaa
