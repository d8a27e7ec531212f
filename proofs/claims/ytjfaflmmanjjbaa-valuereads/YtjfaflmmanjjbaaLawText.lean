/- The walk of lapidarylaw01.WireText. -/
import Derived.Test.YtjfaflmmanjjbaaLent
import Derived.Test.YtjfaflmmanjjbaaReadT
namespace Go.Proofs.Ytjfaflmmanjjbaa
open Go.RowKit
set_option maxRecDepth 100000

theorem own_below {w w' : World} {base e m n : Nat} {v : Value} {xs : List Value} (h : w.ownsRow base e m v n xs) (hb : Below w.heap.size w w') : w'.ownsRow base e m v n xs := by
  obtain ⟨h1, h2⟩ := h
  refine ⟨h1, ?_⟩
  rcases h2 with h2 | ⟨g, cap, cur, hv, hg, hh, h3⟩
  · exact .inl h2
  · exact .inr ⟨g, cap, cur, hv, hg, (hb.block g (lt_of_block hh)).trans hh, h3⟩
theorem OwnB.below {w w' : World} {base : Nat} {v : Value} {xs : List Int} (h : OwnB w base v xs) (hb : Below w.heap.size w w') : OwnB w' base v xs :=
  ⟨own_below h.1 hb, by obtain ⟨_, a, cap, hv, hB⟩ := h; exact ⟨a, cap, hv, hB.below hb⟩⟩

/-- ReadText, its answer written out. -/
theorem readT_to {a : Option Addr} {len cap k e3 : Nat} {xs ys : List Int} {w : World} (h : IsB w a len cap xs) (hl : len ≤ 140737488500000) (hr : Hid (rtx xs = (ys, k, e3))) :
    Calls Try.prog 72 #[.slice a len cap] w fun e w' => ∃ av cv, e = .returned (.tuple #[.slice av ys.length cv, .int .i64 (k : Int), .int .i64 (e3 : Int)]) ∧ OwnB w' w.heap.size (.slice av ys.length cv) ys ∧ IsB w' av ys.length cv ys ∧ Below w.heap.size w w' := by
  refine (readT_any h hl).mono ?_
  rintro e w' ⟨⟨v, he, hO⟩, hb⟩
  rw [hr.out] at he hO
  obtain ⟨h1, av, cv, rfl, hB⟩ := hO
  exact ⟨av, cv, he, ⟨h1, av, cv, rfl, hB⟩, hB, hb⟩
theorem rreadT_to {a : Option Addr} {len cap k e3 : Nat} {xs ys : List Int} {w : World} (h : IsB w a len cap xs) (hl : len ≤ 140737488500000) (hr : Hid (rtx xs = (ys, k, e3))) :
    Calls Try.prog 74 #[.slice a len cap] w fun e w' => ∃ av cv, e = .returned (.tuple #[.slice av ys.length cv, .int .i64 (k : Int), .int .i64 (e3 : Int)]) ∧ OwnB w' w.heap.size (.slice av ys.length cv) ys ∧ IsB w' av ys.length cv ys ∧ Below w.heap.size w w' := by
  refine (rreadT_any h hl).mono ?_
  rintro e w' ⟨⟨v, he, hO⟩, hb⟩
  rw [hr.out] at he hO
  obtain ⟨h1, av, cv, rfl, hB⟩ := hO
  exact ⟨av, cv, he, ⟨h1, av, cv, rfl, hB⟩, hB, hb⟩
theorem text_to {a : Option Addr} {len cap : Nat} {xs : List Int} {w : World} (h : IsB w a len cap xs) (h2 : len ≤ 60000) :
    Calls Try.prog 57 #[.slice a len cap] w fun e w' => ∃ av cv, e = .returned (.tuple #[.slice av (textB xs).length cv, .int .i64 0]) ∧ IsB w' av (textB xs).length cv (textB xs) ∧ Below w.heap.size w w' := by
  refine (text_ok h h2).mono ?_
  rintro e w' ⟨v, rfl, ⟨h1, av, cv, rfl, hB⟩, hb⟩
  exact ⟨av, cv, rfl, hB, hb⟩
theorem rtext_to {a : Option Addr} {len cap : Nat} {xs : List Int} {w : World} (h : IsB w a len cap xs) (h2 : len ≤ 60000) :
    Calls Try.prog 59 #[.slice a len cap] w fun e w' => ∃ av cv, e = .returned (.tuple #[.slice av (textB xs).length cv, .int .i64 0]) ∧ IsB w' av (textB xs).length cv (textB xs) ∧ Below w.heap.size w w' := by
  refine (rtext_ok h h2).mono ?_
  rintro e w' ⟨v, rfl, ⟨h1, av, cv, rfl, hB⟩, hb⟩
  exact ⟨av, cv, rfl, hB, hb⟩

theorem rtx_text (xs ys : List Int) (h : xs.length ≤ 60000) : rtx (textB xs ++ ys) = (xs, (textB xs).length, 0) := by
  have hr := rd_uvar xs.length (by omega) (xs ++ ys)
  have hu := uvar_length xs.length (by omega)
  have e : textB xs ++ ys = uvar xs.length ++ (xs ++ ys) := by unfold textB; rw [List.append_assoc]
  rw [e, rtx_fine _ xs.length (usz xs.length) hr (by omega) (by simp; omega), textB_len xs h]
  rw [← hu, List.drop_left, List.take_left]

end Go.Proofs.Ytjfaflmmanjjbaa
