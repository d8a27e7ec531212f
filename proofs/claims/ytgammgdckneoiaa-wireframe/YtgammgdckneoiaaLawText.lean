/- The walk of lapidarylaw01.WireText. -/
import Derived.Test.YtgammgdckneoiaaLawSum
import Derived.Test.YtgammgdckneoiaaReadT
import Derived.Test.YtgammgdckneoiaaOpen
namespace Go.Proofs.Ytgammgdckneoiaa
open Go.RowKit

theorem own_below {w w' : World} {base e m n : Nat} {v : Value} {xs : List Value} (h : w.ownsRow base e m v n xs) (hb : Below w.heap.size w w') : w'.ownsRow base e m v n xs := by
  obtain ⟨h1, h2⟩ := h
  refine ⟨h1, ?_⟩
  rcases h2 with h2 | ⟨g, cap, cur, hv, hg, hh, h3⟩
  · exact .inl h2
  · exact .inr ⟨g, cap, cur, hv, hg, (hb.block g (lt_of_block hh)).trans hh, h3⟩
theorem OwnB.below {w w' : World} {base : Nat} {v : Value} {xs : List Int} (h : OwnB w base v xs) (hb : Below w.heap.size w w') : OwnB w' base v xs :=
  ⟨own_below h.1 hb, by obtain ⟨_, a, cap, hv, hB⟩ := h; exact ⟨a, cap, hv, hB.below hb⟩⟩

/-- ReadText, its answer written out. -/
theorem readT_to {a : Option Addr} {len cap k e3 : Nat} {xs ys : List Int} {w : World} (h : IsB w a len cap xs) (hl : len ≤ 140737488500000) (hr : Hid (rtx xs = (ys, k, e3))) :
    Calls Try.prog 22 #[.slice a len cap] w fun e w' => ∃ av cv, e = .returned (.tuple #[.slice av ys.length cv, .int .i64 (k : Int), .int .i64 (e3 : Int)]) ∧ OwnB w' w.heap.size (.slice av ys.length cv) ys ∧ IsB w' av ys.length cv ys ∧ Below w.heap.size w w' := by
  refine (readT_any h hl).mono ?_
  rintro e w' ⟨⟨v, he, hO⟩, hb⟩
  rw [hr.out] at he hO
  obtain ⟨h1, av, cv, rfl, hB⟩ := hO
  exact ⟨av, cv, he, ⟨h1, av, cv, rfl, hB⟩, hB, hb⟩
theorem rreadT_to {a : Option Addr} {len cap k e3 : Nat} {xs ys : List Int} {w : World} (h : IsB w a len cap xs) (hl : len ≤ 140737488500000) (hr : Hid (rtx xs = (ys, k, e3))) :
    Calls Try.prog 23 #[.slice a len cap] w fun e w' => ∃ av cv, e = .returned (.tuple #[.slice av ys.length cv, .int .i64 (k : Int), .int .i64 (e3 : Int)]) ∧ OwnB w' w.heap.size (.slice av ys.length cv) ys ∧ IsB w' av ys.length cv ys ∧ Below w.heap.size w w' := by
  refine (rreadT_any h hl).mono ?_
  rintro e w' ⟨⟨v, he, hO⟩, hb⟩
  rw [hr.out] at he hO
  obtain ⟨h1, av, cv, rfl, hB⟩ := hO
  exact ⟨av, cv, he, ⟨h1, av, cv, rfl, hB⟩, hB, hb⟩
theorem text_to {a : Option Addr} {len cap : Nat} {xs : List Int} {w : World} (h : IsB w a len cap xs) (h2 : len ≤ 60000) :
    Calls Try.prog 20 #[.slice a len cap] w fun e w' => ∃ av cv, e = .returned (.tuple #[.slice av (textB xs).length cv, .int .i64 0]) ∧ IsB w' av (textB xs).length cv (textB xs) ∧ Below w.heap.size w w' := by
  refine (text_ok h h2).mono ?_
  rintro e w' ⟨v, rfl, ⟨h1, av, cv, rfl, hB⟩, hb⟩
  exact ⟨av, cv, rfl, hB, hb⟩
theorem rtext_to {a : Option Addr} {len cap : Nat} {xs : List Int} {w : World} (h : IsB w a len cap xs) (h2 : len ≤ 60000) :
    Calls Try.prog 21 #[.slice a len cap] w fun e w' => ∃ av cv, e = .returned (.tuple #[.slice av (textB xs).length cv, .int .i64 0]) ∧ IsB w' av (textB xs).length cv (textB xs) ∧ Below w.heap.size w w' := by
  refine (rtext_ok h h2).mono ?_
  rintro e w' ⟨v, rfl, ⟨h1, av, cv, rfl, hB⟩, hb⟩
  exact ⟨av, cv, rfl, hB, hb⟩

theorem rtx_text (xs ys : List Int) (h : xs.length ≤ 60000) : rtx (textB xs ++ ys) = (xs, (textB xs).length, 0) := by
  have hr := rd_uvar xs.length (by omega) (xs ++ ys)
  have hu := uvar_length xs.length (by omega)
  have e : textB xs ++ ys = uvar xs.length ++ (xs ++ ys) := by unfold textB; rw [List.append_assoc]
  rw [e, rtx_fine _ xs.length (usz xs.length) hr (by omega) (by simp; omega), textB_len xs h]
  rw [← hu, List.drop_left, List.take_left]

set_option maxRecDepth 100000 in
set_option maxHeartbeats 4000000 in
theorem wireText_long {a b : Option Addr} {la ca lb cb : Nat} {xs ys : List Int} {w : World} (ht : IsB w a la ca xs) (h : IsB w b lb cb ys) (hl : cb ≤ 140737488351232) (hlong : 60000 < la) :
    Calls Try.prog 5 #[.slice a la ca, .slice b lb cb] w fun e w' => e = .returned (.bool true) ∧ Below w.heap.size w w' := by
  have hl' : lb ≤ 140737488351232 := Nat.le_trans h.room hl
  have hla : la ≤ maxLen := Nat.le_trans ht.room ht.most
  obtain ⟨zs, k, e3, hr⟩ : ∃ zs k e3, Hid (rtx ys = (zs, k, e3)) := ⟨_, _, _, rfl⟩
  go_enter Try.func5, Try.ntmps5
  go_wp2_with fail
  refine (lent_any h hl').mono ?_
  rintro e w1 ⟨rfl, hB, hb1⟩
  have h1 := h.below hb1
  have hf := hB.front (ys := pad) h.size
  go_wp2_with fail
  refine (text_long a la ca w1 hlong hla).mono ?_
  rintro e w2 ⟨rfl, rfl⟩
  go_wp2_with fail
  refine (rtext_long a la ca w1 hlong hla).mono ?_
  rintro e w2 ⟨rfl, rfl⟩
  go_wp2_with fail
  refine (readT_to hf (by omega) hr).mono ?_
  rintro e w2 ⟨av, cv, rfl, hO2, hV2, hb2⟩
  go_wp2_with fail
  refine (rreadT_to (h1.below hb2) (by omega) hr).mono ?_
  rintro e w3 ⟨av', cv', rfl, hO3, hV3, hb3⟩
  have s0 := (isB_nil w3).str
  have s1 := (hV2.below hb3).str
  have s2 := hV3.str
  have hO2' := hO2.below hb3
  have hbb : Below w1.heap.size w1 w3 := below_size hb2 (Nat.le_refl _) hb3
  clear hO3 hV2 hV3 hO2 hf
  go_wp2_with fail
  refine (spoil_own hO2' (Nat.le_trans hb2.size hb3.size)).mono ?_
  rintro e w4 ⟨rfl, hb4⟩
  have hb14 := hbb.trans hb4
  have hB4 := hB.below hb14
  have h4 := h1.below hb14
  have hbw := below_size hb1 (Nat.le_refl _) hb14
  clear hO2' s0 s1 s2 hbb hb4 hb2 hb3 hB h1
  go_wp2_with fail
  refine (kept_true hB4 h4 hl').mono ?_
  rintro e w5 ⟨rfl, k5, rfl⟩
  have hB5 := hB4.drewN k5
  have h5 := h4.drewN k5
  go_wp2_with fail
  refine (kept_true hB5 h5 hl').mono ?_
  rintro e w5 ⟨rfl, k6, rfl⟩
  have hbw6 := below_drewN hbw (k5 + k6)
  clear hB4 h4 hB5 h5 hb14 hb1
  go_wp2_with fail
  refine (known_any _).mono ?_
  rintro e w6 ⟨rfl, hb6⟩
  go_wp2
  go_ret
  exact ⟨rfl, below_size hbw6 (Nat.le_refl _) hb6⟩
end Go.Proofs.Ytgammgdckneoiaa
