/- LexPlain: the law's walk. -/
import Derived.Test.YtlhmeipbcioncaaDoorLwP
import Derived.Test.YtlhmeipbcioncaaDoorRxP
namespace Go.Proofs.YtlhmeipbcioncaaDoor
open Go.RowKit
set_option maxRecDepth 100000
theorem lex_quote (rd : List Int → Bool) (ss : List Int) (h : ss.length ≤ 1024) : lexR rd 0 (quoteL ss) = .ok [⟨5, ss, 0⟩, ⟨0, [], (quoteL ss).length⟩] := by
  have hq := qtW_quote ss [] (by decide) h
  rw [List.append_nil] at hq
  have hw : word rd (quoteL ss) = some (5, ss, (quoteL ss).length) := by
    have e0 : (quoteL ss).getD 0 0 = 39 := rfl
    unfold word
    simp only
    rw [e0, if_neg (by decide), if_neg (by decide), if_pos rfl, hq]
    rfl
  have e : quoteL ss = 39 :: (dbl ss ++ [39]) := rfl
  rw [e] at hw
  rw [e, lexR_word rd 0 (by decide) (by decide) hw, ← e, List.drop_length, lexR_nil, Nat.zero_add]
  rfl
set_option maxHeartbeats 8000000 in
theorem plain_law (ss : List Int) (w : World) (hb : ∀ x ∈ ss, 0 ≤ x ∧ x < 256) (hm : ss.length ≤ 1048576) : Calls Tryd.prog 4 #[.string (strOfNums ss)] w fun e w' => e = .returned (.bool true) ∧ Below w.heap.size w w' := by
  have hsz : (strOfNums ss).size = ss.length := strOfNums_size ss
  have mixed : Tryd.prog.follows .mixedOrders = true := by kernel_rfl
  have h14 := fun w => quote_any ss w hb (by omega)
  have h15 := fun w => rquote_is ss w hb (by omega)
  have h16 := fun w => plainName_is ss w hb (by omega)
  have h17 := fun w => rplainName_is ss w hb (by omega)
  have h18 := fun w => plainSymbol_is ss w hb
  have h19 := fun w => rplainSymbol_is ss w hb (by omega)
  have hql := quote_len ss
  have hqb := quote_bytes hb
  have hlex := lex_quote rdB0 ss
  generalize plainN ss = N at *
  generalize plainS ss = S at *
  generalize quoteL ss = q at *
  go_enter Tryd.func4, Tryd.ntmps4
  go_wp2_with fail
  refine (h14 _).mono ?_
  rintro e w1 ⟨rfl, hB⟩
  go_wp2_with fail
  refine (h15 _).mono ?_
  rintro e w2 ⟨rfl, hB2⟩
  replace hB := below_size hB (Nat.le_refl _) hB2
  clear hB2
  go_wp2_with (first | (go_at_call 16; refine (h16 _).mono ?_; rintro e w' ⟨rfl, rfl⟩) | (go_at_call 17; refine (h17 _).mono ?_; rintro e w' ⟨rfl, rfl⟩))
  refine (h18 _).mono ?_
  rintro e w3 ⟨rfl, hB3⟩
  replace hB := below_size hB (Nat.le_refl _) hB3
  clear hB3
  by_cases hl : 1024 < ss.length
  · have hlI : (1024 : Int) < (ss.length : Int) := by omega
    go_wp2_with fail
    refine (h19 _).mono ?_
    rintro e w4 ⟨rfl, hB4⟩
    replace hB := below_size hB (Nat.le_refl _) hB4
    clear hB4
    go_wp2_with fail
    refine (known_true _).mono ?_
    rintro e w9 ⟨rfl, hB9⟩
    go_wp2
    go_ret
    exact ⟨rfl, below_size hB (Nat.le_refl _) hB9⟩
  · have hlI : ¬ (1024 : Int) < (ss.length : Int) := by omega
    go_wp2_with fail
    refine (h19 _).mono ?_
    rintro e w4 ⟨rfl, hB4⟩
    replace hB := below_size hB (Nat.le_refl _) hB4
    clear hB4
    go_wp2_with fail
    refine (read_lex q _ hqb (by omega)).mono ?_
    rintro e w5 ⟨hR, hB5⟩
    replace hB := below_size hB (Nat.le_refl _) hB5
    clear hB5
    unfold RdP at hR
    rw [if_neg (by omega), hlex (by omega)] at hR
    obtain ⟨a, cap, rfl, hT⟩ := hR
    obtain ⟨g, off, rfl, hc⟩ := hT.cells (Nat.succ_pos _)
    obtain ⟨c0, c1, c2⟩ := hc 0 (Nat.succ_pos _)
    simp only [List.getD_cons_zero, Nat.zero_mul, Nat.add_zero] at c0 c1 c2
    simp only [List.length_cons, List.length_nil] at hT ⊢
    clear hc
    go_wp2_with fail
    refine (known_true _).mono ?_
    rintro e w9 ⟨rfl, hB9⟩
    go_wp2
    go_ret
    exact ⟨rfl, below_size hB (Nat.le_refl _) hB9⟩
end Go.Proofs.YtlhmeipbcioncaaDoor
