/- PlainName and PlainSymbol of the program; how a word is written. -/
import Derived.Test.YtlhmeipbcioncaaDoorLexB
import Derived.Test.YtlhmeipbcioncaaDoorLxB
namespace Go.Proofs.YtlhmeipbcioncaaDoor
open Go.RowKit
set_option maxRecDepth 100000
def plainN (t : List Int) : Bool := decide (t ≠ []) && decide (nmLen t = t.length)
theorem str_ne {ss : List Int} (h : ss ≠ []) : (strOfNums ss).toList.isEmpty = false := by
  rw [Lib.strOfNums_toList]
  cases ss with
  | nil => exact absurd rfl h
  | cons c r => rfl
set_option maxHeartbeats 4000000 in
theorem plainName_is (ss : List Int) (w : World) (hb : ∀ x ∈ ss, 0 ≤ x ∧ x < 256) (hm : ss.length ≤ 9223372036854775806) : Calls Tryd.prog 16 #[.string (strOfNums ss)] w fun e w' => e = .returned (.bool (plainN ss)) ∧ w = w' := by
  have hsz : (strOfNums ss).size = ss.length := strOfNums_size ss
  by_cases h0 : ss = []
  · subst h0
    have e : strOfNums [] = ⟨#[]⟩ := rfl
    rw [e]
    go_enter Tryd.func16, Tryd.ntmps16
    go_wp2
    go_ret
    exact ⟨rfl, rfl⟩
  · have hne := str_ne h0
    have hc := fun w => nameEnd_any ss 0 w hb hm (Nat.zero_le _)
    rw [List.drop_zero, Nat.zero_add, Int.natCast_zero] at hc
    have ep : plainN ss = ((nmLen ss : Int) == (ss.length : Int)) := by
      unfold plainN
      rw [decide_eq_true h0, Bool.true_and, Bool.eq_iff_iff, beq_iff_eq, decide_eq_true_eq]
      omega
    rw [ep]
    generalize nmLen ss = n at *
    go_enter Tryd.func16, Tryd.ntmps16
    go_wp2_with fail
    refine (hc _).mono ?_
    rintro e w2 ⟨rfl, rfl⟩
    go_wp2
    go_ret
    exact ⟨rfl, rfl⟩
set_option maxHeartbeats 4000000 in
theorem plainSymbol_is (ss : List Int) (w : World) (hb : ∀ x ∈ ss, 0 ≤ x ∧ x < 256) : Calls Tryd.prog 18 #[.string (strOfNums ss)] w fun e w' => e = .returned (.bool (plainS ss)) ∧ Below w.heap.size w w' := by
  have hsz : (strOfNums ss).size = ss.length := strOfNums_size ss
  by_cases h0 : ss = []
  · subst h0
    have e : strOfNums [] = ⟨#[]⟩ := rfl
    rw [e]
    go_enter Tryd.func18, Tryd.ntmps18
    go_wp2
    go_ret
    exact ⟨rfl, Below.refl _ _⟩
  · have hne := str_ne h0
    by_cases hl : ss.length ≤ 1024
    · have hlI : (ss.length : Int) ≤ 1024 := by omega
      have hc := fun w => plainEnd_any ss 0 w hb (by omega) (Nat.zero_le _)
      rw [List.drop_zero, Nat.zero_add, Int.natCast_zero] at hc
      have ep : plainS ss = ((plLen ss : Int) == (ss.length : Int)) := by
        unfold plainS
        rw [decide_eq_true h0, decide_eq_true hl, Bool.true_and, Bool.true_and, Bool.eq_iff_iff, beq_iff_eq, decide_eq_true_eq]
        omega
      rw [ep]
      generalize plLen ss = n at *
      go_enter Tryd.func18, Tryd.ntmps18
      go_wp2_with fail
      refine (hc _).mono ?_
      rintro e w2 ⟨rfl, hB⟩
      go_wp2
      go_ret
      exact ⟨rfl, hB⟩
    · have hlI : ¬ (ss.length : Int) ≤ 1024 := by omega
      have ep : plainS ss = false := by
        unfold plainS
        rw [decide_eq_false hl, Bool.and_false, Bool.false_and]
      rw [ep]
      go_enter Tryd.func18, Tryd.ntmps18
      go_wp2
      go_ret
      exact ⟨rfl, Below.refl _ _⟩
theorem quote_len (t : List Int) : (quoteL t).length ≤ 2 * t.length + 2 := by
  unfold quoteL
  rw [List.length_cons, List.length_append, dbl_len]
  have := List.count_le_length (a := (39 : Int)) (l := t)
  simp
  omega
theorem writ_len (k : Int) (t : List Int) : (writ k t).length ≤ 2 * t.length + 3 := by
  unfold writ
  have := quote_len t
  split
  · omega
  · split
    · split <;> (rw [List.length_cons]; omega)
    · omega
theorem quote_bytes {t : List Int} (hb : ∀ x ∈ t, 0 ≤ x ∧ x < 256) : ∀ x ∈ quoteL t, 0 ≤ x ∧ x < 256 := by
  intro x hx
  unfold quoteL at hx
  rcases List.mem_cons.1 hx with rfl | hx
  · omega
  · rcases List.mem_append.1 hx with hx | hx
    · exact hb x (dbl_mem hx)
    · obtain rfl : x = 39 := by simpa using hx
      omega
theorem writ_bytes {k : Int} {t : List Int} (hb : ∀ x ∈ t, 0 ≤ x ∧ x < 256) : ∀ x ∈ writ k t, 0 ≤ x ∧ x < 256 := by
  intro x hx
  unfold writ at hx
  split at hx
  · exact quote_bytes hb x hx
  · split at hx
    · split at hx
      · rcases List.mem_cons.1 hx with rfl | hx
        · omega
        · exact hb x hx
      · rcases List.mem_cons.1 hx with rfl | hx
        · omega
        · exact quote_bytes hb x hx
    · exact hb x hx
theorem lit35 : (⟨#[35]⟩ : ByteArray) = strOfNums [35] := rfl
set_option maxHeartbeats 8000000 in
theorem written_is (k : Int) (t : List Int) (p : Int) (w : World) (hb : ∀ x ∈ t, 0 ≤ x ∧ x < 256) (hm : t.length ≤ 100000) : Calls Tryd.prog 20 #[.agg #[.int .i64 k, .string (strOfNums t), .int .i64 p]] w fun e w' => e = .returned (.string (strOfNums (writ k t))) ∧ Below w.heap.size w w' := by
  have hq := fun w => quote_any t w hb (by omega)
  have hp := fun w => plainSymbol_is t w hb
  have E : (w.alloc (.cells #[.int .i64 k, .string (strOfNums t), .int .i64 p] 35)).heap[w.heap.size]? = some (tkB k (strOfNums t) p) := newT _ _
  have B : Below w.heap.size w (w.alloc (.cells #[.int .i64 k, .string (strOfNums t), .int .i64 p] 35)) := boxT
  have hl1 := quote_len t
  by_cases h5 : k = 5
  · have ew : writ k t = quoteL t := by unfold writ; rw [if_pos h5]
    rw [ew]
    subst h5
    go_enter Tryd.func20, Tryd.ntmps20
    go_upto_region 1 with fail
    generalize w.alloc (.cells #[.int .i64 5, .string (strOfNums t), .int .i64 p] 35) = w2 at *
    obtain ⟨z0, z1, z2, zf⟩ := tk_cells E
    go_wp2_with fail
    refine (hq _).mono ?_
    rintro e w3 ⟨rfl, hB⟩
    go_wp2
    go_ret
    exact ⟨rfl, below_size B (Nat.le_refl _) hB⟩
  · have h5b : (k == 5) = false := by simpa using h5
    by_cases h6 : k = 6
    · subst h6
      cases hpl : plainS t with
      | true =>
        rw [hpl] at hp
        have ew : writ 6 t = [35] ++ t := by unfold writ; rw [if_neg (by decide), if_pos rfl, hpl, if_pos rfl]; rfl
        rw [ew]
        have e1 := app_str [35] t
        rw [← lit35] at e1
        have s1 : ¬ 9223372036854775807 < 1 + (strOfNums t).size := by rw [strOfNums_size]; omega
        go_enter Tryd.func20, Tryd.ntmps20
        go_upto_region 1 with fail
        generalize w.alloc (.cells #[.int .i64 6, .string (strOfNums t), .int .i64 p] 35) = w2 at *
        obtain ⟨z0, z1, z2, zf⟩ := tk_cells E
        go_wp2_with fail
        refine (hp _).mono ?_
        rintro e w3 ⟨rfl, hB⟩
        have E3 := (hB.block _ (lt_of_block E)).trans E
        replace B := below_size B (Nat.le_refl _) hB
        clear z0 z1 z2 zf hB E
        obtain ⟨z0, z1, z2, zf⟩ := tk_cells E3
        go_wp2
        go_ret
        exact ⟨rfl, B⟩
      | false =>
        rw [hpl] at hp
        have ew : writ 6 t = [35] ++ quoteL t := by unfold writ; rw [if_neg (by decide), if_pos rfl, hpl, if_neg (by decide)]; rfl
        rw [ew]
        have e1 := app_str [35] (quoteL t)
        rw [← lit35] at e1
        have s1 : ¬ 9223372036854775807 < 1 + (strOfNums (quoteL t)).size := by rw [strOfNums_size]; omega
        go_enter Tryd.func20, Tryd.ntmps20
        go_upto_region 1 with fail
        generalize w.alloc (.cells #[.int .i64 6, .string (strOfNums t), .int .i64 p] 35) = w2 at *
        obtain ⟨z0, z1, z2, zf⟩ := tk_cells E
        go_wp2_with fail
        refine (hp _).mono ?_
        rintro e w3 ⟨rfl, hB⟩
        have E3 := (hB.block _ (lt_of_block E)).trans E
        replace B := below_size B (Nat.le_refl _) hB
        clear z0 z1 z2 zf hB E
        obtain ⟨z0, z1, z2, zf⟩ := tk_cells E3
        go_wp2_with fail
        refine (hq _).mono ?_
        rintro e w4 ⟨rfl, hB⟩
        go_wp2
        go_ret
        exact ⟨rfl, below_size B (Nat.le_refl _) hB⟩
    · have h6b : (k == 6) = false := by simpa using h6
      have ew : writ k t = t := by unfold writ; rw [if_neg h5, if_neg h6]
      rw [ew]
      go_enter Tryd.func20, Tryd.ntmps20
      go_upto_region 1 with fail
      generalize w.alloc (.cells #[.int .i64 k, .string (strOfNums t), .int .i64 p] 35) = w2 at *
      obtain ⟨z0, z1, z2, zf⟩ := tk_cells E
      go_wp2
      go_ret
      exact ⟨rfl, B⟩
end Go.Proofs.YtlhmeipbcioncaaDoor
