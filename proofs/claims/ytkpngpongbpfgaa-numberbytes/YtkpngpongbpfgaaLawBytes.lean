/- Numbers as bytes, there and back: the law's walk. -/
import Derived.Test.YtkpngpongbpfgaaGivN
import Derived.Test.YtkpngpongbpfgaaKnN
import Derived.Test.YtkpngpongbpfgaaReg
namespace Go.Proofs.Ytkpngpongbpfgaa
open Go.RowKit
set_option maxRecDepth 100000
theorem kept_bN {a : Option Addr} {g len cap : Nat} {xs : List Int} {w : World} (ho : IsB w (some ⟨g, 0, none⟩) (len + 8) (len + 8) (xs ++ pad)) (h : IsB w a len cap xs) (hl : len ≤ 140737488351232) :
    Calls Try.prog 14 #[.slice (some ⟨g, 0, none⟩) len (len + 8), .slice a len cap] w fun e w' => e = .returned (.bool true) ∧ Below w.heap.size w w' :=
  (kept_true ho h hl).mono fun _ _ ⟨he, q, hw⟩ => ⟨he, by rw [hw]; exact below_drewN (Below.refl _ _) q⟩
theorem putN_len {p neg : Bool} {xs : List Int} {x y : Nat} : (putN p neg xs x y).length ≤ xs.length + 17 := by
  unfold putN
  split
  · simp [bytesN_len]
  · simp
theorem putN_byte {p neg : Bool} {xs : List Int} {x y : Nat} (h : ∀ z ∈ xs, 0 ≤ z ∧ z < 256) : ∀ z ∈ putN p neg xs x y, 0 ≤ z ∧ z < 256 := by
  unfold putN
  intro z hz
  split at hz
  · rcases List.mem_cons.1 hz with rfl | hz
    · decide
    · rcases List.mem_append.1 hz with hz | hz
      · exact bytesN_lt 8 x z hz
      · exact bytesN_lt 8 y z hz
  · rcases List.mem_cons.1 hz with rfl | hz
    · split <;> decide
    · exact h z hz
/-- What is written is read as the same number. -/
theorem parse_put {p neg : Bool} {xs : List Int} {x y : Nat} (h : rightN p neg xs x y = true) (hx : x < 18446744073709551616) (hy : y < 18446744073709551616) : parseN (putN p neg xs x y) = (true, p, neg, xs, x, y) := by
  unfold rightN at h
  cases p with
  | true =>
    rw [if_pos rfl, Bool.and_eq_true, decide_eq_true_eq] at h
    obtain ⟨h1, h2⟩ := h
    obtain rfl : xs = [] := List.eq_nil_of_length_eq_zero h2
    obtain rfl : neg = false := by cases neg <;> simp_all
    have e : putN true false [] x y = 2 :: (bytesN 8 x ++ bytesN 8 y) := rfl
    rw [e, parse_pair (by simp [bytesN_len])]
    have l8 : (bytesN 8 x).length = 8 := bytesN_len 8 x
    have e1 : (bytesN 8 x ++ bytesN 8 y).take 8 = bytesN 8 x := by rw [List.take_append_of_le_length (by omega), List.take_of_length_le (by omega)]
    have e2 : ((bytesN 8 x ++ bytesN 8 y).drop 8).take 8 = bytesN 8 y := by
      rw [List.drop_append_of_le_length (by omega), List.drop_of_length_le (by omega), List.nil_append, List.take_of_length_le (by rw [bytesN_len]; exact Nat.le_refl _)]
    rw [e1, e2, val8_bytesN 8 x (by simpa using hx), val8_bytesN 8 y (by simpa using hy)]
  | false =>
    rw [if_neg (by decide), Bool.and_eq_true, Bool.and_eq_true, decide_eq_true_eq, decide_eq_true_eq] at h
    obtain ⟨⟨_, rfl⟩, rfl⟩ := h
    cases neg with
    | true =>
      have e : putN false true xs 0 0 = 1 :: xs := rfl
      rw [e, parse_01 (.inr rfl)]
      rfl
    | false =>
      have e : putN false false xs 0 0 = 0 :: xs := rfl
      rw [e, parse_01 (.inl rfl)]
      rfl
theorem okGN_put {p neg : Bool} {xs : List Int} {x y : Nat} (h : rightN p neg xs x y = true) : okGN (putN p neg xs x y) = true := by
  unfold rightN at h
  cases p with
  | true =>
    rw [if_pos rfl, Bool.and_eq_true, decide_eq_true_eq] at h
    obtain ⟨h1, h2⟩ := h
    obtain rfl : xs = [] := List.eq_nil_of_length_eq_zero h2
    obtain rfl : neg = false := by cases neg <;> simp_all
    exact okGN_pair trivial (by simp [bytesN_len])
  | false =>
    rw [if_neg (by decide), Bool.and_eq_true, Bool.and_eq_true, decide_eq_true_eq, decide_eq_true_eq] at h
    obtain ⟨⟨h1, rfl⟩, rfl⟩ := h
    unfold okGN
    cases neg with
    | true =>
      have e : putN false true xs 0 0 = 1 :: xs := rfl
      rw [e, parse_01 (.inr rfl)]
      simpa [rightN] using h1
    | false =>
      have e : putN false false xs 0 0 = 0 :: xs := rfl
      rw [e, parse_01 (.inl rfl)]
      simpa [rightN] using h1
/-- What is read is written as the same bytes. -/
theorem put_parse {bs : List Int} (hb : ∀ z ∈ bs, 0 ≤ z ∧ z < 256) (h : okGN bs = true) : putN (parseN bs).2.1 (parseN bs).2.2.1 (parseN bs).2.2.2.1 (parseN bs).2.2.2.2.1 (parseN bs).2.2.2.2.2 = bs := by
  cases bs with
  | nil => cases h
  | cons b r =>
    by_cases h01 : b = 0 ∨ b = 1
    · rw [parse_01 h01]
      rcases h01 with rfl | rfl <;> rfl
    · by_cases h2 : b = 2 ∧ r.length = 16
      · obtain ⟨rfl, h16⟩ := h2
        rw [parse_pair h16]
        show (2 : Int) :: (bytesN 8 (val8 (r.take 8)) ++ bytesN 8 (val8 ((r.drop 8).take 8))) = _
        have e1 := bytesN_val8 (r.take 8) (fun z hz => hb z (by simp [List.mem_of_mem_take hz]))
        have e2 := bytesN_val8 ((r.drop 8).take 8) (fun z hz => hb z (by simp [List.mem_of_mem_drop (List.mem_of_mem_take hz)]))
        rw [show (r.take 8).length = 8 by simp; omega] at e1
        rw [show ((r.drop 8).take 8).length = 8 by simp; omega] at e2
        rw [e1, e2, List.take_of_length_le (l := r.drop 8) (by simp; omega), List.take_append_drop]
      · rw [parse_no h01 h2] at h
        cases h
theorem parse_lt {bs : List Int} (hb : ∀ z ∈ bs, 0 ≤ z ∧ z < 256) : (parseN bs).2.2.2.2.1 < 18446744073709551616 ∧ (parseN bs).2.2.2.2.2 < 18446744073709551616 := by
  cases bs with
  | nil => exact ⟨by decide, by decide⟩
  | cons b r =>
    by_cases h01 : b = 0 ∨ b = 1
    · rw [parse_01 h01]
      exact ⟨show 0 < 18446744073709551616 by decide, show 0 < 18446744073709551616 by decide⟩
    · show (if _ then _ else _ : Bool × Bool × Bool × List Int × Nat × Nat).2.2.2.2.1 < _ ∧ (if _ then _ else _ : Bool × Bool × Bool × List Int × Nat × Nat).2.2.2.2.2 < _
      rw [if_neg h01]
      split
      · next h2 =>
        have l1 := val8_lt (r.take 8) (fun z hz => hb z (by simp [List.mem_of_mem_take hz]))
        have l2 := val8_lt ((r.drop 8).take 8) (fun z hz => hb z (by simp [List.mem_of_mem_drop (List.mem_of_mem_take hz)]))
        rw [show (r.take 8).length = 8 by simp; omega] at l1
        rw [show ((r.drop 8).take 8).length = 8 by simp; omega] at l2
        exact ⟨l1, l2⟩
      · exact ⟨by decide, by decide⟩
/-- What Put, what Get answer. -/
def peN (p neg : Bool) (xs : List Int) (x y : Nat) : Int := if rightN p neg xs x y = true then 0 else 1
def pbN (p neg : Bool) (xs : List Int) (x y : Nat) : List Int := if rightN p neg xs x y = true then putN p neg xs x y else []
theorem PutNP.out {w w' : World} {p neg : Bool} {xs : List Int} {x y : Nat} {e : Ending} (h : PutNP w p neg xs x y e w') : ∃ a n c, e = .returned (.tuple #[.slice a n c, .int .i64 (peN p neg xs x y)]) ∧ IsB w' a n c (pbN p neg xs x y) ∧ Below w.heap.size w w' := by
  obtain ⟨h, B⟩ := h
  unfold peN pbN
  rcases h with ⟨h1, rfl⟩ | ⟨h1, a, n, c, rfl, O⟩
  · rw [h1]
    exact ⟨none, 0, 0, rfl, isB_nilN _, B⟩
  · rw [h1]
    refine ⟨a, n, c, rfl, ?_, B⟩
    obtain ⟨_, a', c', e', k'⟩ := O
    simp only [Value.slice.injEq] at e'
    obtain ⟨rfl, rfl, rfl⟩ := e'
    exact k'
def gN (bs : List Int) : Bool × Bool × List Int × Nat × Nat × Int := if okGN bs = true then ((parseN bs).2.1, (parseN bs).2.2.1, (parseN bs).2.2.2.1, (parseN bs).2.2.2.2.1, (parseN bs).2.2.2.2.2, 0) else (false, false, [], 0, 0, 11)
theorem GetNP.out {w w' : World} {bs ms : List Int} {p neg : Bool} {x y : Nat} {ge : Int} {e : Ending} (hg : Hid (gN bs = (p, neg, ms, x, y, ge))) (h : GetNP w bs e w') : ∃ a n c, e = .returned (.tuple #[.agg #[.bool p, .bool neg, .slice a n c, .complex .f64 x y], .int .i64 ge]) ∧ IsB w' a n c ms ∧ Below w.heap.size w w' := by
  obtain ⟨B, h⟩ := h
  have hg' := hg.out
  unfold gN at hg'
  rcases h with ⟨h1, a, n, c, rfl, O⟩ | ⟨h1, rfl⟩
  · rw [if_pos h1] at hg'
    simp only [Prod.mk.injEq] at hg'
    obtain ⟨rfl, rfl, rfl, rfl, rfl, rfl⟩ := hg'
    refine ⟨a, n, c, rfl, ?_, B⟩
    obtain ⟨_, a', c', e', k'⟩ := O
    simp only [Value.slice.injEq] at e'
    obtain ⟨rfl, rfl, rfl⟩ := e'
    exact k'
  · rw [if_neg (by simp [h1])] at hg'
    simp only [Prod.mk.injEq] at hg'
    obtain ⟨rfl, rfl, rfl, rfl, rfl, rfl⟩ := hg'
    exact ⟨none, 0, 0, rfl, isB_nilN _, B⟩
theorem RGetNP.out {w w' : World} {bs ms : List Int} {p neg : Bool} {x y : Nat} {ge : Int} {e : Ending} (hg : Hid (gN bs = (p, neg, ms, x, y, ge))) (h : RGetNP w bs e w') : ∃ a n c, e = .returned (.tuple #[.agg #[.bool p, .bool neg, .slice a n c, .float .f64 x, .float .f64 y], .int .i64 ge]) ∧ IsB w' a n c ms ∧ Below w.heap.size w w' := by
  obtain ⟨B, h⟩ := h
  have hg' := hg.out
  unfold gN at hg'
  rcases h with ⟨h1, a, n, c, rfl, O⟩ | ⟨h1, rfl⟩
  · rw [if_pos h1] at hg'
    simp only [Prod.mk.injEq] at hg'
    obtain ⟨rfl, rfl, rfl, rfl, rfl, rfl⟩ := hg'
    refine ⟨a, n, c, rfl, ?_, B⟩
    obtain ⟨_, a', c', e', k'⟩ := O
    simp only [Value.slice.injEq] at e'
    obtain ⟨rfl, rfl, rfl⟩ := e'
    exact k'
  · rw [if_neg (by simp [h1])] at hg'
    simp only [Prod.mk.injEq] at hg'
    obtain ⟨rfl, rfl, rfl, rfl, rfl, rfl⟩ := hg'
    exact ⟨none, 0, 0, rfl, isB_nilN _, B⟩
theorem gN_good {bs ms : List Int} {p neg : Bool} {x y : Nat} {ge : Int} (hb : ∀ z ∈ bs, 0 ≤ z ∧ z < 256) (hg : gN bs = (p, neg, ms, x, y, ge)) (h0 : ge = 0) : rightN p neg ms x y = true ∧ putN p neg ms x y = bs := by
  unfold gN at hg
  split at hg
  · next ok =>
    have e := put_parse hb ok
    simp only [Prod.mk.injEq] at hg
    obtain ⟨rfl, rfl, rfl, rfl, rfl, _⟩ := hg
    unfold okGN at ok
    rw [Bool.and_eq_true] at ok
    exact ⟨ok.2, e⟩
  · simp only [Prod.mk.injEq] at hg
    omega
theorem gN_lt {bs ms : List Int} {p neg : Bool} {x y : Nat} {ge : Int} (hb : ∀ z ∈ bs, 0 ≤ z ∧ z < 256) (hg : gN bs = (p, neg, ms, x, y, ge)) : x < 18446744073709551616 ∧ y < 18446744073709551616 ∧ ms.length ≤ bs.length := by
  have hl := parse_lt hb
  unfold gN at hg
  split at hg
  · simp only [Prod.mk.injEq] at hg
    obtain ⟨rfl, rfl, rfl, rfl, rfl, rfl⟩ := hg
    refine ⟨hl.1, hl.2, ?_⟩
    cases bs with
    | nil => simp [parseN]
    | cons b r =>
      show (if b = 0 ∨ b = 1 then ((true, false, decide (b = 1), r, 0, 0) : Bool × Bool × Bool × List Int × Nat × Nat) else if b = 2 ∧ r.length = 16 then (true, true, false, [], val8 (r.take 8), val8 ((r.drop 8).take 8)) else (false, false, false, [], 0, 0)).2.2.2.1.length ≤ _
      split
      · simp
      · split <;> simp
  · simp only [Prod.mk.injEq] at hg
    obtain ⟨rfl, rfl, rfl, rfl, rfl, rfl⟩ := hg
    exact ⟨by decide, by decide, by simp⟩
/-- What the operations yield. -/
def nbV (pe ge : Int) (p2 n2 : Bool) (x2 y2 : Nat) (ba ca da ya za : Option Addr) (g5 bn bc cn cc dn dc yn yc zn zc : Nat) (X : List Int) (j : Nat) : Value :=
  ([.slice ca cn cc,
    .string (strOfNums X),
    .slice da dn dc,
    .string (strOfNums X),
    .bool false,
    .bool false,
    .int .i64 pe,
    .int .i64 pe,
    .bool false,
    .bool false,
    .bool false,
    .agg #[.bool p2, .bool n2, .slice ya yn yc, .complex .f64 x2 y2],
    .agg #[.bool p2, .bool n2, .slice ya yn yc, .float .f64 x2, .float .f64 y2],
    .agg #[.bool p2, .bool n2, .slice za zn zc, .float .f64 x2, .float .f64 y2],
    .bool true,
    .bool false,
    .bool false,
    .bool false,
    .int .i64 ge,
    .int .i64 ge,
    .bool false,
    .bool false,
    .bool false,
    .slice (some ⟨g5, 0, none⟩) bn (bn + 8),
    .slice ba bn bc,
    .bool true,
    .bool false,
    .bool false] : List Value).getD j undef
theorem nbV_list {l : List Value} (hh : l.length = 28) : ∃ v0 v1 v2 v3 v4 v5 v6 v7 v8 v9 v10 v11 v12 v13 v14 v15 v16 v17 v18 v19 v20 v21 v22 v23 v24 v25 v26 v27, l = [v0, v1, v2, v3, v4, v5, v6, v7, v8, v9, v10, v11, v12, v13, v14, v15, v16, v17, v18, v19, v20, v21, v22, v23, v24, v25, v26, v27] := by
  obtain ⟨v0, t0, rfl, h0⟩ := cons_of hh
  obtain ⟨v1, t1, rfl, h1⟩ := cons_of h0
  obtain ⟨v2, t2, rfl, h2⟩ := cons_of h1
  obtain ⟨v3, t3, rfl, h3⟩ := cons_of h2
  obtain ⟨v4, t4, rfl, h4⟩ := cons_of h3
  obtain ⟨v5, t5, rfl, h5⟩ := cons_of h4
  obtain ⟨v6, t6, rfl, h6⟩ := cons_of h5
  obtain ⟨v7, t7, rfl, h7⟩ := cons_of h6
  obtain ⟨v8, t8, rfl, h8⟩ := cons_of h7
  obtain ⟨v9, t9, rfl, h9⟩ := cons_of h8
  obtain ⟨v10, t10, rfl, h10⟩ := cons_of h9
  obtain ⟨v11, t11, rfl, h11⟩ := cons_of h10
  obtain ⟨v12, t12, rfl, h12⟩ := cons_of h11
  obtain ⟨v13, t13, rfl, h13⟩ := cons_of h12
  obtain ⟨v14, t14, rfl, h14⟩ := cons_of h13
  obtain ⟨v15, t15, rfl, h15⟩ := cons_of h14
  obtain ⟨v16, t16, rfl, h16⟩ := cons_of h15
  obtain ⟨v17, t17, rfl, h17⟩ := cons_of h16
  obtain ⟨v18, t18, rfl, h18⟩ := cons_of h17
  obtain ⟨v19, t19, rfl, h19⟩ := cons_of h18
  obtain ⟨v20, t20, rfl, h20⟩ := cons_of h19
  obtain ⟨v21, t21, rfl, h21⟩ := cons_of h20
  obtain ⟨v22, t22, rfl, h22⟩ := cons_of h21
  obtain ⟨v23, t23, rfl, h23⟩ := cons_of h22
  obtain ⟨v24, t24, rfl, h24⟩ := cons_of h23
  obtain ⟨v25, t25, rfl, h25⟩ := cons_of h24
  obtain ⟨v26, t26, rfl, h26⟩ := cons_of h25
  obtain ⟨v27, t27, rfl, h27⟩ := cons_of h26
  obtain rfl := List.eq_nil_of_length_eq_zero h27
  exact ⟨_, _, _, _, _, _, _, _, _, _, _, _, _, _, _, _, _, _, _, _, _, _, _, _, _, _, _, _, rfl⟩
/-- What the operations yield. -/
def nbW (pp ng : Bool) (x y : Nat) (ja va : Option Addr) (jn jc vn vc : Nat) (j : Nat) : Value :=
  ([.int .i64 0,
    .bool true,
    .bool true,
    .agg #[.bool pp, .bool ng, .slice va vn vc, .complex .f64 x y],
    .agg #[.bool pp, .bool ng, .slice va vn vc, .float .f64 x, .float .f64 y],
    .agg #[.bool pp, .bool ng, .slice ja jn jc, .float .f64 x, .float .f64 y],
    .bool true,
    .bool true,
    .bool true,
    .bool true,
    .bool true] : List Value).getD j undef
theorem nbW_list {l : List Value} (hh : l.length = 11) : ∃ v0 v1 v2 v3 v4 v5 v6 v7 v8 v9 v10, l = [v0, v1, v2, v3, v4, v5, v6, v7, v8, v9, v10] := by
  obtain ⟨v0, t0, rfl, h0⟩ := cons_of hh
  obtain ⟨v1, t1, rfl, h1⟩ := cons_of h0
  obtain ⟨v2, t2, rfl, h2⟩ := cons_of h1
  obtain ⟨v3, t3, rfl, h3⟩ := cons_of h2
  obtain ⟨v4, t4, rfl, h4⟩ := cons_of h3
  obtain ⟨v5, t5, rfl, h5⟩ := cons_of h4
  obtain ⟨v6, t6, rfl, h6⟩ := cons_of h5
  obtain ⟨v7, t7, rfl, h7⟩ := cons_of h6
  obtain ⟨v8, t8, rfl, h8⟩ := cons_of h7
  obtain ⟨v9, t9, rfl, h9⟩ := cons_of h8
  obtain ⟨v10, t10, rfl, h10⟩ := cons_of h9
  obtain rfl := List.eq_nil_of_length_eq_zero h10
  exact ⟨_, _, _, _, _, _, _, _, _, _, _, rfl⟩
set_option maxHeartbeats 8000000 in
theorem bytes_law {w : World} (pp ng : Bool) (x y : Nat) (hx : x < 18446744073709551616) (hy : y < 18446744073709551616) {ja ba : Option Addr} {jn jc bn bc : Nat} {xs bs : List Int} (h1 : IsB w ja jn jc xs) (h2 : IsB w ba bn bc bs) (hjl : jn ≤ 140737488351232) (hbl : bn ≤ 140737488351232) :
    Calls Try.prog 4 #[.agg #[.bool pp, .bool ng, .slice ja jn jc, .float .f64 x, .float .f64 y], .slice ba bn bc] w fun e w' => e = .returned (.bool true) ∧ Below w.heap.size w w' := by
  have hxs := h1.size
  have hbs := h2.size
  have hbb := h2.byte
  obtain ⟨p2, n2, ms, x2, y2, ge, hgN⟩ : ∃ p neg ms x y ge, Hid (gN bs = (p, neg, ms, x, y, ge)) := ⟨_, _, _, _, _, _, rfl⟩
  obtain ⟨hx2, hy2, hms⟩ := gN_lt hbb hgN.out
  have hget : ge = 0 → rightN p2 n2 ms x2 y2 = true ∧ putN p2 n2 ms x2 y2 = bs := fun h => gN_good hbb hgN.out h
  obtain ⟨pe, hpe⟩ : ∃ pe, Hid (peN pp ng xs x y = pe) := ⟨_, rfl⟩
  obtain ⟨X, hX⟩ : ∃ X, Hid (pbN pp ng xs x y = X) := ⟨_, rfl⟩
  have hput : pe = 0 → rightN pp ng xs x y = true ∧ X = putN pp ng xs x y := fun h => by
    have e := hpe.out
    rw [h] at e
    unfold peN at e
    have e2 := hX.out
    unfold pbN at e2
    split at e
    · next hr => rw [if_pos hr] at e2; exact ⟨hr, e2.symm⟩
    · cases e
  have E2 := newF w (numR pp ng (.slice ja jn jc) x y)
  have IJ := h1.below (box_belowF (o := numR pp ng (.slice ja jn jc) x y))
  have IB := h2.below (box_belowF (o := numR pp ng (.slice ja jn jc) x y))
  have B1 : Below w.heap.size w (w.alloc (numR pp ng (.slice ja jn jc) x y)) := box_belowF
  unfold numR at E2 IJ IB B1
  have hsc := stC_run
  have hsf := stF_run
  go_enter Try.func4, Try.ntmps4
  go_wp2_with fail
  generalize w.alloc (.cells #[.bool pp, .bool ng, .slice ja jn jc, .float .f64 x, .float .f64 y] 27) = w1 at *
  replace E2 : w1.heap[w.heap.size]? = some (numR pp ng (.slice ja jn jc) x y) := E2
  obtain ⟨b2, hb2⟩ : ∃ b, b = w.heap.size := ⟨_, rfl⟩
  rw [← hb2] at E2 ⊢
  clear hb2
  refine (lent_any IB hbl).mono ?_
  rintro e w2 ⟨rfl, IL, B2⟩
  replace E2 := (B2.block _ (lt_of_blockF E2)).trans E2
  replace IJ := IJ.below B2
  replace IB := IB.below B2
  replace B1 := below_sizeF B1 (Nat.le_refl _) B2
  clear B2
  generalize w1.heap.size = g5 at *
  obtain ⟨z0, z1, z2, z3, z4, zf⟩ := numR_cells E2
  go_wp2_with fail
  clear z0 z1 z2 z3 z4 zf
  refine (given_N pp ng x y IJ hjl).mono ?_
  rintro e w3 ⟨gb, rfl, IG, B2⟩
  replace E2 := oldF ((B2.block _ (lt_of_blockF E2)).trans E2) (numP pp ng (.slice (some ⟨gb, 0, none⟩) jn (jn + 8)) x y)
  replace IJ := (IJ.below B2).below (box_belowF (o := numP pp ng (.slice (some ⟨gb, 0, none⟩) jn (jn + 8)) x y))
  replace IB := (IB.below B2).below (box_belowF (o := numP pp ng (.slice (some ⟨gb, 0, none⟩) jn (jn + 8)) x y))
  replace IL := (IL.below B2).below (box_belowF (o := numP pp ng (.slice (some ⟨gb, 0, none⟩) jn (jn + 8)) x y))
  replace IG := IG.below (box_belowF (o := numP pp ng (.slice (some ⟨gb, 0, none⟩) jn (jn + 8)) x y))
  replace B1 := below_sizeF (below_sizeF B1 (Nat.le_refl _) B2) (Nat.le_refl _) (box_belowF (o := numP pp ng (.slice (some ⟨gb, 0, none⟩) jn (jn + 8)) x y))
  clear B2
  unfold numP at E2 IJ IB IL IG B1
  go_wp2_with fail
  generalize w3.alloc (.cells #[.bool pp, .bool ng, .slice (some ⟨gb, 0, none⟩) jn (jn + 8), .complex .f64 x y] 31) = w4 at *
  generalize w3.heap.size = b6 at *
  have IU : IsB w4 (some ⟨gb, 0, none⟩) jn (jn + 8) xs := IG.front (ys := pad) hxs
  clear IG
  refine (putN_any pp ng x y hx hy IU (by omega)).mono ?_
  intro e w5 hP
  obtain ⟨ca, cn, cc, rfl, IC, B2⟩ := hP.out
  rw [hpe.out]
  rw [hX.out] at IC
  clear hP IU
  replace E2 := (B2.block _ (lt_of_blockF E2)).trans E2
  replace IJ := IJ.below B2
  replace IB := IB.below B2
  replace IL := IL.below B2
  replace B1 := below_sizeF B1 (Nat.le_refl _) B2
  clear B2
  obtain ⟨z0, z1, z2, z3, z4, zf⟩ := numR_cells (p := pp) (m := ng) (v := .slice ja jn jc) (x := x) (y := y) E2
  go_wp2_with fail
  clear z0 z1 z2 z3 z4 zf
  refine (rputN_any pp ng x y hx hy IJ (by omega)).mono ?_
  intro e w6 hP
  obtain ⟨da, dn, dc, rfl, ID, B2⟩ := hP.out
  rw [hpe.out]
  rw [hX.out] at ID
  clear hP
  replace E2 := (B2.block _ (lt_of_blockF E2)).trans E2
  replace IJ := IJ.below B2
  replace IB := IB.below B2
  replace IL := IL.below B2
  replace IC := IC.below B2
  replace B1 := below_sizeF B1 (Nat.le_refl _) B2
  clear B2
  have IO : IsB w6 (some ⟨g5, 0, none⟩) bn (bn + 8) bs := IL.front (ys := pad) hbs
  go_wp2_with fail
  refine (getN_any IO (by omega)).mono ?_
  intro e w7 hP
  obtain ⟨ya, yn, yc, rfl, IY, B2⟩ := hP.out hgN
  clear hP IO
  have E11 := newF w7 (numP p2 n2 (.slice ya yn yc) x2 y2)
  replace E2 := oldF ((B2.block _ (lt_of_blockF E2)).trans E2) (numP p2 n2 (.slice ya yn yc) x2 y2)
  replace IJ := (IJ.below B2).below (box_belowF (o := numP p2 n2 (.slice ya yn yc) x2 y2))
  replace IB := (IB.below B2).below (box_belowF (o := numP p2 n2 (.slice ya yn yc) x2 y2))
  replace IL := (IL.below B2).below (box_belowF (o := numP p2 n2 (.slice ya yn yc) x2 y2))
  replace IC := (IC.below B2).below (box_belowF (o := numP p2 n2 (.slice ya yn yc) x2 y2))
  replace ID := (ID.below B2).below (box_belowF (o := numP p2 n2 (.slice ya yn yc) x2 y2))
  replace IY := IY.below (box_belowF (o := numP p2 n2 (.slice ya yn yc) x2 y2))
  replace B1 := below_sizeF (below_sizeF B1 (Nat.le_refl _) B2) (Nat.le_refl _) (box_belowF (o := numP p2 n2 (.slice ya yn yc) x2 y2))
  clear B2
  unfold numP at E11 E2 IJ IB IL IC ID IY B1
  go_wp2_with fail
  generalize w7.alloc (.cells #[.bool p2, .bool n2, .slice ya yn yc, .complex .f64 x2 y2] 31) = w8 at *
  generalize w7.heap.size = b11 at *
  replace E11 : w8.heap[b11]? = some (numP p2 n2 (.slice ya yn yc) x2 y2) := E11
  refine (rgetN_any IB (by omega)).mono ?_
  intro e w9 hP
  obtain ⟨za, zn, zc, rfl, IZ, B2⟩ := hP.out hgN
  clear hP
  have E13 := newF w9 (numR p2 n2 (.slice za zn zc) x2 y2)
  replace E11 := oldF ((B2.block _ (lt_of_blockF E11)).trans E11) (numR p2 n2 (.slice za zn zc) x2 y2)
  replace E2 := oldF ((B2.block _ (lt_of_blockF E2)).trans E2) (numR p2 n2 (.slice za zn zc) x2 y2)
  replace IJ := (IJ.below B2).below (box_belowF (o := numR p2 n2 (.slice za zn zc) x2 y2))
  replace IB := (IB.below B2).below (box_belowF (o := numR p2 n2 (.slice za zn zc) x2 y2))
  replace IL := (IL.below B2).below (box_belowF (o := numR p2 n2 (.slice za zn zc) x2 y2))
  replace IC := (IC.below B2).below (box_belowF (o := numR p2 n2 (.slice za zn zc) x2 y2))
  replace ID := (ID.below B2).below (box_belowF (o := numR p2 n2 (.slice za zn zc) x2 y2))
  replace IY := (IY.below B2).below (box_belowF (o := numR p2 n2 (.slice za zn zc) x2 y2))
  replace IZ := IZ.below (box_belowF (o := numR p2 n2 (.slice za zn zc) x2 y2))
  have Bq := below_sizeF (below_sizeF B1 (Nat.le_refl _) B2) (Nat.le_refl _) (box_belowF (o := numR p2 n2 (.slice za zn zc) x2 y2))
  clear B2 B1
  unfold numR at E13 E11 E2 IJ IB IL IC ID IY IZ Bq
  go_upto_region 7 with fail
  generalize w9.alloc (.cells #[.bool p2, .bool n2, .slice za zn zc, .float .f64 x2, .float .f64 y2] 27) = wq at *
  generalize w9.heap.size = b13 at *
  replace E13 : wq.heap[b13]? = some (numR p2 n2 (.slice za zn zc) x2 y2) := E13
  replace E11 : wq.heap[b11]? = some (numP p2 n2 (.slice ya yn yc) x2 y2) := E11
  replace E2 : wq.heap[b2]? = some (numR pp ng (.slice ja jn jc) x y) := E2
  have hyn : yn ≤ 140737488351300 := by have := IY.size; omega
  refine abstract_act fun A hA => ?_
  have hsz : A.tmps.size = 106 := by rw [hA]; rfl
  have s1 : A.tmps[1]? = some (.slice ba bn bc) := by rw [hA]; rfl
  have s5 : A.tmps[5]? = some (.slice (some ⟨g5, 0, none⟩) bn (bn + 8)) := by rw [hA]; rfl
  have s7 : A.tmps[7]? = some (.slice ca cn cc) := by rw [hA]; rfl
  have s8 : A.tmps[8]? = some (.int .i64 pe) := by rw [hA]; rfl
  have s9 : A.tmps[9]? = some (.slice da dn dc) := by rw [hA]; rfl
  have s10 : A.tmps[10]? = some (.int .i64 pe) := by rw [hA]; rfl
  have s11 : A.tmps[11]? = some (.pointer (some ⟨b11, 0, none⟩)) := by rw [hA]; rfl
  have s12 : A.tmps[12]? = some (.int .i64 ge) := by rw [hA]; rfl
  have s13 : A.tmps[13]? = some (.pointer (some ⟨b13, 0, none⟩)) := by rw [hA]; rfl
  have s14 : A.tmps[14]? = some (.int .i64 ge) := by rw [hA]; rfl
  refine wp_region_inv2' (fun A D a w' => ∃ (l : List Value), a = putAll A 43 l ∧ l.length = 28 ∧ Below wq.heap.size wq w' ∧ (∀ j, j < 28 → D j → l[j]? = some (nbV pe ge p2 n2 x2 y2 ba ca da ya za g5 bn bc cn cc dn dc yn yc zn zc X j))) (by kernel_rfl) (by kernel_rfl) ?mono ?start ?step ?done
  case mono =>
    rintro D D' a w' hD ⟨l, ha, hlen, hB, hl⟩
    exact ⟨l, ha, hlen, hB, fun j hj h => hl j hj ((hD j).2 h)⟩
  case start => exact ⟨_, (putAll_start A 43 28 (by omega)).1, (putAll_start A 43 28 (by omega)).2, (Below.refl _ _).drew, fun _ _ h => h.elim⟩
  case step =>
    clear hA
    intro i o ho D a w' hI hn hcl hd
    obtain ⟨l, ha, hlen, hB, hl⟩ := hI
    match i, ho with
    | 0, ho =>
      cases Option.some.inj ho
      refine ⟨rfl, ?_⟩
      have ev : a.tmps[7]? = some (.slice ca cn cc) := by rw [ha, putAll_low A 43 7 l (by omega) (by decide)]; exact s7
      refine wp_value (w' := w') (v := .slice ca cn cc) (by simp [execOp, ev, go_sem]) ?_
      exact ⟨_, by rw [ha]; exact putAll_put A 43 0 l _ (by omega) (by omega), by rw [List.length_set]; exact hlen, hB, set_known hlen (by decide) hl⟩
    | 1, ho =>
      cases Option.some.inj ho
      refine ⟨rfl, ?_⟩
      have ev : a.tmps[43]? = some (.slice ca cn cc) := known_at ha hsz hlen hl 0 (by decide) (hd ⟨0, .data⟩ (by simp) rfl)
      refine wp_value (w' := w') (v := .string (strOfNums X)) (by simp [execOp, ev, go_sem, (IC.below hB).str]) ?_
      exact ⟨_, by rw [ha]; exact putAll_put A 43 1 l _ (by omega) (by omega), by rw [List.length_set]; exact hlen, hB, set_known hlen (by decide) hl⟩
    | 2, ho =>
      cases Option.some.inj ho
      refine ⟨rfl, ?_⟩
      have ev : a.tmps[9]? = some (.slice da dn dc) := by rw [ha, putAll_low A 43 9 l (by omega) (by decide)]; exact s9
      refine wp_value (w' := w') (v := .slice da dn dc) (by simp [execOp, ev, go_sem]) ?_
      exact ⟨_, by rw [ha]; exact putAll_put A 43 2 l _ (by omega) (by omega), by rw [List.length_set]; exact hlen, hB, set_known hlen (by decide) hl⟩
    | 3, ho =>
      cases Option.some.inj ho
      refine ⟨rfl, ?_⟩
      have ev : a.tmps[45]? = some (.slice da dn dc) := known_at ha hsz hlen hl 2 (by decide) (hd ⟨2, .data⟩ (by simp) rfl)
      refine wp_value (w' := w') (v := .string (strOfNums X)) (by simp [execOp, ev, go_sem, (ID.below hB).str]) ?_
      exact ⟨_, by rw [ha]; exact putAll_put A 43 3 l _ (by omega) (by omega), by rw [List.length_set]; exact hlen, hB, set_known hlen (by decide) hl⟩
    | 4, ho =>
      cases Option.some.inj ho
      refine ⟨rfl, ?_⟩
      have ev : a.tmps[44]? = some (.string (strOfNums X)) := known_at ha hsz hlen hl 1 (by decide) (hd ⟨1, .data⟩ (by simp) rfl)
      have ev' : a.tmps[46]? = some (.string (strOfNums X)) := known_at ha hsz hlen hl 3 (by decide) (hd ⟨3, .data⟩ (by simp) rfl)
      refine wp_value (w' := w') (v := .bool false) (by simp [execOp, ev, ev', go_sem]) ?_
      exact ⟨_, by rw [ha]; exact putAll_put A 43 4 l _ (by omega) (by omega), by rw [List.length_set]; exact hlen, hB, set_known hlen (by decide) hl⟩
    | 5, ho =>
      cases Option.some.inj ho
      refine ⟨rfl, ?_⟩
      have ev : a.tmps[47]? = some (.bool false) := known_at ha hsz hlen hl 4 (by decide) (hd ⟨4, .data⟩ (by simp) rfl)
      refine wp_value (w' := w') (v := .bool false) (by simp [execOp, ev, go_sem]) ?_
      exact ⟨_, by rw [ha]; exact putAll_put A 43 5 l _ (by omega) (by omega), by rw [List.length_set]; exact hlen, hB, set_known hlen (by decide) hl⟩
    | 6, ho =>
      cases Option.some.inj ho
      refine ⟨wanted_of (k := 48) rfl rfl rfl (known_at ha hsz hlen hl 5 (by decide) (hd ⟨5, .guard⟩ (by simp) rfl)), ?_⟩
      have ev : a.tmps[8]? = some (.int .i64 pe) := by rw [ha, putAll_low A 43 8 l (by omega) (by decide)]; exact s8
      refine wp_value (w' := w') (v := .int .i64 pe) (by simp [execOp, ev, go_sem]) ?_
      exact ⟨_, by rw [ha]; exact putAll_put A 43 6 l _ (by omega) (by omega), by rw [List.length_set]; exact hlen, hB, set_known hlen (by decide) hl⟩
    | 7, ho =>
      cases Option.some.inj ho
      refine ⟨wanted_of (k := 48) rfl rfl rfl (known_at ha hsz hlen hl 5 (by decide) (hd ⟨5, .guard⟩ (by simp) rfl)), ?_⟩
      have ev : a.tmps[10]? = some (.int .i64 pe) := by rw [ha, putAll_low A 43 10 l (by omega) (by decide)]; exact s10
      refine wp_value (w' := w') (v := .int .i64 pe) (by simp [execOp, ev, go_sem]) ?_
      exact ⟨_, by rw [ha]; exact putAll_put A 43 7 l _ (by omega) (by omega), by rw [List.length_set]; exact hlen, hB, set_known hlen (by decide) hl⟩
    | 8, ho =>
      cases Option.some.inj ho
      refine ⟨wanted_of (k := 48) rfl rfl rfl (known_at ha hsz hlen hl 5 (by decide) (hd ⟨5, .guard⟩ (by simp) rfl)), ?_⟩
      have ev : a.tmps[49]? = some (.int .i64 pe) := known_at ha hsz hlen hl 6 (by decide) (hd ⟨6, .data⟩ (by simp) rfl)
      have ev' : a.tmps[50]? = some (.int .i64 pe) := known_at ha hsz hlen hl 7 (by decide) (hd ⟨7, .data⟩ (by simp) rfl)
      refine wp_value (w' := w') (v := .bool false) (by simp [execOp, ev, ev', go_sem]) ?_
      exact ⟨_, by rw [ha]; exact putAll_put A 43 8 l _ (by omega) (by omega), by rw [List.length_set]; exact hlen, hB, set_known hlen (by decide) hl⟩
    | 9, ho =>
      cases Option.some.inj ho
      refine ⟨rfl, ?_⟩
      have ev : a.tmps[48]? = some (.bool false) := known_at ha hsz hlen hl 5 (by decide) (hd ⟨5, .data⟩ (by simp) rfl)
      have ev' : a.tmps[51]? = some (.bool false) := known_at ha hsz hlen hl 8 (by decide) (hd ⟨8, .data⟩ (by simp) rfl)
      refine wp_value (w' := w') (v := .bool false) (by simp [execOp, ev, ev', go_sem]) ?_
      exact ⟨_, by rw [ha]; exact putAll_put A 43 9 l _ (by omega) (by omega), by rw [List.length_set]; exact hlen, hB, set_known hlen (by decide) hl⟩
    | 10, ho =>
      cases Option.some.inj ho
      refine ⟨rfl, ?_⟩
      have ev : a.tmps[52]? = some (.bool false) := known_at ha hsz hlen hl 9 (by decide) (hd ⟨9, .data⟩ (by simp) rfl)
      refine wp_value (w' := w') (v := .bool false) (by simp [execOp, ev, go_sem]) ?_
      exact ⟨_, by rw [ha]; exact putAll_put A 43 10 l _ (by omega) (by omega), by rw [List.length_set]; exact hlen, hB, set_known hlen (by decide) hl⟩
    | 11, ho =>
      cases Option.some.inj ho
      refine ⟨wanted_of (k := 53) rfl rfl rfl (known_at ha hsz hlen hl 10 (by decide) (hd ⟨10, .guard⟩ (by simp) rfl)), ?_⟩
      have ev : a.tmps[11]? = some (.pointer (some ⟨b11, 0, none⟩)) := by rw [ha, putAll_low A 43 11 l (by omega) (by decide)]; exact s11
      obtain ⟨z0, z1, z2, z3, _⟩ := numP_cells ((hB.block _ (lt_of_blockF E11)).trans E11)
      refine wp_value (w' := w') (v := .agg #[.bool p2, .bool n2, .slice ya yn yc, .complex .f64 x2 y2]) (by simp [execOp, ev, go_sem, z0, z1, z2, z3]) ?_
      exact ⟨_, by rw [ha]; exact putAll_put A 43 11 l _ (by omega) (by omega), by rw [List.length_set]; exact hlen, hB, set_known hlen (by decide) hl⟩
    | 12, ho =>
      cases Option.some.inj ho
      refine ⟨wanted_of (k := 53) rfl rfl rfl (known_at ha hsz hlen hl 10 (by decide) (hd ⟨10, .guard⟩ (by simp) rfl)), ?_⟩
      have ev : a.tmps[54]? = some (.agg #[.bool p2, .bool n2, .slice ya yn yc, .complex .f64 x2 y2]) := known_at ha hsz hlen hl 11 (by decide) (hd ⟨11, .data⟩ (by simp) rfl)
      refine wp_enter (f := 12) (args := #[.agg #[.bool p2, .bool n2, .slice ya yn yc, .complex .f64 x2 y2]]) (by simp [execOp, ev, go_sem]) ?_
      refine (taken_N p2 n2 (.slice ya yn yc) x2 y2 ⟨_, _, _, rfl⟩).mono ?_
      rintro e w6 ⟨rfl, HB⟩
      refine ⟨_, rfl, ?_⟩
      exact ⟨_, by rw [ha]; exact putAll_put A 43 12 l _ (by omega) (by omega), by rw [List.length_set]; exact hlen, below_sizeF hB (Nat.le_refl _) HB, set_known hlen (by decide) hl⟩
    | 13, ho =>
      cases Option.some.inj ho
      refine ⟨wanted_of (k := 53) rfl rfl rfl (known_at ha hsz hlen hl 10 (by decide) (hd ⟨10, .guard⟩ (by simp) rfl)), ?_⟩
      have ev : a.tmps[13]? = some (.pointer (some ⟨b13, 0, none⟩)) := by rw [ha, putAll_low A 43 13 l (by omega) (by decide)]; exact s13
      obtain ⟨z0, z1, z2, z3, z4, _⟩ := numR_cells ((hB.block _ (lt_of_blockF E13)).trans E13)
      refine wp_value (w' := w') (v := .agg #[.bool p2, .bool n2, .slice za zn zc, .float .f64 x2, .float .f64 y2]) (by simp [execOp, ev, go_sem, z0, z1, z2, z3, z4]) ?_
      exact ⟨_, by rw [ha]; exact putAll_put A 43 13 l _ (by omega) (by omega), by rw [List.length_set]; exact hlen, hB, set_known hlen (by decide) hl⟩
    | 14, ho =>
      cases Option.some.inj ho
      refine ⟨wanted_of (k := 53) rfl rfl rfl (known_at ha hsz hlen hl 10 (by decide) (hd ⟨10, .guard⟩ (by simp) rfl)), ?_⟩
      have ev : a.tmps[55]? = some (.agg #[.bool p2, .bool n2, .slice ya yn yc, .float .f64 x2, .float .f64 y2]) := known_at ha hsz hlen hl 12 (by decide) (hd ⟨12, .data⟩ (by simp) rfl)
      have ev' : a.tmps[56]? = some (.agg #[.bool p2, .bool n2, .slice za zn zc, .float .f64 x2, .float .f64 y2]) := known_at ha hsz hlen hl 13 (by decide) (hd ⟨13, .data⟩ (by simp) rfl)
      refine wp_enter (f := 11) (args := #[.agg #[.bool p2, .bool n2, .slice ya yn yc, .float .f64 x2, .float .f64 y2], .agg #[.bool p2, .bool n2, .slice za zn zc, .float .f64 x2, .float .f64 y2]]) (by simp [execOp, ev, ev', go_sem]) ?_
      refine (sameN_true p2 n2 x2 y2 (IY.below hB) (IZ.below hB)).mono ?_
      rintro e w6 ⟨rfl, HB⟩
      refine ⟨_, rfl, ?_⟩
      exact ⟨_, by rw [ha]; exact putAll_put A 43 14 l _ (by omega) (by omega), by rw [List.length_set]; exact hlen, below_sizeF hB (Nat.le_refl _) HB, set_known hlen (by decide) hl⟩
    | 15, ho =>
      cases Option.some.inj ho
      refine ⟨wanted_of (k := 53) rfl rfl rfl (known_at ha hsz hlen hl 10 (by decide) (hd ⟨10, .guard⟩ (by simp) rfl)), ?_⟩
      have ev : a.tmps[57]? = some (.bool true) := known_at ha hsz hlen hl 14 (by decide) (hd ⟨14, .data⟩ (by simp) rfl)
      refine wp_value (w' := w') (v := .bool false) (by simp [execOp, ev, go_sem]) ?_
      exact ⟨_, by rw [ha]; exact putAll_put A 43 15 l _ (by omega) (by omega), by rw [List.length_set]; exact hlen, hB, set_known hlen (by decide) hl⟩
    | 16, ho =>
      cases Option.some.inj ho
      refine ⟨rfl, ?_⟩
      have ev : a.tmps[53]? = some (.bool false) := known_at ha hsz hlen hl 10 (by decide) (hd ⟨10, .data⟩ (by simp) rfl)
      have ev' : a.tmps[58]? = some (.bool false) := known_at ha hsz hlen hl 15 (by decide) (hd ⟨15, .data⟩ (by simp) rfl)
      refine wp_value (w' := w') (v := .bool false) (by simp [execOp, ev, ev', go_sem]) ?_
      exact ⟨_, by rw [ha]; exact putAll_put A 43 16 l _ (by omega) (by omega), by rw [List.length_set]; exact hlen, hB, set_known hlen (by decide) hl⟩
    | 17, ho =>
      cases Option.some.inj ho
      refine ⟨rfl, ?_⟩
      have ev : a.tmps[59]? = some (.bool false) := known_at ha hsz hlen hl 16 (by decide) (hd ⟨16, .data⟩ (by simp) rfl)
      refine wp_value (w' := w') (v := .bool false) (by simp [execOp, ev, go_sem]) ?_
      exact ⟨_, by rw [ha]; exact putAll_put A 43 17 l _ (by omega) (by omega), by rw [List.length_set]; exact hlen, hB, set_known hlen (by decide) hl⟩
    | 18, ho =>
      cases Option.some.inj ho
      refine ⟨wanted_of (k := 60) rfl rfl rfl (known_at ha hsz hlen hl 17 (by decide) (hd ⟨17, .guard⟩ (by simp) rfl)), ?_⟩
      have ev : a.tmps[12]? = some (.int .i64 ge) := by rw [ha, putAll_low A 43 12 l (by omega) (by decide)]; exact s12
      refine wp_value (w' := w') (v := .int .i64 ge) (by simp [execOp, ev, go_sem]) ?_
      exact ⟨_, by rw [ha]; exact putAll_put A 43 18 l _ (by omega) (by omega), by rw [List.length_set]; exact hlen, hB, set_known hlen (by decide) hl⟩
    | 19, ho =>
      cases Option.some.inj ho
      refine ⟨wanted_of (k := 60) rfl rfl rfl (known_at ha hsz hlen hl 17 (by decide) (hd ⟨17, .guard⟩ (by simp) rfl)), ?_⟩
      have ev : a.tmps[14]? = some (.int .i64 ge) := by rw [ha, putAll_low A 43 14 l (by omega) (by decide)]; exact s14
      refine wp_value (w' := w') (v := .int .i64 ge) (by simp [execOp, ev, go_sem]) ?_
      exact ⟨_, by rw [ha]; exact putAll_put A 43 19 l _ (by omega) (by omega), by rw [List.length_set]; exact hlen, hB, set_known hlen (by decide) hl⟩
    | 20, ho =>
      cases Option.some.inj ho
      refine ⟨wanted_of (k := 60) rfl rfl rfl (known_at ha hsz hlen hl 17 (by decide) (hd ⟨17, .guard⟩ (by simp) rfl)), ?_⟩
      have ev : a.tmps[61]? = some (.int .i64 ge) := known_at ha hsz hlen hl 18 (by decide) (hd ⟨18, .data⟩ (by simp) rfl)
      have ev' : a.tmps[62]? = some (.int .i64 ge) := known_at ha hsz hlen hl 19 (by decide) (hd ⟨19, .data⟩ (by simp) rfl)
      refine wp_value (w' := w') (v := .bool false) (by simp [execOp, ev, ev', go_sem]) ?_
      exact ⟨_, by rw [ha]; exact putAll_put A 43 20 l _ (by omega) (by omega), by rw [List.length_set]; exact hlen, hB, set_known hlen (by decide) hl⟩
    | 21, ho =>
      cases Option.some.inj ho
      refine ⟨rfl, ?_⟩
      have ev : a.tmps[60]? = some (.bool false) := known_at ha hsz hlen hl 17 (by decide) (hd ⟨17, .data⟩ (by simp) rfl)
      have ev' : a.tmps[63]? = some (.bool false) := known_at ha hsz hlen hl 20 (by decide) (hd ⟨20, .data⟩ (by simp) rfl)
      refine wp_value (w' := w') (v := .bool false) (by simp [execOp, ev, ev', go_sem]) ?_
      exact ⟨_, by rw [ha]; exact putAll_put A 43 21 l _ (by omega) (by omega), by rw [List.length_set]; exact hlen, hB, set_known hlen (by decide) hl⟩
    | 22, ho =>
      cases Option.some.inj ho
      refine ⟨rfl, ?_⟩
      have ev : a.tmps[64]? = some (.bool false) := known_at ha hsz hlen hl 21 (by decide) (hd ⟨21, .data⟩ (by simp) rfl)
      refine wp_value (w' := w') (v := .bool false) (by simp [execOp, ev, go_sem]) ?_
      exact ⟨_, by rw [ha]; exact putAll_put A 43 22 l _ (by omega) (by omega), by rw [List.length_set]; exact hlen, hB, set_known hlen (by decide) hl⟩
    | 23, ho =>
      cases Option.some.inj ho
      refine ⟨wanted_of (k := 65) rfl rfl rfl (known_at ha hsz hlen hl 22 (by decide) (hd ⟨22, .guard⟩ (by simp) rfl)), ?_⟩
      have ev : a.tmps[5]? = some (.slice (some ⟨g5, 0, none⟩) bn (bn + 8)) := by rw [ha, putAll_low A 43 5 l (by omega) (by decide)]; exact s5
      refine wp_value (w' := w') (v := .slice (some ⟨g5, 0, none⟩) bn (bn + 8)) (by simp [execOp, ev, go_sem]) ?_
      exact ⟨_, by rw [ha]; exact putAll_put A 43 23 l _ (by omega) (by omega), by rw [List.length_set]; exact hlen, hB, set_known hlen (by decide) hl⟩
    | 24, ho =>
      cases Option.some.inj ho
      refine ⟨wanted_of (k := 65) rfl rfl rfl (known_at ha hsz hlen hl 22 (by decide) (hd ⟨22, .guard⟩ (by simp) rfl)), ?_⟩
      have ev : a.tmps[1]? = some (.slice ba bn bc) := by rw [ha, putAll_low A 43 1 l (by omega) (by decide)]; exact s1
      refine wp_value (w' := w') (v := .slice ba bn bc) (by simp [execOp, ev, go_sem]) ?_
      exact ⟨_, by rw [ha]; exact putAll_put A 43 24 l _ (by omega) (by omega), by rw [List.length_set]; exact hlen, hB, set_known hlen (by decide) hl⟩
    | 25, ho =>
      cases Option.some.inj ho
      refine ⟨wanted_of (k := 65) rfl rfl rfl (known_at ha hsz hlen hl 22 (by decide) (hd ⟨22, .guard⟩ (by simp) rfl)), ?_⟩
      have ev : a.tmps[66]? = some (.slice (some ⟨g5, 0, none⟩) bn (bn + 8)) := known_at ha hsz hlen hl 23 (by decide) (hd ⟨23, .data⟩ (by simp) rfl)
      have ev' : a.tmps[67]? = some (.slice ba bn bc) := known_at ha hsz hlen hl 24 (by decide) (hd ⟨24, .data⟩ (by simp) rfl)
      refine wp_enter (f := 14) (args := #[.slice (some ⟨g5, 0, none⟩) bn (bn + 8), .slice ba bn bc]) (by simp [execOp, ev, ev', go_sem]) ?_
      refine (kept_bN (IL.below hB) (IB.below hB) hbl).mono ?_
      rintro e w6 ⟨rfl, HB⟩
      refine ⟨_, rfl, ?_⟩
      exact ⟨_, by rw [ha]; exact putAll_put A 43 25 l _ (by omega) (by omega), by rw [List.length_set]; exact hlen, below_sizeF hB (Nat.le_refl _) HB, set_known hlen (by decide) hl⟩
    | 26, ho =>
      cases Option.some.inj ho
      refine ⟨wanted_of (k := 65) rfl rfl rfl (known_at ha hsz hlen hl 22 (by decide) (hd ⟨22, .guard⟩ (by simp) rfl)), ?_⟩
      have ev : a.tmps[68]? = some (.bool true) := known_at ha hsz hlen hl 25 (by decide) (hd ⟨25, .data⟩ (by simp) rfl)
      refine wp_value (w' := w') (v := .bool false) (by simp [execOp, ev, go_sem]) ?_
      exact ⟨_, by rw [ha]; exact putAll_put A 43 26 l _ (by omega) (by omega), by rw [List.length_set]; exact hlen, hB, set_known hlen (by decide) hl⟩
    | 27, ho =>
      cases Option.some.inj ho
      refine ⟨rfl, ?_⟩
      have ev : a.tmps[65]? = some (.bool false) := known_at ha hsz hlen hl 22 (by decide) (hd ⟨22, .data⟩ (by simp) rfl)
      have ev' : a.tmps[69]? = some (.bool false) := known_at ha hsz hlen hl 26 (by decide) (hd ⟨26, .data⟩ (by simp) rfl)
      refine wp_value (w' := w') (v := .bool false) (by simp [execOp, ev, ev', go_sem]) ?_
      exact ⟨_, by rw [ha]; exact putAll_put A 43 27 l _ (by omega) (by omega), by rw [List.length_set]; exact hlen, hB, set_known hlen (by decide) hl⟩
    | i + 28, ho => simp at ho
  case done =>
    rintro D a w' ⟨l, ha, hlen, hB, hl⟩ hall
    obtain ⟨v0, v1, v2, v3, v4, v5, v6, v7, v8, v9, v10, v11, v12, v13, v14, v15, v16, v17, v18, v19, v20, v21, v22, v23, v24, v25, v26, v27, rfl⟩ := nbV_list hlen
    have hz := hl 27 (by decide) (hall 27 (by decide))
    simp only [List.getElem?_cons_succ, List.getElem?_cons_zero, Option.some.injEq] at hz
    have hz' : v27 = .bool false := hz
    subst hz'
    subst hA
    have hfr : a = _ := ha
    rw [hfr]
    clear hfr ha
    simp only [putAll, List.take_succ_cons, List.take_zero, List.drop_succ_cons, List.drop_zero, List.cons_append, List.nil_append, List.length_cons, List.length_nil]
    clear hl hall hz
    have Bq' := below_sizeF Bq (Nat.le_refl _) hB
    have IJ1 := IJ.below hB
    have ID1 := ID.below hB
    have IB1 := IB.below hB
    have IY1 := IY.below hB
    have E21 := (hB.block _ (lt_of_blockF E2)).trans E2
    have E111 := (hB.block _ (lt_of_blockF E11)).trans E11
    clear hB IJ IC ID IB IY IZ IL E2 E11 E13 Bq
    by_cases hge : ge = 0
    · subst hge
      obtain ⟨hRy, hYb⟩ := hget rfl
      obtain ⟨z0, z1, z2, z3, zf⟩ := numP_cells E111
      go_wp2_with fail
      clear z0 z1 z2 z3 zf
      refine (putN_any p2 n2 x2 y2 hx2 hy2 IY1 (by omega)).mono ?_
      rintro e w7 ⟨hor, B7⟩
      obtain ⟨_, ka, kn, kc, rfl, OK⟩ := hor.resolve_left (fun h => by rw [hRy] at h; exact absurd h.1 (by decide))
      rw [hYb] at OK
      have hsK := OK.2.choose_spec.choose_spec
      have IK : IsB w7 ka kn kc bs := by
        obtain ⟨_, a', c', e', k'⟩ := OK
        simp only [Value.slice.injEq] at e'
        obtain ⟨rfl, rfl, rfl⟩ := e'
        exact k'
      have hs1 := IK.str
      have hs2 := (IB1.below B7).str
      replace IJ1 := IJ1.below B7
      replace ID1 := ID1.below B7
      replace E21 := (B7.block _ (lt_of_blockF E21)).trans E21
      replace Bq' := below_sizeF Bq' (Nat.le_refl _) B7
      clear B7 OK IK IB1 IY1 E111 hsK
      go_upto_region 13 with fail
      clear hs1 hs2
      by_cases h0 : pe = 0
      · subst h0
        obtain ⟨hR, hX⟩ := hput rfl
        have hG : okGN X = true := by rw [hX]; exact okGN_put hR
        have hP : Hid (parseN X = (true, pp, ng, xs, x, y)) := by show parseN X = _; rw [hX]; exact parse_put hR hx hy
        have hdn : dn ≤ 140737488355328 := by have h1 := ID1.size; rw [hX] at h1; have h2 := putN_len (p := pp) (neg := ng) (xs := xs) (x := x) (y := y); have h3 := hxs; omega
        go_wp2_with fail
        refine (getN_any ID1 hdn).mono ?_
        rintro e w8 ⟨B8, hor⟩
        obtain ⟨_, va, vn, vc, rfl, OV⟩ := hor.resolve_right (fun h => by rw [hG] at h; exact absurd h.1 (by decide))
        rw [hP.out] at OV ⊢
        dsimp only at OV ⊢
        have IV0 : IsB w8 va vn vc xs := by
          obtain ⟨_, a', c', e', k'⟩ := OV
          simp only [Value.slice.injEq] at e'
          obtain ⟨rfl, rfl, rfl⟩ := e'
          exact k'
        have IV := IV0.below (box_belowF (o := numP pp ng (.slice va vn vc) x y))
        have E17 := newF w8 (numP pp ng (.slice va vn vc) x y)
        have E2' := oldF ((B8.block _ (lt_of_blockF E21)).trans E21) (numP pp ng (.slice va vn vc) x y)
        have IJ' := (IJ1.below B8).below (box_belowF (o := numP pp ng (.slice va vn vc) x y))
        have Br := below_sizeF (below_sizeF Bq' (Nat.le_refl _) B8) (Nat.le_refl _) (box_belowF (o := numP pp ng (.slice va vn vc) x y))
        clear B8 IJ1 ID1 E21 Bq' hG hP OV IV0
        unfold numP at E17 E2' IV IJ' Br
        go_upto_region 16 with fail
        replace E17 : _ = some (numP pp ng (.slice va vn vc) x y) := E17
        replace E2' : _ = some (numR pp ng (.slice ja jn jc) x y) := E2'
        generalize w8.alloc (.cells #[.bool pp, .bool ng, .slice va vn vc, .complex .f64 x y] 31) = wr at *
        generalize w8.heap.size = b17 at *
        have E2 := E2'
        have IJ := IJ'
        clear E2' IJ'
        refine abstract_act fun A hA => ?_
        have hsz : A.tmps.size = 106 := by rw [hA]; rfl
        have st : A.tmps[4]? = some (.bool false) := by rw [hA]; rfl
        have s2 : A.tmps[2]? = some (.pointer (some ⟨b2, 0, none⟩)) := by rw [hA]; rfl
        have s17 : A.tmps[17]? = some (.pointer (some ⟨b17, 0, none⟩)) := by rw [hA]; rfl
        have s18 : A.tmps[18]? = some (.int .i64 0) := by rw [hA]; rfl
        refine wp_region_inv2' (fun A D a w' => ∃ (l : List Value) (vt : Value), a = (putAll A 95 l).put (some 4) vt ∧ l.length = 11 ∧ Below wr.heap.size wr w' ∧ (∀ j, j < 11 → D j → l[j]? = some (nbW pp ng x y ja va jn jc vn vc j)) ∧ (D 11 → vt = .bool true)) (by kernel_rfl) (by kernel_rfl) ?mono ?start ?step ?done
        case mono =>
          rintro D D' a w' hD ⟨l, vt, ha, hlen, hB, hl, hvt⟩
          exact ⟨l, vt, ha, hlen, hB, fun j hj h => hl j hj ((hD j).2 h), fun h => hvt ((hD 11).2 h)⟩
        case start => exact ⟨_, _, putT_start A 95 11 4 _ (by omega) (by decide) st, (putAll_start A 95 11 (by omega)).2, (Below.refl _ _).drew, fun _ _ h => h.elim, fun h => h.elim⟩
        case step =>
          clear hA
          intro i o ho D a w' hI hn hcl hd
          obtain ⟨l, vt, ha, hlen, hB, hl, hvt⟩ := hI
          match i, ho with
          | 0, ho =>
            cases Option.some.inj ho
            refine ⟨rfl, ?_⟩
            have ev : a.tmps[18]? = some (.int .i64 0) := by rw [ha, putT_other _ _ _ _ (by decide), putAll_low A 95 18 l (by omega) (by decide)]; exact s18
            refine wp_value (w' := w') (v := .int .i64 0) (by simp [execOp, ev, go_sem]) ?_
            exact ⟨_, vt, by rw [ha]; exact putT_put A 95 0 4 l _ _ (by omega) (by omega) (by decide), by rw [List.length_set]; exact hlen, hB, set_known hlen (by decide) hl, fun h => hvt (h.resolve_left (by decide))⟩
          | 1, ho =>
            cases Option.some.inj ho
            refine ⟨rfl, ?_⟩
            have ev : a.tmps[95]? = some (.int .i64 0) := known_atT ha hsz hlen hl 0 (by decide) (hd ⟨0, .data⟩ (by simp) rfl)
            refine wp_value (w' := w') (v := .bool true) (by simp [execOp, ev, go_sem]) ?_
            exact ⟨_, vt, by rw [ha]; exact putT_put A 95 1 4 l _ _ (by omega) (by omega) (by decide), by rw [List.length_set]; exact hlen, hB, set_known hlen (by decide) hl, fun h => hvt (h.resolve_left (by decide))⟩
          | 2, ho =>
            cases Option.some.inj ho
            refine ⟨rfl, ?_⟩
            have ev : a.tmps[96]? = some (.bool true) := known_atT ha hsz hlen hl 1 (by decide) (hd ⟨1, .data⟩ (by simp) rfl)
            refine wp_value (w' := w') (v := .bool true) (by simp [execOp, ev, go_sem]) ?_
            exact ⟨_, vt, by rw [ha]; exact putT_put A 95 2 4 l _ _ (by omega) (by omega) (by decide), by rw [List.length_set]; exact hlen, hB, set_known hlen (by decide) hl, fun h => hvt (h.resolve_left (by decide))⟩
          | 3, ho =>
            cases Option.some.inj ho
            refine ⟨wanted_of (k := 97) rfl rfl rfl (known_atT ha hsz hlen hl 2 (by decide) (hd ⟨2, .guard⟩ (by simp) rfl)), ?_⟩
            have ev : a.tmps[17]? = some (.pointer (some ⟨b17, 0, none⟩)) := by rw [ha, putT_other _ _ _ _ (by decide), putAll_low A 95 17 l (by omega) (by decide)]; exact s17
            obtain ⟨z0, z1, z2, z3, _⟩ := numP_cells ((hB.block _ (lt_of_blockF E17)).trans E17)
            refine wp_value (w' := w') (v := .agg #[.bool pp, .bool ng, .slice va vn vc, .complex .f64 x y]) (by simp [execOp, ev, go_sem, z0, z1, z2, z3]) ?_
            exact ⟨_, vt, by rw [ha]; exact putT_put A 95 3 4 l _ _ (by omega) (by omega) (by decide), by rw [List.length_set]; exact hlen, hB, set_known hlen (by decide) hl, fun h => hvt (h.resolve_left (by decide))⟩
          | 4, ho =>
            cases Option.some.inj ho
            refine ⟨wanted_of (k := 97) rfl rfl rfl (known_atT ha hsz hlen hl 2 (by decide) (hd ⟨2, .guard⟩ (by simp) rfl)), ?_⟩
            have ev : a.tmps[98]? = some (.agg #[.bool pp, .bool ng, .slice va vn vc, .complex .f64 x y]) := known_atT ha hsz hlen hl 3 (by decide) (hd ⟨3, .data⟩ (by simp) rfl)
            refine wp_enter (f := 12) (args := #[.agg #[.bool pp, .bool ng, .slice va vn vc, .complex .f64 x y]]) (by simp [execOp, ev, go_sem]) ?_
            refine (taken_N pp ng (.slice va vn vc) x y ⟨_, _, _, rfl⟩).mono ?_
            rintro e w6 ⟨rfl, HB⟩
            refine ⟨_, rfl, ?_⟩
            exact ⟨_, vt, by rw [ha]; exact putT_put A 95 4 4 l _ _ (by omega) (by omega) (by decide), by rw [List.length_set]; exact hlen, below_sizeF hB (Nat.le_refl _) HB, set_known hlen (by decide) hl, fun h => hvt (h.resolve_left (by decide))⟩
          | 5, ho =>
            cases Option.some.inj ho
            refine ⟨wanted_of (k := 97) rfl rfl rfl (known_atT ha hsz hlen hl 2 (by decide) (hd ⟨2, .guard⟩ (by simp) rfl)), ?_⟩
            have ev : a.tmps[2]? = some (.pointer (some ⟨b2, 0, none⟩)) := by rw [ha, putT_other _ _ _ _ (by decide), putAll_low A 95 2 l (by omega) (by decide)]; exact s2
            obtain ⟨z0, z1, z2, z3, z4, _⟩ := numR_cells ((hB.block _ (lt_of_blockF E2)).trans E2)
            refine wp_value (w' := w') (v := .agg #[.bool pp, .bool ng, .slice ja jn jc, .float .f64 x, .float .f64 y]) (by simp [execOp, ev, go_sem, z0, z1, z2, z3, z4]) ?_
            exact ⟨_, vt, by rw [ha]; exact putT_put A 95 5 4 l _ _ (by omega) (by omega) (by decide), by rw [List.length_set]; exact hlen, hB, set_known hlen (by decide) hl, fun h => hvt (h.resolve_left (by decide))⟩
          | 6, ho =>
            cases Option.some.inj ho
            refine ⟨wanted_of (k := 97) rfl rfl rfl (known_atT ha hsz hlen hl 2 (by decide) (hd ⟨2, .guard⟩ (by simp) rfl)), ?_⟩
            have ev : a.tmps[99]? = some (.agg #[.bool pp, .bool ng, .slice va vn vc, .float .f64 x, .float .f64 y]) := known_atT ha hsz hlen hl 4 (by decide) (hd ⟨4, .data⟩ (by simp) rfl)
            have ev' : a.tmps[100]? = some (.agg #[.bool pp, .bool ng, .slice ja jn jc, .float .f64 x, .float .f64 y]) := known_atT ha hsz hlen hl 5 (by decide) (hd ⟨5, .data⟩ (by simp) rfl)
            refine wp_enter (f := 11) (args := #[.agg #[.bool pp, .bool ng, .slice va vn vc, .float .f64 x, .float .f64 y], .agg #[.bool pp, .bool ng, .slice ja jn jc, .float .f64 x, .float .f64 y]]) (by simp [execOp, ev, ev', go_sem]) ?_
            refine (sameN_true pp ng x y (IV.below hB) (IJ.below hB)).mono ?_
            rintro e w6 ⟨rfl, HB⟩
            refine ⟨_, rfl, ?_⟩
            exact ⟨_, vt, by rw [ha]; exact putT_put A 95 6 4 l _ _ (by omega) (by omega) (by decide), by rw [List.length_set]; exact hlen, below_sizeF hB (Nat.le_refl _) HB, set_known hlen (by decide) hl, fun h => hvt (h.resolve_left (by decide))⟩
          | 7, ho =>
            cases Option.some.inj ho
            refine ⟨rfl, ?_⟩
            have ev : a.tmps[97]? = some (.bool true) := known_atT ha hsz hlen hl 2 (by decide) (hd ⟨2, .data⟩ (by simp) rfl)
            have ev' : a.tmps[101]? = some (.bool true) := known_atT ha hsz hlen hl 6 (by decide) (hd ⟨6, .data⟩ (by simp) rfl)
            refine wp_value (w' := w') (v := .bool true) (by simp [execOp, ev, ev', go_sem]) ?_
            exact ⟨_, vt, by rw [ha]; exact putT_put A 95 7 4 l _ _ (by omega) (by omega) (by decide), by rw [List.length_set]; exact hlen, hB, set_known hlen (by decide) hl, fun h => hvt (h.resolve_left (by decide))⟩
          | 8, ho =>
            cases Option.some.inj ho
            refine ⟨rfl, ?_⟩
            have ev : a.tmps[102]? = some (.bool true) := known_atT ha hsz hlen hl 7 (by decide) (hd ⟨7, .data⟩ (by simp) rfl)
            refine wp_value (w' := w') (v := .bool true) (by simp [execOp, ev, go_sem]) ?_
            exact ⟨_, vt, by rw [ha]; exact putT_put A 95 8 4 l _ _ (by omega) (by omega) (by decide), by rw [List.length_set]; exact hlen, hB, set_known hlen (by decide) hl, fun h => hvt (h.resolve_left (by decide))⟩
          | 9, ho =>
            cases Option.some.inj ho
            refine ⟨wanted_of (k := 103) rfl rfl rfl (known_atT ha hsz hlen hl 8 (by decide) (hd ⟨8, .guard⟩ (by simp) rfl)), ?_⟩
            refine wp_enter (f := 15) (args := #[]) (by simp [execOp, go_sem]) ?_
            refine (known_true w').mono ?_
            rintro e w6 ⟨rfl, HB⟩
            refine ⟨_, rfl, ?_⟩
            exact ⟨_, vt, by rw [ha]; exact putT_put A 95 9 4 l _ _ (by omega) (by omega) (by decide), by rw [List.length_set]; exact hlen, below_sizeF hB (Nat.le_refl _) HB, set_known hlen (by decide) hl, fun h => hvt (h.resolve_left (by decide))⟩
          | 10, ho =>
            cases Option.some.inj ho
            refine ⟨rfl, ?_⟩
            have ev : a.tmps[103]? = some (.bool true) := known_atT ha hsz hlen hl 8 (by decide) (hd ⟨8, .data⟩ (by simp) rfl)
            have ev' : a.tmps[104]? = some (.bool true) := known_atT ha hsz hlen hl 9 (by decide) (hd ⟨9, .data⟩ (by simp) rfl)
            refine wp_value (w' := w') (v := .bool true) (by simp [execOp, ev, ev', go_sem]) ?_
            exact ⟨_, vt, by rw [ha]; exact putT_put A 95 10 4 l _ _ (by omega) (by omega) (by decide), by rw [List.length_set]; exact hlen, hB, set_known hlen (by decide) hl, fun h => hvt (h.resolve_left (by decide))⟩
          | 11, ho =>
            cases Option.some.inj ho
            refine ⟨rfl, ?_⟩
            have ev : a.tmps[105]? = some (.bool true) := known_atT ha hsz hlen hl 10 (by decide) (hd ⟨10, .data⟩ (by simp) rfl)
            refine wp_value (w' := w') (v := .bool true) (by simp [execOp, ev, go_sem]) ?_
            exact ⟨l, (.bool true), by rw [ha]; exact putT_again _ _ _ _, hlen, hB, fun j hj h => hl j hj (h.resolve_left (by omega)), fun _ => rfl⟩
          | i + 12, ho => simp at ho
        case done =>
          rintro D a w' ⟨l, vt, ha, hlen, hB, hl, hvt⟩ hall
          obtain rfl := hvt (hall 11 (by decide))
          obtain ⟨v0, v1, v2, v3, v4, v5, v6, v7, v8, v9, v10, rfl⟩ := nbW_list hlen
          clear hl hall hlen
          clear st s2 s17 s18 hsz
          subst hA
          have hfr : a = _ := ha
          rw [hfr]
          clear hfr ha
          simp only [putAll, List.take_succ_cons, List.take_zero, List.drop_succ_cons, List.drop_zero, List.cons_append, List.nil_append, List.length_cons, List.length_nil]
          simp only [Act.put, List.setIfInBounds_toArray, List.set_cons_zero, List.set_cons_succ]
          go_wp2
          go_ret
          exact ⟨rfl, below_sizeF Br (Nat.le_refl _) hB⟩
      · have hb0 : (pe == 0) = false := by simp; omega
        go_wp2_with fail
        refine (known_true _).mono ?_
        rintro e w9 ⟨rfl, B9⟩
        go_wp2
        go_ret
        exact ⟨rfl, below_sizeF Bq' (Nat.le_refl _) B9⟩
    · have hgb : (ge == 0) = false := by simp; omega
      clear IB1 IY1 E111
      go_upto_region 13 with fail
      by_cases h0 : pe = 0
      · subst h0
        obtain ⟨hR, hX⟩ := hput rfl
        have hG : okGN X = true := by rw [hX]; exact okGN_put hR
        have hP : Hid (parseN X = (true, pp, ng, xs, x, y)) := by show parseN X = _; rw [hX]; exact parse_put hR hx hy
        have hdn : dn ≤ 140737488355328 := by have h1 := ID1.size; rw [hX] at h1; have h2 := putN_len (p := pp) (neg := ng) (xs := xs) (x := x) (y := y); have h3 := hxs; omega
        go_wp2_with fail
        refine (getN_any ID1 hdn).mono ?_
        rintro e w8 ⟨B8, hor⟩
        obtain ⟨_, va, vn, vc, rfl, OV⟩ := hor.resolve_right (fun h => by rw [hG] at h; exact absurd h.1 (by decide))
        rw [hP.out] at OV ⊢
        dsimp only at OV ⊢
        have IV0 : IsB w8 va vn vc xs := by
          obtain ⟨_, a', c', e', k'⟩ := OV
          simp only [Value.slice.injEq] at e'
          obtain ⟨rfl, rfl, rfl⟩ := e'
          exact k'
        have IV := IV0.below (box_belowF (o := numP pp ng (.slice va vn vc) x y))
        have E17 := newF w8 (numP pp ng (.slice va vn vc) x y)
        have E2' := oldF ((B8.block _ (lt_of_blockF E21)).trans E21) (numP pp ng (.slice va vn vc) x y)
        have IJ' := (IJ1.below B8).below (box_belowF (o := numP pp ng (.slice va vn vc) x y))
        have Br := below_sizeF (below_sizeF Bq' (Nat.le_refl _) B8) (Nat.le_refl _) (box_belowF (o := numP pp ng (.slice va vn vc) x y))
        clear B8 IJ1 ID1 E21 Bq' hG hP OV IV0
        unfold numP at E17 E2' IV IJ' Br
        go_upto_region 16 with fail
        replace E17 : _ = some (numP pp ng (.slice va vn vc) x y) := E17
        replace E2' : _ = some (numR pp ng (.slice ja jn jc) x y) := E2'
        generalize w8.alloc (.cells #[.bool pp, .bool ng, .slice va vn vc, .complex .f64 x y] 31) = wr at *
        generalize w8.heap.size = b17 at *
        have E2 := E2'
        have IJ := IJ'
        clear E2' IJ'
        refine abstract_act fun A hA => ?_
        have hsz : A.tmps.size = 106 := by rw [hA]; rfl
        have st : A.tmps[4]? = some (.bool false) := by rw [hA]; rfl
        have s2 : A.tmps[2]? = some (.pointer (some ⟨b2, 0, none⟩)) := by rw [hA]; rfl
        have s17 : A.tmps[17]? = some (.pointer (some ⟨b17, 0, none⟩)) := by rw [hA]; rfl
        have s18 : A.tmps[18]? = some (.int .i64 0) := by rw [hA]; rfl
        refine wp_region_inv2' (fun A D a w' => ∃ (l : List Value) (vt : Value), a = (putAll A 95 l).put (some 4) vt ∧ l.length = 11 ∧ Below wr.heap.size wr w' ∧ (∀ j, j < 11 → D j → l[j]? = some (nbW pp ng x y ja va jn jc vn vc j)) ∧ (D 11 → vt = .bool true)) (by kernel_rfl) (by kernel_rfl) ?mono ?start ?step ?done
        case mono =>
          rintro D D' a w' hD ⟨l, vt, ha, hlen, hB, hl, hvt⟩
          exact ⟨l, vt, ha, hlen, hB, fun j hj h => hl j hj ((hD j).2 h), fun h => hvt ((hD 11).2 h)⟩
        case start => exact ⟨_, _, putT_start A 95 11 4 _ (by omega) (by decide) st, (putAll_start A 95 11 (by omega)).2, (Below.refl _ _).drew, fun _ _ h => h.elim, fun h => h.elim⟩
        case step =>
          clear hA
          intro i o ho D a w' hI hn hcl hd
          obtain ⟨l, vt, ha, hlen, hB, hl, hvt⟩ := hI
          match i, ho with
          | 0, ho =>
            cases Option.some.inj ho
            refine ⟨rfl, ?_⟩
            have ev : a.tmps[18]? = some (.int .i64 0) := by rw [ha, putT_other _ _ _ _ (by decide), putAll_low A 95 18 l (by omega) (by decide)]; exact s18
            refine wp_value (w' := w') (v := .int .i64 0) (by simp [execOp, ev, go_sem]) ?_
            exact ⟨_, vt, by rw [ha]; exact putT_put A 95 0 4 l _ _ (by omega) (by omega) (by decide), by rw [List.length_set]; exact hlen, hB, set_known hlen (by decide) hl, fun h => hvt (h.resolve_left (by decide))⟩
          | 1, ho =>
            cases Option.some.inj ho
            refine ⟨rfl, ?_⟩
            have ev : a.tmps[95]? = some (.int .i64 0) := known_atT ha hsz hlen hl 0 (by decide) (hd ⟨0, .data⟩ (by simp) rfl)
            refine wp_value (w' := w') (v := .bool true) (by simp [execOp, ev, go_sem]) ?_
            exact ⟨_, vt, by rw [ha]; exact putT_put A 95 1 4 l _ _ (by omega) (by omega) (by decide), by rw [List.length_set]; exact hlen, hB, set_known hlen (by decide) hl, fun h => hvt (h.resolve_left (by decide))⟩
          | 2, ho =>
            cases Option.some.inj ho
            refine ⟨rfl, ?_⟩
            have ev : a.tmps[96]? = some (.bool true) := known_atT ha hsz hlen hl 1 (by decide) (hd ⟨1, .data⟩ (by simp) rfl)
            refine wp_value (w' := w') (v := .bool true) (by simp [execOp, ev, go_sem]) ?_
            exact ⟨_, vt, by rw [ha]; exact putT_put A 95 2 4 l _ _ (by omega) (by omega) (by decide), by rw [List.length_set]; exact hlen, hB, set_known hlen (by decide) hl, fun h => hvt (h.resolve_left (by decide))⟩
          | 3, ho =>
            cases Option.some.inj ho
            refine ⟨wanted_of (k := 97) rfl rfl rfl (known_atT ha hsz hlen hl 2 (by decide) (hd ⟨2, .guard⟩ (by simp) rfl)), ?_⟩
            have ev : a.tmps[17]? = some (.pointer (some ⟨b17, 0, none⟩)) := by rw [ha, putT_other _ _ _ _ (by decide), putAll_low A 95 17 l (by omega) (by decide)]; exact s17
            obtain ⟨z0, z1, z2, z3, _⟩ := numP_cells ((hB.block _ (lt_of_blockF E17)).trans E17)
            refine wp_value (w' := w') (v := .agg #[.bool pp, .bool ng, .slice va vn vc, .complex .f64 x y]) (by simp [execOp, ev, go_sem, z0, z1, z2, z3]) ?_
            exact ⟨_, vt, by rw [ha]; exact putT_put A 95 3 4 l _ _ (by omega) (by omega) (by decide), by rw [List.length_set]; exact hlen, hB, set_known hlen (by decide) hl, fun h => hvt (h.resolve_left (by decide))⟩
          | 4, ho =>
            cases Option.some.inj ho
            refine ⟨wanted_of (k := 97) rfl rfl rfl (known_atT ha hsz hlen hl 2 (by decide) (hd ⟨2, .guard⟩ (by simp) rfl)), ?_⟩
            have ev : a.tmps[98]? = some (.agg #[.bool pp, .bool ng, .slice va vn vc, .complex .f64 x y]) := known_atT ha hsz hlen hl 3 (by decide) (hd ⟨3, .data⟩ (by simp) rfl)
            refine wp_enter (f := 12) (args := #[.agg #[.bool pp, .bool ng, .slice va vn vc, .complex .f64 x y]]) (by simp [execOp, ev, go_sem]) ?_
            refine (taken_N pp ng (.slice va vn vc) x y ⟨_, _, _, rfl⟩).mono ?_
            rintro e w6 ⟨rfl, HB⟩
            refine ⟨_, rfl, ?_⟩
            exact ⟨_, vt, by rw [ha]; exact putT_put A 95 4 4 l _ _ (by omega) (by omega) (by decide), by rw [List.length_set]; exact hlen, below_sizeF hB (Nat.le_refl _) HB, set_known hlen (by decide) hl, fun h => hvt (h.resolve_left (by decide))⟩
          | 5, ho =>
            cases Option.some.inj ho
            refine ⟨wanted_of (k := 97) rfl rfl rfl (known_atT ha hsz hlen hl 2 (by decide) (hd ⟨2, .guard⟩ (by simp) rfl)), ?_⟩
            have ev : a.tmps[2]? = some (.pointer (some ⟨b2, 0, none⟩)) := by rw [ha, putT_other _ _ _ _ (by decide), putAll_low A 95 2 l (by omega) (by decide)]; exact s2
            obtain ⟨z0, z1, z2, z3, z4, _⟩ := numR_cells ((hB.block _ (lt_of_blockF E2)).trans E2)
            refine wp_value (w' := w') (v := .agg #[.bool pp, .bool ng, .slice ja jn jc, .float .f64 x, .float .f64 y]) (by simp [execOp, ev, go_sem, z0, z1, z2, z3, z4]) ?_
            exact ⟨_, vt, by rw [ha]; exact putT_put A 95 5 4 l _ _ (by omega) (by omega) (by decide), by rw [List.length_set]; exact hlen, hB, set_known hlen (by decide) hl, fun h => hvt (h.resolve_left (by decide))⟩
          | 6, ho =>
            cases Option.some.inj ho
            refine ⟨wanted_of (k := 97) rfl rfl rfl (known_atT ha hsz hlen hl 2 (by decide) (hd ⟨2, .guard⟩ (by simp) rfl)), ?_⟩
            have ev : a.tmps[99]? = some (.agg #[.bool pp, .bool ng, .slice va vn vc, .float .f64 x, .float .f64 y]) := known_atT ha hsz hlen hl 4 (by decide) (hd ⟨4, .data⟩ (by simp) rfl)
            have ev' : a.tmps[100]? = some (.agg #[.bool pp, .bool ng, .slice ja jn jc, .float .f64 x, .float .f64 y]) := known_atT ha hsz hlen hl 5 (by decide) (hd ⟨5, .data⟩ (by simp) rfl)
            refine wp_enter (f := 11) (args := #[.agg #[.bool pp, .bool ng, .slice va vn vc, .float .f64 x, .float .f64 y], .agg #[.bool pp, .bool ng, .slice ja jn jc, .float .f64 x, .float .f64 y]]) (by simp [execOp, ev, ev', go_sem]) ?_
            refine (sameN_true pp ng x y (IV.below hB) (IJ.below hB)).mono ?_
            rintro e w6 ⟨rfl, HB⟩
            refine ⟨_, rfl, ?_⟩
            exact ⟨_, vt, by rw [ha]; exact putT_put A 95 6 4 l _ _ (by omega) (by omega) (by decide), by rw [List.length_set]; exact hlen, below_sizeF hB (Nat.le_refl _) HB, set_known hlen (by decide) hl, fun h => hvt (h.resolve_left (by decide))⟩
          | 7, ho =>
            cases Option.some.inj ho
            refine ⟨rfl, ?_⟩
            have ev : a.tmps[97]? = some (.bool true) := known_atT ha hsz hlen hl 2 (by decide) (hd ⟨2, .data⟩ (by simp) rfl)
            have ev' : a.tmps[101]? = some (.bool true) := known_atT ha hsz hlen hl 6 (by decide) (hd ⟨6, .data⟩ (by simp) rfl)
            refine wp_value (w' := w') (v := .bool true) (by simp [execOp, ev, ev', go_sem]) ?_
            exact ⟨_, vt, by rw [ha]; exact putT_put A 95 7 4 l _ _ (by omega) (by omega) (by decide), by rw [List.length_set]; exact hlen, hB, set_known hlen (by decide) hl, fun h => hvt (h.resolve_left (by decide))⟩
          | 8, ho =>
            cases Option.some.inj ho
            refine ⟨rfl, ?_⟩
            have ev : a.tmps[102]? = some (.bool true) := known_atT ha hsz hlen hl 7 (by decide) (hd ⟨7, .data⟩ (by simp) rfl)
            refine wp_value (w' := w') (v := .bool true) (by simp [execOp, ev, go_sem]) ?_
            exact ⟨_, vt, by rw [ha]; exact putT_put A 95 8 4 l _ _ (by omega) (by omega) (by decide), by rw [List.length_set]; exact hlen, hB, set_known hlen (by decide) hl, fun h => hvt (h.resolve_left (by decide))⟩
          | 9, ho =>
            cases Option.some.inj ho
            refine ⟨wanted_of (k := 103) rfl rfl rfl (known_atT ha hsz hlen hl 8 (by decide) (hd ⟨8, .guard⟩ (by simp) rfl)), ?_⟩
            refine wp_enter (f := 15) (args := #[]) (by simp [execOp, go_sem]) ?_
            refine (known_true w').mono ?_
            rintro e w6 ⟨rfl, HB⟩
            refine ⟨_, rfl, ?_⟩
            exact ⟨_, vt, by rw [ha]; exact putT_put A 95 9 4 l _ _ (by omega) (by omega) (by decide), by rw [List.length_set]; exact hlen, below_sizeF hB (Nat.le_refl _) HB, set_known hlen (by decide) hl, fun h => hvt (h.resolve_left (by decide))⟩
          | 10, ho =>
            cases Option.some.inj ho
            refine ⟨rfl, ?_⟩
            have ev : a.tmps[103]? = some (.bool true) := known_atT ha hsz hlen hl 8 (by decide) (hd ⟨8, .data⟩ (by simp) rfl)
            have ev' : a.tmps[104]? = some (.bool true) := known_atT ha hsz hlen hl 9 (by decide) (hd ⟨9, .data⟩ (by simp) rfl)
            refine wp_value (w' := w') (v := .bool true) (by simp [execOp, ev, ev', go_sem]) ?_
            exact ⟨_, vt, by rw [ha]; exact putT_put A 95 10 4 l _ _ (by omega) (by omega) (by decide), by rw [List.length_set]; exact hlen, hB, set_known hlen (by decide) hl, fun h => hvt (h.resolve_left (by decide))⟩
          | 11, ho =>
            cases Option.some.inj ho
            refine ⟨rfl, ?_⟩
            have ev : a.tmps[105]? = some (.bool true) := known_atT ha hsz hlen hl 10 (by decide) (hd ⟨10, .data⟩ (by simp) rfl)
            refine wp_value (w' := w') (v := .bool true) (by simp [execOp, ev, go_sem]) ?_
            exact ⟨l, (.bool true), by rw [ha]; exact putT_again _ _ _ _, hlen, hB, fun j hj h => hl j hj (h.resolve_left (by omega)), fun _ => rfl⟩
          | i + 12, ho => simp at ho
        case done =>
          rintro D a w' ⟨l, vt, ha, hlen, hB, hl, hvt⟩ hall
          obtain rfl := hvt (hall 11 (by decide))
          obtain ⟨v0, v1, v2, v3, v4, v5, v6, v7, v8, v9, v10, rfl⟩ := nbW_list hlen
          clear hl hall hlen
          clear st s2 s17 s18 hsz
          subst hA
          have hfr : a = _ := ha
          rw [hfr]
          clear hfr ha
          simp only [putAll, List.take_succ_cons, List.take_zero, List.drop_succ_cons, List.drop_zero, List.cons_append, List.nil_append, List.length_cons, List.length_nil]
          simp only [Act.put, List.setIfInBounds_toArray, List.set_cons_zero, List.set_cons_succ]
          go_wp2
          go_ret
          exact ⟨rfl, below_sizeF Br (Nat.le_refl _) hB⟩
      · have hb0 : (pe == 0) = false := by simp; omega
        go_wp2_with fail
        refine (known_true _).mono ?_
        rintro e w9 ⟨rfl, B9⟩
        go_wp2
        go_ret
        exact ⟨rfl, below_sizeF Bq' (Nat.le_refl _) B9⟩
end Go.Proofs.Ytkpngpongbpfgaa
