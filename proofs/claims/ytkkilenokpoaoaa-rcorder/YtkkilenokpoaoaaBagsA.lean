/- RcBags: the reckoning; ops that are appended. -/
import Derived.Test.YtkkilenokpoaoaaCntN
import Derived.Test.YtkkilenokpoaoaaSumA
namespace Go.Proofs.Ytkkilenokpoaoaa
open Go.RowKit
set_option maxRecDepth 100000
theorem playS_snoc (st : List (Int × Int) → Pp → Option (List (Int × Int))) : ∀ (xs : List Pp) (us : List (Int × Int)) (p : Pp), playS st us (xs ++ [p]) = (playS st us xs).bind fun vs => st vs p
  | [], us, p => by
    simp only [List.nil_append, playS]
    cases h : st us p <;> simp [h]
  | x :: xs, us, p => by
    simp only [List.cons_append, playS]
    cases h : st us x with
    | none => rfl
    | some vs => exact playS_snoc st xs vs p
/-- What is known of all ops so far: what they make, and how often the number is there. -/
structure Bg (n : Int) (all : List Pp) (us : List (Int × Int)) (have_ : Nat) : Prop where
  play : playS bagS [] all = some us
  cnt : cN us n = have_
  len : us.length ≤ all.length
theorem Bg.nil (n : Int) : Bg n [] [] 0 := ⟨rfl, rfl, Nat.le_refl _⟩
theorem bagS_add {us : List (Int × Int)} {o y : Int} (h : us.length < 256) : bagS us ⟨o, true, 3, y⟩ = some (bIns us (3, y)) := by
  simp only [bagS, if_true, addS]
  rw [if_neg (by simp; omega)]
theorem bagS_rem {us : List (Int × Int)} {o y : Int} (h : (3, y) ∈ us) : bagS us ⟨o, false, 3, y⟩ = some (bRem us (3, y)) := by
  simp [bagS, h]
theorem bagS_not {us : List (Int × Int)} {o y : Int} (h : (3, y) ∉ us) : bagS us ⟨o, false, 3, y⟩ = none := by
  simp [bagS, h]
theorem Bg.add {n : Int} {all : List Pp} {us : List (Int × Int)} {h : Nat} (b : Bg n all us h) (o y : Int) (hl : all.length < 256) : Bg n (all ++ [⟨o, true, 3, y⟩]) (bIns us (3, y)) (h + if y = n then 1 else 0) := by
  refine ⟨?_, ?_, ?_⟩
  · rw [playS_snoc, b.play]
    exact bagS_add (Nat.lt_of_le_of_lt b.len hl)
  · rw [cN_ins, b.cnt]
    simp
  · rw [bIns_len, List.length_append]
    have := b.len
    simp
    omega
theorem Bg.rem {n : Int} {all : List Pp} {us : List (Int × Int)} {h : Nat} (b : Bg n all us h) (o y : Int) (hm : (3, y) ∈ us) : Bg n (all ++ [⟨o, false, 3, y⟩]) (bRem us (3, y)) (h - if y = n then 1 else 0) := by
  refine ⟨?_, ?_, ?_⟩
  · rw [playS_snoc, b.play]
    exact bagS_rem hm
  · have := cN_rem us (3, y) n hm
    rw [b.cnt] at this
    simp at this
    omega
  · have h1 := bRem_len us (3, y)
    have h2 := b.len
    rw [List.length_append]
    omega
theorem Bg.has {n : Int} {all : List Pp} {us : List (Int × Int)} {h : Nat} (b : Bg n all us h) : (3, n) ∈ us ↔ 0 < h := by rw [cN_mem, b.cnt]
theorem Bg.now {n : Int} {all : List Pp} {us : List (Int × Int)} {h : Nat} (b : Bg n all us h) (p : Pp) : playS bagS [] (all ++ [p]) = bagS us p := by
  rw [playS_snoc, b.play]
  rfl
theorem OwnP.isP {w : World} {base : Nat} {a : Option Addr} {n c : Nat} {ps : List Pp} (h : OwnP w base (.slice a n c) ps) : IsP w a n c ps := by
  obtain ⟨_, a', c', e, k⟩ := h
  simp only [Value.slice.injEq] at e
  obtain ⟨rfl, rfl, rfl⟩ := e
  exact k
theorem ownP_len {w : World} {base n c : Nat} {a : Option Addr} {ps : List Pp} (h : OwnP w base (.slice a n c) ps) : n = ps.length := by
  obtain ⟨_, a', c', e, _⟩ := h
  simp only [Value.slice.injEq] at e
  exact e.2.1
theorem app_opsK {ops : Array Oper} {rest : List Oper} {o : Oper} {a : Act} {Q : Exit → Act → World → Prop} (w : World) (hgd : o.guard = none) (s x : Operand)
    (ho : o.op = .call { callee := .builtin .append, args := #[s, x], argTypes := #[48, 48] })
    (base : Nat) (v : Value) (xs : List Pp) (hs : a.eval s = v) (hown : OwnP w base v xs)
    (ab : Option Addr) (len cap : Nat) (ys : List Pp) (hx : a.eval x = .slice ab len cap) (hB : IsP w ab len cap ys) (h47 : xs.length + len ≤ 4398046511104) (hbase : base ≤ w.heap.size)
    (h : ∀ a' n' c' w', OwnP w' base (.slice a' n' c') (xs ++ ys) → Kp v w w' → wpList Try.prog ops Q rest (a.put o.dst (.slice a' n' c')) w') : wpList Try.prog ops Q (o :: rest) a w := by
  obtain ⟨i0, hi, hz0, hz1, hz2⟩ := info_parts Try.info66
  cases ab with
  | none =>
    have hc : cap = 0 := hB.nil0 rfl
    have hl : len = 0 := by have := hB.room; omega
    subst hc hl
    obtain rfl : ys = [] := List.eq_nil_of_length_eq_zero hB.size
    refine wpList_append_own_none hgd s x 48 ho base 66 i0 4 Try.underlying48 hi v xs.length _ hs hown.1 hx ?_
    obtain ⟨_, a', c', e, _⟩ := id hown
    subst e
    exact h a' _ c' w (by rw [List.append_nil]; exact hown) (Kp.of (Below.refl _ _))
  | some ad =>
    refine wpList_append_own w hgd s x 48 ho base 66 i0 (.agg #[.int .i64 0, .bool false, .int .i64 0, .int .i64 0]) 4 32 Try.underlying48 hi hz0 hz1 hz2 rfl (by decide) _ xs.length _ hs hown.1 ad len cap (flatP ys) hx (by rw [flatP_len, hB.size]) (hB.cellsAt ad rfl) (flatP_one ys) (by unfold maxLen; omega) (by omega) hbase ?_
    intro v' w' hown' hgrow _
    rw [← flatP_app] at hown'
    have O := ownP_of hown' (fun p hp => (List.mem_append.1 hp).elim (hown.wf p) (hB.wf p))
    obtain ⟨_, a', c', rfl, _⟩ := id O
    exact h a' _ c' w' O (Kp.of_grown hgrow)
/-- An op in a block. -/
def opB (o : Int) (ad : Bool) (k n : Int) : Obj := .cells #[.int .i64 o, .bool ad, .int .i64 k, .int .i64 n] 66 (0, 0)
theorem op_cells {w : World} {b : Nat} {o k n : Int} {ad : Bool} (h : w.heap[b]? = some (opB o ad k n)) : w.cell? ⟨b, 0, none⟩ = some (.int .i64 o) ∧ w.cell? ⟨b, 1, none⟩ = some (.bool ad) ∧ w.cell? ⟨b, 2, none⟩ = some (.int .i64 k) ∧ w.cell? ⟨b, 3, none⟩ = some (.int .i64 n) ∧ ∀ i, w.frozen? ⟨b, i, none⟩ = false := by
  unfold opB at h
  refine ⟨?_, ?_, ?_, ?_, fun i => frozen_of_row w b i _ _ h⟩ <;> (rw [cell_of_row w b _ _ _ _ h]; rfl)
/-- An op stored whole. -/
def stQ (w : World) (b : Nat) (o : Int) (ad : Bool) (k n : Int) : World := (((w.setCell ⟨b, 0, none⟩ (.int .i64 o)).setCell ⟨b, 1, none⟩ (.bool ad)).setCell ⟨b, 2, none⟩ (.int .i64 k)).setCell ⟨b, 3, none⟩ (.int .i64 n)
theorem stQ_blk {w : World} {b : Nat} {o0 k0 n0 : Int} {ad0 : Bool} (h : w.heap[b]? = some (opB o0 ad0 k0 n0)) (o : Int) (ad : Bool) (k n : Int) : (stQ w b o ad k n).heap[b]? = some (opB o ad k n) := by
  unfold opB at h ⊢
  unfold stQ
  have h1 := heap_setCell_same w b 0 _ _ (.int .i64 o) h
  have h2 := heap_setCell_same _ b 1 _ _ (.bool ad) h1
  have h3 := heap_setCell_same _ b 2 _ _ (.int .i64 k) h2
  rw [heap_setCell_same _ b 3 _ _ (.int .i64 n) h3]
  simp
theorem stQ_below {B b : Nat} {w w' : World} (h : Below B w w') (hb : B ≤ b) (o : Int) (ad : Bool) (k n : Int) : Below B w (stQ w' b o ad k n) := below_setCell (below_setCell (below_setCell (below_setCell h hb) hb) hb) hb
theorem tmod5 (z : Int) : -4 ≤ z.tmod 5 ∧ z.tmod 5 ≤ 4 := by
  have h1 := Int.tmod_lt_of_pos z (b := 5) (by decide)
  have h2 : -5 < z.tmod 5 := by
    rcases Int.le_total 0 z with h | h
    · have := Int.tmod_nonneg 5 h
      omega
    · have h3 := Int.tmod_nonneg 5 (show 0 ≤ -z by omega)
      have h4 := Int.tmod_lt_of_pos (-z) (b := 5) (by decide)
      rw [Int.neg_tmod] at h3 h4
      omega
  omega
end Go.Proofs.Ytkkilenokpoaoaa
