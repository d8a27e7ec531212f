/- Floats: what an operation gives, a NaN of any bits included. -/
import Derived.Test.YtkpngpongbpfgaaFex
import Derived.Test.YtkpngpongbpfgaaCpx
import Derived.Below
namespace Go.Proofs.Ytkpngpongbpfgaa
open Go.RowKit Ieee
set_option maxRecDepth 100000
theorem order_refl (d : Datum) : (d.order d != some .eq) = d.isNaN := by
  cases d with
  | number s m e => simp [Datum.order, Datum.isNaN]
  | infinity s => simp [Datum.order, Datum.isNaN]
  | nan s f => rfl
theorem nanB_read (x : Nat) : nanB x = (D.read x).isNaN := order_refl _
theorem read_nan {x : Nat} (h : nanB x = true) : ∃ s f, D.read x = .nan s f := by
  rw [nanB_read] at h
  cases hd : D.read x with
  | nan s f => exact ⟨s, f, rfl⟩
  | number s m e => rw [hd] at h; cases h
  | infinity s => rw [hd] at h; cases h
theorem bits_nan_l {op : BinOp} {x y : Nat} (h : nanB x = true) : floatBits op .f64 x y = none := by
  obtain ⟨s, f, e⟩ := read_nan h
  have e' : FloatKind.f64.format.read x = .nan s f := e
  cases op <;> simp only [floatBits, Format.add, Format.sub, Format.mul, Format.div, e'] <;> first | rfl | (cases FloatKind.f64.format.read y <;> rfl)
theorem bits_nan_r {op : BinOp} {x y : Nat} (h : nanB y = true) : floatBits op .f64 x y = none := by
  obtain ⟨s, f, e⟩ := read_nan h
  have e' : FloatKind.f64.format.read y = .nan s f := e
  cases op <;> simp only [floatBits, Format.add, Format.sub, Format.mul, Format.div, e'] <;> first | rfl | (cases FloatKind.f64.format.read x <;> rfl)
theorem word_nan (t m : Nat) (h2 : m < 4503599627370495) : nanB (t * 9223372036854775808 + 9218868437227405312 + 1 + m) = true := by
  rw [nanB_read]
  unfold Format.read
  rw [D_sign, D_binade, D_inf]
  have e : (t * 9223372036854775808 + 9218868437227405312 + 1 + m) % 9223372036854775808 = 9218868437227405312 + 1 + m := by omega
  simp only [e]
  rw [if_neg (by omega), if_neg (by omega), if_neg (by omega)]
  rfl
theorem cut_nan (x y t : Nat) : nanB ((Question.nanBits .f64 x y).cut t) = true := by
  have h := word_nan (t % 2) ((t / 2) % 4503599627370495) (Nat.mod_lt _ (by decide))
  exact h
/-- What an operation gives, and the world behind it. -/
def flV (op : BinOp) (x y : Nat) (w : World) : Nat := (floatBits op .f64 x y).getD ((Question.nanBits .f64 x y).cut (w.tape w.drawn (Question.nanBits .f64 x y)))
def flW (op : BinOp) (x y : Nat) (w : World) : World := if (floatBits op .f64 x y).isSome = true then w else w.drew
def FR (op : BinOp) (x y r : Nat) : Prop := floatBits op .f64 x y = some r ∨ (floatBits op .f64 x y = none ∧ nanB r = true)
theorem flV_FR (op : BinOp) (x y : Nat) (w : World) : FR op x y (flV op x y w) := by
  unfold FR flV
  cases h : floatBits op .f64 x y with
  | some r => exact .inl rfl
  | none => exact .inr ⟨rfl, cut_nan x y _⟩
theorem flW_below {B : Nat} {w w' : World} {op : BinOp} {x y : Nat} (h : Below B w w') : Below B w (flW op x y w') := by
  unfold flW
  split
  · exact h
  · exact h.drew
theorem run_fl (op : BinOp) (ho : op = .add ∨ op = .sub ∨ op = .mul ∨ op = .quo) (t : TypeId) (x y : Nat) (w : World) : (binOp op t (.float .f64 x) (.float .f64 y)).run Try.prog w = .ok (.float .f64 (flV op x y w)) (flW op x y w) := by
  cases h : floatBits op .f64 x y with
  | some r =>
    rw [run_float_arith w op t .f64 x y r h]
    unfold flV flW
    rw [h]
    rfl
  | none =>
    unfold flV flW
    rw [h]
    unfold floatBits at h
    rcases ho with rfl | rfl | rfl | rfl <;> simp only at h <;> simp [binOp, Op.floatArith, h, Question.forced]
/-- Alike: the same bits, or both a NaN. -/
def Alike (x y : Nat) : Prop := x = y ∨ (nanB x = true ∧ nanB y = true)
theorem alike_bits {x y : Nat} (h : Alike x y) : bitsB x y = true := by
  unfold bitsB
  rcases h with rfl | ⟨h1, h2⟩
  · cases hn : nanB x <;> simp
  · simp [h1, h2]
theorem fr_alike {op : BinOp} {x y x' y' r r' : Nat} (h : FR op x y r) (h' : FR op x' y' r') (hx : Alike x x') (hy : Alike y y') : Alike r r' := by
  have both : floatBits op .f64 x y = none → floatBits op .f64 x' y' = none → Alike r r' := fun e e' => by
    unfold FR at h h'
    rw [e] at h
    rw [e'] at h'
    rcases h with h | ⟨_, h⟩
    · cases h
    · rcases h' with h' | ⟨_, h'⟩
      · cases h'
      · exact .inr ⟨h, h'⟩
  rcases hx with rfl | ⟨h1, h2⟩
  · rcases hy with rfl | ⟨h3, h4⟩
    · cases e : floatBits op .f64 x y with
      | none => exact both e e
      | some z =>
        unfold FR at h h'
        rw [e] at h h'
        rcases h with h | ⟨h, _⟩
        · rcases h' with h' | ⟨h', _⟩
          · left
            rw [← Option.some.inj h, ← Option.some.inj h']
          · cases h'
        · cases h
    · exact both (bits_nan_r h3) (bits_nan_r h4)
  · exact both (bits_nan_l h1) (bits_nan_l h2)
theorem sum_comm (a b : Datum) : a.sum b = b.sum a := by
  cases a <;> cases b <;> simp only [Datum.sum]
  · rw [Int.min_comm, Int.add_comm, Bool.and_comm]
  · rename_i s t
    by_cases h : s = t
    · subst h; rfl
    · rw [if_neg h, if_neg (fun k => h k.symm)]
theorem product_comm (a b : Datum) : a.product b = b.product a := by
  cases a <;> cases b <;> simp only [Datum.product, Bool.xor_comm, Nat.mul_comm, Int.add_comm]
theorem bits_comm {op : BinOp} (ho : op = .add ∨ op = .mul) (x y : Nat) : floatBits op .f64 x y = floatBits op .f64 y x := by
  rcases ho with rfl | rfl
  · show ((Datum.sum _ _).map _) = ((Datum.sum _ _).map _)
    rw [sum_comm]
  · show ((Datum.product _ _).map _) = ((Datum.product _ _).map _)
    rw [product_comm]
theorem fr_comm {op : BinOp} (ho : op = .add ∨ op = .mul) {x y r : Nat} (h : FR op x y r) : FR op y x r := by
  unfold FR at h ⊢
  rw [bits_comm ho y x]
  exact h
end Go.Proofs.Ytkpngpongbpfgaa
