/- whole.Of, and the document's made and Of: small numbers as Ints. -/
import Derived.Test.YtlhmeipbcioncaaDoorIsB
namespace Go.Proofs.YtlhmeipbcioncaaDoor
open Go.RowKit

/-- pack, where the number has room. -/
theorem pack_fit {b off len cap V : Nat} {ws : List Int} {w : World} (neg : Bool) (h : IsW w (some ⟨b, off, none⟩) len cap ws) (hl : len ≤ 1000) (hv : val32 ws = V) (hm : blen V ≤ 128) :
    Calls Tryd.prog 68 #[.bool neg, .slice (some ⟨b, off, none⟩) len cap] w fun e w' => ∃ v, e = .returned (.tuple #[.agg #[.bool (neg && decide (V ≠ 0)), v], .int .i64 0]) ∧ OwnB w' w.heap.size v (mag V) ∧ Below w.heap.size w w' := by
  subst hv
  by_cases hz : val32 ws = 0
  · refine (pack_zero neg h hl hz).mono ?_
    rintro e w' ⟨rfl, hb⟩
    refine ⟨.slice none 0 0, ?_, ?_, hb⟩
    · rw [hz]; simp
    · rw [hz, mag_zero]
      exact ownB_of (n := 0) (World.ownsRow_nil _ _ _ _) (by simp)
  · refine (pack_ok neg h hl hz hm).mono ?_
    rintro e w' ⟨g, rfl, ho, hb⟩
    exact ⟨_, by simp [hz], ownB_of ho (mag_lt _), hb⟩

theorem isW_lit2 (w : World) (x y : Int) (V : Nat) (hV : V < 18446744073709551616) (hx : x = (V : Int) % 4294967296) (hy : y = (V : Int) / 4294967296) (mk : Nat × Nat) :
    IsW (w.alloc (.cells #[.int .u32 x, .int .u32 y] 56 mk)) (some ⟨w.heap.size, 0, none⟩) 2 2 (words 2 V) := by
  subst hx hy
  refine ⟨rfl, Nat.le_refl _, by decide, words_lt _ _, fun _ => ⟨_, _, rfl, fun i hi => ?_⟩⟩
  rw [World.cell?_alloc_mark]
  match i, hi with
  | 0, _ => simp [words]
  | 1, _ => simp [words]; omega

theorem wrapU (x : Int) : IntKind.u64.wrap x = x % 18446744073709551616 := by simp [IntKind.wrap, IntKind.signed, IntKind.bits]
theorem wrapNeg (n : Int) (h0 : -9223372036854775808 ≤ n) (h : n < 0) : IntKind.u64.wrap (-IntKind.u64.wrap n) = (n.natAbs : Int) := by rw [wrapU, wrapU]; omega
theorem cell_at {w w' : World} {b t : Nat} {C : Array Value} {mk : Nat × Nat} {B : Nat} (hb : Below B w w') (h : w.heap[b]? = some (.cells C t mk)) (hB : b < B) : w'.heap[b]? = some (.cells C t mk) := (hb.block b hB).trans h

theorem var2 {w w1 : World} {o1 o2 : Obj} (hb : Below ((w.alloc o1).alloc o2).heap.size ((w.alloc o1).alloc o2) w1) : w1.heap[w.heap.size]? = some o1 ∧ Below w.heap.size w w1 := by
  have hs : ((w.alloc o1).alloc o2).heap.size = w.heap.size + 2 := by simp
  refine ⟨(hb.block _ (by omega)).trans ((Below.heap_alloc _ _ _ (by simp)).trans (heap_alloc_new w _)), ?_⟩
  exact (((Below.refl w.heap.size w).alloc (Nat.le_refl _) _).alloc (by simp) _).trans (hb.mono (by omega))
/-- An Int that lies in a variable. -/
theorem intVar {w : World} {b : Nat} {v0 v1 : Value} (h : w.heap[b]? = some (.cells #[v0, v1] 63 (0, 0))) :
    w.cell? ⟨b, 0, none⟩ = some v0 ∧ w.cell? ⟨b, 0 + 1, none⟩ = some v1 ∧ w.frozen? ⟨b, 0, none⟩ = false ∧ w.frozen? ⟨b, 0 + 1, none⟩ = false :=
  ⟨by rw [cell_of_row w _ 0 _ _ _ h]; rfl, by rw [cell_of_row w _ (0 + 1) _ _ _ h]; rfl, frozen_of_row w b 0 _ _ h, frozen_of_row w b (0 + 1) _ _ h⟩

theorem OwnB.mono {w : World} {b b' : Nat} {v : Value} {xs : List Int} (h : OwnB w b' v xs) (hb : b ≤ b') : OwnB w b v xs := ⟨own_mono h.1 hb, h.2⟩
theorem OwnB.set {w : World} {base b i : Nat} {v : Value} {xs : List Int} (h : OwnB w base v xs) (hb : b < base) (x : Value) : OwnB (w.setCell ⟨b, i, none⟩ x) base v xs :=
  ownB_of (ownsRow_setCell_below h.1 hb x) (by obtain ⟨_, _, _, _, hB⟩ := h; exact hB.byte)
theorem OwnB.alloc {w : World} {base : Nat} {v : Value} {xs : List Int} (h : OwnB w base v xs) (o : Obj) : OwnB (w.alloc o) base v xs := h.below ((Below.refl _ _).alloc (Nat.le_refl _) o)
theorem OwnB.put {w : World} {base b b0 : Nat} {v x y : Value} {xs : List Int} (h : OwnB w base v xs) (hb : b < base) (h0 : b0 ≤ base) : OwnB ((w.setCell ⟨b, 0, none⟩ x).setCell ⟨b, 1, none⟩ y) b0 v xs :=
  ((h.set hb x).set hb y).mono h0
theorem below_put {w w1 : World} {b0 b : Nat} {x y : Value} (h : Below b0 w w1) (hb : b0 ≤ b) : Below b0 w ((w1.setCell ⟨b, 0, none⟩ x).setCell ⟨b, 1, none⟩ y) := (h.setCell hb x).setCell hb y

end Go.Proofs.YtlhmeipbcioncaaDoor
