/- The document's alike. -/
import Derived.Test.YtkpngpongbpfgaaFlo
namespace Go.Proofs.Ytkpngpongbpfgaa
open Go.RowKit
set_option maxRecDepth 100000
theorem box_belowF {w : World} {o : Obj} : Below w.heap.size w (w.alloc o) := (Below.refl _ _).alloc (Nat.le_refl _) o
theorem below_sizeF {B : Nat} {w w1 w2 : World} (h1 : Below B w w1) (hB : B ≤ w.heap.size) (h2 : Below w1.heap.size w1 w2) : Below B w w2 :=
  h1.trans (h2.mono (Nat.le_trans hB h1.size))
theorem lt_of_blockF {w : World} {b : Nat} {o : Obj} (h : w.heap[b]? = some o) : b < w.heap.size := by
  obtain ⟨hb, _⟩ := Array.getElem?_eq_some_iff.1 h
  exact hb
theorem size1 (w : World) (o : Obj) : (w.alloc o).heap.size = w.heap.size + 1 := by simp
theorem newF (w : World) (o : Obj) : (w.alloc o).heap[w.heap.size]? = some o := heap_alloc_new w o
theorem oldF {w : World} {b : Nat} {o : Obj} (h : w.heap[b]? = some o) (o' : Obj) : (w.alloc o').heap[b]? = some o := ((box_belowF (w := w) (o := o')).block b (lt_of_blockF h)).trans h
/-- A number of the document in a block. -/
def numR (p m : Bool) (v : Value) (x y : Nat) : Obj := .cells #[.bool p, .bool m, v, .float .f64 x, .float .f64 y] 27 (0, 0)
theorem numR_cells {w : World} {b : Nat} {p m : Bool} {v : Value} {x y : Nat} (h : w.heap[b]? = some (numR p m v x y)) : w.cell? ⟨b, 0, none⟩ = some (.bool p) ∧ w.cell? ⟨b, 1, none⟩ = some (.bool m) ∧ w.cell? ⟨b, 2, none⟩ = some v ∧ w.cell? ⟨b, 3, none⟩ = some (.float .f64 x) ∧ w.cell? ⟨b, 4, none⟩ = some (.float .f64 y) ∧ ∀ i, w.frozen? ⟨b, i, none⟩ = false := by
  unfold numR at h
  refine ⟨?_, ?_, ?_, ?_, ?_, fun i => frozen_of_row w b i _ _ h⟩ <;> (rw [cell_of_row w b _ _ _ _ h]; rfl)
/-- A number of the program in a block. -/
def numP (p m : Bool) (v : Value) (x y : Nat) : Obj := .cells #[.bool p, .bool m, v, .complex .f64 x y] 31 (0, 0)
theorem numP_cells {w : World} {b : Nat} {p m : Bool} {v : Value} {x y : Nat} (h : w.heap[b]? = some (numP p m v x y)) : w.cell? ⟨b, 0, none⟩ = some (.bool p) ∧ w.cell? ⟨b, 1, none⟩ = some (.bool m) ∧ w.cell? ⟨b, 2, none⟩ = some v ∧ w.cell? ⟨b, 3, none⟩ = some (.complex .f64 x y) ∧ ∀ i, w.frozen? ⟨b, i, none⟩ = false := by
  unfold numP at h
  refine ⟨?_, ?_, ?_, ?_, fun i => frozen_of_row w b i _ _ h⟩ <;> (rw [cell_of_row w b _ _ _ _ h]; rfl)
set_option maxHeartbeats 1000000 in
theorem alike_any (p q : Bool) (m n : Bool) (u v : Value) (x y x' y' : Nat) (w : World) : Calls Try.prog 37 #[.agg #[.bool p, .bool m, u, .float .f64 x, .float .f64 y], .agg #[.bool q, .bool n, v, .float .f64 x', .float .f64 y']] w fun e w' => e = .returned (.bool (bitsB x x' && bitsB y y')) ∧ Below w.heap.size w w' := by
  have E1 := oldF (newF w (numR p m u x y)) (numR q n v x' y')
  have E2 := newF (w.alloc (numR p m u x y)) (numR q n v x' y')
  have B2 : Below w.heap.size w ((w.alloc (numR p m u x y)).alloc (numR q n v x' y')) := below_sizeF box_belowF (Nat.le_refl _) box_belowF
  rw [size1] at E2
  unfold numR at E1 E2 B2
  go_enter Try.func37, Try.ntmps37
  go_wp2_with fail
  generalize (w.alloc (.cells #[.bool p, .bool m, u, .float .f64 x, .float .f64 y] 27)).alloc (.cells #[.bool q, .bool n, v, .float .f64 x', .float .f64 y'] 27) = w2 at *
  generalize w.heap.size + 1 = b2 at *
  replace E1 : w2.heap[w.heap.size]? = some (numR p m u x y) := E1
  replace E2 : w2.heap[b2]? = some (numR q n v x' y') := E2
  refine (bits_any x x' _).mono ?_
  rintro e w3 ⟨rfl, B3⟩
  replace E1 := (B3.block _ (lt_of_blockF E1)).trans E1
  replace E2 := (B3.block _ (lt_of_blockF E2)).trans E2
  have B4 := below_sizeF B2 (Nat.le_refl _) B3
  clear B2 B3
  obtain ⟨x0, x1, x2, x3, x4, xf⟩ := numR_cells E1
  obtain ⟨y0, y1, y2, y3, y4, yf⟩ := numR_cells E2
  cases h1 : bitsB x x' with
  | false =>
    go_wp2
    go_ret
    exact ⟨by rw [h1]; rfl, B4⟩
  | true =>
    go_wp2_with fail
    refine (bits_any y y' _).mono ?_
    rintro e w5 ⟨rfl, B5⟩
    go_wp2
    go_ret
    exact ⟨by rw [h1]; rfl, below_sizeF B4 (Nat.le_refl _) B5⟩
end Go.Proofs.Ytkpngpongbpfgaa
