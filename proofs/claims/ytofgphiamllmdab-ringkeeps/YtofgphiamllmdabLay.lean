/- A sector that is being filled. -/
import Derived.Test.YtofgphiamllmdabGet
import Derived.Test.YtofgphiamllmdabSum
import Derived.Test.YtofgphiamllmdabAppl
import Derived.Lib.LazyBuf
namespace Go.Proofs.Ytofgphiamllmdab
open Go.RowKit
set_option maxRecDepth 100000

/-- Bytes, and 0 behind them. -/
def fillB (A : List Int) : List Int := A ++ List.replicate (128 - A.length) 0
theorem fillB_len {A : List Int} (h : A.length ≤ 128) : (fillB A).length = 128 := by simp [fillB]; omega
theorem lay_fill {A ys : List Int} {off : Nat} (ho : A.length = off) (h : off + ys.length ≤ 128) : lay (fillB A) off ys = fillB (A ++ ys) := by
  subst ho
  unfold lay fillB
  rw [List.take_left, List.drop_length_add_append, List.drop_replicate, List.append_assoc]
  congr 3
  simp
  omega
theorem lay_cons (xs : List Int) (o : Nat) (y : Int) (ys : List Int) (h : o + ys.length < xs.length) : lay (xs.set o y) (o + 1) ys = lay xs o (y :: ys) := by
  unfold lay
  have ho : o < xs.length := by omega
  rw [List.take_set, List.take_succ_eq_append_getElem ho, List.set_append_right _ _ (by simp; omega), List.length_take, Nat.min_eq_left (by omega), Nat.sub_self, List.set_cons_zero, List.append_assoc]
  rw [List.drop_set_of_lt (by omega), List.length_cons]
  simp [Nat.add_assoc, Nat.add_comm 1]
theorem ArrS.setCells {g ty : Nat} : ∀ (ys : List Int) (o : Nat) (w : World) (xs : List Int), ArrS w g ty xs → o + ys.length ≤ xs.length → ArrS (w.setCells g o (ys.map (Value.int .u8))) g ty (lay xs o ys)
  | [], o, w, xs, h, _ => by simpa [lay, World.setCells] using h
  | y :: ys, o, w, xs, h, hl => by
    rw [List.map_cons, World.setCells]
    have := ArrS.setCells ys (o + 1) _ _ (h.set o y) (by simp at hl ⊢; omega)
    rw [lay_cons xs o y ys (by simp at hl; omega)] at this
    exact this
/-- All but two blocks are as they were. -/
structure Only (c g : Nat) (w w' : World) : Prop where
  os : w'.os = w.os
  tape : w'.tape = w.tape
  output : w'.output = w.output
  size : w'.heap.size = w.heap.size
  block : ∀ i, i ≠ c → i ≠ g → w'.heap[i]? = w.heap[i]?
theorem Only.refl (c g : Nat) (w : World) : Only c g w w := ⟨rfl, rfl, rfl, rfl, fun _ _ _ => rfl⟩
theorem Only.trans {c g : Nat} {w w1 w2 : World} (h : Only c g w w1) (k : Only c g w1 w2) : Only c g w w2 :=
  ⟨k.os.trans h.os, k.tape.trans h.tape, k.output.trans h.output, k.size.trans h.size, fun i h1 h2 => (k.block i h1 h2).trans (h.block i h1 h2)⟩
theorem Only.set (c g : Nat) (w : World) (i : Nat) (v : Value) : Only c g w (w.setCell ⟨c, i, none⟩ v) := ⟨rfl, rfl, rfl, by simp, fun _ h _ => heap_setCell_other _ _ _ _ h⟩
theorem Only.cells (c g : Nat) : ∀ (vs : List Value) (o : Nat) (w : World), Only c g w (w.setCells g o vs)
  | [], _, w => Only.refl c g w
  | v :: vs, o, w => (⟨rfl, rfl, rfl, by simp, fun _ _ h => heap_setCell_other _ _ _ _ h⟩ : Only c g w (w.setCell ⟨g, o, none⟩ v)).trans (Only.cells c g vs (o + 1) _)
theorem putF {w : World} {cb g off ty : Nat} {A : List Int} (hA : A.length = off) (h : Cur w cb g off (128 - off)) (hx : ArrS w g ty (fillB A)) (size : Nat) (hs : off + size < 128) (hs8 : size ≤ 8) (n : Int) (hne : cb ≠ g) :
    Calls Try.prog 75 #[.pointer (some ⟨cb, 0, none⟩), .int .i64 (size : Int), .int .i64 n] w fun e w' => e = .returned (.tuple #[]) ∧ Cur w' cb g (off + size) (128 - (off + size)) ∧ ArrS w' g ty (fillB (A ++ be size n)) ∧ Only cb g w w' := by
  refine (put_some h hx (by rw [fillB_len (by omega)]; omega) size (by omega) hs8 n hne).mono ?_
  rintro e w' ⟨rfl, h1, h2, h3, h4, h5, h6, h7⟩
  rw [lay_fill hA (by rw [be_len]; omega)] at h2
  rw [Nat.sub_sub] at h1
  exact ⟨rfl, h1, h2, ⟨h3, h4, h5, h6, h7⟩⟩
end Go.Proofs.Ytofgphiamllmdab
