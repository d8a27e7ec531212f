/- cursor: next. -/
import Derived.Test.YtofgphiamllmdabFull
namespace Go.Proofs.Ytofgphiamllmdab
open Go.RowKit
set_option maxRecDepth 100000

/-- A cursor: what is left of an array. -/
def Cur (w : World) (cb g off len : Nat) : Prop := w.heap[cb]? = some (.cells #[.slice (some ⟨g, off, none⟩) len len] 120 (0, 0))
theorem Cur.cell {w : World} {cb g off len : Nat} (h : Cur w cb g off len) : w.cell? ⟨cb, 0, none⟩ = some (.slice (some ⟨g, off, none⟩) len len) := by
  rw [cell_of_row w cb 0 _ _ _ h]; rfl
theorem Cur.frozen {w : World} {cb g off len : Nat} (h : Cur w cb g off len) : w.frozen? ⟨cb, 0, none⟩ = false := frozen_of_row w cb 0 _ _ h
theorem Cur.set {w : World} {cb g off len : Nat} (h : Cur w cb g off len) (g' off' len' : Nat) : Cur (w.setCell ⟨cb, 0, none⟩ (.slice (some ⟨g', off', none⟩) len' len')) cb g' off' len' := by
  unfold Cur at h ⊢
  rw [heap_setCell_same w cb 0 _ _ _ h]
  rfl
set_option maxHeartbeats 1000000 in
theorem next_some {w : World} {cb g off len : Nat} (h : Cur w cb g off len) (n : Nat) (hn : n < len) :
    Calls Try.prog 74 #[.pointer (some ⟨cb, 0, none⟩), .int .i64 (n : Int)] w fun e w' => e = .returned (.slice (some ⟨g, off, none⟩) n len) ∧ w' = w.setCell ⟨cb, 0, none⟩ (.slice (some ⟨g, off + n, none⟩) (len - n) (len - n)) := by
  have c := h.cell
  have f := h.frozen
  have h1 : ¬ len = n := by omega
  have h2 : n ≤ len := by omega
  have h3 : ¬ (len : Int) < (n : Int) := by omega
  have h4 : (n : Int) ≤ (len : Int) := by omega
  have h5 : ¬ len = 0 := by omega
  go_enter Try.func74, Try.ntmps74
  go_wp2
  go_ret
  exact ⟨rfl, rfl⟩

/-- Bytes in a variable that is an array of them. -/
def ArrS (w : World) (b ty : Nat) (xs : List Int) : Prop := w.heap[b]? = some (.cells (cellsB xs) ty (0, 0))
theorem ArrS.cell {w : World} {b ty : Nat} {xs : List Int} (h : ArrS w b ty xs) (i : Nat) (hi : i < xs.length) : w.cell? ⟨b, i, none⟩ = some (.int .u8 (xs.getD i 0)) := by
  rw [cell_of_row w b i _ _ _ h, cells_get, List.getElem?_eq_getElem hi]
  simp [List.getD, hi]
theorem ArrS.frozen {w : World} {b ty : Nat} {xs : List Int} (h : ArrS w b ty xs) (i : Nat) : w.frozen? ⟨b, i, none⟩ = false := frozen_of_row w b i _ _ h
theorem ArrS.set {w : World} {b ty : Nat} {xs : List Int} (h : ArrS w b ty xs) (i : Nat) (c : Int) : ArrS (w.setCell ⟨b, i, none⟩ (.int .u8 c)) b ty (xs.set i c) := by
  unfold ArrS at h ⊢
  rw [heap_setCell_same w b i _ _ _ h, cells_set]
/-- A byte of a number. -/
def bz (size : Nat) (n : Int) (i : Nat) : Int := n / 2 ^ (8 * (size - 1 - i)) % 256
/-- A number's bytes, the highest one first. -/
def be (size : Nat) (n : Int) : List Int := (List.range size).map (bz size n)
/-- Bytes with some others in their midst. -/
def lay (xs : List Int) (off : Nat) (ys : List Int) : List Int := xs.take off ++ (ys ++ xs.drop (off + ys.length))

theorem be_len (size : Nat) (n : Int) : (be size n).length = size := by simp [be]
theorem lay_len {xs : List Int} {off : Nat} {ys : List Int} (h : off + ys.length ≤ xs.length) : (lay xs off ys).length = xs.length := by
  simp [lay]
  omega
theorem lay_set {xs : List Int} {off : Nat} {ys : List Int} (h : off + ys.length < xs.length) (c : Int) : (lay xs off ys).set (off + ys.length) c = lay xs off (ys ++ [c]) := by
  unfold lay
  rw [List.set_append_right _ _ (by simp; omega), List.length_take, Nat.min_eq_left (by omega), show off + ys.length - off = ys.length by omega, List.set_append_right _ _ (Nat.le_refl _), Nat.sub_self]
  rw [List.drop_eq_getElem_cons h, List.set_cons_zero]
  simp [Nat.add_assoc]
theorem be_take {size i : Nat} (h : i < size) (n : Int) : (be size n).take (i + 1) = (be size n).take i ++ [bz size n i] := by
  rw [List.take_add_one]
  congr 1
  simp [be, h]

set_option maxHeartbeats 4000000 in
theorem put_some {w : World} {cb g off len ty : Nat} {xs : List Int} (h : Cur w cb g off len) (hx : ArrS w g ty xs) (hxl : off + len = xs.length) (size : Nat) (hs : size < len) (hs8 : size ≤ 8) (n : Int) (hne : cb ≠ g) :
    Calls Try.prog 75 #[.pointer (some ⟨cb, 0, none⟩), .int .i64 (size : Int), .int .i64 n] w fun e w' => e = .returned (.tuple #[]) ∧ Cur w' cb g (off + size) (len - size) ∧ ArrS w' g ty (lay xs off (be size n)) ∧ w'.os = w.os ∧ w'.tape = w.tape ∧ w'.output = w.output ∧ w'.heap.size = w.heap.size ∧ ∀ i, i ≠ cb → i ≠ g → w'.heap[i]? = w.heap[i]? := by
  have C1 := h.set g (off + size) (len - size)
  have A1 : ArrS (w.setCell ⟨cb, 0, none⟩ (.slice (some ⟨g, off + size, none⟩) (len - size) (len - size))) g ty xs := (heap_setCell_other _ _ _ _ (Ne.symm hne)).trans hx
  have K1 : ∀ i, i ≠ cb → (w.setCell ⟨cb, 0, none⟩ (.slice (some ⟨g, off + size, none⟩) (len - size) (len - size))).heap[i]? = w.heap[i]? := fun i hi => heap_setCell_other _ _ _ _ hi
  have Z1 : (w.setCell ⟨cb, 0, none⟩ (.slice (some ⟨g, off + size, none⟩) (len - size) (len - size))).heap.size = w.heap.size := by simp
  have O1 : (w.setCell ⟨cb, 0, none⟩ (.slice (some ⟨g, off + size, none⟩) (len - size) (len - size))).os = w.os ∧ (w.setCell ⟨cb, 0, none⟩ (.slice (some ⟨g, off + size, none⟩) (len - size) (len - size))).tape = w.tape ∧ (w.setCell ⟨cb, 0, none⟩ (.slice (some ⟨g, off + size, none⟩) (len - size) (len - size))).output = w.output := ⟨rfl, rfl, rfl⟩
  go_enter Try.func75, Try.ntmps75
  go_wp2_with fail
  refine (next_some h size hs).mono ?_
  rintro e w1 ⟨rfl, rfl⟩
  generalize w.setCell ⟨cb, 0, none⟩ (.slice (some ⟨g, off + size, none⟩) (len - size) (len - size)) = w1 at *
  go_wp2
  go_loopw [13] (fun v wr => ∃ i : Nat, i ≤ size ∧ v = .int .i64 (i : Int) ∧ Cur wr cb g (off + size) (len - size) ∧ ArrS wr g ty (lay xs off ((be size n).take i)) ∧ wr.os = w1.os ∧ wr.tape = w1.tape ∧ wr.output = w1.output ∧ wr.heap.size = w1.heap.size ∧ ∀ i, i ≠ cb → i ≠ g → wr.heap[i]? = w1.heap[i]?) (fun v _ => size - (intOf v).toNat)
  case atStart => exact ⟨0, by omega, rfl, C1, by simpa [lay] using A1, rfl, rfl, rfl, rfl, fun _ _ _ => rfl⟩
  case round =>
    obtain ⟨i, hi, rfl, C2, A2, o1, o2, o3, z2, k2⟩ := hrel
    by_cases his : i = size
    · have hlt : ¬ (i : Int) < (size : Int) := by omega
      rw [his, List.take_of_length_le (by rw [be_len]; exact Nat.le_refl _)] at A2
      clear his
      go_wp2
      go_end0
      exact ⟨rfl, C2, A2, o1.trans O1.1, o2.trans O1.2.1, o3.trans O1.2.2, z2.trans Z1, fun i h1 h2 => (k2 i h1 h2).trans (K1 i h1)⟩
    · have hlt : (i : Int) < (size : Int) := by omega
      obtain ⟨y1, hy1⟩ : ∃ y : Nat, Hid (y = size - 1) := ⟨_, rfl⟩
      obtain ⟨y2, hy2⟩ : ∃ y : Nat, Hid (y = size - 1 - i) := ⟨_, rfl⟩
      obtain ⟨y3, hy3⟩ : ∃ y : Nat, Hid (y = 8 * (size - 1 - i)) := ⟨_, rfl⟩
      have hz1 : IntKind.i64.wrap ((size : Int) - 1) = (y1 : Int) := by have := hy1.out; rw [IntKind.wrap_i64]; omega
      have hz2 : IntKind.i64.wrap ((y1 : Int) - (i : Int)) = (y2 : Int) := by have := hy1.out; have := hy2.out; rw [IntKind.wrap_i64]; omega
      have hz3 : IntKind.i64.wrap (8 * (y2 : Int)) = (y3 : Int) := by have := hy2.out; have := hy3.out; rw [IntKind.wrap_i64]; omega
      have hzi : IntKind.i64.wrap ((i : Int) + 1) = (i : Int) + 1 := by rw [IntKind.wrap_i64]; omega
      have htl : ((be size n).take i).length = i := by rw [List.length_take, be_len]; omega
      have hlen : (lay xs off ((be size n).take i)).length = xs.length := lay_len (by rw [htl]; omega)
      have hcl := A2.cell (off + i) (by rw [hlen]; omega)
      have hfr := A2.frozen (off + i)
      have hset := A2.set (off + i) (bz size n i)
      have hval : n / 2 ^ min y3 64 % 256 = bz size n i := by
        have := hy3.out
        unfold bz
        rw [Nat.min_eq_left (by omega), this]
      have e1 := lay_set (xs := xs) (off := off) (ys := (be size n).take i) (by rw [htl]; omega) (bz size n i)
      rw [htl, ← be_take (by omega)] at e1
      rw [e1] at hset
      go_wp2
      go_roundw
      case rel => exact ⟨i + 1, by omega, rfl, (heap_setCell_other _ _ _ _ hne).trans C2, hset, o1, o2, o3, by simpa using z2, fun k h1 h2 => (heap_setCell_other _ _ _ _ h2).trans (k2 k h1 h2)⟩
      case measure => simp [intOf]; omega
end Go.Proofs.Ytofgphiamllmdab
