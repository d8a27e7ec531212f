/- cursor: get. -/
import Derived.Test.YtofgphiamllmdabCur
import Derived.Lib.EndianBits
namespace Go.Proofs.Ytofgphiamllmdab
open Go.RowKit
set_option maxRecDepth 100000

/-- What bytes are, the highest one first. -/
def num (ys : List Int) : Int := ys.foldl (fun n y => n * 256 + y) 0
theorem num_snoc (ys : List Int) (y : Int) : num (ys ++ [y]) = num ys * 256 + y := by simp [num]
theorem num_from (ys : List Int) : ∀ n : Int, 0 ≤ n → (∀ y ∈ ys, 0 ≤ y ∧ y < 256) → 0 ≤ ys.foldl (fun n y => n * 256 + y) n ∧ ys.foldl (fun n y => n * 256 + y) n < (n + 1) * 256 ^ ys.length := by
  induction ys with
  | nil => intro n h _; simp; omega
  | cons y ys ih =>
    intro n hn h
    have h2 := h y (by simp)
    obtain ⟨h3, h4⟩ := ih (n * 256 + y) (by omega) (fun z hz => h z (by simp [hz]))
    refine ⟨h3, Int.lt_of_lt_of_le h4 ?_⟩
    rw [List.length_cons, Int.pow_succ, Int.mul_comm (256 ^ ys.length) 256, ← Int.mul_assoc]
    exact Int.mul_le_mul_of_nonneg_right (by omega) (Int.le_of_lt (Int.pow_pos (by decide)))
theorem num_bound (ys : List Int) (h : ∀ y ∈ ys, 0 ≤ y ∧ y < 256) (hk : ys.length ≤ 5) : 0 ≤ num ys ∧ num ys < 1099511627776 := by
  obtain ⟨h1, h2⟩ := num_from ys 0 (by decide) h
  refine ⟨h1, Int.lt_of_lt_of_le h2 ?_⟩
  have : ys.length = 0 ∨ ys.length = 1 ∨ ys.length = 2 ∨ ys.length = 3 ∨ ys.length = 4 ∨ ys.length = 5 := by omega
  rcases this with e | e | e | e | e | e <;> rw [e] <;> decide
theorem wraps_i62 (n : Int) (h0 : 0 ≤ n) (h1 : n < 2 ^ 62) : IntKind.i64.wrap n = n := by rw [IntKind.wrap_i64]; omega
theorem or_byte (a x : Int) (h0 : 0 ≤ a) (h1 : a < 1099511627776) (h2 : 0 ≤ x) (h3 : x < 256) : bits .or .i64 (a * 256) x = a * 256 + x := by
  rw [bits_join .i64 62 (by decide) wraps_i62 8 (a * 256) x (by omega) (by omega) (by omega) (by omega) (by omega) (by omega)]
set_option maxHeartbeats 4000000 in
theorem get_some {w : World} {cb g off len ty : Nat} {xs : List Int} (h : Cur w cb g off len) (hx : ArrS w g ty xs) (hb : ∀ x ∈ xs, 0 ≤ x ∧ x < 256) (hxl : off + len = xs.length) (size : Nat) (hs : size < len) (hs8 : size ≤ 6) (hne : cb ≠ g) :
    Calls Try.prog 91 #[.pointer (some ⟨cb, 0, none⟩), .int .i64 (size : Int)] w fun e w' => e = .returned (.int .i64 (num ((xs.drop off).take size))) ∧ w' = w.setCell ⟨cb, 0, none⟩ (.slice (some ⟨g, off + size, none⟩) (len - size) (len - size)) := by
  have A1 : ArrS (w.setCell ⟨cb, 0, none⟩ (.slice (some ⟨g, off + size, none⟩) (len - size) (len - size))) g ty xs := (heap_setCell_other _ _ _ _ (Ne.symm hne)).trans hx
  go_enter Try.func91, Try.ntmps91
  go_wp2_with fail
  refine (next_some h size hs).mono ?_
  rintro e w1 ⟨rfl, rfl⟩
  obtain ⟨w1, hw1⟩ : ∃ w1, Hid (w.setCell ⟨cb, 0, none⟩ (.slice (some ⟨g, off + size, none⟩) (len - size) (len - size)) = w1) := ⟨_, rfl⟩
  rw [hw1.out] at A1 ⊢
  go_wp2
  go_loopw [5, 12] (fun r v wr => ∃ i : Nat, i ≤ size ∧ v = .int .i64 (i : Int) ∧ r = .int .i64 (num ((xs.drop off).take i)) ∧ wr = w1) (fun _ v _ => size - (intOf v).toNat)
  case atStart => exact ⟨0, by omega, rfl, rfl, rfl⟩
  case round =>
    obtain ⟨i, hi, rfl, rfl, rfl⟩ := hrel
    by_cases his : i = size
    · have hlt : ¬ (i : Int) < (size : Int) := by omega
      rw [his]
      go_wp2
      go_ret
      exact ⟨rfl, hw1.out.symm⟩
    · have hlt : (i : Int) < (size : Int) := by omega
      have hzi : IntKind.i64.wrap ((i : Int) + 1) = (i : Int) + 1 := by rw [IntKind.wrap_i64]; omega
      have hcl := A1.cell (off + i) (by omega)
      obtain ⟨x, hxx⟩ : ∃ x, xs.getD (off + i) 0 = x := ⟨_, rfl⟩
      have hxb : 0 ≤ x ∧ x < 256 := by
        rw [← hxx, List.getD_eq_getElem?_getD, List.getElem?_eq_getElem (by omega)]
        exact hb _ (List.getElem_mem _)
      have htk : (xs.drop off).take (i + 1) = (xs.drop off).take i ++ [x] := by
        rw [List.take_add_one, List.getElem?_drop, List.getElem?_eq_getElem (by omega), ← hxx, List.getD_eq_getElem?_getD, List.getElem?_eq_getElem (by omega)]
        rfl
      have hnb := num_bound ((xs.drop off).take i) (fun y hy => hb y (List.mem_of_mem_drop (List.mem_of_mem_take hy))) (by rw [List.length_take]; omega)
      obtain ⟨a, ha⟩ : ∃ a, num ((xs.drop off).take i) = a := ⟨_, rfl⟩
      have hnx : num ((xs.drop off).take (i + 1)) = a * 256 + x := by rw [htk, num_snoc, ha]
      rw [ha] at hnb ⊢
      rw [hxx] at hcl
      have hv := or_byte a x hnb.1 hnb.2 hxb.1 hxb.2
      clear ha hxx htk hb
      go_wp2
      go_roundw
      case rel => exact ⟨i + 1, by omega, rfl, by rw [hnx], trivial⟩
      case measure => simp [intOf]; omega
end Go.Proofs.Ytofgphiamllmdab
