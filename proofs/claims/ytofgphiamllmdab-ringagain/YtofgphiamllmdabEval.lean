/- What is read of what was written. -/
import Derived.Test.YtofgphiamllmdabAppend
namespace Go.Proofs.Ytofgphiamllmdab
open Go.RowKit
set_option maxRecDepth 100000

theorem be_succ (size : Nat) (n : Int) : be (size + 1) n = be size (n / 256) ++ [n % 256] := by
  unfold be
  rw [List.range_succ, List.map_append]
  congr 1
  · apply List.map_congr_left
    intro i hi
    have hi : i < size := List.mem_range.1 hi
    unfold bz
    rw [show 8 * (size + 1 - 1 - i) = 8 + 8 * (size - 1 - i) by omega, Int.pow_add, show ((2 : Int) ^ 8) = 256 from rfl, ← Int.ediv_ediv_of_nonneg (by decide)]
  · simp [bz]
theorem num_be : ∀ (size : Nat) (n : Int), 0 ≤ n → n < 256 ^ size → num (be size n) = n
  | 0, n, h0, h1 => by
    have : n = 0 := by simp at h1; omega
    subst this
    rfl
  | size + 1, n, h0, h1 => by
    rw [be_succ, num_snoc, num_be size (n / 256) (by omega) (by rw [Int.pow_succ] at h1; omega)]
    omega
theorem mid_take {A B C : List Int} {a b : Nat} (hA : A.length = a) (hB : B.length = b) : ((A ++ (B ++ C)).drop a).take b = B := by
  subst hA hB
  simp
theorem hdAt_of {xs A B C : List Int} {off size : Nat} (h : xs = A ++ (B ++ C)) (hA : A.length = off) (hB : B.length = size) : hdAt xs off size = num B := by
  unfold hdAt
  rw [h, mid_take hA hB]
theorem headB_parts (l h f s : Int) : headB l h f s = nameB ++ (be 6 l ++ (be 1 h ++ (be 6 f ++ (be 6 s ++ (be 4 (crc (head27 l h f s)) ++ List.replicate (128 - (head27 l h f s ++ be 4 (crc (head27 l h f s))).length) 0))))) := by
  unfold headB fillB
  conv => lhs; lhs; lhs; unfold head27
  simp only [List.append_assoc]
theorem cnts_true {n : Int} (h1 : 1 ≤ n) (h2 : n ≤ 1099511627776) : cnts n = true := by unfold cnts; simp; omega
theorem rdHead_head {l h f s : Int} (l1 : 1 ≤ l) (l2 : l ≤ 1099511627776) (h1 : 0 ≤ h) (h2 : h ≤ 1) (f1 : 1 ≤ f) (f2 : f ≤ 1099511627776) (s1 : 1 ≤ s) (s2 : s ≤ 1099511627776) : rdHead (headB l h f s) = some (l, h, f, s) := by
  obtain ⟨R, hp⟩ : ∃ R, headB l h f s = nameB ++ (be 6 l ++ (be 1 h ++ (be 6 f ++ (be 6 s ++ R)))) := ⟨_, headB_parts l h f s⟩
  have e1 : hdAt (headB l h f s) 8 6 = l := by
    rw [hdAt_of hp (by rfl) (be_len 6 l), num_be 6 l (by omega) (by omega)]
  have e2 : hdAt (headB l h f s) 14 1 = h := by
    rw [hdAt_of (A := nameB ++ be 6 l) (B := be 1 h) (C := be 6 f ++ (be 6 s ++ R)) (by rw [hp]; simp only [List.append_assoc]) (by rw [List.length_append, be_len]; rfl) (be_len 1 h), num_be 1 h (by omega) (by omega)]
  have e3 : hdAt (headB l h f s) 15 6 = f := by
    rw [hdAt_of (A := nameB ++ (be 6 l ++ be 1 h)) (B := be 6 f) (C := be 6 s ++ R) (by rw [hp]; simp only [List.append_assoc]) (by simp only [List.length_append, be_len]; rfl) (be_len 6 f), num_be 6 f (by omega) (by omega)]
  have e4 : hdAt (headB l h f s) 21 6 = s := by
    rw [hdAt_of (A := nameB ++ (be 6 l ++ (be 1 h ++ be 6 f))) (B := be 6 s) (C := R) (by rw [hp]; simp only [List.append_assoc]) (by simp only [List.length_append, be_len]; rfl) (be_len 6 s), num_be 6 s (by omega) (by omega)]
  unfold rdHead
  rw [e1, e2, e3, e4, if_pos]
  refine ⟨?_, rfl⟩
  unfold canHead
  rw [cnts_true l1 l2, cnts_true f1 f2, cnts_true s1 s2]
  simp [h2]
theorem rdHead_zero : rdHead z128 = none := by kernel_rfl
theorem rdPiece_zero : rdPiece z128 = none := by kernel_rfl
theorem pieceB_parts (l q p : Int) (last : Bool) (ys : List Int) : pieceB l q p last ys = be 6 l ++ (be 6 q ++ (be 2 p ++ (be 1 (if last then 1 else 0) ++ (be 1 (ys.length : Int) ++ (ys ++ List.replicate (128 - (piece16 l q p last ys.length ++ ys).length) 0))))) := by
  unfold pieceB fillB
  conv => lhs; lhs; unfold piece16
  simp only [List.append_assoc]
theorem pieceB_bytes (l q p : Int) (last : Bool) (ys : List Int) : ((pieceB l q p last ys).drop 16).take ys.length = ys := by
  have hp := pieceB_parts l q p last ys
  rw [show pieceB l q p last ys = (be 6 l ++ (be 6 q ++ (be 2 p ++ (be 1 (if last then 1 else 0) ++ be 1 (ys.length : Int))))) ++ (ys ++ List.replicate (128 - (piece16 l q p last ys.length ++ ys).length) 0) by rw [hp]; simp only [List.append_assoc]]
  exact mid_take (by simp only [List.length_append, be_len]) rfl
theorem rdPiece_piece {l q p : Int} {last : Bool} {ys : List Int} (l1 : 0 ≤ l) (l2 : l ≤ 1099511627776) (q1 : 0 ≤ q) (q2 : q ≤ 1099511627776) (p1 : 0 ≤ p) (p2 : p < 65536) (y1 : 1 ≤ ys.length) (y2 : ys.length ≤ 112) (y3 : last = false → ys.length = 112) : rdPiece (pieceB l q p last ys) = some (l, q, p, last, ys.length) := by
  obtain ⟨R, hp⟩ : ∃ R, pieceB l q p last ys = be 6 l ++ (be 6 q ++ (be 2 p ++ (be 1 (if last then 1 else 0) ++ (be 1 (ys.length : Int) ++ R)))) := ⟨_, pieceB_parts l q p last ys⟩
  have hb := pieceB_bytes l q p last ys
  have e1 : hdAt (pieceB l q p last ys) 0 6 = l := by
    rw [hdAt_of (off := 0) (A := []) (B := be 6 l) (C := be 6 q ++ (be 2 p ++ (be 1 (if last then 1 else 0) ++ (be 1 (ys.length : Int) ++ R)))) hp rfl (be_len 6 l), num_be 6 l (by omega) (by omega)]
  have e2 : hdAt (pieceB l q p last ys) 6 6 = q := by
    rw [hdAt_of hp (be_len 6 l) (be_len 6 q), num_be 6 q (by omega) (by omega)]
  have e3 : hdAt (pieceB l q p last ys) 12 2 = p := by
    rw [hdAt_of (A := be 6 l ++ be 6 q) (B := be 2 p) (C := be 1 (if last then 1 else 0) ++ (be 1 (ys.length : Int) ++ R)) (by rw [hp]; simp only [List.append_assoc]) (by simp only [List.length_append, be_len]) (be_len 2 p), num_be 2 p (by omega) (by omega)]
  have e4 : hdAt (pieceB l q p last ys) 14 1 = if last then 1 else 0 := by
    rw [hdAt_of (A := be 6 l ++ (be 6 q ++ be 2 p)) (B := be 1 (if last then 1 else 0)) (C := be 1 (ys.length : Int) ++ R) (by rw [hp]; simp only [List.append_assoc]) (by simp only [List.length_append, be_len]) (be_len 1 _), num_be 1 _ (by split <;> omega) (by split <;> omega)]
  have e5 : hdAt (pieceB l q p last ys) 15 1 = (ys.length : Int) := by
    rw [hdAt_of (A := be 6 l ++ (be 6 q ++ (be 2 p ++ be 1 (if last then 1 else 0)))) (B := be 1 (ys.length : Int)) (C := R) (by rw [hp]; simp only [List.append_assoc]) (by simp only [List.length_append, be_len]) (be_len 1 _), num_be 1 _ (by omega) (by omega)]
  have e6 : ((if last then (1 : Int) else 0) != 0) = last := by cases last <;> rfl
  unfold rdPiece
  rw [e1, e2, e3, e4, e5, e6, Int.toNat_natCast, hb, if_pos]
  refine ⟨?_, rfl⟩
  unfold badB
  cases last
  · have := y3 rfl
    simp [this]
  · have k1 : ¬ ys.length < 1 := by omega
    have k2 : ¬ 112 < ys.length := by omega
    simp [k1, k2]
theorem wsP_range (m : Nat) (at' : Int) (xs : List Int) : wsP at' xs (List.finRange m) = (List.range m).map (fun (k : Nat) => (at' + (k : Int), ch xs k)) := by
  unfold wsP
  apply List.ext_getElem
  · simp
  · intro i h1 h2
    simp
theorem appl_range (G : Int → List Int) (at' : Int) (f : Nat → List Int) : ∀ (m : Nat) (i : Int), appl G ((List.range m).map (fun (k : Nat) => (at' + (k : Int), f k))) i = if at' ≤ i ∧ i < at' + (m : Int) then f (i - at').toNat else G i
  | 0, i => by
    rw [if_neg (by omega)]
    rfl
  | m + 1, i => by
    rw [List.range_succ, List.map_append, List.map_singleton, appl_snoc]
    show (if i = at' + (m : Int) then f m else appl G _ i) = _
    by_cases h : i = at' + (m : Int)
    · rw [if_pos h, if_pos (by omega), show (i - at').toNat = m by omega]
    · rw [if_neg h, appl_range G at' f m i]
      by_cases h2 : at' ≤ i ∧ i < at' + (m : Int)
      · rw [if_pos h2, if_pos (by omega)]
      · rw [if_neg h2, if_neg (by omega)]
/-- What stands on a device behind a Write. -/
theorem appl_write (G : Int → List Int) (at' : Int) (xs : List Int) (m : Nat) (i : Int) : appl G (wsP at' xs (List.finRange m)) i = if at' ≤ i ∧ i < at' + (m : Int) then ch xs (i - at').toNat else G i := by
  rw [wsP_range, appl_range]
theorem ch_one {xs : List Int} (h : xs.length = 128) : ch xs 0 = xs := by unfold ch; rw [Nat.mul_zero, List.drop_zero, List.take_of_length_le (by omega)]
theorem ch_two0 {xs ys : List Int} (h : xs.length = 128) : ch (xs ++ ys) 0 = xs := by unfold ch; rw [Nat.mul_zero, List.drop_zero, List.take_append_of_le_length (by omega), List.take_of_length_le (by omega)]
theorem ch_two1 {xs ys : List Int} (h : xs.length = 128) (h2 : ys.length = 128) : ch (xs ++ ys) 1 = ys := by unfold ch; rw [List.drop_append, h, List.drop_eq_nil_of_le (by omega), List.nil_append, Nat.mul_one, Nat.sub_self, List.drop_zero, List.take_of_length_le (by omega)]
end Go.Proofs.Ytofgphiamllmdab
