/- Add and Sub, of the program. -/
import Derived.Test.YtlhmeipbcioncaaDoorAdd
import Derived.Test.YtlhmeipbcioncaaDoorArr
namespace Go.Proofs.YtlhmeipbcioncaaDoor
open Go.RowKit

/-- What Add and Sub make of two numbers (n2: y's sign, m2: the one that is added with). -/
def addB (n1 : Bool) (xs : List Int) (n2 m2 : Bool) (ys : List Int) : Bool := if rightB n1 xs && rightB n2 ys then fitB (sumNeg n1 m2 (val8 xs) (val8 ys)) (sumMag n1 m2 (val8 xs) (val8 ys)) else false
def addE (n1 : Bool) (xs : List Int) (n2 m2 : Bool) (ys : List Int) : Int := if rightB n1 xs && rightB n2 ys then fitE (sumMag n1 m2 (val8 xs) (val8 ys)) else 1
def addM (n1 : Bool) (xs : List Int) (n2 m2 : Bool) (ys : List Int) : List Int := if rightB n1 xs && rightB n2 ys then fitM (sumMag n1 m2 (val8 xs) (val8 ys)) else []

end Go.Proofs.YtlhmeipbcioncaaDoor
namespace Go.Proofs.YtlhmeipbcioncaaDoor

/-- What is carried out of the first words of a product that is added onto T at the place P, where y's words below Q are taken. -/
def mulC (T X y P Q : Nat) : Nat := (T % (P * Q) + X * (y % Q) * P) / (P * Q)

theorem mulC_one (T X y P : Nat) (hP : 0 < P) : mulC T X y P 1 = 0 := by
  unfold mulC
  rw [Nat.mod_one, Nat.mul_zero, Nat.zero_mul, Nat.add_zero, Nat.mul_one]
  exact Nat.div_eq_of_lt (Nat.mod_lt _ hP)
theorem mulC_all (T X y P Q : Nat) (hT : T < P * Q) (hy : y < Q) : mulC T X y P Q = (T + X * y * P) / (P * Q) := by
  unfold mulC
  rw [Nat.mod_eq_of_lt hT, Nat.mod_eq_of_lt hy]
theorem mulC_lt (T X y P Q : Nat) (hP : 0 < P) (hQ : 0 < Q) (hX : X < 4294967296) : mulC T X y P Q < 4294967296 := by
  unfold mulC
  refine Nat.div_lt_of_lt_mul ?_
  have h1 : T % (P * Q) < P * Q := Nat.mod_lt _ (Nat.mul_pos hP hQ)
  have h2 : y % Q ≤ Q - 1 := by have := Nat.mod_lt y hQ; omega
  have h3 : X * (y % Q) * P ≤ 4294967295 * (Q - 1) * P := Nat.mul_le_mul_right _ (Nat.mul_le_mul (by omega) h2)
  obtain ⟨q, rfl⟩ : ∃ q, Q = q + 1 := ⟨Q - 1, by omega⟩
  rw [Nat.add_sub_cancel] at h3
  have e1 : 4294967295 * q * P = 4294967295 * (P * q) := by rw [Nat.mul_assoc, Nat.mul_comm q P]
  rw [e1] at h3
  rw [Nat.mul_add, Nat.mul_one] at h1 ⊢
  omega
/-- One word more. -/
theorem mulC_sum (T X y P Q : Nat) (hP : 0 < P) (hQ : 0 < Q) : (T % (P * Q * 4294967296) + X * (y % (Q * 4294967296)) * P) / (P * Q) = mulC T X y P Q + (X * (y / Q % 4294967296) + T / (P * Q) % 4294967296) := by
  unfold mulC
  rw [Nat.mod_mul (x := T) (a := P * Q), Nat.mod_mul (x := y) (a := Q)]
  have e : X * (y % Q + Q * (y / Q % 4294967296)) * P = X * (y % Q) * P + P * Q * (X * (y / Q % 4294967296)) := by
    rw [Nat.mul_add, Nat.add_mul]
    congr 1
    simp only [Nat.mul_comm, Nat.mul_left_comm, Nat.mul_assoc]
  rw [e, show T % (P * Q) + P * Q * (T / (P * Q) % 4294967296) + (X * (y % Q) * P + P * Q * (X * (y / Q % 4294967296))) = T % (P * Q) + X * (y % Q) * P + P * Q * (X * (y / Q % 4294967296) + T / (P * Q) % 4294967296) by rw [Nat.mul_add]; omega]
  rw [Nat.add_mul_div_left _ _ (Nat.mul_pos hP hQ)]
theorem mulC_next (T X y P Q : Nat) (hP : 0 < P) (hQ : 0 < Q) : mulC T X y P (Q * 4294967296) = (mulC T X y P Q + (X * (y / Q % 4294967296) + T / (P * Q) % 4294967296)) / 4294967296 := by
  rw [← mulC_sum T X y P Q hP hQ]
  conv => lhs; unfold mulC
  rw [← Nat.mul_assoc, Nat.div_div_eq_div_mul]
theorem mulC_word (T X y P Q : Nat) (hP : 0 < P) (hQ : 0 < Q) : (T + X * y * P) / (P * Q) % 4294967296 = (mulC T X y P Q + (X * (y / Q % 4294967296) + T / (P * Q) % 4294967296)) % 4294967296 := by
  rw [← mulC_sum T X y P Q hP hQ]
  have hPQ := Nat.mul_pos hP hQ
  have e1 : T = T % (P * Q * 4294967296) + P * Q * 4294967296 * (T / (P * Q * 4294967296)) := (Nat.mod_add_div _ _).symm
  have e2 : y = y % (Q * 4294967296) + Q * 4294967296 * (y / (Q * 4294967296)) := (Nat.mod_add_div _ _).symm
  have e : T + X * y * P = T % (P * Q * 4294967296) + X * (y % (Q * 4294967296)) * P + P * Q * (4294967296 * (T / (P * Q * 4294967296) + X * (y / (Q * 4294967296)))) := by
    conv => lhs; rw [e1, e2]
    rw [Nat.mul_add X, Nat.add_mul, Nat.mul_add 4294967296, Nat.mul_add (P * Q)]
    have f1 : P * Q * 4294967296 * (T / (P * Q * 4294967296)) = P * Q * (4294967296 * (T / (P * Q * 4294967296))) := by rw [Nat.mul_assoc (P * Q)]
    have f2 : X * (Q * 4294967296 * (y / (Q * 4294967296))) * P = P * Q * (4294967296 * (X * (y / (Q * 4294967296)))) := by simp only [Nat.mul_comm, Nat.mul_left_comm, Nat.mul_assoc]
    rw [f1, f2]
    omega
  rw [e, Nat.add_mul_div_left _ _ hPQ, Nat.add_mul_mod_self_left]
theorem mul_top (x y k : Nat) : x % 4294967296 ^ (k + 1) * y = x % 4294967296 ^ k * y + x / 4294967296 ^ k % 4294967296 * y * 4294967296 ^ k := by
  rw [Nat.pow_succ, Nat.mod_mul, Nat.add_mul]
  congr 1
  simp only [Nat.mul_comm, Nat.mul_left_comm]
theorem mul64 (c x y p : Nat) (hc : c < 4294967296) (hx : x < 4294967296) (hy : y < 4294967296) (hp : p < 4294967296) : c + (x * y + p) < 18446744073709551616 ∧ x * y + p < 18446744073709551616 ∧ x * y < 18446744073709551616 := by
  have : x * y ≤ 4294967295 * 4294967295 := Nat.mul_le_mul (by omega) (by omega)
  omega
/-- Words beyond both numbers are nought. -/
theorem mix_end (n a b k : Nat) (ha : a < 4294967296 ^ k) (hb : b < 4294967296 ^ k) : mix n a b k = words n a := by
  refine list_ext (n := n) (mix_len _ _ _ _) (words_len _ _) fun i hi => ?_
  rw [mix_get _ _ _ _ _ hi, words_get _ _ _ hi]
  congr 2
  by_cases h : i < k
  · rw [if_pos h]
  · rw [if_neg h]
    have hp : 4294967296 ^ k ≤ 4294967296 ^ i := Nat.pow_le_pow_right (by decide) (by omega)
    rw [Nat.div_eq_of_lt (by omega), Nat.div_eq_of_lt (by omega)]
end Go.Proofs.YtlhmeipbcioncaaDoor
namespace Go.Proofs.YtlhmeipbcioncaaDoor
open Go.RowKit

theorem Tryd.info64 : (Tryd.prog.info? 87).map (fun i => (i.zero, i.size)) = some (some (.agg (cellsW (words 64 0))), 64) := by kernel_rfl
theorem size64 (V : Nat) : (Tryd.prog.info? 87).map (·.size) = some (cellsW (words 64 V)).size := by
  rw [cellsW_size, words_len]; exact (zero_of_info Tryd.info64).2

theorem mix_cell (n a b k i : Nat) (h : i < n) (hk : k ≤ i) : (mix n a b k).getD i 0 = ((b / 4294967296 ^ i % 4294967296 : Nat) : Int) := by
  rw [mix_getD _ _ _ _ _ h, if_neg (by omega)]
theorem words_getD (n a i : Nat) (h : i < n) : (words n a).getD i 0 = ((a / 4294967296 ^ i % 4294967296 : Nat) : Int) := by
  rw [List.getD_eq_getElem?_getD, words_get _ _ _ h]; rfl

end Go.Proofs.YtlhmeipbcioncaaDoor
namespace Go.Proofs.YtlhmeipbcioncaaDoor
open Go.RowKit

theorem run_all64 (a : Addr) (w : World) : (Instr.sliceAt 87 (.pointer (some a)) none none none).run Tryd.prog w = .ok (.slice (some a) 64 64) w := by
  have hl : Tryd.prog.arrayLen 87 = 64 := by kernel_rfl
  have he : Tryd.prog.elem 87 = 86 := by kernel_rfl
  have ht : Tryd.prog.underlying 87 = some (.array (Tryd.prog.arrayLen 87) (Tryd.prog.elem 87)) := by rw [hl, he]; exact Tryd.underlying87
  have hs : (Tryd.prog.info? 86).map (·.size) = some 1 := by kernel_rfl
  have hz : (sizeOf 86).run Tryd.prog w = .ok 1 w := by
    cases hq : Tryd.prog.info? 86 with
    | none => simp [hq] at hs
    | some i => simp [hq] at hs; simp [sizeOf, typeInfo, hq, hs]
  rw [run_sliceAt_array_all w 87 a ht, he, hz, hl]
  simp [slicedAt, Result.andThen, Addr.add]
theorem run_alloc64 (a : Act) (w : World) {o : Oper} (ho : o.op = .alloc 87) : (execOp a.eval o).run Tryd.prog w = .ok (.value (.pointer (some ⟨w.heap.size, 0, none⟩))) (w.alloc (.cells (cellsW (words 64 0)) 87)) := by
  have hz := (zero_of_info Tryd.info64).1
  simp [execOp, ho, hz, go_sem]
theorem mul_bound {xs ys : List Int} (h1 : ∀ x ∈ xs, 0 ≤ x ∧ x < 256) (h2 : ∀ x ∈ ys, 0 ≤ x ∧ x < 256) (m1 : xs.length ≤ 128) (m2 : ys.length ≤ 128) : val8 xs < 4294967296 ^ 32 ∧ val8 ys < 4294967296 ^ 32 ∧ val8 xs * val8 ys < 4294967296 ^ 64 := by
  have a := Nat.lt_of_lt_of_le (val8_lt xs h1) (Nat.pow_le_pow_right (by decide) m1)
  have b := Nat.lt_of_lt_of_le (val8_lt ys h2) (Nat.pow_le_pow_right (by decide) m2)
  have e : (256 : Nat) ^ 128 = 4294967296 ^ 32 := by decide
  rw [e] at a b
  refine ⟨a, b, ?_⟩
  rw [show (4294967296 : Nat) ^ 64 = 4294967296 ^ 32 * 4294967296 ^ 32 by rw [← Nat.pow_add]]
  exact Nat.mul_lt_mul_of_lt_of_lt a b

/-- What Mul makes of two numbers. -/
def mulB (n1 : Bool) (xs : List Int) (n2 : Bool) (ys : List Int) : Bool := if rightB n1 xs && rightB n2 ys then fitB (n1 != n2) (val8 xs * val8 ys) else false
def mulE (n1 : Bool) (xs : List Int) (n2 : Bool) (ys : List Int) : Int := if rightB n1 xs && rightB n2 ys then fitE (val8 xs * val8 ys) else 1
def mulM (n1 : Bool) (xs : List Int) (n2 : Bool) (ys : List Int) : List Int := if rightB n1 xs && rightB n2 ys then fitM (val8 xs * val8 ys) else []

end Go.Proofs.YtlhmeipbcioncaaDoor
