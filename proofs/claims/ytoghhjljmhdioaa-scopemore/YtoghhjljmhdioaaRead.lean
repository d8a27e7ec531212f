/- Add and Sub, of the program. -/
import Derived.Test.YtoghhjljmhdioaaAdd
import Derived.Test.YtoghhjljmhdioaaArr
import Derived.Test.YtoghhjljmhdioaaCut
namespace Go.Proofs.Ytoghhjljmhdioaa
set_option maxRecDepth 100000
open Go.RowKit

/-- What Add and Sub make of two numbers (n2: y's sign, m2: the one that is added with). -/
def addB (n1 : Bool) (xs : List Int) (n2 m2 : Bool) (ys : List Int) : Bool := if rightB n1 xs && rightB n2 ys then fitB (sumNeg n1 m2 (val8 xs) (val8 ys)) (sumMag n1 m2 (val8 xs) (val8 ys)) else false
def addE (n1 : Bool) (xs : List Int) (n2 m2 : Bool) (ys : List Int) : Int := if rightB n1 xs && rightB n2 ys then fitE (sumMag n1 m2 (val8 xs) (val8 ys)) else 1
def addM (n1 : Bool) (xs : List Int) (n2 m2 : Bool) (ys : List Int) : List Int := if rightB n1 xs && rightB n2 ys then fitM (sumMag n1 m2 (val8 xs) (val8 ys)) else []

end Go.Proofs.Ytoghhjljmhdioaa
namespace Go.Proofs.Ytoghhjljmhdioaa

/-- What is carried out of the first words of a product that is added onto T at the place P, where y's words below Q are taken. -/
def mulC (T X y P Q : Nat) : Nat := (T % (P * Q) + X * (y % Q) * P) / (P * Q)

theorem mulC_one (T X y P : Nat) (hP : 0 < P) : mulC T X y P 1 = 0 := by
  unfold mulC
  rw [Nat.mod_one, Nat.mul_zero, Nat.zero_mul, Nat.add_zero, Nat.mul_one]
  exact Nat.div_eq_of_lt (Nat.mod_lt _ hP)
theorem mulC_all (T X y P Q : Nat) (hT : T < P * Q) (hy : y < Q) : mulC T X y P Q = (T + X * y * P) / (P * Q) := by
  unfold mulC
  rw [Nat.mod_eq_of_lt hT, Nat.mod_eq_of_lt hy]
theorem mulC_lt (T X y P Q : Nat) (hP : 0 < P) (hQ : 0 < Q) (hX : X < 4294967296) : mulC T X y P Q < 4294967296 := by
  unfold mulC
  refine Nat.div_lt_of_lt_mul ?_
  have h1 : T % (P * Q) < P * Q := Nat.mod_lt _ (Nat.mul_pos hP hQ)
  have h2 : y % Q ≤ Q - 1 := by have := Nat.mod_lt y hQ; omega
  have h3 : X * (y % Q) * P ≤ 4294967295 * (Q - 1) * P := Nat.mul_le_mul_right _ (Nat.mul_le_mul (by omega) h2)
  obtain ⟨q, rfl⟩ : ∃ q, Q = q + 1 := ⟨Q - 1, by omega⟩
  rw [Nat.add_sub_cancel] at h3
  have e1 : 4294967295 * q * P = 4294967295 * (P * q) := by rw [Nat.mul_assoc, Nat.mul_comm q P]
  rw [e1] at h3
  rw [Nat.mul_add, Nat.mul_one] at h1 ⊢
  omega
/-- One word more. -/
theorem mulC_sum (T X y P Q : Nat) (hP : 0 < P) (hQ : 0 < Q) : (T % (P * Q * 4294967296) + X * (y % (Q * 4294967296)) * P) / (P * Q) = mulC T X y P Q + (X * (y / Q % 4294967296) + T / (P * Q) % 4294967296) := by
  unfold mulC
  rw [Nat.mod_mul (x := T) (a := P * Q), Nat.mod_mul (x := y) (a := Q)]
  have e : X * (y % Q + Q * (y / Q % 4294967296)) * P = X * (y % Q) * P + P * Q * (X * (y / Q % 4294967296)) := by
    rw [Nat.mul_add, Nat.add_mul]
    congr 1
    simp only [Nat.mul_comm, Nat.mul_left_comm, Nat.mul_assoc]
  rw [e, show T % (P * Q) + P * Q * (T / (P * Q) % 4294967296) + (X * (y % Q) * P + P * Q * (X * (y / Q % 4294967296))) = T % (P * Q) + X * (y % Q) * P + P * Q * (X * (y / Q % 4294967296) + T / (P * Q) % 4294967296) by rw [Nat.mul_add]; omega]
  rw [Nat.add_mul_div_left _ _ (Nat.mul_pos hP hQ)]
theorem mulC_next (T X y P Q : Nat) (hP : 0 < P) (hQ : 0 < Q) : mulC T X y P (Q * 4294967296) = (mulC T X y P Q + (X * (y / Q % 4294967296) + T / (P * Q) % 4294967296)) / 4294967296 := by
  rw [← mulC_sum T X y P Q hP hQ]
  conv => lhs; unfold mulC
  rw [← Nat.mul_assoc, Nat.div_div_eq_div_mul]
theorem mulC_word (T X y P Q : Nat) (hP : 0 < P) (hQ : 0 < Q) : (T + X * y * P) / (P * Q) % 4294967296 = (mulC T X y P Q + (X * (y / Q % 4294967296) + T / (P * Q) % 4294967296)) % 4294967296 := by
  rw [← mulC_sum T X y P Q hP hQ]
  have hPQ := Nat.mul_pos hP hQ
  have e1 : T = T % (P * Q * 4294967296) + P * Q * 4294967296 * (T / (P * Q * 4294967296)) := (Nat.mod_add_div _ _).symm
  have e2 : y = y % (Q * 4294967296) + Q * 4294967296 * (y / (Q * 4294967296)) := (Nat.mod_add_div _ _).symm
  have e : T + X * y * P = T % (P * Q * 4294967296) + X * (y % (Q * 4294967296)) * P + P * Q * (4294967296 * (T / (P * Q * 4294967296) + X * (y / (Q * 4294967296)))) := by
    conv => lhs; rw [e1, e2]
    rw [Nat.mul_add X, Nat.add_mul, Nat.mul_add 4294967296, Nat.mul_add (P * Q)]
    have f1 : P * Q * 4294967296 * (T / (P * Q * 4294967296)) = P * Q * (4294967296 * (T / (P * Q * 4294967296))) := by rw [Nat.mul_assoc (P * Q)]
    have f2 : X * (Q * 4294967296 * (y / (Q * 4294967296))) * P = P * Q * (4294967296 * (X * (y / (Q * 4294967296)))) := by simp only [Nat.mul_comm, Nat.mul_left_comm, Nat.mul_assoc]
    rw [f1, f2]
    omega
  rw [e, Nat.add_mul_div_left _ _ hPQ, Nat.add_mul_mod_self_left]
theorem mul_top (x y k : Nat) : x % 4294967296 ^ (k + 1) * y = x % 4294967296 ^ k * y + x / 4294967296 ^ k % 4294967296 * y * 4294967296 ^ k := by
  rw [Nat.pow_succ, Nat.mod_mul, Nat.add_mul]
  congr 1
  simp only [Nat.mul_comm, Nat.mul_left_comm]
theorem mul64 (c x y p : Nat) (hc : c < 4294967296) (hx : x < 4294967296) (hy : y < 4294967296) (hp : p < 4294967296) : c + (x * y + p) < 18446744073709551616 ∧ x * y + p < 18446744073709551616 ∧ x * y < 18446744073709551616 := by
  have : x * y ≤ 4294967295 * 4294967295 := Nat.mul_le_mul (by omega) (by omega)
  omega
/-- Words beyond both numbers are nought. -/
theorem mix_end (n a b k : Nat) (ha : a < 4294967296 ^ k) (hb : b < 4294967296 ^ k) : mix n a b k = words n a := by
  refine list_ext (n := n) (mix_len _ _ _ _) (words_len _ _) fun i hi => ?_
  rw [mix_get _ _ _ _ _ hi, words_get _ _ _ hi]
  congr 2
  by_cases h : i < k
  · rw [if_pos h]
  · rw [if_neg h]
    have hp : 4294967296 ^ k ≤ 4294967296 ^ i := Nat.pow_le_pow_right (by decide) (by omega)
    rw [Nat.div_eq_of_lt (by omega), Nat.div_eq_of_lt (by omega)]
end Go.Proofs.Ytoghhjljmhdioaa
namespace Go.Proofs.Ytoghhjljmhdioaa
open Go.RowKit

theorem Try.info88 : (Try.prog.info? 104).map (fun i => (i.zero, i.size)) = some (some (.agg (cellsW (words 64 0))), 64) := by kernel_rfl
theorem size64 (V : Nat) : (Try.prog.info? 104).map (·.size) = some (cellsW (words 64 V)).size := by
  rw [cellsW_size, words_len]; exact (zero_of_info Try.info88).2

theorem mix_cell (n a b k i : Nat) (h : i < n) (hk : k ≤ i) : (mix n a b k).getD i 0 = ((b / 4294967296 ^ i % 4294967296 : Nat) : Int) := by
  rw [mix_getD _ _ _ _ _ h, if_neg (by omega)]
theorem words_getD (n a i : Nat) (h : i < n) : (words n a).getD i 0 = ((a / 4294967296 ^ i % 4294967296 : Nat) : Int) := by
  rw [List.getD_eq_getElem?_getD, words_get _ _ _ h]; rfl

end Go.Proofs.Ytoghhjljmhdioaa
namespace Go.Proofs.Ytoghhjljmhdioaa
open Go.RowKit

theorem run_all64 (a : Addr) (w : World) : (Instr.sliceAt 104 (.pointer (some a)) none none none).run Try.prog w = .ok (.slice (some a) 64 64) w := by
  have hl : Try.prog.arrayLen 104 = 64 := by kernel_rfl
  have he : Try.prog.elem 104 = 103 := by kernel_rfl
  have ht : Try.prog.underlying 104 = some (.array (Try.prog.arrayLen 104) (Try.prog.elem 104)) := by rw [hl, he]; exact Try.underlying104
  have hs : (Try.prog.info? 103).map (·.size) = some 1 := by kernel_rfl
  have hz : (sizeOf 103).run Try.prog w = .ok 1 w := by
    cases hq : Try.prog.info? 103 with
    | none => simp [hq] at hs
    | some i => simp [hq] at hs; simp [sizeOf, typeInfo, hq, hs]
  rw [run_sliceAt_array_all w 104 a ht, he, hz, hl]
  simp [slicedAt, Result.andThen, Addr.add]
theorem run_alloc64 (a : Act) (w : World) {o : Oper} (ho : o.op = .alloc 104) : (execOp a.eval o).run Try.prog w = .ok (.value (.pointer (some ⟨w.heap.size, 0, none⟩))) (w.alloc (.cells (cellsW (words 64 0)) 104)) := by
  have hz := (zero_of_info Try.info88).1
  simp [execOp, ho, hz, go_sem]
theorem mul_bound {xs ys : List Int} (h1 : ∀ x ∈ xs, 0 ≤ x ∧ x < 256) (h2 : ∀ x ∈ ys, 0 ≤ x ∧ x < 256) (m1 : xs.length ≤ 128) (m2 : ys.length ≤ 128) : val8 xs < 4294967296 ^ 32 ∧ val8 ys < 4294967296 ^ 32 ∧ val8 xs * val8 ys < 4294967296 ^ 64 := by
  have a := Nat.lt_of_lt_of_le (val8_lt xs h1) (Nat.pow_le_pow_right (by decide) m1)
  have b := Nat.lt_of_lt_of_le (val8_lt ys h2) (Nat.pow_le_pow_right (by decide) m2)
  have e : (256 : Nat) ^ 128 = 4294967296 ^ 32 := by decide
  rw [e] at a b
  refine ⟨a, b, ?_⟩
  rw [show (4294967296 : Nat) ^ 64 = 4294967296 ^ 32 * 4294967296 ^ 32 by rw [← Nat.pow_add]]
  exact Nat.mul_lt_mul_of_lt_of_lt a b

/-- What Mul makes of two numbers. -/
def mulB (n1 : Bool) (xs : List Int) (n2 : Bool) (ys : List Int) : Bool := if rightB n1 xs && rightB n2 ys then fitB (n1 != n2) (val8 xs * val8 ys) else false
def mulE (n1 : Bool) (xs : List Int) (n2 : Bool) (ys : List Int) : Int := if rightB n1 xs && rightB n2 ys then fitE (val8 xs * val8 ys) else 1
def mulM (n1 : Bool) (xs : List Int) (n2 : Bool) (ys : List Int) : List Int := if rightB n1 xs && rightB n2 ys then fitM (val8 xs * val8 ys) else []

end Go.Proofs.Ytoghhjljmhdioaa
namespace Go.Proofs.Ytoghhjljmhdioaa
set_option maxRecDepth 100000
open Go.RowKit

theorem val10_take (d : List Int) (k : Nat) (hk : k < d.length) : val10 (d.take (k + 1)) = val10 (d.take k) * 10 + (d.getD k 0 - 48).toNat := by
  rw [List.take_succ_eq_append_getElem hk, val10_snoc]
  simp [hk]
theorem ten_le (m : Nat) (h : m ≤ 8) : 10 ^ m ≤ 100000000 := by
  have : 10 ^ m ≤ 10 ^ 8 := Nat.pow_le_pow_right (by decide) h
  omega
theorem ten_ne (m : Nat) (h : m < 8) : 10 ^ m * 10 ≠ 1000000000 := by
  have : 10 ^ m ≤ 10 ^ 7 := Nat.pow_le_pow_right (by decide) (by omega)
  omega

set_option maxRecDepth 100000 in
set_option maxHeartbeats 4000000 in
theorem fromDec_any (d : List Int) (w : World) (hd : Digs d) (hl : d.length ≤ 400) :
    Calls Try.prog 62 #[.string (strOfNums d)] w fun e w' => e = .returned (W 64 (val10 d)) ∧ Below w.heap.size w w' := by
  have hz := (zero_of_info Try.info88).1
  have hsz : (strOfNums d).size = d.length := strOfNums_size d
  have hb : ∀ x ∈ d, 0 ≤ x ∧ x < 256 := fun x hx => by have := hd x hx; omega
  unfold W
  go_enter Try.func62, Try.ntmps62
  go_wp2
  have a0 : Arr ((w.alloc (.cells (cellsW (words 64 0)) 104)).alloc (.cells (cellsW (words 64 0)) 104)) w.heap.size 104 (words 64 0) := heap_alloc2_old w _ _
  have a1 : Arr ((w.alloc (.cells (cellsW (words 64 0)) 104)).alloc (.cells (cellsW (words 64 0)) 104)) (w.heap.size + 1) 104 (words 64 0) := heap_alloc2_new w _ _
  have hB0 : Below w.heap.size w ((w.alloc (.cells (cellsW (words 64 0)) 104)).alloc (.cells (cellsW (words 64 0)) 104)) := box2 w _ _
  generalize (w.alloc (.cells (cellsW (words 64 0)) 104)).alloc (.cells (cellsW (words 64 0)) 104) = w1 at *
  go_loopw [9, 4, 5] (fun i p s wr => ∃ (k m V P sc : Nat), k ≤ d.length ∧ i = .int .i64 k ∧ p = .int .u32 P ∧ s = .int .u32 sc ∧ m ≤ 8 ∧ Hid (sc = 10 ^ m) ∧ P < sc ∧ sc ≤ 100000000 ∧ Hid (val10 (d.take k) = V * sc + P) ∧ (k = d.length → m = 0) ∧ Arr wr w.heap.size 104 (words 64 0) ∧ Arr wr (w.heap.size + 1) 104 (words 64 V) ∧ Below w.heap.size w wr) (fun i _ _ _ => d.length - (intOf i).toNat)
  case atStart => exact ⟨0, 0, 0, 0, 1, Nat.zero_le _, rfl, rfl, rfl, by decide, rfl, by decide, by decide, rfl, fun _ => rfl, a0, a1, hB0⟩
  case round =>
    obtain ⟨k, m, V, P, sc, hk, rfl, rfl, rfl, hm, hsc, hP, hs8, hv, hme, b0, b1, hB⟩ := hrel
    clear a0 a1 hB0 hz
    by_cases hlt : k < d.length
    · have hltI : (k : Int) < (d.length : Int) := by omega
      have hat := str_at d hb k hlt
      have hdg := hd (d.getD k 0) (by rw [show d.getD k 0 = d[k] by simp [hlt]]; exact List.getElem_mem hlt)
      have hvt := val10_take d k hlt
      obtain ⟨c, hc⟩ : ∃ c : Nat, d.getD k 0 = (c : Int) + 48 ∧ c ≤ 9 := ⟨(d.getD k 0 - 48).toNat, by omega, by omega⟩
      rw [hc.1] at hat hvt
      have hc9 := hc.2
      have hPc : P * 10 + c < sc * 10 := by omega
      have hnv : Hid (val10 (d.take (k + 1)) = V * (sc * 10) + (P * 10 + c)) := by
        show _ = _
        rw [hvt, hv.out, show ((c : Int) + 48 - 48).toNat = c by omega, Nat.add_mul, Nat.mul_assoc]
        omega
      have hcm : ((c : Int) + 48 - 48) % 256 = (c : Int) := by omega
      have hcm2 : ((c : Int) + 48 - 48) = (c : Int) := by omega
      clear hdg hvt hc hb hd
      by_cases h8 : m = 8
      · have hsc8 : sc = 100000000 := by rw [hsc.out, h8]
        subst hsc8
        go_wp2_with fail
        have c73 := addOnto_any (w.heap.size + 1) 104 64 64 V (100000000 * 10) (P * 10 + c) [] wr (by rw [List.append_nil]; exact b1) (by decide) (by decide) (by omega) (by omega)
        rw [show ((100000000 * 10 : Nat) : Int) = 1000000000 by simp, show ((P * 10 + c : Nat) : Int) = (P : Int) * 10 + (c : Int) by simp, List.append_nil] at c73
        refine c73.mono ?_
        rintro e w2 ⟨rfl, rfl⟩
        have d0 := b0.otherW (cellsW (words 64 (V * (100000000 * 10) + (P * 10 + c)))) (show w.heap.size ≠ w.heap.size + 1 by omega)
        have d1 := b1.setW (words 64 (V * (100000000 * 10) + (P * 10 + c)))
        have dB := below_setRow hB (show w.heap.size ≤ w.heap.size + 1 by omega) (cellsW (words 64 (V * (100000000 * 10) + (P * 10 + c))))
        generalize wr.setRow (w.heap.size + 1) (cellsW (words 64 (V * (100000000 * 10) + (P * 10 + c)))) = w3 at *
        clear c73 b0 b1 hB
        go_wp2
        go_roundw
        case rel => exact ⟨k + 1, 0, V * (100000000 * 10) + (P * 10 + c), 0, 1, by omega, by go_num, rfl, rfl, by decide, rfl, by decide, by decide, by show _ = _; rw [hnv.out]; simp, fun _ => rfl, d0, d1, dB⟩
        case measure => simp [intOf]; omega
      · have hne : ((sc : Int) * 10 == 1000000000) = false := by
          have := ten_ne m (by omega)
          rw [← hsc.out] at this
          simp
          omega
        by_cases hlast : k + 1 = d.length
        · have hlI : ((k : Int) == (d.length : Int) - 1) = true := by simp; omega
          go_wp2_with fail
          have c73 := addOnto_any (w.heap.size + 1) 104 64 64 V (sc * 10) (P * 10 + c) [] wr (by rw [List.append_nil]; exact b1) (by decide) (by decide) (by omega) (by omega)
          rw [show ((sc * 10 : Nat) : Int) = (sc : Int) * 10 by simp, show ((P * 10 + c : Nat) : Int) = (P : Int) * 10 + (c : Int) by simp, List.append_nil] at c73
          refine c73.mono ?_
          rintro e w2 ⟨rfl, rfl⟩
          have d0 := b0.otherW (cellsW (words 64 (V * (sc * 10) + (P * 10 + c)))) (show w.heap.size ≠ w.heap.size + 1 by omega)
          have d1 := b1.setW (words 64 (V * (sc * 10) + (P * 10 + c)))
          have dB := below_setRow hB (show w.heap.size ≤ w.heap.size + 1 by omega) (cellsW (words 64 (V * (sc * 10) + (P * 10 + c))))
          generalize wr.setRow (w.heap.size + 1) (cellsW (words 64 (V * (sc * 10) + (P * 10 + c)))) = w3 at *
          clear c73 b0 b1 hB
          go_wp2
          go_roundw
          case rel => exact ⟨k + 1, 0, V * (sc * 10) + (P * 10 + c), 0, 1, by omega, by go_num, rfl, rfl, by decide, rfl, by decide, by decide, by show _ = _; rw [hnv.out]; simp, fun _ => rfl, d0, d1, dB⟩
          case measure => simp [intOf]; omega
        · have hlI : ((k : Int) == (d.length : Int) - 1) = false := by simp; omega
          go_wp2
          go_roundw
          case rel => exact ⟨k + 1, m + 1, V, P * 10 + c, sc * 10, by omega, by go_num, by simp, by simp, by omega, by show _ = _; rw [hsc.out, Nat.pow_succ], hPc, by have := ten_le (m + 1) (by omega); rw [Nat.pow_succ, ← hsc.out] at this; exact this, hnv, fun h => absurd h hlast, b0, b1, hB⟩
          case measure => simp [intOf]; omega
    · obtain rfl : k = d.length := by omega
      have hm0 := hme rfl
      subst hm0
      have hv' := hv.out
      rw [List.take_length, hsc.out, Nat.pow_zero, Nat.mul_one] at hv'
      rw [hsc.out, Nat.pow_zero] at hP
      obtain rfl : P = 0 := by omega
      rw [Nat.add_zero] at hv'
      rw [← hv'] at b1
      clear hv'
      have hltI : ¬ (d.length : Int) < (d.length : Int) := by omega
      go_wp2_with (first | refine wpList_load_row rfl 104 _ rfl (w.heap.size + 1) rfl 104 _ _ _ b1 Try.underlying104 rfl (size64 _) ?_ | refine wpList_store_row rfl 104 _ _ rfl w.heap.size _ rfl rfl 104 _ b0 (size64 _) (by rw [cellsW_size, cellsW_size, words_len, words_len]) (cellsW_one _) ?_)
      exact bodyPost_ret (v := .agg (cellsW (words 64 (val10 d)))) (results_cell_row (by rfl) _ _ w.heap.size 104 _ (0, 0) _ rfl (b0.setW _) Try.underlying104 rfl (size64 _)) rfl ⟨rfl, below_setRow hB (Nat.le_refl _) _⟩
end Go.Proofs.Ytoghhjljmhdioaa
namespace Go.Proofs.Ytoghhjljmhdioaa
set_option maxRecDepth 100000
open Go.RowKit

theorem str_inj {xs ys : List Int} (hx : ∀ x ∈ xs, 0 ≤ x ∧ x < 256) (hy : ∀ x ∈ ys, 0 ≤ x ∧ x < 256) (h : (strOfNums xs).toList = (strOfNums ys).toList) : xs = ys := by
  have e : xs.map (fun n => UInt8.ofNat n.toNat) = ys.map (fun n => UInt8.ofNat n.toNat) := by rw [Lib.strOfNums_toList, Lib.strOfNums_toList] at h; exact h
  have hl : xs.length = ys.length := by simpa using congrArg List.length e
  apply List.ext_getElem hl
  intro i h1 h2
  have e2 : (xs.map (fun n => UInt8.ofNat n.toNat))[i]? = (ys.map (fun n => UInt8.ofNat n.toNat))[i]? := by rw [e]
  rw [List.getElem?_map, List.getElem?_map, List.getElem?_eq_getElem h1, List.getElem?_eq_getElem h2] at e2
  simp only [Option.map_some, Option.some.injEq] at e2
  have e3 := congrArg UInt8.toNat e2
  have a := hx _ (List.getElem_mem h1)
  have b := hy _ (List.getElem_mem h2)
  rw [UInt8.toNat_ofNat', UInt8.toNat_ofNat', Nat.mod_eq_of_lt (by omega), Nat.mod_eq_of_lt (by omega)] at e3
  omega
theorem rdOk_eq (ss : List Int) : rdOk ss = (plainB (rdD ss) && !(rdNeg ss && decide (rdD ss = [48]))) := by
  unfold rdOk plainB
  cases hn : rdNeg ss with
  | false =>
    have hD : rdD ss = ss := by unfold rdD; rw [hn]; rfl
    rw [hD]
    cases hd : digB ss with
    | false => simp
    | true =>
      simp only [Bool.and_true, Bool.false_and, Bool.not_false]
      congr 1
      cases h48 : (ss.getD 0 0 == 48) with
      | false => simp
      | true =>
        cases ss with
        | nil => simp at h48
        | cons c r => cases r with
          | nil => simp
          | cons _ _ => simp
  | true =>
    cases ss with
    | nil => simp [rdNeg] at hn
    | cons c r =>
      have hD : rdD (c :: r) = r := by unfold rdD; rw [hn]; rfl
      rw [hD]
      cases r with
      | nil => simp
      | cons e q =>
        cases hd : digB (e :: q) with
        | false => simp
        | true =>
          cases h48 : (e == 48) with
          | false =>
            have : e ≠ 48 := by simpa using h48
            simp [this]
          | true =>
            have : e = 48 := by simpa using h48
            subst this
            cases q with
            | nil => simp
            | cons _ _ => simp
theorem plain_digs {d : List Int} (h : plainB d = true) : Digs d := by
  unfold plainB at h
  rw [Bool.and_eq_true] at h
  exact (digB_iff d).1 h.2
theorem pow_two (b m p q : Nat) (hb : 0 < b) (h : m ≤ p + q) : b ^ m ≤ b ^ p * b ^ q := by
  rw [← Nat.pow_add]
  exact Nat.pow_le_pow_right hb h
theorem pow400 (d : List Int) (h : Digs d) (hl : d.length ≤ 400) : val10 d < 4294967296 ^ 64 := by
  have a := Nat.lt_of_lt_of_le (val10_lt d h) (pow_two 10 d.length 200 200 (by decide) hl)
  have b : 10 ^ 200 * 10 ^ 200 ≤ 4294967296 ^ 32 * 4294967296 ^ 32 := Nat.mul_le_mul (by decide) (by decide)
  rw [show (64 : Nat) = 32 + 32 from rfl, Nat.pow_add]
  exact Nat.lt_of_lt_of_le a b
theorem str_eq48 (d : List Int) (hb : ∀ x ∈ d, 0 ≤ x ∧ x < 256) : ((strOfNums d).toList == [48]) = decide (d = [48]) := by
  have e : (strOfNums [48]).toList = [48] := by rw [Lib.strOfNums_toList]; rfl
  by_cases h : d = [48]
  · subst h; rw [e]; rfl
  · rw [decide_eq_false h]
    have : (strOfNums d).toList ≠ [48] := fun he => h (str_inj hb (by decide) (he.trans e.symm))
    simpa using this

set_option maxRecDepth 100000 in
set_option maxHeartbeats 4000000 in
theorem read_any (ss : List Int) (w : World) (hb : ∀ x ∈ ss, 0 ≤ x ∧ x < 256) (hm : ss.length ≤ 9223372036854775807) :
    Calls Try.prog 51 #[.string (strOfNums ss)] w fun e w' => ∃ v, e = .returned (.tuple #[.agg #[.bool (rdB ss), v], .int .i64 (rdE ss)]) ∧ OwnB w' w.heap.size v (rdM ss) ∧ Below w.heap.size w w' := by
  have hB1 := box_below w (.cells #[.bool false, .slice none 0 0] 87)
  have z := heap_alloc_new w (.cells #[.bool false, .slice none 0 0] 87)
  have hs1 : (w.alloc (.cells #[.bool false, .slice none 0 0] 87)).heap.size = w.heap.size + 1 := by simp
  have hsz : (strOfNums ss).size = ss.length := strOfNums_size ss
  have hok := rdOk_eq ss
  have hdb : ∀ x ∈ rdD ss, 0 ≤ x ∧ x < 256 := by
    intro x hx
    unfold rdD at hx
    split at hx
    · exact hb x (List.mem_of_mem_drop hx)
    · exact hb x hx
  have hdl := rdD_len ss
  have h48 := str_eq48 (rdD ss) hdb
  have l48 := lit48
  obtain ⟨d, Hd⟩ : ∃ d, Hid (rdD ss = d) := ⟨_, rfl⟩
  obtain ⟨nb, Hn⟩ : ∃ d, Hid (rdNeg ss = d) := ⟨_, rfl⟩
  rw [Hd.out] at hok hdb hdl h48
  rw [Hn.out] at hok
  go_enter Try.func51, Try.ntmps51
  go_wp2_with fail
  generalize w.alloc (.cells #[.bool false, .slice none 0 0] 87) = w1 at *
  refine (cut_any ss w1 hb hm).mono ?_
  rintro e w2 ⟨rfl, rfl⟩
  rw [Hd.out, Hn.out]
  go_wp2_with fail
  refine (plain_any d w1 hdb (by omega)).mono ?_
  rintro e w2 ⟨rfl, rfl⟩
  obtain ⟨q0, q1, qf0, qf1⟩ := intVar z
  have hbad : rdOk ss = false → Hid (rdB ss = false) ∧ Hid (rdE ss = 11) ∧ Hid (rdM ss = []) := by
    intro h
    exact ⟨by show _ = _; unfold rdB; rw [h]; rfl, by show _ = _; unfold rdE; rw [h]; rfl, by show _ = _; unfold rdM; rw [h]; rfl⟩
  cases hp : plainB d with
  | false =>
    rw [hp] at hok
    obtain ⟨e1, e2, e3⟩ := hbad hok
    clear hbad hok
    go_wp2
    exact bodyPost_ret (v := .tuple #[.agg #[.bool false, .slice none 0 0], .int .i64 11]) (by simp [results, Try.results51, go_sem, q0, q1]) rfl ⟨.slice none 0 0, by rw [e1.out, e2.out], by rw [e3.out]; exact ownB_of (n := 0) (World.ownsRow_nil _ _ _ _) (by simp), below_put (b := w.heap.size) hB1 (Nat.le_refl _)⟩
  | true =>
    have hdg := plain_digs hp
    rw [hp, Bool.true_and] at hok
    cases hz : (nb && decide (d = [48])) with
    | true =>
      rw [hz] at hok
      obtain ⟨e1, e2, e3⟩ := hbad hok
      clear hbad hok
      rw [Bool.and_eq_true, decide_eq_true_iff] at hz
      obtain ⟨rfl, rfl⟩ := hz
      rw [decide_eq_true rfl] at h48
      have h48' : (strOfNums [48]).toList = [48] := by rw [Lib.strOfNums_toList]; rfl
      go_wp2
      exact bodyPost_ret (v := .tuple #[.agg #[.bool false, .slice none 0 0], .int .i64 11]) (by simp [results, Try.results51, go_sem, q0, q1]) rfl ⟨.slice none 0 0, by rw [e1.out, e2.out], by rw [e3.out]; exact ownB_of (n := 0) (World.ownsRow_nil _ _ _ _) (by simp), below_put (b := w.heap.size) hB1 (Nat.le_refl _)⟩
    | false =>
      rw [hz] at hok
      simp only [Bool.not_false] at hok
      clear hbad
      by_cases h4 : ss.length ≤ 400
      · have h4' : ¬ (400 : Int) < (ss.length : Int) := by omega
        have e1 : Hid (rdB ss = fitB nb (val10 d)) := by show _ = _; unfold rdB; rw [if_pos hok, if_pos h4, Hd.out, Hn.out]
        have e2 : Hid (rdE ss = fitE (val10 d)) := by show _ = _; unfold rdE; rw [if_pos hok, if_pos h4, Hd.out]
        have e3 : Hid (rdM ss = fitM (val10 d)) := by show _ = _; unfold rdM; rw [if_pos hok, if_pos h4, Hd.out]
        have hVb := pow400 d hdg (by omega)
        have c56 := fromDec_any d w1 hdg (by omega)
        obtain ⟨V, HV⟩ : ∃ V, Hid (val10 d = V) := ⟨_, rfl⟩
        rw [HV.out] at c56 hVb e1 e2 e3
        clear hok hp
        cases nb with
        | false =>
          go_wp2_with fail
          refine c56.mono ?_
          rintro e w3 ⟨rfl, hb3⟩
          unfold W
          have a6 : Arr (w3.alloc (.cells (cellsW (words 64 0)) 104)) w3.heap.size 104 (words 64 0) := heap_alloc_new w3 _
          have a6' := a6.setW (words 64 V)
          have hz64 := (zero_of_info Try.info88).1
          have u := (hb3.block _ (lt_of_block z)).trans z
          have hB3 := below_size hB1 (Nat.le_refl _) hb3
          have hs3 := hb3.size
          rw [hs1] at hs3
          have f0 := (setRow_other (w3.alloc (.cells (cellsW (words 64 0)) 104)) w3.heap.size w.heap.size (cellsW (words 64 V)) (Nat.ne_of_lt (lt_of_block u))).trans ((Below.heap_alloc _ _ _ (lt_of_block u)).trans u)
          have hB4 := below_setRow (hB3.alloc hB3.size (.cells (cellsW (words 64 0)) 104)) hB3.size (cellsW (words 64 V))
          have hs4 : w.heap.size + 1 ≤ ((w3.alloc (.cells (cellsW (words 64 0)) 104)).setRow w3.heap.size (cellsW (words 64 V))).heap.size := by simp; omega
          have hsl := fun b w => run_all64 ⟨b, 0, none⟩ w
          clear q0 q1 qf0 qf1
          go_wp2_with (refine wpList_store_row rfl 104 _ _ rfl w3.heap.size _ rfl rfl 104 _ a6 (size64 _) (by rw [cellsW_size, cellsW_size, words_len, words_len]) (cellsW_one _) ?_)
          generalize (w3.alloc (.cells (cellsW (words 64 0)) 104)).setRow w3.heap.size (cellsW (words 64 V)) = w4 at *
          refine (pack_any false (Arr.isW a6' (words_len _ _) (by decide) (words_lt _ _)) (by decide) (val32_words 64 _ hVb)).mono ?_
          rintro e w5 ⟨v5, rfl, o5, hb5⟩
          have u5 := (hb5.block _ (lt_of_block f0)).trans f0
          have hB5 := below_size hB4 (Nat.le_refl _) hb5
          rw [← e1.out, ← e2.out]
          rw [← e3.out] at o5
          obtain ⟨bb, Kb⟩ : ∃ bb, Hid (rdB ss = bb) := ⟨_, rfl⟩
          obtain ⟨ee, Ke⟩ : ∃ ee, Hid (rdE ss = ee) := ⟨_, rfl⟩
          obtain ⟨mm, Km⟩ : ∃ mm, Hid (rdM ss = mm) := ⟨_, rfl⟩
          rw [Km.out] at o5
          rw [Kb.out, Ke.out]
          obtain ⟨av, cv, rfl, _⟩ := o5.2
          clear e1 e2 e3 hz64
          obtain ⟨p0, p1, pf0, pf1⟩ := intVar u5
          go_wp2
          exact bodyPost_ret (v := .tuple #[.agg #[.bool bb, .slice av mm.length cv], .int .i64 ee]) (by simp [results, Try.results51, go_sem, p0, p1]) rfl ⟨_, by rw [Kb.out, Ke.out], by rw [Km.out]; exact OwnB.put (base := w.heap.size + 1) (b := w.heap.size) (b0 := w.heap.size) (o5.mono (by omega)) (by omega) (by omega), below_put (b := w.heap.size) hB5 (Nat.le_refl _)⟩
        | true =>
          rw [Bool.true_and] at hz
          rw [hz] at h48
          go_wp2_with fail
          refine c56.mono ?_
          rintro e w3 ⟨rfl, hb3⟩
          unfold W
          have a6 : Arr (w3.alloc (.cells (cellsW (words 64 0)) 104)) w3.heap.size 104 (words 64 0) := heap_alloc_new w3 _
          have a6' := a6.setW (words 64 V)
          have hz64 := (zero_of_info Try.info88).1
          have u := (hb3.block _ (lt_of_block z)).trans z
          have hB3 := below_size hB1 (Nat.le_refl _) hb3
          have hs3 := hb3.size
          rw [hs1] at hs3
          have f0 := (setRow_other (w3.alloc (.cells (cellsW (words 64 0)) 104)) w3.heap.size w.heap.size (cellsW (words 64 V)) (Nat.ne_of_lt (lt_of_block u))).trans ((Below.heap_alloc _ _ _ (lt_of_block u)).trans u)
          have hB4 := below_setRow (hB3.alloc hB3.size (.cells (cellsW (words 64 0)) 104)) hB3.size (cellsW (words 64 V))
          have hs4 : w.heap.size + 1 ≤ ((w3.alloc (.cells (cellsW (words 64 0)) 104)).setRow w3.heap.size (cellsW (words 64 V))).heap.size := by simp; omega
          have hsl := fun b w => run_all64 ⟨b, 0, none⟩ w
          clear q0 q1 qf0 qf1
          go_wp2_with (refine wpList_store_row rfl 104 _ _ rfl w3.heap.size _ rfl rfl 104 _ a6 (size64 _) (by rw [cellsW_size, cellsW_size, words_len, words_len]) (cellsW_one _) ?_)
          generalize (w3.alloc (.cells (cellsW (words 64 0)) 104)).setRow w3.heap.size (cellsW (words 64 V)) = w4 at *
          refine (pack_any true (Arr.isW a6' (words_len _ _) (by decide) (words_lt _ _)) (by decide) (val32_words 64 _ hVb)).mono ?_
          rintro e w5 ⟨v5, rfl, o5, hb5⟩
          have u5 := (hb5.block _ (lt_of_block f0)).trans f0
          have hB5 := below_size hB4 (Nat.le_refl _) hb5
          rw [← e1.out, ← e2.out]
          rw [← e3.out] at o5
          obtain ⟨bb, Kb⟩ : ∃ bb, Hid (rdB ss = bb) := ⟨_, rfl⟩
          obtain ⟨ee, Ke⟩ : ∃ ee, Hid (rdE ss = ee) := ⟨_, rfl⟩
          obtain ⟨mm, Km⟩ : ∃ mm, Hid (rdM ss = mm) := ⟨_, rfl⟩
          rw [Km.out] at o5
          rw [Kb.out, Ke.out]
          obtain ⟨av, cv, rfl, _⟩ := o5.2
          clear e1 e2 e3 hz64
          obtain ⟨p0, p1, pf0, pf1⟩ := intVar u5
          go_wp2
          exact bodyPost_ret (v := .tuple #[.agg #[.bool bb, .slice av mm.length cv], .int .i64 ee]) (by simp [results, Try.results51, go_sem, p0, p1]) rfl ⟨_, by rw [Kb.out, Ke.out], by rw [Km.out]; exact OwnB.put (base := w.heap.size + 1) (b := w.heap.size) (b0 := w.heap.size) (o5.mono (by omega)) (by omega) (by omega), below_put (b := w.heap.size) hB5 (Nat.le_refl _)⟩
      · have h4' : (400 : Int) < (ss.length : Int) := by omega
        have e1 : Hid (rdB ss = false) := by show _ = _; unfold rdB; rw [if_pos hok, if_neg h4]
        have e2 : Hid (rdE ss = 24) := by show _ = _; unfold rdE; rw [if_pos hok, if_neg h4]
        have e3 : Hid (rdM ss = []) := by show _ = _; unfold rdM; rw [if_pos hok, if_neg h4]
        clear hok hp
        cases nb with
        | false =>
          go_wp2
          exact bodyPost_ret (v := .tuple #[.agg #[.bool false, .slice none 0 0], .int .i64 24]) (by simp [results, Try.results51, go_sem, q0, q1]) rfl ⟨.slice none 0 0, by rw [e1.out, e2.out], by rw [e3.out]; exact ownB_of (n := 0) (World.ownsRow_nil _ _ _ _) (by simp), below_put (b := w.heap.size) hB1 (Nat.le_refl _)⟩
        | true =>
          rw [Bool.true_and] at hz
          rw [hz] at h48
          go_wp2
          exact bodyPost_ret (v := .tuple #[.agg #[.bool false, .slice none 0 0], .int .i64 24]) (by simp [results, Try.results51, go_sem, q0, q1]) rfl ⟨.slice none 0 0, by rw [e1.out, e2.out], by rw [e3.out]; exact ownB_of (n := 0) (World.ownsRow_nil _ _ _ _) (by simp), below_put (b := w.heap.size) hB1 (Nat.le_refl _)⟩
end Go.Proofs.Ytoghhjljmhdioaa
