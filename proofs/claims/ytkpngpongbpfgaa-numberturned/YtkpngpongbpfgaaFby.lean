/- A float's bytes. -/
import Derived.Test.YtkpngpongbpfgaaRightN
namespace Go.Proofs.Ytkpngpongbpfgaa
open Go.RowKit
set_option maxRecDepth 100000
theorem bytesN_at : ∀ (k n i : Nat), i < k → (bytesN k n)[i]? = some ((n / 256 ^ (k - 1 - i) % 256 : Nat) : Int)
  | 0, _, _, h => by omega
  | k + 1, n, i, h => by
    unfold bytesN
    by_cases hi : i < k
    · rw [List.getElem?_append_left (by rw [bytesN_len]; exact hi), bytesN_at k (n / 256) i hi]
      rw [Nat.div_div_eq_div_mul, show k + 1 - 1 - i = (k - 1 - i) + 1 by omega, Nat.pow_succ, Nat.mul_comm 256]
    · obtain rfl : i = k := by omega
      rw [List.getElem?_append_right (by rw [bytesN_len]; exact Nat.le_refl _), bytesN_len]
      simp
theorem take_snoc {xs : List Int} {k : Nat} {x : Int} (h : xs[k]? = some x) : xs.take (k + 1) = xs.take k ++ [x] := by
  rw [List.take_add_one, h]
  rfl
theorem isB_one (w : World) (b : Int) (hb : 0 ≤ b ∧ b < 256) : IsB (w.alloc (.cells #[.int .u8 b] 5)) (some ⟨w.heap.size, 0, none⟩) 1 1 [b] := by
  refine ⟨rfl, Nat.le_refl _, by decide, by simp, by intro v hv; simp at hv; subst hv; exact hb, fun _ => ⟨_, _, rfl, fun i hi => ?_⟩⟩
  obtain rfl : i = 0 := by omega
  rw [cell_of_row _ _ _ _ _ _ (newF w (.cells #[.int .u8 b] 5))]
  rfl
theorem ownB_mk {w : World} {base n : Nat} {v : Value} {xs : List Int} (h : w.ownsRow base 5 1 v n (xs.map (Value.int .u8))) (hb : ∀ x ∈ xs, 0 ≤ x ∧ x < 256) : OwnB w base v xs := ownB_of h hb
theorem OwnB.byteN {w : World} {base : Nat} {v : Value} {xs : List Int} (h : OwnB w base v xs) : ∀ x ∈ xs, 0 ≤ x ∧ x < 256 := by
  obtain ⟨_, a, c, _, I⟩ := h
  exact I.byte
/-- append onto bytes of the call's own. -/
theorem app_ownN {ops : Array Oper} {rest : List Oper} {o : Oper} {a : Act} {Q : Exit → Act → World → Prop} (w : World) (hgd : o.guard = none) (s x : Operand)
    (ho : o.op = .call { callee := .builtin .append, args := #[s, x], argTypes := #[22, 22] })
    (base : Nat) (v : Value) (xs : List Int) (hs : a.eval s = v) (hown : OwnB w base v xs)
    (ab : Option Addr) (len cap : Nat) (ys : List Int) (hx : a.eval x = .slice ab len cap) (hB : IsB w ab len cap ys) (h47 : xs.length + len ≤ 140737488500000) (h47' : len ≤ 140737488355328) (hbase : base ≤ w.heap.size)
    (h : ∀ a' n' c' w', OwnB w' base (.slice a' n' c') (xs ++ ys) → Below base w w' → wpList Try.prog ops Q rest (a.put o.dst (.slice a' n' c')) w') : wpList Try.prog ops Q (o :: rest) a w := by
  refine app_bytes w hgd s x ho base v xs.length xs hs hown.1 ab len cap ys hx hB h47 h47' hbase ?_
  intro v' w' O B
  have O' := ownB_of O (append_bytes _ _ hown.byteN hB.byte)
  obtain ⟨_, a', c', rfl, _⟩ := O'
  exact h _ _ _ w' (ownB_of O (append_bytes _ _ hown.byteN hB.byte)) B
theorem box_mono {B : Nat} {w w' : World} {o : Obj} (hB : B ≤ w.heap.size) (h : Below B (w.alloc o) w') : Below B w w' := ((box_belowF (w := w) (o := o)).mono hB).trans h
set_option maxHeartbeats 2000000 in
theorem appendFloat_any {w : World} {base : Nat} {v : Value} {ys : List Int} (x : Nat) (hx : x < 18446744073709551616) (O : OwnB w base v ys) (hbase : base ≤ w.heap.size) (hl : ys.length ≤ 1000) :
    Calls Try.prog 38 #[v, .float .f64 x] w fun e w' => ∃ v', e = .returned v' ∧ OwnB w' base v' (ys ++ bytesN 8 x) ∧ Below base w w' := by
  have hb := fun w => run_f64bits w x
  go_enter Try.func38, Try.ntmps38
  go_wp2
  go_loopw [0, 9] (fun ov iv wr => ∃ k : Nat, k ≤ 8 ∧ iv = .int .i64 (k : Int) ∧ OwnB wr base ov (ys ++ (bytesN 8 x).take k) ∧ Below base w wr) (fun _ iv _ => 8 - (intOf iv).toNat)
  case atStart => exact ⟨0, by omega, rfl, by simpa using O, Below.refl _ _⟩
  case round =>
    obtain ⟨k, hk, rfl, O1, B1⟩ := hrel
    by_cases hlt : k < 8
    · obtain ⟨a1, c1, rfl, I1⟩ := O1.2
      have hbk := bytesN_at 8 x k hlt
      rcases (by omega : k = 0 ∨ k = 1 ∨ k = 2 ∨ k = 3 ∨ k = 4 ∨ k = 5 ∨ k = 6 ∨ k = 7) with rfl | rfl | rfl | rfl | rfl | rfl | rfl | rfl
      · go_wp2_with (at_builtin; refine app_ownN _ rfl _ _ rfl base _ _ rfl (O1.below box_belowF) _ 1 1 _ rfl (isB_one _ _ (by omega)) (by simp; omega) (by omega) (by have := B1.size; simp; omega) ?_)
        intro a5 n5 c5 w5 O5 B5
        have O6 : OwnB w5 base (.slice a5 n5 c5) (ys ++ (bytesN 8 x).take (0 + 1)) := by
          rw [take_snoc hbk, ← List.append_assoc]
          have e : ((x / 256 ^ (8 - 1 - 0) % 256 : Nat) : Int) = (x : Int) / 72057594037927936 := by omega
          rw [e]
          simpa using O5
        have B6 := B1.trans (box_mono (by have := B1.size; omega) B5)
        clear O5 B5 O1 I1
        go_wp2
        go_roundw
        case rel => exact ⟨0 + 1, by omega, by go_num, O6, B6⟩
        case measure => simp [intOf]
      · go_wp2_with (at_builtin; refine app_ownN _ rfl _ _ rfl base _ _ rfl (O1.below box_belowF) _ 1 1 _ rfl (isB_one _ _ (by omega)) (by simp [bytesN_len]; omega) (by omega) (by have := B1.size; simp; omega) ?_)
        intro a5 n5 c5 w5 O5 B5
        have O6 : OwnB w5 base (.slice a5 n5 c5) (ys ++ (bytesN 8 x).take (1 + 1)) := by
          rw [take_snoc hbk, ← List.append_assoc]
          have e : ((x / 256 ^ (8 - 1 - 1) % 256 : Nat) : Int) = (x : Int) / 281474976710656 % 256 := by omega
          rw [e]
          simpa using O5
        have B6 := B1.trans (box_mono (by have := B1.size; omega) B5)
        clear O5 B5 O1 I1
        go_wp2
        go_roundw
        case rel => exact ⟨1 + 1, by omega, by go_num, O6, B6⟩
        case measure => simp [intOf]
      · go_wp2_with (at_builtin; refine app_ownN _ rfl _ _ rfl base _ _ rfl (O1.below box_belowF) _ 1 1 _ rfl (isB_one _ _ (by omega)) (by simp [bytesN_len]; omega) (by omega) (by have := B1.size; simp; omega) ?_)
        intro a5 n5 c5 w5 O5 B5
        have O6 : OwnB w5 base (.slice a5 n5 c5) (ys ++ (bytesN 8 x).take (2 + 1)) := by
          rw [take_snoc hbk, ← List.append_assoc]
          have e : ((x / 256 ^ (8 - 1 - 2) % 256 : Nat) : Int) = (x : Int) / 1099511627776 % 256 := by omega
          rw [e]
          simpa using O5
        have B6 := B1.trans (box_mono (by have := B1.size; omega) B5)
        clear O5 B5 O1 I1
        go_wp2
        go_roundw
        case rel => exact ⟨2 + 1, by omega, by go_num, O6, B6⟩
        case measure => simp [intOf]
      · go_wp2_with (at_builtin; refine app_ownN _ rfl _ _ rfl base _ _ rfl (O1.below box_belowF) _ 1 1 _ rfl (isB_one _ _ (by omega)) (by simp [bytesN_len]; omega) (by omega) (by have := B1.size; simp; omega) ?_)
        intro a5 n5 c5 w5 O5 B5
        have O6 : OwnB w5 base (.slice a5 n5 c5) (ys ++ (bytesN 8 x).take (3 + 1)) := by
          rw [take_snoc hbk, ← List.append_assoc]
          have e : ((x / 256 ^ (8 - 1 - 3) % 256 : Nat) : Int) = (x : Int) / 4294967296 % 256 := by omega
          rw [e]
          simpa using O5
        have B6 := B1.trans (box_mono (by have := B1.size; omega) B5)
        clear O5 B5 O1 I1
        go_wp2
        go_roundw
        case rel => exact ⟨3 + 1, by omega, by go_num, O6, B6⟩
        case measure => simp [intOf]
      · go_wp2_with (at_builtin; refine app_ownN _ rfl _ _ rfl base _ _ rfl (O1.below box_belowF) _ 1 1 _ rfl (isB_one _ _ (by omega)) (by simp [bytesN_len]; omega) (by omega) (by have := B1.size; simp; omega) ?_)
        intro a5 n5 c5 w5 O5 B5
        have O6 : OwnB w5 base (.slice a5 n5 c5) (ys ++ (bytesN 8 x).take (4 + 1)) := by
          rw [take_snoc hbk, ← List.append_assoc]
          have e : ((x / 256 ^ (8 - 1 - 4) % 256 : Nat) : Int) = (x : Int) / 16777216 % 256 := by omega
          rw [e]
          simpa using O5
        have B6 := B1.trans (box_mono (by have := B1.size; omega) B5)
        clear O5 B5 O1 I1
        go_wp2
        go_roundw
        case rel => exact ⟨4 + 1, by omega, by go_num, O6, B6⟩
        case measure => simp [intOf]
      · go_wp2_with (at_builtin; refine app_ownN _ rfl _ _ rfl base _ _ rfl (O1.below box_belowF) _ 1 1 _ rfl (isB_one _ _ (by omega)) (by simp [bytesN_len]; omega) (by omega) (by have := B1.size; simp; omega) ?_)
        intro a5 n5 c5 w5 O5 B5
        have O6 : OwnB w5 base (.slice a5 n5 c5) (ys ++ (bytesN 8 x).take (5 + 1)) := by
          rw [take_snoc hbk, ← List.append_assoc]
          have e : ((x / 256 ^ (8 - 1 - 5) % 256 : Nat) : Int) = (x : Int) / 65536 % 256 := by omega
          rw [e]
          simpa using O5
        have B6 := B1.trans (box_mono (by have := B1.size; omega) B5)
        clear O5 B5 O1 I1
        go_wp2
        go_roundw
        case rel => exact ⟨5 + 1, by omega, by go_num, O6, B6⟩
        case measure => simp [intOf]
      · go_wp2_with (at_builtin; refine app_ownN _ rfl _ _ rfl base _ _ rfl (O1.below box_belowF) _ 1 1 _ rfl (isB_one _ _ (by omega)) (by simp [bytesN_len]; omega) (by omega) (by have := B1.size; simp; omega) ?_)
        intro a5 n5 c5 w5 O5 B5
        have O6 : OwnB w5 base (.slice a5 n5 c5) (ys ++ (bytesN 8 x).take (6 + 1)) := by
          rw [take_snoc hbk, ← List.append_assoc]
          have e : ((x / 256 ^ (8 - 1 - 6) % 256 : Nat) : Int) = (x : Int) / 256 % 256 := by omega
          rw [e]
          simpa using O5
        have B6 := B1.trans (box_mono (by have := B1.size; omega) B5)
        clear O5 B5 O1 I1
        go_wp2
        go_roundw
        case rel => exact ⟨6 + 1, by omega, by go_num, O6, B6⟩
        case measure => simp [intOf]
      · go_wp2_with (at_builtin; refine app_ownN _ rfl _ _ rfl base _ _ rfl (O1.below box_belowF) _ 1 1 _ rfl (isB_one _ _ (by omega)) (by simp [bytesN_len]; omega) (by omega) (by have := B1.size; simp; omega) ?_)
        intro a5 n5 c5 w5 O5 B5
        have O6 : OwnB w5 base (.slice a5 n5 c5) (ys ++ (bytesN 8 x).take (7 + 1)) := by
          rw [take_snoc hbk, ← List.append_assoc]
          have e : ((x / 256 ^ (8 - 1 - 7) % 256 : Nat) : Int) = (x : Int) % 256 := by omega
          rw [e]
          simpa using O5
        have B6 := B1.trans (box_mono (by have := B1.size; omega) B5)
        clear O5 B5 O1 I1
        go_wp2
        go_roundw
        case rel => exact ⟨7 + 1, by omega, by go_num, O6, B6⟩
        case measure => simp [intOf]
    · obtain rfl : k = 8 := by omega
      go_wp2
      go_ret
      refine ⟨_, rfl, ?_, B1⟩
      rw [List.take_of_length_le (by rw [bytesN_len]; exact Nat.le_refl _)] at O1
      exact O1
set_option maxHeartbeats 2000000 in
theorem eight_any {w : World} {base : Nat} {v : Value} {ys : List Int} (x : Nat) (hx : x < 18446744073709551616) (O : OwnB w base v ys) (hbase : base ≤ w.heap.size) (hl : ys.length ≤ 1000) :
    Calls Try.prog 39 #[v, .float .f64 x] w fun e w' => ∃ v', e = .returned v' ∧ OwnB w' base v' (ys ++ bytesN 8 x) ∧ Below base w w' := by
  have hb := fun w => run_f64bits w x
  go_enter Try.func39, Try.ntmps39
  go_wp2
  go_loopw [0, 6] (fun ov iv wr => ∃ k : Nat, k ≤ 8 ∧ iv = .int .i64 (7 - (k : Int)) ∧ OwnB wr base ov (ys ++ (bytesN 8 x).take k) ∧ Below base w wr) (fun _ iv _ => (intOf iv + 1).toNat)
  case atStart => exact ⟨0, by omega, rfl, by simpa using O, Below.refl _ _⟩
  case round =>
    obtain ⟨k, hk, rfl, O1, B1⟩ := hrel
    by_cases hlt : k < 8
    · obtain ⟨a1, c1, rfl, I1⟩ := O1.2
      have hbk := bytesN_at 8 x k hlt
      rcases (by omega : k = 0 ∨ k = 1 ∨ k = 2 ∨ k = 3 ∨ k = 4 ∨ k = 5 ∨ k = 6 ∨ k = 7) with rfl | rfl | rfl | rfl | rfl | rfl | rfl | rfl
      · go_wp2_with (at_builtin; refine app_ownN _ rfl _ _ rfl base _ _ rfl (O1.below box_belowF) _ 1 1 _ rfl (isB_one _ _ (by omega)) (by simp; omega) (by omega) (by have := B1.size; simp; omega) ?_)
        intro a5 n5 c5 w5 O5 B5
        have O6 : OwnB w5 base (.slice a5 n5 c5) (ys ++ (bytesN 8 x).take (0 + 1)) := by
          rw [take_snoc hbk, ← List.append_assoc]
          have e : ((x / 256 ^ (8 - 1 - 0) % 256 : Nat) : Int) = (x : Int) / 72057594037927936 := by omega
          rw [e]
          simpa using O5
        have B6 := B1.trans (box_mono (by have := B1.size; omega) B5)
        clear O5 B5 O1 I1
        go_wp2
        go_roundw
        case rel => exact ⟨0 + 1, by omega, by go_num, O6, B6⟩
        case measure => simp [intOf]
      · go_wp2_with (at_builtin; refine app_ownN _ rfl _ _ rfl base _ _ rfl (O1.below box_belowF) _ 1 1 _ rfl (isB_one _ _ (by omega)) (by simp [bytesN_len]; omega) (by omega) (by have := B1.size; simp; omega) ?_)
        intro a5 n5 c5 w5 O5 B5
        have O6 : OwnB w5 base (.slice a5 n5 c5) (ys ++ (bytesN 8 x).take (1 + 1)) := by
          rw [take_snoc hbk, ← List.append_assoc]
          have e : ((x / 256 ^ (8 - 1 - 1) % 256 : Nat) : Int) = (x : Int) / 281474976710656 % 256 := by omega
          rw [e]
          simpa using O5
        have B6 := B1.trans (box_mono (by have := B1.size; omega) B5)
        clear O5 B5 O1 I1
        go_wp2
        go_roundw
        case rel => exact ⟨1 + 1, by omega, by go_num, O6, B6⟩
        case measure => simp [intOf]
      · go_wp2_with (at_builtin; refine app_ownN _ rfl _ _ rfl base _ _ rfl (O1.below box_belowF) _ 1 1 _ rfl (isB_one _ _ (by omega)) (by simp [bytesN_len]; omega) (by omega) (by have := B1.size; simp; omega) ?_)
        intro a5 n5 c5 w5 O5 B5
        have O6 : OwnB w5 base (.slice a5 n5 c5) (ys ++ (bytesN 8 x).take (2 + 1)) := by
          rw [take_snoc hbk, ← List.append_assoc]
          have e : ((x / 256 ^ (8 - 1 - 2) % 256 : Nat) : Int) = (x : Int) / 1099511627776 % 256 := by omega
          rw [e]
          simpa using O5
        have B6 := B1.trans (box_mono (by have := B1.size; omega) B5)
        clear O5 B5 O1 I1
        go_wp2
        go_roundw
        case rel => exact ⟨2 + 1, by omega, by go_num, O6, B6⟩
        case measure => simp [intOf]
      · go_wp2_with (at_builtin; refine app_ownN _ rfl _ _ rfl base _ _ rfl (O1.below box_belowF) _ 1 1 _ rfl (isB_one _ _ (by omega)) (by simp [bytesN_len]; omega) (by omega) (by have := B1.size; simp; omega) ?_)
        intro a5 n5 c5 w5 O5 B5
        have O6 : OwnB w5 base (.slice a5 n5 c5) (ys ++ (bytesN 8 x).take (3 + 1)) := by
          rw [take_snoc hbk, ← List.append_assoc]
          have e : ((x / 256 ^ (8 - 1 - 3) % 256 : Nat) : Int) = (x : Int) / 4294967296 % 256 := by omega
          rw [e]
          simpa using O5
        have B6 := B1.trans (box_mono (by have := B1.size; omega) B5)
        clear O5 B5 O1 I1
        go_wp2
        go_roundw
        case rel => exact ⟨3 + 1, by omega, by go_num, O6, B6⟩
        case measure => simp [intOf]
      · go_wp2_with (at_builtin; refine app_ownN _ rfl _ _ rfl base _ _ rfl (O1.below box_belowF) _ 1 1 _ rfl (isB_one _ _ (by omega)) (by simp [bytesN_len]; omega) (by omega) (by have := B1.size; simp; omega) ?_)
        intro a5 n5 c5 w5 O5 B5
        have O6 : OwnB w5 base (.slice a5 n5 c5) (ys ++ (bytesN 8 x).take (4 + 1)) := by
          rw [take_snoc hbk, ← List.append_assoc]
          have e : ((x / 256 ^ (8 - 1 - 4) % 256 : Nat) : Int) = (x : Int) / 16777216 % 256 := by omega
          rw [e]
          simpa using O5
        have B6 := B1.trans (box_mono (by have := B1.size; omega) B5)
        clear O5 B5 O1 I1
        go_wp2
        go_roundw
        case rel => exact ⟨4 + 1, by omega, by go_num, O6, B6⟩
        case measure => simp [intOf]
      · go_wp2_with (at_builtin; refine app_ownN _ rfl _ _ rfl base _ _ rfl (O1.below box_belowF) _ 1 1 _ rfl (isB_one _ _ (by omega)) (by simp [bytesN_len]; omega) (by omega) (by have := B1.size; simp; omega) ?_)
        intro a5 n5 c5 w5 O5 B5
        have O6 : OwnB w5 base (.slice a5 n5 c5) (ys ++ (bytesN 8 x).take (5 + 1)) := by
          rw [take_snoc hbk, ← List.append_assoc]
          have e : ((x / 256 ^ (8 - 1 - 5) % 256 : Nat) : Int) = (x : Int) / 65536 % 256 := by omega
          rw [e]
          simpa using O5
        have B6 := B1.trans (box_mono (by have := B1.size; omega) B5)
        clear O5 B5 O1 I1
        go_wp2
        go_roundw
        case rel => exact ⟨5 + 1, by omega, by go_num, O6, B6⟩
        case measure => simp [intOf]
      · go_wp2_with (at_builtin; refine app_ownN _ rfl _ _ rfl base _ _ rfl (O1.below box_belowF) _ 1 1 _ rfl (isB_one _ _ (by omega)) (by simp [bytesN_len]; omega) (by omega) (by have := B1.size; simp; omega) ?_)
        intro a5 n5 c5 w5 O5 B5
        have O6 : OwnB w5 base (.slice a5 n5 c5) (ys ++ (bytesN 8 x).take (6 + 1)) := by
          rw [take_snoc hbk, ← List.append_assoc]
          have e : ((x / 256 ^ (8 - 1 - 6) % 256 : Nat) : Int) = (x : Int) / 256 % 256 := by omega
          rw [e]
          simpa using O5
        have B6 := B1.trans (box_mono (by have := B1.size; omega) B5)
        clear O5 B5 O1 I1
        go_wp2
        go_roundw
        case rel => exact ⟨6 + 1, by omega, by go_num, O6, B6⟩
        case measure => simp [intOf]
      · go_wp2_with (at_builtin; refine app_ownN _ rfl _ _ rfl base _ _ rfl (O1.below box_belowF) _ 1 1 _ rfl (isB_one _ _ (by omega)) (by simp [bytesN_len]; omega) (by omega) (by have := B1.size; simp; omega) ?_)
        intro a5 n5 c5 w5 O5 B5
        have O6 : OwnB w5 base (.slice a5 n5 c5) (ys ++ (bytesN 8 x).take (7 + 1)) := by
          rw [take_snoc hbk, ← List.append_assoc]
          have e : ((x / 256 ^ (8 - 1 - 7) % 256 : Nat) : Int) = (x : Int) % 256 := by omega
          rw [e]
          simpa using O5
        have B6 := B1.trans (box_mono (by have := B1.size; omega) B5)
        clear O5 B5 O1 I1
        go_wp2
        go_roundw
        case rel => exact ⟨7 + 1, by omega, by go_num, O6, B6⟩
        case measure => simp [intOf]
    · obtain rfl : k = 8 := by omega
      go_wp2
      go_ret
      refine ⟨_, rfl, ?_, B1⟩
      rw [List.take_of_length_le (by rw [bytesN_len]; exact Nat.le_refl _)] at O1
      exact O1
end Go.Proofs.Ytkpngpongbpfgaa
