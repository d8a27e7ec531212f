/- Which of two numbers is the lesser one: compare, Cmp, and the document's cmp and Cmp. -/
import Derived.Test.YtkpngpongbpfgaaMade
import Derived.Test.YtkpngpongbpfgaaRight
import Derived.Deep.QuietTactic
namespace Go.Proofs.Ytkpngpongbpfgaa
open Go.RowKit

/-- Below (-1), the same (0) or above (1). -/
def sgn (x y : Nat) : Int := if x < y then -1 else if x = y then 0 else 1
/-- No nought stands ahead. -/
def Lead (xs : List Int) : Prop := xs = [] ∨ xs.getD 0 0 ≠ 0

theorem lead_right {neg : Bool} {xs : List Int} (h : rightB neg xs = true) : Lead xs ∧ xs.length ≤ 128 := by
  unfold rightB at h
  split at h
  · rename_i h0
    exact ⟨.inl (List.eq_nil_of_length_eq_zero h0), by omega⟩
  · simp at h
    exact ⟨.inr (by simpa using h.2), h.1⟩
theorem val8_app (a b : List Int) : val8 (a ++ b) = val8 a * 256 ^ b.length + val8 b := by
  unfold val8
  rw [List.foldl_append, val8_acc]
  rfl
theorem lead_le {xs : List Int} (hb : ∀ x ∈ xs, 0 ≤ x ∧ x < 256) (hl : Lead xs) (h0 : 0 < xs.length) : 256 ^ (xs.length - 1) ≤ val8 xs := by
  cases xs with
  | nil => simp at h0
  | cons b r =>
    rcases hl with hl | hl
    · simp at hl
    · have := hb b (by simp)
      simp at hl
      rw [val8_cons, List.length_cons, Nat.add_sub_cancel]
      have : 1 * 256 ^ r.length ≤ b.toNat * 256 ^ r.length := Nat.mul_le_mul_right _ (by omega)
      omega
theorem val8_short {xs ys : List Int} (hx : ∀ x ∈ xs, 0 ≤ x ∧ x < 256) (hy : ∀ x ∈ ys, 0 ≤ x ∧ x < 256) (hl : Lead ys) (h : xs.length < ys.length) : val8 xs < val8 ys := by
  have h1 := val8_lt xs hx
  have h2 := lead_le hy hl (by omega)
  have : 256 ^ xs.length ≤ 256 ^ (ys.length - 1) := Nat.pow_le_pow_right (by decide) (by omega)
  omega
theorem val8_first {xs ys : List Int} (hx : ∀ x ∈ xs, 0 ≤ x ∧ x < 256) (he : xs.length = ys.length) (k c d : Nat) (ht : xs.take k = ys.take k)
    (h1 : xs.take (k + 1) = xs.take k ++ [(c : Int)]) (h2 : ys.take (k + 1) = ys.take k ++ [(d : Int)]) (hcd : c < d) : val8 xs < val8 ys := by
  have e1 : val8 xs = val8 (xs.take (k + 1)) * 256 ^ (xs.drop (k + 1)).length + val8 (xs.drop (k + 1)) := by rw [← val8_app, List.take_append_drop]
  have e2 : val8 ys = val8 (ys.take (k + 1)) * 256 ^ (ys.drop (k + 1)).length + val8 (ys.drop (k + 1)) := by rw [← val8_app, List.take_append_drop]
  have hlt := val8_lt (xs.drop (k + 1)) (fun x h => hx x (List.mem_of_mem_drop h))
  have hl : (ys.drop (k + 1)).length = (xs.drop (k + 1)).length := by simp [he]
  rw [h1, val8_snoc] at e1
  rw [h2, val8_snoc, ← ht, hl] at e2
  generalize 256 ^ (xs.drop (k + 1)).length = P at *
  simp only [Int.toNat_natCast] at e1 e2
  have : (val8 (xs.take k) * 256 + c + 1) * P ≤ (val8 (xs.take k) * 256 + d) * P := Nat.mul_le_mul_right _ (by omega)
  rw [Nat.add_mul _ 1] at this
  omega

theorem isNaN_byte (c : Int) (w : World) : Calls Try.prog 96 #[.int .u8 c] w fun e w' => e = .returned (.bool false) ∧ w = w' := by
  go_enter Try.func96, Try.ntmps96
  go_wp2
  go_ret
  exact ⟨rfl, rfl⟩
theorem cmpByte_lt (c d : Nat) (w : World) (h : c < d) : Calls Try.prog 87 #[.int .u8 (c : Int), .int .u8 (d : Int)] w fun e w' => e = .returned (.int .i64 (-1)) ∧ w = w' := by
  have h' : (c : Int) < (d : Int) := by omega
  go_enter Try.func87, Try.ntmps87
  go_wp2_with fail
  refine (isNaN_byte _ _).mono ?_
  rintro e w1 ⟨rfl, rfl⟩
  go_wp2_with fail
  refine (isNaN_byte _ _).mono ?_
  rintro e w1 ⟨rfl, rfl⟩
  go_wp2
  go_ret
  exact ⟨rfl, rfl⟩
theorem cmpByte_gt (c d : Nat) (w : World) (h : d < c) : Calls Try.prog 87 #[.int .u8 (c : Int), .int .u8 (d : Int)] w fun e w' => e = .returned (.int .i64 1) ∧ w = w' := by
  have h' : (d : Int) < (c : Int) := by omega
  have h'' : ¬ (c : Int) < (d : Int) := by omega
  go_enter Try.func87, Try.ntmps87
  go_wp2_with fail
  refine (isNaN_byte _ _).mono ?_
  rintro e w1 ⟨rfl, rfl⟩
  go_wp2_with fail
  refine (isNaN_byte _ _).mono ?_
  rintro e w1 ⟨rfl, rfl⟩
  go_wp2
  go_ret
  exact ⟨rfl, rfl⟩
theorem cmpByte_eq (c : Nat) (w : World) : Calls Try.prog 87 #[.int .u8 (c : Int), .int .u8 (c : Int)] w fun e w' => e = .returned (.int .i64 0) ∧ w = w' := by
  have h'' : ¬ (c : Int) < (c : Int) := by omega
  go_enter Try.func87, Try.ntmps87
  go_wp2_with fail
  refine (isNaN_byte _ _).mono ?_
  rintro e w1 ⟨rfl, rfl⟩
  go_wp2_with fail
  refine (isNaN_byte _ _).mono ?_
  rintro e w1 ⟨rfl, rfl⟩
  go_wp2
  go_ret
  exact ⟨rfl, rfl⟩

set_option maxRecDepth 100000 in
set_option maxHeartbeats 1000000 in
theorem slicesCompare {a1 a2 : Option Addr} {n c1 c2 : Nat} {xs ys : List Int} {w : World} (h1 : IsB w a1 n c1 xs) (h2 : IsB w a2 n c2 ys) :
    Calls Try.prog 76 #[.slice a1 n c1, .slice a2 n c2] w fun e w' => e = .returned (.int .i64 (sgn (val8 xs) (val8 ys))) ∧ w = w' := by
  have hs1 := h1.size
  have hs2 := h2.size
  have hm : n ≤ 9223372036854775807 := by have := h1.room; have := h1.most; unfold maxLen at this; omega
  go_enter Try.func76, Try.ntmps76
  go_wp2
  go_loop [11] (fun i => ∃ k : Nat, k ≤ n ∧ i = .int .i64 k ∧ Hid (xs.take k = ys.take k)) (fun i => n - (intOf i).toNat)
  case atStart => exact ⟨0, Nat.zero_le _, rfl, rfl⟩
  case round =>
    obtain ⟨k, hk, rfl, ht⟩ := hrel
    by_cases hlt : k < n
    · obtain ⟨b1, o1, rfl, hc1⟩ := h1.cells (by omega)
      obtain ⟨b2, o2, rfl, hc2⟩ := h2.cells (by omega)
      have hx := hc1 k hlt
      have hy := hc2 k hlt
      obtain ⟨c, hc8, hcx, htx⟩ := byteAt xs h1.byte k (by omega)
      obtain ⟨d, hd8, hdy, hty⟩ := byteAt ys h2.byte k (by omega)
      rw [hcx] at hx
      rw [hdy] at hy
      have hlt' : ¬ (n : Int) ≤ (k : Int) := by omega
      clear hc1 hc2 hcx hdy
      rcases Nat.lt_trichotomy c d with h | h | h
      · have hr : Hid (sgn (val8 xs) (val8 ys) = -1) := by
          have := val8_first h1.byte (by omega) k c d ht.out htx.out hty.out h
          show _ = _; unfold sgn; rw [if_pos this]
        go_wp2_with fail
        refine (cmpByte_lt c d _ h).mono ?_
        rintro e w1 ⟨rfl, rfl⟩
        go_wp2
        go_ret
        exact ⟨ret_int (by rw [hr.out]), rfl⟩
      · subst h
        have hn : Hid (xs.take (k + 1) = ys.take (k + 1)) := by show _ = _; rw [htx.out, hty.out, ht.out]
        go_wp2_with fail
        refine (cmpByte_eq c _).mono ?_
        rintro e w1 ⟨rfl, rfl⟩
        go_wp2
        go_round
        case rel => exact ⟨k + 1, by omega, by go_num, hn⟩
        case measure => simp [intOf]; omega
      · have hr : Hid (sgn (val8 xs) (val8 ys) = 1) := by
          have := val8_first h2.byte (by omega) k d c ht.out.symm hty.out htx.out h
          show _ = _; unfold sgn; rw [if_neg (by omega), if_neg (by omega)]
        go_wp2_with fail
        refine (cmpByte_gt c d _ h).mono ?_
        rintro e w1 ⟨rfl, rfl⟩
        go_wp2
        go_ret
        exact ⟨ret_int (by rw [hr.out]), rfl⟩
    · have hr : Hid (sgn (val8 xs) (val8 ys) = 0) := by
        have e := ht.out
        rw [List.take_of_length_le (by omega), List.take_of_length_le (by omega)] at e
        show _ = _; unfold sgn; rw [e]; simp
      have hn : ¬ (n : Int) < (n : Int) := by omega
      go_wp2
      go_ret
      exact ⟨ret_int (by rw [hr.out]), rfl⟩
theorem compare_any {a1 a2 : Option Addr} {n1 n2 c1 c2 : Nat} {xs ys : List Int} {w : World} (h1 : IsB w a1 n1 c1 xs) (h2 : IsB w a2 n2 c2 ys) (l1 : Lead xs) (l2 : Lead ys) :
    Calls Try.prog 56 #[.slice a1 n1 c1, .slice a2 n2 c2] w fun e w' => e = .returned (.int .i64 (sgn (val8 xs) (val8 ys))) ∧ w = w' := by
  have hs1 := h1.size
  have hs2 := h2.size
  rcases Nat.lt_trichotomy n1 n2 with h | h | h
  · have hr : Hid (sgn (val8 xs) (val8 ys) = -1) := by
      have := val8_short h1.byte h2.byte l2 (by omega)
      show _ = _; unfold sgn; rw [if_pos this]
    have h' : (n1 : Int) < (n2 : Int) := by omega
    go_enter Try.func56, Try.ntmps56
    go_wp2
    go_ret
    exact ⟨ret_int (by rw [hr.out]), rfl⟩
  · subst h
    have h' : ¬ (n1 : Int) < (n1 : Int) := by omega
    go_enter Try.func56, Try.ntmps56
    go_wp2_with fail
    refine (slicesCompare h1 h2).mono ?_
    rintro e w1 ⟨rfl, rfl⟩
    go_wp2
    go_ret
    exact ⟨rfl, rfl⟩
  · have hr : Hid (sgn (val8 xs) (val8 ys) = 1) := by
      have := val8_short h2.byte h1.byte l1 (by omega)
      show _ = _; unfold sgn; rw [if_neg (by omega), if_neg (by omega)]
    have h' : (n2 : Int) < (n1 : Int) := by omega
    have h'' : ¬ (n1 : Int) < (n2 : Int) := by omega
    go_enter Try.func56, Try.ntmps56
    go_wp2
    go_ret
    exact ⟨ret_int (by rw [hr.out]), rfl⟩
/-- What Cmp tells. -/
def cmpI (n1 : Bool) (xs : List Int) (n2 : Bool) (ys : List Int) : Int :=
  if rightB n1 xs && rightB n2 ys then (if n1 != n2 then (if n1 then -1 else 1) else if n1 then sgn (val8 ys) (val8 xs) else sgn (val8 xs) (val8 ys)) else 0

theorem box2 (w : World) (o1 o2 : Obj) : Below w.heap.size w ((w.alloc o1).alloc o2) := (box_below w _).alloc (by simp) _
/-- Two Ints that lie in variables, behind a call. -/
theorem vars2 {w w1 : World} {v0 v1 u0 u1 : Value} {t t' : Nat} (hb : Below ((w.alloc (.cells #[v0, v1] t)).alloc (.cells #[u0, u1] t')).heap.size ((w.alloc (.cells #[v0, v1] t)).alloc (.cells #[u0, u1] t')) w1) :
    w1.heap[w.heap.size]? = some (.cells #[v0, v1] t (0, 0)) ∧ w1.heap[w.heap.size + 1]? = some (.cells #[u0, u1] t' (0, 0)) ∧ Below w.heap.size w w1 := by
  have hs : ((w.alloc (.cells #[v0, v1] t)).alloc (.cells #[u0, u1] t')).heap.size = w.heap.size + 2 := by simp
  refine ⟨(hb.block _ (by omega)).trans ((Below.heap_alloc _ _ _ (by simp)).trans (heap_alloc_new w _)), (hb.block _ (by omega)).trans ?_, (box2 w _ _).trans (hb.mono (by omega))⟩
  have := heap_alloc_new (w.alloc (.cells #[v0, v1] t)) (.cells #[u0, u1] t')
  rwa [show (w.alloc (.cells #[v0, v1] t)).heap.size = w.heap.size + 1 by simp] at this

set_option maxRecDepth 100000 in
set_option maxHeartbeats 2000000 in
theorem cmp_any {a1 a2 : Option Addr} {l1 l2 c1 c2 : Nat} {xs ys : List Int} {w : World} (n1 n2 : Bool) (h1 : IsB w a1 l1 c1 xs) (h2 : IsB w a2 l2 c2 ys) :
    Calls Try.prog 27 #[.agg #[.bool n1, .slice a1 l1 c1], .agg #[.bool n2, .slice a2 l2 c2]] w fun e w' => e = .returned (.int .i64 (cmpI n1 xs n2 ys)) ∧ Below w.heap.size w w' := by
  have hb := box2 w (.cells #[.bool n1, .slice a1 l1 c1] 28) (.cells #[.bool n2, .slice a2 l2 c2] 28)
  have k1 := h1.below hb
  have k2 := h2.below hb
  go_enter Try.func27, Try.ntmps27
  go_wp2_with fail
  refine (right_any n1 k1).mono ?_
  rintro e w1 ⟨rfl, hb1⟩
  obtain ⟨hv, hu, hB1⟩ := vars2 hb1
  obtain ⟨x0, x1, _, _⟩ := intVarT hv
  obtain ⟨y0, y1, _, _⟩ := intVarT hu
  cases r1 : rightB n1 xs with
  | false =>
    have hr : Hid (cmpI n1 xs n2 ys = 0) := by show _ = _; simp [cmpI, r1]
    go_wp2
    go_ret
    exact ⟨ret_int (by rw [hr.out]), hB1⟩
  | true =>
    go_wp2_with fail
    refine (right_any n2 (k2.below hb1)).mono ?_
    rintro e w2 ⟨rfl, hb2⟩
    have hv2 : w2.heap[w.heap.size]? = some (.cells #[.bool n1, .slice a1 l1 c1] 28 (0, 0)) := (hb2.block _ (lt_of_block hv)).trans hv
    have hu2 : w2.heap[w.heap.size + 1]? = some (.cells #[.bool n2, .slice a2 l2 c2] 28 (0, 0)) := (hb2.block _ (lt_of_block hu)).trans hu
    have hB2 := below_size hB1 (Nat.le_refl _) hb2
    have j1 := (k1.below hb1).below hb2
    have j2 := (k2.below hb1).below hb2
    clear x0 x1 y0 y1
    obtain ⟨x0, x1, _, _⟩ := intVarT hv2
    obtain ⟨y0, y1, _, _⟩ := intVarT hu2
    cases r2 : rightB n2 ys with
    | false =>
      have hr : Hid (cmpI n1 xs n2 ys = 0) := by show _ = _; simp [cmpI, r2]
      go_wp2
      go_ret
      exact ⟨ret_int (by rw [hr.out]), hB2⟩
    | true =>
      have hr : Hid (cmpI n1 xs n2 ys = if n1 != n2 then (if n1 then -1 else 1) else if n1 then sgn (val8 ys) (val8 xs) else sgn (val8 xs) (val8 ys)) := by show _ = _; simp [cmpI, r1, r2]
      have d1 := (lead_right r1).1
      have d2 := (lead_right r2).1
      cases n1 <;> cases n2
      · go_wp2_with fail
        refine (compare_any j1 j2 d1 d2).mono ?_
        rintro e w3 ⟨rfl, rfl⟩
        go_wp2
        go_ret
        exact ⟨ret_int (by rw [hr.out]; rfl), hB2⟩
      · go_wp2
        go_ret
        exact ⟨ret_int (by rw [hr.out]; rfl), hB2⟩
      · go_wp2
        go_ret
        exact ⟨ret_int (by rw [hr.out]; rfl), hB2⟩
      · go_wp2_with fail
        refine (compare_any j2 j1 d2 d1).mono ?_
        rintro e w3 ⟨rfl, rfl⟩
        go_wp2
        go_ret
        exact ⟨ret_int (by rw [hr.out]; rfl), hB2⟩

/-- A number with the sign that tells which is the lesser one. -/
def Tells (n : Int) (x y : Nat) : Prop := (x < y → n < 0) ∧ (x = y → n = 0) ∧ (y < x → 0 < n) ∧ -1000 ≤ n ∧ n ≤ 1000

set_option maxRecDepth 100000 in
set_option maxHeartbeats 2000000 in
theorem rcmp_any {a1 a2 : Option Addr} {l1 l2 c1 c2 : Nat} {xs ys : List Int} {w : World} (h1 : IsB w a1 l1 c1 xs) (h2 : IsB w a2 l2 c2 ys) (d1 : Lead xs) (d2 : Lead ys) (m1 : l1 ≤ 1000) (m2 : l2 ≤ 1000) :
    Calls Try.prog 63 #[.slice a1 l1 c1, .slice a2 l2 c2] w fun e w' => ∃ n, e = .returned (.int .i64 n) ∧ Tells n (val8 xs) (val8 ys) ∧ Below w.heap.size w w' := by
  have hs1 := h1.size
  have hs2 := h2.size
  by_cases hl : l1 = l2
  · subst hl
    have hne : ((l1 : Int) == (l1 : Int)) = true := by simp
    go_enter Try.func63, Try.ntmps63
    go_wp2
    go_loopw [5] (fun i wr => ∃ k : Nat, k ≤ l1 ∧ i = .int .i64 k ∧ Hid (xs.take k = ys.take k) ∧ Below w.heap.size w wr) (fun i _ => l1 - (intOf i).toNat)
    case atStart => exact ⟨0, Nat.zero_le _, rfl, rfl, Below.refl _ _⟩
    case round =>
      obtain ⟨k, hk, rfl, ht, hbel⟩ := hrel
      by_cases hlt : k < l1
      · obtain ⟨b1, o1, rfl, hc1⟩ := (h1.below hbel).cells (by omega)
        obtain ⟨b2, o2, rfl, hc2⟩ := (h2.below hbel).cells (by omega)
        have hx := hc1 k hlt
        have hy := hc2 k hlt
        obtain ⟨c, hc8, hcx, htx⟩ := byteAt xs h1.byte k (by omega)
        obtain ⟨d, hd8, hdy, hty⟩ := byteAt ys h2.byte k (by omega)
        rw [hcx] at hx
        rw [hdy] at hy
        have hx' : ∀ j, (wr.drewN j).cell? ⟨b1, o1 + k, none⟩ = some (.int .u8 (c : Int)) := fun _ => hx
        have hy' : ∀ j, (wr.drewN j).cell? ⟨b2, o2 + k, none⟩ = some (.int .u8 (d : Int)) := fun _ => hy
        have hbd : ∀ j, Below w.heap.size w (wr.drewN j) := fun j => below_drewN hbel j
        clear hc1 hc2 hcx hdy
        by_cases hcd : c = d
        · subst hcd
          have hn : Hid (xs.take (k + 1) = ys.take (k + 1)) := by show _ = _; rw [htx.out, hty.out, ht.out]
          go_wp2
          go_quiet (fail)
          go_wp2
          go_roundw
          case rel => exact ⟨k + 1, by omega, by go_num, hn, hbd _⟩
          case measure => simp [intOf]; omega
        · have hcd' : ((c : Int) == (d : Int)) = false := by simp; omega
          have hT : Tells ((c : Int) - (d : Int)) (val8 xs) (val8 ys) := by
            rcases Nat.lt_or_gt_of_ne hcd with h | h
            · have := val8_first h1.byte (by omega) k c d ht.out htx.out hty.out h
              exact ⟨fun _ => by omega, fun _ => by omega, fun _ => by omega, by omega, by omega⟩
            · have := val8_first h2.byte (by omega) k d c ht.out.symm hty.out htx.out h
              exact ⟨fun _ => by omega, fun _ => by omega, fun _ => by omega, by omega, by omega⟩
          go_wp2
          go_quiet (fail)
          go_wp2
          go_quiet (fail)
          go_wp2
          go_ret
          exact ⟨_, rfl, hT, below_drewN (hbd _) _⟩
      · have hT : Tells 0 (val8 xs) (val8 ys) := by
          have e := ht.out
          rw [List.take_of_length_le (by omega), List.take_of_length_le (by omega)] at e
          rw [e]
          exact ⟨fun _ => by omega, fun _ => by omega, fun _ => by omega, by omega, by omega⟩
        go_wp2
        go_ret
        exact ⟨_, rfl, hT, hbel⟩
  · have hne : ((l1 : Int) == (l2 : Int)) = false := by simp; omega
    have hT : Tells ((l1 : Int) - (l2 : Int)) (val8 xs) (val8 ys) := by
      rcases Nat.lt_or_gt_of_ne hl with h | h
      · have := val8_short h1.byte h2.byte d2 (by omega)
        exact ⟨fun _ => by omega, fun _ => by omega, fun _ => by omega, by omega, by omega⟩
      · have := val8_short h2.byte h1.byte d1 (by omega)
        exact ⟨fun _ => by omega, fun _ => by omega, fun _ => by omega, by omega, by omega⟩
    go_enter Try.func63, Try.ntmps63
    go_wp2
    go_ret
    exact ⟨_, rfl, hT, Below.refl _ _⟩

theorem sgn_tells {n : Int} {x y : Nat} (h : Tells n x y) : sgn x y = if n < 0 then -1 else if 0 < n then 1 else 0 := by
  obtain ⟨a, b, c, _, _⟩ := h
  unfold sgn
  rcases Nat.lt_trichotomy x y with h | h | h
  · rw [if_pos h, if_pos (a h)]
  · have := b h
    rw [if_neg (by omega), if_pos h, if_neg (by omega), if_neg (by omega)]
  · have := c h
    rw [if_neg (by omega), if_neg (by omega), if_neg (by omega), if_pos (by omega)]
theorem sgn_turn (x y : Nat) : sgn x y = -sgn y x := by
  unfold sgn
  rcases Nat.lt_trichotomy x y with h | h | h
  · rw [if_pos h, if_neg (by omega), if_neg (by omega)]
  · subst h; simp
  · rw [if_neg (by omega), if_neg (by omega), if_pos h]; rfl

set_option maxRecDepth 100000 in
set_option maxHeartbeats 2000000 in
theorem rCmp_any {a1 a2 : Option Addr} {l1 l2 c1 c2 : Nat} {xs ys : List Int} {w : World} (n1 n2 : Bool) (h1 : IsB w a1 l1 c1 xs) (h2 : IsB w a2 l2 c2 ys) :
    Calls Try.prog 35 #[.agg #[.bool n1, .slice a1 l1 c1], .agg #[.bool n2, .slice a2 l2 c2]] w fun e w' => e = .returned (.int .i64 (cmpI n1 xs n2 ys)) ∧ Below w.heap.size w w' := by
  have hb := box2 w (.cells #[.bool n1, .slice a1 l1 c1] 24) (.cells #[.bool n2, .slice a2 l2 c2] 24)
  have k1 := h1.below hb
  have k2 := h2.below hb
  go_enter Try.func35, Try.ntmps35
  go_wp2_with fail
  refine (rright_any n1 k1).mono ?_
  rintro e w1 ⟨rfl, hb1⟩
  obtain ⟨hv, hu, hB1⟩ := vars2 hb1
  obtain ⟨x0, x1, _, _⟩ := intVarT hv
  obtain ⟨y0, y1, _, _⟩ := intVarT hu
  cases r1 : rightB n1 xs with
  | false =>
    have hr : Hid (cmpI n1 xs n2 ys = 0) := by show _ = _; simp [cmpI, r1]
    go_wp2
    go_ret
    exact ⟨ret_int (by rw [hr.out]), hB1⟩
  | true =>
    go_wp2_with fail
    refine (rright_any n2 (k2.below hb1)).mono ?_
    rintro e w2 ⟨rfl, hb2⟩
    have hv2 : w2.heap[w.heap.size]? = some (.cells #[.bool n1, .slice a1 l1 c1] 24 (0, 0)) := (hb2.block _ (lt_of_block hv)).trans hv
    have hu2 : w2.heap[w.heap.size + 1]? = some (.cells #[.bool n2, .slice a2 l2 c2] 24 (0, 0)) := (hb2.block _ (lt_of_block hu)).trans hu
    have hB2 := below_size hB1 (Nat.le_refl _) hb2
    have j1 := (k1.below hb1).below hb2
    have j2 := (k2.below hb1).below hb2
    clear x0 x1 y0 y1
    obtain ⟨x0, x1, _, _⟩ := intVarT hv2
    obtain ⟨y0, y1, _, _⟩ := intVarT hu2
    cases r2 : rightB n2 ys with
    | false =>
      have hr : Hid (cmpI n1 xs n2 ys = 0) := by show _ = _; simp [cmpI, r2]
      go_wp2
      go_ret
      exact ⟨ret_int (by rw [hr.out]), hB2⟩
    | true =>
      have hr : Hid (cmpI n1 xs n2 ys = if n1 != n2 then (if n1 then -1 else 1) else if n1 then sgn (val8 ys) (val8 xs) else sgn (val8 xs) (val8 ys)) := by show _ = _; simp [cmpI, r1, r2]
      obtain ⟨d1, m1⟩ := lead_right r1
      obtain ⟨d2, m2⟩ := lead_right r2
      rw [h1.size] at m1
      rw [h2.size] at m2
      go_wp2_with fail
      refine (rcmp_any j1 j2 d1 d2 (by omega) (by omega)).mono ?_
      rintro e w3 ⟨n, rfl, hT, hb3⟩
      have hv3 : w3.heap[w.heap.size]? = some (.cells #[.bool n1, .slice a1 l1 c1] 24 (0, 0)) := (hb3.block _ (lt_of_block hv2)).trans hv2
      have hu3 : w3.heap[w.heap.size + 1]? = some (.cells #[.bool n2, .slice a2 l2 c2] 24 (0, 0)) := (hb3.block _ (lt_of_block hu2)).trans hu2
      have hB3 := below_size hB2 (Nat.le_refl _) hb3
      have hs := sgn_tells hT
      have hs' : Hid (sgn (val8 ys) (val8 xs) = -(if n < 0 then (-1 : Int) else if 0 < n then 1 else 0)) := by show _ = _; rw [sgn_turn, hs]
      have Hs : Hid (sgn (val8 xs) (val8 ys) = if n < 0 then (-1 : Int) else if 0 < n then 1 else 0) := hs
      obtain ⟨_, _, _, t1, t2⟩ := hT
      clear x0 x1 y0 y1 hs
      obtain ⟨x0, x1, _, _⟩ := intVarT hv3
      obtain ⟨y0, y1, _, _⟩ := intVarT hu3
      cases n1 <;> cases n2
      · rcases Int.lt_trichotomy n 0 with h | h | h
        · go_wp2
          go_ret
          exact ⟨ret_int (by rw [hr.out]; simp; rw [Hs.out, if_pos h]), hB3⟩
        · subst h
          go_wp2
          go_ret
          exact ⟨ret_int (by rw [hr.out]; simp; rw [Hs.out]; rfl), hB3⟩
        · have h' : ¬ n < 0 := by omega
          go_wp2
          go_ret
          exact ⟨ret_int (by rw [hr.out]; simp; rw [Hs.out, if_neg (by omega), if_pos h]), hB3⟩
      · go_wp2
        go_ret
        exact ⟨ret_int (by rw [hr.out]; rfl), hB3⟩
      · go_wp2
        go_ret
        exact ⟨ret_int (by rw [hr.out]; rfl), hB3⟩
      · rcases Int.lt_trichotomy n 0 with h | h | h
        · have h' : ¬ -n < 0 := by omega
          have h'' : 0 < -n := by omega
          go_wp2
          go_ret
          exact ⟨ret_int (by rw [hr.out]; simp; rw [hs'.out, if_pos h]; rfl), hB3⟩
        · subst h
          go_wp2
          go_ret
          exact ⟨ret_int (by rw [hr.out]; simp; rw [hs'.out]; rfl), hB3⟩
        · have h' : ¬ n < 0 := by omega
          have h'' : -n < 0 := by omega
          go_wp2
          go_ret
          exact ⟨ret_int (by rw [hr.out]; simp; rw [hs'.out, if_neg (by omega), if_pos h]), hB3⟩
end Go.Proofs.Ytkpngpongbpfgaa
