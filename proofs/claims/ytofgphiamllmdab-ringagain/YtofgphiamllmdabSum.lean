/- wire.Sum and the document's own Sum: the same number, for all bytes. -/
import Derived.Test.YtofgphiamllmdabCur
import Derived.Lib.BitFns
import Derived.Lib.EndianBits
import Derived.Lib.SmallJoins
namespace Go.Proofs.Ytofgphiamllmdab
open Go.RowKit
set_option maxRecDepth 100000

theorem ret_int {k : IntKind} {a b : Int} (h : a = b) : Ending.returned (.int k a) = .returned (.int k b) := by rw [h]
/-- One bit falls out of the register. -/
def cstep (r : Nat) : Nat := if r % 2 = 1 then (r / 2) ^^^ 3988292384 else r / 2
def cstepN : Nat → Nat → Nat
  | 0, r => r
  | m + 1, r => cstep (cstepN m r)
def cbyte (r x : Nat) : Nat := cstepN 8 (r ^^^ x)
/-- The register behind bytes. -/
def creg (xs : List Int) : Nat := xs.foldl (fun r x => cbyte r x.toNat) 4294967295
/-- The sum of bytes. -/
def crc (xs : List Int) : Nat := 4294967295 - creg xs

theorem cstep_lt (r : Nat) (h : r < 4294967296) : cstep r < 4294967296 := by
  unfold cstep
  split
  · exact Nat.xor_lt_two_pow (n := 32) (by omega) (by decide)
  · omega
theorem cstepN_lt (m r : Nat) (h : r < 4294967296) : cstepN m r < 4294967296 := by
  induction m with
  | zero => exact h
  | succ m ih => exact cstep_lt _ ih
theorem cbyte_lt (r x : Nat) (h : r < 4294967296) (hx : x < 256) : cbyte r x < 4294967296 :=
  cstepN_lt 8 _ (Nat.xor_lt_two_pow (n := 32) h (by omega))
theorem cfold_lt : ∀ (xs : List Int) (r : Nat), (∀ x ∈ xs, 0 ≤ x ∧ x < 256) → r < 4294967296 → xs.foldl (fun r x => cbyte r x.toNat) r < 4294967296
  | [], _, _, h => h
  | x :: xs, r, hb, h => by
    rw [List.foldl_cons]
    have := hb x (by simp)
    exact cfold_lt xs _ (fun y hy => hb y (by simp [hy])) (cbyte_lt _ _ h (by omega))
theorem creg_lt (xs : List Int) (h : ∀ x ∈ xs, 0 ≤ x ∧ x < 256) : creg xs < 4294967296 := cfold_lt xs _ h (by decide)
theorem creg_snoc (xs : List Int) (x : Int) : creg (xs ++ [x]) = cbyte (creg xs) x.toNat := by
  unfold creg; rw [List.foldl_append]; rfl

/-- What is known of a slice of bytes that is only read. -/
structure IsB (w : World) (a : Option Addr) (len cap : Nat) (xs : List Int) : Prop where
  size : xs.length = len
  room : len ≤ cap
  most : cap ≤ maxLen
  nil0 : a = none → cap = 0
  byte : ∀ x ∈ xs, 0 ≤ x ∧ x < 256
  cells : 0 < len → ∃ b off, a = some ⟨b, off, none⟩ ∧ ∀ i, i < len → w.cell? ⟨b, off + i, none⟩ = some (.int .u8 (xs.getD i 0))

theorem byteAt (xs : List Int) (hb : ∀ x ∈ xs, 0 ≤ x ∧ x < 256) (k : Nat) (hk : k < xs.length) : ∃ c : Nat, c < 256 ∧ xs.getD k 0 = (c : Int) ∧ Hid (xs.take (k + 1) = xs.take k ++ [(c : Int)]) := by
  have h := hb xs[k] (List.getElem_mem hk)
  refine ⟨xs[k].toNat, by omega, ?_, ?_⟩
  · simp [List.getD, hk]; omega
  · show xs.take (k + 1) = _
    rw [List.take_succ_eq_append_getElem hk]
    congr 2
    omega

theorem xor32 (a b : Nat) (ha : a < 4294967296) (hb : b < 4294967296) : bits .xor .u32 (a : Int) (b : Int) = ((a ^^^ b : Nat) : Int) := u32_xor_nat a b ha hb
theorem and32_1 (a : Nat) (ha : a < 4294967296) : bits .and .u32 (a : Int) 1 = ((a % 2 : Nat) : Int) := by
  have h := bits_mask .u32 32 (by decide) wraps_u32 1 (by decide) (a : Int) (by omega) (by omega)
  simpa using h
theorem ones32 (a : Nat) (ha : a < 4294967296) : bits .xor .u32 IntKind.u32.max (a : Int) = ((4294967295 - a : Nat) : Int) := by
  have e2 : IntKind.u32.max = ((2 ^ 32 - 1 : Nat) : Int) := by decide
  rw [e2, u32_xor_nat _ _ (by decide) ha]
  congr 1
  apply Nat.eq_of_testBit_eq
  intro i
  rw [Nat.testBit_xor, Nat.testBit_two_pow_sub_one, show 4294967295 - a = 2 ^ 32 - (a + 1) by omega, Nat.testBit_two_pow_sub_succ (by omega)]
  by_cases hi : i < 32
  · simp [hi]
  · have : a.testBit i = false := Nat.testBit_lt_two_pow (Nat.lt_of_lt_of_le (show a < 2 ^ 32 by omega) (Nat.pow_le_pow_right (by decide) (by omega)))
    simp [hi, this]
theorem cstep_odd (S : Nat) (h : S % 2 = 1) : cstep S = (S / 2) ^^^ 3988292384 := by unfold cstep; rw [if_pos h]
theorem cstep_even (S : Nat) (h : ¬ S % 2 = 1) : cstep S = S / 2 := by unfold cstep; rw [if_neg h]

set_option maxHeartbeats 1000000 in
theorem sum_some (b off len cap : Nat) (xs : List Int) (w : World) (hl : xs.length = len) (hm : len ≤ maxLen) (hb : ∀ x ∈ xs, 0 ≤ x ∧ x < 256)
    (hc : ∀ i, i < len → w.cell? ⟨b, off + i, none⟩ = some (.int .u8 (xs.getD i 0))) :
    Calls Try.prog 76 #[.slice (some ⟨b, off, none⟩) len cap] w fun e w' => e = .returned (.int .u32 (crc xs)) ∧ w = w' := by
  unfold maxLen at hm
  go_enter Try.func76, Try.ntmps76
  go_wp2
  go_loop [3, 9] (fun r i => ∃ k : Nat, k ≤ len ∧ i = .int .i64 k ∧ r = .int .u32 (creg (xs.take k))) (fun _ i => len - (intOf i).toNat)
  case atStart => exact ⟨0, Nat.zero_le _, rfl, by simp [creg]⟩
  case round =>
    obtain ⟨k, hk, rfl, rfl⟩ := hrel
    have hr := creg_lt (xs.take k) (fun x hx => hb x (List.mem_of_mem_take hx))
    by_cases hlt : k < len
    · obtain ⟨c, hc256, hcx, htk⟩ := byteAt xs hb k (by omega)
      have hck := hc k hlt
      rw [hcx] at hck
      have hreg : Hid (creg (xs.take (k + 1)) = cbyte (creg (xs.take k)) c) := by show _ = _; rw [htk.out, creg_snoc]; simp
      clear htk hcx hb hc
      generalize creg (xs.take k) = R at *
      have hx0 := xor32 R c hr (by omega)
      have hlt0 : R ^^^ c < 4294967296 := Nat.xor_lt_two_pow (n := 32) hr (by omega)
      go_wp2
      go_loop [3, 17] (fun r j => ∃ m : Nat, m ≤ 8 ∧ j = .int .i64 m ∧ r = .int .u32 (cstepN m (R ^^^ c))) (fun _ j => 8 - (intOf j).toNat)
      case atStart => exact ⟨0, Nat.zero_le _, rfl, rfl⟩
      case round =>
        obtain ⟨m, hm8, rfl, rfl⟩ := hrel
        have hs := cstepN_lt m _ hlt0
        have hst : Hid (cstepN (m + 1) (R ^^^ c) = cstep (cstepN m (R ^^^ c))) := rfl
        by_cases hm9 : m < 8
        · generalize hS : cstepN m (R ^^^ c) = S at *
          clear hS
          have ha := and32_1 S hs
          by_cases hp : S % 2 = 1
          · have hx := xor32 (S / 2) 3988292384 (by omega) (by decide)
            have hcs : Hid (cstepN (m + 1) (R ^^^ c) = (S / 2) ^^^ 3988292384) := hst.out.trans (cstep_odd S hp)
            rw [hp] at ha
            go_wp2
            go_round
            case rel => exact ⟨m + 1, by omega, by go_num, by rw [hcs.out, ← hx]; simp⟩
            case measure => simp [intOf]; omega
          · have hx := xor32 (S / 2) 0 (by omega) (by decide)
            have hcs : Hid (cstepN (m + 1) (R ^^^ c) = S / 2) := hst.out.trans (cstep_even S hp)
            rw [show S % 2 = 0 by omega] at ha
            go_wp2
            go_round
            case rel => exact ⟨m + 1, by omega, by go_num, by rw [hcs.out, ← Nat.xor_zero (S / 2), ← hx]; simp⟩
            case measure => simp [intOf]; omega
        · obtain rfl : m = 8 := by omega
          go_wp2
          go_round
          case rel => exact ⟨k + 1, by omega, by go_num, by rw [hreg.out]; rfl⟩
          case measure => simp [intOf]; omega
    · go_wp2
      go_ret
      have ho := ones32 _ hr
      rw [List.take_of_length_le (by omega)] at ho
      exact ⟨ret_int (by rw [List.take_of_length_le (by omega), ho]; rfl), rfl⟩

theorem sum_none (a : Option Addr) (cap : Nat) (w : World) :
    Calls Try.prog 76 #[.slice a 0 cap] w fun e w' => e = .returned (.int .u32 (crc [])) ∧ w = w' := by
  go_enter Try.func76, Try.ntmps76
  go_wp2
  refine wp_loop_rounds 1 ?_
  rw [rounds_succ]
  go_wp2
  go_ret
  exact ⟨ret_int (by decide), rfl⟩

/-- wire.Sum of any bytes. -/
theorem sum_any {a : Option Addr} {len cap : Nat} {xs : List Int} {w : World} (h : IsB w a len cap xs) :
    Calls Try.prog 76 #[.slice a len cap] w fun e w' => e = .returned (.int .u32 (crc xs)) ∧ w = w' := by
  by_cases h0 : 0 < len
  · obtain ⟨b, off, rfl, hc⟩ := h.cells h0
    exact sum_some b off len cap xs w h.size (Nat.le_trans h.room h.most) h.byte hc
  · obtain rfl : len = 0 := by omega
    obtain rfl : xs = [] := List.eq_nil_of_length_eq_zero h.size
    exact sum_none a cap w

set_option maxHeartbeats 1000000 in
theorem rsum_some (b off len cap : Nat) (xs : List Int) (w : World) (hl : xs.length = len) (hm : len ≤ maxLen) (hb : ∀ x ∈ xs, 0 ≤ x ∧ x < 256)
    (hc : ∀ i, i < len → w.cell? ⟨b, off + i, none⟩ = some (.int .u8 (xs.getD i 0))) :
    Calls Try.prog 79 #[.slice (some ⟨b, off, none⟩) len cap] w fun e w' => e = .returned (.int .u32 (crc xs)) ∧ w = w' := by
  unfold maxLen at hm
  go_enter Try.func79, Try.ntmps79
  go_wp2
  go_loop [3, 4] (fun r i => ∃ k : Nat, k ≤ len ∧ i = .int .i64 k ∧ r = .int .u32 (creg (xs.take k))) (fun _ i => len - (intOf i).toNat)
  case atStart => exact ⟨0, Nat.zero_le _, rfl, by simp [creg]⟩
  case round =>
    obtain ⟨k, hk, rfl, rfl⟩ := hrel
    have hr := creg_lt (xs.take k) (fun x hx => hb x (List.mem_of_mem_take hx))
    by_cases hlt : k < len
    · obtain ⟨c, hc256, hcx, htk⟩ := byteAt xs hb k (by omega)
      have hck := hc k hlt
      rw [hcx] at hck
      have hreg : Hid (creg (xs.take (k + 1)) = cbyte (creg (xs.take k)) c) := by show _ = _; rw [htk.out, creg_snoc]; simp
      clear htk hcx hb hc
      generalize creg (xs.take k) = R at *
      have hx0 := xor32 R c hr (by omega)
      have hlt0 : R ^^^ c < 4294967296 := Nat.xor_lt_two_pow (n := 32) hr (by omega)
      go_wp2
      go_loop [3, 5] (fun r j => ∃ m : Nat, m ≤ 8 ∧ j = .int .i64 m ∧ r = .int .u32 (cstepN m (R ^^^ c))) (fun _ j => 8 - (intOf j).toNat)
      case atStart => exact ⟨0, Nat.zero_le _, rfl, rfl⟩
      case round =>
        obtain ⟨m, hm8, rfl, rfl⟩ := hrel
        have hs := cstepN_lt m _ hlt0
        have hst : Hid (cstepN (m + 1) (R ^^^ c) = cstep (cstepN m (R ^^^ c))) := rfl
        by_cases hm9 : m < 8
        · generalize hS : cstepN m (R ^^^ c) = S at *
          clear hS
          have ha := and32_1 S hs
          by_cases hp : S % 2 = 1
          · have hx := xor32 (S / 2) 3988292384 (by omega) (by decide)
            have hcs : Hid (cstepN (m + 1) (R ^^^ c) = (S / 2) ^^^ 3988292384) := hst.out.trans (cstep_odd S hp)
            rw [hp] at ha
            go_wp2
            go_round
            case rel => exact ⟨m + 1, by omega, by go_num, by rw [hcs.out, ← hx]; simp⟩
            case measure => simp [intOf]; omega
          · have hcs : Hid (cstepN (m + 1) (R ^^^ c) = S / 2) := hst.out.trans (cstep_even S hp)
            rw [show S % 2 = 0 by omega] at ha
            go_wp2
            go_round
            case rel => exact ⟨m + 1, by omega, by go_num, by rw [hcs.out]; simp⟩
            case measure => simp [intOf]; omega
        · obtain rfl : m = 8 := by omega
          go_wp2
          go_round
          case rel => exact ⟨k + 1, by omega, by go_num, by rw [hreg.out]; rfl⟩
          case measure => simp [intOf]; omega
    · go_wp2
      go_ret
      have ho := ones32 _ hr
      rw [List.take_of_length_le (by omega)] at ho
      exact ⟨ret_int (by rw [List.take_of_length_le (by omega), ho]; rfl), rfl⟩

theorem rsum_none (a : Option Addr) (cap : Nat) (w : World) :
    Calls Try.prog 79 #[.slice a 0 cap] w fun e w' => e = .returned (.int .u32 (crc [])) ∧ w = w' := by
  go_enter Try.func79, Try.ntmps79
  go_wp2
  refine wp_loop_rounds 1 ?_
  rw [rounds_succ]
  go_wp2
  go_ret
  exact ⟨ret_int (by decide), rfl⟩

/-- The document's Sum of any bytes. -/
theorem rsum_any {a : Option Addr} {len cap : Nat} {xs : List Int} {w : World} (h : IsB w a len cap xs) :
    Calls Try.prog 79 #[.slice a len cap] w fun e w' => e = .returned (.int .u32 (crc xs)) ∧ w = w' := by
  by_cases h0 : 0 < len
  · obtain ⟨b, off, rfl, hc⟩ := h.cells h0
    exact rsum_some b off len cap xs w h.size (Nat.le_trans h.room h.most) h.byte hc
  · obtain rfl : len = 0 := by omega
    obtain rfl : xs = [] := List.eq_nil_of_length_eq_zero h.size
    exact rsum_none a cap w
end Go.Proofs.Ytofgphiamllmdab
