/- wire.ReadUint and the document's own ReadUint: the same answer, for all bytes. -/
import Derived.Test.YtjfaflmmanjjbaaIsB
import Derived.Test.YtjfaflmmanjjbaaRead
import Derived.Lib.VarintBits
namespace Go.Proofs.Ytjfaflmmanjjbaa
open Go.RowKit
set_option maxRecDepth 100000

/-- The three answers as values. -/
def tri (t : Nat × Nat × Nat) : Value := .tuple #[.int .u64 (t.1 : Int), .int .i64 (t.2.1 : Int), .int .i64 (t.2.2 : Int)]

theorem goes_no9 (c : Nat) (w : World) (h : 1 < c) :
    Calls Try.prog 78 #[.int .i64 9, .int .u8 (c : Int)] w fun e w' => e = .returned (.bool false) ∧ w = w' := by
  have h' : (1 : Int) < (c : Int) := by omega
  go_enter Try.func78, Try.ntmps78
  go_wp2
  go_ret
  exact ⟨rfl, rfl⟩
theorem goes_no0 (k : Nat) (w : World) (h : 0 < k) (hk : k ≤ 9) :
    Calls Try.prog 78 #[.int .i64 (k : Int), .int .u8 0] w fun e w' => e = .returned (.bool false) ∧ w = w' := by
  have h0 : ((k : Int) == 0) = false := by simp; omega
  by_cases h9 : k = 9
  · subst h9
    go_enter Try.func78, Try.ntmps78
    go_wp2
    go_ret
    exact ⟨rfl, rfl⟩
  · have h9' : ((k : Int) == 9) = false := by simp; omega
    go_enter Try.func78, Try.ntmps78
    go_wp2
    go_ret
    exact ⟨rfl, rfl⟩
theorem goes_yes (k c : Nat) (w : World) (h1 : ¬ (k = 9 ∧ 1 < c)) (h2 : ¬ (c = 0 ∧ 0 < k)) :
    Calls Try.prog 78 #[.int .i64 (k : Int), .int .u8 (c : Int)] w fun e w' => e = .returned (.bool true) ∧ w = w' := by
  by_cases h0 : k = 0
  · subst h0
    go_enter Try.func78, Try.ntmps78
    go_wp2
    go_ret
    exact ⟨rfl, rfl⟩
  · have h0' : ((k : Int) == 0) = false := by simp; omega
    have hc : ((c : Int) != 0) = true := by simp; omega
    by_cases h9 : k = 9
    · subst h9
      have hc1 : ¬ (1 : Int) < (c : Int) := by omega
      go_enter Try.func78, Try.ntmps78
      go_wp2
      go_ret
      exact ⟨rfl, rfl⟩
    · have h9' : ((k : Int) == 9) = false := by simp; omega
      go_enter Try.func78, Try.ntmps78
      go_wp2
      go_ret
      exact ⟨rfl, rfl⟩

theorem dropAt (xs : List Int) (hb : ∀ x ∈ xs, 0 ≤ x ∧ x < 256) (k : Nat) (hk : k < xs.length) : ∃ c : Nat, c < 256 ∧ xs.getD k 0 = (c : Int) ∧ Hid (xs.drop k = (c : Int) :: xs.drop (k + 1)) := by
  have h := hb xs[k] (List.getElem_mem hk)
  refine ⟨xs[k].toNat, by omega, ?_, ?_⟩
  · simp [List.getD, hk]; omega
  · show xs.drop k = _
    rw [List.drop_eq_getElem_cons hk]
    congr 1
    omega
theorem mask7 (c : Nat) (h : c < 256) : bits .and .u8 (c : Int) 127 = ((c % 128 : Nat) : Int) := by
  have := u8_and127 (c : Int) (by omega) (by omega)
  rw [this]; omega

theorem join7_lt (acc c k : Nat) (h : acc < 128 ^ k) : acc + c % 128 * 128 ^ k < 128 ^ (k + 1) := by
  rw [Nat.pow_succ]
  have : c % 128 * 128 ^ k ≤ 127 * 128 ^ k := Nat.mul_le_mul_right _ (by omega)
  omega
theorem join7 (acc c k : Nat) (hk : k ≤ 9) (h9 : ¬ (k = 9 ∧ 1 < c)) (hacc : acc < 128 ^ k) :
    bits .or .u64 (acc : Int) (IntKind.u64.wrap ((c : Int) % 128 * 2 ^ (7 * k))) = ((acc + c % 128 * 128 ^ k : Nat) : Int) := by
  have hp : (2 : Int) ^ (7 * k) = ((128 ^ k : Nat) : Int) := by rw [Int.pow_mul]; simp
  have hlt : c % 128 * 128 ^ k < 18446744073709551616 := by
    by_cases h : k = 9
    · subst h
      have e : (128 : Nat) ^ 9 = 9223372036854775808 := by decide
      rw [e]; omega
    · have h8 : 128 ^ k ≤ 128 ^ 8 := Nat.pow_le_pow_right (by decide) (by omega)
      have e : (128 : Nat) ^ 8 = 72057594037927936 := by decide
      have : c % 128 * 128 ^ k ≤ 127 * 128 ^ k := Nat.mul_le_mul_right _ (by omega)
      omega
  have e1 : IntKind.u64.wrap ((c : Int) % 128 * 2 ^ (7 * k)) = ((c % 128 * 128 ^ k : Nat) : Int) := by
    have e0 : (c : Int) % 128 * ((128 ^ k : Nat) : Int) = ((c % 128 * 128 ^ k : Nat) : Int) := by
      rw [Int.natCast_mul]; congr 1
    rw [hp, e0, IntKind.wrap_u64]
    omega
  have ha64 : 128 ^ k ≤ 2 ^ 64 := by rw [pow128]; exact Nat.pow_le_pow_right (by decide) (by omega)
  rw [e1, bits_join_low .u64 64 (by decide) wraps_u64 (7 * k) (acc : Int) _ (by omega) (by rw [hp]; omega) (by omega) (by omega) (by rw [hp]; exact_mod_cast Nat.mul_mod_left _ _) (by omega)]
  omega

set_option maxRecDepth 100000 in
set_option maxHeartbeats 2000000 in
theorem readU_some (b off len cap : Nat) (xs : List Int) (w : World) (hl : xs.length = len) (hm : len ≤ maxLen) (hb : ∀ x ∈ xs, 0 ≤ x ∧ x < 256) (h0 : 0 < len)
    (hc : ∀ i, i < len → w.cell? ⟨b, off + i, none⟩ = some (.int .u8 (xs.getD i 0))) :
    Calls Try.prog 76 #[.slice (some ⟨b, off, none⟩) len cap] w fun e w' => e = .returned (tri (rd 0 0 xs)) ∧ w = w' := by
  unfold maxLen at hm
  go_enter Try.func76, Try.ntmps76
  go_wp2
  all_goals
    go_loop [5, 10] (fun n i => ∃ k acc : Nat, k ≤ 9 ∧ k ≤ len ∧ i = .int .i64 k ∧ n = .int .u64 acc ∧ acc < 128 ^ k ∧ Hid (rd 0 0 xs = rd k acc (xs.drop k))) (fun _ i => 10 - (intOf i).toNat)
    case atStart => exact ⟨0, 0, by omega, by omega, rfl, rfl, by decide, rfl⟩
    case round =>
      obtain ⟨k, acc, hk9, hkl, rfl, rfl, hacc, hrd⟩ := hrel
      by_cases hlt : k < len
      · obtain ⟨c, hc256, hcx, hdr⟩ := dropAt xs hb k (by omega)
        have hck := hc k hlt
        rw [hcx] at hck
        clear hcx hc hb
        by_cases hA : k = 9 ∧ 1 < c
        · obtain ⟨rfl, hA⟩ := hA
          have hres : Hid (rd 0 0 xs = (0, 0, 11)) := by show _ = _; rw [hrd.out, hdr.out]; exact rd_bad9 acc c _ (by omega)
          go_wp2_with (go_at_call 78; refine (goes_no9 c _ hA).mono ?_; rintro e w' ⟨rfl, rfl⟩)
          go_ret3
          exact ⟨by rw [hres.out]; rfl, rfl⟩
        · by_cases hB : c = 0 ∧ 0 < k
          · obtain ⟨rfl, hB⟩ := hB
            have hres : Hid (rd 0 0 xs = (0, 0, 11)) := by show _ = _; rw [hrd.out, hdr.out]; exact rd_zero k acc _ hB
            go_wp2_with (go_at_call 78; refine (goes_no0 k _ hB hk9).mono ?_; rintro e w' ⟨rfl, rfl⟩)
            go_ret3
            exact ⟨by rw [hres.out]; rfl, rfl⟩
          · have hmk := mask7 c hc256
            by_cases hC : c < 128
            · have hC' : (c : Int) < 128 := by omega
              have hres : Hid (rd 0 0 xs = (acc + c % 128 * 128 ^ k, k + 1, 0)) := by
                show _ = _; rw [hrd.out, hdr.out, rd_last k acc c _ (by omega) (by omega) (by omega), Int.toNat_natCast, show c % 128 = c by omega]
              go_wp2_with (go_at_call 78; refine (goes_yes k c _ hA hB).mono ?_; rintro e w' ⟨rfl, rfl⟩)
              go_ret3
              exact ⟨by rw [hres.out, join7 acc c k hk9 hA hacc]; unfold tri; simp, rfl⟩
            · have hC' : ¬ (c : Int) < 128 := by omega
              have hnx : Hid (rd 0 0 xs = rd (k + 1) (acc + c % 128 * 128 ^ k) (xs.drop (k + 1))) := by
                show _ = _; rw [hrd.out, hdr.out, rd_more k acc c _ (by omega) (by omega), Int.toNat_natCast]
              go_wp2_with (go_at_call 78; refine (goes_yes k c _ hA hB).mono ?_; rintro e w' ⟨rfl, rfl⟩)
              go_round
              case rel => exact ⟨k + 1, acc + c % 128 * 128 ^ k, by omega, by omega, by go_num, by rw [join7 acc c k hk9 hA hacc], join7_lt acc c k hacc, hnx⟩
              case measure => simp [intOf]; omega
      · have hres : Hid (rd 0 0 xs = (0, 0, 10)) := by
          show _ = _; rw [hrd.out, List.drop_eq_nil_of_le (by omega)]; rfl
        go_wp2
        all_goals
          go_ret3
          exact ⟨by rw [hres.out]; rfl, rfl⟩

theorem readU_none (a : Option Addr) (cap : Nat) (w : World) :
    Calls Try.prog 76 #[.slice a 0 cap] w fun e w' => e = .returned (tri (rd 0 0 [])) ∧ w = w' := by
  go_enter Try.func76, Try.ntmps76
  go_wp2
  refine wp_loop_rounds 1 ?_
  rw [rounds_succ]
  go_wp2
  go_ret3
  exact ⟨rfl, rfl⟩

/-- wire.ReadUint of any bytes. -/
theorem readU_any {a : Option Addr} {len cap : Nat} {xs : List Int} {w : World} (h : IsB w a len cap xs) :
    Calls Try.prog 76 #[.slice a len cap] w fun e w' => e = .returned (tri (rd 0 0 xs)) ∧ w = w' := by
  by_cases h0 : 0 < len
  · obtain ⟨b, off, rfl, hc⟩ := h.cells h0
    exact readU_some b off len cap xs w h.size (Nat.le_trans h.room h.most) h.byte h0 hc
  · obtain rfl : len = 0 := by omega
    obtain rfl : xs = [] := List.eq_nil_of_length_eq_zero h.size
    exact readU_none a cap w

theorem tri_ret (t : Nat × Nat × Nat) (a b c : Int) (h1 : a = t.1) (h2 : b = t.2.1) (h3 : c = t.2.2) : Ending.returned (.tuple #[.int .u64 a, .int .i64 b, .int .i64 c]) = .returned (tri t) := by
  subst h1 h2 h3; rfl

set_option maxRecDepth 100000 in
set_option maxHeartbeats 2000000 in
theorem rreadU_some (b off len cap : Nat) (xs : List Int) (w : World) (hl : xs.length = len) (hm : len ≤ maxLen) (hb : ∀ x ∈ xs, 0 ≤ x ∧ x < 256) (h0 : 0 < len)
    (hc : ∀ i, i < len → w.cell? ⟨b, off + i, none⟩ = some (.int .u8 (xs.getD i 0))) :
    Calls Try.prog 68 #[.slice (some ⟨b, off, none⟩) len cap] w fun e w' => e = .returned (tri (rd 0 0 xs)) ∧ w = w' := by
  unfold maxLen at hm
  go_enter Try.func68, Try.ntmps68
  go_wp2
  go_loop [5, 6] (fun n i => ∃ k acc : Nat, k ≤ 9 ∧ k ≤ len ∧ i = .int .i64 k ∧ n = .int .u64 acc ∧ acc < 128 ^ k ∧ Hid (rd 0 0 xs = rd k acc (xs.drop k))) (fun _ i => 10 - (intOf i).toNat)
  case atStart => exact ⟨0, 0, by omega, by omega, rfl, rfl, by decide, rfl⟩
  case round =>
    obtain ⟨k, acc, hk9, hkl, rfl, rfl, hacc, hrd⟩ := hrel
    by_cases hlt : k < len
    · obtain ⟨c, hc256, hcx, hdr⟩ := dropAt xs hb k (by omega)
      have hck := hc k hlt
      rw [hcx] at hck
      clear hcx hc hb
      by_cases hA : k = 9 ∧ 1 < c
      · obtain ⟨rfl, hA⟩ := hA
        have hA' : (1 : Int) < (c : Int) := by omega
        have hres : Hid (rd 0 0 xs = (0, 0, 11)) := by show _ = _; rw [hrd.out, hdr.out]; exact rd_bad9 acc c _ (by omega)
        go_wp2
        go_ret3
        exact ⟨by rw [hres.out]; rfl, rfl⟩
      · have h9 : (((k : Int) == 9) = false) ∨ (k = 9 ∧ ¬ (1 : Int) < (c : Int)) := by
          by_cases h : k = 9
          · exact .inr ⟨h, by omega⟩
          · exact .inl (by simp; omega)
        by_cases hB : c = 0 ∧ 0 < k
        · obtain ⟨rfl, hB⟩ := hB
          have hB' : (0 : Int) < (k : Int) := by omega
          have hres : Hid (rd 0 0 xs = (0, 0, 11)) := by show _ = _; rw [hrd.out, hdr.out]; exact rd_zero k acc _ hB
          rcases h9 with h9 | ⟨rfl, h9⟩
          · go_wp2
            go_ret3
            exact ⟨by rw [hres.out]; rfl, rfl⟩
          · go_wp2
            go_ret3
            exact ⟨by rw [hres.out]; rfl, rfl⟩
        · by_cases hC : c < 128
          · have hC' : (c : Int) < 128 := by omega
            have hres : Hid (rd 0 0 xs = (acc + c % 128 * 128 ^ k, k + 1, 0)) := by
              show _ = _; rw [hrd.out, hdr.out, rd_last k acc c _ (by omega) (by omega) (by omega), Int.toNat_natCast, show c % 128 = c by omega]
            have hj : Hid (bits .or .u64 (acc : Int) (IntKind.u64.wrap ((c : Int) % 128 * 2 ^ (7 * k))) = ((acc + c % 128 * 128 ^ k : Nat) : Int)) := join7 acc c k hk9 hA hacc
            by_cases hk : k = 9
            · have h9t : ((k : Int) == 9) = true := by simp; omega
              have hc1 : ¬ (1 : Int) < (c : Int) := by omega
              have hz' : ((c : Int) == 0) = false := by simp; omega
              clear h9 hk hA hB
              go_wp2
              go_ret3
              exact ⟨by rw [hres.out]; exact tri_ret _ _ _ _ hj.out rfl rfl, rfl⟩
            · have h9' : ((k : Int) == 9) = false := by simp; omega
              clear h9
              by_cases hz : c = 0
              · have hz' : ((c : Int) == 0) = true := by simp; omega
                have hk0 : ¬ (0 : Int) < (k : Int) := by omega
                clear hz hB hA hk
                go_wp2
                go_ret3
                exact ⟨by rw [hres.out]; exact tri_ret _ _ _ _ hj.out rfl rfl, rfl⟩
              · have hz' : ((c : Int) == 0) = false := by simp; omega
                go_wp2
                go_ret3
                exact ⟨by rw [hres.out]; exact tri_ret _ _ _ _ hj.out rfl rfl, rfl⟩
          · have hC' : ¬ (c : Int) < 128 := by omega
            have hnx : Hid (rd 0 0 xs = rd (k + 1) (acc + c % 128 * 128 ^ k) (xs.drop (k + 1))) := by
              show _ = _; rw [hrd.out, hdr.out, rd_more k acc c _ (by omega) (by omega), Int.toNat_natCast]
            have h9' : ((k : Int) == 9) = false := by simp; omega
            go_wp2
            go_round
            case rel => exact ⟨k + 1, acc + c % 128 * 128 ^ k, by omega, by omega, by go_num, by rw [join7 acc c k hk9 hA hacc], join7_lt acc c k hacc, hnx⟩
            case measure => simp [intOf]; omega
    · have hres : Hid (rd 0 0 xs = (0, 0, 10)) := by
        show _ = _; rw [hrd.out, List.drop_eq_nil_of_le (by omega)]; rfl
      go_wp2
      go_ret3
      exact ⟨by rw [hres.out]; rfl, rfl⟩

theorem rreadU_none (a : Option Addr) (cap : Nat) (w : World) :
    Calls Try.prog 68 #[.slice a 0 cap] w fun e w' => e = .returned (tri (rd 0 0 [])) ∧ w = w' := by
  go_enter Try.func68, Try.ntmps68
  go_wp2
  refine wp_loop_rounds 1 ?_
  rw [rounds_succ]
  go_wp2
  go_ret3
  exact ⟨rfl, rfl⟩

/-- The document's ReadUint of any bytes. -/
theorem rreadU_any {a : Option Addr} {len cap : Nat} {xs : List Int} {w : World} (h : IsB w a len cap xs) :
    Calls Try.prog 68 #[.slice a len cap] w fun e w' => e = .returned (tri (rd 0 0 xs)) ∧ w = w' := by
  by_cases h0 : 0 < len
  · obtain ⟨b, off, rfl, hc⟩ := h.cells h0
    exact rreadU_some b off len cap xs w h.size (Nat.le_trans h.room h.most) h.byte h0 hc
  · obtain rfl : len = 0 := by omega
    obtain rfl : xs = [] := List.eq_nil_of_length_eq_zero h.size
    exact rreadU_none a cap w
end Go.Proofs.Ytjfaflmmanjjbaa
