/- whole.used, math/bits.Len32 and whole.byteCount: how many words and bytes a number has. -/
import Derived.Test.YtlhmeipbcioncaaDoorRows
import Derived.Test.YtlhmeipbcioncaaDoorMath
import Derived.WalkKit
import Derived.WalkSpells
import Derived.WalkLawsBesides
import Derived.Lib.BitFns
namespace Go.Proofs.YtlhmeipbcioncaaDoor
open Go.RowKit

theorem ret_int {k : IntKind} {a b : Int} (h : a = b) : Ending.returned (.int k a) = .returned (.int k b) := by rw [h]

/-- What is known of a slice of words that is only read. -/
structure IsW (w : World) (a : Option Addr) (len cap : Nat) (ws : List Int) : Prop where
  size : ws.length = len
  room : len ≤ cap
  most : cap ≤ maxLen
  word : ∀ x ∈ ws, 0 ≤ x ∧ x < 4294967296
  cells : 0 < len → ∃ b off, a = some ⟨b, off, none⟩ ∧ ∀ i, i < len → w.cell? ⟨b, off + i, none⟩ = some (.int .u32 (ws.getD i 0))

/-- How many words a number has. -/
def wlen (n : Nat) : Nat := if n = 0 then 0 else n.log2 / 32 + 1
theorem wlen_unique (n k : Nat) (h1 : n < 4294967296 ^ (k + 1)) (h2 : 4294967296 ^ k ≤ n) : wlen n = k + 1 := by
  have hpos : 0 < 4294967296 ^ k := Nat.pow_pos (by decide)
  have e : ∀ k, 4294967296 ^ k = 2 ^ (32 * k) := fun k => by rw [Nat.pow_mul]
  unfold wlen
  rw [if_neg (by omega)]
  rw [e] at h1 h2
  have a := (Nat.log2_lt (show n ≠ 0 by rw [e] at hpos; omega)).2 h1
  have b : 32 * k ≤ n.log2 := (Nat.le_log2 (show n ≠ 0 by rw [e] at hpos; omega)).2 h2
  omega

theorem take_top (ws : List Int) (k : Nat) (hk : k < ws.length) : val32 (ws.take (k + 1)) = val32 (ws.take k) + 4294967296 ^ k * (ws.getD k 0).toNat := by
  rw [List.take_succ_eq_append_getElem hk, val32_append, List.length_take, Nat.min_eq_left (by omega), val32_cons]
  simp [val32, hk]

theorem wlen_of (ws : List Int) (hw : ∀ x ∈ ws, 0 ≤ x ∧ x < 4294967296) (k : Nat) (hk : k < ws.length) (hv : val32 ws = val32 (ws.take (k + 1))) (hne : ws.getD k 0 ≠ 0) : wlen (val32 ws) = k + 1 := by
  have ht := take_top ws k hk
  have hb : 0 ≤ ws.getD k 0 := by
    have := hw _ (List.getElem_mem hk)
    simp [hk]; omega
  have hlt := val32_lt (ws.take (k + 1)) (fun x hx => hw x (List.mem_of_mem_take hx))
  rw [List.length_take, Nat.min_eq_left (by omega), ← hv] at hlt
  refine wlen_unique _ k hlt ?_
  rw [hv, ht]
  have : 4294967296 ^ k * 1 ≤ 4294967296 ^ k * (ws.getD k 0).toNat := Nat.mul_le_mul_left _ (by omega)
  omega

theorem wordAt (ws : List Int) (hb : ∀ x ∈ ws, 0 ≤ x ∧ x < 4294967296) (k : Nat) (hk : k < ws.length) : ∃ c : Nat, c < 4294967296 ∧ ws.getD k 0 = (c : Int) := by
  have h := hb ws[k] (List.getElem_mem hk)
  refine ⟨ws[k].toNat, by omega, ?_⟩
  simp [List.getD, hk]; omega

set_option maxHeartbeats 1000000 in
theorem used_some (b off len cap : Nat) (ws : List Int) (w : World) (hl : ws.length = len) (hm : len ≤ maxLen) (hw : ∀ x ∈ ws, 0 ≤ x ∧ x < 4294967296)
    (hc : ∀ i, i < len → w.cell? ⟨b, off + i, none⟩ = some (.int .u32 (ws.getD i 0))) :
    Calls Tryd.prog 87 #[.slice (some ⟨b, off, none⟩) len cap] w fun e w' => e = .returned (.int .i64 (wlen (val32 ws) : Int)) ∧ w = w' := by
  unfold maxLen at hm
  go_enter Tryd.func87, Tryd.ntmps87
  go_wp2
  go_loop [3] (fun n => ∃ k : Nat, k ≤ len ∧ n = .int .i64 k ∧ Hid (val32 ws = val32 (ws.take k))) (fun n => (intOf n).toNat)
  case atStart => exact ⟨len, Nat.le_refl _, rfl, by show _ = _; rw [List.take_of_length_le (by omega)]⟩
  case round =>
    obtain ⟨k, hk, rfl, hv⟩ := hrel
    by_cases hz : k = 0
    · have hres : Hid (wlen (val32 ws) = 0) := by show _ = _; rw [hv.out, hz]; rfl
      subst hz
      go_wp2
      go_ret
      exact ⟨ret_int (by rw [hres.out]; rfl), rfl⟩
    · obtain ⟨j, rfl⟩ : ∃ j, k = j + 1 := ⟨k - 1, by omega⟩
      obtain ⟨c, hc32, hcx⟩ := wordAt ws hw j (by omega)
      have hck := hc j (by omega)
      rw [hcx] at hck
      have ht : Hid (val32 (ws.take (j + 1)) = val32 (ws.take j) + 4294967296 ^ j * (ws.getD j 0).toNat) := take_top ws j (by omega)
      by_cases hcz : c = 0
      · have hcz' : ((c : Int) == 0) = true := by simp; omega
        have hnx : Hid (val32 ws = val32 (ws.take j)) := by show _ = _; rw [hv.out, ht.out, hcx, hcz]; simp
        clear hc hcx ht
        go_wp2
        go_round
        case rel => exact ⟨j, by omega, by go_num, hnx⟩
        case measure => simp [intOf]
      · have hcz' : ((c : Int) == 0) = false := by simp; omega
        have hres : Hid (wlen (val32 ws) = j + 1) := wlen_of ws hw j (by omega) hv.out (by rw [hcx]; omega)
        clear hc hcx ht
        go_wp2
        go_ret
        exact ⟨ret_int (by rw [hres.out]; simp), rfl⟩
theorem used_any {a : Option Addr} {len cap : Nat} {ws : List Int} {w : World} (h : IsW w a len cap ws) :
    Calls Tryd.prog 87 #[.slice a len cap] w fun e w' => e = .returned (.int .i64 (wlen (val32 ws) : Int)) ∧ w = w' := by
  by_cases h0 : 0 < len
  · obtain ⟨b, off, rfl, hc⟩ := h.cells h0
    exact used_some b off len cap ws w h.size (Nat.le_trans h.room h.most) h.word hc
  · obtain rfl : len = 0 := by omega
    obtain rfl : ws = [] := List.eq_nil_of_length_eq_zero h.size
    go_enter Tryd.func87, Tryd.ntmps87
    go_wp2
    refine wp_loop_rounds 1 ?_
    rw [rounds_succ]
    go_wp2
    go_ret
    exact ⟨ret_int rfl, rfl⟩

theorem tab_get (y : Nat) (h : y < Lib.len8tab.size) : ((Lib.len8tab[y]'h).toNat : Int) = (Lib.bitLen y : Int) := by
  have hs := Lib.len8tab_size
  have e := Lib.len8_eq ⟨y, by omega⟩
  rw [← e]
  unfold Lib.len8
  simp [h]
theorem len_close (x y : Int) (k : Nat) (hx0 : 0 ≤ x) (hx1 : x ≤ 18446744073709551615) (hy0 : 0 ≤ y) (hy : y < 256) (hk : k ≤ 56)
    (he : y.toNat = x.toNat / 2 ^ k) (hs : k = 0 ∨ 2 ^ k ≤ x.toNat) (h : y.toNat < Lib.len8tab.size) :
    wrap64 ((k : Int) + wrap64 ((Lib.len8tab[y.toNat]'h).toNat : Int)) = (Lib.bitLen x.toNat : Int) := by
  rw [tab_get]
  have l := Lib.bitLen_le8 ⟨y.toNat, by omega⟩
  simp only at l
  have e : Lib.bitLen x.toNat = k + Lib.bitLen y.toNat := by
    rw [he]
    rcases hs with rfl | hs
    · simp
    · exact Lib.bitLen_shift k x.toNat hs (by omega)
  rw [e]
  have w1 : wrap64 (Lib.bitLen y.toNat : Int) = (Lib.bitLen y.toNat : Int) := by unfold wrap64; omega
  rw [w1]
  unfold wrap64; omega
set_option maxHeartbeats 4000000 in
set_option maxRecDepth 100000 in
theorem len32_any (x : Int) (w : World) (h0 : 0 ≤ x) (h1 : x ≤ 4294967295) :
    Calls Tryd.prog 88 #[.int .u32 x] w fun e w' => e = .returned (.int .i64 (Lib.bitLen x.toNat)) ∧ w = w' := by
  have hsz : Lib.len8tab.size = 256 := Lib.len8tab_size
  go_enter Tryd.func88, Tryd.ntmps88
  go_wp2
  all_goals (go_ret; refine ⟨congrArg Ending.returned (congrArg (Value.int IntKind.i64) ?_), rfl⟩)
  · exact len_close x _ 24 h0 (by omega) (by omega) (by omega) (by omega) (by omega) (by omega) _
  · exact len_close x _ 16 h0 (by omega) (by omega) (by omega) (by omega) (by omega) (by omega) _
  · exact len_close x _ 8 h0 (by omega) (by omega) (by omega) (by omega) (by omega) (by omega) _
  · have := len_close x x 0 h0 (by omega) (by omega) (by omega) (by omega) (by simp) (by omega) (by omega)
    simpa using this
end Go.Proofs.YtlhmeipbcioncaaDoor
