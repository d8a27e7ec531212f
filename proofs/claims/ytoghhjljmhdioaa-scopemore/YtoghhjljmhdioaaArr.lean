/- Plain arithmetic of numbers as words of 32 bits, the lowest first, and as bytes, the highest first: no program. -/
import Derived.Lib.BitFns
import Derived.Test.YtoghhjljmhdioaaRows
import Derived.WalkKit
import Derived.WalkSpells
import Derived.WalkLawsBesides
import Derived.Laws.Tables
import Derived.Laws.CopyOwn
import Derived.Laws.CopyRow
namespace Go.Proofs.Ytoghhjljmhdioaa

/-- The number whose words these are, the lowest first. -/
def val32 : List Int → Nat
  | [] => 0
  | w :: r => w.toNat + 4294967296 * val32 r
/-- The first k words of a number. -/
def words : Nat → Nat → List Int
  | 0, _ => []
  | k + 1, n => ((n % 4294967296 : Nat) : Int) :: words k (n / 4294967296)
/-- The number whose bytes these are, the highest first. -/
def val8 (bs : List Int) : Nat := bs.foldl (fun a b => a * 256 + b.toNat) 0
/-- The last k bytes of a number, the highest first. -/
def bytesN : Nat → Nat → List Int
  | 0, _ => []
  | k + 1, n => bytesN k (n / 256) ++ [((n % 256 : Nat) : Int)]
/-- How many bytes a number has. -/
def blen (n : Nat) : Nat := if n = 0 then 0 else n.log2 / 8 + 1
/-- A number's bytes, the highest first, without noughts ahead. -/
def mag (n : Nat) : List Int := bytesN (blen n) n

theorem words_len : ∀ (k n : Nat), (words k n).length = k
  | 0, _ => rfl
  | k + 1, n => by unfold words; rw [List.length_cons, words_len k]
theorem words_lt : ∀ (k n : Nat), ∀ x ∈ words k n, 0 ≤ x ∧ x < 4294967296
  | 0, _, x, h => by simp [words] at h
  | k + 1, n, x, h => by
    unfold words at h
    rcases List.mem_cons.1 h with rfl | h
    · omega
    · exact words_lt k _ x h
theorem words_get : ∀ (k n i : Nat), i < k → (words k n)[i]? = some ((n / 4294967296 ^ i % 4294967296 : Nat) : Int)
  | 0, _, i, h => by omega
  | k + 1, n, 0, _ => by unfold words; simp
  | k + 1, n, i + 1, h => by
    unfold words
    rw [List.getElem?_cons_succ, words_get k (n / 4294967296) i (by omega), Nat.div_div_eq_div_mul, Nat.pow_succ, Nat.mul_comm]
theorem val32_words : ∀ (k n : Nat), n < 4294967296 ^ k → val32 (words k n) = n
  | 0, n, h => by simp at h; simp [words, val32, h]
  | k + 1, n, h => by
    unfold words val32
    rw [val32_words k _ (by rw [Nat.pow_succ] at h; exact Nat.div_lt_of_lt_mul (by rw [Nat.mul_comm]; exact h))]
    omega
theorem words_val32 : ∀ (ws : List Int), (∀ x ∈ ws, 0 ≤ x ∧ x < 4294967296) → words ws.length (val32 ws) = ws
  | [], _ => rfl
  | w :: r, h => by
    have h0 := h w (by simp)
    have ih := words_val32 r (fun x hx => h x (by simp [hx]))
    rw [List.length_cons]
    unfold words val32
    have e1 : (w.toNat + 4294967296 * val32 r) % 4294967296 = w.toNat := by omega
    have e2 : (w.toNat + 4294967296 * val32 r) / 4294967296 = val32 r := by omega
    rw [e1, e2, ih]
    congr 1
    omega
theorem val32_lt : ∀ (ws : List Int), (∀ x ∈ ws, 0 ≤ x ∧ x < 4294967296) → val32 ws < 4294967296 ^ ws.length
  | [], _ => by simp [val32]
  | w :: r, h => by
    have h0 := h w (by simp)
    have ih := val32_lt r (fun x hx => h x (by simp [hx]))
    unfold val32
    rw [List.length_cons, Nat.pow_succ]
    omega
theorem val32_cons (w : Int) (r : List Int) : val32 (w :: r) = w.toNat + 4294967296 * val32 r := rfl
theorem val32_append : ∀ (a b : List Int), val32 (a ++ b) = val32 a + 4294967296 ^ a.length * val32 b
  | [], b => by simp [val32]
  | w :: r, b => by
    rw [List.cons_append, val32_cons, val32_cons, val32_append r b, List.length_cons, Nat.pow_succ, Nat.mul_add, ← Nat.mul_assoc, Nat.mul_comm 4294967296 (4294967296 ^ r.length)]
    omega

theorem bytesN_len : ∀ (k n : Nat), (bytesN k n).length = k
  | 0, _ => rfl
  | k + 1, n => by unfold bytesN; simp [bytesN_len k]
theorem bytesN_lt : ∀ (k n : Nat), ∀ x ∈ bytesN k n, 0 ≤ x ∧ x < 256
  | 0, _, x, h => by simp [bytesN] at h
  | k + 1, n, x, h => by
    unfold bytesN at h
    rcases List.mem_append.1 h with h | h
    · exact bytesN_lt k _ x h
    · simp at h; omega
theorem val8_snoc (bs : List Int) (b : Int) : val8 (bs ++ [b]) = val8 bs * 256 + b.toNat := by unfold val8; rw [List.foldl_append]; rfl
theorem val8_bytesN : ∀ (k n : Nat), n < 256 ^ k → val8 (bytesN k n) = n
  | 0, n, h => by simp at h; simp [bytesN, val8, h]
  | k + 1, n, h => by
    unfold bytesN
    rw [val8_snoc, val8_bytesN k _ (by rw [Nat.pow_succ] at h; exact Nat.div_lt_of_lt_mul (by rw [Nat.mul_comm]; exact h))]
    omega
theorem blen_spec (n : Nat) : n < 256 ^ blen n ∧ (n ≠ 0 → 256 ^ (blen n - 1) ≤ n ∧ 1 ≤ blen n) := by
  unfold blen
  by_cases h : n = 0
  · simp [h]
  · rw [if_neg h]
    have h1 := Nat.lt_log2_self (n := n)
    have h2 := Nat.log2_self_le h
    have e : ∀ k, 256 ^ k = 2 ^ (8 * k) := fun k => by rw [Nat.pow_mul]
    refine ⟨?_, fun _ => ⟨?_, by omega⟩⟩
    · rw [e]
      exact Nat.lt_of_lt_of_le h1 (Nat.pow_le_pow_right (by decide) (by omega))
    · rw [e, Nat.add_sub_cancel]
      exact Nat.le_trans (Nat.pow_le_pow_right (by decide) (by omega)) h2
theorem blen_unique (n k : Nat) (h1 : n < 256 ^ (k + 1)) (h2 : 256 ^ k ≤ n) : blen n = k + 1 := by
  obtain ⟨a, b⟩ := blen_spec n
  have hpos : 0 < 256 ^ k := Nat.pow_pos (by decide)
  obtain ⟨c, d⟩ := b (by omega)
  have e1 : blen n ≤ k + 1 := by
    by_cases h : blen n ≤ k + 1
    · exact h
    · have : 256 ^ (k + 1) ≤ 256 ^ (blen n - 1) := Nat.pow_le_pow_right (by decide) (by omega)
      omega
  have e2 : k + 1 ≤ blen n := by
    by_cases h : k + 1 ≤ blen n
    · exact h
    · have : 256 ^ (blen n) ≤ 256 ^ k := Nat.pow_le_pow_right (by decide) (by omega)
      omega
  omega
theorem blen_le (n k : Nat) : blen n ≤ k ↔ n < 256 ^ k := by
  obtain ⟨a, b⟩ := blen_spec n
  constructor
  · intro h
    exact Nat.lt_of_lt_of_le a (Nat.pow_le_pow_right (by decide) h)
  · intro h
    by_cases h0 : n = 0
    · simp [blen, h0]
    · obtain ⟨c, d⟩ := b h0
      by_cases h' : blen n ≤ k
      · exact h'
      · have : 256 ^ k ≤ 256 ^ (blen n - 1) := Nat.pow_le_pow_right (by decide) (by omega)
        omega
theorem mag_len (n : Nat) : (mag n).length = blen n := bytesN_len _ _
theorem mag_lt (n : Nat) : ∀ x ∈ mag n, 0 ≤ x ∧ x < 256 := bytesN_lt _ _
theorem val8_mag (n : Nat) : val8 (mag n) = n := val8_bytesN _ _ (blen_spec n).1
theorem mag_zero : mag 0 = [] := rfl
theorem val8_acc : ∀ (bs : List Int) (a : Nat), bs.foldl (fun a b => a * 256 + b.toNat) a = a * 256 ^ bs.length + val8 bs
  | [], a => by simp [val8]
  | b :: r, a => by
    rw [List.foldl_cons, val8_acc r]
    unfold val8
    rw [List.foldl_cons, val8_acc r (0 * 256 + b.toNat), List.length_cons, Nat.pow_succ, Nat.add_mul, Nat.add_mul, Nat.mul_assoc a, Nat.mul_comm 256]
    simp [Nat.add_assoc]
    rfl
theorem val8_cons (b : Int) (r : List Int) : val8 (b :: r) = b.toNat * 256 ^ r.length + val8 r := by
  unfold val8; rw [List.foldl_cons, val8_acc r]
  simp
  rfl
theorem val8_lt : ∀ (bs : List Int), (∀ x ∈ bs, 0 ≤ x ∧ x < 256) → val8 bs < 256 ^ bs.length
  | [], _ => by simp [val8]
  | b :: r, h => by
    have h0 := h b (by simp)
    have ih := val8_lt r (fun x hx => h x (by simp [hx]))
    rw [val8_cons, List.length_cons, Nat.pow_succ]
    have : b.toNat * 256 ^ r.length ≤ 255 * 256 ^ r.length := Nat.mul_le_mul_right _ (by omega)
    omega
end Go.Proofs.Ytoghhjljmhdioaa
namespace Go.Proofs.Ytoghhjljmhdioaa
open Go.RowKit

theorem ret_int {k : IntKind} {a b : Int} (h : a = b) : Ending.returned (.int k a) = .returned (.int k b) := by rw [h]

/-- What is known of a slice of words that is only read. -/
structure IsW (w : World) (a : Option Addr) (len cap : Nat) (ws : List Int) : Prop where
  size : ws.length = len
  room : len ≤ cap
  most : cap ≤ maxLen
  word : ∀ x ∈ ws, 0 ≤ x ∧ x < 4294967296
  cells : 0 < len → ∃ b off, a = some ⟨b, off, none⟩ ∧ ∀ i, i < len → w.cell? ⟨b, off + i, none⟩ = some (.int .u32 (ws.getD i 0))

/-- How many words a number has. -/
def wlen (n : Nat) : Nat := if n = 0 then 0 else n.log2 / 32 + 1
theorem wlen_unique (n k : Nat) (h1 : n < 4294967296 ^ (k + 1)) (h2 : 4294967296 ^ k ≤ n) : wlen n = k + 1 := by
  have hpos : 0 < 4294967296 ^ k := Nat.pow_pos (by decide)
  have e : ∀ k, 4294967296 ^ k = 2 ^ (32 * k) := fun k => by rw [Nat.pow_mul]
  unfold wlen
  rw [if_neg (by omega)]
  rw [e] at h1 h2
  have a := (Nat.log2_lt (show n ≠ 0 by rw [e] at hpos; omega)).2 h1
  have b : 32 * k ≤ n.log2 := (Nat.le_log2 (show n ≠ 0 by rw [e] at hpos; omega)).2 h2
  omega

theorem take_top (ws : List Int) (k : Nat) (hk : k < ws.length) : val32 (ws.take (k + 1)) = val32 (ws.take k) + 4294967296 ^ k * (ws.getD k 0).toNat := by
  rw [List.take_succ_eq_append_getElem hk, val32_append, List.length_take, Nat.min_eq_left (by omega), val32_cons]
  simp [val32, hk]

theorem wlen_of (ws : List Int) (hw : ∀ x ∈ ws, 0 ≤ x ∧ x < 4294967296) (k : Nat) (hk : k < ws.length) (hv : val32 ws = val32 (ws.take (k + 1))) (hne : ws.getD k 0 ≠ 0) : wlen (val32 ws) = k + 1 := by
  have ht := take_top ws k hk
  have hb : 0 ≤ ws.getD k 0 := by
    have := hw _ (List.getElem_mem hk)
    simp [hk]; omega
  have hlt := val32_lt (ws.take (k + 1)) (fun x hx => hw x (List.mem_of_mem_take hx))
  rw [List.length_take, Nat.min_eq_left (by omega), ← hv] at hlt
  refine wlen_unique _ k hlt ?_
  rw [hv, ht]
  have : 4294967296 ^ k * 1 ≤ 4294967296 ^ k * (ws.getD k 0).toNat := Nat.mul_le_mul_left _ (by omega)
  omega

theorem wordAt (ws : List Int) (hb : ∀ x ∈ ws, 0 ≤ x ∧ x < 4294967296) (k : Nat) (hk : k < ws.length) : ∃ c : Nat, c < 4294967296 ∧ ws.getD k 0 = (c : Int) := by
  have h := hb ws[k] (List.getElem_mem hk)
  refine ⟨ws[k].toNat, by omega, ?_⟩
  simp [List.getD, hk]; omega

set_option maxHeartbeats 1000000 in
theorem used_some (b off len cap : Nat) (ws : List Int) (w : World) (hl : ws.length = len) (hm : len ≤ maxLen) (hw : ∀ x ∈ ws, 0 ≤ x ∧ x < 4294967296)
    (hc : ∀ i, i < len → w.cell? ⟨b, off + i, none⟩ = some (.int .u32 (ws.getD i 0))) :
    Calls Try.prog 78 #[.slice (some ⟨b, off, none⟩) len cap] w fun e w' => e = .returned (.int .i64 (wlen (val32 ws) : Int)) ∧ w = w' := by
  unfold maxLen at hm
  go_enter Try.func78, Try.ntmps78
  go_wp2
  go_loop [3] (fun n => ∃ k : Nat, k ≤ len ∧ n = .int .i64 k ∧ Hid (val32 ws = val32 (ws.take k))) (fun n => (intOf n).toNat)
  case atStart => exact ⟨len, Nat.le_refl _, rfl, by show _ = _; rw [List.take_of_length_le (by omega)]⟩
  case round =>
    obtain ⟨k, hk, rfl, hv⟩ := hrel
    by_cases hz : k = 0
    · have hres : Hid (wlen (val32 ws) = 0) := by show _ = _; rw [hv.out, hz]; rfl
      subst hz
      go_wp2
      go_ret
      exact ⟨ret_int (by rw [hres.out]; rfl), rfl⟩
    · obtain ⟨j, rfl⟩ : ∃ j, k = j + 1 := ⟨k - 1, by omega⟩
      obtain ⟨c, hc32, hcx⟩ := wordAt ws hw j (by omega)
      have hck := hc j (by omega)
      rw [hcx] at hck
      have ht : Hid (val32 (ws.take (j + 1)) = val32 (ws.take j) + 4294967296 ^ j * (ws.getD j 0).toNat) := take_top ws j (by omega)
      by_cases hcz : c = 0
      · have hcz' : ((c : Int) == 0) = true := by simp; omega
        have hnx : Hid (val32 ws = val32 (ws.take j)) := by show _ = _; rw [hv.out, ht.out, hcx, hcz]; simp
        clear hc hcx ht
        go_wp2
        go_round
        case rel => exact ⟨j, by omega, by go_num, hnx⟩
        case measure => simp [intOf]
      · have hcz' : ((c : Int) == 0) = false := by simp; omega
        have hres : Hid (wlen (val32 ws) = j + 1) := wlen_of ws hw j (by omega) hv.out (by rw [hcx]; omega)
        clear hc hcx ht
        go_wp2
        go_ret
        exact ⟨ret_int (by rw [hres.out]; simp), rfl⟩
theorem used_any {a : Option Addr} {len cap : Nat} {ws : List Int} {w : World} (h : IsW w a len cap ws) :
    Calls Try.prog 78 #[.slice a len cap] w fun e w' => e = .returned (.int .i64 (wlen (val32 ws) : Int)) ∧ w = w' := by
  by_cases h0 : 0 < len
  · obtain ⟨b, off, rfl, hc⟩ := h.cells h0
    exact used_some b off len cap ws w h.size (Nat.le_trans h.room h.most) h.word hc
  · obtain rfl : len = 0 := by omega
    obtain rfl : ws = [] := List.eq_nil_of_length_eq_zero h.size
    go_enter Try.func78, Try.ntmps78
    go_wp2
    refine wp_loop_rounds 1 ?_
    rw [rounds_succ]
    go_wp2
    go_ret
    exact ⟨ret_int rfl, rfl⟩

theorem tab_get (y : Nat) (h : y < Lib.len8tab.size) : ((Lib.len8tab[y]'h).toNat : Int) = (Lib.bitLen y : Int) := by
  have hs := Lib.len8tab_size
  have e := Lib.len8_eq ⟨y, by omega⟩
  rw [← e]
  unfold Lib.len8
  simp [h]
theorem len_close (x y : Int) (k : Nat) (hx0 : 0 ≤ x) (hx1 : x ≤ 18446744073709551615) (hy0 : 0 ≤ y) (hy : y < 256) (hk : k ≤ 56)
    (he : y.toNat = x.toNat / 2 ^ k) (hs : k = 0 ∨ 2 ^ k ≤ x.toNat) (h : y.toNat < Lib.len8tab.size) :
    wrap64 ((k : Int) + wrap64 ((Lib.len8tab[y.toNat]'h).toNat : Int)) = (Lib.bitLen x.toNat : Int) := by
  rw [tab_get]
  have l := Lib.bitLen_le8 ⟨y.toNat, by omega⟩
  simp only at l
  have e : Lib.bitLen x.toNat = k + Lib.bitLen y.toNat := by
    rw [he]
    rcases hs with rfl | hs
    · simp
    · exact Lib.bitLen_shift k x.toNat hs (by omega)
  rw [e]
  have w1 : wrap64 (Lib.bitLen y.toNat : Int) = (Lib.bitLen y.toNat : Int) := by unfold wrap64; omega
  rw [w1]
  unfold wrap64; omega
set_option maxHeartbeats 4000000 in
set_option maxRecDepth 100000 in
theorem len32_any (x : Int) (w : World) (h0 : 0 ≤ x) (h1 : x ≤ 4294967295) :
    Calls Try.prog 79 #[.int .u32 x] w fun e w' => e = .returned (.int .i64 (Lib.bitLen x.toNat)) ∧ w = w' := by
  have hsz : Lib.len8tab.size = 256 := Lib.len8tab_size
  go_enter Try.func79, Try.ntmps79
  go_wp2
  all_goals (go_ret; refine ⟨congrArg Ending.returned (congrArg (Value.int IntKind.i64) ?_), rfl⟩)
  · exact len_close x _ 24 h0 (by omega) (by omega) (by omega) (by omega) (by omega) (by omega) _
  · exact len_close x _ 16 h0 (by omega) (by omega) (by omega) (by omega) (by omega) (by omega) _
  · exact len_close x _ 8 h0 (by omega) (by omega) (by omega) (by omega) (by omega) (by omega) _
  · have := len_close x x 0 h0 (by omega) (by omega) (by omega) (by omega) (by simp) (by omega) (by omega)
    simpa using this
end Go.Proofs.Ytoghhjljmhdioaa
namespace Go.Proofs.Ytoghhjljmhdioaa
open Go.RowKit

theorem Try.info5 : (Try.prog.info? 5).map (fun i => (i.zero, i.size, i.bytes)) = some (some (.int .u8 0), 1, 1) := by kernel_rfl

theorem bitLenAux_spec : ∀ (f x : Nat), x < 2 ^ f → x < 2 ^ Lib.bitLenAux f x ∧ (x ≠ 0 → 2 ^ (Lib.bitLenAux f x - 1) ≤ x)
  | 0, x, h => by simp [Lib.bitLenAux] at *; omega
  | f + 1, x, h => by
    have ih := bitLenAux_spec f (x / 2) (by rw [Nat.pow_succ] at h; omega)
    unfold Lib.bitLenAux
    by_cases h0 : x = 0
    · simp [h0]
    · rw [if_neg h0]
      refine ⟨?_, fun _ => ?_⟩
      · rw [Nat.add_comm, Nat.pow_succ]; omega
      · rw [Nat.add_comm, Nat.add_sub_cancel]
        by_cases h1 : x / 2 = 0
        · have : Lib.bitLenAux f (x / 2) = 0 := by rw [h1]; cases f <;> simp [Lib.bitLenAux]
          rw [this]; simp; omega
        · have i2 := ih.2 h1
          have hp : 1 ≤ Lib.bitLenAux f (x / 2) := by
            cases f with
            | zero => simp at h; omega
            | succ f => unfold Lib.bitLenAux; rw [if_neg h1]; omega
          obtain ⟨m, hm⟩ : ∃ m, Lib.bitLenAux f (x / 2) = m + 1 := ⟨Lib.bitLenAux f (x / 2) - 1, by omega⟩
          rw [hm] at i2 ⊢
          rw [Nat.add_sub_cancel] at i2
          rw [Nat.pow_succ]; omega
theorem bitLen_bd (x : Nat) (h : x < 4294967296) (h0 : x ≠ 0) : x < 2 ^ Lib.bitLen x ∧ 2 ^ (Lib.bitLen x - 1) ≤ x ∧ 1 ≤ Lib.bitLen x ∧ Lib.bitLen x ≤ 32 := by
  have s := bitLenAux_spec 64 x (Nat.lt_of_lt_of_le h (by decide))
  have s2 := s.2 h0
  have hp : 1 ≤ Lib.bitLen x := by unfold Lib.bitLen Lib.bitLenAux; rw [if_neg h0]; omega
  refine ⟨s.1, s2, hp, ?_⟩
  by_cases hh : Lib.bitLen x ≤ 32
  · exact hh
  · have : 2 ^ 32 ≤ 2 ^ (Lib.bitLen x - 1) := Nat.pow_le_pow_right (by decide) (by omega)
    have s3 : 2 ^ (Lib.bitLen x - 1) ≤ x := s2
    omega

theorem blen_top (V low top j : Nat) (hV : V = low + 4294967296 ^ j * top) (hlow : low < 4294967296 ^ j) (ht0 : top ≠ 0) (ht : top < 4294967296) : blen V = 4 * j + (Lib.bitLen top + 7) / 8 := by
  obtain ⟨b1, b2, b3, b4⟩ := bitLen_bd top ht ht0
  obtain ⟨L, hL⟩ : ∃ L, Lib.bitLen top = L + 1 := ⟨Lib.bitLen top - 1, by omega⟩
  rw [hL] at b1 b2 b4 ⊢
  rw [Nat.add_sub_cancel] at b2
  have e : (4294967296 : Nat) ^ j = 2 ^ (32 * j) := by rw [Nat.pow_mul]
  have hlo : 2 ^ (32 * j) * 2 ^ L ≤ V := by
    rw [hV, e]
    have : 2 ^ (32 * j) * 2 ^ L ≤ 2 ^ (32 * j) * top := Nat.mul_le_mul_left _ b2
    omega
  have hhi : V < 2 ^ (32 * j) * 2 ^ (L + 1) := by
    rw [hV, e]
    rw [e] at hlow
    have : 2 ^ (32 * j) * (top + 1) ≤ 2 ^ (32 * j) * 2 ^ (L + 1) := Nat.mul_le_mul_left _ b1
    rw [Nat.mul_add] at this
    omega
  rw [← Nat.pow_add] at hlo hhi
  have e2 : ∀ k, 256 ^ k = 2 ^ (8 * k) := fun k => by rw [Nat.pow_mul]
  have := blen_unique V (4 * j + (L + 1 + 7) / 8 - 1) (by
    rw [e2]
    exact Nat.lt_of_lt_of_le hhi (Nat.pow_le_pow_right (by decide) (by omega))) (by
    rw [e2]
    exact Nat.le_trans (Nat.pow_le_pow_right (by decide) (by omega)) hlo)
  omega

set_option maxHeartbeats 1000000 in
theorem byteCount_any {a : Option Addr} {len cap : Nat} {ws : List Int} {w : World} (h : IsW w a len cap ws) (hl : len ≤ 1000) :
    Calls Try.prog 71 #[.slice a len cap] w fun e w' => e = .returned (.int .i64 (blen (val32 ws) : Int)) ∧ w = w' := by
  by_cases hz : val32 ws = 0
  · have hu : Hid (wlen (val32 ws) = 0) := by show _ = _; rw [hz]; rfl
    have hb : Hid (blen (val32 ws) = 0) := by show _ = _; rw [hz]; rfl
    go_enter Try.func71, Try.ntmps71
    go_wp2_with fail
    refine (used_any h).mono ?_
    rintro e w1 ⟨rfl, rfl⟩
    rw [hu.out]
    go_wp2
    go_ret
    exact ⟨ret_int (by rw [hb.out]; rfl), rfl⟩
  · have hex : ∃ j top, j < len ∧ ws.getD j 0 = ((top : Nat) : Int) ∧ top ≠ 0 ∧ top < 4294967296 ∧ wlen (val32 ws) = j + 1 ∧ blen (val32 ws) = 4 * j + (Lib.bitLen top + 7) / 8 := by
      have key : ∀ k, k ≤ ws.length → val32 ws = val32 (ws.take k) → ∃ j top, j < len ∧ ws.getD j 0 = ((top : Nat) : Int) ∧ top ≠ 0 ∧ top < 4294967296 ∧ wlen (val32 ws) = j + 1 ∧ blen (val32 ws) = 4 * j + (Lib.bitLen top + 7) / 8 := by
        intro k
        induction k with
        | zero => intro _ he; simp [val32] at he; exact absurd he hz
        | succ j ih =>
          intro hk he
          obtain ⟨c, hc32, hcx⟩ := wordAt ws h.word j (by omega)
          have ht := take_top ws j (by omega)
          rw [hcx, Int.toNat_natCast] at ht
          by_cases hc0 : c = 0
          · exact ih (by omega) (by rw [he, ht, hc0]; simp)
          · have hlow := val32_lt (ws.take j) (fun x hx => h.word x (List.mem_of_mem_take hx))
            rw [List.length_take, Nat.min_eq_left (by omega)] at hlow
            exact ⟨j, c, by have := h.size; omega, hcx, hc0, hc32, wlen_of ws h.word j (by omega) he (by rw [hcx]; omega), blen_top _ _ c j (by rw [he, ht]) hlow hc0 hc32⟩
      exact key ws.length (Nat.le_refl _) (by rw [List.take_length])
    obtain ⟨j, top, hj, hcx, ht0, htl, hw, hbl⟩ := hex
    have Hw : Hid (wlen (val32 ws) = j + 1) := hw
    have Hb : Hid (blen (val32 ws) = 4 * j + (Lib.bitLen top + 7) / 8) := hbl
    obtain ⟨b, off, rfl, hc⟩ := h.cells (by omega)
    have hck := hc j hj
    rw [hcx] at hck
    have hL := (bitLen_bd top htl ht0).2.2.2
    clear hw hbl hcx hc hz
    go_enter Try.func71, Try.ntmps71
    go_wp2_with fail
    refine (used_any h).mono ?_
    rintro e w1 ⟨rfl, rfl⟩
    rw [Hw.out]
    go_wp2_with fail
    refine (len32_any (top : Int) _ (by omega) (by omega)).mono ?_
    rintro e w1 ⟨rfl, rfl⟩
    rw [Int.toNat_natCast]
    go_wp2
    go_ret
    exact ⟨ret_int (by rw [Hb.out]; omega), rfl⟩

theorem byteCount_to {a : Option Addr} {len cap n : Nat} {ws : List Int} {w : World} (h : IsW w a len cap ws) (hl : len ≤ 1000) (hn : Hid (blen (val32 ws) = n)) :
    Calls Try.prog 71 #[.slice a len cap] w fun e w' => e = .returned (.int .i64 (n : Int)) ∧ w = w' := by
  refine (byteCount_any h hl).mono ?_
  rintro e w' ⟨rfl, rfl⟩
  exact ⟨by rw [hn.out], rfl⟩

theorem bytesN_front : ∀ (k n : Nat), bytesN (k + 1) n = ((n / 256 ^ k % 256 : Nat) : Int) :: bytesN k n
  | 0, n => by simp [bytesN]
  | k + 1, n => by
    rw [bytesN, bytesN_front k (n / 256), List.cons_append, Nat.div_div_eq_div_mul, Nat.mul_comm, ← Nat.pow_succ]
    rfl

/-- The bytes behind k rounds. -/
def packTo (n V k : Nat) : List Int := List.replicate (n - k) 0 ++ bytesN k V
theorem packTo_at (n V k : Nat) (h : k < n) : ((packTo n V k).map (Value.int .u8))[n - 1 - k]? = some (.int .u8 0) := by
  unfold packTo
  rw [List.getElem?_map, List.getElem?_append_left (by simp; omega), List.getElem?_replicate]
  simp; omega
theorem packTo_step (n V k : Nat) (h : k < n) : ((packTo n V k).map (Value.int .u8)).set (n - 1 - k) (.int .u8 ((V / 256 ^ k % 256 : Nat) : Int)) = (packTo n V (k + 1)).map (Value.int .u8) := by
  rw [← List.map_set]
  congr 1
  unfold packTo
  obtain ⟨m, hm⟩ : ∃ m, n - k = m + 1 := ⟨n - k - 1, by omega⟩
  rw [hm, show n - (k + 1) = m by omega, show n - 1 - k = m by omega, List.replicate_succ', List.append_assoc, List.set_append_right _ _ (by simp), bytesN_front]
  simp

theorem word_byte (V k : Nat) : V / 4294967296 ^ (k / 4) % 4294967296 / 2 ^ (8 * (k % 4)) % 256 = V / 256 ^ k % 256 := by
  have e1 : (4294967296 : Nat) ^ (k / 4) = 2 ^ (32 * (k / 4)) := by rw [Nat.pow_mul]
  have e2 : (256 : Nat) ^ k = 2 ^ (32 * (k / 4)) * 2 ^ (8 * (k % 4)) := by
    rw [← Nat.pow_add, show (256 : Nat) = 2 ^ 8 from rfl, ← Nat.pow_mul]
    congr 1; omega
  rw [e1, e2, ← Nat.div_div_eq_div_mul]
  generalize V / 2 ^ (32 * (k / 4)) = X
  have h4 : k % 4 < 4 := Nat.mod_lt _ (by decide)
  generalize k % 4 = r at h4
  match r, h4 with
  | 0, _ => simp
  | 1, _ => simp; omega
  | 2, _ => simp; omega
  | 3, _ => simp; omega

theorem IsW.below {w w' : World} {a : Option Addr} {len cap : Nat} {ws : List Int} (h : IsW w a len cap ws) (hb : Below w.heap.size w w') : IsW w' a len cap ws :=
  ⟨h.size, h.room, h.most, h.word, fun h0 => by
    obtain ⟨b, off, ha, hc⟩ := h.cells h0
    exact ⟨b, off, ha, fun i hi => (hb.cell (block_lt_of_cell (hc i hi))).trans (hc i hi)⟩⟩

theorem below_int0 (w : World) : Below w.heap.size w (w.alloc (.cells #[.bool false, .slice none 0 0] 87)) := (Below.refl _ _).alloc (Nat.le_refl _) _

theorem own_mono {w : World} {b b' e n m : Nat} {v : Value} {xs : List Value} (h : w.ownsRow b' e m v n xs) (hb : b ≤ b') : w.ownsRow b e m v n xs := by
  obtain ⟨h1, h2⟩ := h
  refine ⟨h1, ?_⟩
  rcases h2 with h2 | ⟨g, cap, cur, hv, hg, h3⟩
  · exact .inl h2
  · exact .inr ⟨g, cap, cur, hv, Nat.le_trans hb hg, h3⟩

set_option maxHeartbeats 2000000 in
theorem pack_zero {a : Option Addr} {len cap : Nat} {ws : List Int} {w : World} (neg : Bool) (h : IsW w a len cap ws) (hl : len ≤ 1000) (hz : val32 ws = 0) :
    Calls Try.prog 63 #[.bool neg, .slice a len cap] w fun e w' => e = .returned (.tuple #[.agg #[.bool false, .slice none 0 0], .int .i64 0]) ∧ Below w.heap.size w w' := by
  have hn : Hid (blen (val32 ws) = 0) := by show _ = _; rw [hz]; rfl
  have hb := below_int0 w
  have hI := h.below hb
  go_enter Try.func63, Try.ntmps63
  go_wp2_with fail
  refine (byteCount_to hI hl hn).mono ?_
  rintro e w1 ⟨rfl, rfl⟩
  go_wp2
  exact bodyPost_ret (v := .tuple #[.agg #[.bool false, .slice none 0 0], .int .i64 0]) (by simp [results, Try.results63, go_sem]) rfl ⟨rfl, hb⟩

set_option maxHeartbeats 2000000 in
theorem pack_large {a : Option Addr} {len cap : Nat} {ws : List Int} {w : World} (neg : Bool) (h : IsW w a len cap ws) (hl : len ≤ 1000) (hz : 128 < blen (val32 ws)) (hm : blen (val32 ws) ≤ 4000) :
    Calls Try.prog 63 #[.bool neg, .slice a len cap] w fun e w' => e = .returned (.tuple #[.agg #[.bool false, .slice none 0 0], .int .i64 24]) ∧ Below w.heap.size w w' := by
  obtain ⟨n, hn⟩ : ∃ n, Hid (blen (val32 ws) = n) := ⟨_, rfl⟩
  rw [hn.out] at hz hm
  have hb := below_int0 w
  have hI := h.below hb
  have h0 : ((n : Int) == 0) = false := by simp; omega
  have h1 : (128 : Int) < (n : Int) := by omega
  go_enter Try.func63, Try.ntmps63
  go_wp2_with fail
  refine (byteCount_to hI hl hn).mono ?_
  rintro e w1 ⟨rfl, rfl⟩
  go_wp2
  exact bodyPost_ret (v := .tuple #[.agg #[.bool false, .slice none 0 0], .int .i64 24]) (by simp [results, Try.results63, go_sem]) rfl ⟨rfl, hb⟩

set_option maxRecDepth 100000 in
set_option maxHeartbeats 4000000 in
theorem pack_ok {b off len cap : Nat} {ws : List Int} {w : World} (neg : Bool) (h : IsW w (some ⟨b, off, none⟩) len cap ws) (hl : len ≤ 1000) (hz : val32 ws ≠ 0) (hm : blen (val32 ws) ≤ 128) :
    Calls Try.prog 63 #[.bool neg, .slice (some ⟨b, off, none⟩) len cap] w fun e w' => ∃ g, e = .returned (.tuple #[.agg #[.bool neg, .slice (some ⟨g, 0, none⟩) (blen (val32 ws)) (blen (val32 ws))], .int .i64 0]) ∧
      w'.ownsRow w.heap.size 5 1 (.slice (some ⟨g, 0, none⟩) (blen (val32 ws)) (blen (val32 ws))) (blen (val32 ws)) ((mag (val32 ws)).map (Value.int .u8)) ∧ Below w.heap.size w w' := by
  obtain ⟨i0, hi, hz0, hz1, hz2⟩ := info_parts Try.info5
  have hpos := ((blen_spec (val32 ws)).2 hz).2
  have hV := (blen_spec (val32 ws)).1
  have hws : words len (val32 ws) = ws := by rw [← h.size]; exact words_val32 ws h.word
  have hVl : val32 ws < 4294967296 ^ len := by rw [← h.size]; exact val32_lt ws h.word
  have hblen : blen (val32 ws) ≤ 4 * len := (blen_le _ _).2 (by rw [Nat.pow_mul]; exact hVl)
  obtain ⟨n, hn⟩ : ∃ n, Hid (blen (val32 ws) = n) := ⟨_, rfl⟩
  obtain ⟨V, HV⟩ : ∃ V, Hid (val32 ws = V) := ⟨_, rfl⟩
  unfold mag
  rw [hn.out] at hm hpos hblen ⊢
  rw [HV.out] at hws ⊢
  have Hws : Hid (words len V = ws) := hws
  have hb := below_int0 w
  have hI := h.below hb
  have hbB : b < w.heap.size := by
    obtain ⟨b', off', ha, hc⟩ := h.cells (by omega)
    simp only [Option.some.injEq, Addr.mk.injEq, and_true] at ha
    obtain ⟨rfl, rfl⟩ := ha
    have := block_lt_of_cell (hc 0 (by omega))
    simpa using this
  have hcell : ∀ i, i < len → w.cell? ⟨b, off + i, none⟩ = some (.int .u32 ((V / 4294967296 ^ i % 4294967296 : Nat) : Int)) := by
    obtain ⟨b', off', ha, hc⟩ := h.cells (by omega)
    simp only [Option.some.injEq, Addr.mk.injEq, and_true] at ha
    obtain ⟨rfl, rfl⟩ := ha
    intro i hi'
    rw [hc i hi', List.getD_eq_getElem?_getD, ← Hws.out, words_get len V i hi']
    rfl
  have h0 : ((n : Int) == 0) = false := by simp; omega
  have h1 : ¬ (128 : Int) < (n : Int) := by omega
  clear hws hVl hV hz
  go_enter Try.func63, Try.ntmps63
  go_wp2_with fail
  refine (byteCount_to hI hl hn).mono ?_
  rintro e w1 ⟨rfl, rfl⟩
  go_wp2_with (at_make; refine wpList_make_full _ rfl _ _ 85 rfl (w.heap.size + 1) 5 i0 (.int .u8 0) 1 Try.underlying85 hi hz0 hz1 _ _ _ _ n rfl rfl rfl rfl (by rw [hz2]; omega) (by unfold maxLen; omega) (by simp) ?_)
  intro w2 hown hgrow
  have hbw2 : Below w.heap.size w w2 := hb.grown hgrow (by simp) (by simp)
  have hvar2 : w2.heap[w.heap.size]? = some (.cells #[.bool false, .slice none 0 0] 87 (0, 0)) := (hgrow.block w.heap.size (by simp) (by simp)).trans (heap_alloc_new w _)
  clear hgrow hI hb
  go_wp2
  go_loopw [20] (fun i wr => ∃ k : Nat, k ≤ n ∧ i = .int .i64 k ∧ wr.ownsRow (w.heap.size + 1) 5 1 (.slice (some ⟨w.heap.size + 1, 0, none⟩) n n) n ((packTo n V k).map (Value.int .u8)) ∧ wr.heap[w.heap.size]? = some (.cells #[.bool false, .slice none 0 0] 87 (0, 0)) ∧ Below w.heap.size w wr) (fun i _ => n - (intOf i).toNat)
  case atStart =>
    refine ⟨0, Nat.zero_le _, rfl, ?_, hvar2, hbw2⟩
    have e : (madeCells #[Value.int IntKind.u8 0] n).toList = (packTo n V 0).map (Value.int .u8) := by
      rw [toList_madeCells_one]; simp [packTo, bytesN]
    rw [← e]; exact hown
  case round =>
    obtain ⟨k, hk, rfl, hownk, hvar, hbel⟩ := hrel
    clear hown hvar2 hbw2
    by_cases hlt : k < n
    · have hf := hownk.frozenAt (n - 1 - k)
      have hc : wr.cell? ⟨w.heap.size + 1, n - 1 - k, none⟩ = some (.int .u8 0) := by
        rw [hownk.cellAt (n - 1 - k) (by omega), packTo_at n V k hlt]
      obtain ⟨q, hq⟩ : ∃ q, q = k / 4 := ⟨_, rfl⟩
      obtain ⟨r, hr⟩ : ∃ r, r = k % 4 := ⟨_, rfl⟩
      have hq1 : (k : Int) / 4 = (q : Int) := by omega
      have hr1 : (k : Int) % 4 = (r : Int) := by omega
      have hr4 : r < 4 := by omega
      have hql : q < len := by omega
      obtain ⟨c, hcv⟩ : ∃ c, V / 4294967296 ^ q % 4294967296 = c := ⟨_, rfl⟩
      have hc32 : c < 4294967296 := by rw [← hcv]; exact Nat.mod_lt _ (by decide)
      have hcw : wr.cell? ⟨b, off + q, none⟩ = some (.int .u32 (c : Int)) := by
        rw [← hcv]; exact (hbel.cell (p := ⟨b, off + q, none⟩) hbB).trans (hcell q hql)
      have Hbyte : Hid (c / 2 ^ (8 * r) % 256 = V / 256 ^ k % 256) := by
        show _ = _; rw [← hcv, hq, hr]; exact word_byte V k
      have i1 : (n : Int) - 1 - (k : Int) = ((n - 1 - k : Nat) : Int) := by omega
      clear hcell hq hr hcv
      go_wp2
      go_roundw
      case rel =>
        have hval : ((c : Int) / 2 ^ (8 * r) % 256) = ((V / 256 ^ k % 256 : Nat) : Int) := by
          rw [← Hbyte.out]; simp
        rw [hval]
        have hst := hownk.stored (n - 1 - k) (.int .u8 ((V / 256 ^ k % 256 : Nat) : Int))
        refine ⟨k + 1, by omega, by go_num, ?_, ?_, hbel.grown hst.2 hbel.size (by simp)⟩
        · rw [← packTo_step n V k hlt]
          exact hst.1
        · rw [heap_setCell_other _ _ _ _ (by simp)]
          exact hvar
      case measure => simp [intOf]; omega
    · obtain rfl : k = n := by omega
      have hc0 : wr.cell? ⟨w.heap.size, 0, none⟩ = some (.bool false) := by rw [cell_of_row wr _ 0 _ _ _ hvar]; rfl
      have hc1 : wr.cell? ⟨w.heap.size, 0 + 1, none⟩ = some (.slice none 0 0) := by rw [cell_of_row wr _ (0 + 1) _ _ _ hvar]; rfl
      have hf0 := frozen_of_row wr w.heap.size 0 _ _ hvar
      have hf1 := frozen_of_row wr w.heap.size (0 + 1) _ _ hvar
      clear hcell
      go_wp2
      have hO : ((wr.setCell ⟨w.heap.size, 0, none⟩ (.bool neg)).setCell ⟨w.heap.size, 1, none⟩ (.slice (some ⟨w.heap.size + 1, 0, none⟩) k k)).ownsRow w.heap.size 5 1 (.slice (some ⟨w.heap.size + 1, 0, none⟩) k k) k ((bytesN k V).map (Value.int .u8)) := by
        have e : packTo k V k = bytesN k V := by simp [packTo]
        rw [e] at hownk
        exact own_mono (ownsRow_setCell_below (ownsRow_setCell_below hownk (by simp) _) (by simp) _) (by omega)
      have hB2 : Below w.heap.size w ((wr.setCell ⟨w.heap.size, 0, none⟩ (.bool neg)).setCell ⟨w.heap.size, 1, none⟩ (.slice (some ⟨w.heap.size + 1, 0, none⟩) k k)) := (hbel.setCell (Nat.le_refl _) _).setCell (Nat.le_refl _) _
      exact bodyPost_ret (v := .tuple #[.agg #[.bool neg, .slice (some ⟨w.heap.size + 1, 0, none⟩) k k], .int .i64 0]) (by simp [results, Try.results63, go_sem, hc0, hc1]) rfl ⟨w.heap.size + 1, rfl, hO, hB2⟩
end Go.Proofs.Ytoghhjljmhdioaa
namespace Go.Proofs.Ytoghhjljmhdioaa

/-- The first k words of a, the others of b. -/
def mix (n a b k : Nat) : List Int := (words n a).take k ++ (words n b).drop k

theorem mix_len (n a b k : Nat) : (mix n a b k).length = n := by unfold mix; simp [words_len]; omega
theorem words_none (n a i : Nat) (h : n ≤ i) : (words n a)[i]? = none := List.getElem?_eq_none (by rw [words_len]; exact h)
theorem mix_get (n a b k i : Nat) (h : i < n) : (mix n a b k)[i]? = some (((if i < k then a else b) / 4294967296 ^ i % 4294967296 : Nat) : Int) := by
  unfold mix
  by_cases hk : i < k
  · rw [List.getElem?_append_left (by simp [words_len]; omega), List.getElem?_take, if_pos hk, if_pos hk, words_get n a i h]
  · rw [if_neg hk, List.getElem?_append_right (by simp [words_len]; omega), List.getElem?_drop, List.length_take, words_len]
    rw [show k + (i - min k n) = i by omega, words_get n b i h]
theorem mix_zero (n a b : Nat) : mix n a b 0 = words n b := by simp [mix]
theorem mix_full (n a b : Nat) : mix n a b n = words n a := by
  unfold mix
  rw [List.take_of_length_le (by rw [words_len]; exact Nat.le_refl _), List.drop_of_length_le (by rw [words_len]; exact Nat.le_refl _), List.append_nil]
theorem list_ext {n : Nat} {a b : List Int} (ha : a.length = n) (hb : b.length = n) (h : ∀ i, i < n → a[i]? = b[i]?) : a = b := by
  apply List.ext_getElem?
  intro i
  by_cases hi : i < n
  · exact h i hi
  · rw [List.getElem?_eq_none (by omega), List.getElem?_eq_none (by omega)]
theorem mix_up (n a b k : Nat) (h : k < n) : (mix n a b k).set k ((a / 4294967296 ^ k % 4294967296 : Nat) : Int) = mix n a b (k + 1) := by
  refine list_ext (n := n) (by rw [List.length_set, mix_len]) (mix_len _ _ _ _) fun i hi => ?_
  rw [List.getElem?_set, mix_get _ _ _ _ _ hi, mix_get _ _ _ _ _ hi, mix_len]
  by_cases h1 : k = i
  · subst h1; simp [h]
  · rw [if_neg h1]
    by_cases h2 : i < k
    · rw [if_pos h2, if_pos (by omega)]
    · rw [if_neg h2, if_neg (by omega)]
theorem mix_down (n a b k : Nat) (h : k < n) : (mix n a b (k + 1)).set k ((b / 4294967296 ^ k % 4294967296 : Nat) : Int) = mix n a b k := by
  refine list_ext (n := n) (by rw [List.length_set, mix_len]) (mix_len _ _ _ _) fun i hi => ?_
  rw [List.getElem?_set, mix_get _ _ _ _ _ hi, mix_get _ _ _ _ _ hi, mix_len]
  by_cases h1 : k = i
  · subst h1; simp [h]
  · rw [if_neg h1]
    by_cases h2 : i < k
    · rw [if_pos h2, if_pos (by omega)]
    · rw [if_neg h2, if_neg (by omega)]
theorem mix_lt (n a b k : Nat) : ∀ x ∈ mix n a b k, 0 ≤ x ∧ x < 4294967296 := by
  intro x hx
  unfold mix at hx
  rcases List.mem_append.1 hx with hx | hx
  · exact words_lt _ _ x (List.mem_of_mem_take hx)
  · exact words_lt _ _ x (List.mem_of_mem_drop hx)
theorem words_mod (n a : Nat) : words n (a % 4294967296 ^ n) = words n a := by
  refine list_ext (n := n) (words_len _ _) (words_len _ _) fun i hi => ?_
  rw [words_get _ _ _ hi, words_get _ _ _ hi]
  congr 2
  obtain ⟨m, rfl⟩ : ∃ m, n = i + 1 + m := ⟨n - (i + 1), by omega⟩
  rw [Nat.pow_add, Nat.pow_succ, Nat.mul_assoc, Nat.mod_mul_right_div_self, Nat.mod_mul_right_mod]
theorem words_take (n a k : Nat) (h : k ≤ n) : (words n a).take k = words k a := by
  refine list_ext (n := k) (by simp [words_len]; omega) (words_len _ _) fun i hi => ?_
  rw [List.getElem?_take, if_pos hi, words_get _ _ _ (by omega), words_get _ _ _ hi]
theorem words_app (n m a : Nat) : words (n + m) a = words n a ++ words m (a / 4294967296 ^ n) := by
  refine list_ext (n := n + m) (words_len _ _) (by simp [words_len]) fun i hi => ?_
  rw [words_get _ _ _ hi]
  by_cases h : i < n
  · rw [List.getElem?_append_left (by rw [words_len]; exact h), words_get _ _ _ h]
  · rw [List.getElem?_append_right (by rw [words_len]; omega), words_len, words_get _ _ _ (by omega), Nat.div_div_eq_div_mul, ← Nat.pow_add, show n + (i - n) = i by omega]
theorem words_zero : ∀ (n : Nat), words n 0 = List.replicate n 0
  | 0 => rfl
  | n + 1 => by unfold words; simp [words_zero n, List.replicate_succ]
/-- One word more. -/
theorem words_put (n V c q : Nat) (hq : q < n) (h : V / 4294967296 ^ q % 4294967296 + c < 4294967296) :
    (words n V).set q ((V / 4294967296 ^ q % 4294967296 + c : Nat) : Int) = words n (V + c * 4294967296 ^ q) := by
  refine list_ext (n := n) (by rw [List.length_set, words_len]) (words_len _ _) fun i hi => ?_
  rw [List.getElem?_set, words_get _ _ _ hi, words_get _ _ _ hi, words_len]
  have hp : 0 < 4294967296 ^ q := Nat.pow_pos (by decide)
  by_cases h1 : q = i
  · subst h1
    rw [if_pos rfl, if_pos hq, Nat.add_mul_div_right _ _ hp]
    congr 2
    omega
  · rw [if_neg h1]
    congr 2
    by_cases h2 : i < q
    · obtain ⟨m, rfl⟩ : ∃ m, q = i + 1 + m := ⟨q - (i + 1), by omega⟩
      have e : c * 4294967296 ^ (i + 1 + m) = (c * 4294967296 ^ m * 4294967296) * 4294967296 ^ i := by
        rw [Nat.pow_add, Nat.pow_succ]; simp only [Nat.mul_comm, Nat.mul_left_comm, Nat.mul_assoc]
      rw [e, Nat.add_mul_div_right _ _ (Nat.pow_pos (by decide)), Nat.add_mul_mod_self_right]
    · obtain ⟨m, rfl⟩ : ∃ m, i = q + 1 + m := ⟨i - (q + 1), by omega⟩
      have e : ∀ X : Nat, X / 4294967296 ^ (q + 1 + m) = X / 4294967296 ^ q / 4294967296 / 4294967296 ^ m := by
        intro X
        rw [Nat.div_div_eq_div_mul, Nat.div_div_eq_div_mul, Nat.pow_add, Nat.pow_succ, Nat.mul_assoc]
      rw [e, e, Nat.add_mul_div_right _ _ hp]
      congr 2
      omega

/-- What is carried out of the words below P. -/
theorem add_carry (P x y : Nat) (hP : 0 < P) : (x % (P * 4294967296) + y % (P * 4294967296)) / (P * 4294967296) = ((x % P + y % P) / P + (x / P % 4294967296 + y / P % 4294967296)) / 4294967296 := by
  rw [Nat.mod_mul, Nat.mod_mul, ← Nat.div_div_eq_div_mul]
  congr 1
  rw [show x % P + P * (x / P % 4294967296) + (y % P + P * (y / P % 4294967296)) = x % P + y % P + P * (x / P % 4294967296 + y / P % 4294967296) by rw [Nat.mul_add]; omega]
  rw [Nat.add_mul_div_left _ _ hP]
theorem add_word (P x y : Nat) (hP : 0 < P) : (x + y) / P % 4294967296 = ((x % P + y % P) / P + (x / P % 4294967296 + y / P % 4294967296)) % 4294967296 := by
  have e : (x + y) / P = (x % P + y % P) / P + (x / P + y / P) := by
    conv => lhs; rw [← Nat.mod_add_div x P, ← Nat.mod_add_div y P]
    rw [show x % P + P * (x / P) + (y % P + P * (y / P)) = x % P + y % P + P * (x / P + y / P) by rw [Nat.mul_add]; omega]
    rw [Nat.add_mul_div_left _ _ hP]
  rw [e]; omega
theorem carry_le (P x y : Nat) (hP : 0 < P) : (x % P + y % P) / P ≤ 1 := by
  have h1 := Nat.mod_lt x hP
  have h2 := Nat.mod_lt y hP
  have : (x % P + y % P) / P < 2 := Nat.div_lt_of_lt_mul (by omega)
  omega

/-- Times t, and p more. -/
theorem mul_carry (P x t p : Nat) (hP : 0 < P) : (x % (P * 4294967296) * t + p) / (P * 4294967296) = ((x % P * t + p) / P + x / P % 4294967296 * t) / 4294967296 := by
  rw [Nat.mod_mul, ← Nat.div_div_eq_div_mul]
  congr 1
  rw [show (x % P + P * (x / P % 4294967296)) * t + p = x % P * t + p + P * (x / P % 4294967296 * t) by rw [Nat.add_mul, Nat.mul_assoc]; omega]
  rw [Nat.add_mul_div_left _ _ hP]
theorem mul_word (P x t p : Nat) (hP : 0 < P) : (x * t + p) / P % 4294967296 = ((x % P * t + p) / P + x / P % 4294967296 * t) % 4294967296 := by
  have e : (x * t + p) / P = (x % P * t + p) / P + x / P * t := by
    conv => lhs; rw [← Nat.mod_add_div x P]
    rw [show (x % P + P * (x / P)) * t + p = x % P * t + p + P * (x / P * t) by rw [Nat.add_mul, Nat.mul_assoc]; omega]
    rw [Nat.add_mul_div_left _ _ hP]
  rw [e, Nat.add_mod, Nat.mul_mod (x / P), Nat.add_mod _ (x / P % 4294967296 * t), Nat.mul_mod (x / P % 4294967296) t, Nat.mod_mod]

/-- What is lent to the words below P. -/
def lend (P x y : Nat) : Nat := if x % P < y % P then 1 else 0
theorem sub_word (P x y : Nat) (hP : 0 < P) (h : y ≤ x) : (((x - y) / P % 4294967296 : Nat) : Int) = (((x / P % 4294967296 : Nat) : Int) - ((y / P % 4294967296 : Nat) : Int) - ((lend P x y : Nat) : Int)) % 4294967296 := by
  have h1 := Nat.mod_lt x hP
  have h2 := Nat.mod_lt y hP
  have e1 := Nat.mod_add_div x P
  have e2 := Nat.mod_add_div y P
  have hle : y / P ≤ x / P := Nat.div_le_div_right h
  have e : (x - y) / P = x / P - y / P - lend P x y := by
    unfold lend
    by_cases hl : x % P < y % P
    · rw [if_pos hl]
      have hlt : y / P < x / P := by
        rcases Nat.lt_or_ge (y / P) (x / P) with h' | h'
        · exact h'
        · have : x / P = y / P := by omega
          rw [this] at e1; omega
      obtain ⟨d, hd⟩ : ∃ d, x / P = y / P + d + 1 := ⟨x / P - y / P - 1, by omega⟩
      have : x - y = (P + x % P - y % P) + P * d := by
        rw [hd, Nat.mul_add, Nat.mul_add] at e1; omega
      rw [this, Nat.add_mul_div_left _ _ hP, Nat.div_eq_of_lt (by omega)]
      omega
    · rw [if_neg hl]
      obtain ⟨d, hd⟩ : ∃ d, x / P = y / P + d := ⟨x / P - y / P, by omega⟩
      have : x - y = (x % P - y % P) + P * d := by
        rw [hd, Nat.mul_add] at e1; omega
      rw [this, Nat.add_mul_div_left _ _ hP, Nat.div_eq_of_lt (by omega)]
      omega
  have hl1 : lend P x y + y / P ≤ x / P := by
    unfold lend
    split
    · rcases Nat.lt_or_ge (y / P) (x / P) with h' | h'
      · omega
      · have : x / P = y / P := by omega
        rw [this] at e1; omega
    · omega
  rw [e]; omega
theorem lend_step (P x y : Nat) (hP : 0 < P) : lend (P * 4294967296) x y = if (x / P % 4294967296) < (y / P % 4294967296) + lend P x y then 1 else 0 := by
  unfold lend
  rw [Nat.mod_mul, Nat.mod_mul]
  have h1 := Nat.mod_lt x hP
  have h2 := Nat.mod_lt y hP
  generalize x / P % 4294967296 = X
  generalize y / P % 4294967296 = Y
  generalize x % P = a at *
  generalize y % P = b at *
  rcases Nat.lt_trichotomy X Y with h | h | h
  · have : P * (X + 1) ≤ P * Y := Nat.mul_le_mul_left _ h
    rw [Nat.mul_add] at this
    rw [if_pos (by omega), if_pos (by omega)]
  · subst h
    by_cases hl : a < b
    · rw [if_pos (by omega), if_pos hl, if_pos (by omega)]
    · rw [if_neg (by omega), if_neg hl, if_neg (by omega)]
  · have : P * (Y + 1) ≤ P * X := Nat.mul_le_mul_left _ h
    rw [Nat.mul_add] at this
    rw [if_neg (by omega), if_neg (by split <;> omega)]
theorem lend_le (P x y : Nat) : lend P x y ≤ 1 := by unfold lend; split <;> omega

/-- One word of a quotient by one word. -/
theorem div_word (P V d : Nat) (hd : 0 < d) : V / d / P % 4294967296 = (V / (P * 4294967296) % d * 4294967296 + V / P % 4294967296) / d ∧ V / P % d = (V / (P * 4294967296) % d * 4294967296 + V / P % 4294967296) % d := by
  have e0 : V / (P * 4294967296) = V / P / 4294967296 := by rw [Nat.div_div_eq_div_mul]
  have e1 : V / d / P = V / P / d := by rw [Nat.div_div_eq_div_mul, Nat.div_div_eq_div_mul, Nat.mul_comm]
  rw [e0, e1]
  generalize V / P = X
  have hx := Nat.mod_add_div X 4294967296
  have hh := Nat.mod_add_div (X / 4294967296) d
  have hr := Nat.mod_lt (X / 4294967296) hd
  generalize X / 4294967296 % d = r at *
  generalize X / 4294967296 / d = q at *
  have hX : X = (r * 4294967296 + X % 4294967296) + d * (q * 4294967296) := by
    rw [← hh] at hx
    rw [Nat.mul_add] at hx
    have : 4294967296 * (d * q) = d * (q * 4294967296) := by rw [Nat.mul_comm, Nat.mul_assoc]
    omega
  have hlt : (r * 4294967296 + X % 4294967296) / d < 4294967296 := by
    refine Nat.div_lt_of_lt_mul ?_
    have h1 : (r + 1) * 4294967296 ≤ d * 4294967296 := Nat.mul_le_mul_right _ hr
    omega
  obtain ⟨Y, hY⟩ : ∃ Y, r * 4294967296 + X % 4294967296 = Y := ⟨_, rfl⟩
  rw [hY] at hX hlt ⊢
  refine ⟨?_, ?_⟩
  · rw [hX, Nat.add_mul_div_left _ _ hd, Nat.add_mul_mod_self_right, Nat.mod_eq_of_lt hlt]
  · rw [hX, Nat.add_mul_mod_self_left]
end Go.Proofs.Ytoghhjljmhdioaa
namespace Go.Proofs.Ytoghhjljmhdioaa
open Go.RowKit

/-- A list of words as cells. -/
def cellsW (xs : List Int) : Array Value := (xs.map (Value.int .u32)).toArray
/-- An array of words that lies in a variable. -/
def Arr (w : World) (b t : Nat) (xs : List Int) : Prop := w.heap[b]? = some (.cells (cellsW xs) t (0, 0))

theorem Arr.lt {w : World} {b t : Nat} {xs : List Int} (h : Arr w b t xs) : b < w.heap.size := lt_of_block h
theorem Arr.cell {w : World} {b t : Nat} {xs : List Int} (h : Arr w b t xs) (i : Nat) (hi : i < xs.length) : w.cell? ⟨b, i, none⟩ = some (.int .u32 (xs.getD i 0)) := by
  rw [cell_of_row w b i _ _ _ h]
  simp [cellsW, hi]
theorem Arr.frozen {w : World} {b t : Nat} {xs : List Int} (h : Arr w b t xs) (i : Nat) : w.frozen? ⟨b, i, none⟩ = false := frozen_of_row w b i _ _ h
theorem Arr.set {w : World} {b t : Nat} {xs : List Int} (h : Arr w b t xs) (i : Nat) (x : Int) : Arr (w.setCell ⟨b, i, none⟩ (.int .u32 x)) b t (xs.set i x) := by
  unfold Arr
  rw [heap_setCell_same w b i _ _ _ h]
  simp [cellsW, List.map_set]
theorem Arr.other {w : World} {b t : Nat} {xs : List Int} (h : Arr w b t xs) {b' i : Nat} {v : Value} (hn : b ≠ b') : Arr (w.setCell ⟨b', i, none⟩ v) b t xs := by
  unfold Arr
  rw [heap_setCell_other _ _ _ _ hn]
  exact h
theorem Arr.below {w w' : World} {b t B : Nat} {xs : List Int} (h : Arr w b t xs) (hb : Below B w w') (hB : b < B) : Arr w' b t xs := (hb.block b hB).trans h
theorem Arr.alloc {w : World} {b t : Nat} {xs : List Int} (h : Arr w b t xs) (o : Obj) : Arr (w.alloc o) b t xs := (Below.heap_alloc w o b h.lt).trans h
theorem Arr.isW {w : World} {b t n : Nat} {xs : List Int} (h : Arr w b t xs) (hn : xs.length = n) (hm : n ≤ 1000) (hx : ∀ x ∈ xs, 0 ≤ x ∧ x < 4294967296) : IsW w (some ⟨b, 0, none⟩) n n xs :=
  ⟨hn, Nat.le_refl _, by unfold maxLen; omega, hx, fun _ => ⟨b, 0, rfl, fun i hi => by rw [Nat.zero_add]; exact h.cell i (by omega)⟩⟩
theorem Arr.isWt {w : World} {b t n k : Nat} {xs : List Int} (h : Arr w b t xs) (hn : xs.length = n) (hk : k ≤ n) (hm : n ≤ 1000) (hx : ∀ x ∈ xs, 0 ≤ x ∧ x < 4294967296) : IsW w (some ⟨b, 0, none⟩) k n (xs.take k) :=
  ⟨by simp; omega, hk, by unfold maxLen; omega, fun x hm => hx x (List.mem_of_mem_take hm), fun _ => ⟨b, 0, rfl, fun i hi => by
    rw [Nat.zero_add, h.cell i (by omega)]
    simp [hi]⟩⟩
/-- A number as an array of n words. -/
def W (n V : Nat) : Value := .agg (cellsW (words n V))

theorem Arr.setW {w : World} {b t : Nat} {xs : List Int} (h : Arr w b t xs) (ys : List Int) : Arr (w.setRow b (cellsW ys)) b t ys := setRow_heap w b _ _ t _ h
theorem Arr.setW_self {w : World} {b t : Nat} {xs : List Int} (h : Arr w b t xs) : w.setRow b (cellsW xs) = w := setRow_self w b _ t _ h
theorem Arr.otherW {w : World} {b t b' : Nat} {xs : List Int} (h : Arr w b t xs) (C : Array Value) (hn : b ≠ b') : Arr (w.setRow b' C) b t xs := (setRow_other w b' b C hn).trans h
theorem Arr.setW_cell {w : World} {b t : Nat} {xs : List Int} (h : Arr w b t xs) (ys : List Int) (i : Nat) (v : Int) : (w.setRow b (cellsW ys)).setCell ⟨b, i, none⟩ (.int .u32 v) = w.setRow b (cellsW (ys.set i v)) := by
  rw [setCell_eq_setRow _ b i _ t (0, 0) _ (h.setW ys), setRow_setRow]
  simp [cellsW, List.map_set]
theorem cellsW_size (xs : List Int) : (cellsW xs).size = xs.length := by simp [cellsW]
theorem cellsW_one (xs : List Int) : (cellsW xs).all (·.oneCell') = true := by
  simp [cellsW, Value.oneCell']
theorem app_getD (a r : List Int) (i : Nat) (h : i < a.length) : (a ++ r).getD i 0 = a.getD i 0 := by
  simp [List.getD, List.getElem?_append_left h]
theorem mix_getD (n a b k i : Nat) (h : i < n) : (mix n a b k).getD i 0 = (((if i < k then a else b) / 4294967296 ^ i % 4294967296 : Nat) : Int) := by
  rw [List.getD_eq_getElem?_getD, mix_get _ _ _ _ _ h]; rfl
theorem app_set (a r : List Int) (i : Nat) (v : Int) (h : i < a.length) : (a ++ r).set i v = a.set i v ++ r := by
  rw [List.set_append_left _ _ h]
end Go.Proofs.Ytoghhjljmhdioaa
