/- Slices of bytes in memory, append of bytes, and the document's Lent, Kept and Spoil. -/
import Derived.Lib.BitFns
import Derived.Test.YtncfmhlikmibaaaGreatDoorRows
import Derived.WalkKit
import Derived.WalkSpells
import Derived.WalkLawsBesides
import Derived.Laws.Tables
import Derived.Laws.CopyOwn
import Derived.Laws.CopyRow
import Derived.Laws.AppendOwnNone
import Derived.Lib.AppendZeros
import Derived.Lib.LazyBuf
import Derived.Deep.QuietTactic
import Derived.BigQuiet
import Derived.Lib.SlBytesConst
import Derived.Lib.SlBytesRow
namespace Go.Proofs.YtncfmhlikmibaaaGreatDoor
open Go.RowKit
set_option maxRecDepth 100000
set_option maxHeartbeats 16000000
section

def Zaz : List Int → Nat
 | [] => 0
 | w :: r => w.toNat + 4294967296 * Zaz r
def words : Nat → Nat → List Int
 | 0, _ => []
 | k + 1, n => ((n % 4294967296 : Nat) : Int) :: words k (n / 4294967296)
def Zbv (bs : List Int) : Nat := bs.foldl (fun a b => a * 256 + b.toNat) 0
def Zb9 : Nat → Nat → List Int
 | 0, _ => []
 | k + 1, n => Zb9 k (n / 256) ++ [((n % 256 : Nat) : Int)]
def Zct (n : Nat) : Nat := if n = 0 then 0 else n.log2 / 8 + 1
def mag (n : Nat) : List Int := Zb9 (Zct n) n

theorem Zbf : ∀ (k n : Nat), (words k n).length = k
 | 0, _ => rfl
 | k + 1, n => by unfold words; rw [List.length_cons, Zbf k]
theorem Zj8 : ∀ (k n : Nat), ∀ x ∈ words k n, 0 ≤ x ∧ x < 4294967296
 | 0, _, x, h => by simp [words] at h
 | k + 1, n, x, h => by
  unfold words at h
  rcases List.mem_cons.1 h with rfl | h
  ·omega
  exact Zj8 k _ x h
theorem Zez : ∀ (k n i : Nat), i < k → (words k n)[i]? = some ((n / 4294967296 ^ i % 4294967296 : Nat) : Int)
 | 0, _, i, h => by omega
 | k + 1, n, 0, _ => by unfold words; simp
 | k + 1, n, i + 1, h => by
  unfold words
  rw [List.getElem?_cons_succ, Zez k (n / 4294967296) i (by omega), Nat.div_div_eq_div_mul, Nat.pow_succ, Nat.mul_comm]
theorem Zej : ∀ (k n : Nat), n < 4294967296 ^ k → Zaz (words k n) = n
 | 0, n, h => by simp at h; simp [words, Zaz, h]
 | k + 1, n, h => by
  unfold words Zaz
  rw [Zej k _ (by rw [Nat.pow_succ] at h; exact Nat.div_lt_of_lt_mul (by rw [Nat.mul_comm]; exact h))]
  omega
theorem Zgq : ∀ (ws : List Int), (∀ x ∈ ws, 0 ≤ x ∧ x < 4294967296) → words ws.length (Zaz ws) = ws
 | [], _ => rfl
 | w :: r, h => by
  have h0 := h w (by simp)
  have ih := Zgq r (fun x hx => h x (by simp [hx]))
  rw [List.length_cons]
  unfold words Zaz
  have e1 : (w.toNat + 4294967296 * Zaz r) % 4294967296 = w.toNat := by omega
  have e2 : (w.toNat + 4294967296 * Zaz r) / 4294967296 = Zaz r := by omega
  rw [e1, e2, ih]
  congr 1
  omega
theorem Ze1 : ∀ (ws : List Int), (∀ x ∈ ws, 0 ≤ x ∧ x < 4294967296) → Zaz ws < 4294967296 ^ ws.length
 | [], _ => by simp [Zaz]
 | w :: r, h => by
  have h0 := h w (by simp)
  have ih := Ze1 r (fun x hx => h x (by simp [hx]))
  unfold Zaz
  rw [List.length_cons, Nat.pow_succ]
  omega
theorem Zfl (w : Int) (r : List Int) : Zaz (w :: r) = w.toNat + 4294967296 * Zaz r := rfl
theorem Zf2 : ∀ (a b : List Int), Zaz (a ++ b) = Zaz a + 4294967296 ^ a.length * Zaz b
 | [], b => by simp [Zaz]
 | w :: r, b => by
  rw [List.cons_append, Zfl, Zfl, Zf2 r b, List.length_cons, Nat.pow_succ, Nat.mul_add, ← Nat.mul_assoc, Nat.mul_comm 4294967296 (4294967296 ^ r.length)]
  omega

theorem Zi8 : ∀ (k n : Nat), (Zb9 k n).length = k
 | 0, _ => rfl
 | k + 1, n => by unfold Zb9; simp [Zi8 k]
theorem Zls : ∀ (k n : Nat), ∀ x ∈ Zb9 k n, 0 ≤ x ∧ x < 256
 | 0, _, x, h => by simp [Zb9] at h
 | k + 1, n, x, h => by
  unfold Zb9 at h
  rcases List.mem_append.1 h with h | h
  ·exact Zls k _ x h
  simp at h; omega
theorem Zo5 (bs : List Int) (b : Int) : Zbv (bs ++ [b]) = Zbv bs * 256 + b.toNat := by unfold Zbv; rw [List.foldl_append]; rfl
theorem Zfh (n : Nat) : n < 256 ^ Zct n ∧ (n ≠ 0 → 256 ^ (Zct n - 1) ≤ n ∧ 1 ≤ Zct n) := by
 unfold Zct
 by_cases h : n = 0
 ·simp [h]
 rw [if_neg h]
 have h1 := Nat.lt_log2_self (n := n)
 have h2 := Nat.log2_self_le h
 have e : ∀ k, 256 ^ k = 2 ^ (8 * k) := fun k => by rw [Nat.pow_mul]
 refine ⟨?_, fun _ => ⟨?_, by omega⟩⟩
 ·rw [e]
  exact Nat.lt_of_lt_of_le h1 (Nat.pow_le_pow_right (by decide) (by omega))
 rw [e, Nat.add_sub_cancel]
 exact Nat.le_trans (Nat.pow_le_pow_right (by decide) (by omega)) h2
theorem Zhm (n k : Nat) (h1 : n < 256 ^ (k + 1)) (h2 : 256 ^ k ≤ n) : Zct n = k + 1 := by
 obtain ⟨a, b⟩ := Zfh n
 have hpos : 0 < 256 ^ k := Nat.pow_pos (by decide)
 obtain ⟨c, d⟩ := b (by omega)
 have e1 : Zct n ≤ k + 1 := by
  by_cases h : Zct n ≤ k + 1
  ·exact h
  have : 256 ^ (k + 1) ≤ 256 ^ (Zct n - 1) := Nat.pow_le_pow_right (by decide) (by omega)
  omega
 have e2 : k + 1 ≤ Zct n := by
  by_cases h : k + 1 ≤ Zct n
  ·exact h
  have : 256 ^ (Zct n) ≤ 256 ^ k := Nat.pow_le_pow_right (by decide) (by omega)
  omega
 omega
theorem Zrd (n k : Nat) : Zct n ≤ k ↔ n < 256 ^ k := by
 obtain ⟨a, b⟩ := Zfh n
 constructor
 ·intro h
  exact Nat.lt_of_lt_of_le a (Nat.pow_le_pow_right (by decide) h)
 intro h
 by_cases h0 : n = 0
 ·simp [Zct, h0]
 obtain ⟨c, d⟩ := b h0
 by_cases h' : Zct n ≤ k
 ·exact h'
 have : 256 ^ k ≤ 256 ^ (Zct n - 1) := Nat.pow_le_pow_right (by decide) (by omega)
 omega
theorem mag_len (n : Nat) : (mag n).length = Zct n := Zi8 _ _
theorem mag_lt (n : Nat) : ∀ x ∈ mag n, 0 ≤ x ∧ x < 256 := Zls _ _
theorem mag_zero : mag 0 = [] := rfl
theorem Zka : ∀ (bs : List Int) (a : Nat), bs.foldl (fun a b => a * 256 + b.toNat) a = a * 256 ^ bs.length + Zbv bs
 | [], a => by simp [Zbv]
 | b :: r, a => by
  rw [List.foldl_cons, Zka r]
  unfold Zbv
  rw [List.foldl_cons, Zka r (0 * 256 + b.toNat), List.length_cons, Nat.pow_succ, Nat.add_mul, Nat.add_mul, Nat.mul_assoc a, Nat.mul_comm 256]
  simp [Nat.add_assoc]
  rfl
theorem Zdq (b : Int) (r : List Int) : Zbv (b :: r) = b.toNat * 256 ^ r.length + Zbv r := by
 unfold Zbv; rw [List.foldl_cons, Zka r]
 simp
 rfl
theorem Zei : ∀ (bs : List Int), (∀ x ∈ bs, 0 ≤ x ∧ x < 256) → Zbv bs < 256 ^ bs.length
 | [], _ => by simp [Zbv]
 | b :: r, h => by
  have h0 := h b (by simp)
  have ih := Zei r (fun x hx => h x (by simp [hx]))
  rw [Zdq, List.length_cons, Nat.pow_succ]
  have : b.toNat * 256 ^ r.length ≤ 255 * 256 ^ r.length := Nat.mul_le_mul_right _ (by omega)
  omega

theorem Zby {k : IntKind} {a b : Int} (h : a = b) : Ending.returned (.int k a) = .returned (.int k b) := by rw [h]

structure IsW (w : World) (a : Option Addr) (len cap : Nat) (ws : List Int) : Prop where
 size : ws.length = len
 room : len ≤ cap
 most : cap ≤ maxLen
 word : ∀ x ∈ ws, 0 ≤ x ∧ x < 4294967296
 cells : 0 < len → ∃ b off, a = some ⟨b, off, none⟩ ∧ ∀ i, i < len → w.cell? ⟨b, off + i, none⟩ = some (.int .u32 (ws.getD i 0))

def Zo3 (n : Nat) : Nat := if n = 0 then 0 else n.log2 / 32 + 1
theorem Zl8 (n k : Nat) (h1 : n < 4294967296 ^ (k + 1)) (h2 : 4294967296 ^ k ≤ n) : Zo3 n = k + 1 := by
 have hpos : 0 < 4294967296 ^ k := Nat.pow_pos (by decide)
 have e : ∀ k, 4294967296 ^ k = 2 ^ (32 * k) := fun k => by rw [Nat.pow_mul]
 unfold Zo3
 rw [if_neg (by omega)]
 rw [e] at h1 h2
 have a := (Nat.log2_lt (show n ≠ 0 by rw [e] at hpos; omega)).2 h1
 have b : 32 * k ≤ n.log2 := (Nat.le_log2 (show n ≠ 0 by rw [e] at hpos; omega)).2 h2
 omega

theorem Zkb (ws : List Int) (k : Nat) (hk : k < ws.length) : Zaz (ws.take (k + 1)) = Zaz (ws.take k) + 4294967296 ^ k * (ws.getD k 0).toNat := by
 rw [List.take_succ_eq_append_getElem hk, Zf2, List.length_take, Nat.min_eq_left (by omega), Zfl]
 simp [Zaz, hk]

theorem Zo2 (ws : List Int) (hw : ∀ x ∈ ws, 0 ≤ x ∧ x < 4294967296) (k : Nat) (hk : k < ws.length) (hv : Zaz ws = Zaz (ws.take (k + 1))) (hne : ws.getD k 0 ≠ 0) : Zo3 (Zaz ws) = k + 1 := by
 have ht := Zkb ws k hk
 have hb : 0 ≤ ws.getD k 0 := by
  have := hw _ (List.getElem_mem hk)
  simp [hk]; omega
 have hlt := Ze1 (ws.take (k + 1)) (fun x hx => hw x (List.mem_of_mem_take hx))
 rw [List.length_take, Nat.min_eq_left (by omega), ← hv] at hlt
 refine Zl8 _ k hlt ?_
 rw [hv, ht]
 have : 4294967296 ^ k * 1 ≤ 4294967296 ^ k * (ws.getD k 0).toNat := Nat.mul_le_mul_left _ (by omega)
 omega

theorem wordAt (ws : List Int) (hb : ∀ x ∈ ws, 0 ≤ x ∧ x < 4294967296) (k : Nat) (hk : k < ws.length) : ∃ c : Nat, c < 4294967296 ∧ ws.getD k 0 = (c : Int) := by
 have h := hb ws[k] (List.getElem_mem hk)
 refine ⟨ws[k].toNat, by omega, ?_⟩
 simp [List.getD, hk]; omega

theorem Zo7 (b off len cap : Nat) (ws : List Int) (w : World) (hl : ws.length = len) (hm : len ≤ maxLen) (hw : ∀ x ∈ ws, 0 ≤ x ∧ x < 4294967296)
  (hc : ∀ i, i < len → w.cell? ⟨b, off + i, none⟩ = some (.int .u32 (ws.getD i 0))) :
  Calls Tryz.prog 144 #[.slice (some ⟨b, off, none⟩) len cap] w fun e w' => e = .returned (.int .i64 (Zo3 (Zaz ws) : Int)) ∧ w = w' := by
 unfold maxLen at hm
 go_enter Tryz.func144, Tryz.ntmps144
 go_wp2
 go_loop [3] (fun n => ∃ k : Nat, k ≤ len ∧ n = .int .i64 k ∧ Hid (Zaz ws = Zaz (ws.take k))) (fun n => (intOf n).toNat)
 case atStart => exact ⟨len, Nat.le_refl _, rfl, by show _ = _; rw [List.take_of_length_le (by omega)]⟩
 obtain ⟨k, hk, rfl, hv⟩ := hrel
 by_cases hz : k = 0
 ·have hres : Hid (Zo3 (Zaz ws) = 0) := by show _ = _; rw [hv.out, hz]; rfl
  subst hz
  go_wp2
  go_ret
  exact ⟨Zby (by rw [hres.out]; rfl), rfl⟩
 obtain ⟨j, rfl⟩ : ∃ j, k = j + 1 := ⟨k - 1, by omega⟩
 obtain ⟨c, hc32, hcx⟩ := wordAt ws hw j (by omega)
 have hck := hc j (by omega)
 rw [hcx] at hck
 have ht : Hid (Zaz (ws.take (j + 1)) = Zaz (ws.take j) + 4294967296 ^ j * (ws.getD j 0).toNat) := Zkb ws j (by omega)
 by_cases hcz : c = 0
 ·have hcz' : ((c : Int) == 0) = true := by simp; omega
  have hnx : Hid (Zaz ws = Zaz (ws.take j)) := by show _ = _; rw [hv.out, ht.out, hcx, hcz]; simp
  clear hc hcx ht
  go_wp2
  go_round
  case rel => exact ⟨j, by omega, by go_num, hnx⟩
  case measure => simp [intOf]
 have hcz' : ((c : Int) == 0) = false := by simp; omega
 have hres : Hid (Zo3 (Zaz ws) = j + 1) := Zo2 ws hw j (by omega) hv.out (by rw [hcx]; omega)
 clear hc hcx ht
 go_wp2
 go_ret
 exact ⟨Zby (by rw [hres.out]; simp), rfl⟩
variable {a : Option Addr} {b cap len n t : Nat} {w : World} {ws xs : List Int}
theorem Zmw (h : IsW w a len cap ws) :
  Calls Tryz.prog 144 #[.slice a len cap] w fun e w' => e = .returned (.int .i64 (Zo3 (Zaz ws) : Int)) ∧ w = w' := by
 by_cases h0 : 0 < len
 ·obtain ⟨b, off, rfl, hc⟩ := h.cells h0
  exact Zo7 b off len cap ws w h.size (Nat.le_trans h.room h.most) h.word hc
 obtain rfl : len = 0 := by omega
 obtain rfl : ws = [] := List.eq_nil_of_length_eq_zero h.size
 go_enter Tryz.func144, Tryz.ntmps144
 go_wp2
 refine wp_loop_rounds 1 ?_
 rw [rounds_succ]
 go_wp2
 go_ret
 exact ⟨Zby rfl, rfl⟩

theorem tab_get (y : Nat) (h : y < Lib.len8tab.size) : ((Lib.len8tab[y]'h).toNat : Int) = (Lib.bitLen y : Int) := by
 have hs := Lib.len8tab_size
 have e := Lib.len8_eq ⟨y, by omega⟩
 rw [← e]
 unfold Lib.len8
 simp [h]
theorem Ze9 (x y : Int) (k : Nat) (hx0 : 0 ≤ x) (hx1 : x ≤ 18446744073709551615) (hy0 : 0 ≤ y) (hy : y < 256) (hk : k ≤ 56)
  (he : y.toNat = x.toNat / 2 ^ k) (hs : k = 0 ∨ 2 ^ k ≤ x.toNat) (h : y.toNat < Lib.len8tab.size) :
  wrap64 ((k : Int) + wrap64 ((Lib.len8tab[y.toNat]'h).toNat : Int)) = (Lib.bitLen x.toNat : Int) := by
 rw [tab_get]
 have l := Lib.bitLen_le8 ⟨y.toNat, by omega⟩
 simp only at l
 have e : Lib.bitLen x.toNat = k + Lib.bitLen y.toNat := by
  rw [he]
  rcases hs with rfl | hs
  ·simp
  exact Lib.bitLen_shift k x.toNat hs (by omega)
 rw [e]
 have w1 : wrap64 (Lib.bitLen y.toNat : Int) = (Lib.bitLen y.toNat : Int) := by unfold wrap64; omega
 rw [w1]
 unfold wrap64; omega
set_option maxRecDepth 100000 in
theorem Zqi (x : Int) (w : World) (h0 : 0 ≤ x) (h1 : x ≤ 4294967295) :
  Calls Tryz.prog 145 #[.int .u32 x] w fun e w' => e = .returned (.int .i64 (Lib.bitLen x.toNat)) ∧ w = w' := by
 have hsz : Lib.len8tab.size = 256 := Lib.len8tab_size
 go_enter Tryz.func145, Tryz.ntmps145
 go_wp2
 all_goals (go_ret; refine ⟨congrArg Ending.returned (congrArg (Value.int IntKind.i64) ?_), rfl⟩)
 ·exact Ze9 x _ 24 h0 (by omega) (by omega) (by omega) (by omega) (by omega) (by omega) _
 ·exact Ze9 x _ 16 h0 (by omega) (by omega) (by omega) (by omega) (by omega) (by omega) _
 ·exact Ze9 x _ 8 h0 (by omega) (by omega) (by omega) (by omega) (by omega) (by omega) _
 have := Ze9 x x 0 h0 (by omega) (by omega) (by omega) (by omega) (by simp) (by omega) (by omega)
 simpa using this

theorem Tryz.info5 : (Tryz.prog.info? 5).map (fun i => (i.zero, i.size, i.bytes)) = some (some (.int .u8 0), 1, 1) := by kernel_rfl

theorem Zef : ∀ (f x : Nat), x < 2 ^ f → x < 2 ^ Lib.bitLenAux f x ∧ (x ≠ 0 → 2 ^ (Lib.bitLenAux f x - 1) ≤ x)
 | 0, x, h => by simp [Lib.bitLenAux] at *; omega
 | f + 1, x, h => by
  have ih := Zef f (x / 2) (by rw [Nat.pow_succ] at h; omega)
  unfold Lib.bitLenAux
  by_cases h0 : x = 0
  ·simp [h0]
  rw [if_neg h0]
  refine ⟨?_, fun _ => ?_⟩
  ·rw [Nat.add_comm, Nat.pow_succ]; omega
  rw [Nat.add_comm, Nat.add_sub_cancel]
  by_cases h1 : x / 2 = 0
  ·have : Lib.bitLenAux f (x / 2) = 0 := by rw [h1]; cases f <;> simp [Lib.bitLenAux]
   rw [this]; simp; omega
  have i2 := ih.2 h1
  have hp : 1 ≤ Lib.bitLenAux f (x / 2) := by
   cases f with
   | zero => simp at h; omega
   | succ f => unfold Lib.bitLenAux; rw [if_neg h1]; omega
  obtain ⟨m, hm⟩ : ∃ m, Lib.bitLenAux f (x / 2) = m + 1 := ⟨Lib.bitLenAux f (x / 2) - 1, by omega⟩
  rw [hm] at i2 ⊢
  rw [Nat.add_sub_cancel] at i2
  rw [Nat.pow_succ]; omega
theorem Zlt (x : Nat) (h : x < 4294967296) (h0 : x ≠ 0) : x < 2 ^ Lib.bitLen x ∧ 2 ^ (Lib.bitLen x - 1) ≤ x ∧ 1 ≤ Lib.bitLen x ∧ Lib.bitLen x ≤ 32 := by
 have s := Zef 64 x (Nat.lt_of_lt_of_le h (by decide))
 have s2 := s.2 h0
 have hp : 1 ≤ Lib.bitLen x := by unfold Lib.bitLen Lib.bitLenAux; rw [if_neg h0]; omega
 refine ⟨s.1, s2, hp, ?_⟩
 by_cases hh : Lib.bitLen x ≤ 32
 ·exact hh
 have : 2 ^ 32 ≤ 2 ^ (Lib.bitLen x - 1) := Nat.pow_le_pow_right (by decide) (by omega)
 have s3 : 2 ^ (Lib.bitLen x - 1) ≤ x := s2
 omega

theorem blen_top (V low top j : Nat) (hV : V = low + 4294967296 ^ j * top) (hlow : low < 4294967296 ^ j) (ht0 : top ≠ 0) (ht : top < 4294967296) : Zct V = 4 * j + (Lib.bitLen top + 7) / 8 := by
 obtain ⟨b1, b2, b3, b4⟩ := Zlt top ht ht0
 obtain ⟨L, hL⟩ : ∃ L, Lib.bitLen top = L + 1 := ⟨Lib.bitLen top - 1, by omega⟩
 rw [hL] at b1 b2 b4 ⊢
 rw [Nat.add_sub_cancel] at b2
 have e : (4294967296 : Nat) ^ j = 2 ^ (32 * j) := by rw [Nat.pow_mul]
 have hlo : 2 ^ (32 * j) * 2 ^ L ≤ V := by
  rw [hV, e]
  have : 2 ^ (32 * j) * 2 ^ L ≤ 2 ^ (32 * j) * top := Nat.mul_le_mul_left _ b2
  omega
 have hhi : V < 2 ^ (32 * j) * 2 ^ (L + 1) := by
  rw [hV, e]
  rw [e] at hlow
  have : 2 ^ (32 * j) * (top + 1) ≤ 2 ^ (32 * j) * 2 ^ (L + 1) := Nat.mul_le_mul_left _ b1
  rw [Nat.mul_add] at this
  omega
 rw [← Nat.pow_add] at hlo hhi
 have e2 : ∀ k, 256 ^ k = 2 ^ (8 * k) := fun k => by rw [Nat.pow_mul]
 have := Zhm V (4 * j + (L + 1 + 7) / 8 - 1) (by
  rw [e2]
  exact Nat.lt_of_lt_of_le hhi (Nat.pow_le_pow_right (by decide) (by omega))) (by
  rw [e2]
  exact Nat.le_trans (Nat.pow_le_pow_right (by decide) (by omega)) hlo)
 omega

theorem Zks (h : IsW w a len cap ws) (hl : len ≤ 1000) :
  Calls Tryz.prog 132 #[.slice a len cap] w fun e w' => e = .returned (.int .i64 (Zct (Zaz ws) : Int)) ∧ w = w' := by
 by_cases hz : Zaz ws = 0
 ·have hu : Hid (Zo3 (Zaz ws) = 0) := by show _ = _; rw [hz]; rfl
  have hb : Hid (Zct (Zaz ws) = 0) := by show _ = _; rw [hz]; rfl
  go_enter Tryz.func132, Tryz.ntmps132
  go_wp2_with fail
  refine (Zmw h).mono ?_
  rintro e w1 ⟨rfl, rfl⟩
  rw [hu.out]
  go_wp2
  go_ret
  exact ⟨Zby (by rw [hb.out]; rfl), rfl⟩
 have hex : ∃ j top, j < len ∧ ws.getD j 0 = ((top : Nat) : Int) ∧ top ≠ 0 ∧ top < 4294967296 ∧ Zo3 (Zaz ws) = j + 1 ∧ Zct (Zaz ws) = 4 * j + (Lib.bitLen top + 7) / 8 := by
  have key : ∀ k, k ≤ ws.length → Zaz ws = Zaz (ws.take k) → ∃ j top, j < len ∧ ws.getD j 0 = ((top : Nat) : Int) ∧ top ≠ 0 ∧ top < 4294967296 ∧ Zo3 (Zaz ws) = j + 1 ∧ Zct (Zaz ws) = 4 * j + (Lib.bitLen top + 7) / 8 := by
   intro k
   induction k with
   | zero => intro _ he; simp [Zaz] at he; exact absurd he hz
   | succ j ih =>
    intro hk he
    obtain ⟨c, hc32, hcx⟩ := wordAt ws h.word j (by omega)
    have ht := Zkb ws j (by omega)
    rw [hcx, Int.toNat_natCast] at ht
    by_cases hc0 : c = 0
    ·exact ih (by omega) (by rw [he, ht, hc0]; simp)
    have hlow := Ze1 (ws.take j) (fun x hx => h.word x (List.mem_of_mem_take hx))
    rw [List.length_take, Nat.min_eq_left (by omega)] at hlow
    exact ⟨j, c, by have := h.size; omega, hcx, hc0, hc32, Zo2 ws h.word j (by omega) he (by rw [hcx]; omega), blen_top _ _ c j (by rw [he, ht]) hlow hc0 hc32⟩
  exact key ws.length (Nat.le_refl _) (by rw [List.take_length])
 obtain ⟨j, top, hj, hcx, ht0, htl, hw, hbl⟩ := hex
 have Hw : Hid (Zo3 (Zaz ws) = j + 1) := hw
 have Hb : Hid (Zct (Zaz ws) = 4 * j + (Lib.bitLen top + 7) / 8) := hbl
 obtain ⟨b, off, rfl, hc⟩ := h.cells (by omega)
 have hck := hc j hj
 rw [hcx] at hck
 have hL := (Zlt top htl ht0).2.2.2
 clear hw hbl hcx hc hz
 go_enter Tryz.func132, Tryz.ntmps132
 go_wp2_with fail
 refine (Zmw h).mono ?_
 rintro e w1 ⟨rfl, rfl⟩
 rw [Hw.out]
 go_wp2_with fail
 refine (Zqi (top : Int) _ (by omega) (by omega)).mono ?_
 rintro e w1 ⟨rfl, rfl⟩
 rw [Int.toNat_natCast]
 go_wp2
 go_ret
 exact ⟨Zby (by rw [Hb.out]; omega), rfl⟩

theorem Zdx (h : IsW w a len cap ws) (hl : len ≤ 1000) (hn : Hid (Zct (Zaz ws) = n)) :
  Calls Tryz.prog 132 #[.slice a len cap] w fun e w' => e = .returned (.int .i64 (n : Int)) ∧ w = w' := by
 refine (Zks h hl).mono ?_
 rintro e w' ⟨rfl, rfl⟩
 exact ⟨by rw [hn.out], rfl⟩

theorem Zc5 : ∀ (k n : Nat), Zb9 (k + 1) n = ((n / 256 ^ k % 256 : Nat) : Int) :: Zb9 k n
 | 0, n => by simp [Zb9]
 | k + 1, n => by
  rw [Zb9, Zc5 k (n / 256), List.cons_append, Nat.div_div_eq_div_mul, Nat.mul_comm, ← Nat.pow_succ]
  rfl

def Zed (n V k : Nat) : List Int := List.replicate (n - k) 0 ++ Zb9 k V
theorem Zp4 (n V k : Nat) (h : k < n) : ((Zed n V k).map (Value.int .u8))[n - 1 - k]? = some (.int .u8 0) := by
 unfold Zed
 rw [List.getElem?_map, List.getElem?_append_left (by simp; omega), List.getElem?_replicate]
 simp; omega
theorem Zme (n V k : Nat) (h : k < n) : ((Zed n V k).map (Value.int .u8)).set (n - 1 - k) (.int .u8 ((V / 256 ^ k % 256 : Nat) : Int)) = (Zed n V (k + 1)).map (Value.int .u8) := by
 rw [← List.map_set]
 congr 1
 unfold Zed
 obtain ⟨m, hm⟩ : ∃ m, n - k = m + 1 := ⟨n - k - 1, by omega⟩
 rw [hm, show n - (k + 1) = m by omega, show n - 1 - k = m by omega, List.replicate_succ', List.append_assoc, List.set_append_right _ _ (by simp), Zc5]
 simp

theorem Zo1 (V k : Nat) : V / 4294967296 ^ (k / 4) % 4294967296 / 2 ^ (8 * (k % 4)) % 256 = V / 256 ^ k % 256 := by
 have e1 : (4294967296 : Nat) ^ (k / 4) = 2 ^ (32 * (k / 4)) := by rw [Nat.pow_mul]
 have e2 : (256 : Nat) ^ k = 2 ^ (32 * (k / 4)) * 2 ^ (8 * (k % 4)) := by
  rw [← Nat.pow_add, show (256 : Nat) = 2 ^ 8 from rfl, ← Nat.pow_mul]
  congr 1; omega
 rw [e1, e2, ← Nat.div_div_eq_div_mul]
 generalize V / 2 ^ (32 * (k / 4)) = X
 have h4 : k % 4 < 4 := Nat.mod_lt _ (by decide)
 generalize k % 4 = r at h4
 match r, h4 with
 | 0, _ => simp
 | 1, _ => simp; omega
 | 2, _ => simp; omega
 | 3, _ => simp; omega

theorem IsW.below {w' : World} (h : IsW w a len cap ws) (hb : Below w.heap.size w w') : IsW w' a len cap ws :=
 ⟨h.size, h.room, h.most, h.word, fun h0 => by
  obtain ⟨b, off, ha, hc⟩ := h.cells h0
  exact ⟨b, off, ha, fun i hi => (hb.cell (block_lt_of_cell (hc i hi))).trans (hc i hi)⟩⟩

theorem Zfx (w : World) : Below w.heap.size w (w.alloc (.cells #[.bool false, .slice none 0 0] 115)) := (Below.refl _ _).alloc (Nat.le_refl _) _

theorem Zm4 {b' e m : Nat} {v : Value} {xs : List Value} (h : w.ownsRow b' e m v n xs) (hb : b ≤ b') : w.ownsRow b e m v n xs := by
 obtain ⟨h1, h2⟩ := h
 refine ⟨h1, ?_⟩
 rcases h2 with h2 | ⟨g, cap, cur, hv, hg, h3⟩
 ·exact .inl h2
 exact .inr ⟨g, cap, cur, hv, Nat.le_trans hb hg, h3⟩

theorem Zp3 (neg : Bool) (h : IsW w a len cap ws) (hl : len ≤ 1000) (hz : Zaz ws = 0) :
  Calls Tryz.prog 114 #[.bool neg, .slice a len cap] w fun e w' => e = .returned (.tuple #[.agg #[.bool false, .slice none 0 0], .int .i64 0]) ∧ Below w.heap.size w w' := by
 have hn : Hid (Zct (Zaz ws) = 0) := by show _ = _; rw [hz]; rfl
 have hb := Zfx w
 have hI := h.below hb
 go_enter Tryz.func114, Tryz.ntmps114
 go_wp2_with fail
 refine (Zdx hI hl hn).mono ?_
 rintro e w1 ⟨rfl, rfl⟩
 go_wp2
 exact bodyPost_ret (v := .tuple #[.agg #[.bool false, .slice none 0 0], .int .i64 0]) (by simp [results, Tryz.results114, go_sem]) rfl ⟨rfl, hb⟩

theorem Zny (neg : Bool) (h : IsW w a len cap ws) (hl : len ≤ 1000) (hz : 128 < Zct (Zaz ws)) (hm : Zct (Zaz ws) ≤ 4000) :
  Calls Tryz.prog 114 #[.bool neg, .slice a len cap] w fun e w' => e = .returned (.tuple #[.agg #[.bool false, .slice none 0 0], .int .i64 24]) ∧ Below w.heap.size w w' := by
 obtain ⟨n, hn⟩ : ∃ n, Hid (Zct (Zaz ws) = n) := ⟨_, rfl⟩
 rw [hn.out] at hz hm
 have hb := Zfx w
 have hI := h.below hb
 have h0 : ((n : Int) == 0) = false := by simp; omega
 have h1 : (128 : Int) < (n : Int) := by omega
 go_enter Tryz.func114, Tryz.ntmps114
 go_wp2_with fail
 refine (Zdx hI hl hn).mono ?_
 rintro e w1 ⟨rfl, rfl⟩
 go_wp2
 exact bodyPost_ret (v := .tuple #[.agg #[.bool false, .slice none 0 0], .int .i64 24]) (by simp [results, Tryz.results114, go_sem]) rfl ⟨rfl, hb⟩

set_option maxRecDepth 100000 in
theorem pack_ok {off : Nat} (neg : Bool) (h : IsW w (some ⟨b, off, none⟩) len cap ws) (hl : len ≤ 1000) (hz : Zaz ws ≠ 0) (hm : Zct (Zaz ws) ≤ 128) :
  Calls Tryz.prog 114 #[.bool neg, .slice (some ⟨b, off, none⟩) len cap] w fun e w' => ∃ g, e = .returned (.tuple #[.agg #[.bool neg, .slice (some ⟨g, 0, none⟩) (Zct (Zaz ws)) (Zct (Zaz ws))], .int .i64 0]) ∧
   w'.ownsRow w.heap.size 5 1 (.slice (some ⟨g, 0, none⟩) (Zct (Zaz ws)) (Zct (Zaz ws))) (Zct (Zaz ws)) ((mag (Zaz ws)).map (Value.int .u8)) ∧ Below w.heap.size w w' := by
 obtain ⟨i0, hi, hz0, hz1, hz2⟩ := info_parts Tryz.info5
 have hpos := ((Zfh (Zaz ws)).2 hz).2
 have hV := (Zfh (Zaz ws)).1
 have hws : words len (Zaz ws) = ws := by rw [← h.size]; exact Zgq ws h.word
 have hVl : Zaz ws < 4294967296 ^ len := by rw [← h.size]; exact Ze1 ws h.word
 have hblen : Zct (Zaz ws) ≤ 4 * len := (Zrd _ _).2 (by rw [Nat.pow_mul]; exact hVl)
 obtain ⟨n, hn⟩ : ∃ n, Hid (Zct (Zaz ws) = n) := ⟨_, rfl⟩
 obtain ⟨V, HV⟩ : ∃ V, Hid (Zaz ws = V) := ⟨_, rfl⟩
 unfold mag
 rw [hn.out] at hm hpos hblen ⊢
 rw [HV.out] at hws ⊢
 have Hws : Hid (words len V = ws) := hws
 have hb := Zfx w
 have hI := h.below hb
 have hbB : b < w.heap.size := by
  obtain ⟨b', off', ha, hc⟩ := h.cells (by omega)
  simp only [Option.some.injEq, Addr.mk.injEq, and_true] at ha
  obtain ⟨rfl, rfl⟩ := ha
  have := block_lt_of_cell (hc 0 (by omega))
  simpa using this
 have hcell : ∀ i, i < len → w.cell? ⟨b, off + i, none⟩ = some (.int .u32 ((V / 4294967296 ^ i % 4294967296 : Nat) : Int)) := by
  obtain ⟨b', off', ha, hc⟩ := h.cells (by omega)
  simp only [Option.some.injEq, Addr.mk.injEq, and_true] at ha
  obtain ⟨rfl, rfl⟩ := ha
  intro i hi'
  rw [hc i hi', List.getD_eq_getElem?_getD, ← Hws.out, Zez len V i hi']
  rfl
 have h0 : ((n : Int) == 0) = false := by simp; omega
 have h1 : ¬ (128 : Int) < (n : Int) := by omega
 clear hws hVl hV hz
 go_enter Tryz.func114, Tryz.ntmps114
 go_wp2_with fail
 refine (Zdx hI hl hn).mono ?_
 rintro e w1 ⟨rfl, rfl⟩
 go_wp2_with (at_make; refine wpList_make_full _ rfl _ _ 66 rfl (w.heap.size + 1) 5 i0 (.int .u8 0) 1 Tryz.underlying66 hi hz0 hz1 _ _ _ _ n rfl rfl rfl rfl (by rw [hz2]; omega) (by unfold maxLen; omega) (by simp) ?_)
 intro w2 hown hgrow
 have hbw2 : Below w.heap.size w w2 := hb.grown hgrow (by simp) (by simp)
 have hvar2 : w2.heap[w.heap.size]? = some (.cells #[.bool false, .slice none 0 0] 115 (0, 0)) := (hgrow.block w.heap.size (by simp) (by simp)).trans (heap_alloc_new w _)
 clear hgrow hI hb
 go_wp2
 go_loopw [20] (fun i wr => ∃ k : Nat, k ≤ n ∧ i = .int .i64 k ∧ wr.ownsRow (w.heap.size + 1) 5 1 (.slice (some ⟨w.heap.size + 1, 0, none⟩) n n) n ((Zed n V k).map (Value.int .u8)) ∧ wr.heap[w.heap.size]? = some (.cells #[.bool false, .slice none 0 0] 115 (0, 0)) ∧ Below w.heap.size w wr) (fun i _ => n - (intOf i).toNat)
 case atStart =>
  refine ⟨0, Nat.zero_le _, rfl, ?_, hvar2, hbw2⟩
  have e : (madeCells #[Value.int IntKind.u8 0] n).toList = (Zed n V 0).map (Value.int .u8) := by
   rw [toList_madeCells_one]; simp [Zed, Zb9]
  rw [← e]; exact hown
 obtain ⟨k, hk, rfl, hownk, hvar, hbel⟩ := hrel
 clear hown hvar2 hbw2
 by_cases hlt : k < n
 ·have hf := hownk.frozenAt (n - 1 - k)
  have hc : wr.cell? ⟨w.heap.size + 1, n - 1 - k, none⟩ = some (.int .u8 0) := by
   rw [hownk.cellAt (n - 1 - k) (by omega), Zp4 n V k hlt]
  obtain ⟨q, hq⟩ : ∃ q, q = k / 4 := ⟨_, rfl⟩
  obtain ⟨r, hr⟩ : ∃ r, r = k % 4 := ⟨_, rfl⟩
  have hq1 : (k : Int) / 4 = (q : Int) := by omega
  have hr1 : (k : Int) % 4 = (r : Int) := by omega
  have hr4 : r < 4 := by omega
  have hql : q < len := by omega
  obtain ⟨c, hcv⟩ : ∃ c, V / 4294967296 ^ q % 4294967296 = c := ⟨_, rfl⟩
  have hc32 : c < 4294967296 := by rw [← hcv]; exact Nat.mod_lt _ (by decide)
  have hcw : wr.cell? ⟨b, off + q, none⟩ = some (.int .u32 (c : Int)) := by
   rw [← hcv]; exact (hbel.cell (p := ⟨b, off + q, none⟩) hbB).trans (hcell q hql)
  have Hbyte : Hid (c / 2 ^ (8 * r) % 256 = V / 256 ^ k % 256) := by
   show _ = _; rw [← hcv, hq, hr]; exact Zo1 V k
  have i1 : (n : Int) - 1 - (k : Int) = ((n - 1 - k : Nat) : Int) := by omega
  clear hcell hq hr hcv
  go_wp2
  go_roundw
  case rel =>
   have hval : ((c : Int) / 2 ^ (8 * r) % 256) = ((V / 256 ^ k % 256 : Nat) : Int) := by
    rw [← Hbyte.out]; simp
   rw [hval]
   have hst := hownk.stored (n - 1 - k) (.int .u8 ((V / 256 ^ k % 256 : Nat) : Int))
   refine ⟨k + 1, by omega, by go_num, ?_, ?_, hbel.grown hst.2 hbel.size (by simp)⟩
   ·rw [← Zme n V k hlt]
    exact hst.1
   rw [heap_setCell_other _ _ _ _ (by simp)]
   exact hvar
  case measure => simp [intOf]; omega
 obtain rfl : k = n := by omega
 have hc0 : wr.cell? ⟨w.heap.size, 0, none⟩ = some (.bool false) := by rw [cell_of_row wr _ 0 _ _ _ hvar]; rfl
 have hc1 : wr.cell? ⟨w.heap.size, 0 + 1, none⟩ = some (.slice none 0 0) := by rw [cell_of_row wr _ (0 + 1) _ _ _ hvar]; rfl
 have hf0 := frozen_of_row wr w.heap.size 0 _ _ hvar
 have hf1 := frozen_of_row wr w.heap.size (0 + 1) _ _ hvar
 clear hcell
 go_wp2
 have hO : ((wr.setCell ⟨w.heap.size, 0, none⟩ (.bool neg)).setCell ⟨w.heap.size, 1, none⟩ (.slice (some ⟨w.heap.size + 1, 0, none⟩) k k)).ownsRow w.heap.size 5 1 (.slice (some ⟨w.heap.size + 1, 0, none⟩) k k) k ((Zb9 k V).map (Value.int .u8)) := by
  have e : Zed k V k = Zb9 k V := by simp [Zed]
  rw [e] at hownk
  exact Zm4 (ownsRow_setCell_below (ownsRow_setCell_below hownk (by simp) _) (by simp) _) (by omega)
 have hB2 : Below w.heap.size w ((wr.setCell ⟨w.heap.size, 0, none⟩ (.bool neg)).setCell ⟨w.heap.size, 1, none⟩ (.slice (some ⟨w.heap.size + 1, 0, none⟩) k k)) := (hbel.setCell (Nat.le_refl _) _).setCell (Nat.le_refl _) _
 exact bodyPost_ret (v := .tuple #[.agg #[.bool neg, .slice (some ⟨w.heap.size + 1, 0, none⟩) k k], .int .i64 0]) (by simp [results, Tryz.results114, go_sem, hc0, hc1]) rfl ⟨w.heap.size + 1, rfl, hO, hB2⟩

def mix (n a b k : Nat) : List Int := (words n a).take k ++ (words n b).drop k

theorem Zfs (n a b k : Nat) : (mix n a b k).length = n := by unfold mix; simp [Zbf]; omega
theorem Zmg (n a b k i : Nat) (h : i < n) : (mix n a b k)[i]? = some (((if i < k then a else b) / 4294967296 ^ i % 4294967296 : Nat) : Int) := by
 unfold mix
 by_cases hk : i < k
 ·rw [List.getElem?_append_left (by simp [Zbf]; omega), List.getElem?_take, if_pos hk, if_pos hk, Zez n a i h]
 rw [if_neg hk, List.getElem?_append_right (by simp [Zbf]; omega), List.getElem?_drop, List.length_take, Zbf]
 rw [show k + (i - min k n) = i by omega, Zez n b i h]
theorem mix_zero (n a b : Nat) : mix n a b 0 = words n b := by simp [mix]
theorem mix_full (n a b : Nat) : mix n a b n = words n a := by
 unfold mix
 rw [List.take_of_length_le (by rw [Zbf]; exact Nat.le_refl _), List.drop_of_length_le (by rw [Zbf]; exact Nat.le_refl _), List.append_nil]
theorem list_ext {a b : List Int} (ha : a.length = n) (hb : b.length = n) (h : ∀ i, i < n → a[i]? = b[i]?) : a = b := by
 apply List.ext_getElem?
 intro i
 by_cases hi : i < n
 ·exact h i hi
 rw [List.getElem?_eq_none (by omega), List.getElem?_eq_none (by omega)]
theorem mix_up (n a b k : Nat) (h : k < n) : (mix n a b k).set k ((a / 4294967296 ^ k % 4294967296 : Nat) : Int) = mix n a b (k + 1) := by
 refine list_ext (n := n) (by rw [List.length_set, Zfs]) (Zfs _ _ _ _) fun i hi => ?_
 rw [List.getElem?_set, Zmg _ _ _ _ _ hi, Zmg _ _ _ _ _ hi, Zfs]
 by_cases h1 : k = i
 ·subst h1; simp [h]
 rw [if_neg h1]
 by_cases h2 : i < k
 ·rw [if_pos h2, if_pos (by omega)]
 rw [if_neg h2, if_neg (by omega)]
theorem Zqd (P x t p : Nat) (hP : 0 < P) : (x % (P * 4294967296) * t + p) / (P * 4294967296) = ((x % P * t + p) / P + x / P % 4294967296 * t) / 4294967296 := by
 rw [Nat.mod_mul, ← Nat.div_div_eq_div_mul]
 congr 1
 rw [show (x % P + P * (x / P % 4294967296)) * t + p = x % P * t + p + P * (x / P % 4294967296 * t) by rw [Nat.add_mul, Nat.mul_assoc]; omega]
 rw [Nat.add_mul_div_left _ _ hP]
theorem mul_word (P x t p : Nat) (hP : 0 < P) : (x * t + p) / P % 4294967296 = ((x % P * t + p) / P + x / P % 4294967296 * t) % 4294967296 := by
 have e : (x * t + p) / P = (x % P * t + p) / P + x / P * t := by
  conv => lhs; rw [← Nat.mod_add_div x P]
  rw [show (x % P + P * (x / P)) * t + p = x % P * t + p + P * (x / P * t) by rw [Nat.add_mul, Nat.mul_assoc]; omega]
  rw [Nat.add_mul_div_left _ _ hP]
 rw [e, Nat.add_mod, Nat.mul_mod (x / P), Nat.add_mod _ (x / P % 4294967296 * t), Nat.mul_mod (x / P % 4294967296) t, Nat.mod_mod]


def Zay (xs : List Int) : Array Value := (xs.map (Value.int .u32)).toArray
def Arr (w : World) (b t : Nat) (xs : List Int) : Prop := w.heap[b]? = some (.cells (Zay xs) t (0, 0))

theorem Arr.cell (h : Arr w b t xs) (i : Nat) (hi : i < xs.length) : w.cell? ⟨b, i, none⟩ = some (.int .u32 (xs.getD i 0)) := by
 rw [cell_of_row w b i _ _ _ h]
 simp [Zay, hi]
theorem Arr.frozen (h : Arr w b t xs) (i : Nat) : w.frozen? ⟨b, i, none⟩ = false := frozen_of_row w b i _ _ h
theorem Arr.isW (h : Arr w b t xs) (hn : xs.length = n) (hm : n ≤ 1000) (hx : ∀ x ∈ xs, 0 ≤ x ∧ x < 4294967296) : IsW w (some ⟨b, 0, none⟩) n n xs :=
 ⟨hn, Nat.le_refl _, by unfold maxLen; omega, hx, fun _ => ⟨b, 0, rfl, fun i hi => by rw [Nat.zero_add]; exact h.cell i (by omega)⟩⟩
def W (n V : Nat) : Value := .agg (Zay (words n V))

theorem Arr.setW (h : Arr w b t xs) (ys : List Int) : Arr (w.setRow b (Zay ys)) b t ys := setRow_heap w b _ _ t _ h
theorem Arr.setW_self (h : Arr w b t xs) : w.setRow b (Zay xs) = w := setRow_self w b _ t _ h
theorem Arr.otherW {b' : Nat} (h : Arr w b t xs) (C : Array Value) (hn : b ≠ b') : Arr (w.setRow b' C) b t xs := (setRow_other w b' b C hn).trans h
theorem Arr.setW_cell (h : Arr w b t xs) (ys : List Int) (i : Nat) (v : Int) : (w.setRow b (Zay ys)).setCell ⟨b, i, none⟩ (.int .u32 v) = w.setRow b (Zay (ys.set i v)) := by
 rw [setCell_eq_setRow _ b i _ t (0, 0) _ (h.setW ys), setRow_setRow]
 simp [Zay, List.map_set]
theorem Zb7 (xs : List Int) : (Zay xs).size = xs.length := by simp [Zay]
theorem Zfw (xs : List Int) : (Zay xs).all (·.oneCell') = true := by
 simp [Zay, Value.oneCell']
theorem app_getD (a r : List Int) (i : Nat) (h : i < a.length) : (a ++ r).getD i 0 = a.getD i 0 := by
 simp [List.getD, List.getElem?_append_left h]
theorem mix_getD (n a b k i : Nat) (h : i < n) : (mix n a b k).getD i 0 = (((if i < k then a else b) / 4294967296 ^ i % 4294967296 : Nat) : Int) := by
 rw [List.getD_eq_getElem?_getD, Zmg _ _ _ _ _ h]; rfl
theorem app_set (a r : List Int) (i : Nat) (v : Int) (h : i < a.length) : (a ++ r).set i v = a.set i v ++ r := by
 rw [List.set_append_left _ _ h]
end
section

structure IsB (w : World) (a : Option Addr) (len cap : Nat) (xs : List Int) : Prop where
 size : xs.length = len
 room : len ≤ cap
 most : cap ≤ maxLen
 nil0 : a = none → cap = 0
 byte : ∀ x ∈ xs, 0 ≤ x ∧ x < 256
 cells : 0 < len → ∃ b off, a = some ⟨b, off, none⟩ ∧ ∀ i, i < len → w.cell? ⟨b, off + i, none⟩ = some (.int .u8 (xs.getD i 0))

theorem byteAt (xs : List Int) (hb : ∀ x ∈ xs, 0 ≤ x ∧ x < 256) (k : Nat) (hk : k < xs.length) : ∃ c : Nat, c < 256 ∧ xs.getD k 0 = (c : Int) ∧ Hid (xs.take (k + 1) = xs.take k ++ [(c : Int)]) := by
 have h := hb xs[k] (List.getElem_mem hk)
 refine ⟨xs[k].toNat, by omega, ?_, ?_⟩
 ·simp [List.getD, hk]; omega
 show xs.take (k + 1) = _
 rw [List.take_succ_eq_append_getElem hk]
 congr 2
 omega


variable {a : Option Addr} {base cap len n : Nat} {v : Value} {w w' : World} {xs : List Int}
theorem IsB.cellsAt (h : IsB w a len cap xs) :
  ∀ ad, a = some ad → ∀ j u, (xs.map (Value.int .u8))[j]? = some u → w.cell? (ad.add j) = some u := by
 intro ad ha j u hj
 have hjl : j < xs.length := by
  have := (List.getElem?_eq_some_iff.1 hj).1
  simpa using this
 obtain ⟨b, off, hb, hc⟩ := h.cells (by have := h.size; omega)
 rw [ha] at hb
 obtain rfl := Option.some.inj hb
 have e := hc j (by have := h.size; omega)
 rw [show (⟨b, off, none⟩ : Addr).add j = ⟨b, off + j, none⟩ by simp [Addr.add], e]
 rw [List.getElem?_map, List.getElem?_eq_getElem hjl] at hj
 simp at hj
 rw [← hj]
 simp [hjl]
theorem IsB.one (_ : IsB w a len cap xs) : ∀ u ∈ xs.map (Value.int .u8), u.oneCell' = true := by
 intro u hu
 obtain ⟨x, _, rfl⟩ := List.mem_map.1 hu
 rfl
theorem IsB.nil' (h : IsB w a len cap xs) : a = none → len = 0 ∧ cap = 0 := by
 intro ha
 have := h.nil0 ha
 have := h.room
 omega
theorem IsB.lenMap (h : IsB w a len cap xs) : (xs.map (Value.int .u8)).length = len * 1 := by
 rw [List.length_map, h.size, Nat.mul_one]
theorem IsB.below (h : IsB w a len cap xs) (hb : Below w.heap.size w w') : IsB w' a len cap xs :=
 ⟨h.size, h.room, h.most, h.nil0, h.byte, fun h0 => by
  obtain ⟨b, off, ha, hc⟩ := h.cells h0
  exact ⟨b, off, ha, fun i hi => (hb.cell (block_lt_of_cell (hc i hi))).trans (hc i hi)⟩⟩
theorem isB_own {g : Nat} (h : w.ownsRow base 5 1 (.slice (some ⟨g, 0, none⟩) n cap) n (xs.map (Value.int .u8))) (hb : ∀ x ∈ xs, 0 ≤ x ∧ x < 256) : IsB w (some ⟨g, 0, none⟩) n cap xs := by
 have hl : xs.length = n := by have := h.1; simpa using this
 have h2 := h.2
 refine ⟨hl, ?_, ?_, by simp, hb, fun _ => ⟨g, 0, rfl, fun i hi => ?_⟩⟩
 ·rcases h2 with ⟨h', _⟩ | ⟨g', cap', cur, h', _, _, hnc, _⟩
  ·simp at h'
  simp at h'; omega
 ·rcases h2 with ⟨h', _⟩ | ⟨g', cap', cur, h', _, _, _, hcm, _⟩
  ·simp at h'
  simp at h'; omega
 have := h.cellAt i (by omega)
 rw [Nat.zero_add, this, List.getElem?_map, List.getElem?_eq_getElem (by omega)]
 simp [show i < xs.length by omega]
theorem IsB.str (h : IsB w a len cap xs) : (convert 66 9 (.slice a len cap)).run Tryz.prog w = .ok (.string (strOfNums xs)) w := by
 cases a with
 | none =>
  obtain ⟨rfl, rfl⟩ := h.nil' rfl
  obtain rfl : xs = [] := List.eq_nil_of_length_eq_zero h.size
  exact run_convert_bytes_nil w 66 5 Tryz.underlying66 Tryz.underlying5 0 0 9 Tryz.underlying9
 | some ad =>
  by_cases h0 : 0 < len
  ·obtain ⟨b, off, hb, hc⟩ := h.cells h0
   obtain rfl := Option.some.inj hb
   exact run_convert_bytes_arg w 66 5 Tryz.underlying66 Tryz.underlying5 b off len cap xs h.size hc 9 Tryz.underlying9
  obtain rfl : len = 0 := by omega
  obtain rfl : xs = [] := List.eq_nil_of_length_eq_zero h.size
  rw [run_convert_bytes_string w 66 9 5 _ 0 cap Tryz.underlying66 Tryz.underlying5 Tryz.underlying9]
  simp [Conv.bytesToString]
  have hl : (loadCells ad 0).run Tryz.prog w = .ok #[] w := run_loadCells_list (P := Tryz.prog) w ad [] (fun j v hj => by simp at hj)
  rw [hl]
  simp [strOfNums]
  rfl
theorem Zhe (w : World) (C : Array Value) (xs : List Int) (n : Nat) (hn : xs.length = n) (hm : n ≤ maxLen) (hC : C = (xs.map (Value.int .u8)).toArray) (hb : ∀ x ∈ xs, 0 ≤ x ∧ x < 256) (mk : Nat × Nat) :
  IsB (w.alloc (.cells C 5 mk)) (some ⟨w.heap.size, 0, none⟩) n n xs := by
 refine ⟨hn, Nat.le_refl _, hm, by simp, hb, fun _ => ⟨_, _, rfl, fun i hi => ?_⟩⟩
 rw [World.cell?_alloc_mark, hC]
 simp [show i < xs.length by omega]

theorem Zlj (need : Nat) : ∀ (f c : Nat), c ≤ need + (need + 768) / 4 → Builtin.growBy need f c ≤ need + (need + 768) / 4
 | 0, c, h => by unfold Builtin.growBy; exact h
 | f + 1, c, h => by
  unfold Builtin.growBy
  split
  ·exact h
  exact Zlj need f (c + (c + 768) / 4) (by omega)
theorem Zn4 (need old : Nat) (h : old < need) : Builtin.nextslicecap need old ≤ need + (need + 768) / 4 + 512 := by
 unfold Builtin.nextslicecap
 split
 ·omega
 split
 ·omega
 have := Zlj need 4 old (by omega)
 omega

theorem app_some {ops : Array Oper} {rest : List Oper} {o : Oper} {a : Act} {Q : Exit → Act → World → Prop} (w : World) (hgd : o.guard = none) (s x : Operand)
  (ho : o.op = .call { callee := .builtin .append, args := #[s, x], argTypes := #[66, 66] })
  (base g n cap0 : Nat) (xs : List Int) (hs : a.eval s = .slice (some ⟨g, 0, none⟩) n cap0) (hown : w.ownsRow base 5 1 (.slice (some ⟨g, 0, none⟩) n cap0) n (xs.map (Value.int .u8)))
  (ad : Addr) (len cap : Nat) (ys : List Int) (hx : a.eval x = .slice (some ad) len cap) (hB : IsB w (some ad) len cap ys) (h47 : n + len ≤ 140737488500000) (hbase : base ≤ w.heap.size)
  (h : ∀ v' w', w'.ownsRow base 5 1 v' (n + len) ((xs ++ ys).map (Value.int .u8)) → Below base w w' → wpList Tryz.prog ops Q rest (a.put o.dst v') w') : wpList Tryz.prog ops Q (o :: rest) a w := by
 obtain ⟨i0, hi, hz0, hz1, hz2⟩ := info_parts Tryz.info5
 have hbg : base ≤ g := (hown.lt g rfl).1
 by_cases hroom : n + len ≤ cap0
 ·refine wpList_append_fits w hgd s x 66 ho base 5 i0 1 Tryz.underlying66 hi hz1 g n cap0 _ hs hown ad len cap (ys.map (Value.int .u8)) hx hB.lenMap (hB.cellsAt ad rfl) hB.one hroom ?_
  intro w' hown' hgrow
  rw [← List.map_append] at hown'
  exact h _ w' hown' ((Below.refl _ _).grown hgrow hbase (by simpa using hbg))
 have hr := run_append_grow (P := Tryz.prog) w 66 o.type 5 i0 (.int .u8 0) Tryz.underlying66 hi hz0 ⟨g, 0, none⟩ n cap0 (xs.map (Value.int .u8)) (by rw [hz1]; exact hown.1) (hown.cells (g := g) rfl) ad len cap (ys.map (Value.int .u8)) (by rw [hz1]; exact hB.lenMap) (hB.cellsAt ad rfl) (by omega) (by omega)
  (by have := Zn4 (n + len) cap0 (by omega); rw [hz2]; omega)
 refine Lib.wpList_append_run w hgd s x 66 66 ho _ _ hs hx _ _ hr ?_
 have hge := grownCap_ge w (n + len) cap0 5
 have hcm : grownCap w (n + len) cap0 5 ≤ maxLen := grownCap_le_maxLen w (n + len) cap0 5 (by unfold maxLen; omega)
 have hl1 : (xs.map (Value.int .u8)).length = n := by simpa using hown.1
 have hl2 : (ys.map (Value.int .u8)).length = len := by simpa using hB.lenMap
 refine h _ _ ⟨?_, .inr ⟨w.heap.size, _, _, rfl, hbase, heap_alloc_new w.drew _, hge, hcm, ?_, ?_⟩⟩ ((Below.refl _ _).drew.alloc hbase _)
 ·rw [List.map_append, List.length_append, hl1, hl2, Nat.mul_one]
 ·simp only [Array.size_append, List.size_toArray, size_zeroCells, hl1, hl2]
  show n + len + (grownCap w (n + len) cap0 5 - (n + len)) * 1 = _
  omega
 rw [Array.toList_append, Array.toList_append, List.map_append]
 simp only [Nat.mul_one]
 exact List.take_left' (by rw [List.length_append]; omega)

theorem Zcl {ops : Array Oper} {rest : List Oper} {o : Oper} {a : Act} {Q : Exit → Act → World → Prop} (w : World) (hgd : o.guard = none) (s x : Operand)
  (ho : o.op = .call { callee := .builtin .append, args := #[s, x], argTypes := #[66, 66] })
  (base : Nat) (v : Value) (n : Nat) (xs : List Int) (hs : a.eval s = v) (hown : w.ownsRow base 5 1 v n (xs.map (Value.int .u8)))
  (ab : Option Addr) (len cap : Nat) (ys : List Int) (hx : a.eval x = .slice ab len cap) (hB : IsB w ab len cap ys) (h47 : n + len ≤ 140737488500000) (h47' : len ≤ 140737488355328) (hbase : base ≤ w.heap.size)
  (h : ∀ v' w', w'.ownsRow base 5 1 v' (n + len) ((xs ++ ys).map (Value.int .u8)) → Below base w w' → wpList Tryz.prog ops Q rest (a.put o.dst v') w') : wpList Tryz.prog ops Q (o :: rest) a w := by
 obtain ⟨i0, hi, hz0, hz1, hz2⟩ := info_parts Tryz.info5
 cases ab with
 | none =>
  obtain ⟨rfl, rfl⟩ := hB.nil' rfl
  obtain rfl : ys = [] := List.eq_nil_of_length_eq_zero hB.size
  refine wpList_append_own_none hgd s x 66 ho base 5 i0 1 Tryz.underlying66 hi v n _ hs hown hx ?_
  exact h v w (by simpa using hown) (Below.refl _ _)
 | some ad =>
  have hown0 := hown
  rcases hown.2 with ⟨rfl, rfl⟩ | ⟨g, cap0, cur, rfl, _⟩
  ·refine wpList_append_own w hgd s x 66 ho base 5 i0 (.int .u8 0) 1 1 Tryz.underlying66 hi hz0 hz1 hz2 rfl (by decide) _ 0 _ hs hown0 ad len cap (ys.map (Value.int .u8)) hx hB.lenMap (hB.cellsAt ad rfl) hB.one (by unfold maxLen; omega) (by omega) hbase ?_
   intro v' w' hown' hgrow _
   rw [← List.map_append] at hown'
   exact h v' w' hown' ((Below.refl _ _).grown hgrow hbase (fun j hj => (hown0.lt j hj).1))
  exact app_some w hgd s x ho base g n cap0 xs hs hown0 ad len cap ys hx hB h47 hbase h
theorem Zbm (xs ys : List Int) (h1 : ∀ x ∈ xs, 0 ≤ x ∧ x < 256) (h2 : ∀ x ∈ ys, 0 ≤ x ∧ x < 256) : ∀ x ∈ xs ++ ys, 0 ≤ x ∧ x < 256 := by
 intro x hx
 rcases List.mem_append.1 hx with hx | hx
 ·exact h1 x hx
 exact h2 x hx

def Zdp (w : World) (base : Nat) (v : Value) (xs : List Int) : Prop :=
 w.ownsRow base 5 1 v xs.length (xs.map (Value.int .u8)) ∧ ∃ a cap, v = .slice a xs.length cap ∧ IsB w a xs.length cap xs

theorem Zbq (h : w.ownsRow base 5 1 v n (xs.map (Value.int .u8))) (hb : ∀ x ∈ xs, 0 ≤ x ∧ x < 256) : Zdp w base v xs := by
 have hl : xs.length = n := by have := h.1; simpa using this
 subst hl
 refine ⟨h, ?_⟩
 rcases h.2 with ⟨rfl, h0⟩ | ⟨g, cap, cur, rfl, _⟩
 ·have : xs = [] := List.eq_nil_of_length_eq_zero h0
  subst this
  exact ⟨none, 0, rfl, ⟨rfl, Nat.le_refl _, by decide, fun _ => rfl, by simp, fun h => absurd h (by decide)⟩⟩
 exact ⟨_, cap, rfl, isB_own h hb⟩

theorem Zaf {B : Nat} {w1 w2 : World} (h1 : Below B w w1) (hB : B ≤ w.heap.size) (h2 : Below w1.heap.size w1 w2) : Below B w w2 :=
 h1.trans (h2.mono (Nat.le_trans hB h1.size))

theorem Zg4 {e m : Nat} {xs : List Value} (h : w.ownsRow base e m v n xs) (hb : Below w.heap.size w w') : w'.ownsRow base e m v n xs := by
 obtain ⟨h1, h2⟩ := h
 refine ⟨h1, ?_⟩
 rcases h2 with h2 | ⟨g, cap, cur, hv, hg, hh, h3⟩
 ·exact .inl h2
 exact .inr ⟨g, cap, cur, hv, hg, (hb.block g (lt_of_block hh)).trans hh, h3⟩
theorem Zdp.below (h : Zdp w base v xs) (hb : Below w.heap.size w w') : Zdp w' base v xs :=
 ⟨Zg4 h.1 hb, by obtain ⟨_, a, cap, hv, hB⟩ := h; exact ⟨a, cap, hv, hB.below hb⟩⟩

end
end Go.Proofs.YtncfmhlikmibaaaGreatDoor
