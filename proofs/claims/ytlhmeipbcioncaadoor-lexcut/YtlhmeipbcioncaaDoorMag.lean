/- A number's bytes without noughts ahead are those of its value. -/
import Derived.Test.YtlhmeipbcioncaaDoorIsB
namespace Go.Proofs.YtlhmeipbcioncaaDoor
open Go.RowKit

theorem bytesN_low : ∀ (k c v : Nat), bytesN k (c * 256 ^ k + v) = bytesN k v
  | 0, _, _ => rfl
  | k + 1, c, v => by
    unfold bytesN
    have e1 : (c * 256 ^ (k + 1) + v) / 256 = c * 256 ^ k + v / 256 := by rw [Nat.pow_succ, ← Nat.mul_assoc]; omega
    have e2 : (c * 256 ^ (k + 1) + v) % 256 = v % 256 := by rw [Nat.pow_succ, ← Nat.mul_assoc]; omega
    rw [e1, e2, bytesN_low k c]
theorem bytesN_val8 : ∀ (ys : List Int), (∀ x ∈ ys, 0 ≤ x ∧ x < 256) → bytesN ys.length (val8 ys) = ys
  | [], _ => rfl
  | b :: r, h => by
    have h0 := h b (by simp)
    have hr := val8_lt r (fun x hx => h x (by simp [hx]))
    have ih := bytesN_val8 r (fun x hx => h x (by simp [hx]))
    rw [List.length_cons, bytesN_front, val8_cons, bytesN_low, ih]
    congr 1
    have e : (b.toNat * 256 ^ r.length + val8 r) / 256 ^ r.length = b.toNat := by
      rw [Nat.add_comm, Nat.add_mul_div_right _ _ (Nat.pow_pos (by decide)), Nat.div_eq_of_lt hr]; omega
    rw [e]; omega
theorem mag_cons (b : Int) (r : List Int) (h : ∀ x ∈ b :: r, 0 ≤ x ∧ x < 256) (hb : b ≠ 0) : mag (val8 (b :: r)) = b :: r ∧ val8 (b :: r) ≠ 0 := by
  have h0 := h b (by simp)
  have hlt := val8_lt (b :: r) h
  rw [List.length_cons] at hlt
  have hle : 256 ^ r.length ≤ val8 (b :: r) := by
    rw [val8_cons]
    have : 1 * 256 ^ r.length ≤ b.toNat * 256 ^ r.length := Nat.mul_le_mul_right _ (by omega)
    omega
  refine ⟨?_, ?_⟩
  · unfold mag
    rw [blen_unique _ _ hlt hle]
    exact bytesN_val8 (b :: r) h
  · have : 0 < 256 ^ r.length := Nat.pow_pos (by decide)
    omega
theorem val8_zero (r : List Int) : val8 (0 :: r) = val8 r := by rw [val8_cons]; simp

/-- Where b[k:..] begins. -/
def winA (a : Option Addr) (k cap : Nat) : Option Addr := if cap = k then a else a.map (·.add (k * 1))
theorem run_from (a : Option Addr) (len cap k : Nat) (w : World) (h : k ≤ len) :
    (Instr.slice 36 (.slice a len cap) (some (.int .i64 (k : Int))) none none).run Tryd.prog w = .ok (.slice (winA a k cap) (len - k) (cap - k)) w := by
  have ht : Tryd.prog.underlying 36 = some (.slice (Tryd.prog.elem 36)) := by simp [Program.elem, Tryd.underlying36]
  have he : Tryd.prog.elem 36 = 5 := by simp [Program.elem, Tryd.underlying36]
  have hz : (sizeOf 5).run Tryd.prog w = .ok 1 w := by
    obtain ⟨i0, hi, hz0, hz1, hz2⟩ := info_parts Tryd.info5
    simp [sizeOf, typeInfo, hi, hz1]
  rw [run_slice_l w 36 _ _ _ ht .i64 _ (by omega) (by omega), he, hz]
  simp only [Result.andThen, sliced, Int.toNat_natCast, winA]
theorem IsB.window {w : World} {a : Option Addr} {len cap : Nat} {xs : List Int} (h : IsB w a len cap xs) (k n : Nat) (hk : k + n ≤ len) : IsB w (winA a k cap) n (cap - k) ((xs.drop k).take n) := by
  have hs := h.size
  have hr := h.room
  have hm := h.most
  refine ⟨by simp; omega, by omega, by omega, ?_, fun x hx => h.byte x (List.mem_of_mem_drop (List.mem_of_mem_take hx)), fun h0 => ?_⟩
  · intro hn
    unfold winA at hn
    split at hn
    · omega
    · have : a = none := by cases a <;> simp_all
      have := h.nil0 this
      omega
  · obtain ⟨b, off, rfl, hc⟩ := h.cells (by omega)
    refine ⟨b, off + k, ?_, fun i hi => ?_⟩
    · unfold winA
      rw [if_neg (by omega)]
      simp [Addr.add]
    · rw [Nat.add_assoc, hc (k + i) (by omega)]
      simp [hi]
theorem IsB.from {w : World} {a : Option Addr} {len cap : Nat} {xs : List Int} (h : IsB w a len cap xs) (k : Nat) (hk : k ≤ len) : IsB w (winA a k cap) (len - k) (cap - k) (xs.drop k) := by
  have := h.window k (len - k) (by omega)
  rwa [List.take_of_length_le (by simp; have := h.size; omega)] at this

theorem val8_drop (xs : List Int) (k : Nat) (hk : k < xs.length) (h0 : xs.getD k 0 = 0) : val8 (xs.drop k) = val8 (xs.drop (k + 1)) := by
  rw [List.drop_eq_getElem_cons hk]
  have : xs[k] = 0 := by simpa [List.getD, hk] using h0
  rw [this, val8_zero]
theorem mag_drop (xs : List Int) (k : Nat) (hk : k < xs.length) (hb : ∀ x ∈ xs, 0 ≤ x ∧ x < 256) (h0 : xs.getD k 0 ≠ 0) : mag (val8 (xs.drop k)) = xs.drop k ∧ val8 (xs.drop k) ≠ 0 := by
  have hd : ∀ x ∈ xs.drop k, 0 ≤ x ∧ x < 256 := fun x hx => hb x (List.mem_of_mem_drop hx)
  rw [List.drop_eq_getElem_cons hk] at hd ⊢
  exact mag_cons _ _ hd (by simpa [List.getD, hk] using h0)
end Go.Proofs.YtlhmeipbcioncaaDoor
