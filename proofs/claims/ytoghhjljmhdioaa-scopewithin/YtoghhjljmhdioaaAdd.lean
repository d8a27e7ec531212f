/- Right, of the program and of the document; taken. -/
import Derived.Test.YtoghhjljmhdioaaIsB
import Derived.Test.YtoghhjljmhdioaaArr
import Derived.Lib.EndianBits
import Derived.Deep.RegionLawGrows
import Derived.Deep.QuietTactic
import Derived.StillTailTactics
import Derived.Deep.WholeRow
import Derived.Orders
import Derived.BigQuiet
import Derived.Deep.RegionWith
import Derived.ChangeKeysEq
namespace Go.Proofs.Ytoghhjljmhdioaa
set_option maxRecDepth 100000
open Go.RowKit

/-- Can it be a number? -/
def rightB (neg : Bool) (xs : List Int) : Bool := if xs.length = 0 then !neg else decide (xs.length ≤ 128) && !(xs.getD 0 0 == 0)

theorem box_below (w : World) (o : Obj) : Below w.heap.size w (w.alloc o) := (Below.refl _ _).alloc (Nat.le_refl _) o

theorem ret_bool {a b : Bool} (h : a = b) : Ending.returned (.bool a) = .returned (.bool b) := by rw [h]

end Go.Proofs.Ytoghhjljmhdioaa
namespace Go.Proofs.Ytoghhjljmhdioaa
open Go.RowKit

theorem mul_carry_lt (P x t p : Nat) (hP : 0 < P) (ht : t < 4294967296) (hp : p < 4294967296) : (x % P * t + p) / P < 4294967296 := by
  refine Nat.div_lt_of_lt_mul ?_
  have h1 := Nat.mod_lt x hP
  have h2 : x % P * t ≤ (P - 1) * 4294967295 := Nat.mul_le_mul (by omega) (by omega)
  have h3 : P * 4294967296 = (P - 1) * 4294967295 + (P - 1) + 4294967296 := by
    obtain ⟨q, rfl⟩ : ∃ q, P = q + 1 := ⟨P - 1, by omega⟩
    simp; omega
  omega
theorem mul_lt64 (c d t : Nat) (hc : c < 4294967296) (hd : d < 4294967296) (ht : t < 4294967296) : c + d * t < 18446744073709551616 ∧ d * t < 18446744073709551616 := by
  have : d * t ≤ 4294967295 * 4294967295 := Nat.mul_le_mul (by omega) (by omega)
  omega

set_option maxRecDepth 100000 in
set_option maxHeartbeats 2000000 in
theorem addOnto_any (b tt n cap V t p : Nat) (rest : List Int) (w : World) (h : Arr w b tt (words n V ++ rest)) (hn : n ≤ 1000) (hn0 : n ≤ cap) (ht : t < 4294967296) (hp : p < 4294967296) :
    Calls Try.prog 70 #[.slice (some ⟨b, 0, none⟩) n cap, .int .u32 (t : Int), .int .u32 (p : Int)] w fun e w' => e = .returned (.tuple #[]) ∧ w' = w.setRow b (cellsW (words n (V * t + p) ++ rest)) := by
  go_enter Try.func70, Try.ntmps70
  go_wp2
  go_loopw [12, 6] (fun i c wr => ∃ k : Nat, k ≤ n ∧ i = .int .i64 k ∧ c = .int .u64 (((V % 4294967296 ^ k * t + p) / 4294967296 ^ k : Nat) : Int) ∧ wr = w.setRow b (cellsW (mix n (V * t + p) V k ++ rest))) (fun i _ _ => n - (intOf i).toNat)
  case atStart =>
    refine ⟨0, Nat.zero_le _, rfl, by simp [Nat.mod_one], ?_⟩
    rw [mix_zero]; exact h.setW_self.symm
  case round =>
    obtain ⟨k, hk, rfl, rfl, rfl⟩ := hrel
    by_cases hlt : k < n
    · have hP : 0 < 4294967296 ^ k := Nat.pow_pos (by decide)
      have hA := h.setW (mix n (V * t + p) V k ++ rest)
      have hc0 := hA.cell k (by rw [List.length_append, mix_len]; omega)
      have hf := hA.frozen k
      rw [app_getD _ _ _ (by rw [mix_len]; exact hlt), mix_getD _ _ _ _ _ hlt, if_neg (Nat.lt_irrefl _)] at hc0
      obtain ⟨c, hc⟩ : ∃ c, (V % 4294967296 ^ k * t + p) / 4294967296 ^ k = c := ⟨_, rfl⟩
      obtain ⟨d, hd⟩ : ∃ d, V / 4294967296 ^ k % 4294967296 = d := ⟨_, rfl⟩
      have hc32 : c < 4294967296 := by rw [← hc]; exact mul_carry_lt _ _ _ _ hP ht hp
      have hd32 : d < 4294967296 := by rw [← hd]; exact Nat.mod_lt _ (by decide)
      have e1 := mul_carry (4294967296 ^ k) V t p hP
      have e2 := mul_word (4294967296 ^ k) V t p hP
      rw [hc, hd] at e1 e2
      rw [← Nat.pow_succ] at e1
      have H1 : Hid ((V % 4294967296 ^ (k + 1) * t + p) / 4294967296 ^ (k + 1) = (c + d * t) / 4294967296) := e1
      have H2 : Hid ((V * t + p) / 4294967296 ^ k % 4294967296 = (c + d * t) % 4294967296) := e2
      obtain ⟨m1, m2⟩ := mul_lt64 c d t hc32 hd32 ht
      obtain ⟨m, hm⟩ : ∃ m, d * t = m := ⟨_, rfl⟩
      have hmi : (d : Int) * (t : Int) = (m : Int) := by rw [← hm]; simp
      rw [hd] at hc0
      rw [hc]
      rw [hm] at m1 m2 H1 H2
      have hst := h.setW_cell (mix n (V * t + p) V k ++ rest) k (((c + m) % 4294967296 : Nat) : Int)
      rw [app_set _ _ _ _ (by rw [mix_len]; exact hlt), ← H2.out, mix_up _ _ _ _ hlt, H2.out] at hst
      clear hA e1 e2 hc hd hm
      go_wp2
      go_roundw
      case rel =>
        refine ⟨k + 1, by omega, by go_num, ?_, ?_⟩
        · rw [H1.out]; simp
        · rw [← hst]; simp
      case measure => simp [intOf]; omega
    · obtain rfl : k = n := by omega
      go_wp2
      go_end0
      exact ⟨rfl, by rw [mix_full]⟩

theorem or32 (r d : Nat) (hr : r < 4294967296) (hd : d < 4294967296) : bits .or .u64 ((r : Int) * 4294967296) (d : Int) = ((r * 4294967296 + d : Nat) : Int) := by
  rw [bits_join .u64 64 (by decide) wraps_u64 32 _ _ (by omega) (by omega) (by omega) (by omega) (by omega) (by omega)]
  omega

end Go.Proofs.Ytoghhjljmhdioaa
namespace Go.Proofs.Ytoghhjljmhdioaa
open Go.RowKit

theorem bytesN_low : ∀ (k c v : Nat), bytesN k (c * 256 ^ k + v) = bytesN k v
  | 0, _, _ => rfl
  | k + 1, c, v => by
    unfold bytesN
    have e1 : (c * 256 ^ (k + 1) + v) / 256 = c * 256 ^ k + v / 256 := by rw [Nat.pow_succ, ← Nat.mul_assoc]; omega
    have e2 : (c * 256 ^ (k + 1) + v) % 256 = v % 256 := by rw [Nat.pow_succ, ← Nat.mul_assoc]; omega
    rw [e1, e2, bytesN_low k c]
theorem bytesN_val8 : ∀ (ys : List Int), (∀ x ∈ ys, 0 ≤ x ∧ x < 256) → bytesN ys.length (val8 ys) = ys
  | [], _ => rfl
  | b :: r, h => by
    have h0 := h b (by simp)
    have hr := val8_lt r (fun x hx => h x (by simp [hx]))
    have ih := bytesN_val8 r (fun x hx => h x (by simp [hx]))
    rw [List.length_cons, bytesN_front, val8_cons, bytesN_low, ih]
    congr 1
    have e : (b.toNat * 256 ^ r.length + val8 r) / 256 ^ r.length = b.toNat := by
      rw [Nat.add_comm, Nat.add_mul_div_right _ _ (Nat.pow_pos (by decide)), Nat.div_eq_of_lt hr]; omega
    rw [e]; omega
theorem mag_cons (b : Int) (r : List Int) (h : ∀ x ∈ b :: r, 0 ≤ x ∧ x < 256) (hb : b ≠ 0) : mag (val8 (b :: r)) = b :: r ∧ val8 (b :: r) ≠ 0 := by
  have h0 := h b (by simp)
  have hlt := val8_lt (b :: r) h
  rw [List.length_cons] at hlt
  have hle : 256 ^ r.length ≤ val8 (b :: r) := by
    rw [val8_cons]
    have : 1 * 256 ^ r.length ≤ b.toNat * 256 ^ r.length := Nat.mul_le_mul_right _ (by omega)
    omega
  refine ⟨?_, ?_⟩
  · unfold mag
    rw [blen_unique _ _ hlt hle]
    exact bytesN_val8 (b :: r) h
  · have : 0 < 256 ^ r.length := Nat.pow_pos (by decide)
    omega
theorem val8_zero (r : List Int) : val8 (0 :: r) = val8 r := by rw [val8_cons]; simp

/-- Where b[k:..] begins. -/
def winA (a : Option Addr) (k cap : Nat) : Option Addr := if cap = k then a else a.map (·.add (k * 1))
theorem run_from (a : Option Addr) (len cap k : Nat) (w : World) (h : k ≤ len) :
    (Instr.slice 85 (.slice a len cap) (some (.int .i64 (k : Int))) none none).run Try.prog w = .ok (.slice (winA a k cap) (len - k) (cap - k)) w := by
  have ht : Try.prog.underlying 85 = some (.slice (Try.prog.elem 85)) := by simp [Program.elem, Try.underlying85]
  have he : Try.prog.elem 85 = 5 := by simp [Program.elem, Try.underlying85]
  have hz : (sizeOf 5).run Try.prog w = .ok 1 w := by
    obtain ⟨i0, hi, hz0, hz1, hz2⟩ := info_parts Try.info5
    simp [sizeOf, typeInfo, hi, hz1]
  rw [run_slice_l w 85 _ _ _ ht .i64 _ (by omega) (by omega), he, hz]
  simp only [Result.andThen, sliced, Int.toNat_natCast, winA]
theorem IsB.window {w : World} {a : Option Addr} {len cap : Nat} {xs : List Int} (h : IsB w a len cap xs) (k n : Nat) (hk : k + n ≤ len) : IsB w (winA a k cap) n (cap - k) ((xs.drop k).take n) := by
  have hs := h.size
  have hr := h.room
  have hm := h.most
  refine ⟨by simp; omega, by omega, by omega, ?_, fun x hx => h.byte x (List.mem_of_mem_drop (List.mem_of_mem_take hx)), fun h0 => ?_⟩
  · intro hn
    unfold winA at hn
    split at hn
    · omega
    · have : a = none := by cases a <;> simp_all
      have := h.nil0 this
      omega
  · obtain ⟨b, off, rfl, hc⟩ := h.cells (by omega)
    refine ⟨b, off + k, ?_, fun i hi => ?_⟩
    · unfold winA
      rw [if_neg (by omega)]
      simp [Addr.add]
    · rw [Nat.add_assoc, hc (k + i) (by omega)]
      simp [hi]
theorem IsB.from {w : World} {a : Option Addr} {len cap : Nat} {xs : List Int} (h : IsB w a len cap xs) (k : Nat) (hk : k ≤ len) : IsB w (winA a k cap) (len - k) (cap - k) (xs.drop k) := by
  have := h.window k (len - k) (by omega)
  rwa [List.take_of_length_le (by simp; have := h.size; omega)] at this

theorem val8_drop (xs : List Int) (k : Nat) (hk : k < xs.length) (h0 : xs.getD k 0 = 0) : val8 (xs.drop k) = val8 (xs.drop (k + 1)) := by
  rw [List.drop_eq_getElem_cons hk]
  have : xs[k] = 0 := by simpa [List.getD, hk] using h0
  rw [this, val8_zero]
theorem mag_drop (xs : List Int) (k : Nat) (hk : k < xs.length) (hb : ∀ x ∈ xs, 0 ≤ x ∧ x < 256) (h0 : xs.getD k 0 ≠ 0) : mag (val8 (xs.drop k)) = xs.drop k ∧ val8 (xs.drop k) ≠ 0 := by
  have hd : ∀ x ∈ xs.drop k, 0 ≤ x ∧ x < 256 := fun x hx => hb x (List.mem_of_mem_drop hx)
  rw [List.drop_eq_getElem_cons hk] at hd ⊢
  exact mag_cons _ _ hd (by simpa [List.getD, hk] using h0)
end Go.Proofs.Ytoghhjljmhdioaa
namespace Go.Proofs.Ytoghhjljmhdioaa
open Go.RowKit

/-- pack, where the number has room. -/
theorem pack_fit {b off len cap V : Nat} {ws : List Int} {w : World} (neg : Bool) (h : IsW w (some ⟨b, off, none⟩) len cap ws) (hl : len ≤ 1000) (hv : val32 ws = V) (hm : blen V ≤ 128) :
    Calls Try.prog 63 #[.bool neg, .slice (some ⟨b, off, none⟩) len cap] w fun e w' => ∃ v, e = .returned (.tuple #[.agg #[.bool (neg && decide (V ≠ 0)), v], .int .i64 0]) ∧ OwnB w' w.heap.size v (mag V) ∧ Below w.heap.size w w' := by
  subst hv
  by_cases hz : val32 ws = 0
  · refine (pack_zero neg h hl hz).mono ?_
    rintro e w' ⟨rfl, hb⟩
    refine ⟨.slice none 0 0, ?_, ?_, hb⟩
    · rw [hz]; simp
    · rw [hz, mag_zero]
      exact ownB_of (n := 0) (World.ownsRow_nil _ _ _ _) (by simp)
  · refine (pack_ok neg h hl hz hm).mono ?_
    rintro e w' ⟨g, rfl, ho, hb⟩
    exact ⟨_, by simp [hz], ownB_of ho (mag_lt _), hb⟩

theorem isW_lit2 (w : World) (x y : Int) (V : Nat) (hV : V < 18446744073709551616) (hx : x = (V : Int) % 4294967296) (hy : y = (V : Int) / 4294967296) (mk : Nat × Nat) :
    IsW (w.alloc (.cells #[.int .u32 x, .int .u32 y] 78 mk)) (some ⟨w.heap.size, 0, none⟩) 2 2 (words 2 V) := by
  subst hx hy
  refine ⟨rfl, Nat.le_refl _, by decide, words_lt _ _, fun _ => ⟨_, _, rfl, fun i hi => ?_⟩⟩
  rw [World.cell?_alloc_mark]
  match i, hi with
  | 0, _ => simp [words]
  | 1, _ => simp [words]; omega

theorem wrapU (x : Int) : IntKind.u64.wrap x = x % 18446744073709551616 := by simp [IntKind.wrap, IntKind.signed, IntKind.bits]
theorem wrapNeg (n : Int) (h0 : -9223372036854775808 ≤ n) (h : n < 0) : IntKind.u64.wrap (-IntKind.u64.wrap n) = (n.natAbs : Int) := by rw [wrapU, wrapU]; omega
theorem cell_at {w w' : World} {b t : Nat} {C : Array Value} {mk : Nat × Nat} {B : Nat} (hb : Below B w w') (h : w.heap[b]? = some (.cells C t mk)) (hB : b < B) : w'.heap[b]? = some (.cells C t mk) := (hb.block b hB).trans h

theorem var2 {w w1 : World} {o1 o2 : Obj} (hb : Below ((w.alloc o1).alloc o2).heap.size ((w.alloc o1).alloc o2) w1) : w1.heap[w.heap.size]? = some o1 ∧ Below w.heap.size w w1 := by
  have hs : ((w.alloc o1).alloc o2).heap.size = w.heap.size + 2 := by simp
  refine ⟨(hb.block _ (by omega)).trans ((Below.heap_alloc _ _ _ (by simp)).trans (heap_alloc_new w _)), ?_⟩
  exact (((Below.refl w.heap.size w).alloc (Nat.le_refl _) _).alloc (by simp) _).trans (hb.mono (by omega))
/-- An Int that lies in a variable. -/
theorem intVar {w : World} {b : Nat} {v0 v1 : Value} (h : w.heap[b]? = some (.cells #[v0, v1] 87 (0, 0))) :
    w.cell? ⟨b, 0, none⟩ = some v0 ∧ w.cell? ⟨b, 0 + 1, none⟩ = some v1 ∧ w.frozen? ⟨b, 0, none⟩ = false ∧ w.frozen? ⟨b, 0 + 1, none⟩ = false :=
  ⟨by rw [cell_of_row w _ 0 _ _ _ h]; rfl, by rw [cell_of_row w _ (0 + 1) _ _ _ h]; rfl, frozen_of_row w b 0 _ _ h, frozen_of_row w b (0 + 1) _ _ h⟩

theorem OwnB.mono {w : World} {b b' : Nat} {v : Value} {xs : List Int} (h : OwnB w b' v xs) (hb : b ≤ b') : OwnB w b v xs := ⟨own_mono h.1 hb, h.2⟩
theorem OwnB.set {w : World} {base b i : Nat} {v : Value} {xs : List Int} (h : OwnB w base v xs) (hb : b < base) (x : Value) : OwnB (w.setCell ⟨b, i, none⟩ x) base v xs :=
  ownB_of (ownsRow_setCell_below h.1 hb x) (by obtain ⟨_, _, _, _, hB⟩ := h; exact hB.byte)
theorem OwnB.alloc {w : World} {base : Nat} {v : Value} {xs : List Int} (h : OwnB w base v xs) (o : Obj) : OwnB (w.alloc o) base v xs := h.below ((Below.refl _ _).alloc (Nat.le_refl _) o)
theorem OwnB.put {w : World} {base b b0 : Nat} {v x y : Value} {xs : List Int} (h : OwnB w base v xs) (hb : b < base) (h0 : b0 ≤ base) : OwnB ((w.setCell ⟨b, 0, none⟩ x).setCell ⟨b, 1, none⟩ y) b0 v xs :=
  ((h.set hb x).set hb y).mono h0
theorem below_put {w w1 : World} {b0 b : Nat} {x y : Value} (h : Below b0 w w1) (hb : b0 ≤ b) : Below b0 w ((w1.setCell ⟨b, 0, none⟩ x).setCell ⟨b, 1, none⟩ y) := (h.setCell hb x).setCell hb y

end Go.Proofs.Ytoghhjljmhdioaa
namespace Go.Proofs.Ytoghhjljmhdioaa
open Go.RowKit

/-- append of bytes onto nil, as one step of a region that draws its order. -/
theorem step_app_nil {ops : Array Oper} {o : Oper} {a : Act} {w : World} {K : Act → World → Prop} {Q : Exit → Act → World → Prop} {E : Prop}
    (hg : o.guard = none) (s x : Operand) (hop : o.op = Op.call { callee := Callee.builtin Builtin.append, args := #[s, x], argTypes := #[85, 85] })
    (hs : a.eval s = .slice none 0 0) (ab : Option Addr) (len cap : Nat) (ys : List Int) (hx : a.eval x = .slice ab len cap) (hB : IsB w ab len cap ys) (hl : len ≤ 140737488355328)
    (hK : ∀ av cv w', OwnB w' w.heap.size (.slice av len cv) ys → Below w.heap.size w w' → K (a.put o.dst (.slice av len cv)) w') :
    if Region.wanted o (yielded ops a.tmps) = true then Oper.wp Try.prog o a w K Q else E := by
  obtain ⟨i0, hi, hz0, hz1, hz2⟩ := info_parts Try.info5
  have hw : Region.wanted o (yielded ops a.tmps) = true := by simp [Region.wanted, hg]
  rw [if_pos hw]
  cases ab with
  | none =>
    obtain ⟨rfl, rfl⟩ := hB.nil' rfl
    obtain rfl : ys = [] := List.eq_nil_of_length_eq_zero hB.size
    have := hK none 0 w (ownB_of (n := 0) (World.ownsRow_nil _ _ _ _) (by simp)) (Below.refl _ _)
    unfold Oper.wp
    simp [execOp, hop, resolve, invoke, builtin, hs, hx, Result.andThen, Builtin.append_]
    exact this
  | some ad =>
    obtain ⟨v', w', hrun, r1, r2, _⟩ := run_append_own (P := Try.prog) w w.heap.size 85 o.type 5 i0 (.int .u8 0) 1 1 Try.underlying85 hi hz0 hz1 hz2 rfl (by decide) (.slice none 0 0) 0 [] (World.ownsRow_nil w _ 5 1) ad len cap (ys.map (Value.int .u8)) hB.lenMap (hB.cellsAt ad rfl) hB.one (by unfold maxLen; omega) (by omega) (Nat.le_refl _)
    rw [List.nil_append] at r1
    have hO := ownB_of r1 hB.byte
    have hbel : Below w.heap.size w w' := (Below.refl _ _).grown r2 (Nat.le_refl _) (by simp [Value.ownBlock])
    obtain ⟨av, cv, rfl, _⟩ := hO.2
    rw [hB.size] at hO hrun
    unfold Oper.wp
    simp [execOp, hop, resolve, invoke, builtin, hs, hx, hrun, Result.andThen]
    exact hK av cv w' hO hbel

end Go.Proofs.Ytoghhjljmhdioaa
namespace Go.Proofs.Ytoghhjljmhdioaa
open Go.RowKit

theorem intVarT {w : World} {b t : Nat} {v0 v1 : Value} (h : w.heap[b]? = some (.cells #[v0, v1] t (0, 0))) :
    w.cell? ⟨b, 0, none⟩ = some v0 ∧ w.cell? ⟨b, 0 + 1, none⟩ = some v1 ∧ w.frozen? ⟨b, 0, none⟩ = false ∧ w.frozen? ⟨b, 0 + 1, none⟩ = false :=
  ⟨by rw [cell_of_row w _ 0 _ _ _ h]; rfl, by rw [cell_of_row w _ (0 + 1) _ _ _ h]; rfl, frozen_of_row w b 0 _ _ h, frozen_of_row w b (0 + 1) _ _ h⟩
/-- Two variables ahead of a call, behind a draw. -/
theorem var2d {w w1 : World} {o1 o2 : Obj} (hb : Below ((w.alloc o1).alloc o2).drew.heap.size ((w.alloc o1).alloc o2).drew w1) : w1.heap[w.heap.size]? = some o1 ∧ w1.heap[w.heap.size + 1]? = some o2 ∧ Below w.heap.size w w1 := by
  have hs : ((w.alloc o1).alloc o2).drew.heap.size = w.heap.size + 2 := by show ((w.alloc o1).alloc o2).heap.size = _; simp
  refine ⟨(hb.block _ (by omega)).trans ((Below.heap_alloc _ _ _ (by simp)).trans (heap_alloc_new w _)), (hb.block _ (by omega)).trans ?_, ?_⟩
  · show ((w.alloc o1).alloc o2).heap[w.heap.size + 1]? = some o2
    have := heap_alloc_new (w.alloc o1) o2
    rwa [show (w.alloc o1).heap.size = w.heap.size + 1 by simp] at this
  · exact (((Below.refl w.heap.size w).alloc (Nat.le_refl _) _).alloc (by simp) _).drew.trans (hb.mono (by omega))

end Go.Proofs.Ytoghhjljmhdioaa
namespace Go.Proofs.Ytoghhjljmhdioaa
open Go.RowKit

/-- Below (-1), the same (0) or above (1). -/
def sgn (x y : Nat) : Int := if x < y then -1 else if x = y then 0 else 1
/-- No nought stands ahead. -/
def Lead (xs : List Int) : Prop := xs = [] ∨ xs.getD 0 0 ≠ 0

theorem lead_right {neg : Bool} {xs : List Int} (h : rightB neg xs = true) : Lead xs ∧ xs.length ≤ 128 := by
  unfold rightB at h
  split at h
  · rename_i h0
    exact ⟨.inl (List.eq_nil_of_length_eq_zero h0), by omega⟩
  · simp at h
    exact ⟨.inr (by simpa using h.2), h.1⟩
theorem val8_app (a b : List Int) : val8 (a ++ b) = val8 a * 256 ^ b.length + val8 b := by
  unfold val8
  rw [List.foldl_append, val8_acc]
  rfl
theorem lead_le {xs : List Int} (hb : ∀ x ∈ xs, 0 ≤ x ∧ x < 256) (hl : Lead xs) (h0 : 0 < xs.length) : 256 ^ (xs.length - 1) ≤ val8 xs := by
  cases xs with
  | nil => simp at h0
  | cons b r =>
    rcases hl with hl | hl
    · simp at hl
    · have := hb b (by simp)
      simp at hl
      rw [val8_cons, List.length_cons, Nat.add_sub_cancel]
      have : 1 * 256 ^ r.length ≤ b.toNat * 256 ^ r.length := Nat.mul_le_mul_right _ (by omega)
      omega
theorem val8_short {xs ys : List Int} (hx : ∀ x ∈ xs, 0 ≤ x ∧ x < 256) (hy : ∀ x ∈ ys, 0 ≤ x ∧ x < 256) (hl : Lead ys) (h : xs.length < ys.length) : val8 xs < val8 ys := by
  have h1 := val8_lt xs hx
  have h2 := lead_le hy hl (by omega)
  have : 256 ^ xs.length ≤ 256 ^ (ys.length - 1) := Nat.pow_le_pow_right (by decide) (by omega)
  omega
theorem val8_first {xs ys : List Int} (hx : ∀ x ∈ xs, 0 ≤ x ∧ x < 256) (he : xs.length = ys.length) (k c d : Nat) (ht : xs.take k = ys.take k)
    (h1 : xs.take (k + 1) = xs.take k ++ [(c : Int)]) (h2 : ys.take (k + 1) = ys.take k ++ [(d : Int)]) (hcd : c < d) : val8 xs < val8 ys := by
  have e1 : val8 xs = val8 (xs.take (k + 1)) * 256 ^ (xs.drop (k + 1)).length + val8 (xs.drop (k + 1)) := by rw [← val8_app, List.take_append_drop]
  have e2 : val8 ys = val8 (ys.take (k + 1)) * 256 ^ (ys.drop (k + 1)).length + val8 (ys.drop (k + 1)) := by rw [← val8_app, List.take_append_drop]
  have hlt := val8_lt (xs.drop (k + 1)) (fun x h => hx x (List.mem_of_mem_drop h))
  have hl : (ys.drop (k + 1)).length = (xs.drop (k + 1)).length := by simp [he]
  rw [h1, val8_snoc] at e1
  rw [h2, val8_snoc, ← ht, hl] at e2
  generalize 256 ^ (xs.drop (k + 1)).length = P at *
  simp only [Int.toNat_natCast] at e1 e2
  have : (val8 (xs.take k) * 256 + c + 1) * P ≤ (val8 (xs.take k) * 256 + d) * P := Nat.mul_le_mul_right _ (by omega)
  rw [Nat.add_mul _ 1] at this
  omega

/-- What Cmp tells. -/
def cmpI (n1 : Bool) (xs : List Int) (n2 : Bool) (ys : List Int) : Int :=
  if rightB n1 xs && rightB n2 ys then (if n1 != n2 then (if n1 then -1 else 1) else if n1 then sgn (val8 ys) (val8 xs) else sgn (val8 xs) (val8 ys)) else 0

theorem box2 (w : World) (o1 o2 : Obj) : Below w.heap.size w ((w.alloc o1).alloc o2) := (box_below w _).alloc (by simp) _
/-- Two Ints that lie in variables, behind a call. -/
theorem vars2 {w w1 : World} {v0 v1 u0 u1 : Value} {t t' : Nat} (hb : Below ((w.alloc (.cells #[v0, v1] t)).alloc (.cells #[u0, u1] t')).heap.size ((w.alloc (.cells #[v0, v1] t)).alloc (.cells #[u0, u1] t')) w1) :
    w1.heap[w.heap.size]? = some (.cells #[v0, v1] t (0, 0)) ∧ w1.heap[w.heap.size + 1]? = some (.cells #[u0, u1] t' (0, 0)) ∧ Below w.heap.size w w1 := by
  have hs : ((w.alloc (.cells #[v0, v1] t)).alloc (.cells #[u0, u1] t')).heap.size = w.heap.size + 2 := by simp
  refine ⟨(hb.block _ (by omega)).trans ((Below.heap_alloc _ _ _ (by simp)).trans (heap_alloc_new w _)), (hb.block _ (by omega)).trans ?_, (box2 w _ _).trans (hb.mono (by omega))⟩
  have := heap_alloc_new (w.alloc (.cells #[v0, v1] t)) (.cells #[u0, u1] t')
  rwa [show (w.alloc (.cells #[v0, v1] t)).heap.size = w.heap.size + 1 by simp] at this

/-- A number with the sign that tells which is the lesser one. -/
def Tells (n : Int) (x y : Nat) : Prop := (x < y → n < 0) ∧ (x = y → n = 0) ∧ (y < x → 0 < n) ∧ -1000 ≤ n ∧ n ≤ 1000

theorem sgn_tells {n : Int} {x y : Nat} (h : Tells n x y) : sgn x y = if n < 0 then -1 else if 0 < n then 1 else 0 := by
  obtain ⟨a, b, c, _, _⟩ := h
  unfold sgn
  rcases Nat.lt_trichotomy x y with h | h | h
  · rw [if_pos h, if_pos (a h)]
  · have := b h
    rw [if_neg (by omega), if_pos h, if_neg (by omega), if_neg (by omega)]
  · have := c h
    rw [if_neg (by omega), if_neg (by omega), if_neg (by omega), if_pos (by omega)]
theorem sgn_turn (x y : Nat) : sgn x y = -sgn y x := by
  unfold sgn
  rcases Nat.lt_trichotomy x y with h | h | h
  · rw [if_pos h, if_neg (by omega), if_neg (by omega)]
  · subst h; simp
  · rw [if_neg (by omega), if_neg (by omega), if_pos h]; rfl

end Go.Proofs.Ytoghhjljmhdioaa
namespace Go.Proofs.Ytoghhjljmhdioaa
open Go.RowKit

theorem zero32 : (#[Value.int IntKind.u32 0, Value.int IntKind.u32 0, Value.int IntKind.u32 0, Value.int IntKind.u32 0,
          Value.int IntKind.u32 0, Value.int IntKind.u32 0, Value.int IntKind.u32 0, Value.int IntKind.u32 0,
          Value.int IntKind.u32 0, Value.int IntKind.u32 0, Value.int IntKind.u32 0, Value.int IntKind.u32 0,
          Value.int IntKind.u32 0, Value.int IntKind.u32 0, Value.int IntKind.u32 0, Value.int IntKind.u32 0,
          Value.int IntKind.u32 0, Value.int IntKind.u32 0, Value.int IntKind.u32 0, Value.int IntKind.u32 0,
          Value.int IntKind.u32 0, Value.int IntKind.u32 0, Value.int IntKind.u32 0, Value.int IntKind.u32 0,
          Value.int IntKind.u32 0, Value.int IntKind.u32 0, Value.int IntKind.u32 0, Value.int IntKind.u32 0,
          Value.int IntKind.u32 0, Value.int IntKind.u32 0, Value.int IntKind.u32 0, Value.int IntKind.u32 0] : Array Value) = cellsW (words 32 0) := by
  rw [words_zero]; rfl
end Go.Proofs.Ytoghhjljmhdioaa
namespace Go.Proofs.Ytoghhjljmhdioaa
open Go.RowKit

theorem val8_last (xs : List Int) (k c : Nat) (hk : k < xs.length) (hc : xs.getD (xs.length - 1 - k) 0 = (c : Int)) : val8 (xs.drop (xs.length - (k + 1))) = c * 256 ^ k + val8 (xs.drop (xs.length - k)) := by
  have e : xs.length - (k + 1) = xs.length - 1 - k := by omega
  rw [e, List.drop_eq_getElem_cons (show xs.length - 1 - k < xs.length by omega), val8_cons, show xs.length - 1 - k + 1 = xs.length - k by omega]
  have hg : xs[xs.length - 1 - k]'(by omega) = (c : Int) := by
    rw [← hc]; simp [List.getD, show xs.length - 1 - k < xs.length by omega]
  rw [hg, List.length_drop, show xs.length - (xs.length - k) = k by omega]
  simp

theorem low_or (D c r : Nat) (hr : r < 4) (hD : D < 256 ^ r) (hc : c < 256) : bits .or .u32 (D : Int) ((c : Int) * 2 ^ (8 * r) % 4294967296) = ((D + c * 256 ^ r : Nat) : Int) := by
  match r, hr with
  | 0, _ =>
    rw [bits_join_low .u32 32 (by decide) wraps_u32 0 _ _ (by omega) (by omega) (by omega) (by omega) (by omega) (by omega)]
    omega
  | 1, _ =>
    rw [bits_join_low .u32 32 (by decide) wraps_u32 8 _ _ (by omega) (by omega) (by omega) (by omega) (by omega) (by omega)]
    omega
  | 2, _ =>
    rw [bits_join_low .u32 32 (by decide) wraps_u32 16 _ _ (by omega) (by omega) (by omega) (by omega) (by omega) (by omega)]
    omega
  | 3, _ =>
    rw [bits_join_low .u32 32 (by decide) wraps_u32 24 _ _ (by omega) (by omega) (by omega) (by omega) (by omega) (by omega)]
    omega
theorem low_room (D c r : Nat) (hr : r < 4) (hD : D < 256 ^ r) (hc : c < 256) : D + c * 256 ^ r < 4294967296 := by
  match r, hr with
  | 0, _ => omega
  | 1, _ => omega
  | 2, _ => omega
  | 3, _ => omega
theorem pow_part (k : Nat) : 256 ^ k = 256 ^ (k % 4) * 4294967296 ^ (k / 4) := by
  rw [show (4294967296 : Nat) = 256 ^ 4 from rfl, ← Nat.pow_mul, ← Nat.pow_add]
  congr 1; omega

end Go.Proofs.Ytoghhjljmhdioaa
namespace Go.Proofs.Ytoghhjljmhdioaa
open Go.RowKit

/-- The last k decimal digits of a number, the highest first, as signs. -/
def decN : Nat → Nat → List Int
  | 0, _ => []
  | k + 1, n => decN k (n / 10) ++ [((48 + n % 10 : Nat) : Int)]
theorem decN_len : ∀ (k n : Nat), (decN k n).length = k
  | 0, _ => rfl
  | k + 1, n => by unfold decN; simp [decN_len k]
theorem decN_front : ∀ (k n : Nat), decN (k + 1) n = ((48 + n / 10 ^ k % 10 : Nat) : Int) :: decN k n
  | 0, n => by simp [decN]
  | k + 1, n => by
    rw [decN, decN_front k (n / 10), List.cons_append, Nat.div_div_eq_div_mul, Nat.mul_comm, ← Nat.pow_succ]
    rfl
theorem decN_byte : ∀ (k n : Nat), ∀ x ∈ decN k n, 0 ≤ x ∧ x < 256
  | 0, _, x, h => by simp [decN] at h
  | k + 1, n, x, h => by
    unfold decN at h
    rcases List.mem_append.1 h with h | h
    · exact decN_byte k _ x h
    · simp at h; omega
/-- The signs behind k rounds. -/
def decTo (V k : Nat) : List Int := List.replicate (315 - k) 0 ++ decN k V
theorem decTo_len (V k : Nat) (h : k ≤ 315) : (decTo V k).length = 315 := by simp [decTo, decN_len]; omega
theorem decTo_step (V k : Nat) (h : k < 315) : (decTo V k).set (315 - 1 - k) ((48 + V / 10 ^ k % 10 : Nat) : Int) = decTo V (k + 1) := by
  unfold decTo
  obtain ⟨m, hm⟩ : ∃ m, 315 - k = m + 1 := ⟨315 - k - 1, by omega⟩
  rw [hm, show 315 - (k + 1) = m by omega, show 315 - 1 - k = m by omega, List.replicate_succ', List.append_assoc, List.set_append_right _ _ (by simp), decN_front]
  simp
/-- A list of bytes as cells. -/
def cellsB (xs : List Int) : Array Value := (xs.map (Value.int .u8)).toArray
/-- An array of bytes that lies in a variable. -/
def ArrB (w : World) (b t : Nat) (xs : List Int) : Prop := w.heap[b]? = some (.cells (cellsB xs) t (0, 0))
theorem ArrB.lt {w : World} {b t : Nat} {xs : List Int} (h : ArrB w b t xs) : b < w.heap.size := lt_of_block h
theorem ArrB.cell {w : World} {b t : Nat} {xs : List Int} (h : ArrB w b t xs) (i : Nat) (hi : i < xs.length) : w.cell? ⟨b, i, none⟩ = some (.int .u8 (xs.getD i 0)) := by
  rw [cell_of_row w b i _ _ _ h]
  simp [cellsB, hi]
theorem ArrB.frozen {w : World} {b t : Nat} {xs : List Int} (h : ArrB w b t xs) (i : Nat) : w.frozen? ⟨b, i, none⟩ = false := frozen_of_row w b i _ _ h
theorem ArrB.set {w : World} {b t : Nat} {xs : List Int} (h : ArrB w b t xs) (i : Nat) (x : Int) : ArrB (w.setCell ⟨b, i, none⟩ (.int .u8 x)) b t (xs.set i x) := by
  unfold ArrB
  rw [heap_setCell_same w b i _ _ _ h]
  simp [cellsB, List.map_set]
theorem ArrB.other {w : World} {b t : Nat} {xs : List Int} (h : ArrB w b t xs) {b' i : Nat} {v : Value} (hn : b ≠ b') : ArrB (w.setCell ⟨b', i, none⟩ v) b t xs := by
  unfold ArrB
  rw [heap_setCell_other _ _ _ _ hn]
  exact h
theorem ArrB.otherW {w : World} {b t b' : Nat} {xs : List Int} (h : ArrB w b t xs) (C : Array Value) (hn : b ≠ b') : ArrB (w.setRow b' C) b t xs := (setRow_other w b' b C hn).trans h
theorem ArrB.setW {w : World} {b t : Nat} {xs : List Int} (h : ArrB w b t xs) (ys : List Int) : ArrB (w.setRow b (cellsB ys)) b t ys := setRow_heap w b _ _ t _ h
theorem cellsB_size (xs : List Int) : (cellsB xs).size = xs.length := by simp [cellsB]
theorem cellsB_one (xs : List Int) : (cellsB xs).all (·.oneCell') = true := by simp [cellsB, Value.oneCell']

/-- 315 noughts. -/
def noughts : List Int := List.replicate 315 0
theorem decTo_zero (V : Nat) : decTo V 0 = noughts := by
  show List.replicate 315 0 ++ [] = _
  rw [List.append_nil]; rfl
theorem decTo_full (V : Nat) : decTo V 315 = decN 315 V := by simp [decTo]
theorem decTo_byte (V k : Nat) : ∀ x ∈ decTo V k, 0 ≤ x ∧ x < 256 := by
  intro x hx
  unfold decTo at hx
  rcases List.mem_append.1 hx with hx | hx
  · have := List.eq_of_mem_replicate hx; omega
  · exact decN_byte _ _ x hx

theorem wlen_spec (V : Nat) : V < 4294967296 ^ wlen V := by
  unfold wlen
  by_cases h : V = 0
  · simp [h]
  · rw [if_neg h]
    have h1 := Nat.lt_log2_self (n := V)
    rw [show (4294967296 : Nat) = 2 ^ 32 from rfl, ← Nat.pow_mul]
    exact Nat.lt_of_lt_of_le h1 (Nat.pow_le_pow_right (by decide) (by omega))
theorem wlen_le (V n : Nat) (h : V < 4294967296 ^ n) : wlen V ≤ n := by
  unfold wlen
  by_cases h0 : V = 0
  · simp [h0]
  · rw [if_neg h0]
    rw [show (4294967296 : Nat) = 2 ^ 32 from rfl, ← Nat.pow_mul] at h
    have := (Nat.log2_lt h0).2 h
    omega
theorem words_split (n m V : Nat) (h : V < 4294967296 ^ n) : words (n + m) V = words n V ++ words m 0 := by
  rw [words_app, Nat.div_eq_of_lt h]
/-- used, on some of the words that hold all of it. -/
theorem used_part (b tt n V : Nat) (w : World) (h : Arr w b tt (words 32 V)) (hn : n ≤ 32) (hV : V < 4294967296 ^ n) :
    Calls Try.prog 78 #[.slice (some ⟨b, 0, none⟩) n 32] w fun e w' => e = .returned (.int .i64 (wlen V : Int)) ∧ w = w' := by
  have hI := h.isWt (words_len 32 V) hn (by decide) (words_lt 32 V)
  rw [words_take 32 V n hn] at hI
  have := used_any hI
  rwa [val32_words n V hV] at this

theorem digit_at (V j i : Nat) (h : i < 9) : V / 1000000000 ^ j % 1000000000 / 10 ^ i % 10 = V / 10 ^ (9 * j + i) % 10 := by
  have e1 : (1000000000 : Nat) ^ j = 10 ^ (9 * j) := by rw [Nat.pow_mul]
  rw [e1, Nat.pow_add, ← Nat.div_div_eq_div_mul]
  generalize V / 10 ^ (9 * j) = X
  obtain ⟨m, hm⟩ : ∃ m, 9 = i + 1 + m := ⟨8 - i, by omega⟩
  have e2 : (1000000000 : Nat) = 10 ^ i * (10 * 10 ^ m) := by
    rw [← Nat.mul_assoc, ← Nat.pow_succ, ← Nat.pow_add, ← hm]
  rw [e2, Nat.mod_mul_right_div_self, Nat.mod_mul_right_mod]

end Go.Proofs.Ytoghhjljmhdioaa
namespace Go.Proofs.Ytoghhjljmhdioaa
open Go.RowKit

/-- How long a string is. -/
def sizeS : Value → Nat
  | .string b => b.size
  | _ => 0

theorem str_head (c : Int) (r : List Int) (h0 : 0 ≤ c) (h1 : c < 256) (hp : 0 < (strOfNums (c :: r)).size) : (((strOfNums (c :: r))[0]'hp).toNat : Int) = c := by
  show ((UInt8.ofNat c.toNat).toNat : Int) = c
  simp; omega
theorem str_tail (c : Int) (r : List Int) : (strOfNums (c :: r)).extract 1 (r.length + 1) = strOfNums r := by
  apply ByteArray.ext
  simp [strOfNums, ByteArray.data_extract]
  exact List.take_of_length_le (by simp)

theorem ret_str {a b : ByteArray} (h : a = b) : Ending.returned (.string a) = .returned (.string b) := by rw [h]
theorem str_neg (xs : List Int) : strOfNums ([45] ++ xs) = (⟨#[45]⟩ : ByteArray) ++ strOfNums xs := by
  unfold strOfNums
  rw [List.map_append]
  rfl

/-- A number's decimal digits. -/
def dec (V : Nat) : List Int := (decN 315 V).dropWhile (· == 48)

theorem drop_le (p : Int → Bool) (l : List Int) : (l.dropWhile p).length ≤ l.length := (List.dropWhile_suffix p).length_le
theorem dec_le (V : Nat) : (dec V).length ≤ 315 := by
  have h := drop_le (· == 48) (decN 315 V)
  rwa [decN_len] at h
theorem isB_arr {w : World} {b t : Nat} {xs : List Int} (h : ArrB w b t xs) (hx : ∀ x ∈ xs, 0 ≤ x ∧ x < 256) (hm : xs.length ≤ 1000) : IsB w (some ⟨b, 0, none⟩) xs.length xs.length xs :=
  ⟨rfl, Nat.le_refl _, by unfold maxLen; omega, by simp, hx, fun _ => ⟨b, 0, rfl, fun i hi => by rw [Nat.zero_add]; exact h.cell i hi⟩⟩

end Go.Proofs.Ytoghhjljmhdioaa
namespace Go.Proofs.Ytoghhjljmhdioaa
open Go.RowKit

theorem zero33 : (#[Value.int IntKind.u32 0, Value.int IntKind.u32 0, Value.int IntKind.u32 0, Value.int IntKind.u32 0, Value.int IntKind.u32 0, Value.int IntKind.u32 0, Value.int IntKind.u32 0, Value.int IntKind.u32 0, Value.int IntKind.u32 0, Value.int IntKind.u32 0, Value.int IntKind.u32 0, Value.int IntKind.u32 0, Value.int IntKind.u32 0, Value.int IntKind.u32 0, Value.int IntKind.u32 0, Value.int IntKind.u32 0, Value.int IntKind.u32 0, Value.int IntKind.u32 0, Value.int IntKind.u32 0, Value.int IntKind.u32 0, Value.int IntKind.u32 0, Value.int IntKind.u32 0, Value.int IntKind.u32 0, Value.int IntKind.u32 0, Value.int IntKind.u32 0, Value.int IntKind.u32 0, Value.int IntKind.u32 0, Value.int IntKind.u32 0, Value.int IntKind.u32 0, Value.int IntKind.u32 0, Value.int IntKind.u32 0, Value.int IntKind.u32 0, Value.int IntKind.u32 0] : Array Value) = cellsW (words 33 0) := by
  rw [words_zero]; rfl
end Go.Proofs.Ytoghhjljmhdioaa
namespace Go.Proofs.Ytoghhjljmhdioaa
open Go

/-- No operation is guarded, and each waits for earlier ones alone. -/
def plainOps (ops : Array Oper) : Bool := (List.range ops.size).all fun i => match ops[i]? with
  | none => false
  | some o => o.guard.isNone && o.after.all fun e => !Region.binds .any e || decide (e.on < i)

theorem plainOps_at {ops : Array Oper} (h : plainOps ops = true) {i : Nat} {o : Oper} (ho : ops[i]? = some o) : o.guard = none ∧ ∀ e ∈ o.after, Region.binds .any e = true → e.on < i := by
  unfold plainOps at h
  have hi : i < ops.size := by
    rcases Nat.lt_or_ge i ops.size with h' | h'
    · exact h'
    · rw [Array.getElem?_eq_none h'] at ho; cases ho
  have h1 := (List.all_eq_true.1 h) i (List.mem_range.2 hi)
  simp only [ho, Bool.and_eq_true, Array.all_eq_true_iff_forall_mem, Bool.or_eq_true, Bool.not_eq_true', decide_eq_true_eq] at h1
  refine ⟨by simpa using h1.1, fun e he hb => ?_⟩
  rcases h1.2 e he with h2 | h2
  · rw [h2] at hb; cases hb
  · exact h2

theorem ready_nil {ops : Array Oper} (hp : plainOps ops = true) {L : Array Bool} (hs : L.size = ops.size) (hr : Region.ready .any ops L = []) : ∀ i, i < ops.size → L.getD i false = true := by
  intro i
  induction i using Nat.strongRecOn with
  | ind i ih =>
    intro hi
    rcases hL : L.getD i false with _ | _
    · exfalso
      have hi' : i < L.size := by omega
      have hoi : ops[i]? = some ops[i] := Array.getElem?_eq_getElem hi
      have hm : i ∈ Region.ready .any ops L := by
        refine mem_ready.2 ⟨?_, ops[i], hoi, fun e he hb => ?_⟩
        · simp [hi'] at hL ⊢; exact hL
        · have := (plainOps_at hp hoi).2 e he hb
          exact ih _ this (by omega)
      rw [hr] at hm
      cases hm
    · rfl

/-- How many are not done. -/
def undone (L : Array Bool) : Nat := (L.toList.filter (· == false)).length
theorem undone_zero {L : Array Bool} (h : undone L = 0) : ∀ i, i < L.size → L.getD i true = true := by
  intro i hi
  unfold undone at h
  have h' : L.toList.filter (· == false) = [] := List.eq_nil_of_length_eq_zero h
  rw [List.filter_eq_nil_iff] at h'
  have := h' L[i] (by simp)
  simp [hi]
  simpa using this
theorem filter_set : ∀ (l : List Bool) (i : Nat), l[i]? = some false → ((l.set i true).filter (· == false)).length + 1 = (l.filter (· == false)).length
  | [], i, h => by simp at h
  | b :: l, 0, h => by
    simp at h
    subst h
    simp
  | b :: l, i + 1, h => by
    have ih := filter_set l i (by simpa using h)
    rw [List.set_cons_succ]
    cases b <;> simp only [List.filter_cons] <;> simp only [beq_self_eq_true, if_true, List.length_cons, Bool.true_eq_false, beq_iff_eq, if_false] <;> omega
theorem undone_set {L : Array Bool} {i : Nat} (h : L.getD i true = false) : undone (L.setIfInBounds i true) + 1 = undone L := by
  unfold undone
  rw [Array.toList_setIfInBounds]
  refine filter_set _ i ?_
  rcases Nat.lt_or_ge i L.size with h' | h'
  · simp [h'] at h ⊢; exact h
  · simp [Array.getElem?_eq_none h'] at h

/-- What is done is closed: whatever it waited for is done too. -/
def Closed (ops : Array Oper) (D : Nat → Prop) : Prop := ∀ (j : Nat) (o : Oper), ops[j]? = some o → D j → ∀ e ∈ o.after, Region.binds .any e = true → D e.on

theorem wpAny_inv {P : Program} {ops : Array Oper} {Q : Exit → Act → World → Prop} (hp : plainOps ops = true) (I : (Nat → Prop) → Act → World → Prop)
    (hmono : ∀ D D' a w, (∀ j, D j ↔ D' j) → I D a w → I D' a w)
    (hstep : ∀ (i : Nat) (o : Oper), ops[i]? = some o → ∀ D a w, I D a w → ¬ D i → Closed ops D → (∀ e ∈ o.after, Region.binds .any e = true → D e.on) → o.wp P a w (I fun j => j = i ∨ D j) Q)
    (hend : ∀ D a w, I D a w → (∀ i, i < ops.size → D i) → Q .normal a w) :
    ∀ (fuel : Nat) (L : Array Bool) (a : Act) (w : World), L.size = ops.size → undone L ≤ fuel → Closed ops (fun j => L.getD j false = true) → I (fun j => L.getD j false = true) a w → wpAny P .any ops Q fuel L a w
  | 0, L, a, w, hs, hf, hcl, hI => by
    have hall := undone_zero (show undone L = 0 by omega)
    refine ⟨?_, hend _ a w hI fun i hi => ?_⟩
    · cases hr : Region.ready .any ops L with
      | nil => rfl
      | cons x xs =>
        have hx : x ∈ Region.ready .any ops L := by rw [hr]; simp
        obtain ⟨h1, o, ho, _⟩ := mem_ready.1 hx
        have hx' : x < L.size := by
          rcases Nat.lt_or_ge x L.size with h' | h'
          · exact h'
          · rw [hs] at h'; rw [Array.getElem?_eq_none h'] at ho; cases ho
        rw [hall x hx'] at h1; cases h1
    · have := hall i (by omega)
      simp [show i < L.size by omega] at this ⊢; exact this
  | fuel + 1, L, a, w, hs, hf, hcl, hI => by
    refine ⟨fun hr => hend _ a w hI fun i hi => ready_nil hp hs hr i hi, fun i hi => ?_⟩
    obtain ⟨h1, o, ho, hd⟩ := mem_ready.1 hi
    have hi' : i < L.size := by
      rcases Nat.lt_or_ge i L.size with h' | h'
      · exact h'
      · rw [hs] at h'; rw [Array.getElem?_eq_none h'] at ho; cases ho
    have hn : ¬ L.getD i false = true := by
      simp [hi'] at h1 ⊢; exact h1
    have hst := hstep i o ho _ a w hI hn hcl hd
    unfold wpOp
    simp only [ho]
    have hw : Region.wanted o (yielded ops a.tmps) = true := by
      unfold Region.wanted; rw [(plainOps_at hp ho).1]
    rw [if_pos hw]
    have hset : ∀ j, (j = i ∨ L.getD j false = true) ↔ (L.setIfInBounds i true).getD j false = true := fun j => by
      by_cases hj : j = i
      · subst hj; simp [hi']
      · simp [hj, Ne.symm hj]
    refine .inl (Oper.wp_mono (fun a' w' hI' => ?_) hst)
    refine wpAny_inv hp I hmono hstep hend fuel _ a' w' (by simp [hs]) (by have := undone_set h1; omega) ?_ (hmono _ _ a' w' hset hI')
    intro j oj hoj hDj e he hb
    rcases (hset j).2 hDj with rfl | hDj
    · rw [ho] at hoj
      cases hoj
      exact (hset _).1 (.inr (hd e he hb))
    · exact (hset _).1 (.inr (hcl j oj hoj hDj e he hb))
/-- THE RULE: what holds behind any operations that are done (D) holds behind one more; behind all of them it gives what is asked. -/
theorem wp_region_inv {P : Program} {ops : Array Oper} {Q : Exit → Act → World → Prop} {id : Nat} {a : Act} {w : World} (hm : P.follows .mixedOrders = true) (hp : plainOps ops = true) (I : (Nat → Prop) → Act → World → Prop)
    (hmono : ∀ D D' a w, (∀ j, D j ↔ D' j) → I D a w → I D' a w)
    (hstart : I (fun _ => False) a { w with drawn := w.drawn + 1 })
    (hstep : ∀ (i : Nat) (o : Oper), ops[i]? = some o → ∀ D a w, I D a w → ¬ D i → Closed ops D → (∀ e ∈ o.after, Region.binds .any e = true → D e.on) → o.wp P a w (I fun j => j = i ∨ D j) Q)
    (hend : ∀ D a w, I D a w → (∀ i, i < ops.size → D i) → Q .normal a w) : (Code.region id ops true).wp P Q a w := by
  refine wp_region_any hm (wpAny_inv hp I hmono hstep hend _ _ a _ (by simp) ?_ ?_ (hmono _ _ _ _ (fun j => ?_) hstart))
  · unfold undone
    exact Nat.le_trans (List.length_filter_le _ _) (by simp)
  · intro j oj hoj hDj
    exfalso
    rcases Nat.lt_or_ge j ops.size with h' | h'
    · simp [h'] at hDj
    · simp [h'] at hDj
  · constructor
    · intro h; cases h
    · intro h
      exfalso
      rcases Nat.lt_or_ge j ops.size with h' | h'
      · simp [h'] at h
      · simp [h'] at h
/-- The same, what holds said of the frame at the beginning too. -/
theorem wp_region_inv' {P : Program} {ops : Array Oper} {Q : Exit → Act → World → Prop} {id : Nat} {a : Act} {w : World} (I : Act → (Nat → Prop) → Act → World → Prop) (hm : P.follows .mixedOrders = true) (hp : plainOps ops = true)
    (hmono : ∀ D D' a' w', (∀ j, D j ↔ D' j) → I a D a' w' → I a D' a' w')
    (hstart : I a (fun _ => False) a { w with drawn := w.drawn + 1 })
    (hstep : ∀ (i : Nat) (o : Oper), ops[i]? = some o → ∀ D a' w', I a D a' w' → ¬ D i → Closed ops D → (∀ e ∈ o.after, Region.binds .any e = true → D e.on) → o.wp P a' w' (I a fun j => j = i ∨ D j) Q)
    (hend : ∀ D a' w', I a D a' w' → (∀ i, i < ops.size → D i) → Q .normal a' w') : (Code.region id ops true).wp P Q a w :=
  wp_region_inv hm hp (I a) hmono hstart hstep hend
end Go.Proofs.Ytoghhjljmhdioaa
namespace Go.Proofs.Ytoghhjljmhdioaa
open Go.RowKit

theorem alloc4 (w : World) (o0 o1 o2 o3 : Obj) :
    ((((w.alloc o0).alloc o1).alloc o2).alloc o3).heap[w.heap.size]? = some o0 ∧ ((((w.alloc o0).alloc o1).alloc o2).alloc o3).heap[w.heap.size + 1]? = some o1 ∧ ((((w.alloc o0).alloc o1).alloc o2).alloc o3).heap[w.heap.size + 2]? = some o2 ∧ ((((w.alloc o0).alloc o1).alloc o2).alloc o3).heap[w.heap.size + 3]? = some o3 ∧ Below w.heap.size w ((((w.alloc o0).alloc o1).alloc o2).alloc o3) := by
  have s2 : ((w.alloc o0).alloc o1).heap.size = w.heap.size + 2 := by simp
  have e2 := heap_alloc2_old ((w.alloc o0).alloc o1) o2 o3
  have e3 := heap_alloc2_new ((w.alloc o0).alloc o1) o2 o3
  rw [s2] at e2 e3
  refine ⟨?_, ?_, e2, e3, ((box2 w _ _).alloc (by simp; omega) _).alloc (by simp; omega) _⟩
  · exact (Below.heap_alloc _ _ _ (by simp; omega)).trans ((Below.heap_alloc _ _ _ (by simp; omega)).trans (heap_alloc2_old w _ _))
  · exact (Below.heap_alloc _ _ _ (by simp)).trans ((Below.heap_alloc _ _ _ (by simp)).trans (heap_alloc2_new w _ _))

end Go.Proofs.Ytoghhjljmhdioaa
namespace Go.Proofs.Ytoghhjljmhdioaa
open Go.RowKit

theorem part_word (xs : List Int) (i : Nat) (hi : i < xs.length) (w : World) : (part 103 (cellsW xs) i).run Try.prog w = .ok (.int .u32 (xs.getD i 0)) w := by
  simp [part, cellsW, hi, go_sem]
theorem eqItems_words (d : Nat) (xs ys : List Int) (w : World) : ∀ (is : List Nat), (∀ i ∈ is, i < xs.length ∧ i < ys.length) →
    (Op.eqItems (d + 1) 103 1 (cellsW xs) (cellsW ys) is).run Try.prog w = .ok (is.all fun i => xs.getD i 0 == ys.getD i 0) w
  | [], _ => by simp [Op.eqItems]
  | i :: is, h => by
    have hi := h i (by simp)
    have ih := eqItems_words d xs ys w is (fun j hj => h j (by simp [hj]))
    simp only [Op.eqItems, Sem.run_bind, Nat.mul_one, part_word xs i hi.1 w, part_word ys i hi.2 w, Result.andThen_ok, run_equalIn_int w d 103 .u32 .u32 _ _ Try.underlying103]
    cases hb : (xs.getD i 0 == ys.getD i 0)
    · rw [List.all_cons, hb, Bool.false_and]; simp
    · simp only [Bool.not_true, Bool.false_eq_true, if_false, ih]
      rw [List.all_cons, hb, Bool.true_and]
end Go.Proofs.Ytoghhjljmhdioaa
namespace Go.Proofs.Ytoghhjljmhdioaa
open Go.RowKit

/-- How often, away from nought, and what is left. -/
def quoN (neg : Bool) (X Y : Nat) : Nat := if neg = true ∧ X % Y ≠ 0 then X / Y + 1 else X / Y
def remN (neg : Bool) (X Y : Nat) : Nat := if neg = true ∧ X % Y ≠ 0 then Y - X % Y else X % Y

theorem wpList_want {P : Program} {ops : Array Oper} {rest : List Oper} {o : Oper} {a : Act} {w : World} {Q : Exit → Act → World → Prop} (hw : Region.wanted o (yielded ops a.tmps) = true) (h : o.wp P a w (wpList P ops Q rest) Q) : wpList P ops Q (o :: rest) a w := by
  unfold wpList
  rw [if_pos hw]
  exact .inl h
theorem run_neq_bool (a : Act) (w : World) {o : Oper} {x y : Operand} {p q : Bool} (hx : a.eval x = .bool p) (hy : a.eval y = .bool q) (ho : o.op = .binOp .neq 4 x y 4) : (execOp a.eval o).run Try.prog w = .ok (.value (.bool (p != q))) w := by
  simp only [execOp, ho, hx, hy]
  simp [go_sem]
  cases p <;> cases q <;> rfl
theorem size25 {u v : Value} : (Try.prog.info? 87).map (·.size) = some (#[u, v] : Array Value).size := by
  have : (Try.prog.info? 87).map (·.size) = some 2 := by kernel_rfl
  exact this
theorem ownB_setRow {w : World} {base b : Nat} {v : Value} {xs : List Int} {C : Array Value} (h : OwnB w base v xs) (hb : b < base) : OwnB (w.setRow b C) base v xs := by
  have hbyte : ∀ x ∈ xs, 0 ≤ x ∧ x < 256 := by obtain ⟨_, _, _, _, hB⟩ := h; exact hB.byte
  obtain ⟨h1, h2⟩ := h.1
  refine ownB_of (n := xs.length) ⟨h1, ?_⟩ hbyte
  rcases h2 with h2 | ⟨g, cap, cur, hv, hg, hh, h3⟩
  · exact .inl h2
  · exact .inr ⟨g, cap, cur, hv, hg, (setRow_other w b g C (by omega)).trans hh, h3⟩
theorem OwnB.drew1 {w : World} {base : Nat} {v : Value} {xs : List Int} (h : OwnB w base v xs) : OwnB { w with drawn := w.drawn + 1 } base v xs := h.below (Below.refl _ _).drew
theorem eval_of {a : Act} {k : Nat} {v : Value} (h : a.tmps[k]?.getD undef = v) : a.eval (.tmp k) = v := by simpa [Act.eval] using h
theorem wp_value {P : Program} {o : Oper} {a : Act} {w w' : World} {K : Act → World → Prop} {Q : Exit → Act → World → Prop} {v : Value} (h : (execOp a.eval o).run P w = .ok (.value v) w') (hk : K (a.put o.dst v) w') : o.wp P a w K Q := by
  unfold Oper.wp; rw [h]; exact hk
theorem wp_enter {P : Program} {o : Oper} {a : Act} {w : World} {K : Act → World → Prop} {Q : Exit → Act → World → Prop} {f : FuncId} {args : Array Value} (h : (execOp a.eval o).run P w = .ok (.enter f args) w)
    (hc : Calls P f args w fun e w' => ∃ v, e = .returned v ∧ K (a.put o.dst v) w') : o.wp P a w K Q := by
  unfold Oper.wp; rw [h]
  refine hc.mono ?_
  rintro e w' ⟨v, rfl, hk⟩
  exact hk
end Go.Proofs.Ytoghhjljmhdioaa
namespace Go.Proofs.Ytoghhjljmhdioaa
open Go.RowKit

theorem alloc3 (w : World) (o0 o1 o2 : Obj) :
    (((w.alloc o0).alloc o1).alloc o2).heap[w.heap.size]? = some o0 ∧ (((w.alloc o0).alloc o1).alloc o2).heap[w.heap.size + 1]? = some o1 ∧ (((w.alloc o0).alloc o1).alloc o2).heap[w.heap.size + 2]? = some o2 ∧ Below w.heap.size w (((w.alloc o0).alloc o1).alloc o2) ∧ (((w.alloc o0).alloc o1).alloc o2).heap.size = w.heap.size + 3 := by
  have s2 : ((w.alloc o0).alloc o1).heap.size = w.heap.size + 2 := by simp
  have e2 := heap_alloc_new ((w.alloc o0).alloc o1) o2
  rw [s2] at e2
  exact ⟨(Below.heap_alloc _ _ _ (by simp; omega)).trans (heap_alloc2_old w _ _), (Below.heap_alloc _ _ _ (by simp)).trans (heap_alloc2_new w _ _), e2, (box2 w _ _).alloc (by simp; omega) _, by simp⟩

theorem mag7' : mag (-7 : Int).natAbs = [7] := by decide
theorem mag7 : mag (7 : Int).natAbs = [7] := by decide
theorem mag2 : mag (2 : Int).natAbs = [2] := by decide
theorem mag2' : mag (-2 : Int).natAbs = [2] := by decide
theorem quoN72 : quoN true (val8 [7]) (val8 [2]) = 4 := by decide
theorem remN72 : remN true (val8 [7]) (val8 [2]) = 1 := by decide
theorem mag4 : mag 4 = [4] := by decide
theorem mag1 : mag 1 = [1] := by decide
theorem mag256 : mag (256 : Int).natAbs = [1, 0] := by decide
theorem dec4 : strOfNums ([45] ++ dec 4) = ⟨#[45, 52]⟩ := by decide +kernel
theorem dec1 : strOfNums ([45] ++ dec 1) = ⟨#[45, 49]⟩ := by decide +kernel
theorem dec256 : strOfNums (dec 256) = ⟨#[50, 53, 54]⟩ := by decide +kernel
end Go.Proofs.Ytoghhjljmhdioaa
namespace Go.Proofs.Ytoghhjljmhdioaa
open Go.RowKit

/-- What is made of a number that may be too large. -/
def fitB (neg : Bool) (V : Nat) : Bool := neg && decide (V ≠ 0) && decide (blen V ≤ 128)
def fitE (V : Nat) : Int := if blen V ≤ 128 then 0 else 24
def fitM (V : Nat) : List Int := if blen V ≤ 128 then mag V else []
theorem pack_any {b off len cap V : Nat} {ws : List Int} {w : World} (neg : Bool) (h : IsW w (some ⟨b, off, none⟩) len cap ws) (hl : len ≤ 1000) (hv : val32 ws = V) :
    Calls Try.prog 63 #[.bool neg, .slice (some ⟨b, off, none⟩) len cap] w fun e w' => ∃ v, e = .returned (.tuple #[.agg #[.bool (fitB neg V), v], .int .i64 (fitE V)]) ∧ OwnB w' w.heap.size v (fitM V) ∧ Below w.heap.size w w' := by
  by_cases hm : blen V ≤ 128
  · refine (pack_fit neg h hl hv hm).mono ?_
    rintro e w' ⟨v, rfl, hO, hb⟩
    refine ⟨v, ?_, ?_, hb⟩
    · unfold fitB fitE; rw [if_pos hm, decide_eq_true hm, Bool.and_true]
    · unfold fitM; rw [if_pos hm]; exact hO
  · subst hv
    have hVl : val32 ws < 4294967296 ^ len := by rw [← h.size]; exact val32_lt ws h.word
    have hb4 : blen (val32 ws) ≤ 4 * len := (blen_le _ _).2 (by rw [Nat.pow_mul]; exact hVl)
    refine (pack_large neg h hl (by omega) (by omega)).mono ?_
    rintro e w' ⟨rfl, hb⟩
    refine ⟨.slice none 0 0, ?_, ?_, hb⟩
    · unfold fitB fitE; rw [if_neg hm, decide_eq_false hm, Bool.and_false]
    · unfold fitM; rw [if_neg hm]; exact ownB_of (n := 0) (World.ownsRow_nil _ _ _ _) (by simp)

/-- The sum of two numbers with signs: its sign, and how far it is from nought. -/
def sumNeg (n1 n2 : Bool) (X Y : Nat) : Bool := if n1 = n2 then n1 else if X < Y then n2 else n1
def sumMag (n1 n2 : Bool) (X Y : Nat) : Nat := if n1 = n2 then X + Y else if X < Y then Y - X else X - Y

end Go.Proofs.Ytoghhjljmhdioaa
