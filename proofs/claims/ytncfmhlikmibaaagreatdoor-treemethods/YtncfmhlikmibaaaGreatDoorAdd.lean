/- Right, of the program and of the document; taken. -/
import Derived.Test.YtncfmhlikmibaaaGreatDoorIsB
import Derived.Lib.EndianBits
import Derived.Deep.RegionLawGrows
import Derived.Deep.QuietTactic
import Derived.StillTailTactics
import Derived.Deep.WholeRow
import Derived.Orders
import Derived.BigQuiet
import Derived.Deep.RegionWith
import Derived.ChangeKeysEq
namespace Go.Proofs.YtncfmhlikmibaaaGreatDoor
set_option maxHeartbeats 2000000
set_option maxRecDepth 100000
open Go.RowKit

theorem Zfg (w : World) (o : Obj) : Below w.heap.size w (w.alloc o) := (Below.refl _ _).alloc (Nat.le_refl _) o

theorem Zbb {a b : Bool} (h : a = b) : Ending.returned (.bool a) = .returned (.bool b) := by rw [h]

open Go.RowKit

theorem Zle (P x t p : Nat) (hP : 0 < P) (ht : t < 4294967296) (hp : p < 4294967296) : (x % P * t + p) / P < 4294967296 := by
 refine Nat.div_lt_of_lt_mul ?_
 have h1 := Nat.mod_lt x hP
 have h2 : x % P * t ≤ (P - 1) * 4294967295 := Nat.mul_le_mul (by omega) (by omega)
 have h3 : P * 4294967296 = (P - 1) * 4294967295 + (P - 1) + 4294967296 := by
  obtain ⟨q, rfl⟩ : ∃ q, P = q + 1 := ⟨P - 1, by omega⟩
  simp; omega
 omega
theorem mul_lt64 (c d t : Nat) (hc : c < 4294967296) (hd : d < 4294967296) (ht : t < 4294967296) : c + d * t < 18446744073709551616 ∧ d * t < 18446744073709551616 := by
 have : d * t ≤ 4294967295 * 4294967295 := Nat.mul_le_mul (by omega) (by omega)
 omega

set_option maxRecDepth 100000 in
theorem Zhp (b tt n cap V t p : Nat) (rest : List Int) (w : World) (h : Arr w b tt (words n V ++ rest)) (hn : n ≤ 1000) (hn0 : n ≤ cap) (ht : t < 4294967296) (hp : p < 4294967296) :
  Calls Tryz.prog 131 #[.slice (some ⟨b, 0, none⟩) n cap, .int .u32 (t : Int), .int .u32 (p : Int)] w fun e w' => e = .returned (.tuple #[]) ∧ w' = w.setRow b (Zay (words n (V * t + p) ++ rest)) := by
 go_enter Tryz.func131, Tryz.ntmps131
 go_wp2
 go_loopw [12, 6] (fun i c wr => ∃ k : Nat, k ≤ n ∧ i = .int .i64 k ∧ c = .int .u64 (((V % 4294967296 ^ k * t + p) / 4294967296 ^ k : Nat) : Int) ∧ wr = w.setRow b (Zay (mix n (V * t + p) V k ++ rest))) (fun i _ _ => n - (intOf i).toNat)
 case atStart =>
  refine ⟨0, Nat.zero_le _, rfl, by simp [Nat.mod_one], ?_⟩
  rw [mix_zero]; exact h.setW_self.symm
 obtain ⟨k, hk, rfl, rfl, rfl⟩ := hrel
 by_cases hlt : k < n
 ·have hP : 0 < 4294967296 ^ k := Nat.pow_pos (by decide)
  have hA := h.setW (mix n (V * t + p) V k ++ rest)
  have hc0 := hA.cell k (by rw [List.length_append, Zfs]; omega)
  have hf := hA.frozen k
  rw [app_getD _ _ _ (by rw [Zfs]; exact hlt), mix_getD _ _ _ _ _ hlt, if_neg (Nat.lt_irrefl _)] at hc0
  obtain ⟨c, hc⟩ : ∃ c, (V % 4294967296 ^ k * t + p) / 4294967296 ^ k = c := ⟨_, rfl⟩
  obtain ⟨d, hd⟩ : ∃ d, V / 4294967296 ^ k % 4294967296 = d := ⟨_, rfl⟩
  have hc32 : c < 4294967296 := by rw [← hc]; exact Zle _ _ _ _ hP ht hp
  have hd32 : d < 4294967296 := by rw [← hd]; exact Nat.mod_lt _ (by decide)
  have e1 := Zqd (4294967296 ^ k) V t p hP
  have e2 := mul_word (4294967296 ^ k) V t p hP
  rw [hc, hd] at e1 e2
  rw [← Nat.pow_succ] at e1
  have H1 : Hid ((V % 4294967296 ^ (k + 1) * t + p) / 4294967296 ^ (k + 1) = (c + d * t) / 4294967296) := e1
  have H2 : Hid ((V * t + p) / 4294967296 ^ k % 4294967296 = (c + d * t) % 4294967296) := e2
  obtain ⟨m1, m2⟩ := mul_lt64 c d t hc32 hd32 ht
  obtain ⟨m, hm⟩ : ∃ m, d * t = m := ⟨_, rfl⟩
  have hmi : (d : Int) * (t : Int) = (m : Int) := by rw [← hm]; simp
  rw [hd] at hc0
  rw [hc]
  rw [hm] at m1 m2 H1 H2
  have hst := h.setW_cell (mix n (V * t + p) V k ++ rest) k (((c + m) % 4294967296 : Nat) : Int)
  rw [app_set _ _ _ _ (by rw [Zfs]; exact hlt), ← H2.out, mix_up _ _ _ _ hlt, H2.out] at hst
  clear hA e1 e2 hc hd hm
  go_wp2
  go_roundw
  case rel =>
   refine ⟨k + 1, by omega, by go_num, ?_, ?_⟩
   ·rw [H1.out]; simp
   rw [← hst]; simp
  case measure => simp [intOf]; omega
 obtain rfl : k = n := by omega
 go_wp2
 go_end0
 exact ⟨rfl, by rw [mix_full]⟩

open Go.RowKit

theorem Zi7 : ∀ (k c v : Nat), Zb9 k (c * 256 ^ k + v) = Zb9 k v
 | 0, _, _ => rfl
 | k + 1, c, v => by
  unfold Zb9
  have e1 : (c * 256 ^ (k + 1) + v) / 256 = c * 256 ^ k + v / 256 := by rw [Nat.pow_succ, ← Nat.mul_assoc]; omega
  have e2 : (c * 256 ^ (k + 1) + v) % 256 = v % 256 := by rw [Nat.pow_succ, ← Nat.mul_assoc]; omega
  rw [e1, e2, Zi7 k c]
theorem Zep : ∀ (ys : List Int), (∀ x ∈ ys, 0 ≤ x ∧ x < 256) → Zb9 ys.length (Zbv ys) = ys
 | [], _ => rfl
 | b :: r, h => by
  have h0 := h b (by simp)
  have hr := Zei r (fun x hx => h x (by simp [hx]))
  have ih := Zep r (fun x hx => h x (by simp [hx]))
  rw [List.length_cons, Zc5, Zdq, Zi7, ih]
  congr 1
  have e : (b.toNat * 256 ^ r.length + Zbv r) / 256 ^ r.length = b.toNat := by
   rw [Nat.add_comm, Nat.add_mul_div_right _ _ (Nat.pow_pos (by decide)), Nat.div_eq_of_lt hr]; omega
  rw [e]; omega
theorem mag_cons (b : Int) (r : List Int) (h : ∀ x ∈ b :: r, 0 ≤ x ∧ x < 256) (hb : b ≠ 0) : mag (Zbv (b :: r)) = b :: r ∧ Zbv (b :: r) ≠ 0 := by
 have h0 := h b (by simp)
 have hlt := Zei (b :: r) h
 rw [List.length_cons] at hlt
 have hle : 256 ^ r.length ≤ Zbv (b :: r) := by
  rw [Zdq]
  have : 1 * 256 ^ r.length ≤ b.toNat * 256 ^ r.length := Nat.mul_le_mul_right _ (by omega)
  omega
 refine ⟨?_, ?_⟩
 ·unfold mag
  rw [Zhm _ _ hlt hle]
  exact Zep (b :: r) h
 have : 0 < 256 ^ r.length := Nat.pow_pos (by decide)
 omega
theorem Zo4 (r : List Int) : Zbv (0 :: r) = Zbv r := by rw [Zdq]; simp

def Zox (a : Option Addr) (k cap : Nat) : Option Addr := if cap = k then a else a.map (·.add (k * 1))
theorem run_from (a : Option Addr) (len cap k : Nat) (w : World) (h : k ≤ len) :
  (Instr.slice 66 (.slice a len cap) (some (.int .i64 (k : Int))) none none).run Tryz.prog w = .ok (.slice (Zox a k cap) (len - k) (cap - k)) w := by
 have ht : Tryz.prog.underlying 66 = some (.slice (Tryz.prog.elem 66)) := by simp [Program.elem, Tryz.underlying66]
 have he : Tryz.prog.elem 66 = 5 := by simp [Program.elem, Tryz.underlying66]
 have hz : (sizeOf 5).run Tryz.prog w = .ok 1 w := by
  obtain ⟨i0, hi, hz0, hz1, hz2⟩ := info_parts Tryz.info5
  simp [sizeOf, typeInfo, hi, hz1]
 rw [run_slice_l w 66 _ _ _ ht .i64 _ (by omega) (by omega), he, hz]
 simp only [Result.andThen, sliced, Int.toNat_natCast, Zox]
theorem IsB.window {w : World} {a : Option Addr} {len cap : Nat} {xs : List Int} (h : IsB w a len cap xs) (k n : Nat) (hk : k + n ≤ len) : IsB w (Zox a k cap) n (cap - k) ((xs.drop k).take n) := by
 have hs := h.size
 have hr := h.room
 have hm := h.most
 refine ⟨by simp; omega, by omega, by omega, ?_, fun x hx => h.byte x (List.mem_of_mem_drop (List.mem_of_mem_take hx)), fun h0 => ?_⟩
 ·intro hn
  unfold Zox at hn
  split at hn
  ·omega
  have : a = none := by cases a <;> simp_all
  have := h.nil0 this
  omega
 obtain ⟨b, off, rfl, hc⟩ := h.cells (by omega)
 refine ⟨b, off + k, ?_, fun i hi => ?_⟩
 ·unfold Zox
  rw [if_neg (by omega)]
  simp [Addr.add]
 rw [Nat.add_assoc, hc (k + i) (by omega)]
 simp [hi]
theorem IsB.from {w : World} {a : Option Addr} {len cap : Nat} {xs : List Int} (h : IsB w a len cap xs) (k : Nat) (hk : k ≤ len) : IsB w (Zox a k cap) (len - k) (cap - k) (xs.drop k) := by
 have := h.window k (len - k) (by omega)
 rwa [List.take_of_length_le (by simp; have := h.size; omega)] at this

theorem Zo6 (xs : List Int) (k : Nat) (hk : k < xs.length) (h0 : xs.getD k 0 = 0) : Zbv (xs.drop k) = Zbv (xs.drop (k + 1)) := by
 rw [List.drop_eq_getElem_cons hk]
 have : xs[k] = 0 := by simpa [List.getD, hk] using h0
 rw [this, Zo4]
theorem mag_drop (xs : List Int) (k : Nat) (hk : k < xs.length) (hb : ∀ x ∈ xs, 0 ≤ x ∧ x < 256) (h0 : xs.getD k 0 ≠ 0) : mag (Zbv (xs.drop k)) = xs.drop k ∧ Zbv (xs.drop k) ≠ 0 := by
 have hd : ∀ x ∈ xs.drop k, 0 ≤ x ∧ x < 256 := fun x hx => hb x (List.mem_of_mem_drop hx)
 rw [List.drop_eq_getElem_cons hk] at hd ⊢
 exact mag_cons _ _ hd (by simpa [List.getD, hk] using h0)
open Go.RowKit

theorem pack_fit {b off len cap V : Nat} {ws : List Int} {w : World} (neg : Bool) (h : IsW w (some ⟨b, off, none⟩) len cap ws) (hl : len ≤ 1000) (hv : Zaz ws = V) (hm : Zct V ≤ 128) :
  Calls Tryz.prog 114 #[.bool neg, .slice (some ⟨b, off, none⟩) len cap] w fun e w' => ∃ v, e = .returned (.tuple #[.agg #[.bool (neg && decide (V ≠ 0)), v], .int .i64 0]) ∧ Zdp w' w.heap.size v (mag V) ∧ Below w.heap.size w w' := by
 subst hv
 by_cases hz : Zaz ws = 0
 ·refine (Zp3 neg h hl hz).mono ?_
  rintro e w' ⟨rfl, hb⟩
  refine ⟨.slice none 0 0, ?_, ?_, hb⟩
  ·rw [hz]; simp
  rw [hz, mag_zero]
  exact Zbq (n := 0) (World.ownsRow_nil _ _ _ _) (by simp)
 refine (pack_ok neg h hl hz hm).mono ?_
 rintro e w' ⟨g, rfl, ho, hb⟩
 exact ⟨_, by simp [hz], Zbq ho (mag_lt _), hb⟩

theorem Zql {w : World} {b : Nat} {v0 v1 : Value} (h : w.heap[b]? = some (.cells #[v0, v1] 115 (0, 0))) :
  w.cell? ⟨b, 0, none⟩ = some v0 ∧ w.cell? ⟨b, 0 + 1, none⟩ = some v1 ∧ w.frozen? ⟨b, 0, none⟩ = false ∧ w.frozen? ⟨b, 0 + 1, none⟩ = false :=
 ⟨by rw [cell_of_row w _ 0 _ _ _ h]; rfl, by rw [cell_of_row w _ (0 + 1) _ _ _ h]; rfl, frozen_of_row w b 0 _ _ h, frozen_of_row w b (0 + 1) _ _ h⟩

theorem Zdp.mono {w : World} {b b' : Nat} {v : Value} {xs : List Int} (h : Zdp w b' v xs) (hb : b ≤ b') : Zdp w b v xs := ⟨Zm4 h.1 hb, h.2⟩
theorem Zdp.set {w : World} {base b i : Nat} {v : Value} {xs : List Int} (h : Zdp w base v xs) (hb : b < base) (x : Value) : Zdp (w.setCell ⟨b, i, none⟩ x) base v xs :=
 Zbq (ownsRow_setCell_below h.1 hb x) (by obtain ⟨_, _, _, _, hB⟩ := h; exact hB.byte)
theorem Zdp.alloc {w : World} {base : Nat} {v : Value} {xs : List Int} (h : Zdp w base v xs) (o : Obj) : Zdp (w.alloc o) base v xs := h.below ((Below.refl _ _).alloc (Nat.le_refl _) o)
theorem Zdp.put {w : World} {base b b0 : Nat} {v x y : Value} {xs : List Int} (h : Zdp w base v xs) (hb : b < base) (h0 : b0 ≤ base) : Zdp ((w.setCell ⟨b, 0, none⟩ x).setCell ⟨b, 1, none⟩ y) b0 v xs :=
 ((h.set hb x).set hb y).mono h0
theorem Zbg {w w1 : World} {b0 b : Nat} {x y : Value} (h : Below b0 w w1) (hb : b0 ≤ b) : Below b0 w ((w1.setCell ⟨b, 0, none⟩ x).setCell ⟨b, 1, none⟩ y) := (h.setCell hb x).setCell hb y

open Go.RowKit

theorem Zc2 {ops : Array Oper} {o : Oper} {a : Act} {w : World} {K : Act → World → Prop} {Q : Exit → Act → World → Prop} {E : Prop}
  (hg : o.guard = none) (s x : Operand) (hop : o.op = Op.call { callee := Callee.builtin Builtin.append, args := #[s, x], argTypes := #[66, 66] })
  (hs : a.eval s = .slice none 0 0) (ab : Option Addr) (len cap : Nat) (ys : List Int) (hx : a.eval x = .slice ab len cap) (hB : IsB w ab len cap ys) (hl : len ≤ 140737488355328)
  (hK : ∀ av cv w', Zdp w' w.heap.size (.slice av len cv) ys → Below w.heap.size w w' → K (a.put o.dst (.slice av len cv)) w') :
  if Region.wanted o (yielded ops a.tmps) = true then Oper.wp Tryz.prog o a w K Q else E := by
 obtain ⟨i0, hi, hz0, hz1, hz2⟩ := info_parts Tryz.info5
 have hw : Region.wanted o (yielded ops a.tmps) = true := by simp [Region.wanted, hg]
 rw [if_pos hw]
 cases ab with
 | none =>
  obtain ⟨rfl, rfl⟩ := hB.nil' rfl
  obtain rfl : ys = [] := List.eq_nil_of_length_eq_zero hB.size
  have := hK none 0 w (Zbq (n := 0) (World.ownsRow_nil _ _ _ _) (by simp)) (Below.refl _ _)
  unfold Oper.wp
  simp [execOp, hop, resolve, invoke, builtin, hs, hx, Result.andThen, Builtin.append_]
  exact this
 | some ad =>
  obtain ⟨v', w', hrun, r1, r2, _⟩ := run_append_own (P := Tryz.prog) w w.heap.size 66 o.type 5 i0 (.int .u8 0) 1 1 Tryz.underlying66 hi hz0 hz1 hz2 rfl (by decide) (.slice none 0 0) 0 [] (World.ownsRow_nil w _ 5 1) ad len cap (ys.map (Value.int .u8)) hB.lenMap (hB.cellsAt ad rfl) hB.one (by unfold maxLen; omega) (by omega) (Nat.le_refl _)
  rw [List.nil_append] at r1
  have hO := Zbq r1 hB.byte
  have hbel : Below w.heap.size w w' := (Below.refl _ _).grown r2 (Nat.le_refl _) (by simp [Value.ownBlock])
  obtain ⟨av, cv, rfl, _⟩ := hO.2
  rw [hB.size] at hO hrun
  unfold Oper.wp
  simp [execOp, hop, resolve, invoke, builtin, hs, hx, hrun, Result.andThen]
  exact hK av cv w' hO hbel

open Go.RowKit

theorem Zcf {w : World} {b t : Nat} {v0 v1 : Value} (h : w.heap[b]? = some (.cells #[v0, v1] t (0, 0))) :
  w.cell? ⟨b, 0, none⟩ = some v0 ∧ w.cell? ⟨b, 0 + 1, none⟩ = some v1 ∧ w.frozen? ⟨b, 0, none⟩ = false ∧ w.frozen? ⟨b, 0 + 1, none⟩ = false :=
 ⟨by rw [cell_of_row w _ 0 _ _ _ h]; rfl, by rw [cell_of_row w _ (0 + 1) _ _ _ h]; rfl, frozen_of_row w b 0 _ _ h, frozen_of_row w b (0 + 1) _ _ h⟩
theorem var2d {w w1 : World} {o1 o2 : Obj} (hb : Below ((w.alloc o1).alloc o2).drew.heap.size ((w.alloc o1).alloc o2).drew w1) : w1.heap[w.heap.size]? = some o1 ∧ w1.heap[w.heap.size + 1]? = some o2 ∧ Below w.heap.size w w1 := by
 have hs : ((w.alloc o1).alloc o2).drew.heap.size = w.heap.size + 2 := by show ((w.alloc o1).alloc o2).heap.size = _; simp
 refine ⟨(hb.block _ (by omega)).trans ((Below.heap_alloc _ _ _ (by simp)).trans (heap_alloc_new w _)), (hb.block _ (by omega)).trans ?_, ?_⟩
 ·show ((w.alloc o1).alloc o2).heap[w.heap.size + 1]? = some o2
  have := heap_alloc_new (w.alloc o1) o2
  rwa [show (w.alloc o1).heap.size = w.heap.size + 1 by simp] at this
 exact (((Below.refl w.heap.size w).alloc (Nat.le_refl _) _).alloc (by simp) _).drew.trans (hb.mono (by omega))

set_option maxRecDepth 100000 in
theorem made_any {a : Option Addr} {len cap : Nat} {xs : List Int} {w : World} (neg : Bool) (h : IsB w a len cap xs) (hl : len ≤ 140737488355328) :
  Calls Tryz.prog 119 #[.bool neg, .slice a len cap] w fun e w' => ∃ v, e = .returned (.agg #[.bool (neg && decide (Zbv xs ≠ 0)), v]) ∧ Zdp w' w.heap.size v (mag (Zbv xs)) ∧ Below w.heap.size w w' := by
 have hsz := h.size
 have hbel : Below w.heap.size w (w.alloc (.cells #[.bool false, .slice none 0 0] 101)) := (Below.refl _ _).alloc (Nat.le_refl _) _
 have hI := h.below hbel
 go_enter Tryz.func119, Tryz.ntmps119
 go_wp2
 go_loop [5] (fun n => ∃ k : Nat, k ≤ len ∧ n = .int .i64 k ∧ Hid (Zbv xs = Zbv (xs.drop k))) (fun n => len - (intOf n).toNat)
 case atStart => exact ⟨0, Nat.zero_le _, rfl, by show _ = _; rw [List.drop_zero]⟩
 obtain ⟨k, hk, rfl, hv⟩ := hrel
 have hrun := fun w => run_from a len cap k w hk
 by_cases hlt : k < len
 ·obtain ⟨b, off, rfl, hc⟩ := hI.cells (by omega)
  obtain ⟨c, hc8, hcx, _⟩ := byteAt xs h.byte k (by omega)
  have hck := hc k hlt
  rw [hcx] at hck
  by_cases hc0 : c = 0
  ·have hb0 : ((c : Int) == 0) = true := by simp; omega
   have hnx : Hid (Zbv xs = Zbv (xs.drop (k + 1))) := by
    show _ = _; rw [hv.out]; exact Zo6 xs k (by omega) (by rw [hcx]; omega)
   clear hc hcx
   go_wp2
   go_round
   case rel => exact ⟨k + 1, by omega, by go_num, hnx⟩
   case measure => simp [intOf]; omega
  have hb0 : ((c : Int) == 0) = false := by simp; omega
  obtain ⟨m1, m2⟩ := mag_drop xs k (by omega) h.byte (by rw [hcx]; omega)
  have Hm : Hid (mag (Zbv xs) = xs.drop k) := by show _ = _; rw [hv.out]; exact m1
  have Hd : Hid (decide (Zbv xs ≠ 0) = true) := by show _ = _; rw [hv.out]; simpa using m2
  clear hc hcx m1 m2
  have hW0 : ∀ o, IsB ((w.alloc (Obj.cells #[Value.bool false, Value.slice none 0 0] 101)).alloc o) (Zox (some ⟨b, off, none⟩) k cap) (len - k) (cap - k) (xs.drop k) := fun o => (hI.below ((Below.refl _ _).alloc (Nat.le_refl _) o)).from k (by omega)
  cases neg
  ·skip
   go_wp2
   go_region_law (refine Zc2 rfl (.tmp 29) (.tmp 32) rfl (by simp [Act.eval]) (Zox (some ⟨b, off, none⟩) k cap) (len - k) (cap - k) (xs.drop k) (by simp [Act.eval]) (by exact (hW0 _).below (Below.refl _ _).drew) (by omega) ?_; intro av cv w2 hO2 hb2; obtain ⟨hv1, hv2, hbw⟩ := var2d hb2; obtain ⟨x0, x1, f0, f1⟩ := Zcf hv2; obtain ⟨y0, y1, g0, g1⟩ := Zcf hv1)
   go_wp2
   exact bodyPost_ret (v := .agg #[.bool false, .slice av (len - k) cv]) (by simp [results, Tryz.results119, go_sem, y0, y1]) rfl ⟨_, by rw [Hd.out]; rfl, by rw [Hm.out]; exact (hO2.set (by show _ < ((w.alloc _).alloc _).heap.size; simp) _).put (by show _ < ((w.alloc _).alloc _).heap.size; simp; omega) (by show _ ≤ ((w.alloc _).alloc _).heap.size; simp; omega), Zbg (hbw.setCell (by simp) _) (Nat.le_refl _)⟩
  go_wp2
  go_region_law (refine Zc2 rfl (.tmp 29) (.tmp 32) rfl (by simp [Act.eval]) (Zox (some ⟨b, off, none⟩) k cap) (len - k) (cap - k) (xs.drop k) (by simp [Act.eval]) (by exact (hW0 _).below (Below.refl _ _).drew) (by omega) ?_; intro av cv w2 hO2 hb2; obtain ⟨hv1, hv2, hbw⟩ := var2d hb2; obtain ⟨x0, x1, f0, f1⟩ := Zcf hv2; obtain ⟨y0, y1, g0, g1⟩ := Zcf hv1)
  go_wp2
  exact bodyPost_ret (v := .agg #[.bool true, .slice av (len - k) cv]) (by simp [results, Tryz.results119, go_sem, y0, y1]) rfl ⟨_, by rw [Hd.out]; rfl, by rw [Hm.out]; exact (hO2.set (by show _ < ((w.alloc _).alloc _).heap.size; simp) _).put (by show _ < ((w.alloc _).alloc _).heap.size; simp; omega) (by show _ ≤ ((w.alloc _).alloc _).heap.size; simp; omega), Zbg (hbw.setCell (by simp) _) (Nat.le_refl _)⟩
 obtain rfl : k = len := by omega
 have hd0 : xs.drop k = [] := List.drop_eq_nil_of_le (by omega)
 have Hm : Hid (mag (Zbv xs) = xs.drop k) := by show _ = _; rw [hv.out, hd0]; rfl
 have Hd : Hid (decide (Zbv xs ≠ 0) = false) := by show _ = _; rw [hv.out, hd0]; rfl
 have hW0 : ∀ o, IsB ((w.alloc (Obj.cells #[Value.bool false, Value.slice none 0 0] 101)).alloc o) (Zox a k cap) (k - k) (cap - k) (xs.drop k) := fun o => (hI.below ((Below.refl _ _).alloc (Nat.le_refl _) o)).from k (by omega)
 clear hd0
 cases neg
 ·skip
  go_wp2
  go_region_law (refine Zc2 rfl (.tmp 29) (.tmp 32) rfl (by simp [Act.eval]) (Zox a k cap) (k - k) (cap - k) (xs.drop k) (by simp [Act.eval]) (by exact (hW0 _).below (Below.refl _ _).drew) (by omega) ?_; intro av cv w2 hO2 hb2; obtain ⟨hv1, hv2, hbw⟩ := var2d hb2; obtain ⟨x0, x1, f0, f1⟩ := Zcf hv2; obtain ⟨y0, y1, g0, g1⟩ := Zcf hv1)
  go_wp2
  exact bodyPost_ret (v := .agg #[.bool false, .slice av (k - k) cv]) (by simp [results, Tryz.results119, go_sem, y0, y1]) rfl ⟨_, by rw [Hd.out]; rfl, by rw [Hm.out]; exact (hO2.set (by show _ < ((w.alloc _).alloc _).heap.size; simp) _).put (by show _ < ((w.alloc _).alloc _).heap.size; simp; omega) (by show _ ≤ ((w.alloc _).alloc _).heap.size; simp; omega), Zbg (hbw.setCell (by simp) _) (Nat.le_refl _)⟩
 go_wp2
 go_region_law (refine Zc2 rfl (.tmp 29) (.tmp 32) rfl (by simp [Act.eval]) (Zox a k cap) (k - k) (cap - k) (xs.drop k) (by simp [Act.eval]) (by exact (hW0 _).below (Below.refl _ _).drew) (by omega) ?_; intro av cv w2 hO2 hb2; obtain ⟨hv1, hv2, hbw⟩ := var2d hb2; obtain ⟨x0, x1, f0, f1⟩ := Zcf hv2; obtain ⟨y0, y1, g0, g1⟩ := Zcf hv1)
 go_wp2
 exact bodyPost_ret (v := .agg #[.bool false, .slice av (k - k) cv]) (by simp [results, Tryz.results119, go_sem, y0, y1]) rfl ⟨_, by rw [Hd.out]; rfl, by rw [Hm.out]; exact (hO2.set (by show _ < ((w.alloc _).alloc _).heap.size; simp) _).put (by show _ < ((w.alloc _).alloc _).heap.size; simp; omega) (by show _ ≤ ((w.alloc _).alloc _).heap.size; simp; omega), Zbg (hbw.setCell (by simp) _) (Nat.le_refl _)⟩
open Go.RowKit

theorem box2 (w : World) (o1 o2 : Obj) : Below w.heap.size w ((w.alloc o1).alloc o2) := (Zfg w _).alloc (by simp) _
open Go.RowKit

open Go.RowKit

open Go.RowKit

def decN : Nat → Nat → List Int
 | 0, _ => []
 | k + 1, n => decN k (n / 10) ++ [((48 + n % 10 : Nat) : Int)]
def noughts : List Int := List.replicate 315 0
open Go.RowKit

theorem Zmx (c : Int) (r : List Int) : (strOfNums (c :: r)).extract 1 (r.length + 1) = strOfNums r := by
 apply ByteArray.ext
 simp [strOfNums, ByteArray.data_extract]
 exact List.take_of_length_le (by simp)

def dec (V : Nat) : List Int := (decN 315 V).dropWhile (· == 48)

open Go.RowKit

open Go

def Zdd (ops : Array Oper) : Bool := (List.range ops.size).all fun i => match ops[i]? with
 | none => false
 | some o => o.guard.isNone && o.after.all fun e => !Region.binds .any e || decide (e.on < i)

theorem Zg2 {ops : Array Oper} (h : Zdd ops = true) {i : Nat} {o : Oper} (ho : ops[i]? = some o) : o.guard = none ∧ ∀ e ∈ o.after, Region.binds .any e = true → e.on < i := by
 unfold Zdd at h
 have hi : i < ops.size := by
  rcases Nat.lt_or_ge i ops.size with h' | h'
  ·exact h'
  rw [Array.getElem?_eq_none h'] at ho; cases ho
 have h1 := (List.all_eq_true.1 h) i (List.mem_range.2 hi)
 simp only [ho, Bool.and_eq_true, Array.all_eq_true_iff_forall_mem, Bool.or_eq_true, Bool.not_eq_true', decide_eq_true_eq] at h1
 refine ⟨by simpa using h1.1, fun e he hb => ?_⟩
 rcases h1.2 e he with h2 | h2
 ·rw [h2] at hb; cases hb
 exact h2

theorem Zpr {ops : Array Oper} (hp : Zdd ops = true) {L : Array Bool} (hs : L.size = ops.size) (hr : Region.ready .any ops L = []) : ∀ i, i < ops.size → L.getD i false = true := by
 intro i
 induction i using Nat.strongRecOn with
 | ind i ih =>
  intro hi
  rcases hL : L.getD i false with _ | _
  ·exfalso
   have hi' : i < L.size := by omega
   have hoi : ops[i]? = some ops[i] := Array.getElem?_eq_getElem hi
   have hm : i ∈ Region.ready .any ops L := by
    refine mem_ready.2 ⟨?_, ops[i], hoi, fun e he hb => ?_⟩
    ·simp [hi'] at hL ⊢; exact hL
    have := (Zg2 hp hoi).2 e he hb
    exact ih _ this (by omega)
   rw [hr] at hm
   cases hm
  rfl

def Zc1 (L : Array Bool) : Nat := (L.toList.filter (· == false)).length
theorem Zek {L : Array Bool} (h : Zc1 L = 0) : ∀ i, i < L.size → L.getD i true = true := by
 intro i hi
 unfold Zc1 at h
 have h' : L.toList.filter (· == false) = [] := List.eq_nil_of_length_eq_zero h
 rw [List.filter_eq_nil_iff] at h'
 have := h' L[i] (by simp)
 simp [hi]
 simpa using this
theorem Zi3 : ∀ (l : List Bool) (i : Nat), l[i]? = some false → ((l.set i true).filter (· == false)).length + 1 = (l.filter (· == false)).length
 | [], i, h => by simp at h
 | b :: l, 0, h => by
  simp at h
  subst h
  simp
 | b :: l, i + 1, h => by
  have ih := Zi3 l i (by simpa using h)
  rw [List.set_cons_succ]
  cases b <;> simp only [List.filter_cons] <;> simp only [beq_self_eq_true, if_true, List.length_cons, Bool.true_eq_false, beq_iff_eq, if_false] <;> omega
theorem Zd2 {L : Array Bool} {i : Nat} (h : L.getD i true = false) : Zc1 (L.setIfInBounds i true) + 1 = Zc1 L := by
 unfold Zc1
 rw [Array.toList_setIfInBounds]
 refine Zi3 _ i ?_
 rcases Nat.lt_or_ge i L.size with h' | h'
 ·simp [h'] at h ⊢; exact h
 simp [Array.getElem?_eq_none h'] at h

def Zcy (ops : Array Oper) (D : Nat → Prop) : Prop := ∀ (j : Nat) (o : Oper), ops[j]? = some o → D j → ∀ e ∈ o.after, Region.binds .any e = true → D e.on

theorem Zkz {P : Program} {ops : Array Oper} {Q : Exit → Act → World → Prop} (hp : Zdd ops = true) (I : (Nat → Prop) → Act → World → Prop)
  (hmono : ∀ D D' a w, (∀ j, D j ↔ D' j) → I D a w → I D' a w)
  (hstep : ∀ (i : Nat) (o : Oper), ops[i]? = some o → ∀ D a w, I D a w → ¬ D i → Zcy ops D → (∀ e ∈ o.after, Region.binds .any e = true → D e.on) → o.wp P a w (I fun j => j = i ∨ D j) Q)
  (hend : ∀ D a w, I D a w → (∀ i, i < ops.size → D i) → Q .normal a w) :
  ∀ (fuel : Nat) (L : Array Bool) (a : Act) (w : World), L.size = ops.size → Zc1 L ≤ fuel → Zcy ops (fun j => L.getD j false = true) → I (fun j => L.getD j false = true) a w → wpAny P .any ops Q fuel L a w
 | 0, L, a, w, hs, hf, hcl, hI => by
  have hall := Zek (show Zc1 L = 0 by omega)
  refine ⟨?_, hend _ a w hI fun i hi => ?_⟩
  ·cases hr : Region.ready .any ops L with
   | nil => rfl
   | cons x xs =>
    have hx : x ∈ Region.ready .any ops L := by rw [hr]; simp
    obtain ⟨h1, o, ho, _⟩ := mem_ready.1 hx
    have hx' : x < L.size := by
     rcases Nat.lt_or_ge x L.size with h' | h'
     ·exact h'
     rw [hs] at h'; rw [Array.getElem?_eq_none h'] at ho; cases ho
    rw [hall x hx'] at h1; cases h1
  have := hall i (by omega)
  simp [show i < L.size by omega] at this ⊢; exact this
 | fuel + 1, L, a, w, hs, hf, hcl, hI => by
  refine ⟨fun hr => hend _ a w hI fun i hi => Zpr hp hs hr i hi, fun i hi => ?_⟩
  obtain ⟨h1, o, ho, hd⟩ := mem_ready.1 hi
  have hi' : i < L.size := by
   rcases Nat.lt_or_ge i L.size with h' | h'
   ·exact h'
   rw [hs] at h'; rw [Array.getElem?_eq_none h'] at ho; cases ho
  have hn : ¬ L.getD i false = true := by
   simp [hi'] at h1 ⊢; exact h1
  have hst := hstep i o ho _ a w hI hn hcl hd
  unfold wpOp
  simp only [ho]
  have hw : Region.wanted o (yielded ops a.tmps) = true := by
   unfold Region.wanted; rw [(Zg2 hp ho).1]
  rw [if_pos hw]
  have hset : ∀ j, (j = i ∨ L.getD j false = true) ↔ (L.setIfInBounds i true).getD j false = true := fun j => by
   by_cases hj : j = i
   ·subst hj; simp [hi']
   simp [hj, Ne.symm hj]
  refine .inl (Oper.wp_mono (fun a' w' hI' => ?_) hst)
  refine Zkz hp I hmono hstep hend fuel _ a' w' (by simp [hs]) (by have := Zd2 h1; omega) ?_ (hmono _ _ a' w' hset hI')
  intro j oj hoj hDj e he hb
  rcases (hset j).2 hDj with rfl | hDj
  ·rw [ho] at hoj
   cases hoj
   exact (hset _).1 (.inr (hd e he hb))
  exact (hset _).1 (.inr (hcl j oj hoj hDj e he hb))
theorem Zj7 {P : Program} {ops : Array Oper} {Q : Exit → Act → World → Prop} {id : Nat} {a : Act} {w : World} (hm : P.follows .mixedOrders = true) (hp : Zdd ops = true) (I : (Nat → Prop) → Act → World → Prop)
  (hmono : ∀ D D' a w, (∀ j, D j ↔ D' j) → I D a w → I D' a w)
  (hstart : I (fun _ => False) a { w with drawn := w.drawn + 1 })
  (hstep : ∀ (i : Nat) (o : Oper), ops[i]? = some o → ∀ D a w, I D a w → ¬ D i → Zcy ops D → (∀ e ∈ o.after, Region.binds .any e = true → D e.on) → o.wp P a w (I fun j => j = i ∨ D j) Q)
  (hend : ∀ D a w, I D a w → (∀ i, i < ops.size → D i) → Q .normal a w) : (Code.region id ops true).wp P Q a w := by
 refine wp_region_any hm (Zkz hp I hmono hstep hend _ _ a _ (by simp) ?_ ?_ (hmono _ _ _ _ (fun j => ?_) hstart))
 ·unfold Zc1
  exact Nat.le_trans (List.length_filter_le _ _) (by simp)
 ·intro j oj hoj hDj
  exfalso
  rcases Nat.lt_or_ge j ops.size with h' | h'
  ·simp [h'] at hDj
  simp [h'] at hDj
 constructor
 ·intro h; cases h
 intro h
 exfalso
 rcases Nat.lt_or_ge j ops.size with h' | h'
 ·simp [h'] at h
 simp [h'] at h
theorem Zif {P : Program} {ops : Array Oper} {Q : Exit → Act → World → Prop} {id : Nat} {a : Act} {w : World} (I : Act → (Nat → Prop) → Act → World → Prop) (hm : P.follows .mixedOrders = true) (hp : Zdd ops = true)
  (hmono : ∀ D D' a' w', (∀ j, D j ↔ D' j) → I a D a' w' → I a D' a' w')
  (hstart : I a (fun _ => False) a { w with drawn := w.drawn + 1 })
  (hstep : ∀ (i : Nat) (o : Oper), ops[i]? = some o → ∀ D a' w', I a D a' w' → ¬ D i → Zcy ops D → (∀ e ∈ o.after, Region.binds .any e = true → D e.on) → o.wp P a' w' (I a fun j => j = i ∨ D j) Q)
  (hend : ∀ D a' w', I a D a' w' → (∀ i, i < ops.size → D i) → Q .normal a' w') : (Code.region id ops true).wp P Q a w :=
 Zj7 hm hp (I a) hmono hstart hstep hend
open Go.RowKit

open Go.RowKit

open Go.RowKit

theorem Zba {P : Program} {o : Oper} {a : Act} {w w' : World} {K : Act → World → Prop} {Q : Exit → Act → World → Prop} {v : Value} (h : (execOp a.eval o).run P w = .ok (.value v) w') (hk : K (a.put o.dst v) w') : o.wp P a w K Q := by
 unfold Oper.wp; rw [h]; exact hk
theorem Zan {P : Program} {o : Oper} {a : Act} {w : World} {K : Act → World → Prop} {Q : Exit → Act → World → Prop} {f : FuncId} {args : Array Value} (h : (execOp a.eval o).run P w = .ok (.enter f args) w)
  (hc : Calls P f args w fun e w' => ∃ v, e = .returned v ∧ K (a.put o.dst v) w') : o.wp P a w K Q := by
 unfold Oper.wp; rw [h]
 refine hc.mono ?_
 rintro e w' ⟨v, rfl, hk⟩
 exact hk
open Go.RowKit

open Go.RowKit

def Zqv (neg : Bool) (V : Nat) : Bool := neg && decide (V ≠ 0) && decide (Zct V ≤ 128)
def Zqu (V : Nat) : Int := if Zct V ≤ 128 then 0 else 24
def Zqt (V : Nat) : List Int := if Zct V ≤ 128 then mag V else []
theorem Zm3 {b off len cap V : Nat} {ws : List Int} {w : World} (neg : Bool) (h : IsW w (some ⟨b, off, none⟩) len cap ws) (hl : len ≤ 1000) (hv : Zaz ws = V) :
  Calls Tryz.prog 114 #[.bool neg, .slice (some ⟨b, off, none⟩) len cap] w fun e w' => ∃ v, e = .returned (.tuple #[.agg #[.bool (Zqv neg V), v], .int .i64 (Zqu V)]) ∧ Zdp w' w.heap.size v (Zqt V) ∧ Below w.heap.size w w' := by
 by_cases hm : Zct V ≤ 128
 ·refine (pack_fit neg h hl hv hm).mono ?_
  rintro e w' ⟨v, rfl, hO, hb⟩
  refine ⟨v, ?_, ?_, hb⟩
  ·unfold Zqv Zqu; rw [if_pos hm, decide_eq_true hm, Bool.and_true]
  unfold Zqt; rw [if_pos hm]; exact hO
 subst hv
 have hVl : Zaz ws < 4294967296 ^ len := by rw [← h.size]; exact Ze1 ws h.word
 have hb4 : Zct (Zaz ws) ≤ 4 * len := (Zrd _ _).2 (by rw [Nat.pow_mul]; exact hVl)
 refine (Zny neg h hl (by omega) (by omega)).mono ?_
 rintro e w' ⟨rfl, hb⟩
 refine ⟨.slice none 0 0, ?_, ?_, hb⟩
 ·unfold Zqv Zqu; rw [if_neg hm, decide_eq_false hm, Bool.and_false]
 unfold Zqt; rw [if_neg hm]; exact Zbq (n := 0) (World.ownsRow_nil _ _ _ _) (by simp)

theorem zr {X P : Prop} {a b : Nat} (h : X → P) (hn : ¬ b = a := by decide) : (b = a ∨ X) → P := fun k => h (k.resolve_left hn)
theorem zs {X Y P : Prop} {a b c : Nat} (h : X → ¬ Y → P) (hn : ¬ b = a := by decide) : (b = a ∨ X) → ¬ (c = a ∨ Y) → P := fun k k' => h (k.resolve_left hn) (fun y => k' (.inr y))
theorem za {X P : Prop} {a b : Nat} (f : X → False) (hn : ¬ b = a := by decide) : (b = a ∨ X) → P := fun k => (f (k.resolve_left hn)).elim
theorem zb {X Y P : Prop} {a b : Nat} (f : X → False) (hn : ¬ b = a := by decide) : (b = a ∨ X) → Y → P := fun k _ => (f (k.resolve_left hn)).elim
theorem zi {X Y P : Prop} {a : Nat} : X → ¬ (a = a ∨ Y) → P := fun _ k => (k (.inl rfl)).elim
theorem zj {X Y Z P : Prop} (t : Y) : X → ¬ (Z ∨ Y) → P := fun _ k => (k (.inr t)).elim
theorem zd {o : Oper} {D : Nat → Prop} (hd : ∀ e ∈ o.after, Region.binds .any e = true → D e.on) (k : Nat) (hm : ⟨k, .data⟩ ∈ o.after := by simp) : D k := hd _ hm rfl
theorem zg {o : Oper} {D : Nat → Prop} (hd : ∀ e ∈ o.after, Region.binds .any e = true → D e.on) (k : Nat) (hm : ⟨k, .guard⟩ ∈ o.after := by simp) : D k := hd _ hm rfl
theorem zc {ops : Array Oper} {D : Nat → Prop} (hcl : Zcy ops D) (i k : Nat) {o : Oper} (ho : ops[i]? = some o) (h : D i) (hm : ⟨k, .data⟩ ∈ o.after := by simp) : D k := hcl i o ho h _ hm rfl
theorem zo {n : Nat} : n ≤ n := Nat.le_refl _
theorem zq {α : Type} {a b : α} (h : some a = some b) : a = b := Option.some.inj h
theorem zl {X Y P : Prop} (h : X ∨ P) : (Y ∨ X) ∨ P := h.imp_left .inr
theorem zR1 {P : Program} {ops : Array Oper} {Q : Exit → Act → World → Prop} {id : Nat} {a : Act} {w : World} (I : Act → (Nat → Prop) → Act → World → Prop)
  (hstart : I a (fun _ => False) a { w with drawn := w.drawn + 1 })
  (hstep : ∀ (i : Nat) (o : Oper), ops[i]? = some o → ∀ D a' w', I a D a' w' → ¬ D i → Zcy ops D → (∀ e ∈ o.after, Region.binds .any e = true → D e.on) → o.wp P a' w' (I a fun j => j = i ∨ D j) Q)
  (hend : ∀ D a' w', I a D a' w' → (∀ i, i < ops.size → D i) → Q .normal a' w') (hm : P.follows .mixedOrders = true := by kernel_rfl) (hp : Zdd ops = true := by kernel_rfl) : (Code.region id ops true).wp P Q a w :=
 Zif I hm hp (fun D D' _ _ h => (funext fun j => propext (h j) : D = D') ▸ fun k => k) hstart hstep hend
theorem zm {P : Program} {o : Oper} {a : Act} {w : World} {K : Act → World → Prop} {Q : Exit → Act → World → Prop} {s : Nat} {ad : Addr} (hv : a.tmps[s]? = some (.pointer (some ad))) (h : K (a.put o.dst (.pointer (some ad))) w) (ho : o.op = .move (.tmp s) ∨ o.op = .nilCheck (.tmp s) := by first | exact .inl rfl | exact .inr rfl) : o.wp P a w K Q := by
 rcases ho with ho | ho
 ·exact Zba (w' := w) (v := .pointer (some ad)) (by simp [execOp, ho, hv, go_sem]) h
 exact Zba (w' := w) (v := .pointer (some ad)) (by simp [execOp, ho, hv, go_sem]) h
theorem zx {P : Program} {o : Oper} {a : Act} {w : World} {K : Act → World → Prop} {Q : Exit → Act → World → Prop} (v : Value) (h : (execOp a.eval o).run P w = .ok (.value v) w) (hk : K (a.put o.dst v) w) : o.wp P a w K Q := Zba h hk
theorem zf {P : Prop} (h : False) : P := h.elim
theorem zF {P Q : Prop} (h : False) (_ : Q) : P := h.elim
theorem zn {P : Program} {o : Oper} {a : Act} {w : World} {K : Act → World → Prop} {Q : Exit → Act → World → Prop} {s : Nat} {v : Value} (hv : a.tmps[s]? = some v) (h : K (a.put o.dst v) w) (ho : o.op = .move (.tmp s) := by rfl) : o.wp P a w K Q :=
 Zba (w' := w) (v := v) (by simp [execOp, ho, hv, go_sem]) h
end Go.Proofs.YtncfmhlikmibaaaGreatDoor
