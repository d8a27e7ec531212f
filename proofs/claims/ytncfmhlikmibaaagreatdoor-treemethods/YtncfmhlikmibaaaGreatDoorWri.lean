/- The writer's builder. -/
import Derived.Test.YtncfmhlikmibaaaGreatDoorRed
import Derived.Laws.AppendOwnNone
import Derived.Laws.OwnMore
import Derived.Lib.AppendZeros
import Derived.Lib.LazyBuf
import Derived.Deep.DeepAppendRoom
import Derived.Great.BuildSlice
import Derived.Test.YtncfmhlikmibaaaGreatDoorRxP
import Derived.Lib.OthersKept
import Derived.Lib.DecodeN
import Derived.Test.YtncfmhlikmibaaaGreatDoorLxQ
namespace Go.Proofs.YtncfmhlikmibaaaGreatDoor
open Go.RowKit
set_option maxRecDepth 100000
set_option maxHeartbeats 16000000
section
theorem Zb1 {P : Program} {e : TypeId} {z : Value} {size bytes : Nat} (h : (P.info? e).map (fun i => (i.zero, i.size, i.bytes)) = some (some z, size, bytes)) : ∃ i, P.info? e = some i ∧ i.zero = some z ∧ i.size = size ∧ i.bytes = bytes := by
 cases hi : P.info? e with
 | none => simp [hi] at h
 | some i => simp [hi] at h; exact ⟨i, rfl, h.1, h.2.1, h.2.2⟩
theorem Zqm : (Tryz.prog.info? 25).map (fun i => (i.zero, i.size, i.bytes)) = some (some (.agg #[.int .i64 0, .string ⟨#[]⟩, .int .i64 0, .int .i64 0, .slice none 0 0, .slice none 0 0]), 6, 88) := by kernel_rfl
theorem Zoa : (Tryz.prog.info? 9).map (fun i => (i.zero, i.size, i.bytes)) = some (some (.string ⟨#[]⟩), 1, 16) := by kernel_rfl
section
variable {ops : Array Oper} {rest : List Oper} {o : Oper} {a : Act} {Q : Exit → Act → World → Prop}
theorem Zdl (w : World) (hgd : o.guard = none) (ho : o.op = .alloc 25) (h : ∀ q w', w'.heap[q]? = some (.cells #[.int .i64 0, .string ⟨#[]⟩, .int .i64 0, .int .i64 0, .slice none 0 0, .slice none 0 0] 25) → w.heap.size ≤ q → Below w.heap.size w w' → wpList Tryz.prog ops Q rest (a.put o.dst (.pointer (some ⟨q, 0, none⟩))) w') : wpList Tryz.prog ops Q (o :: rest) a w :=
 wpList_plain hgd fun _ hK => by
  unfold Oper.wp execOp
  simp [ho, go_sem]
  exact hK _ _ (h w.heap.size _ (Zc0 w _) (Nat.le_refl _) Zbc)
theorem al54 (w : World) (hgd : o.guard = none) (ho : o.op = .alloc 54) (h : ∀ q w', w'.heap[q]? = some (Zoy 0 ⟨#[]⟩ 0) → w.heap.size ≤ q → Below w.heap.size w w' → wpList Tryz.prog ops Q rest (a.put o.dst (.pointer (some ⟨q, 0, none⟩))) w') : wpList Tryz.prog ops Q (o :: rest) a w :=
 wpList_plain hgd fun _ hK => by
  unfold Oper.wp execOp
  simp [ho, go_sem]
  exact hK _ _ (h w.heap.size _ (Zc0 w _) (Nat.le_refl _) Zbc)
theorem bs25 (w : World) (hgd : o.guard = none) (x : Operand) (ho : o.op = .buildSlice 23 1 #[(0, x)]) (k : Int) (s : ByteArray) (p n : Int) (na : Option Addr) (nl nc : Nat) (ka : Option Addr) (kl kc : Nat) (hx : a.eval x = .agg #[.int .i64 k, .string s, .int .i64 p, .int .i64 n, .slice na nl nc, .slice ka kl kc])
  (h : ∀ g w', w'.heap[g]? = some (.cells #[.int .i64 k, .string s, .int .i64 p, .int .i64 n, .slice na nl nc, .slice ka kl kc] 25) → w.heap.size ≤ g → Below w.heap.size w w' → wpList Tryz.prog ops Q rest (a.put o.dst (.slice (some ⟨g, 0, none⟩) 1 1)) w') : wpList Tryz.prog ops Q (o :: rest) a w :=
 by
 obtain ⟨i, hi, hz, hsize, hby⟩ := Zb1 Zqm
 refine wpList_buildSlice hgd 23 25 1 _ ho #[.int .i64 k, .string s, .int .i64 p, .int .i64 n, .slice na nl nc, .slice ka kl kc] i _ Tryz.underlying23 hi hz (by rw [hsize]; decide) (by rw [hsize]; decide) ?_ (h w.heap.size _ (Zc0 w _) (Nat.le_refl _) Zbc)
 rw [Array.toList_map]
 show Instr.fill _ _ [(0, a.eval x)] = _
 rw [hx, hsize]
 first | kernel_rfl | simp [Instr.fill, Value.cells] | decide
end
theorem Zd0 (w : World) (t ty e : TypeId) {i : TypeInfo} {z : Value} {size bytes : Nat} (ht : Tryz.prog.underlying t = some (.slice e)) (hi : Tryz.prog.info? e = some i) (hz : i.zero = some z) (hsize : i.size = size) (hby : i.bytes = bytes) (hzs : z.cells.size = size) (hsz : 0 < size) (hb1 : bytes ≤ 100) {base : Nat} {v : Value} {n : Nat} {xs : List Value} (q1 : w.ownsRow base e size v n xs) (ad : Addr) (m c : Nat) (news : List Value) (hl : news.length = m * size) (hnews : ∀ j u, news[j]? = some u → w.cell? (ad.add j) = some u) (h1c : ∀ u ∈ news, u.oneCell' = true) (hn : n + m ≤ 1000000000) (hbase : base ≤ w.heap.size) :
  ∃ v' w', (Builtin.append_ #[t, t] ty #[v, .slice (some ad) m c]).run Tryz.prog w = .ok v' w' ∧ w'.ownsRow base e size v' (n + m) (xs ++ news) ∧ w.grownBy w' v.ownBlock ∧ ∀ g, v'.ownBlock = some g → v.ownBlock = some g ∨ w.heap.size ≤ g := by
 have hbb : (n + m) * bytes ≤ 140737488355328 := Nat.le_trans (Nat.mul_le_mul hn hb1) (by decide)
 obtain ⟨v', w', hr, o1, o2, _⟩ := run_append_own (P := Tryz.prog) w base t ty e i _ size bytes ht hi hz hsize hby hzs hsz v n _ q1 ad m c news hl hnews h1c (by unfold maxLen; omega) hbb hbase
 refine ⟨v', w', hr, o1, o2, fun g hg => ?_⟩
 rcases q1.2 with ⟨rfl, h0⟩ | ⟨g0, cap, cur, rfl, hbg, hgh, hnc, hcm, hcs, htake⟩
 ·have hx0 : xs = [] := by
   have := q1.1
   rw [h0, Nat.zero_mul] at this
   exact List.eq_nil_of_length_eq_zero this
  subst hx0
  subst h0
  obtain ⟨v2, w2, hr2, h12, _, _⟩ := run_append_own (P := Tryz.prog) w w.heap.size t ty e i _ size bytes ht hi hz hsize hby hzs hsz (.slice none 0 0) 0 [] (World.ownsRow_nil _ _ _ _) ad m c news hl hnews h1c (by unfold maxLen; omega) hbb (Nat.le_refl _)
  rw [hr] at hr2
  injection hr2 with e1 e2
  subst e1
  rcases h12.2 with ⟨rfl, _⟩ | ⟨g', cap', cur', rfl, hb', _⟩
  ·simp [Value.ownBlock] at hg
  simp [Value.ownBlock] at hg
  exact .inr (by omega)
 by_cases hroom : n + m ≤ cap
 ·obtain ⟨w2, hr2, _, _⟩ := run_append_own_spare (P := Tryz.prog) w base t ty e i size ht hi hsize g0 n cap _ q1 ad m c news hl hnews h1c hroom
  rw [hr] at hr2
  injection hr2 with e1 e2
  rw [e1] at hg
  exact .inl hg
 have holds : ∀ j u, xs[j]? = some u → w.cell? ((⟨g0, 0, none⟩ : Addr).add j) = some u := World.ownsRow.cells q1 (g := g0) rfl
 have hr2 := run_append_grow (P := Tryz.prog) w t ty e i _ ht hi hz ⟨g0, 0, none⟩ n cap _ (by rw [hsize]; exact q1.1) holds ad m c news (by rw [hsize]; exact hl) hnews (by omega) (by omega) (growslice_fits (by omega) (by rw [hby]; exact hbb))
 rw [hr] at hr2
 injection hr2 with e1 e2
 rw [e1] at hg
 simp [Value.ownBlock] at hg
 exact .inr (by omega)
structure Kp (v : Value) (w w' : World) : Prop where
 os : w'.os = w.os
 tape : w'.tape = w.tape
 output : w'.output = w.output
 size : w.heap.size ≤ w'.heap.size
 block : ∀ b, b < w.heap.size → v.ownBlock ≠ some b → w'.heap[b]? = w.heap[b]?
theorem Kp.below {v : Value} {w w' : World} {B : Nat} (h : Kp v w w') (hB : B ≤ w.heap.size) (hv : ∀ g, v.ownBlock = some g → B ≤ g) : Below B w w' :=
 ⟨h.os, h.tape, h.output, h.size, fun b hb => h.block b (by omega) (fun e => by have := hv b e; omega)⟩
theorem Zdm.own {w : World} {A : Nat → Prop} {v : Value} {xs : List Nd} (h : Zdm w A v xs) {g : Nat} (hg : v.ownBlock = some g) : A g ∧ g < w.heap.size := by
 obtain ⟨fl, h1, hA, _⟩ := h
 refine ⟨hA g hg, ?_⟩
 rcases h1.2 with ⟨rfl, _⟩ | ⟨g', cap', cur', rfl, hb', hh, _⟩
 ·simp [Value.ownBlock] at hg
 simp [Value.ownBlock] at hg
 subst hg
 exact lt_of_block hh
theorem Zkv (w : World) (ty : TypeId) {A : Nat → Prop} {v : Value} {xs : List Nd} (q1 : Zdm w A v xs) {xa : Option Addr} {c : Nat} {ys : List Nd} {gl : List Value} (s : SlF (fun b => A b ∧ ∀ g, v.ownBlock = some g → b ≠ g) w xa ys.length c gl) (hk : KsF (fun b => A b ∧ ∀ g, v.ownBlock = some g → b ≠ g) w ys gl) (hn : xs.length + ys.length ≤ 1000000) (hbase : ∀ b, w.heap.size ≤ b → A b) :
  ∃ v' w', (Builtin.append_ #[23, 23] ty #[v, .slice xa ys.length c]).run Tryz.prog w = .ok v' w' ∧ Zdm w' A v' (xs ++ ys) ∧ Kp v w w' ∧ ∀ g, v'.ownBlock = some g → v.ownBlock = some g ∨ w.heap.size ≤ g := by
 obtain ⟨i, hi, hz, hsize, hby⟩ := Zb1 Zqm
 obtain ⟨fl, o1, hA0, k1⟩ := q1
 cases xa with
 | none =>
  have hc := s.nil0 rfl
  have hr := s.room
  have : ys.length = 0 := by omega
  have hy : ys = [] := List.eq_nil_of_length_eq_zero this
  subst hy
  obtain rfl : c = 0 := hc
  refine ⟨v, w, run_append_owned_none (P := Tryz.prog) (w := w) 0 23 ty 25 i 6 Tryz.underlying23 hi v xs.length fl o1, ?_, ⟨rfl, rfl, rfl, Nat.le_refl _, fun _ _ _ => rfl⟩, fun g hg => .inl hg⟩
  rw [List.append_nil]
  exact ⟨fl, o1, hA0, k1⟩
 | some ad =>
  have hnews : ∀ j u, gl[j]? = some u → w.cell? (ad.add j) = some u := by
   intro j u hj
   have h0 : 0 < gl.length := by
    have := (List.getElem?_eq_some_iff.1 hj).1
    omega
   obtain ⟨b, off, e, _, hc⟩ := s.cells h0
   simp only [Option.some.injEq] at e
   subst e
   rw [Za7]
   exact hc j u hj
  obtain ⟨v', w', hr, r1, r2, r3⟩ := Zd0 w 23 ty 25 Tryz.underlying23 hi hz hsize hby rfl (by decide) (by decide) o1 ad ys.length c gl hk.len hnews hk.flat (by omega) (Nat.zero_le _)
  refine ⟨v', w', hr, ⟨fl ++ gl, by rw [List.length_append]; exact r1, fun g hg => (r3 g hg).elim (hA0 g) (hbase g), ?_⟩, ⟨r2.os, r2.tape, r2.output, r2.size, fun b hb hne => r2.block b hb (fun e => hne e.symm)⟩, r3⟩
  have tr : ∀ b, b < w.heap.size → (A b ∧ ∀ g, v.ownBlock = some g → b ≠ g) → (A b ∧ ∀ g, v'.ownBlock = some g → b ≠ g) ∧ w'.heap[b]? = w.heap[b]? := by
   intro b hb hA
   refine ⟨⟨hA.1, fun g hg => ?_⟩, r2.block b hb (fun e => hA.2 b e.symm rfl)⟩
   rcases r3 g hg with h | h
   ·exact hA.2 g h
   omega
  exact KsF.app (k1.imp tr _ _) (hk.imp tr _ _)
section
variable {ops : Array Oper} {rest : List Oper} {o : Oper} {a : Act} {Q : Exit → Act → World → Prop}
theorem ap25 (w : World) (hgd : o.guard = none) (s x : Operand) (ho : o.op = .call { callee := .builtin .append, args := #[s, x], argTypes := #[23, 23] }) {A : Nat → Prop} {v : Value} {xs : List Nd} (hs : a.eval s = v) (q1 : Zdm w A v xs) {xa : Option Addr} {m c : Nat} (hx : a.eval x = .slice xa m c) {ys : List Nd} {gl : List Value} (hm : m = ys.length) (sl : SlF (fun b => A b ∧ ∀ g, v.ownBlock = some g → b ≠ g) w xa ys.length c gl) (hk : KsF (fun b => A b ∧ ∀ g, v.ownBlock = some g → b ≠ g) w ys gl) (hn : xs.length + ys.length ≤ 1000000) (hbase : ∀ b, w.heap.size ≤ b → A b)
  (h : ∀ (va : Option Addr) (vc : Nat) w', Zdm w' A (.slice va (xs.length + ys.length) vc) (xs ++ ys) → Kp v w w' → wpList Tryz.prog ops Q rest (a.put o.dst (.slice va (xs.length + ys.length) vc)) w') : wpList Tryz.prog ops Q (o :: rest) a w := by
 subst hm
 obtain ⟨v', w', hr, r1, r2, _⟩ := Zkv w o.type q1 sl hk hn hbase
 obtain ⟨va, vc, rfl⟩ := r1.shape
 refine Lib.wpList_append_run w hgd s x 23 23 ho _ _ hs hx _ w' hr ?_
 rw [List.length_append] at r1 ⊢
 exact h va vc w' r1 r2
end
theorem Ze6 {A : Nat → Prop} {w : World} {g : Nat} {v0 v1 v2 v3 v4 v5 : Value} (h : w.heap[g]? = some (.cells #[v0, v1, v2, v3, v4, v5] 25)) (hA : A g) : SlF A w (some ⟨g, 0, none⟩) 1 1 [v0, v1, v2, v3, v4, v5] := by
 obtain ⟨z0, z1, z2, z3, z4, z5, _⟩ := Zae h
 refine ⟨Nat.le_refl _, by decide, by simp, fun _ => ⟨g, 0, rfl, hA, fun j u hj => ?_⟩⟩
 rw [Nat.zero_add]
 match j, hj with
 | 0, hj => simp at hj; subst hj; exact z0
 | 1, hj => simp at hj; subst hj; exact z1
 | 2, hj => simp at hj; subst hj; exact z2
 | 3, hj => simp at hj; subst hj; exact z3
 | 4, hj => simp at hj; subst hj; exact z4
 | 5, hj => simp at hj; subst hj; exact z5
end
theorem Zdb (ss : List Int) (i : Nat) (h : i < ss.length) : (ss.take (i + 1)).count 58 = (ss.take i).count 58 + (if ss.getD i 0 = 58 then 1 else 0) := by
 rw [List.take_succ_eq_append_getElem h, List.count_append, List.count_singleton]
 have : ss.getD i 0 = ss[i] := by rw [List.getD_eq_getElem?_getD, List.getElem?_eq_getElem h]; rfl
 rw [this]
 by_cases hc : ss[i] = 58 <;> simp [hc]
theorem Zhl (ss : List Int) (hb : ∀ x ∈ ss, 0 ≤ x ∧ x < 256) (i : Nat) (h : i < ss.length) : (((strOfNums ss).get! i).toNat : Int) = ss.getD i 0 := by
 have h1 := hb _ (List.getElem_mem h)
 have e : ss.getD i 0 = ss[i] := by rw [List.getD_eq_getElem?_getD, List.getElem?_eq_getElem h]; rfl
 rw [e]
 show (((ss.map fun n => UInt8.ofNat n.toNat).toArray[i]!).toNat : Int) = ss[i]
 rw [getElem!_pos _ i (by simpa using h)]
 simp
 omega
theorem rune_at (ss : List Int) (hb : ∀ x ∈ ss, 0 ≤ x ∧ x < 256) (i : Nat) (h : i < ss.length) : ∃ r n : Nat, Utf8.decode (strOfNums ss) i = (r, n) ∧ ((r : Int) = 58 ↔ ss.getD i 0 = 58) ∧ 1 ≤ n ∧ i + n ≤ ss.length ∧ (ss.take (i + n)).count 58 = (ss.take i).count 58 + (if ss.getD i 0 = 58 then 1 else 0) := by
 have hsz : (strOfNums ss).size = ss.length := strOfNums_size ss
 have h0 := Zhl ss hb i h
 have c0 := Zdb ss i h
 refine ⟨(Utf8.decode (strOfNums ss) i).1, (Utf8.decode (strOfNums ss) i).2, rfl, ?_⟩
 rw [Lib.decode_at, hsz]
 have g1 : i + 1 < ss.length → (((strOfNums ss).get! (i + 1)).toNat : Int) = ss.getD (i + 1) 0 ∧ (ss.take (i + 2)).count 58 = (ss.take (i + 1)).count 58 + (if ss.getD (i + 1) 0 = 58 then 1 else 0) := fun h => ⟨Zhl ss hb _ h, Zdb ss _ h⟩
 have g2 : i + 2 < ss.length → (((strOfNums ss).get! (i + 2)).toNat : Int) = ss.getD (i + 2) 0 ∧ (ss.take (i + 3)).count 58 = (ss.take (i + 2)).count 58 + (if ss.getD (i + 2) 0 = 58 then 1 else 0) := fun h => ⟨Zhl ss hb _ h, Zdb ss _ h⟩
 have g3 : i + 3 < ss.length → (((strOfNums ss).get! (i + 3)).toNat : Int) = ss.getD (i + 3) 0 ∧ (ss.take (i + 4)).count 58 = (ss.take (i + 3)).count 58 + (if ss.getD (i + 3) 0 = 58 then 1 else 0) := fun h => ⟨Zhl ss hb _ h, Zdb ss _ h⟩
 generalize ((strOfNums ss).get! i).toNat = b0 at *
 generalize ((strOfNums ss).get! (i + 1)).toNat = b1 at *
 generalize ((strOfNums ss).get! (i + 2)).toNat = b2 at *
 generalize ((strOfNums ss).get! (i + 3)).toNat = b3 at *
 generalize ss.getD i 0 = a0 at *
 generalize ss.getD (i + 1) 0 = a1 at *
 generalize ss.getD (i + 2) 0 = a2 at *
 generalize ss.getD (i + 3) 0 = a3 at *
 unfold Lib.decodeN
 split
 ·refine ⟨by simp only; omega, by simp, by simp only; omega, c0⟩
 split
 ·rename_i hh
  obtain ⟨e1, k1⟩ := g1 (by omega)
  rw [if_neg (by omega)] at c0 k1
  split
  ·exact ⟨by simp only; omega, by simp, by simp only; omega, by simp only; rw [if_neg (by omega), k1, c0]⟩
  exact ⟨by simp only; omega, by simp, by simp only; omega, by simp only; rw [if_neg (by omega), c0]⟩
 split
 ·rename_i hh
  obtain ⟨e1, k1⟩ := g1 (by omega)
  obtain ⟨e2, k2⟩ := g2 (by omega)
  rw [if_neg (by omega)] at c0 k1 k2
  split
  ·exact ⟨by simp only; omega, by simp, by simp only; omega, by simp only; rw [if_neg (by omega), k2, k1, c0]⟩
  exact ⟨by simp only; omega, by simp, by simp only; omega, by simp only; rw [if_neg (by omega), c0]⟩
 split
 ·rename_i hh
  obtain ⟨e1, k1⟩ := g1 (by omega)
  obtain ⟨e2, k2⟩ := g2 (by omega)
  obtain ⟨e3, k3⟩ := g3 (by omega)
  rw [if_neg (by omega)] at c0 k1 k2 k3
  split
  ·exact ⟨by simp only; omega, by simp, by simp only; omega, by simp only; rw [if_neg (by omega), k3, k2, k1, c0]⟩
  exact ⟨by simp only; omega, by simp, by simp only; omega, by simp only; rw [if_neg (by omega), c0]⟩
 rw [if_neg (by omega)] at c0
 exact ⟨by simp only; omega, by simp, by simp only; omega, by simp only; rw [if_neg (by omega), c0]⟩
theorem Zp1 (c : Int) : Ziz [c] = Ze8 c := by
 by_cases h : Ze8 c = true
 ·have h2 := Zqh h
  simp [Ziz, Zaq, h, h2]
 have h3 : Ze8 c = false := by simpa using h
 simp [Ziz, Zaq, h3]
theorem cut_one (c : Int) (r : List Int) : (strOfNums (c :: r)).extract 0 1 = strOfNums [c] := by
 rw [Zco]; rfl
def sgnL (t : List Int) : Bool := match t with
 | [] => false
 | c :: _ => !Ze8 c
theorem Zdr (ss : List Int) (w : World) (hb : ∀ x ∈ ss, 0 ≤ x ∧ x < 256) (hm : ss.length ≤ 9223372036854775806) : Calls Tryz.prog 22 #[.string (strOfNums ss)] w fun e w' => e = .returned (.bool (sgnL ss)) ∧ w = w' := by
 have hsz : (strOfNums ss).size = ss.length := strOfNums_size ss
 cases ss with
 | nil =>
  have e : strOfNums [] = ⟨#[]⟩ := rfl
  rw [e]
  go_enter Tryz.func22, Tryz.ntmps22
  go_wp2
  go_ret
  exact ⟨rfl, rfl⟩
 | cons c r =>
  have hne := str_ne (ss := c :: r) (by simp)
  have h1 : (1 : Int) ≤ ((strOfNums (c :: r)).size : Int) := by rw [hsz, List.length_cons]; omega
  have hx := cut_one c r
  go_enter Tryz.func22, Tryz.ntmps22
  go_wp2_with fail
  refine (Zla [c] w (fun x hx => hb x (by simp at hx; simp [hx])) (by simp)).mono ?_
  rintro e w2 ⟨rfl, rfl⟩
  rw [Zp1]
  go_wp2
  go_ret
  exact ⟨rfl, rfl⟩
theorem Zhn (ss : List Int) : Zcx ss = if sgnL ss then 1 else ss.count 58 := by
 cases ss with
 | nil => rfl
 | cons c r =>
  show (if Ze8 c then (c :: r).count 58 else 1) = if !Ze8 c then 1 else (c :: r).count 58
  cases Ze8 c <;> rfl
theorem Zdz (ss : List Int) (w : World) (hb : ∀ x ∈ ss, 0 ≤ x ∧ x < 256) (hm : ss.length ≤ 9223372036854775806) : Calls Tryz.prog 15 #[.string (strOfNums ss)] w fun e w' => e = .returned (.int .i64 (Zcx ss : Int)) ∧ Below w.heap.size w w' := by
 have hsz : (strOfNums ss).size = ss.length := strOfNums_size ss
 have hA := Zhn ss
 cases hs : sgnL ss with
 | true =>
  rw [hs, if_pos rfl] at hA
  rw [hA]
  go_enter Tryz.func15, Tryz.ntmps15
  go_wp2_with fail
  refine (Zdr ss w hb hm).mono ?_
  rintro e w2 ⟨rfl, rfl⟩
  rw [hs]
  go_wp2
  go_ret
  exact ⟨rfl, Below.refl _ _⟩
 | false =>
  rw [hs, if_neg (by decide)] at hA
  rw [hA]
  generalize Zcx ss = na at *
  have hcl : ss.count 58 ≤ ss.length := List.count_le_length
  go_enter Tryz.func15, Tryz.ntmps15
  go_wp2_with fail
  refine (Zdr ss w hb hm).mono ?_
  rintro e w2 ⟨rfl, rfl⟩
  rw [hs]
  go_wp2_with fail
  go_loopw [3] (fun v wr => ∃ (i : Nat), v = .int .i64 (((ss.take i).count 58 : Nat) : Int) ∧ i ≤ ss.length ∧ wr.heap[w.heap.size]? = some (.stringIter (strOfNums ss) i) ∧ Below w.heap.size w wr) (fun _ wr => ss.length - wr.iterPos w.heap.size)
  case atStart => exact ⟨0, by simp, Nat.zero_le _, World.iter_heap w (strOfNums ss) 0, Zcz⟩
  obtain ⟨i, rfl, hi, hit, hB⟩ := hrel
  by_cases hp : i < ss.length
  ·have hp' : i < (strOfNums ss).size := by omega
   obtain ⟨r, n, hd, hr58, hn1, hn2, hc⟩ := rune_at ss hb i hp
   have hnx : ∀ ty, (Instr.next (.pointer (some ⟨w.heap.size, 0, none⟩)) true ty).run Tryz.prog wr = _ := fun ty => Lib.run_next_any_at wr w.heap.size (strOfNums ss) i ty hit hp'
   rw [hd] at hnx
   have hit2 := Lib.iterAt_heap wr w.heap.size (strOfNums ss) i (i + n) hit
   have hB2 := Lib.below_iterAt hB zo (strOfNums ss) (i + n)
   have hcl2 : (ss.take i).count 58 ≤ i := Nat.le_trans List.count_le_length (by rw [List.length_take]; omega)
   by_cases h58 : ss.getD i 0 = 58
   ·have hrb : ((r : Int) == 58) = true := by simpa using hr58.2 h58
    rw [if_pos h58] at hc
    have hw1 : IntKind.i64.wrap (((ss.take i).count 58 : Nat) + 1 : Int) = (((ss.take i).count 58 + 1 : Nat) : Int) := by rw [IntKind.wrap_i64]; omega
    go_wp2
    go_roundw
    case rel => exact ⟨i + n, by rw [hc]; rfl, hn2, hit2, hB2⟩
    case measure => simp only [World.iterPos, hit2, hit]; omega
   have hrb : ((r : Int) == 58) = false := by simpa using fun h => h58 (hr58.1 h)
   rw [if_neg h58] at hc
   go_wp2
   go_roundw
   case rel => exact ⟨i + n, by rw [hc]; rfl, hn2, hit2, hB2⟩
   case measure => simp only [World.iterPos, hit2, hit]; omega
  have hp' : ¬ i < (strOfNums ss).size := by omega
  obtain rfl : i = ss.length := by omega
  have hnx : ∀ ty, (Instr.next (.pointer (some ⟨w.heap.size, 0, none⟩)) true ty).run Tryz.prog wr = _ := fun ty => Lib.run_next_end_at wr w.heap.size (strOfNums ss) ss.length ty hit hp'
  rw [List.take_length]
  go_wp2
  go_ret
  exact ⟨rfl, hB⟩
theorem wri_lies : liesAt Tryz.prog Tryz.prog.depth 70 (2 / Tryz.prog.cellsOf 70) 0 68 1 = true := by kernel_rfl
theorem Zfv (b : Nat) (w : World) (h0 : w.cell? ⟨b, 0, none⟩ = some (.pointer none)) (hsh : w.shape? b = some (70, 2)) (hfz : w.frozen? ⟨b, 0, none⟩ = false) :
  Calls Tryz.prog 105 #[.pointer (some ⟨b, 0, none⟩)] w fun e w' => e = .returned (.tuple #[]) ∧ w' = w.setCell ⟨b, 0, none⟩ (.pointer (some ⟨b, 0, none⟩)) := by
 obtain ⟨j, hj, hjs⟩ := Option.map_eq_some_iff.1 Zgl
 go_enter Tryz.func105, Tryz.ntmps105
 go_wp2
 rw [Lib.run_to_unsafe w ⟨b, 0, none⟩ Tryz.underlying65 Tryz.underlying139 hj (by rw [hjs]; decide) hsh (Nat.zero_lt_succ 1)]
 simp only [Result.andThen]
 rw [Oper.upon_value]
 go_wp2
 rw [run_callFunc_extern Tryz.func124 (by kernel_rfl) (by kernel_rfl) (by kernel_rfl) (e := Extern.AbiNoEscape.same) (by kernel_rfl)]
 rw [Lib.run_noEscape]
 simp only [Result.andThen]
 rw [Oper.upon_value]
 go_wp2
 rw [Lib.run_from_unsafe w ⟨b, 0, none⟩ Tryz.underlying139 Tryz.underlying65 hj hsh wri_lies]
 simp only [Result.andThen]
 rw [Oper.upon_value]
 go_wp2
 go_end0
 exact ⟨rfl, rfl⟩
theorem Zgb (b : Nat) (w : World) (h0 : w.cell? ⟨b, 0, none⟩ = some (.pointer (some ⟨b, 0, none⟩))) :
  Calls Tryz.prog 105 #[.pointer (some ⟨b, 0, none⟩)] w fun e w' => e = .returned (.tuple #[]) ∧ w' = w := by
 obtain ⟨j, hj, _⟩ := Option.map_eq_some_iff.1 Zgl
 go_enter Tryz.func105, Tryz.ntmps105
 go_wp2
 rw [Lib.run_neq_ptr_same w _ Tryz.underlying65 hj]
 go_wp2
 go_end0
 exact ⟨rfl, rfl⟩
theorem Zkq (B b : Nat) (bs : List Value) (w : World) (h : Lib.IsBuilderF 70 5 B b bs w) :
  Calls Tryz.prog 105 #[.pointer (some ⟨b, 0, none⟩)] w fun e w' => e = .returned (.tuple #[]) ∧ (Lib.BuilderAtF 70 5 B b (.pointer (some ⟨b, 0, none⟩)) bs w' ∧ Below B w w' ∧ Lib.OthersKept 5 (some b) w w') := by
 rcases h with h | h
 ·refine (Zfv b w h.cell0 h.shape h.frozen0).mono ?_
  rintro e w' ⟨rfl, rfl⟩
  exact ⟨rfl, h.used _, (Below.refl B w).setCell (p := ⟨b, 0, none⟩) h.1 _, (Lib.OthersKept.refl _ _ w).setCell ⟨b, 0, none⟩ rfl _⟩
 refine (Zgb b w h.cell0).mono ?_
 rintro e w' ⟨rfl, rfl⟩
 exact ⟨rfl, h, Below.refl B _, Lib.OthersKept.refl _ _ _⟩
theorem Zgn (B b : Nat) (bs : List Value) (s : ByteArray) (w : World) (h : Lib.IsBuilderF 70 5 B b bs w) (Lh : bs.length + s.size ≤ 140737488355328) (hBw : B ≤ w.heap.size) :
  Calls Tryz.prog 82 #[.pointer (some ⟨b, 0, none⟩), .string s] w fun e w' => e = .returned (.tuple #[.int .i64 s.size, .nilIface]) ∧ (Lib.BuilderAtF 70 5 B b (.pointer (some ⟨b, 0, none⟩)) (bs ++ Lib.strCells s) w' ∧ Below B w w' ∧ Lib.OthersKept 5 (some b) w w') := by
 obtain ⟨i0, hi, hz0, hz1, hz2⟩ := info_parts Tryz.info5
 go_enter Tryz.func82, Tryz.ntmps82
 go_wp2_with (go_at_call 105; refine (Zkq B b bs _ h).mono ?_)
 rintro e w1 ⟨rfl, h1, hb1, hk1⟩
 obtain ⟨hB, v, hbk, hown, hne⟩ := h1
 have c0 : w1.cell? ⟨b, 0, none⟩ = some (.pointer (some ⟨b, 0, none⟩)) := by rw [Lib.cell_of_heap hbk]; rfl
 have c1 : w1.cell? ⟨b, 1, none⟩ = some v := by rw [Lib.cell_of_heap hbk]; rfl
 go_wp2_with (at_builtin; refine Lib.wpList_append_own_stringF _ rfl _ _ 66 9 rfl B 5 i0 Tryz.underlying66 Tryz.underlying9 hi hz0 hz1 hz2 _ _ _ rfl hown s rfl ?c3 ?c4 ?c5 ?_)
 case c3 => unfold maxLen; omega
 case c4 => omega
 case c5 => have := hb1.size; omega
 intro v' w2 hown' hgrow _
 have hlt : b < w1.heap.size := lt_of_block hbk
 have hb2 : w2.heap[b]? = some (.cells #[.pointer (some ⟨b, 0, none⟩), v] 70 (0, 0)) := by
  rw [hgrow.block b hlt (fun e => hne e.symm)]
  exact hbk
 have d0 : w2.cell? ⟨b, 0, none⟩ = some (.pointer (some ⟨b, 0, none⟩)) := by rw [Lib.cell_of_heap hb2]; rfl
 have d1 : w2.cell? ⟨b, 1, none⟩ = some v := by rw [Lib.cell_of_heap hb2]; rfl
 have f1 : w2.frozen? ⟨b, 1, none⟩ = false := Lib.frozen_of_heap hb2 1
 obtain ⟨ao, n', cap, rfl⟩ : ∃ ao n' cap, v' = .slice ao n' cap := by
  rcases hown'.2 with ⟨hv, _⟩ | ⟨g, cap, cur, fz, hv, _⟩
  ·exact ⟨_, _, _, hv⟩
  exact ⟨_, _, _, hv⟩
 go_wp2
 go_ret2
 refine ⟨rfl, ?_, ?_, (hk1.grown hgrow (Lib.ownsRowF_kind hown)).setCell ⟨b, 1, none⟩ rfl _⟩
 ·exact Lib.BuilderAtF.put (T := 70) (e := 5) hB hb2 (bs' := bs ++ Lib.strCells s) (by simpa [Lib.strCells_length] using hown') (by decide)
 exact (hb1.grown hgrow (by have := hb1.size; omega) (fun k hk => (hown.lt k hk).1)).setCell (p := ⟨b, 1, none⟩) hB _
theorem string70 (B b : Nat) (l : List UInt8) (w : World) (h : Lib.IsBuilderF 70 5 B b (Lib.byteCells l) w) (h0 : l ≠ []) :
  Calls Tryz.prog 34 #[.pointer (some ⟨b, 0, none⟩)] w fun e w' => e = .returned (.string ⟨l.toArray⟩) ∧ (Lib.IsBuilderF 70 5 B b (Lib.byteCells l) w' ∧ Below B w w' ∧ Lib.OthersKept 5 (some b) w w') := by
 obtain ⟨p, hp, hAt⟩ : ∃ p, (p = .pointer none ∨ p = .pointer (some ⟨b, 0, none⟩)) ∧ Lib.BuilderAtF 70 5 B b p (Lib.byteCells l) w := by
  rcases h with h | h
  ·exact ⟨_, .inl rfl, h⟩
  exact ⟨_, .inr rfl, h⟩
 obtain ⟨hB, v, hbk, hown, hne⟩ := hAt
 have hl0 : l.length ≠ 0 := by simpa using h0
 rw [Lib.byteCells_length] at hown
 obtain ⟨g, cap, cur, fz, rfl, hbg, hg, hfz, hnc, hcm, hcs, htake⟩ : ∃ g cap cur fz, v = .slice (some ⟨g, 0, none⟩) l.length cap ∧ B ≤ g ∧ w.heap[g]? = some (.cells cur 5 fz) ∧ fz.2 ≤ l.length * 1 ∧ l.length ≤ cap ∧ cap ≤ maxLen ∧ cur.size = cap * 1 ∧ cur.toList.take (l.length * 1) = Lib.byteCells l := by
  rcases hown.2 with ⟨_, hz⟩ | ⟨g, cap, cur, fz, hv, r⟩
  ·exact absurd hz hl0
  exact ⟨g, cap, cur, fz, hv, r⟩
 have c1 : w.drew.cell? ⟨b, 1, none⟩ = some (.slice (some ⟨g, 0, none⟩) l.length cap) := by
  have : w.drew.heap[b]? = some (.cells #[p, .slice (some ⟨g, 0, none⟩) l.length cap] 70 (0, 0)) := hbk
  rw [Lib.cell_of_heap this]; rfl
 have hSD : (Builtin.unsafeSliceData_ #[66] 90 #[.slice (some ⟨g, 0, none⟩) l.length cap]).run Tryz.prog w.drew = .ok (.pointer (some ⟨g, 0, none⟩)) w.drew :=
  Lib.run_unsafeSliceData_row _ _ _ _ _ _ (by omega)
 have hUS : (Builtin.unsafeString_ #[90, 3] 9 #[.pointer (some ⟨g, 0, none⟩), .int .i64 l.length]).run Tryz.prog w.drew = .ok (.string ⟨l.toArray⟩) (w.drew.freeze ⟨g, 0, none⟩ l.length) := by
  refine Lib.run_unsafeString_row w.drew 90 3 9 5 Tryz.underlying90 (by kernel_rfl) g cur.size (by have hg' : w.drew.heap[g]? = some (.cells cur 5 fz) := hg; simp [World.shape?, hg']) l h0 (by omega) (by unfold maxLen at hcm; omega) ?_
  intro j x hx
  have := hown.cells (g := g) rfl j (.int .u8 x.toNat) (by simp [Lib.byteCells, hx])
  exact this
 -- the builder behind the call: its bytes frozen; a builder still
 have hkeep : Lib.IsBuilderF 70 5 B b (Lib.byteCells l) (w.drew.freeze ⟨g, 0, none⟩ l.length) := by
  have hA : Lib.BuilderAtF 70 5 B b p (Lib.byteCells l) w.drew := ⟨hB, _, hbk, by rw [Lib.byteCells_length]; exact hown, hne⟩
  have hF := hA.froze (g := g) (cap := cap) (by rw [Lib.byteCells_length]; exact c1)
  rw [Lib.byteCells_length] at hF
  rcases hp with rfl | rfl
  ·exact .inl hF
  exact .inr hF
 have mixed : Tryz.prog.follows .mixedOrders = true := by kernel_rfl
 go_enter Tryz.func34, Tryz.ntmps34
 go_wp2
 go_region_o
 all_goals (go_wp2; go_ret; exact ⟨rfl, hkeep, Lib.below_freeze (Below.drew (Below.refl B w)) (p := ⟨g, 0, none⟩) hbg _, ((Lib.OthersKept.refl _ _ w).drew).freeze ⟨g, 0, none⟩ _ ⟨cur, fz, hg⟩⟩)
end Go.Proofs.YtncfmhlikmibaaaGreatDoor
