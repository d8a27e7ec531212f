/- Operations on parts: a new one, a literal of one, append. -/
import Derived.Test.YtncfmhlikmibaaaGreatDoorRed
import Derived.Laws.AppendOwnNone
import Derived.Laws.OwnMore
import Derived.Lib.AppendZeros
import Derived.Lib.LazyBuf
import Derived.Deep.DeepAppendRoom
import Derived.Great.BuildSlice
namespace Go.Proofs.YtncfmhlikmibaaaGreatDoor
open Go.RowKit
set_option maxRecDepth 100000
theorem info_pts {P : Program} {e : TypeId} {z : Value} {size bytes : Nat} (h : (P.info? e).map (fun i => (i.zero, i.size, i.bytes)) = some (some z, size, bytes)) : ∃ i, P.info? e = some i ∧ i.zero = some z ∧ i.size = size ∧ i.bytes = bytes := by
  cases hi : P.info? e with
  | none => simp [hi] at h
  | some i => simp [hi] at h; exact ⟨i, rfl, h.1, h.2.1, h.2.2⟩
theorem info25 : (Tryz.prog.info? 25).map (fun i => (i.zero, i.size, i.bytes)) = some (some (.agg #[.int .i64 0, .string ⟨#[]⟩, .int .i64 0, .int .i64 0, .slice none 0 0, .slice none 0 0]), 6, 88) := by kernel_rfl
theorem info9 : (Tryz.prog.info? 9).map (fun i => (i.zero, i.size, i.bytes)) = some (some (.string ⟨#[]⟩), 1, 16) := by kernel_rfl
section
variable {ops : Array Oper} {rest : List Oper} {o : Oper} {a : Act} {Q : Exit → Act → World → Prop}
theorem al25 (w : World) (hgd : o.guard = none) (ho : o.op = .alloc 25) (h : ∀ q w', w'.heap[q]? = some (.cells #[.int .i64 0, .string ⟨#[]⟩, .int .i64 0, .int .i64 0, .slice none 0 0, .slice none 0 0] 25) → w.heap.size ≤ q → Below w.heap.size w w' → wpList Tryz.prog ops Q rest (a.put o.dst (.pointer (some ⟨q, 0, none⟩))) w') : wpList Tryz.prog ops Q (o :: rest) a w :=
  wpList_plain hgd fun _ hK => by
    unfold Oper.wp execOp
    simp [ho, go_sem]
    exact hK _ _ (h w.heap.size _ (newO w _) (Nat.le_refl _) boxO)
theorem al54 (w : World) (hgd : o.guard = none) (ho : o.op = .alloc 54) (h : ∀ q w', w'.heap[q]? = some (tokB 0 ⟨#[]⟩ 0) → w.heap.size ≤ q → Below w.heap.size w w' → wpList Tryz.prog ops Q rest (a.put o.dst (.pointer (some ⟨q, 0, none⟩))) w') : wpList Tryz.prog ops Q (o :: rest) a w :=
  wpList_plain hgd fun _ hK => by
    unfold Oper.wp execOp
    simp [ho, go_sem]
    exact hK _ _ (h w.heap.size _ (newO w _) (Nat.le_refl _) boxO)
/-- A slice literal of one part. -/
theorem bs25 (w : World) (hgd : o.guard = none) (x : Operand) (ho : o.op = .buildSlice 23 1 #[(0, x)]) (k : Int) (s : ByteArray) (p n : Int) (na : Option Addr) (nl nc : Nat) (ka : Option Addr) (kl kc : Nat) (hx : a.eval x = .agg #[.int .i64 k, .string s, .int .i64 p, .int .i64 n, .slice na nl nc, .slice ka kl kc])
    (h : ∀ g w', w'.heap[g]? = some (.cells #[.int .i64 k, .string s, .int .i64 p, .int .i64 n, .slice na nl nc, .slice ka kl kc] 25) → w.heap.size ≤ g → Below w.heap.size w w' → wpList Tryz.prog ops Q rest (a.put o.dst (.slice (some ⟨g, 0, none⟩) 1 1)) w') : wpList Tryz.prog ops Q (o :: rest) a w :=
  by
  obtain ⟨i, hi, hz, hsize, hby⟩ := info_pts info25
  refine wpList_buildSlice hgd 23 25 1 _ ho #[.int .i64 k, .string s, .int .i64 p, .int .i64 n, .slice na nl nc, .slice ka kl kc] i _ Tryz.underlying23 hi hz (by rw [hsize]; decide) (by rw [hsize]; decide) ?_ (h w.heap.size _ (newO w _) (Nat.le_refl _) boxO)
  rw [Array.toList_map]
  show Instr.fill _ _ [(0, a.eval x)] = _
  rw [hx, hsize]
  first | kernel_rfl | simp [Instr.fill, Value.cells] | decide
end
/-- append of some elements onto a row of one's own: where the new row lies. -/
theorem app_gen (w : World) (t ty e : TypeId) {i : TypeInfo} {z : Value} {size bytes : Nat} (ht : Tryz.prog.underlying t = some (.slice e)) (hi : Tryz.prog.info? e = some i) (hz : i.zero = some z) (hsize : i.size = size) (hby : i.bytes = bytes) (hzs : z.cells.size = size) (hsz : 0 < size) (hb1 : bytes ≤ 100) {base : Nat} {v : Value} {n : Nat} {xs : List Value} (q1 : w.ownsRow base e size v n xs) (ad : Addr) (m c : Nat) (news : List Value) (hl : news.length = m * size) (hnews : ∀ j u, news[j]? = some u → w.cell? (ad.add j) = some u) (h1c : ∀ u ∈ news, u.oneCell' = true) (hn : n + m ≤ 1000000000) (hbase : base ≤ w.heap.size) :
    ∃ v' w', (Builtin.append_ #[t, t] ty #[v, .slice (some ad) m c]).run Tryz.prog w = .ok v' w' ∧ w'.ownsRow base e size v' (n + m) (xs ++ news) ∧ w.grownBy w' v.ownBlock ∧ ∀ g, v'.ownBlock = some g → v.ownBlock = some g ∨ w.heap.size ≤ g := by
  have hbb : (n + m) * bytes ≤ 140737488355328 := Nat.le_trans (Nat.mul_le_mul hn hb1) (by decide)
  obtain ⟨v', w', hr, o1, o2, _⟩ := run_append_own (P := Tryz.prog) w base t ty e i _ size bytes ht hi hz hsize hby hzs hsz v n _ q1 ad m c news hl hnews h1c (by unfold maxLen; omega) hbb hbase
  refine ⟨v', w', hr, o1, o2, fun g hg => ?_⟩
  rcases q1.2 with ⟨rfl, h0⟩ | ⟨g0, cap, cur, rfl, hbg, hgh, hnc, hcm, hcs, htake⟩
  · have hx0 : xs = [] := by
      have := q1.1
      rw [h0, Nat.zero_mul] at this
      exact List.eq_nil_of_length_eq_zero this
    subst hx0
    subst h0
    obtain ⟨v2, w2, hr2, h12, _, _⟩ := run_append_own (P := Tryz.prog) w w.heap.size t ty e i _ size bytes ht hi hz hsize hby hzs hsz (.slice none 0 0) 0 [] (World.ownsRow_nil _ _ _ _) ad m c news hl hnews h1c (by unfold maxLen; omega) hbb (Nat.le_refl _)
    rw [hr] at hr2
    injection hr2 with e1 e2
    subst e1
    rcases h12.2 with ⟨rfl, _⟩ | ⟨g', cap', cur', rfl, hb', _⟩
    · simp [Value.ownBlock] at hg
    · simp [Value.ownBlock] at hg
      exact .inr (by omega)
  · by_cases hroom : n + m ≤ cap
    · obtain ⟨w2, hr2, _, _⟩ := run_append_own_spare (P := Tryz.prog) w base t ty e i size ht hi hsize g0 n cap _ q1 ad m c news hl hnews h1c hroom
      rw [hr] at hr2
      injection hr2 with e1 e2
      rw [e1] at hg
      exact .inl hg
    · have holds : ∀ j u, xs[j]? = some u → w.cell? ((⟨g0, 0, none⟩ : Addr).add j) = some u := World.ownsRow.cells q1 (g := g0) rfl
      have hr2 := run_append_grow (P := Tryz.prog) w t ty e i _ ht hi hz ⟨g0, 0, none⟩ n cap _ (by rw [hsize]; exact q1.1) holds ad m c news (by rw [hsize]; exact hl) hnews (by omega) (by omega) (growslice_fits (by omega) (by rw [hby]; exact hbb))
      rw [hr] at hr2
      injection hr2 with e1 e2
      rw [e1] at hg
      simp [Value.ownBlock] at hg
      exact .inr (by omega)
/-- All but a row's own block is kept. -/
structure Kp (v : Value) (w w' : World) : Prop where
  os : w'.os = w.os
  tape : w'.tape = w.tape
  output : w'.output = w.output
  size : w.heap.size ≤ w'.heap.size
  block : ∀ b, b < w.heap.size → v.ownBlock ≠ some b → w'.heap[b]? = w.heap[b]?
theorem Kp.below {v : Value} {w w' : World} {B : Nat} (h : Kp v w w') (hB : B ≤ w.heap.size) (hv : ∀ g, v.ownBlock = some g → B ≤ g) : Below B w w' :=
  ⟨h.os, h.tape, h.output, h.size, fun b hb => h.block b (by omega) (fun e => by have := hv b e; omega)⟩
theorem RowN.own {w : World} {A : Nat → Prop} {v : Value} {xs : List Nd} (h : RowN w A v xs) {g : Nat} (hg : v.ownBlock = some g) : A g ∧ g < w.heap.size := by
  obtain ⟨fl, h1, hA, _⟩ := h
  refine ⟨hA g hg, ?_⟩
  rcases h1.2 with ⟨rfl, _⟩ | ⟨g', cap', cur', rfl, hb', hh, _⟩
  · simp [Value.ownBlock] at hg
  · simp [Value.ownBlock] at hg
    subst hg
    exact lt_of_block hh
/-- append of parts that are read onto a row that is being made. -/
theorem app_nds (w : World) (ty : TypeId) {A : Nat → Prop} {v : Value} {xs : List Nd} (q1 : RowN w A v xs) {xa : Option Addr} {c : Nat} {ys : List Nd} {gl : List Value} (s : SlF (fun b => A b ∧ ∀ g, v.ownBlock = some g → b ≠ g) w xa ys.length c gl) (hk : KsF (fun b => A b ∧ ∀ g, v.ownBlock = some g → b ≠ g) w ys gl) (hn : xs.length + ys.length ≤ 1000000) (hbase : ∀ b, w.heap.size ≤ b → A b) :
    ∃ v' w', (Builtin.append_ #[23, 23] ty #[v, .slice xa ys.length c]).run Tryz.prog w = .ok v' w' ∧ RowN w' A v' (xs ++ ys) ∧ Kp v w w' ∧ ∀ g, v'.ownBlock = some g → v.ownBlock = some g ∨ w.heap.size ≤ g := by
  obtain ⟨i, hi, hz, hsize, hby⟩ := info_pts info25
  obtain ⟨fl, o1, hA0, k1⟩ := q1
  cases xa with
  | none =>
    have hc := s.nil0 rfl
    have hr := s.room
    have : ys.length = 0 := by omega
    have hy : ys = [] := List.eq_nil_of_length_eq_zero this
    subst hy
    obtain rfl : c = 0 := hc
    refine ⟨v, w, run_append_owned_none (P := Tryz.prog) (w := w) 0 23 ty 25 i 6 Tryz.underlying23 hi v xs.length fl o1, ?_, ⟨rfl, rfl, rfl, Nat.le_refl _, fun _ _ _ => rfl⟩, fun g hg => .inl hg⟩
    rw [List.append_nil]
    exact ⟨fl, o1, hA0, k1⟩
  | some ad =>
    have hnews : ∀ j u, gl[j]? = some u → w.cell? (ad.add j) = some u := by
      intro j u hj
      have h0 : 0 < gl.length := by
        have := (List.getElem?_eq_some_iff.1 hj).1
        omega
      obtain ⟨b, off, e, _, hc⟩ := s.cells h0
      simp only [Option.some.injEq] at e
      subst e
      rw [addrAdd]
      exact hc j u hj
    obtain ⟨v', w', hr, r1, r2, r3⟩ := app_gen w 23 ty 25 Tryz.underlying23 hi hz hsize hby rfl (by decide) (by decide) o1 ad ys.length c gl hk.len hnews hk.flat (by omega) (Nat.zero_le _)
    refine ⟨v', w', hr, ⟨fl ++ gl, by rw [List.length_append]; exact r1, fun g hg => (r3 g hg).elim (hA0 g) (hbase g), ?_⟩, ⟨r2.os, r2.tape, r2.output, r2.size, fun b hb hne => r2.block b hb (fun e => hne e.symm)⟩, r3⟩
    have tr : ∀ b, b < w.heap.size → (A b ∧ ∀ g, v.ownBlock = some g → b ≠ g) → (A b ∧ ∀ g, v'.ownBlock = some g → b ≠ g) ∧ w'.heap[b]? = w.heap[b]? := by
      intro b hb hA
      refine ⟨⟨hA.1, fun g hg => ?_⟩, r2.block b hb (fun e => hA.2 b e.symm rfl)⟩
      rcases r3 g hg with h | h
      · exact hA.2 g h
      · omega
    exact KsF.app (k1.imp tr _ _) (hk.imp tr _ _)
section
variable {ops : Array Oper} {rest : List Oper} {o : Oper} {a : Act} {Q : Exit → Act → World → Prop}
theorem ap25 (w : World) (hgd : o.guard = none) (s x : Operand) (ho : o.op = .call { callee := .builtin .append, args := #[s, x], argTypes := #[23, 23] }) {A : Nat → Prop} {v : Value} {xs : List Nd} (hs : a.eval s = v) (q1 : RowN w A v xs) {xa : Option Addr} {m c : Nat} (hx : a.eval x = .slice xa m c) {ys : List Nd} {gl : List Value} (hm : m = ys.length) (sl : SlF (fun b => A b ∧ ∀ g, v.ownBlock = some g → b ≠ g) w xa ys.length c gl) (hk : KsF (fun b => A b ∧ ∀ g, v.ownBlock = some g → b ≠ g) w ys gl) (hn : xs.length + ys.length ≤ 1000000) (hbase : ∀ b, w.heap.size ≤ b → A b)
    (h : ∀ (va : Option Addr) (vc : Nat) w', RowN w' A (.slice va (xs.length + ys.length) vc) (xs ++ ys) → Kp v w w' → wpList Tryz.prog ops Q rest (a.put o.dst (.slice va (xs.length + ys.length) vc)) w') : wpList Tryz.prog ops Q (o :: rest) a w := by
  subst hm
  obtain ⟨v', w', hr, r1, r2, _⟩ := app_nds w o.type q1 sl hk hn hbase
  obtain ⟨va, vc, rfl⟩ := r1.shape
  refine Lib.wpList_append_run w hgd s x 23 23 ho _ _ hs hx _ w' hr ?_
  rw [List.length_append] at r1 ⊢
  exact h va vc w' r1 r2
end
/-- One part, as it lies in a block of its own. -/
theorem lit_sl {A : Nat → Prop} {w : World} {g : Nat} {v0 v1 v2 v3 v4 v5 : Value} (h : w.heap[g]? = some (.cells #[v0, v1, v2, v3, v4, v5] 25)) (hA : A g) : SlF A w (some ⟨g, 0, none⟩) 1 1 [v0, v1, v2, v3, v4, v5] := by
  obtain ⟨z0, z1, z2, z3, z4, z5, _⟩ := nd_cells h
  refine ⟨Nat.le_refl _, by decide, by simp, fun _ => ⟨g, 0, rfl, hA, fun j u hj => ?_⟩⟩
  rw [Nat.zero_add]
  match j, hj with
  | 0, hj => simp at hj; subst hj; exact z0
  | 1, hj => simp at hj; subst hj; exact z1
  | 2, hj => simp at hj; subst hj; exact z2
  | 3, hj => simp at hj; subst hj; exact z3
  | 4, hj => simp at hj; subst hj; exact z4
  | 5, hj => simp at hj; subst hj; exact z5
/-- append of one part. -/
theorem ap25one {ops : Array Oper} {rest : List Oper} {o : Oper} {a : Act} {Q : Exit → Act → World → Prop} (w : World) (hgd : o.guard = none) (s x : Operand) (ho : o.op = .call { callee := .builtin .append, args := #[s, x], argTypes := #[23, 23] }) {A : Nat → Prop} {v : Value} {xs : List Nd} (hs : a.eval s = v) (q1 : RowN w A v xs) {g : Nat} (hx : a.eval x = .slice (some ⟨g, 0, none⟩) 1 1) {v0 v1 v2 v3 v4 v5 : Value} (hg : w.heap[g]? = some (.cells #[v0, v1, v2, v3, v4, v5] 25)) {y : Nd} {A' : Nat → Prop} (hy : NdV A' w y (.agg #[v0, v1, v2, v3, v4, v5])) (hA : ∀ b, b < w.heap.size → A' b ∨ b = g → A b ∧ ∀ q, v.ownBlock = some q → b ≠ q) (hn : xs.length ≤ 500000) (hbase : ∀ b, w.heap.size ≤ b → A b)
    (h : ∀ (va : Option Addr) (vc : Nat) w', RowN w' A (.slice va (xs.length + 1) vc) (xs ++ [y]) → Kp v w w' → wpList Tryz.prog ops Q rest (a.put o.dst (.slice va (xs.length + 1) vc)) w') : wpList Tryz.prog ops Q (o :: rest) a w :=
  ap25 w hgd s x ho hs q1 hx (ys := [y]) rfl (lit_sl hg (hA g (lt_of_block hg) (.inr rfl))) (KsF.one (hy.mono fun b hb h => hA b hb (.inl h))) (by simp only [List.length_singleton]; omega) hbase h
end Go.Proofs.YtncfmhlikmibaaaGreatDoor
