/- The document's parser: a message that goes to a receiver. -/
import Derived.Test.YtncfmhlikmibaaaGreatDoorDpb
import Derived.Test.YtncfmhlikmibaaaGreatDoorBno
namespace Go.Proofs.YtncfmhlikmibaaaGreatDoor
open Go.RowKit
set_option maxRecDepth 100000
set_option maxHeartbeats 16000000
section
variable {W : List Tk} {d p t : Nat} {e : Int} {w : World}
theorem Pr.cells {i : Nat} (h : Pr w p W i d e t) : ∃ b off c, w.cell? ⟨p, 0, none⟩ = some (.slice (some ⟨b, off, none⟩) W.length c) ∧ w.cell? ⟨p, 1, none⟩ = some (.int .i64 (i : Int)) ∧ w.cell? ⟨p, 2, none⟩ = some (.int .i64 (d : Int)) ∧ w.cell? ⟨p, 3, none⟩ = some (.int .i64 e) ∧ w.cell? ⟨p, 4, none⟩ = some (.int .i64 (t : Int)) ∧ ∀ j, w.frozen? ⟨p, j, none⟩ = false := by
 obtain ⟨b, off, c, h1, _, _⟩ := h.ex
 obtain ⟨c0, c1, c2, c3, c4, cf⟩ := Zdw h1
 exact ⟨b, off, c, c0, c1, c2, c3, c4, cf⟩
theorem Fr.drewF (p B : Nat) (w : World) : Fr p B w w.drew := ⟨rfl, rfl, rfl, zo, fun _ _ _ => rfl⟩
theorem Pr.drewP {i : Nat} (h : Pr w p W i d e t) : Pr w.drew p W i d e t := h.same (fun _ _ => rfl) rfl
theorem Zb6 {n0 : Nat} (h : Pr w p W n0 d 0 t) (hi : n0 < W.length) (y : Int) :
  Calls Tryz.prog 48 #[.pointer (some ⟨p, 0, none⟩), .int .i64 y] w fun r w' => r = .returned (.tuple #[]) ∧ Pr w' p W n0 d y (psW W n0) ∧ Fr p w.heap.size w w' := by
 have hiI : (n0 : Int) < (W.length : Int) := by omega
 have hi0 : (0 : Int) ≤ (n0 : Int) := by omega
 have mixed : Tryz.prog.follows .mixedOrders = true := by kernel_rfl
 have hpl := h.lt
 obtain ⟨b, off, c, c0, c1, c2, c3, c4, cf⟩ := h.cells
 have f3 := cf 3
 go_enter Tryz.func48, Tryz.ntmps48
 go_upto_region 2 with fail
 have h1 := h.setErr y
 have S1 := St.cell w p 3 (.int .i64 y)
 clear c0 c1 c2 c3 c4 cf f3
 generalize w.setCell ⟨p, 3, none⟩ (.int .i64 y) = w1 at *
 obtain ⟨b, off, c, c0, c1, c2, c3, c4, cf, k0, k1, k2, _⟩ := h1.open_ hi
 have f4 := cf 4
 go_wp2_with fail
 go_still_tail 14, (by kernel_rfl)
 go_wp2
 go_end0
 exact ⟨rfl, (h1.setPos _).drewP, S1.fr.trans ((Fr.drewF _ _ _).trans (St.cell w1.drew p 4 _).fr zo) zo⟩
theorem Zfc {n0 : Nat} (h : Pr w p W n0 d e t) (he : e ≠ 0) (y : Int) :
  Calls Tryz.prog 48 #[.pointer (some ⟨p, 0, none⟩), .int .i64 y] w fun r w' => r = .returned (.tuple #[]) ∧ Below w.heap.size w w' := by
 have heb : (e == 0) = false := by simp [he]
 obtain ⟨b, off, c, c0, c1, c2, c3, c4, cf⟩ := h.cells
 go_enter Tryz.func48, Tryz.ntmps48
 go_wp2
 go_end0
 exact ⟨rfl, Below.refl _ w⟩
end
section
def Zbu (w : World) (A : Nat → Prop) (v : Value) (xs : List Nd) : Prop :=
 ∃ fl, w.ownsRow 0 31 6 v xs.length fl ∧ (∀ g, v.ownBlock = some g → A g) ∧ KsF (fun b => A b ∧ ∀ g, v.ownBlock = some g → b ≠ g) w xs fl
theorem Zbu.nil (w : World) (A : Nat → Prop) : Zbu w A (.slice none 0 0) [] := ⟨[], World.ownsRow_nil w 0 31 6, fun g hg => by simp [Value.ownBlock] at hg, KsF.nil _ _⟩
theorem Zbu.shape {w : World} {A : Nat → Prop} {v : Value} {xs : List Nd} (h : Zbu w A v xs) : ∃ a c, v = .slice a xs.length c := by
 obtain ⟨fl, h1, _⟩ := h
 rcases h1.2 with ⟨rfl, h0⟩ | ⟨g, cap, cur, rfl, _⟩
 ·exact ⟨none, 0, by rw [h0]⟩
 exact ⟨_, _, rfl⟩
theorem Zbu.sl {w : World} {A : Nat → Prop} {a : Option Addr} {c n : Nat} {xs : List Nd} (h : Zbu w A (.slice a n c) xs) : n = xs.length ∧ ∃ fl, SlF A w a n c fl ∧ KsF A w xs fl := by
 obtain ⟨fl, h1, hA, h2⟩ := h
 have h3 := h1.2
 have hs := h1.1
 rcases h3 with ⟨e, h0⟩ | ⟨g, cap, cur, e, _, hg, hn, hm, hc, ht⟩
 ·simp only [Value.slice.injEq] at e
  obtain ⟨rfl, rfl, rfl⟩ := e
  rw [h0] at hs
  have : fl = [] := List.eq_nil_of_length_eq_zero (by omega)
  subst this
  exact ⟨h0.symm, [], SlF.nil _ _, h2.imp (fun b _ hb => ⟨hb.1, rfl⟩) _ _⟩
 simp only [Value.slice.injEq] at e
 obtain ⟨rfl, rfl, rfl⟩ := e
 refine ⟨rfl, fl, ⟨hn, hm, by simp, fun _ => ⟨g, 0, rfl, hA g rfl, fun j u hj => ?_⟩⟩, h2.imp (fun b _ hb => ⟨hb.1, rfl⟩) _ _⟩
 have := h1.cells (g := g) rfl j u hj
 rw [Za7] at this
 exact this
theorem Zbu.keep {w w' : World} {A : Nat → Prop} {v : Value} {xs : List Nd} (h : Zbu w A v xs) (hk : ∀ b, A b → b < w.heap.size → w'.heap[b]? = w.heap[b]?) : Zbu w' A v xs := by
 obtain ⟨fl, h1, hA, h2⟩ := h
 refine ⟨fl, ⟨h1.1, ?_⟩, hA, h2.imp (fun b hb hA => ⟨hA, hk b hA.1 hb⟩) _ _⟩
 rcases h1.2 with h | ⟨g, cap, cur, e, hB, hg, rest⟩
 ·exact .inl h
 exact .inr ⟨g, cap, cur, e, hB, (hk g (hA g (by rw [e]; rfl)) (lt_of_block hg)).trans hg, rest⟩

section
variable {ops : Array Oper} {rest : List Oper} {o : Oper} {a : Act} {Q : Exit → Act → World → Prop}
theorem st31 (w : World) (hgd : o.guard = none) (x y : Operand) (ho : o.op = .store 31 x y) (hd : o.dst = none) (g : Nat) (k : Int) (s : ByteArray) (p n : Int) (na : Option Addr) (nl nc : Nat) (ka : Option Addr) (kl kc : Nat) (hx : a.eval x = .pointer (some ⟨g, 0, none⟩)) (hy : a.eval y = .agg #[.int .i64 k, .string s, .int .i64 p, .int .i64 n, .slice na nl nc, .slice ka kl kc]) {u0 u1 u2 u3 u4 u5 : Value} (hg : w.heap[g]? = some (.cells #[u0, u1, u2, u3, u4, u5] 31))
  (h : ∀ w', w'.heap[g]? = some (.cells #[.int .i64 k, .string s, .int .i64 p, .int .i64 n, .slice na nl nc, .slice ka kl kc] 31) → St g w w' → wpList Tryz.prog ops Q rest a w') : wpList Tryz.prog ops Q (o :: rest) a w := by
 refine wpList_store_row hgd 31 x y ho g _ hx hy 31 _ hg (by kernel_rfl) rfl (by simp [Value.oneCell']) ?_
 rw [hd]
 exact h _ (setRow_heap w g _ _ _ _ hg) (St.row w g _)
end
theorem Zac {w : World} {b : Nat} {u0 u1 u2 u3 u4 u5 : Value} (h : w.heap[b]? = some (.cells #[u0, u1, u2, u3, u4, u5] 31)) : w.cell? ⟨b, 0, none⟩ = some u0 ∧ w.cell? ⟨b, 1, none⟩ = some u1 ∧ w.cell? ⟨b, 2, none⟩ = some u2 ∧ w.cell? ⟨b, 3, none⟩ = some u3 ∧ w.cell? ⟨b, 4, none⟩ = some u4 ∧ w.cell? ⟨b, 5, none⟩ = some u5 ∧ ∀ j, w.frozen? ⟨b, j, none⟩ = false := by
 refine ⟨?_, ?_, ?_, ?_, ?_, ?_, fun j => ?_⟩ <;> simp [World.cell?, World.frozen?, h]
theorem Zau {w : World} {b : Nat} {u0 u1 u2 u3 u4 u5 : Value} (h : w.heap[b]? = some (.cells #[u0, u1, u2, u3, u4, u5] 31)) : (loadVar 31 ⟨b, 0, none⟩).run Tryz.prog w = .ok (.agg #[u0, u1, u2, u3, u4, u5]) w := by
 obtain ⟨z0, z1, z2, z3, z4, z5, _⟩ := Zac h
 simp [go_sem, z0, z1, z2, z3, z4, z5]

theorem Znf : (Tryz.prog.info? 31).map (fun i => (i.zero, i.size, i.bytes)) = some (some (.agg #[.int .i64 0, .string ⟨#[]⟩, .int .i64 0, .int .i64 0, .slice none 0 0, .slice none 0 0]), 6, 88) := by kernel_rfl

section
variable {ops : Array Oper} {rest : List Oper} {o : Oper} {a : Act} {Q : Exit → Act → World → Prop}
theorem Zdn (w : World) (hgd : o.guard = none) (ho : o.op = .alloc 31) (h : ∀ q w', w'.heap[q]? = some (.cells #[.int .i64 0, .string ⟨#[]⟩, .int .i64 0, .int .i64 0, .slice none 0 0, .slice none 0 0] 31) → w.heap.size ≤ q → Below w.heap.size w w' → wpList Tryz.prog ops Q rest (a.put o.dst (.pointer (some ⟨q, 0, none⟩))) w') : wpList Tryz.prog ops Q (o :: rest) a w :=
 wpList_plain hgd fun _ hK => by
  unfold Oper.wp execOp
  simp [ho, go_sem]
  exact hK _ _ (h w.heap.size _ (Zc0 w _) zo Zbc)

theorem bs31 (w : World) (hgd : o.guard = none) (x : Operand) (ho : o.op = .buildSlice 29 1 #[(0, x)]) (k : Int) (s : ByteArray) (p n : Int) (na : Option Addr) (nl nc : Nat) (ka : Option Addr) (kl kc : Nat) (hx : a.eval x = .agg #[.int .i64 k, .string s, .int .i64 p, .int .i64 n, .slice na nl nc, .slice ka kl kc])
  (h : ∀ g w', w'.heap[g]? = some (.cells #[.int .i64 k, .string s, .int .i64 p, .int .i64 n, .slice na nl nc, .slice ka kl kc] 31) → w.heap.size ≤ g → Below w.heap.size w w' → wpList Tryz.prog ops Q rest (a.put o.dst (.slice (some ⟨g, 0, none⟩) 1 1)) w') : wpList Tryz.prog ops Q (o :: rest) a w :=
 by
 obtain ⟨i, hi, hz, hsize, hby⟩ := Zb1 Znf
 refine wpList_buildSlice hgd 29 31 1 _ ho #[.int .i64 k, .string s, .int .i64 p, .int .i64 n, .slice na nl nc, .slice ka kl kc] i _ Tryz.underlying29 hi hz (by rw [hsize]; decide) (by rw [hsize]; decide) ?_ (h w.heap.size _ (Zc0 w _) zo Zbc)
 rw [Array.toList_map]
 show Instr.fill _ _ [(0, a.eval x)] = _
 rw [hx, hsize]
 first | kernel_rfl | simp [Instr.fill, Value.cells] | decide
end

theorem Zbu.own {w : World} {A : Nat → Prop} {v : Value} {xs : List Nd} (h : Zbu w A v xs) {g : Nat} (hg : v.ownBlock = some g) : A g ∧ g < w.heap.size := by
 obtain ⟨fl, h1, hA, _⟩ := h
 refine ⟨hA g hg, ?_⟩
 rcases h1.2 with ⟨rfl, _⟩ | ⟨g', cap', cur', rfl, hb', hh, _⟩
 ·simp [Value.ownBlock] at hg
 simp [Value.ownBlock] at hg
 subst hg
 exact lt_of_block hh
theorem Zho (w : World) (ty : TypeId) {A : Nat → Prop} {v : Value} {xs : List Nd} (q1 : Zbu w A v xs) {xa : Option Addr} {c : Nat} {ys : List Nd} {gl : List Value} (s : SlF (fun b => A b ∧ ∀ g, v.ownBlock = some g → b ≠ g) w xa ys.length c gl) (hk : KsF (fun b => A b ∧ ∀ g, v.ownBlock = some g → b ≠ g) w ys gl) (hn : xs.length + ys.length ≤ 1000000) (hbase : ∀ b, w.heap.size ≤ b → A b) :
  ∃ v' w', (Builtin.append_ #[29, 29] ty #[v, .slice xa ys.length c]).run Tryz.prog w = .ok v' w' ∧ Zbu w' A v' (xs ++ ys) ∧ Kp v w w' ∧ ∀ g, v'.ownBlock = some g → v.ownBlock = some g ∨ w.heap.size ≤ g := by
 obtain ⟨i, hi, hz, hsize, hby⟩ := Zb1 Znf
 obtain ⟨fl, o1, hA0, k1⟩ := q1
 cases xa with
 | none =>
  have hc := s.nil0 rfl
  have hr := s.room
  have : ys.length = 0 := by omega
  have hy : ys = [] := List.eq_nil_of_length_eq_zero this
  subst hy
  obtain rfl : c = 0 := hc
  refine ⟨v, w, run_append_owned_none (P := Tryz.prog) (w := w) 0 29 ty 31 i 6 Tryz.underlying29 hi v xs.length fl o1, ?_, ⟨rfl, rfl, rfl, zo, fun _ _ _ => rfl⟩, fun g hg => .inl hg⟩
  rw [List.append_nil]
  exact ⟨fl, o1, hA0, k1⟩
 | some ad =>
  have hnews : ∀ j u, gl[j]? = some u → w.cell? (ad.add j) = some u := by
   intro j u hj
   have h0 : 0 < gl.length := by
    have := (List.getElem?_eq_some_iff.1 hj).1
    omega
   obtain ⟨b, off, e, _, hc⟩ := s.cells h0
   simp only [Option.some.injEq] at e
   subst e
   rw [Za7]
   exact hc j u hj
  obtain ⟨v', w', hr, r1, r2, r3⟩ := Zd0 w 29 ty 31 Tryz.underlying29 hi hz hsize hby rfl (by decide) (by decide) o1 ad ys.length c gl hk.len hnews hk.flat (by omega) (Nat.zero_le _)
  refine ⟨v', w', hr, ⟨fl ++ gl, by rw [List.length_append]; exact r1, fun g hg => (r3 g hg).elim (hA0 g) (hbase g), ?_⟩, ⟨r2.os, r2.tape, r2.output, r2.size, fun b hb hne => r2.block b hb (fun e => hne e.symm)⟩, r3⟩
  have tr : ∀ b, b < w.heap.size → (A b ∧ ∀ g, v.ownBlock = some g → b ≠ g) → (A b ∧ ∀ g, v'.ownBlock = some g → b ≠ g) ∧ w'.heap[b]? = w.heap[b]? := by
   intro b hb hA
   refine ⟨⟨hA.1, fun g hg => ?_⟩, r2.block b hb (fun e => hA.2 b e.symm rfl)⟩
   rcases r3 g hg with h | h
   ·exact hA.2 g h
   omega
  exact KsF.app (k1.imp tr _ _) (hk.imp tr _ _)
section
variable {ops : Array Oper} {rest : List Oper} {o : Oper} {a : Act} {Q : Exit → Act → World → Prop}
theorem ap31 (w : World) (hgd : o.guard = none) (s x : Operand) (ho : o.op = .call { callee := .builtin .append, args := #[s, x], argTypes := #[29, 29] }) {A : Nat → Prop} {v : Value} {xs : List Nd} (hs : a.eval s = v) (q1 : Zbu w A v xs) {xa : Option Addr} {m c : Nat} (hx : a.eval x = .slice xa m c) {ys : List Nd} {gl : List Value} (hm : m = ys.length) (sl : SlF (fun b => A b ∧ ∀ g, v.ownBlock = some g → b ≠ g) w xa ys.length c gl) (hk : KsF (fun b => A b ∧ ∀ g, v.ownBlock = some g → b ≠ g) w ys gl) (hn : xs.length + ys.length ≤ 1000000) (hbase : ∀ b, w.heap.size ≤ b → A b)
  (h : ∀ (va : Option Addr) (vc : Nat) w', Zbu w' A (.slice va (xs.length + ys.length) vc) (xs ++ ys) → Kp v w w' → wpList Tryz.prog ops Q rest (a.put o.dst (.slice va (xs.length + ys.length) vc)) w') : wpList Tryz.prog ops Q (o :: rest) a w := by
 subst hm
 obtain ⟨v', w', hr, r1, r2, _⟩ := Zho w o.type q1 sl hk hn hbase
 obtain ⟨va, vc, rfl⟩ := r1.shape
 refine Lib.wpList_append_run w hgd s x 29 29 ho _ _ hs hx _ w' hr ?_
 rw [List.length_append] at r1 ⊢
 exact h va vc w' r1 r2
end
theorem Zqg {A : Nat → Prop} {w : World} {g : Nat} {v0 v1 v2 v3 v4 v5 : Value} (h : w.heap[g]? = some (.cells #[v0, v1, v2, v3, v4, v5] 31)) (hA : A g) : SlF A w (some ⟨g, 0, none⟩) 1 1 [v0, v1, v2, v3, v4, v5] := by
 obtain ⟨z0, z1, z2, z3, z4, z5, _⟩ := Zac h
 refine ⟨Nat.le_refl _, by decide, by simp, fun _ => ⟨g, 0, rfl, hA, fun j u hj => ?_⟩⟩
 rw [Nat.zero_add]
 match j, hj with
 | 0, hj => simp at hj; subst hj; exact z0
 | 1, hj => simp at hj; subst hj; exact z1
 | 2, hj => simp at hj; subst hj; exact z2
 | 3, hj => simp at hj; subst hj; exact z3
 | 4, hj => simp at hj; subst hj; exact z4
 | 5, hj => simp at hj; subst hj; exact z5
section
variable {ops : Array Oper} {rest : List Oper} {o o2 : Oper} {a : Act} {Q : Exit → Act → World → Prop}
theorem as31 (w : World) (hgd : o.guard = none) (ho : o.op = .alloc 31) (hgd2 : o2.guard = none) (t : Nat) (hd : o.dst = some t) (y : Operand) (ho2 : o2.op = .store 31 (.tmp t) y) (hd2 : o2.dst = none) (k : Int) (s : ByteArray) (p n : Int) (na : Option Addr) (nl nc : Nat) (ka : Option Addr) (kl kc : Nat)
  (hx : ∀ q : Nat, (a.put (some t) (.pointer (some ⟨q, 0, none⟩))).eval (.tmp t) = .pointer (some ⟨q, 0, none⟩)) (hy : ∀ q : Nat, (a.put (some t) (.pointer (some ⟨q, 0, none⟩))).eval y = .agg #[.int .i64 k, .string s, .int .i64 p, .int .i64 n, .slice na nl nc, .slice ka kl kc])
  (h : ∀ q w', w'.heap[q]? = some (.cells #[.int .i64 k, .string s, .int .i64 p, .int .i64 n, .slice na nl nc, .slice ka kl kc] 31) → w.heap.size ≤ q → Below w.heap.size w w' → wpList Tryz.prog ops Q rest (a.put (some t) (.pointer (some ⟨q, 0, none⟩))) w') : wpList Tryz.prog ops Q (o :: o2 :: rest) a w := by
 refine Zdn w hgd ho ?_
 intro q w1 E1 hq B1
 rw [hd]
 refine st31 w1 hgd2 _ y ho2 hd2 q k s p n na nl nc ka kl kc (hx q) (hy q) E1 ?_
 intro w2 E2 S2
 exact h q w2 E2 hq (B1.trans (S2.below hq))
end

def EBox (w : World) (A : Nat → Prop) (q : Nat) (x : Nd) : Prop := ∃ na nc ka kc, w.heap[q]? = some (.cells #[.int .i64 x.kind, .string (strOfNums x.text), .int .i64 (x.pos : Int), .int .i64 (x.n : Int), .slice na x.names.length nc, .slice ka x.kids.length kc] 31) ∧ NdV A w x (.agg #[.int .i64 x.kind, .string (strOfNums x.text), .int .i64 (x.pos : Int), .int .i64 (x.n : Int), .slice na x.names.length nc, .slice ka x.kids.length kc])
def Zge (w : World) (q : Nat) : Prop := ∃ u0 u1 u2 u3 u4 u5, w.heap[q]? = some (.cells #[u0, u1, u2, u3, u4, u5] 31)
theorem Zge.keep {w w' : World} {q : Nat} (h : Zge w q) (hk : q < w.heap.size → w'.heap[q]? = w.heap[q]?) : Zge w' q := by
 obtain ⟨u0, u1, u2, u3, u4, u5, h⟩ := h
 exact ⟨u0, u1, u2, u3, u4, u5, (hk (lt_of_block h)).trans h⟩

def Zca (w : World) (A : Nat → Prop) (q : Nat) (x : Nd) : Prop :=
 ∃ na nc ka kc, w.heap[q]? = some (.cells #[.int .i64 x.kind, .string (strOfNums x.text), .int .i64 (x.pos : Int), .int .i64 (x.n : Int), .slice na x.names.length nc, .slice ka x.kids.length kc] 31) ∧ SlF (fun b => A b ∧ ∀ g, (Value.slice ka x.kids.length kc).ownBlock = some g → b ≠ g) w na x.names.length nc (x.names.map Zcr) ∧ Zbu w A (.slice ka x.kids.length kc) x.kids
theorem Zca.lt {w : World} {A : Nat → Prop} {q : Nat} {x : Nd} (h : Zca w A q x) : q < w.heap.size := by
 obtain ⟨_, _, _, _, h, _⟩ := h
 exact lt_of_block h
theorem Zca.keep {w w' : World} {A : Nat → Prop} {q : Nat} {x : Nd} (h : Zca w A q x) (hq : q < w.heap.size → w'.heap[q]? = w.heap[q]?) (hk : ∀ b, A b → b < w.heap.size → w'.heap[b]? = w.heap[b]?) : Zca w' A q x := by
 obtain ⟨na, nc, ka, kc, E, sn, rk⟩ := h
 exact ⟨na, nc, ka, kc, (hq (lt_of_block E)).trans E, sn.imp (fun b hb hA => ⟨hA, hk b hA.1 hb⟩), rk.keep hk⟩
theorem Zca.bel {w w' : World} {A : Nat → Prop} {q : Nat} {x : Nd} (h : Zca w A q x) (B : Below w.heap.size w w') : Zca w' A q x := h.keep (fun hl => B.block q hl) (fun b _ hb => B.block b hb)
theorem Zca.fr {w w' : World} {p : Nat} {A : Nat → Prop} {q : Nat} {x : Nd} (h : Zca w A q x) (F : Fr p w.heap.size w w') (hq : q ≠ p) (hA : ¬ A p) : Zca w' A q x :=
 h.keep (fun hl => F.block q hl hq) (fun b hb hl => F.block b hl (fun e => hA (e ▸ hb)))
theorem Zca.st {w w' : World} {g : Nat} {A : Nat → Prop} {q : Nat} {x : Nd} (h : Zca w A q x) (F : St g w w') (hq : q ≠ g) (hA : ¬ A g) : Zca w' A q x :=
 h.keep (fun _ => F.block q hq) (fun b hb _ => F.block b (fun e => hA (e ▸ hb)))
theorem Zca.nd {w : World} {A : Nat → Prop} {q : Nat} {x : Nd} (h : Zca w A q x) (h1 : x.names.length ≤ 100000) (h2 : x.kids.length ≤ 100000) (h3 : x.text.length ≤ 100000000) : EBox w A q x := by
 obtain ⟨na, nc, ka, kc, E, sn, rk⟩ := h
 obtain ⟨_, fl, sl, kf⟩ := rk.sl
 refine ⟨na, nc, ka, kc, E, ?_⟩
 have hN := NdV.mk_ (A := A) (w := w) (k := x.kind) (t := x.text) (p := x.pos) (n := x.n) (l := x.names) (kids := x.kids) (sn.imp (fun b _ hA => ⟨hA.1, rfl⟩)) sl kf h1 h2 h3
 cases x
 exact hN
theorem Zca.new {w : World} {A : Nat → Prop} {q : Nat} {k : Int} {t : List Int} {p : Nat} (E : w.heap[q]? = some (.cells #[.int .i64 k, .string (strOfNums t), .int .i64 (p : Int), .int .i64 0, .slice none 0 0, .slice none 0 0] 31)) : Zca w A q (.mk k t p 0 [] []) :=
 ⟨none, 0, none, 0, E, SlF.nil _ _, Zbu.nil _ _⟩
theorem Zca.put {w w1 : World} {A : Nat → Prop} {q : Nat} {x y : Nd} {na ka va : Option Addr} {nc kc vc : Nat} (E : w.heap[q]? = some (.cells #[.int .i64 x.kind, .string (strOfNums x.text), .int .i64 (x.pos : Int), .int .i64 (x.n : Int), .slice na x.names.length nc, .slice ka x.kids.length kc] 31))
  (sn : SlF (fun b => A b ∧ ∀ g, (Value.slice ka x.kids.length kc).ownBlock = some g → b ≠ g) w na x.names.length nc (x.names.map Zcr)) (R : Zbu w1 A (.slice va (x.kids.length + 1) vc) (x.kids ++ [y])) (K : Kp (.slice ka x.kids.length kc) w w1) (hpl : ∀ g, (Value.slice va (x.kids.length + 1) vc).ownBlock = some g → (Value.slice ka x.kids.length kc).ownBlock = some g ∨ w.heap.size ≤ g) (hA : ¬ A q) (hkq : (Value.slice ka x.kids.length kc).ownBlock ≠ some q) :
  Zca (w1.setCell ⟨q, 5, none⟩ (.slice va (x.kids.length + 1) vc)) A q (x.kid y) ∧ St q w1 (w1.setCell ⟨q, 5, none⟩ (.slice va (x.kids.length + 1) vc)) := by
 have E1 := (K.block q (lt_of_block E) hkq).trans E
 have S := St.cell w1 q 5 (.slice va (x.kids.length + 1) vc)
 refine ⟨⟨na, nc, va, vc, ?_, ?_, ?_⟩, S⟩
 ·rw [heap_setCell_same w1 q 5 _ _ _ E1]
  simp [Nd.kid, Nd.kind, Nd.text, Nd.pos, Nd.n, Nd.names, Nd.kids]
 ·have hkl : (x.kid y).kids.length = x.kids.length + 1 := by simp [Nd.kid, Nd.kids]
  rw [hkl]
  exact sn.imp (fun b hb hh => ⟨⟨hh.1, fun g hg => (hpl g hg).elim (hh.2 g) (fun h => by omega)⟩, (S.block b (fun e => hA (e ▸ hh.1))).trans (K.block b hb (fun e => hh.2 b e rfl))⟩)
 have hkl : (x.kid y).kids.length = x.kids.length + 1 := by simp [Nd.kid, Nd.kids]
 rw [hkl]
 exact R.keep (fun b hb _ => S.block b (fun e => hA (e ▸ hb)))
theorem ap31p {ops : Array Oper} {rest : List Oper} {o : Oper} {a : Act} {Q : Exit → Act → World → Prop} (w : World) (hgd : o.guard = none) (s x : Operand) (ho : o.op = .call { callee := .builtin .append, args := #[s, x], argTypes := #[29, 29] }) {A : Nat → Prop} {v : Value} {xs : List Nd} (hs : a.eval s = v) (q1 : Zbu w A v xs) {g : Nat} (hx : a.eval x = .slice (some ⟨g, 0, none⟩) 1 1) {v0 v1 v2 v3 v4 v5 : Value} (hg : w.heap[g]? = some (.cells #[v0, v1, v2, v3, v4, v5] 31)) {y : Nd} {A' : Nat → Prop} (hy : NdV A' w y (.agg #[v0, v1, v2, v3, v4, v5])) (hA : ∀ b, b < w.heap.size → A' b ∨ b = g → A b ∧ ∀ q, v.ownBlock = some q → b ≠ q) (hn : xs.length ≤ 500000) (hbase : ∀ b, w.heap.size ≤ b → A b)
  (h : ∀ (va : Option Addr) (vc : Nat) w', Zbu w' A (.slice va (xs.length + 1) vc) (xs ++ [y]) → Kp v w w' → (∀ g, (Value.slice va (xs.length + 1) vc).ownBlock = some g → v.ownBlock = some g ∨ w.heap.size ≤ g) → wpList Tryz.prog ops Q rest (a.put o.dst (.slice va (xs.length + 1) vc)) w') : wpList Tryz.prog ops Q (o :: rest) a w := by
 obtain ⟨v', w', hr, r1, r2, r3⟩ := Zho w o.type (ys := [y]) q1 (Zqg hg (hA g (lt_of_block hg) (.inr rfl))) (KsF.one (hy.mono fun b hb h => hA b hb (.inl h))) (by simp only [List.length_singleton]; omega) hbase
 obtain ⟨va, vc, rfl⟩ := r1.shape
 refine Lib.wpList_append_run w hgd s x 29 29 ho _ _ hs hx _ w' hr ?_
 have hl : (xs ++ [y]).length = xs.length + 1 := by simp
 rw [hl] at r1 r3 ⊢
 exact h va vc w' r1 r2 r3
theorem Za8 {ops : Array Oper} {rest : List Oper} {o : Oper} {a : Act} {Q : Exit → Act → World → Prop} {w : World} {x y : Operand} {g : Nat} {k : Int} {s : ByteArray} {p n : Int} {na : Option Addr} {nl nc : Nat} {ka : Option Addr} {kl kc : Nat} {u0 u1 u2 u3 u4 u5 : Value} (hgd : o.guard = none) (ho : o.op = .store 31 x y) (hd : o.dst = none) (hx : a.eval x = .pointer (some ⟨g, 0, none⟩)) (hy : a.eval y = .agg #[.int .i64 k, .string s, .int .i64 p, .int .i64 n, .slice na nl nc, .slice ka kl kc]) (hg : w.heap[g]? = some (.cells #[u0, u1, u2, u3, u4, u5] 31))
  (h : ∀ w', w'.heap[g]? = some (.cells #[.int .i64 k, .string s, .int .i64 p, .int .i64 n, .slice na nl nc, .slice ka kl kc] 31) → St g w w' → wpList Tryz.prog ops Q rest a w') : wpList Tryz.prog ops Q (o :: rest) a w := st31 w hgd x y ho hd g k s p n na nl nc ka kl kc hx hy hg h
theorem Zb5 {ops : Array Oper} {rest : List Oper} {o o2 : Oper} {a : Act} {Q : Exit → Act → World → Prop} {w : World} {y : Operand} {k : Int} {s : ByteArray} {p n : Int} {na : Option Addr} {nl nc : Nat} {ka : Option Addr} {kl kc : Nat} (hgd : o.guard = none) (ho : o.op = .alloc 31) (hgd2 : o2.guard = none) (t : Nat) (hd : o.dst = some t) (ho2 : o2.op = .store 31 (.tmp t) y) (hd2 : o2.dst = none)
  (hx : ∀ q : Nat, (a.put (some t) (.pointer (some ⟨q, 0, none⟩))).eval (.tmp t) = .pointer (some ⟨q, 0, none⟩)) (hy : ∀ q : Nat, (a.put (some t) (.pointer (some ⟨q, 0, none⟩))).eval y = .agg #[.int .i64 k, .string s, .int .i64 p, .int .i64 n, .slice na nl nc, .slice ka kl kc])
  (h : ∀ q w', w'.heap[q]? = some (.cells #[.int .i64 k, .string s, .int .i64 p, .int .i64 n, .slice na nl nc, .slice ka kl kc] 31) → w.heap.size ≤ q → Below w.heap.size w w' → wpList Tryz.prog ops Q rest (a.put (some t) (.pointer (some ⟨q, 0, none⟩))) w') : wpList Tryz.prog ops Q (o :: o2 :: rest) a w := as31 w hgd ho hgd2 t hd y ho2 hd2 k s p n na nl nc ka kl kc hx hy h
end
section
def ZTok : Value := .agg #[.int .i64 0, .string ⟨#[]⟩, .int .i64 0]
variable {W : List Tk} {d n0 p t : Nat} {w : World}
theorem Ze4 (h : Pr w p W n0 d 0 t) (hi : n0 < W.length) (k : Int) (hk : kdW W n0 = k) (hk0 : k ≠ 0) :
  Calls Tryz.prog 47 #[.pointer (some ⟨p, 0, none⟩), .int .i64 k] w fun r w' => r = .returned (Zdh W n0) ∧ Pr w' p W (n0 + 1) d 0 t ∧ Fr p w.heap.size w w' := by
 have hpl := h.lt
 have hkb : (kdW W n0 == k) = true := by simp [hk]
 go_enter Tryz.func47, Tryz.ntmps47
 go_wp2_with (refine Zid _ rfl rfl ?_)
 intro q w1 E1 hq B1
 have h1 := h.bel B1
 go_wp2_with fail
 refine (Zad h1 hi k).mono ?_
 rintro e w2 ⟨rfl, B2⟩
 rw [hkb]
 replace h1 := h1.bel B2
 replace E1 := (B2.block _ (lt_of_block E1)).trans E1
 replace B1 := Zab B1 zo B2
 clear B2
 go_wp2_with fail
 refine (Za9 h1 hi (by rw [hk]; exact hk0)).mono ?_
 rintro e w3 ⟨rfl, h3, F3⟩
 replace E1 := (F3.block _ (lt_of_block E1) (by omega)).trans E1
 have F13 := (Fr.of_below B1).thn zo F3
 clear B1 F3
 unfold Zdh
 go_wp2_with (refine Zgf _ rfl _ _ rfl rfl q _ _ _ rfl rfl E1 ?_)
 intro w4 E4 S4
 go_wp2
 exact bodyPost_ret (v := Zdh W n0) (Zas (a := 4) (t := 78) (by rfl) (by rfl) (Zf5 (by rw [hk]; exact E4))) (by rfl) ⟨rfl, h3.st S4 (by omega), F13.trans (Fr.of_below (S4.below hq)) zo⟩
theorem Zkk (h : Pr w p W n0 d 0 t) (hi : n0 < W.length) (k : Int) (hk : kdW W n0 ≠ k) :
  Calls Tryz.prog 47 #[.pointer (some ⟨p, 0, none⟩), .int .i64 k] w fun r w' => r = .returned ZTok ∧ Pr w' p W n0 d 20 (psW W n0) ∧ Fr p w.heap.size w w' := by
 have hpl := h.lt
 have hkb : (kdW W n0 == k) = false := by simp [hk]
 go_enter Tryz.func47, Tryz.ntmps47
 go_wp2_with (refine Zid _ rfl rfl ?_)
 intro q w1 E1 hq B1
 have h1 := h.bel B1
 go_wp2_with fail
 refine (Zad h1 hi k).mono ?_
 rintro e w2 ⟨rfl, B2⟩
 rw [hkb]
 replace h1 := h1.bel B2
 replace E1 := (B2.block _ (lt_of_block E1)).trans E1
 replace B1 := Zab B1 zo B2
 clear B2
 go_wp2_with fail
 refine (Zb6 h1 hi 20).mono ?_
 rintro e w3 ⟨rfl, h3, F3⟩
 replace E1 := (F3.block _ (lt_of_block E1) (by omega)).trans E1
 have F13 := (Fr.of_below B1).thn zo F3
 clear B1 F3
 go_wp2_with (refine Zgf _ rfl _ _ rfl rfl q _ _ _ rfl rfl E1 ?_)
 intro w4 E4 S4
 go_wp2
 exact bodyPost_ret (v := ZTok) (Zas (a := 4) (t := 78) (by rfl) (by rfl) (Zf5 E4)) (by rfl) ⟨rfl, h3.st S4 (by omega), F13.trans (Fr.of_below (S4.below hq)) zo⟩
theorem Ze5 {c : Int} (h : Pr w p W n0 d c t) (hi : n0 < W.length) (hc : c ≠ 0) (k : Int) :
  Calls Tryz.prog 47 #[.pointer (some ⟨p, 0, none⟩), .int .i64 k] w fun r w' => r = .returned ZTok ∧ Below w.heap.size w w' := by
 have hpl := h.lt
 go_enter Tryz.func47, Tryz.ntmps47
 go_wp2_with (refine Zid _ rfl rfl ?_)
 intro q w1 E1 hq B1
 have h1 := h.bel B1
 go_wp2_with fail
 refine (Zax h1 hi hc k).mono ?_
 rintro e w2 ⟨rfl, B2⟩
 replace h1 := h1.bel B2
 replace E1 := (B2.block _ (lt_of_block E1)).trans E1
 replace B1 := Zab B1 zo B2
 clear B2
 go_wp2_with fail
 refine (Zfc h1 hc 20).mono ?_
 rintro e w3 ⟨rfl, B3⟩
 replace E1 := (B3.block _ (lt_of_block E1)).trans E1
 replace B1 := Zab B1 zo B3
 clear B3
 go_wp2_with (refine Zgf _ rfl _ _ rfl rfl q _ _ _ rfl rfl E1 ?_)
 intro w4 E4 S4
 go_wp2
 exact bodyPost_ret (v := ZTok) (Zas (a := 4) (t := 78) (by rfl) (by rfl) (Zf5 E4)) (by rfl) ⟨rfl, B1.trans (S4.below hq)⟩
theorem Zd5 (h : Pr w p W n0 d 0 t) (hi : n0 < W.length) (hd : d < 40) (hk : kdW W n0 ≠ 0) :
  Calls Tryz.prog 80 #[.pointer (some ⟨p, 0, none⟩)] w fun r w' => r = .returned (.tuple #[]) ∧ Pr w' p W (n0 + 1) (d + 1) 0 t ∧ Fr p w.heap.size w w' := by
 have hwd : IntKind.i64.wrap ((d : Int) + 1) = (d : Int) + 1 := by rw [IntKind.wrap_i64]; omega
 have hne : decide ((40 : Int) ≤ (d : Int)) = false := by simp; omega
 obtain ⟨b, off, c, c0, c1, c2, c3, c4, cf⟩ := h.cells
 have f2 := cf 2
 go_enter Tryz.func80, Tryz.ntmps80
 go_upto_region 3 with fail
 have h1 := h.setDepth (d + 1)
 have S1 := St.cell w p 2 (.int .i64 ((d + 1 : Nat) : Int))
 rw [show ((d + 1 : Nat) : Int) = (d : Int) + 1 by omega] at h1 S1
 clear c0 c1 c2 c3 c4 cf f2
 generalize w.setCell ⟨p, 2, none⟩ (.int .i64 ((d : Int) + 1)) = w1 at *
 go_wp2_with fail
 refine (Za9 h1 hi hk).mono ?_
 rintro e w3 ⟨rfl, h3, F3⟩
 go_wp2
 go_end0
 exact ⟨rfl, h3, S1.fr.trans F3 (Nat.le_of_eq S1.size.symm)⟩
theorem Zff (h : Pr w p W n0 40 0 t) (hi : n0 < W.length) :
  Calls Tryz.prog 80 #[.pointer (some ⟨p, 0, none⟩)] w fun r w' => r = .returned (.tuple #[]) ∧ Pr w' p W n0 41 3 (psW W n0) ∧ Fr p w.heap.size w w' := by
 obtain ⟨b, off, c, c0, c1, c2, c3, c4, cf⟩ := h.cells
 go_enter Tryz.func80, Tryz.ntmps80
 go_wp2_with fail
 refine (Zb6 h hi 3).mono ?_
 rintro e w1 ⟨rfl, h1, F1⟩
 clear c0 c1 c2 c3 c4 cf
 obtain ⟨b, off, c, c0, c1, c2, c3, c4, cf⟩ := h1.cells
 have f2 := cf 2
 go_upto_region 3 with fail
 have h2 := h1.setDepth 41
 have S2 := St.cell w1 p 2 (.int .i64 41)
 clear c0 c1 c2 c3 c4 cf f2
 generalize w1.setCell ⟨p, 2, none⟩ (.int .i64 41) = w2 at *
 go_wp2_with fail
 refine (Zfr h2 hi (.inl (by decide))).mono ?_
 rintro e w3 ⟨rfl, B3⟩
 go_wp2
 go_end0
 exact ⟨rfl, h2.bel B3, (F1.trans S2.fr F1.size).trans (Fr.of_below B3) (Nat.le_trans F1.size (Nat.le_of_eq S2.size.symm))⟩
end
theorem bx31 {ops : Array Oper} {rest : List Oper} {o : Oper} {a : Act} {Q : Exit → Act → World → Prop} (w : World) (hgd : o.guard = none) (x : Operand) (ho : o.op = .box 31 x) (k : Int) (s : ByteArray) (p n : Int) (na : Option Addr) (nl nc : Nat) (ka : Option Addr) (kl kc : Nat) (hx : a.eval x = .agg #[.int .i64 k, .string s, .int .i64 p, .int .i64 n, .slice na nl nc, .slice ka kl kc])
  (h : ∀ q w', w'.heap[q]? = some (.cells #[.int .i64 k, .string s, .int .i64 p, .int .i64 n, .slice na nl nc, .slice ka kl kc] 31) → w.heap.size ≤ q → Below w.heap.size w w' → wpList Tryz.prog ops Q rest (a.put o.dst (.pointer (some ⟨q, 0, none⟩))) w') : wpList Tryz.prog ops Q (o :: rest) a w :=
 wpList_plain hgd fun _ hK => by
  unfold Oper.wp execOp
  simp only [ho, hx]
  simp [go_sem]
  exact hK _ _ (h w.heap.size _ (Zc0 w _) zo Zbc)
theorem Zhh {w : World} {A0 : Nat → Prop} {x m : Nd} {v u : Value} (hB : ∀ b, w.heap.size ≤ b → A0 b) (hx : NdV A0 w x v) (hm : NdV A0 w m u) (hk : m.kids.length ≤ 90000) :
  Calls Tryz.prog 121 #[v, u] w fun e w' => ∃ v', e = .returned v' ∧ NdV A0 w' (Zat x m) v' ∧ Below w.heap.size w w' := by
 obtain ⟨na, nc, ka, kc, fl, rfl, _, _, _, bx1, bx2, bx3⟩ := NdV.parts hx
 obtain ⟨ma, mc, la, lc, gl, rfl, _, sm, km, bm1, bm2, bm3⟩ := NdV.parts hm
 go_enter Tryz.func121, Tryz.ntmps121
 go_wp2_with (refine bx31 _ rfl _ rfl _ _ _ _ _ _ _ _ _ _ rfl ?_)
 intro q2 u1 E2 hq2 C1
 go_wp2_with (refine bx31 _ rfl _ rfl _ _ _ _ _ _ _ _ _ _ rfl ?_)
 intro q3 u2 E3 hq3 C2
 go_wp2_with (refine Zdn _ rfl rfl ?_)
 intro q4 w1 E4 hq4 C3
 have l2 := lt_of_block E2
 have l3 := lt_of_block E3
 have l4 := lt_of_block E4
 have s1 := C1.size
 have s2 := C2.size
 have s3 := C3.size
 replace E2 := (C3.block _ (by omega)).trans ((C2.block _ l2).trans E2)
 replace E3 := (C3.block _ l3).trans E3
 have C : Below w.heap.size w w1 := Zab (Zab C1 zo C2) zo C3
 clear C1 C2 C3
 obtain ⟨z0, z1, z2, z3, z4, z5, _⟩ := Zac E3
 go_wp2_with (refine Zb5 rfl rfl rfl 5 rfl rfl rfl (fun _ => rfl) (fun _ => rfl) ?_)
 intro q5 w2 E5 hq5 C4
 have l5 := lt_of_block E5
 have s4 := C4.size
 replace E2 := (C4.block _ (by omega)).trans E2
 replace E3 := (C4.block _ (by omega)).trans E3
 replace E4 := (C4.block _ (by omega)).trans E4
 replace C := Zab C zo C4
 clear C4 z0 z1 z2 z3 z4 z5
 obtain ⟨x0, x1, x2, x3, x4, x5, _⟩ := Zac E2
 obtain ⟨y0, y1, y2, y3, y4, y5, _⟩ := Zac E5
 go_wp2_with (refine bs31 _ rfl _ rfl _ _ _ _ _ _ _ _ _ _ rfl ?_)
 intro g w3 Eg hg C5
 have lg := lt_of_block Eg
 have s5 := C5.size
 replace E2 := (C5.block _ (by omega)).trans E2
 replace E3 := (C5.block _ (by omega)).trans E3
 replace E4 := (C5.block _ (by omega)).trans E4
 replace E5 := (C5.block _ (by omega)).trans E5
 replace C := Zab C zo C5
 clear C5 x0 x1 x2 x3 x4 x5 y0 y1 y2 y3 y4 y5
 have hN : NdV (fun b => A0 b ∧ b < w.heap.size) w3 x _ := hx.imp (fun b hb hA => ⟨⟨hA, hb⟩, C.block b hb⟩) _ _
 obtain ⟨y0, y1, y2, y3, y4, y5, yf⟩ := Zac E5
 have yf5 := yf 5
 go_wp2_with (at_builtin; refine ap31p _ rfl _ _ rfl (A := fun b => A0 b ∧ b ≠ q2 ∧ b ≠ q3 ∧ b ≠ q4 ∧ b ≠ q5) (v := .slice none 0 0) (xs := []) rfl (Zbu.nil _ _) rfl Eg hN ?hA ?hn ?hb ?_)
 case hA =>
  intro b hb hA
  refine ⟨?_, fun q hq => by simp [Value.ownBlock] at hq⟩
  rcases hA with hA | rfl
  ·exact ⟨hA.1, by omega, by omega, by omega, by omega⟩
  exact ⟨hB _ (by omega), by omega, by omega, by omega, by omega⟩
 case hn => simp
 case hb => exact fun b hb => ⟨hB _ (by omega), by omega, by omega, by omega, by omega⟩
 intro va vc w4 R4 K4 hpl
 replace R4 : Zbu w4 (fun b => A0 b ∧ b ≠ q2 ∧ b ≠ q3 ∧ b ≠ q4 ∧ b ≠ q5) (.slice va 1 vc) [x] := R4
 have D4 : Below w3.heap.size w3 w4 := K4.below zo (fun g hg => by simp [Value.ownBlock] at hg)
 have hpl4 : ∀ g, (Value.slice va 1 vc).ownBlock = some g → w3.heap.size ≤ g := fun g hg => (hpl g hg).elim (fun h => absurd h (by simp [Value.ownBlock])) id
 have s6 := D4.size
 replace E2 := (D4.block _ (by omega)).trans E2
 replace E3 := (D4.block _ (by omega)).trans E3
 replace E4 := (D4.block _ (by omega)).trans E4
 replace E5 := (D4.block _ (by omega)).trans E5
 replace C := Zab C zo D4
 clear K4 D4 hpl y0 y1 y2 y3 y4 y5 yf yf5 hN
 obtain ⟨y0, y1, y2, y3, y4, y5, yf⟩ := Zac E5
 have yf5 := yf 5
 go_upto_region 3 with fail
 have S5 := St.cell w4 q5 5 (.slice va 1 vc)
 have E5' := heap_setCell_same w4 q5 5 _ _ (.slice va 1 vc) E5
 replace E2 := (S5.block _ (by omega)).trans E2
 replace E3 := (S5.block _ (by omega)).trans E3
 replace E4 := (S5.block _ (by omega)).trans E4
 have R5 := R4.keep (w' := w4.setCell ⟨q5, 5, none⟩ (.slice va 1 vc)) (fun b hb _ => S5.block b hb.2.2.2.2)
 replace C := C.trans (S5.below (B := w.heap.size) (by omega))
 have s7 := S5.size
 clear y0 y1 y2 y3 y4 y5 yf yf5 E5 R4 S5
 generalize w4.setCell ⟨q5, 5, none⟩ (.slice va 1 vc) = w5 at *
 simp only [List.setIfInBounds_toArray, List.set_cons_zero, List.set_cons_succ] at E5'
 obtain ⟨y0, y1, y2, y3, y4, y5, yf⟩ := Zac E5'
 obtain ⟨z0, z1, z2, z3, z4, z5, _⟩ := Zac E3
 have yf5 := yf 5
 go_wp2_with (at_builtin; refine ap31 _ rfl _ _ rfl (A := fun b => A0 b ∧ b ≠ q2 ∧ b ≠ q3 ∧ b ≠ q4 ∧ b ≠ q5) (v := .slice va 1 vc) (xs := [x]) rfl R5 rfl (m := m.kids.length) rfl (sm.imp ?s1) (KsF.imp ?s2 _ _ km) ?hn ?hb ?_)
 case s1 =>
  intro b hb hA
  exact ⟨⟨⟨hA, by omega, by omega, by omega, by omega⟩, fun g hg => by have := hpl4 g hg; omega⟩, C.block b hb⟩
 case s2 =>
  intro b hb hA
  exact ⟨⟨⟨hA, by omega, by omega, by omega, by omega⟩, fun g hg => by have := hpl4 g hg; omega⟩, C.block b hb⟩
 case hn => simp; omega
 case hb => exact fun b hb => ⟨hB _ (by omega), by omega, by omega, by omega, by omega⟩
 intro va2 vc2 w6 R6 K6
 have s8 := K6.size
 replace E4 := (K6.block _ (by omega) (fun e => by have := hpl4 _ e; omega)).trans E4
 replace E5 := (K6.block _ (by omega) (fun e => by have := hpl4 _ e; omega)).trans E5'
 replace C := C.trans (K6.below (B := w.heap.size) (by omega) (fun g hg => by have := hpl4 _ hg; omega))
 clear y0 y1 y2 y3 y4 y5 yf yf5 E5' K6 R5 z0 z1 z2 z3 z4 z5 E2 E3
 replace R6 : Zbu w6 (fun b => A0 b ∧ b ≠ q2 ∧ b ≠ q3 ∧ b ≠ q4 ∧ b ≠ q5) (.slice va2 (1 + m.kids.length) vc2) (x :: m.kids) := R6
 obtain ⟨y0, y1, y2, y3, y4, y5, yf⟩ := Zac E5
 have yf5 := yf 5
 go_upto_region 4 with fail
 have S7 := St.cell w6 q5 5 (.slice va2 (1 + m.kids.length) vc2)
 have E5' := heap_setCell_same w6 q5 5 _ _ (.slice va2 (1 + m.kids.length) vc2) E5
 replace E4 := (S7.block _ (by omega)).trans E4
 have R7 := R6.keep (w' := w6.setCell ⟨q5, 5, none⟩ (.slice va2 (1 + m.kids.length) vc2)) (fun b hb _ => S7.block b hb.2.2.2.2)
 replace C := C.trans (S7.below (B := w.heap.size) (by omega))
 clear y0 y1 y2 y3 y4 y5 yf yf5 E5 R6
 generalize w6.setCell ⟨q5, 5, none⟩ (.slice va2 (1 + m.kids.length) vc2) = w7 at *
 simp only [List.setIfInBounds_toArray, List.set_cons_zero, List.set_cons_succ] at E5'
 obtain ⟨y0, y1, y2, y3, y4, y5, yf⟩ := Zac E5'
 go_wp2_with (refine Za8 rfl rfl rfl rfl rfl E4 ?_)
 intro wz Ez Sz
 go_wp2
 have R8 := R7.keep (w' := wz) (fun b hb _ => Sz.block b hb.2.2.2.1)
 obtain ⟨_, fl3, sl3, kf3⟩ := R8.sl
 have hN := NdV.mk_ (A := A0) (w := wz) (k := 7) (t := m.text) (p := m.pos) (n := 0) (l := []) (kids := x :: m.kids) (na := none) (nc := 0) (SlF.nil _ _) (ka := va2) (kc := vc2) (by rw [show (x :: m.kids).length = 1 + m.kids.length by simp; omega]; exact sl3.imp (fun b _ hA => ⟨hA.1, rfl⟩)) (KsF.imp (fun b _ hA => ⟨hA.1, rfl⟩) _ _ kf3) (by simp) (by simp; omega) bm3
 rw [show (x :: m.kids).length = 1 + m.kids.length by simp; omega] at hN
 exact zT 4 (by rfl) (by rfl) (Zau Ez) (by rfl) ⟨_, rfl, hN, C.trans (Sz.below (B := w.heap.size) (by omega))⟩
end Go.Proofs.YtncfmhlikmibaaaGreatDoor
