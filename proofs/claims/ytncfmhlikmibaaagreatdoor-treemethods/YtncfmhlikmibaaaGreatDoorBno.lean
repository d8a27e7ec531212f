/- binaryOf. -/
import Derived.Test.YtncfmhlikmibaaaGreatDoorUno
import Derived.Lib.AppendZeros
namespace Go.Proofs.YtncfmhlikmibaaaGreatDoor
open Go.RowKit
set_option maxRecDepth 100000
set_option maxHeartbeats 16000000
section
structure Sx (w0 : World) (p q : Nat) (w : World) (W : List Tk) (i : Nat) (d y : Int) : Prop where
 fr : Fr p w0.heap.size w0 w
 z : Zer w q
 rd : Rdw w p W i d y
 hq : w0.heap.size ≤ q
 hp : p < w0.heap.size
theorem Zer.lt {w : World} {q : Nat} (h : Zer w q) : q < w.heap.size := by
 obtain ⟨_, _, _, _, _, _, h⟩ := h
 exact lt_of_block h
theorem Sx.start {w w1 : World} {p q : Nat} {W : List Tk} {i : Nat} {d y : Int} (h : Rdw w p W i d y) (hz : Zer w1 q) (hq : w.heap.size ≤ q) (hB : Below w.heap.size w w1) : Sx w p q w1 W i d y :=
 ⟨Fr.of_below hB, hz, h.fr hB, hq, h.lt⟩
theorem Sx.go {w0 w w' : World} {p q : Nat} {W : List Tk} {i i' : Nat} {d y d' y' : Int} (h : Sx w0 p q w W i d y) (F : Fr p w.heap.size w w') (hr : Rdw w' p W i' d' y') : Sx w0 p q w' W i' d' y' :=
 ⟨h.fr.thn zo F, h.z.keep (fun hl => F.block q hl (by have := h.hq; have := h.hp; omega)), hr, h.hq, h.hp⟩
theorem Sx.bel {w0 w w' : World} {p q : Nat} {W : List Tk} {i : Nat} {d y : Int} (h : Sx w0 p q w W i d y) (B : Below w.heap.size w w') : Sx w0 p q w' W i d y := h.go (Fr.of_below B) (h.rd.fr B)
theorem Sx.fin {w0 w w' : World} {p q : Nat} {W : List Tk} {i : Nat} {d y : Int} (h : Sx w0 p q w W i d y) (S : St q w w') : Fr p w0.heap.size w0 w' ∧ Rdw w' p W i d y :=
 ⟨h.fr.trans (Fr.of_below (S.below h.hq)) zo, h.rd.st S (by have := h.hq; have := h.hp; omega)⟩
theorem Sx.size {w0 w : World} {p q : Nat} {W : List Tk} {i : Nat} {d y : Int} (h : Sx w0 p q w W i d y) : w0.heap.size ≤ w.heap.size := h.fr.size
theorem NdV.out {B B0 q : Nat} {w w' : World} {x : Nd} {v : Value} (h : NdV (fun b => B ≤ b) w x v) (S : St q w w') (hq : q < B) (hB : B0 ≤ B) : NdV (fun b => B0 ≤ b) w' x v :=
 h.imp (fun b _ hA => ⟨Nat.le_trans hB hA, S.block b (by omega)⟩) _ _
theorem NdV.bel {A : Nat → Prop} {w w' : World} {x : Nd} {v : Value} (h : NdV A w x v) (B : Below w.heap.size w w') : NdV A w' x v :=
 h.imp (fun b hb hA => ⟨hA, B.block b hb⟩) _ _
section
variable {ops : Array Oper} {rest : List Oper} {o o2 : Oper} {a : Act} {Q : Exit → Act → World → Prop}
theorem as25 (w : World) (hgd : o.guard = none) (ho : o.op = .alloc 25) (hgd2 : o2.guard = none) (t : Nat) (hd : o.dst = some t) (y : Operand) (ho2 : o2.op = .store 25 (.tmp t) y) (hd2 : o2.dst = none) (k : Int) (s : ByteArray) (p n : Int) (na : Option Addr) (nl nc : Nat) (ka : Option Addr) (kl kc : Nat)
  (hx : ∀ q : Nat, (a.put (some t) (.pointer (some ⟨q, 0, none⟩))).eval (.tmp t) = .pointer (some ⟨q, 0, none⟩)) (hy : ∀ q : Nat, (a.put (some t) (.pointer (some ⟨q, 0, none⟩))).eval y = .agg #[.int .i64 k, .string s, .int .i64 p, .int .i64 n, .slice na nl nc, .slice ka kl kc])
  (h : ∀ q w', w'.heap[q]? = some (.cells #[.int .i64 k, .string s, .int .i64 p, .int .i64 n, .slice na nl nc, .slice ka kl kc] 25) → w.heap.size ≤ q → Below w.heap.size w w' → wpList Tryz.prog ops Q rest (a.put (some t) (.pointer (some ⟨q, 0, none⟩))) w') : wpList Tryz.prog ops Q (o :: o2 :: rest) a w := by
 refine Zdl w hgd ho ?_
 intro q w1 E1 hq B1
 rw [hd]
 refine st25 w1 hgd2 _ y ho2 hd2 q k s p n na nl nc ka kl kc (hx q) (hy q) E1 ?_
 intro w2 E2 S2
 exact h q w2 E2 hq (B1.trans (S2.below hq))
end
theorem Zo8 {W : List Tk} {E : Nat} (S : Src W E) {i d : Nat} (hi : i ≤ E) (H : Zcb 134 W (.prim i d) i d) : Zcb 169 W (.una i d) i d := by
 intro w p h
 go_enter Tryz.func169, Tryz.ntmps169
 go_wp2_with (refine Zdl _ rfl rfl ?_)
 intro q w1 E1 hq B1
 have X := Sx.start h ⟨_, _, _, _, _, _, E1⟩ hq B1
 clear E1 hq B1 h
 go_wp2_with fail
 refine (H w1 p X.rd).mono ?_
 rintro e w2 ⟨r, hr, ha, F2⟩
 cases r with
 | er j c =>
  obtain ⟨v, x, d', rfl, hv, h2⟩ := ha
  obtain ⟨na, nc, ka, kc, _, rfl, _⟩ := NdV.parts hv
  have X2 := X.go F2 h2
  clear X F2
  go_wp2_with (refine as25 _ rfl rfl rfl 4 rfl _ rfl rfl _ _ _ _ _ _ _ _ _ _ (fun _ => rfl) (fun _ => rfl) ?_)
  intro q4 w3 E3 hq3 B3
  replace X2 := X2.bel B3
  obtain ⟨u0, u1, u2, u3, u4, u5, Eq⟩ := X2.z
  go_wp2_with (refine st25 _ rfl _ _ rfl rfl _ _ _ _ _ _ _ _ _ _ _ rfl rfl Eq ?_)
  intro wz Ez Sz
  go_wp2
  exact bodyPost_ret (Za4 (a := 2) (t := 25) (b := 3) (by rfl) (by rfl) (by rfl) (Zal Ez)) (by rfl) ⟨_, Znn hr, ⟨_, zNd, _, rfl, NdV.zero, (X2.fin Sz).2⟩, (X2.fin Sz).1⟩
 | ok x j =>
  obtain ⟨v, rfl, hv, h2⟩ := ha
  obtain ⟨na, nc, ka, kc, _, rfl, _⟩ := NdV.parts hv
  have X2 := X.go F2 h2
  have hj := hr.adv S.ends hi
  have hq1 := X.z.lt
  have hs1 := X.size
  have hs12 : w1.heap.size ≤ w2.heap.size := F2.size
  clear X F2
  go_wp2_with (refine as25 _ rfl rfl rfl 4 rfl _ rfl rfl _ _ _ _ _ _ _ _ _ _ (fun _ => rfl) (fun _ => rfl) ?_)
  intro q4 w3 E3 hq3 B3
  replace X2 := X2.bel B3
  replace hv := hv.bel B3
  obtain ⟨z0, z1, z2, z3, z4, z5, _⟩ := Zae E3
  go_wp2_with fail
  refine (Zgt S hj.2 X2.rd (A0 := fun b => w1.heap.size ≤ b) (by have := X2.hp; omega) (fun b hb => Nat.le_trans (Nat.le_trans hs12 B3.size) hb) hv).mono ?_
  rintro e w4 ⟨y, k, u, hy, hk, rfl, hu, h4, F4⟩
  obtain ⟨ma, mc, la, lc, _, rfl, _⟩ := NdV.parts hu
  replace X2 := X2.go F4 h4
  obtain ⟨u0, u1, u2, u3, u4, u5, Eq⟩ := X2.z
  go_wp2_with (refine st25 _ rfl _ _ rfl rfl _ _ _ _ _ _ _ _ _ _ _ rfl rfl Eq ?_)
  intro wz Ez Sz
  go_wp2
  exact bodyPost_ret (Za4 (a := 2) (t := 25) (b := 3) (by rfl) (by rfl) (by rfl) (Zal Ez)) (by rfl) ⟨_, Znm hr hy, ⟨_, rfl, hu.out Sz hq1 hs1, (X2.fin Sz).2⟩, (X2.fin Sz).1⟩
theorem Zcm {ops : Array Oper} {rest : List Oper} {o o2 : Oper} {a : Act} {Q : Exit → Act → World → Prop} {w : World} {y : Operand} {k : Int} {s : ByteArray} {p n : Int} {na : Option Addr} {nl nc : Nat} {ka : Option Addr} {kl kc : Nat} (hgd : o.guard = none) (ho : o.op = .alloc 25) (hgd2 : o2.guard = none) (t : Nat) (hd : o.dst = some t) (ho2 : o2.op = .store 25 (.tmp t) y) (hd2 : o2.dst = none)
  (hx : ∀ q : Nat, (a.put (some t) (.pointer (some ⟨q, 0, none⟩))).eval (.tmp t) = .pointer (some ⟨q, 0, none⟩)) (hy : ∀ q : Nat, (a.put (some t) (.pointer (some ⟨q, 0, none⟩))).eval y = .agg #[.int .i64 k, .string s, .int .i64 p, .int .i64 n, .slice na nl nc, .slice ka kl kc])
  (h : ∀ q w', w'.heap[q]? = some (.cells #[.int .i64 k, .string s, .int .i64 p, .int .i64 n, .slice na nl nc, .slice ka kl kc] 25) → w.heap.size ≤ q → Below w.heap.size w w' → wpList Tryz.prog ops Q rest (a.put (some t) (.pointer (some ⟨q, 0, none⟩))) w') : wpList Tryz.prog ops Q (o :: o2 :: rest) a w := as25 w hgd ho hgd2 t hd y ho2 hd2 k s p n na nl nc ka kl kc hx hy h
end
section
def Zdo (w : World) (A : Nat → Prop) (q : Nat) (x : Nd) : Prop :=
 ∃ na nc ka kc, w.heap[q]? = some (.cells #[.int .i64 x.kind, .string (strOfNums x.text), .int .i64 (x.pos : Int), .int .i64 (x.n : Int), .slice na x.names.length nc, .slice ka x.kids.length kc] 25) ∧ SlF (fun b => A b ∧ ∀ g, (Value.slice ka x.kids.length kc).ownBlock = some g → b ≠ g) w na x.names.length nc (x.names.map Zcr) ∧ Zdm w A (.slice ka x.kids.length kc) x.kids
variable {A : Nat → Prop} {W : List Tk} {d y : Int} {i p q : Nat} {w w' w0 : World} {x : Nd}
theorem Zdo.lt (h : Zdo w A q x) : q < w.heap.size := by
 obtain ⟨_, _, _, _, h, _⟩ := h
 exact lt_of_block h
theorem Zdo.keep (h : Zdo w A q x) (hq : q < w.heap.size → w'.heap[q]? = w.heap[q]?) (hk : ∀ b, A b → b < w.heap.size → w'.heap[b]? = w.heap[b]?) : Zdo w' A q x := by
 obtain ⟨na, nc, ka, kc, E, sn, rk⟩ := h
 exact ⟨na, nc, ka, kc, (hq (lt_of_block E)).trans E, sn.imp (fun b hb hA => ⟨hA, hk b hA.1 hb⟩), rk.keep hk⟩
theorem Zdo.bel (h : Zdo w A q x) (B : Below w.heap.size w w') : Zdo w' A q x := h.keep (fun hl => B.block q hl) (fun b _ hb => B.block b hb)
theorem Zdo.fr (h : Zdo w A q x) (F : Fr p w.heap.size w w') (hq : q ≠ p) (hA : ¬ A p) : Zdo w' A q x :=
 h.keep (fun hl => F.block q hl hq) (fun b hb hl => F.block b hl (fun e => hA (e ▸ hb)))
theorem Zdo.nd (h : Zdo w A q x) (h1 : x.names.length ≤ 100000) (h2 : x.kids.length ≤ 100000) (h3 : x.text.length ≤ 100000000) : NBox w A q x := by
 obtain ⟨na, nc, ka, kc, E, sn, rk⟩ := h
 obtain ⟨_, fl, sl, kf⟩ := rk.sl
 refine ⟨na, nc, ka, kc, E, ?_⟩
 have hN := NdV.mk_ (A := A) (w := w) (k := x.kind) (t := x.text) (p := x.pos) (n := x.n) (l := x.names) (kids := x.kids) (sn.imp (fun b _ hA => ⟨hA.1, rfl⟩)) sl kf h1 h2 h3
 cases x
 exact hN
theorem Zdo.new {k : Int} {t : List Int} (E : w.heap[q]? = some (.cells #[.int .i64 k, .string (strOfNums t), .int .i64 (p : Int), .int .i64 0, .slice none 0 0, .slice none 0 0] 25)) : Zdo w A q (.mk k t p 0 [] []) :=
 ⟨none, 0, none, 0, E, SlF.nil _ _, Zdm.nil _ _⟩
theorem Zdo.put {w1 : World} {y : Nd} {na ka va : Option Addr} {nc kc vc : Nat} (E : w.heap[q]? = some (.cells #[.int .i64 x.kind, .string (strOfNums x.text), .int .i64 (x.pos : Int), .int .i64 (x.n : Int), .slice na x.names.length nc, .slice ka x.kids.length kc] 25))
  (sn : SlF (fun b => A b ∧ ∀ g, (Value.slice ka x.kids.length kc).ownBlock = some g → b ≠ g) w na x.names.length nc (x.names.map Zcr)) (R : Zdm w1 A (.slice va (x.kids.length + 1) vc) (x.kids ++ [y])) (K : Kp (.slice ka x.kids.length kc) w w1) (hpl : ∀ g, (Value.slice va (x.kids.length + 1) vc).ownBlock = some g → (Value.slice ka x.kids.length kc).ownBlock = some g ∨ w.heap.size ≤ g) (hA : ¬ A q) (hkq : (Value.slice ka x.kids.length kc).ownBlock ≠ some q) :
  Zdo (w1.setCell ⟨q, 5, none⟩ (.slice va (x.kids.length + 1) vc)) A q (x.kid y) ∧ St q w1 (w1.setCell ⟨q, 5, none⟩ (.slice va (x.kids.length + 1) vc)) := by
 have E1 := (K.block q (lt_of_block E) hkq).trans E
 have S := St.cell w1 q 5 (.slice va (x.kids.length + 1) vc)
 refine ⟨⟨na, nc, va, vc, ?_, ?_, ?_⟩, S⟩
 ·rw [heap_setCell_same w1 q 5 _ _ _ E1]
  simp [Nd.kid, Nd.kind, Nd.text, Nd.pos, Nd.n, Nd.names, Nd.kids]
 ·have hkl : (x.kid y).kids.length = x.kids.length + 1 := by simp [Nd.kid, Nd.kids]
  rw [hkl]
  exact sn.imp (fun b hb hh => ⟨⟨hh.1, fun g hg => (hpl g hg).elim (hh.2 g) (fun h => by omega)⟩, (S.block b (fun e => hA (e ▸ hh.1))).trans (K.block b hb (fun e => hh.2 b e rfl))⟩)
 have hkl : (x.kid y).kids.length = x.kids.length + 1 := by simp [Nd.kid, Nd.kids]
 rw [hkl]
 exact R.keep (fun b hb _ => S.block b (fun e => hA (e ▸ hb)))
theorem ap25p {ops : Array Oper} {rest : List Oper} {o : Oper} {a : Act} {Q : Exit → Act → World → Prop} (w : World) (hgd : o.guard = none) (s x : Operand) (ho : o.op = .call { callee := .builtin .append, args := #[s, x], argTypes := #[23, 23] }) {v : Value} {xs : List Nd} (hs : a.eval s = v) (q1 : Zdm w A v xs) {g : Nat} (hx : a.eval x = .slice (some ⟨g, 0, none⟩) 1 1) {v0 v1 v2 v3 v4 v5 : Value} (hg : w.heap[g]? = some (.cells #[v0, v1, v2, v3, v4, v5] 25)) {y : Nd} {A' : Nat → Prop} (hy : NdV A' w y (.agg #[v0, v1, v2, v3, v4, v5])) (hA : ∀ b, b < w.heap.size → A' b ∨ b = g → A b ∧ ∀ q, v.ownBlock = some q → b ≠ q) (hn : xs.length ≤ 500000) (hbase : ∀ b, w.heap.size ≤ b → A b)
  (h : ∀ (va : Option Addr) (vc : Nat) w', Zdm w' A (.slice va (xs.length + 1) vc) (xs ++ [y]) → Kp v w w' → (∀ g, (Value.slice va (xs.length + 1) vc).ownBlock = some g → v.ownBlock = some g ∨ w.heap.size ≤ g) → wpList Tryz.prog ops Q rest (a.put o.dst (.slice va (xs.length + 1) vc)) w') : wpList Tryz.prog ops Q (o :: rest) a w := by
 obtain ⟨v', w', hr, r1, r2, r3⟩ := Zkv w o.type (ys := [y]) q1 (Ze6 hg (hA g (lt_of_block hg) (.inr rfl))) (KsF.one (hy.mono fun b hb h => hA b hb (.inl h))) (by simp only [List.length_singleton]; omega) hbase
 obtain ⟨va, vc, rfl⟩ := r1.shape
 refine Lib.wpList_append_run w hgd s x 23 23 ho _ _ hs hx _ w' hr ?_
 have hl : (xs ++ [y]).length = xs.length + 1 := by simp
 rw [hl] at r1 r3 ⊢
 exact h va vc w' r1 r2 r3
theorem Sx.low (h : Sx w0 p q w W i d y) (B : Below (q + 1) w w') : Sx w0 p q w' W i d y :=
 ⟨h.fr.trans ((Fr.of_below B).low (by have := h.hq; omega)) zo, h.z.keep (fun _ => B.block q (by omega)), h.rd.below B (by have := h.hq; have := h.hp; omega), h.hq, h.hp⟩
theorem Sx.kp {v : Value} (h : Sx w0 p q w W i d y) (K : Kp v w w') (hv : ∀ g, v.ownBlock = some g → q < g) : Sx w0 p q w' W i d y := h.low (K.below h.z.lt hv)
theorem Sx.st {g : Nat} (h : Sx w0 p q w W i d y) (S : St g w w') (hg : q < g) : Sx w0 p q w' W i d y := h.low (S.below hg)
end
theorem Zis {W : List Tk} {E : Nat} (S : Src W E) {i d : Nat} (hi : i < E) (H : Zcb 169 W (.una (i + 1) d) (i + 1) d) {w : World} {p : Nat} (h : Rdw w p W i (d : Int) 20) :
  Calls Tryz.prog 164 #[.pointer (some ⟨p, 0, none⟩)] w fun e w' => ∃ r, Zaa W (.una (i + 1) d) r ∧ AnsA (fun b => w.heap.size ≤ b) p W d e w' (match r with | .ok y j => .ok (Zda (txW W i) (psW W i) [y]) j | .er j c => .er j c) ∧ Fr p w.heap.size w w' := by
 go_enter Tryz.func164, Tryz.ntmps164
 go_wp2_with (refine Zdl _ rfl rfl ?_)
 intro q w1 E1 hq B1
 have X := Sx.start h ⟨_, _, _, _, _, _, E1⟩ hq B1
 have hp := X.hp
 have hq1 := X.z.lt
 have hs1 := X.size
 clear E1 hq B1 h
 have htx := S.txt i
 go_wp2_with fail
 refine (Zch X.rd (S.lt (Nat.le_of_lt hi))).mono ?_
 rintro e w2 ⟨rfl, h2, F2⟩
 have X2 := X.go F2 h2
 have hs12 : w1.heap.size ≤ w2.heap.size := F2.size
 clear X F2
 go_wp2_with (refine al54 _ rfl rfl ?_)
 intro t w3 E3 ht B3
 go_wp2_with (refine st54 _ rfl _ _ rfl rfl _ _ _ _ rfl rfl E3 ?_)
 intro w4 E4 S4
 have B4 : Below w2.heap.size w2 w4 := B3.trans (S4.below ht)
 replace X2 := X2.bel B4
 have htp : t ≠ p := by have := X2.hp; omega
 have hs24 : w2.heap.size ≤ w4.heap.size := B4.size
 clear E3 B3 S4 B4
 go_wp2_with fail
 refine (H w4 p X2.rd).mono ?_
 rintro e w5 ⟨r, hr, ha, F5⟩
 have hs45 : w4.heap.size ≤ w5.heap.size := F5.size
 replace E4 := (F5.block t (lt_of_block E4) htp).trans E4
 cases r with
 | er j c =>
  obtain ⟨v, x, d', rfl, hv, h5⟩ := ha
  obtain ⟨na, nc, ka, kc, _, rfl, _⟩ := NdV.parts hv
  have X5 := X2.go F5 h5
  have hyk := hv
  go_wp2_with (refine Zcm rfl rfl rfl 5 rfl rfl rfl (fun _ => rfl) (fun _ => rfl) ?_)
  intro q5 w6 E6 _ B6
  replace X5 := X5.bel B6
  replace E4 := (B6.block t (lt_of_block E4)).trans E4
  replace hv := hv.bel B6
  obtain ⟨y0, y1, y2, _⟩ := Zbx E4
  obtain ⟨z0, z1, z2, z3, z4, z5, _⟩ := Zae E6
  have hs56 : w5.heap.size ≤ w6.heap.size := B6.size
  go_wp2_with (refine bs25 _ rfl _ rfl _ _ _ _ _ _ _ _ _ _ rfl ?_)
  intro g w7 E7 hg B7
  replace X5 := X5.bel B7
  replace hv := hv.bel B7
  have hN := NdV.mk_ (A := fun b => w1.heap.size ≤ b) (w := w7) (k := 9) (t := txW W i) (p := psW W i) (n := 0) (l := []) (kids := [x]) (na := none) (nc := 0) (SlF.nil _ _) (Ze6 E7 (by omega)) (KsF.one (NdV.mono hv (fun b _ hb => by omega))) (by simp) (by simp) (by omega)
  obtain ⟨u0, u1, u2, u3, u4, u5, Eq⟩ := X5.z
  go_wp2_with (refine Zar rfl rfl rfl rfl rfl Eq ?_)
  intro wz Ez Sz
  go_wp2
  exact zB 2 3 (by rfl) (by rfl) (by rfl) (Zal Ez) (by rfl) ⟨_, hr, ⟨_, _, _, rfl, hN.out Sz hq1 hs1, (X5.fin Sz).2⟩, (X5.fin Sz).1⟩
 | ok x j =>
  obtain ⟨v, rfl, hv, h5⟩ := ha
  obtain ⟨na, nc, ka, kc, _, rfl, _⟩ := NdV.parts hv
  have X5 := X2.go F5 h5
  have hyk := hv
  go_wp2_with (refine Zcm rfl rfl rfl 5 rfl rfl rfl (fun _ => rfl) (fun _ => rfl) ?_)
  intro q5 w6 E6 _ B6
  replace X5 := X5.bel B6
  replace E4 := (B6.block t (lt_of_block E4)).trans E4
  replace hv := hv.bel B6
  obtain ⟨y0, y1, y2, _⟩ := Zbx E4
  obtain ⟨z0, z1, z2, z3, z4, z5, _⟩ := Zae E6
  have hs56 : w5.heap.size ≤ w6.heap.size := B6.size
  go_wp2_with (refine bs25 _ rfl _ rfl _ _ _ _ _ _ _ _ _ _ rfl ?_)
  intro g w7 E7 hg B7
  replace X5 := X5.bel B7
  replace hv := hv.bel B7
  have hN := NdV.mk_ (A := fun b => w1.heap.size ≤ b) (w := w7) (k := 9) (t := txW W i) (p := psW W i) (n := 0) (l := []) (kids := [x]) (na := none) (nc := 0) (SlF.nil _ _) (Ze6 E7 (by omega)) (KsF.one (NdV.mono hv (fun b _ hb => by omega))) (by simp) (by simp) (by omega)
  obtain ⟨u0, u1, u2, u3, u4, u5, Eq⟩ := X5.z
  go_wp2_with (refine Zar rfl rfl rfl rfl rfl Eq ?_)
  intro wz Ez Sz
  go_wp2
  exact zB 2 3 (by rfl) (by rfl) (by rfl) (Zal Ez) (by rfl) ⟨_, hr, ⟨_, rfl, hN.out Sz hq1 hs1, (X5.fin Sz).2⟩, (X5.fin Sz).1⟩
theorem Zoq {W : List Tk} {E : Nat} (S : Src W E) {i d : Nat} (hi : i ≤ E) (H : Zcb 169 W (.una i d) i d) (H2 : ∀ x j, i < j → j ≤ E → Zou 150 W (.binOf j d x) x j d) : Zcb 166 W (.bin i d) i d := by
 intro w p h
 go_enter Tryz.func166, Tryz.ntmps166
 go_wp2_with (refine Zdl _ rfl rfl ?_)
 intro q w1 E1 hq B1
 have X := Sx.start h ⟨_, _, _, _, _, _, E1⟩ hq B1
 have hp := X.hp
 have hq1 := X.z.lt
 have hs1 := X.size
 clear E1 hq B1 h
 go_wp2_with fail
 refine (H w1 p X.rd).mono ?_
 rintro e w2 ⟨r, hr, ha, F2⟩
 have hs12 : w1.heap.size ≤ w2.heap.size := F2.size
 cases r with
 | er j c =>
  obtain ⟨v, x, d', rfl, hv, h2⟩ := ha
  obtain ⟨na, nc, ka, kc, _, rfl, _⟩ := NdV.parts hv
  have X2 := X.go F2 h2
  clear X F2
  go_wp2_with (refine Zcm rfl rfl rfl 4 rfl rfl rfl (fun _ => rfl) (fun _ => rfl) ?_)
  intro q4 w3 E3 _ B3
  replace X2 := X2.bel B3
  obtain ⟨u0, u1, u2, u3, u4, u5, Eq⟩ := X2.z
  go_wp2_with (refine Zar rfl rfl rfl rfl rfl Eq ?_)
  intro wz Ez Sz
  go_wp2
  exact zB 2 3 (by rfl) (by rfl) (by rfl) (Zal Ez) (by rfl) ⟨_, Zno hr, ⟨_, _, _, rfl, NdV.zero, (X2.fin Sz).2⟩, (X2.fin Sz).1⟩
 | ok x j =>
  obtain ⟨v, rfl, hv, h2⟩ := ha
  have hj : i + 1 ≤ j ∧ j ≤ E := hr.adv S.ends hi
  obtain ⟨na, nc, ka, kc, _, rfl, _⟩ := NdV.parts hv
  have X2 := X.go F2 h2
  clear X F2
  go_wp2_with (refine Zcm rfl rfl rfl 4 rfl rfl rfl (fun _ => rfl) (fun _ => rfl) ?_)
  intro q4 w3 E3 _ B3
  have hs23 : w2.heap.size ≤ w3.heap.size := B3.size
  replace X2 := X2.bel B3
  replace hv := hv.bel B3
  obtain ⟨z0, z1, z2, z3, z4, z5, _⟩ := Zae E3
  go_wp2_with fail
  refine (H2 x j (by omega) hj.2 w3 p (fun b => w1.heap.size ≤ b) _ X2.rd (by omega) (fun b hb => by omega) hv).mono ?_
  rintro e w4 ⟨r, hr2, ha, F4⟩
  cases r with
  | er k c =>
   obtain ⟨v, y, d', rfl, hu, h4⟩ := ha
   obtain ⟨ma, mc, la, lc, _, rfl, _⟩ := NdV.parts hu
   replace X2 := X2.go F4 h4
   obtain ⟨u0, u1, u2, u3, u4, u5, Eq⟩ := X2.z
   go_wp2_with (refine Zar rfl rfl rfl rfl rfl Eq ?_)
   intro wz Ez Sz
   go_wp2
   exact zB 2 3 (by rfl) (by rfl) (by rfl) (Zal Ez) (by rfl) ⟨_, Zkw hr hr2, ⟨_, _, _, rfl, hu.out Sz hq1 hs1, (X2.fin Sz).2⟩, (X2.fin Sz).1⟩
  | ok y k =>
   obtain ⟨v, rfl, hu, h4⟩ := ha
   obtain ⟨ma, mc, la, lc, _, rfl, _⟩ := NdV.parts hu
   replace X2 := X2.go F4 h4
   obtain ⟨u0, u1, u2, u3, u4, u5, Eq⟩ := X2.z
   go_wp2_with (refine Zar rfl rfl rfl rfl rfl Eq ?_)
   intro wz Ez Sz
   go_wp2
   exact zB 2 3 (by rfl) (by rfl) (by rfl) (Zal Ez) (by rfl) ⟨_, Zkw hr hr2, ⟨_, rfl, hu.out Sz hq1 hs1, (X2.fin Sz).2⟩, (X2.fin Sz).1⟩
theorem KsF.split {A : Nat → Prop} {w : World} : ∀ {xs : List Nd} {fl : List Value} {ys : List Nd}, KsF A w (xs ++ ys) fl → ∃ f1 f2, fl = f1 ++ f2 ∧ KsF A w xs f1 ∧ KsF A w ys f2
 | [], fl, ys, h => ⟨[], fl, rfl, KsF.nil _ _, h⟩
 | x :: xs, fl, ys, h => by
  rw [List.cons_append] at h
  simp only [KsF] at h
  obtain ⟨v0, v1, v2, v3, v4, v5, gl, rfl, hx, hr⟩ := h
  obtain ⟨f1, f2, rfl, h1, h2⟩ := KsF.split hr
  refine ⟨v0 :: v1 :: v2 :: v3 :: v4 :: v5 :: f1, f2, rfl, ?_, h2⟩
  simp only [KsF]
  exact ⟨_, _, _, _, _, _, _, rfl, hx, h1⟩
def six (w : World) (g o : Nat) (v0 v1 v2 v3 v4 v5 : Value) : World := (((((w.setCell ⟨g, o, none⟩ v0).setCell ⟨g, o + 1, none⟩ v1).setCell ⟨g, o + 2, none⟩ v2).setCell ⟨g, o + 3, none⟩ v3).setCell ⟨g, o + 4, none⟩ v4).setCell ⟨g, o + 5, none⟩ v5
theorem St.thn {a : Nat} {w w' w'' : World} (h : St a w w') (g : St a w' w'') : St a w w'' := ⟨g.1.trans h.1, g.2.trans h.2, g.3.trans h.3, g.size.trans h.size, fun b hb => (g.block b hb).trans (h.block b hb)⟩
theorem Zmy (w : World) (g o : Nat) (v0 v1 v2 v3 v4 v5 : Value) : St g w (six w g o v0 v1 v2 v3 v4 v5) := by
 unfold six
 exact ((((((St.cell w g o v0).thn (St.cell _ g (o + 1) v1)).thn (St.cell _ g (o + 2) v2)).thn (St.cell _ g (o + 3) v3)).thn (St.cell _ g (o + 4) v4)).thn (St.cell _ g (o + 5) v5))
theorem Zpl {f1 : List Value} {o : Nat} (ho : o = f1.length) (u0 u1 u2 u3 u4 u5 v0 v1 v2 v3 v4 v5 : Value) :
  ((((((f1 ++ [u0, u1, u2, u3, u4, u5]).set o v0).set (o + 1) v1).set (o + 2) v2).set (o + 3) v3).set (o + 4) v4).set (o + 5) v5 = f1 ++ [v0, v1, v2, v3, v4, v5] := by
 subst ho
 simp [List.set_append_right]
theorem Zdm.put {w : World} {A A0 : Nat → Prop} {v : Value} {xs : List Nd} {z y : Nd} {v0 v1 v2 v3 v4 v5 : Value} (h : Zdm w A v (xs ++ [z])) (hy : NdV A0 w y (.agg #[v0, v1, v2, v3, v4, v5])) (hA : ∀ b, b < w.heap.size → A0 b → A b ∧ ∀ g, v.ownBlock = some g → b ≠ g) :
  ∃ g c, v = .slice (some ⟨g, 0, none⟩) (xs.length + 1) c ∧ A g ∧ g < w.heap.size ∧ (∃ u0 u1 u2 u3 u4 u5, w.cell? ⟨g, xs.length * 6, none⟩ = some u0 ∧ w.cell? ⟨g, xs.length * 6 + 1, none⟩ = some u1 ∧ w.cell? ⟨g, xs.length * 6 + 2, none⟩ = some u2 ∧ w.cell? ⟨g, xs.length * 6 + 3, none⟩ = some u3 ∧ w.cell? ⟨g, xs.length * 6 + 4, none⟩ = some u4 ∧ w.cell? ⟨g, xs.length * 6 + 5, none⟩ = some u5) ∧ (∀ j, w.frozen? ⟨g, j, none⟩ = false) ∧ Zdm (six w g (xs.length * 6) v0 v1 v2 v3 v4 v5) A v (xs ++ [y]) := by
 obtain ⟨fl, o1, hAg, k1⟩ := h
 have hn : (xs ++ [z]).length = xs.length + 1 := by simp
 have hn2 : (xs ++ [y]).length = xs.length + 1 := by simp
 rw [hn] at o1
 rcases o1.2 with ⟨e, h0⟩ | ⟨g, cap, cur, rfl, hb, hg, hnc, hcm, hcs, ht⟩
 ·omega
 obtain ⟨f1, f2, rfl, k2, k3⟩ := KsF.split k1
 have hl1 : f1.length = xs.length * 6 := k2.len
 simp only [KsF] at k3
 obtain ⟨u0, u1, u2, u3, u4, u5, gl, rfl, _, rfl⟩ := k3
 have hc : ∀ j u, (f1 ++ [u0, u1, u2, u3, u4, u5])[j]? = some u → w.cell? ⟨g, j, none⟩ = some u := by
  intro j u hj
  have := o1.cells (g := g) rfl j u hj
  rw [Za7, Nat.zero_add] at this
  exact this
 have ha : ∀ k, (f1 ++ [u0, u1, u2, u3, u4, u5])[xs.length * 6 + k]? = [u0, u1, u2, u3, u4, u5][k]? := by
  intro k
  rw [List.getElem?_append_right (by omega)]
  congr 1
  omega
 have S := Zmy w g (xs.length * 6) v0 v1 v2 v3 v4 v5
 refine ⟨g, cap, rfl, hAg g rfl, lt_of_block hg, ⟨u0, u1, u2, u3, u4, u5, hc _ _ (by have := ha 0; rwa [Nat.add_zero] at this), hc _ _ (ha 1), hc _ _ (ha 2), hc _ _ (ha 3), hc _ _ (ha 4), hc _ _ (ha 5)⟩, fun j => o1.frozenAt j, ?_⟩
 have s0 := (o1.stored (xs.length * 6) v0).1
 have s1 := (s0.stored (xs.length * 6 + 1) v1).1
 have s2 := (s1.stored (xs.length * 6 + 2) v2).1
 have s3 := (s2.stored (xs.length * 6 + 3) v3).1
 have s4 := (s3.stored (xs.length * 6 + 4) v4).1
 have s5 := (s4.stored (xs.length * 6 + 5) v5).1
 rw [Zpl hl1.symm] at s5
 refine ⟨_, by rw [hn2]; exact s5, hAg, KsF.app (k2.imp (fun b _ hh => ⟨hh, S.block b (hh.2 g rfl)⟩) _ _) (KsF.one (hy.imp (fun b hb' hh => ⟨hA b hb' hh, S.block b ((hA b hb' hh).2 g rfl)⟩) _ _))⟩
theorem opz (w : World) {o : Oper} {a : Act} {K : Act → World → Prop} {Q : Exit → Act → World → Prop} (s x : Operand) (ho : o.op = .call { callee := .builtin .append, args := #[s, x], argTypes := #[23, 23] }) {A : Nat → Prop} {v : Value} {xs : List Nd} {g : Nat} (hs : a.eval s = v) (hx : a.eval x = .slice (some ⟨g, 0, none⟩) 1 1) (q1 : Zdm w A v xs) (hg : w.heap[g]? = some (.cells #[.int .i64 0, .string ⟨#[]⟩, .int .i64 0, .int .i64 0, .slice none 0 0, .slice none 0 0] 25)) (hA : A g ∧ ∀ q, v.ownBlock = some q → g ≠ q) (hn : xs.length ≤ 500000) (hbase : ∀ b, w.heap.size ≤ b → A b)
  (h : ∀ (va : Option Addr) (vc : Nat) w', Zdm w' A (.slice va (xs.length + 1) vc) (xs ++ [zNd]) → Kp v w w' → (∀ g, (Value.slice va (xs.length + 1) vc).ownBlock = some g → v.ownBlock = some g ∨ w.heap.size ≤ g) → K (a.put o.dst (.slice va (xs.length + 1) vc)) w') : o.wp Tryz.prog a w K Q := by
 obtain ⟨v', w', hr, r1, r2, r3⟩ := Zkv w o.type (ys := [zNd]) q1 (Ze6 hg hA) (KsF.one NdV.zero) (by simp only [List.length_singleton]; omega) hbase
 obtain ⟨va, vc, rfl⟩ := r1.shape
 have hl : (xs ++ [zNd]).length = xs.length + 1 := by simp
 rw [hl] at r1 r3 hr
 exact Lib.wp_append_run w s x 23 23 ho _ _ hs hx _ w' hr (h va vc w' r1 r2 r3)
theorem st6 (w : World) {o : Oper} {a : Act} {K : Act → World → Prop} {Q : Exit → Act → World → Prop} (x y : Nat) (ho : o.op = .store 25 (.tmp x) (.tmp y)) (hd : o.dst = none) (g p : Nat) (k : Int) (s : ByteArray) (ps n : Int) (na : Option Addr) (nl nc : Nat) (ka : Option Addr) (kl kc : Nat) (hx : a.tmps[x]?.getD undef = .pointer (some ⟨g, p, none⟩)) (hy : a.tmps[y]?.getD undef = .agg #[.int .i64 k, .string s, .int .i64 ps, .int .i64 n, .slice na nl nc, .slice ka kl kc])
  (hc : ∃ u0 u1 u2 u3 u4 u5, w.cell? ⟨g, p, none⟩ = some u0 ∧ w.cell? ⟨g, p + 1, none⟩ = some u1 ∧ w.cell? ⟨g, p + 2, none⟩ = some u2 ∧ w.cell? ⟨g, p + 3, none⟩ = some u3 ∧ w.cell? ⟨g, p + 4, none⟩ = some u4 ∧ w.cell? ⟨g, p + 5, none⟩ = some u5) (fz : ∀ j, w.frozen? ⟨g, j, none⟩ = false)
  (h : K a (six w g p (.int .i64 k) (.string s) (.int .i64 ps) (.int .i64 n) (.slice na nl nc) (.slice ka kl kc))) : o.wp Tryz.prog a w K Q := by
 obtain ⟨u0, u1, u2, u3, u4, u5, c0, c1, c2, c3, c4, c5⟩ := hc
 have f0 := fz p
 have f1 := fz (p + 1)
 have f2 := fz (p + 2)
 have f3 := fz (p + 3)
 have f4 := fz (p + 4)
 have f5 := fz (p + 5)
 unfold six at h
 unfold Oper.wp execOp
 simp [ho, hx, hy, go_sem, c0, c1, c2, c3, c4, c5, f0, f1, f2, f3, f4, f5, hd]
 exact h
theorem stq (w : World) {o : Oper} {a : Act} {K : Act → World → Prop} {Q : Exit → Act → World → Prop} (x y : Nat) (ho : o.op = .store 23 (.tmp x) (.tmp y)) (hd : o.dst = none) (q k : Nat) (va : Option Addr) (n c : Nat) (hx : a.tmps[x]?.getD undef = .pointer (some ⟨q, k, none⟩)) (hy : a.tmps[y]?.getD undef = .slice va n c)
  {u : Value} (hc : w.cell? ⟨q, k, none⟩ = some u) (fz : w.frozen? ⟨q, k, none⟩ = false) (h : K a (w.setCell ⟨q, k, none⟩ (.slice va n c))) : o.wp Tryz.prog a w K Q := by
 unfold Oper.wp execOp
 simp [ho, hx, hy, go_sem, hc, fz, hd]
 exact h
theorem Zlu {W : List Tk} {E : Nat} (S : Src W E) {i d : Nat} {x0 : Nd} (hi : i ≤ E) (H : ∀ j, i < j → j ≤ E → Zcb 169 W (.una j d) j d) : Zou 150 W (.binOf i d x0) x0 i d := by
 intro w p A v h hAp hA0 hx
 have hpw := h.lt
 obtain ⟨na, nc, ka, kc, _, rfl, _⟩ := NdV.parts hx
 go_enter Tryz.func150, Tryz.ntmps150
 go_wp2_with (refine bx25 _ rfl _ rfl _ _ _ _ _ _ _ _ _ _ rfl ?_)
 intro q1 w1 E1 hq1 C1
 go_wp2_with (refine Zdl _ rfl rfl ?_)
 intro q2 w2 E2 hq2 C2
 have B02 : Below w.heap.size w w2 := C1.trans (C2.mono C1.size)
 have l1 := lt_of_block E1
 have l2 := lt_of_block E2
 have hq2' : w.heap.size ≤ q2 := Nat.le_trans C1.size hq2
 have hne : q1 ≠ q2 := by omega
 have hqp : q1 ≠ p := by omega
 have hqp2 : q2 ≠ p := by omega
 have hx2 : NdV (fun b => A b ∧ b ≠ q1 ∧ b ≠ q2 ∧ b ≠ p) w2 x0 _ := hx.imp (fun b hb hA => ⟨⟨hA, by omega, by omega, fun e => hAp (e ▸ hA)⟩, B02.block b hb⟩) _ _
 have h2 := (h.fr C1).fr C2
 replace E1 := (C2.block _ l1).trans E1
 have F02 : Fr p w.heap.size w w2 := Fr.of_below B02
 have hZ : Zer w2 q2 := ⟨_, _, _, _, _, _, E2⟩
 have hs2 : w2.heap.size ≤ w2.heap.size := Nat.le_refl _
 replace l1 := lt_of_block E1
 clear C1 C2 hq2 B02 hx h E2
 go_wp2_with fail
 go_loopw [] (fun wr => ∃ (i' : Nat) (x' : Nd), NBox wr (fun b => A b ∧ b ≠ q1 ∧ b ≠ q2 ∧ b ≠ p) q1 x' ∧ Zer wr q2 ∧ Rdw wr p W i' (d : Int) 20 ∧ Fr p w.heap.size w wr ∧ i ≤ i' ∧ i' ≤ E ∧ w2.heap.size ≤ wr.heap.size ∧ Hid (∀ r, Zaa W (.binOf i' d x') r → Zaa W (.binOf i d x0) r)) (fun wr => E - atOf wr p)
 case atStart => exact ⟨i, x0, ⟨na, nc, ka, kc, E1, hx2⟩, hZ, h2, F02, zo, hi, hs2, fun r hr => hr⟩
 clear E1 hx2 hZ h2 F02
 obtain ⟨i', x, ⟨na, nc, ka, kc, E1, hx2⟩, hZ, h2, F02, hii, hi', hs2, hR⟩ := hrel
 have hat : atOf wr p = i' := h2.atOf
 have X : Sx w p q2 wr W i' (d : Int) 20 := ⟨F02, hZ, h2, hq2', hpw⟩
 clear hZ h2 F02
 go_wp2_with fail
 refine (Zb8 X.rd (S.lt hi') 3).mono ?_
 rintro e w3 ⟨rfl, B3⟩
 have hs23 : wr.heap.size ≤ w3.heap.size := B3.size
 replace E1 := (B3.block _ (lt_of_block E1)).trans E1
 replace hx2 := hx2.bel B3
 replace X := X.bel B3
 clear B3
 by_cases hk : kdW W i' = 3
 ·rw [show (kdW W i' == 3) = true by simp [hk]]
  have hlt : i' < E := S.ends.lt (by rw [hk]; decide)
  go_wp2_with fail
  refine (Zis S hlt (H _ (by omega) (by omega)) X.rd).mono ?_
  rintro e w4 ⟨r, hr, ha, F4⟩
  have hs34 : w3.heap.size ≤ w4.heap.size := F4.size
  replace E1 := (F4.block _ (lt_of_block E1) hqp).trans E1
  replace hx2 : NdV (fun b => A b ∧ b ≠ q1 ∧ b ≠ q2 ∧ b ≠ p) w4 x _ := hx2.fr F4 (fun b hb hl => ⟨hl, hb.2.2.2⟩)
  cases r with
  | er j c =>
   obtain ⟨v, y, d', rfl, hv, h4⟩ := ha
   obtain ⟨ma, mc, la, lc, _, rfl, _⟩ := NdV.parts hv
   have X2 := X.go F4 h4
   clear X F4
   go_wp2_with (refine Zcm rfl rfl rfl 6 rfl rfl rfl (fun _ => rfl) (fun _ => rfl) ?_)
   intro q6 w5 E5 _ B5
   replace X2 := X2.bel B5
   obtain ⟨u0, u1, u2, u3, u4, u5, Eq⟩ := X2.z
   go_wp2_with (refine Zar rfl rfl rfl rfl rfl Eq ?_)
   intro wz Ez Sz
   go_wp2
   exact zB 4 5 (by rfl) (by rfl) (by rfl) (Zal Ez) (by rfl) ⟨_, hR.out _ (Zj3 hr hk), ⟨_, _, _, rfl, NdV.zero, (X2.fin Sz).2⟩, (X2.fin Sz).1⟩
  | ok y j =>
   obtain ⟨v, rfl, hv, h4⟩ := ha
   have hj : i' + 1 + 1 ≤ j ∧ j ≤ E := hr.adv S.ends hlt
   obtain ⟨z, hz⟩ : ∃ z, Hid (z = Zda (txW W i') (psW W i') [y]) := ⟨_, rfl⟩
   have hzk : z.kids.length ≤ 90000 := by rw [hz.out]; show 1 ≤ 90000; decide
   rw [← hz.out] at hv
   obtain ⟨ma, mc, la, lc, _, rfl, _⟩ := NdV.parts hv
   have X2 := X.go F4 h4
   have hv2 : NdV (fun b => A b ∧ b ≠ q1 ∧ b ≠ q2 ∧ b ≠ p) w4 z _ := NdV.mono hv (fun b hb hA => ⟨hA0 b (by omega), by omega, by omega, by omega⟩)
   clear X F4 hv
   go_wp2_with (refine Zcm rfl rfl rfl 6 rfl rfl rfl (fun _ => rfl) (fun _ => rfl) ?_)
   intro q6 w5 E5 _ B5
   replace X2 := X2.bel B5
   replace hx2 := hx2.bel B5
   replace hv2 := hv2.bel B5
   replace E1 := (B5.block _ (lt_of_block E1)).trans E1
   have hs45 : w4.heap.size ≤ w5.heap.size := B5.size
   obtain ⟨y0, y1, y2, y3, y4, y5, _⟩ := Zae E1
   obtain ⟨z0, z1, z2, z3, z4, z5, _⟩ := Zae E5
   go_wp2_with fail
   refine (Zgh (fun b hb => ⟨hA0 b (by omega), by omega, by omega, by omega⟩) hx2 hv2 hzk).mono ?_
   rintro e w6 ⟨u, rfl, hu, B6⟩
   obtain ⟨oa, oc, pa, pc, _, rfl, _⟩ := NdV.parts hu
   replace X2 := X2.bel B6
   replace E1 := (B6.block _ (lt_of_block E1)).trans E1
   have hs56 : w5.heap.size ≤ w6.heap.size := B6.size
   clear y0 y1 y2 y3 y4 y5 z0 z1 z2 z3 z4 z5 hv2 hx2 B6 B5 E5
   go_wp2_with (refine Zar rfl rfl rfl rfl rfl E1 ?_)
   intro w7 E7 S7
   have hN7 : NdV (fun b => A b ∧ b ≠ q1 ∧ b ≠ q2 ∧ b ≠ p) w7 (Zat x z) _ := hu.imp (fun b _ hA => ⟨hA, S7.block b hA.2.1⟩) _ _
   have h7 := X2.rd.same (fun b hb => S7.block b (by omega)) (S7.block p (fun e => hqp e.symm))
   have F7 : Fr p w.heap.size w w7 := X2.fr.trans (Fr.of_below (S7.below (B := w.heap.size) hq1)) zo
   have hZ7 : Zer w7 q2 := X2.z.keep (fun hl => S7.block q2 (fun e => hne e.symm))
   have hR' : Hid (∀ r, Zaa W (.binOf j d (Zat x z)) r → Zaa W (.binOf i d x0) r) := fun r hr' => hR.out r (Zj2 hr (by rw [← hz.out]; exact hr') hk)
   have hs7 : w2.heap.size ≤ w7.heap.size := by rw [S7.size]; omega
   clear S7 hu X2 hz
   go_wp2
   go_roundw
   case rel => exact ⟨j, Zat x z, ⟨oa, oc, pa, pc, E7, hN7⟩, hZ7, h7, F7, by omega, hj.2, hs7, hR'⟩
   case measure => rw [h7.atOf, hat]; omega
 rw [show (kdW W i' == 3) = false by simp [hk]]
 obtain ⟨z0, z1, z2, z3, z4, z5, _⟩ := Zae E1
 obtain ⟨u0, u1, u2, u3, u4, u5, Eq⟩ := X.z
 go_wp2_with (refine Zar rfl rfl rfl rfl rfl Eq ?_)
 intro wz Ez Sz
 go_wp2
 exact zB 4 5 (by rfl) (by rfl) (by rfl) (Zal Ez) (by rfl) ⟨_, hR.out _ (Zh8 hk), ⟨_, rfl, hx2.imp (fun b _ hA => ⟨hA.1, Sz.block b hA.2.2.1⟩) _ _, (X.fin Sz).2⟩, (X.fin Sz).1⟩
end Go.Proofs.YtncfmhlikmibaaaGreatDoor
