/- A part that is being made, in a box. -/
import Derived.Test.YtoghhjljmhdioaaSta
namespace Go.Proofs.Ytoghhjljmhdioaa
open Go.RowKit
set_option maxRecDepth 100000
/-- A part that is being made: its parts' row is its own. -/
def KBox (w : World) (A : Nat → Prop) (q : Nat) (x : Nd) : Prop :=
  ∃ na nc ka kc, w.heap[q]? = some (.cells #[.int .i64 x.kind, .string (strOfNums x.text), .int .i64 (x.pos : Int), .int .i64 (x.n : Int), .slice na x.names.length nc, .slice ka x.kids.length kc] 36) ∧ SlF (fun b => A b ∧ ∀ g, (Value.slice ka x.kids.length kc).ownBlock = some g → b ≠ g) w na x.names.length nc (x.names.map strV) ∧ RowN w A (.slice ka x.kids.length kc) x.kids
theorem KBox.lt {w : World} {A : Nat → Prop} {q : Nat} {x : Nd} (h : KBox w A q x) : q < w.heap.size := by
  obtain ⟨_, _, _, _, h, _⟩ := h
  exact lt_of_block h
theorem KBox.keep {w w' : World} {A : Nat → Prop} {q : Nat} {x : Nd} (h : KBox w A q x) (hq : q < w.heap.size → w'.heap[q]? = w.heap[q]?) (hk : ∀ b, A b → b < w.heap.size → w'.heap[b]? = w.heap[b]?) : KBox w' A q x := by
  obtain ⟨na, nc, ka, kc, E, sn, rk⟩ := h
  exact ⟨na, nc, ka, kc, (hq (lt_of_block E)).trans E, sn.imp (fun b hb hA => ⟨hA, hk b hA.1 hb⟩), rk.keep hk⟩
theorem KBox.bel {w w' : World} {A : Nat → Prop} {q : Nat} {x : Nd} (h : KBox w A q x) (B : Below w.heap.size w w') : KBox w' A q x := h.keep (fun hl => B.block q hl) (fun b _ hb => B.block b hb)
theorem KBox.fr {w w' : World} {p : Nat} {A : Nat → Prop} {q : Nat} {x : Nd} (h : KBox w A q x) (F : Fr p w.heap.size w w') (hq : q ≠ p) (hA : ¬ A p) : KBox w' A q x :=
  h.keep (fun hl => F.block q hl hq) (fun b hb hl => F.block b hl (fun e => hA (e ▸ hb)))
theorem KBox.st {w w' : World} {g : Nat} {A : Nat → Prop} {q : Nat} {x : Nd} (h : KBox w A q x) (F : St g w w') (hq : q ≠ g) (hA : ¬ A g) : KBox w' A q x :=
  h.keep (fun _ => F.block q hq) (fun b hb _ => F.block b (fun e => hA (e ▸ hb)))
/-- What is being made, read. -/
theorem KBox.nd {w : World} {A : Nat → Prop} {q : Nat} {x : Nd} (h : KBox w A q x) (h1 : x.names.length ≤ 100000) (h2 : x.kids.length ≤ 100000) (h3 : x.text.length ≤ 100000000) : NBox w A q x := by
  obtain ⟨na, nc, ka, kc, E, sn, rk⟩ := h
  obtain ⟨_, fl, sl, kf⟩ := rk.sl
  refine ⟨na, nc, ka, kc, E, ?_⟩
  have hN := NdV.mk_ (A := A) (w := w) (k := x.kind) (t := x.text) (p := x.pos) (n := x.n) (l := x.names) (kids := x.kids) (sn.imp (fun b _ hA => ⟨hA.1, rfl⟩)) sl kf h1 h2 h3
  cases x
  exact hN
/-- A new one. -/
theorem KBox.new {w : World} {A : Nat → Prop} {q : Nat} {k : Int} {t : List Int} {p : Nat} (E : w.heap[q]? = some (.cells #[.int .i64 k, .string (strOfNums t), .int .i64 (p : Int), .int .i64 0, .slice none 0 0, .slice none 0 0] 36)) : KBox w A q (.mk k t p 0 [] []) :=
  ⟨none, 0, none, 0, E, SlF.nil _ _, RowN.nil _ _⟩
/-- One part more, behind append. -/
theorem KBox.put {w w1 : World} {A : Nat → Prop} {q : Nat} {x y : Nd} {na ka va : Option Addr} {nc kc vc : Nat} (E : w.heap[q]? = some (.cells #[.int .i64 x.kind, .string (strOfNums x.text), .int .i64 (x.pos : Int), .int .i64 (x.n : Int), .slice na x.names.length nc, .slice ka x.kids.length kc] 36))
    (sn : SlF (fun b => A b ∧ ∀ g, (Value.slice ka x.kids.length kc).ownBlock = some g → b ≠ g) w na x.names.length nc (x.names.map strV)) (R : RowN w1 A (.slice va (x.kids.length + 1) vc) (x.kids ++ [y])) (K : Kp (.slice ka x.kids.length kc) w w1) (hpl : ∀ g, (Value.slice va (x.kids.length + 1) vc).ownBlock = some g → (Value.slice ka x.kids.length kc).ownBlock = some g ∨ w.heap.size ≤ g) (hA : ¬ A q) (hkq : (Value.slice ka x.kids.length kc).ownBlock ≠ some q) :
    KBox (w1.setCell ⟨q, 5, none⟩ (.slice va (x.kids.length + 1) vc)) A q (x.kid y) ∧ St q w1 (w1.setCell ⟨q, 5, none⟩ (.slice va (x.kids.length + 1) vc)) := by
  have E1 := (K.block q (lt_of_block E) hkq).trans E
  have S := St.cell w1 q 5 (.slice va (x.kids.length + 1) vc)
  refine ⟨⟨na, nc, va, vc, ?_, ?_, ?_⟩, S⟩
  · rw [heap_setCell_same w1 q 5 _ _ _ E1]
    simp [Nd.kid, Nd.kind, Nd.text, Nd.pos, Nd.n, Nd.names, Nd.kids]
  · have hkl : (x.kid y).kids.length = x.kids.length + 1 := by simp [Nd.kid, Nd.kids]
    rw [hkl]
    exact sn.imp (fun b hb hh => ⟨⟨hh.1, fun g hg => (hpl g hg).elim (hh.2 g) (fun h => by omega)⟩, (S.block b (fun e => hA (e ▸ hh.1))).trans (K.block b hb (fun e => hh.2 b e rfl))⟩)
  · have hkl : (x.kid y).kids.length = x.kids.length + 1 := by simp [Nd.kid, Nd.kids]
    rw [hkl]
    exact R.keep (fun b hb _ => S.block b (fun e => hA (e ▸ hb)))
/-- append of one part, with the place. -/
theorem ap25p {ops : Array Oper} {rest : List Oper} {o : Oper} {a : Act} {Q : Exit → Act → World → Prop} (w : World) (hgd : o.guard = none) (s x : Operand) (ho : o.op = .call { callee := .builtin .append, args := #[s, x], argTypes := #[34, 34] }) {A : Nat → Prop} {v : Value} {xs : List Nd} (hs : a.eval s = v) (q1 : RowN w A v xs) {g : Nat} (hx : a.eval x = .slice (some ⟨g, 0, none⟩) 1 1) {v0 v1 v2 v3 v4 v5 : Value} (hg : w.heap[g]? = some (.cells #[v0, v1, v2, v3, v4, v5] 36)) {y : Nd} {A' : Nat → Prop} (hy : NdV A' w y (.agg #[v0, v1, v2, v3, v4, v5])) (hA : ∀ b, b < w.heap.size → A' b ∨ b = g → A b ∧ ∀ q, v.ownBlock = some q → b ≠ q) (hn : xs.length ≤ 500000) (hbase : ∀ b, w.heap.size ≤ b → A b)
    (h : ∀ (va : Option Addr) (vc : Nat) w', RowN w' A (.slice va (xs.length + 1) vc) (xs ++ [y]) → Kp v w w' → (∀ g, (Value.slice va (xs.length + 1) vc).ownBlock = some g → v.ownBlock = some g ∨ w.heap.size ≤ g) → wpList Try.prog ops Q rest (a.put o.dst (.slice va (xs.length + 1) vc)) w') : wpList Try.prog ops Q (o :: rest) a w := by
  obtain ⟨v', w', hr, r1, r2, r3⟩ := app_nds w o.type (ys := [y]) q1 (lit_sl hg (hA g (lt_of_block hg) (.inr rfl))) (KsF.one (hy.mono fun b hb h => hA b hb (.inl h))) (by simp only [List.length_singleton]; omega) hbase
  obtain ⟨va, vc, rfl⟩ := r1.shape
  refine Lib.wpList_append_run w hgd s x 34 34 ho _ _ hs hx _ w' hr ?_
  have hl : (xs ++ [y]).length = xs.length + 1 := by simp
  rw [hl] at r1 r3 ⊢
  exact h va vc w' r1 r2 r3
theorem Sx.low {w0 w w' : World} {p q : Nat} {W : List Tk} {i : Nat} {d y : Int} (h : Sx w0 p q w W i d y) (B : Below (q + 1) w w') : Sx w0 p q w' W i d y :=
  ⟨h.fr.trans ((Fr.of_below B).low (by have := h.hq; omega)) (Nat.le_refl _), h.z.keep (fun _ => B.block q (by omega)), h.rd.below B (by have := h.hq; have := h.hp; omega), h.hq, h.hp⟩
theorem Sx.kp {w0 w w' : World} {p q : Nat} {W : List Tk} {i : Nat} {d y : Int} {v : Value} (h : Sx w0 p q w W i d y) (K : Kp v w w') (hv : ∀ g, v.ownBlock = some g → q < g) : Sx w0 p q w' W i d y := h.low (K.below h.z.lt hv)
theorem Sx.st {w0 w w' : World} {p q g : Nat} {W : List Tk} {i : Nat} {d y : Int} (h : Sx w0 p q w W i d y) (S : St g w w') (hg : q < g) : Sx w0 p q w' W i d y := h.low (S.below hg)
end Go.Proofs.Ytoghhjljmhdioaa
