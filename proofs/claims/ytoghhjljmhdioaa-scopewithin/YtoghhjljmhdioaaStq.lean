/- The last part of a row is written into its place. -/
import Derived.Test.YtoghhjljmhdioaaKbx
import Derived.Lib.AppendZeros
namespace Go.Proofs.Ytoghhjljmhdioaa
open Go.RowKit
set_option maxRecDepth 100000
theorem KsF.split {A : Nat → Prop} {w : World} : ∀ {xs : List Nd} {fl : List Value} {ys : List Nd}, KsF A w (xs ++ ys) fl → ∃ f1 f2, fl = f1 ++ f2 ∧ KsF A w xs f1 ∧ KsF A w ys f2
  | [], fl, ys, h => ⟨[], fl, rfl, KsF.nil _ _, h⟩
  | x :: xs, fl, ys, h => by
    rw [List.cons_append] at h
    simp only [KsF] at h
    obtain ⟨v0, v1, v2, v3, v4, v5, gl, rfl, hx, hr⟩ := h
    obtain ⟨f1, f2, rfl, h1, h2⟩ := KsF.split hr
    refine ⟨v0 :: v1 :: v2 :: v3 :: v4 :: v5 :: f1, f2, rfl, ?_, h2⟩
    simp only [KsF]
    exact ⟨_, _, _, _, _, _, _, rfl, hx, h1⟩
def six (w : World) (g o : Nat) (v0 v1 v2 v3 v4 v5 : Value) : World := (((((w.setCell ⟨g, o, none⟩ v0).setCell ⟨g, o + 1, none⟩ v1).setCell ⟨g, o + 2, none⟩ v2).setCell ⟨g, o + 3, none⟩ v3).setCell ⟨g, o + 4, none⟩ v4).setCell ⟨g, o + 5, none⟩ v5
theorem St.thn {a : Nat} {w w' w'' : World} (h : St a w w') (g : St a w' w'') : St a w w'' := ⟨g.1.trans h.1, g.2.trans h.2, g.3.trans h.3, g.size.trans h.size, fun b hb => (g.block b hb).trans (h.block b hb)⟩
theorem six_st (w : World) (g o : Nat) (v0 v1 v2 v3 v4 v5 : Value) : St g w (six w g o v0 v1 v2 v3 v4 v5) := by
  unfold six
  exact ((((((St.cell w g o v0).thn (St.cell _ g (o + 1) v1)).thn (St.cell _ g (o + 2) v2)).thn (St.cell _ g (o + 3) v3)).thn (St.cell _ g (o + 4) v4)).thn (St.cell _ g (o + 5) v5))
theorem set_six {f1 : List Value} {o : Nat} (ho : o = f1.length) (u0 u1 u2 u3 u4 u5 v0 v1 v2 v3 v4 v5 : Value) :
    ((((((f1 ++ [u0, u1, u2, u3, u4, u5]).set o v0).set (o + 1) v1).set (o + 2) v2).set (o + 3) v3).set (o + 4) v4).set (o + 5) v5 = f1 ++ [v0, v1, v2, v3, v4, v5] := by
  subst ho
  simp [List.set_append_right]
theorem RowN.put {w : World} {A A0 : Nat → Prop} {v : Value} {xs : List Nd} {z y : Nd} {v0 v1 v2 v3 v4 v5 : Value} (h : RowN w A v (xs ++ [z])) (hy : NdV A0 w y (.agg #[v0, v1, v2, v3, v4, v5])) (hA : ∀ b, b < w.heap.size → A0 b → A b ∧ ∀ g, v.ownBlock = some g → b ≠ g) :
    ∃ g c, v = .slice (some ⟨g, 0, none⟩) (xs.length + 1) c ∧ A g ∧ g < w.heap.size ∧ (∃ u0 u1 u2 u3 u4 u5, w.cell? ⟨g, xs.length * 6, none⟩ = some u0 ∧ w.cell? ⟨g, xs.length * 6 + 1, none⟩ = some u1 ∧ w.cell? ⟨g, xs.length * 6 + 2, none⟩ = some u2 ∧ w.cell? ⟨g, xs.length * 6 + 3, none⟩ = some u3 ∧ w.cell? ⟨g, xs.length * 6 + 4, none⟩ = some u4 ∧ w.cell? ⟨g, xs.length * 6 + 5, none⟩ = some u5) ∧ (∀ j, w.frozen? ⟨g, j, none⟩ = false) ∧ RowN (six w g (xs.length * 6) v0 v1 v2 v3 v4 v5) A v (xs ++ [y]) := by
  obtain ⟨fl, o1, hAg, k1⟩ := h
  have hn : (xs ++ [z]).length = xs.length + 1 := by simp
  have hn2 : (xs ++ [y]).length = xs.length + 1 := by simp
  rw [hn] at o1
  rcases o1.2 with ⟨e, h0⟩ | ⟨g, cap, cur, rfl, hb, hg, hnc, hcm, hcs, ht⟩
  · omega
  · obtain ⟨f1, f2, rfl, k2, k3⟩ := KsF.split k1
    have hl1 : f1.length = xs.length * 6 := k2.len
    simp only [KsF] at k3
    obtain ⟨u0, u1, u2, u3, u4, u5, gl, rfl, _, rfl⟩ := k3
    have hc : ∀ j u, (f1 ++ [u0, u1, u2, u3, u4, u5])[j]? = some u → w.cell? ⟨g, j, none⟩ = some u := by
      intro j u hj
      have := o1.cells (g := g) rfl j u hj
      rw [addrAdd, Nat.zero_add] at this
      exact this
    have ha : ∀ k, (f1 ++ [u0, u1, u2, u3, u4, u5])[xs.length * 6 + k]? = [u0, u1, u2, u3, u4, u5][k]? := by
      intro k
      rw [List.getElem?_append_right (by omega)]
      congr 1
      omega
    have S := six_st w g (xs.length * 6) v0 v1 v2 v3 v4 v5
    refine ⟨g, cap, rfl, hAg g rfl, lt_of_block hg, ⟨u0, u1, u2, u3, u4, u5, hc _ _ (by have := ha 0; rwa [Nat.add_zero] at this), hc _ _ (ha 1), hc _ _ (ha 2), hc _ _ (ha 3), hc _ _ (ha 4), hc _ _ (ha 5)⟩, fun j => o1.frozenAt j, ?_⟩
    have s0 := (o1.stored (xs.length * 6) v0).1
    have s1 := (s0.stored (xs.length * 6 + 1) v1).1
    have s2 := (s1.stored (xs.length * 6 + 2) v2).1
    have s3 := (s2.stored (xs.length * 6 + 3) v3).1
    have s4 := (s3.stored (xs.length * 6 + 4) v4).1
    have s5 := (s4.stored (xs.length * 6 + 5) v5).1
    rw [set_six hl1.symm] at s5
    refine ⟨_, by rw [hn2]; exact s5, hAg, KsF.app (k2.imp (fun b _ hh => ⟨hh, S.block b (hh.2 g rfl)⟩) _ _) (KsF.one (hy.imp (fun b hb' hh => ⟨hA b hb' hh, S.block b ((hA b hb' hh).2 g rfl)⟩) _ _))⟩
end Go.Proofs.Ytoghhjljmhdioaa
namespace Go.Proofs.Ytoghhjljmhdioaa
open Go.RowKit
set_option maxRecDepth 100000
theorem opz (w : World) {o : Oper} {a : Act} {K : Act → World → Prop} {Q : Exit → Act → World → Prop} (s x : Operand) (ho : o.op = .call { callee := .builtin .append, args := #[s, x], argTypes := #[34, 34] }) {A : Nat → Prop} {v : Value} {xs : List Nd} {g : Nat} (hs : a.eval s = v) (hx : a.eval x = .slice (some ⟨g, 0, none⟩) 1 1) (q1 : RowN w A v xs) (hg : w.heap[g]? = some (.cells #[.int .i64 0, .string ⟨#[]⟩, .int .i64 0, .int .i64 0, .slice none 0 0, .slice none 0 0] 36)) (hA : A g ∧ ∀ q, v.ownBlock = some q → g ≠ q) (hn : xs.length ≤ 500000) (hbase : ∀ b, w.heap.size ≤ b → A b)
    (h : ∀ (va : Option Addr) (vc : Nat) w', RowN w' A (.slice va (xs.length + 1) vc) (xs ++ [zNd]) → Kp v w w' → (∀ g, (Value.slice va (xs.length + 1) vc).ownBlock = some g → v.ownBlock = some g ∨ w.heap.size ≤ g) → K (a.put o.dst (.slice va (xs.length + 1) vc)) w') : o.wp Try.prog a w K Q := by
  obtain ⟨v', w', hr, r1, r2, r3⟩ := app_nds w o.type (ys := [zNd]) q1 (lit_sl hg hA) (KsF.one NdV.zero) (by simp only [List.length_singleton]; omega) hbase
  obtain ⟨va, vc, rfl⟩ := r1.shape
  have hl : (xs ++ [zNd]).length = xs.length + 1 := by simp
  rw [hl] at r1 r3 hr
  exact Lib.wp_append_run w s x 34 34 ho _ _ hs hx _ w' hr (h va vc w' r1 r2 r3)
end Go.Proofs.Ytoghhjljmhdioaa
namespace Go.Proofs.Ytoghhjljmhdioaa
open Go.RowKit
set_option maxRecDepth 100000
theorem setCell_swap (w : World) (b o : Nat) (v : Value) (b' o' : Nat) (v' : Value) (h : b ≠ b') : (w.setCell ⟨b, o, none⟩ v).setCell ⟨b', o', none⟩ v' = (w.setCell ⟨b', o', none⟩ v').setCell ⟨b, o, none⟩ v := by
  unfold World.setCell
  simp only
  congr 1
  apply Array.ext_getElem?
  intro i
  simp only [Array.getElem?_modify]
  by_cases h1 : b' = i
  · subst h1
    have h2 : ¬ b = b' := h
    simp [h2]
  · simp [h1]
theorem six_swap (w : World) (q o : Nat) (v : Value) (g p : Nat) (v0 v1 v2 v3 v4 v5 : Value) (h : q ≠ g) : six (w.setCell ⟨q, o, none⟩ v) g p v0 v1 v2 v3 v4 v5 = (six w g p v0 v1 v2 v3 v4 v5).setCell ⟨q, o, none⟩ v := by
  unfold six
  simp only [setCell_swap _ q o v g _ _ h]
/-- A part is stored into its place in a row. -/
theorem st6 (w : World) {o : Oper} {a : Act} {K : Act → World → Prop} {Q : Exit → Act → World → Prop} (x y : Nat) (ho : o.op = .store 36 (.tmp x) (.tmp y)) (hd : o.dst = none) (g p : Nat) (k : Int) (s : ByteArray) (ps n : Int) (na : Option Addr) (nl nc : Nat) (ka : Option Addr) (kl kc : Nat) (hx : a.tmps[x]?.getD undef = .pointer (some ⟨g, p, none⟩)) (hy : a.tmps[y]?.getD undef = .agg #[.int .i64 k, .string s, .int .i64 ps, .int .i64 n, .slice na nl nc, .slice ka kl kc])
    (hc : ∃ u0 u1 u2 u3 u4 u5, w.cell? ⟨g, p, none⟩ = some u0 ∧ w.cell? ⟨g, p + 1, none⟩ = some u1 ∧ w.cell? ⟨g, p + 2, none⟩ = some u2 ∧ w.cell? ⟨g, p + 3, none⟩ = some u3 ∧ w.cell? ⟨g, p + 4, none⟩ = some u4 ∧ w.cell? ⟨g, p + 5, none⟩ = some u5) (fz : ∀ j, w.frozen? ⟨g, j, none⟩ = false)
    (h : K a (six w g p (.int .i64 k) (.string s) (.int .i64 ps) (.int .i64 n) (.slice na nl nc) (.slice ka kl kc))) : o.wp Try.prog a w K Q := by
  obtain ⟨u0, u1, u2, u3, u4, u5, c0, c1, c2, c3, c4, c5⟩ := hc
  have f0 := fz p
  have f1 := fz (p + 1)
  have f2 := fz (p + 2)
  have f3 := fz (p + 3)
  have f4 := fz (p + 4)
  have f5 := fz (p + 5)
  unfold six at h
  unfold Oper.wp execOp
  simp [ho, hx, hy, go_sem, c0, c1, c2, c3, c4, c5, f0, f1, f2, f3, f4, f5, hd]
  exact h
/-- A row is stored into a cell. -/
theorem stq (w : World) {o : Oper} {a : Act} {K : Act → World → Prop} {Q : Exit → Act → World → Prop} (x y : Nat) (ho : o.op = .store 34 (.tmp x) (.tmp y)) (hd : o.dst = none) (q k : Nat) (va : Option Addr) (n c : Nat) (hx : a.tmps[x]?.getD undef = .pointer (some ⟨q, k, none⟩)) (hy : a.tmps[y]?.getD undef = .slice va n c)
    {u : Value} (hc : w.cell? ⟨q, k, none⟩ = some u) (fz : w.frozen? ⟨q, k, none⟩ = false) (h : K a (w.setCell ⟨q, k, none⟩ (.slice va n c))) : o.wp Try.prog a w K Q := by
  unfold Oper.wp execOp
  simp [ho, hx, hy, go_sem, hc, fz, hd]
  exact h
/-- The part is there, and what else is kept. -/
theorem stm_put {w w1 : World} {A : Nat → Prop} {q g B : Nat} {x y : Nd} {na ka : Option Addr} {nc kc vc : Nat} {v0 v1 v2 v3 v4 v5 : Value} (E : w.heap[q]? = some (.cells #[.int .i64 x.kind, .string (strOfNums x.text), .int .i64 (x.pos : Int), .int .i64 (x.n : Int), .slice na x.names.length nc, .slice ka x.kids.length kc] 36))
    (sn : SlF (fun b => A b ∧ ∀ g, (Value.slice ka x.kids.length kc).ownBlock = some g → b ≠ g) w na x.names.length nc (x.names.map strV)) (R : RowN (six w1 g (x.kids.length * 6) v0 v1 v2 v3 v4 v5) A (.slice (some ⟨g, 0, none⟩) (x.kids.length + 1) vc) (x.kids ++ [y])) (K : Kp (.slice ka x.kids.length kc) w w1) (hpl : ∀ h, (Value.slice (some ⟨g, 0, none⟩) (x.kids.length + 1) vc).ownBlock = some h → (Value.slice ka x.kids.length kc).ownBlock = some h ∨ w.heap.size ≤ h) (hA : ¬ A q) (hlo : ∀ b, A b → B ≤ b) (hAk : ∀ b, (Value.slice ka x.kids.length kc).ownBlock = some b → A b) (hBq : B ≤ q) (hBw : B ≤ w.heap.size) :
    KBox ((six w1 g (x.kids.length * 6) v0 v1 v2 v3 v4 v5).setCell ⟨q, 5, none⟩ (.slice (some ⟨g, 0, none⟩) (x.kids.length + 1) vc)) A q (x.kid y) ∧ Below B w ((six w1 g (x.kids.length * 6) v0 v1 v2 v3 v4 v5).setCell ⟨q, 5, none⟩ (.slice (some ⟨g, 0, none⟩) (x.kids.length + 1) vc)) ∧
      ∀ b, b < w.heap.size → b ≠ q → (Value.slice ka x.kids.length kc).ownBlock ≠ some b → ((six w1 g (x.kids.length * 6) v0 v1 v2 v3 v4 v5).setCell ⟨q, 5, none⟩ (.slice (some ⟨g, 0, none⟩) (x.kids.length + 1) vc)).heap[b]? = w.heap[b]? := by
  have S6 := six_st w1 g (x.kids.length * 6) v0 v1 v2 v3 v4 v5
  have hg := hpl g rfl
  have hkq : (Value.slice ka x.kids.length kc).ownBlock ≠ some q := fun e => hA (hAk q e)
  have K6 : Kp (.slice ka x.kids.length kc) w (six w1 g (x.kids.length * 6) v0 v1 v2 v3 v4 v5) :=
    ⟨S6.os.trans K.os, S6.tape.trans K.tape, S6.output.trans K.output, by rw [S6.size]; exact K.size, fun b hb hn => (S6.block b (fun e => by rcases hg with h | h <;> first | exact hn (e ▸ h) | omega)).trans (K.block b hb hn)⟩
  obtain ⟨KB, SQ⟩ := KBox.put E sn R K6 hpl hA hkq
  refine ⟨KB, ?_, fun b hb hbq hbA => (SQ.block b hbq).trans (K6.block b hb hbA)⟩
  exact (K6.below hBw (fun h hh => hlo h (hAk h hh))).trans (SQ.below hBq)
theorem St.cellAt {g : Nat} {w w' : World} (S : St g w w') {b j : Nat} (h : b ≠ g) : w'.cell? ⟨b, j, none⟩ = w.cell? ⟨b, j, none⟩ ∧ w'.frozen? ⟨b, j, none⟩ = w.frozen? ⟨b, j, none⟩ := by
  have := S.block b h
  simp [World.cell?, World.frozen?, this]
theorem stm_facts {w w1 : World} {A : Nat → Prop} {q g p : Nat} {ka : Option Addr} {kl kc : Nat} {z0 z1 z2 z3 z4 : Value} (E : w.heap[q]? = some (.cells #[z0, z1, z2, z3, z4, .slice ka kl kc] 36)) (K : Kp (.slice ka kl kc) w w1) (hA : ¬ A q) (hAk : ∀ b, (Value.slice ka kl kc).ownBlock = some b → A b) (hAg : A g)
    (hc : ∃ u0 u1 u2 u3 u4 u5, w1.cell? ⟨g, p, none⟩ = some u0 ∧ w1.cell? ⟨g, p + 1, none⟩ = some u1 ∧ w1.cell? ⟨g, p + 2, none⟩ = some u2 ∧ w1.cell? ⟨g, p + 3, none⟩ = some u3 ∧ w1.cell? ⟨g, p + 4, none⟩ = some u4 ∧ w1.cell? ⟨g, p + 5, none⟩ = some u5) (fz : ∀ j, w1.frozen? ⟨g, j, none⟩ = false) :
    q ≠ g ∧ (∀ V, ∃ u0 u1 u2 u3 u4 u5, (w1.setCell ⟨q, 5, none⟩ V).cell? ⟨g, p, none⟩ = some u0 ∧ (w1.setCell ⟨q, 5, none⟩ V).cell? ⟨g, p + 1, none⟩ = some u1 ∧ (w1.setCell ⟨q, 5, none⟩ V).cell? ⟨g, p + 2, none⟩ = some u2 ∧ (w1.setCell ⟨q, 5, none⟩ V).cell? ⟨g, p + 3, none⟩ = some u3 ∧ (w1.setCell ⟨q, 5, none⟩ V).cell? ⟨g, p + 4, none⟩ = some u4 ∧ (w1.setCell ⟨q, 5, none⟩ V).cell? ⟨g, p + 5, none⟩ = some u5) ∧
    (∀ V j, (w1.setCell ⟨q, 5, none⟩ V).frozen? ⟨g, j, none⟩ = false) ∧ w1.cell? ⟨q, 5, none⟩ = some (.slice ka kl kc) ∧ w1.frozen? ⟨q, 5, none⟩ = false ∧
    (∀ v0 v1 v2 v3 v4 v5, (six w1 g p v0 v1 v2 v3 v4 v5).cell? ⟨q, 5, none⟩ = some (.slice ka kl kc)) ∧ ∀ v0 v1 v2 v3 v4 v5, (six w1 g p v0 v1 v2 v3 v4 v5).frozen? ⟨q, 5, none⟩ = false := by
  have hqg : q ≠ g := fun e => hA (e ▸ hAg)
  have E1 := (K.block q (lt_of_block E) (fun e => hA (hAk q e))).trans E
  obtain ⟨_, _, _, _, _, e5, ef⟩ := nd_cells E1
  refine ⟨hqg, fun V => ?_, fun V j => ?_, e5, ef 5, fun v0 v1 v2 v3 v4 v5 => ?_, fun v0 v1 v2 v3 v4 v5 => ?_⟩
  · have S := St.cell w1 q 5 V
    obtain ⟨u0, u1, u2, u3, u4, u5, c0, c1, c2, c3, c4, c5⟩ := hc
    exact ⟨u0, u1, u2, u3, u4, u5, (S.cellAt hqg.symm).1.trans c0, (S.cellAt hqg.symm).1.trans c1, (S.cellAt hqg.symm).1.trans c2, (S.cellAt hqg.symm).1.trans c3, (S.cellAt hqg.symm).1.trans c4, (S.cellAt hqg.symm).1.trans c5⟩
  · exact ((St.cell w1 q 5 V).cellAt hqg.symm).2.trans (fz j)
  · exact ((six_st w1 g p v0 v1 v2 v3 v4 v5).cellAt hqg).1.trans e5
  · exact ((six_st w1 g p v0 v1 v2 v3 v4 v5).cellAt hqg).2.trans (ef 5)
end Go.Proofs.Ytoghhjljmhdioaa
