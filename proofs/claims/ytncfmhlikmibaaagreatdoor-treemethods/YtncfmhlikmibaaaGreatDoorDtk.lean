/- A tree as the document has it: taken. -/
import Derived.Test.YtncfmhlikmibaaaGreatDoorDun
namespace Go.Proofs.YtncfmhlikmibaaaGreatDoor
open Go.RowKit
set_option maxRecDepth 100000
set_option maxHeartbeats 16000000
theorem kp_bel {v : Value} {w w' w'' : World} (h : Below w.heap.size w w') (k : Kp v w' w'') : Kp v w w'' :=
 ⟨k.os.trans h.os, k.tape.trans h.tape, k.output.trans h.output, Nat.le_trans h.size k.size, fun b hb hn => (k.block b (Nat.lt_of_lt_of_le hb h.size) hn).trans (h.block b hb)⟩
theorem app_strs (w : World) (ty : TypeId) {A : Nat → Prop} {xa : Option Addr} {c : Nat} {l : List (List Int)} (s : SlF A w xa l.length c (l.map Zcr)) (hn : l.length ≤ 100000) :
  ∃ va vc w', (Builtin.append_ #[22, 22] ty #[.slice none 0 0, .slice xa l.length c]).run Tryz.prog w = .ok (.slice va l.length vc) w' ∧ SlF (fun b => w.heap.size ≤ b) w' va l.length vc (l.map Zcr) ∧ Below w.heap.size w w' := by
 obtain ⟨i, hi, hz, hsize, hby⟩ := Zb1 Zoa
 have o1 := World.ownsRow_nil w 0 9 1
 cases xa with
 | none =>
  have hc := s.nil0 rfl
  have hr := s.room
  have h0 : l.length = 0 := by omega
  have hy : l = [] := List.eq_nil_of_length_eq_zero h0
  subst hy
  obtain rfl : c = 0 := hc
  exact ⟨none, 0, w, run_append_owned_none (P := Tryz.prog) (w := w) 0 22 ty 9 i 1 Tryz.underlying22 hi (.slice none 0 0) 0 [] o1, SlF.nil _ _, Below.refl _ _⟩
 | some ad =>
  have hl : (l.map Zcr).length = l.length * 1 := by simp
  have hnews : ∀ j u, (l.map Zcr)[j]? = some u → w.cell? (ad.add j) = some u := by
   intro j u hj
   have h0 : 0 < (l.map Zcr).length := by
    have := (List.getElem?_eq_some_iff.1 hj).1
    omega
   obtain ⟨b, off, e, _, hc⟩ := s.cells h0
   simp only [Option.some.injEq] at e
   subst e
   rw [Za7]
   exact hc j u hj
  obtain ⟨v', w', hr, r1, r2, r3⟩ := Zd0 w 22 ty 9 Tryz.underlying22 hi hz hsize hby rfl (by decide) (by decide) o1 ad l.length c (l.map Zcr) hl hnews (fun u hu => by obtain ⟨a, _, rfl⟩ := List.mem_map.1 hu; rfl) (by omega) (Nat.zero_le _)
  rw [Nat.zero_add, List.nil_append] at r1
  have hA : ∀ g, v'.ownBlock = some g → w.heap.size ≤ g := fun g hg => (r3 g hg).elim (fun h => by simp [Value.ownBlock] at h) id
  obtain ⟨va, vc, rfl⟩ : ∃ a c, v' = .slice a l.length c := by
   rcases r1.2 with ⟨rfl, h0⟩ | ⟨g', cap, cur, rfl, _⟩
   ·exact ⟨none, 0, by rw [h0]⟩
   exact ⟨_, _, rfl⟩
  exact ⟨va, vc, w', hr, Zp5 r1 hA, ⟨r2.os, r2.tape, r2.output, r2.size, fun b hb => r2.block b hb (by simp [Value.ownBlock])⟩⟩
theorem ap22 {ops : Array Oper} {rest : List Oper} {o : Oper} {a : Act} {Q : Exit → Act → World → Prop} (w : World) (hgd : o.guard = none) (s x : Operand) (ho : o.op = .call { callee := .builtin .append, args := #[s, x], argTypes := #[22, 22] }) (hs : a.eval s = .slice none 0 0) {A : Nat → Prop} {xa : Option Addr} {n c : Nat} (hx : a.eval x = .slice xa n c) {l : List (List Int)} (hl : n = l.length) (sl : SlF A w xa l.length c (l.map Zcr)) (hn : l.length ≤ 100000)
  (h : ∀ (va : Option Addr) (vc : Nat) w', SlF (fun b => w.heap.size ≤ b) w' va l.length vc (l.map Zcr) → Below w.heap.size w w' → wpList Tryz.prog ops Q rest (a.put o.dst (.slice va l.length vc)) w') : wpList Tryz.prog ops Q (o :: rest) a w := by
 subst hl
 obtain ⟨va, vc, w', hr, r1, r2⟩ := app_strs w o.type sl hn
 exact Lib.wpList_append_run w hgd s x 22 22 ho _ _ hs hx _ w' hr (h va vc w' r1 r2)
def dtkV (x y : Nd) (q1 q3 k kb koff kl : Nat) (sa ta pa ma la va : Option Addr) (sc tc kc pc mc lc vc g : Nat) (j : Nat) : Value :=
 ([.pointer (some ⟨q3, 5, none⟩),
  .slice pa x.kids.length pc,
  .pointer (some ⟨q1, 5, none⟩),
  .slice (some ⟨kb, koff, none⟩) kl kc,
  .int .i64 (k : Int),
  .pointer (some ⟨kb, koff + k * 6, none⟩),
  .agg #[.int .i64 y.kind, .string (strOfNums y.text), .int .i64 (y.pos : Int), .int .i64 (y.n : Int), .slice sa y.names.length sc, .slice ta y.kids.length tc],
  .agg #[.int .i64 y.kind, .string (strOfNums y.text), .int .i64 (y.pos : Int), .int .i64 (y.n : Int), .slice ma y.names.length mc, .slice la y.kids.length lc],
  .slice (some ⟨g, 0, none⟩) 1 1,
  .slice va (x.kids.length + 1) vc,
  .pointer (some ⟨q3, 5, none⟩)] : List Value).getD j undef
theorem drewF4 {w w' : World} (h : Below w.drew.heap.size w.drew w') : Below w.heap.size w w' := (Below.refl _ w).drew.trans h
theorem taken_at (n : Nd) (IH : ∀ y ∈ n.kids, ∀ (w : World) (A : Nat → Prop) (v : Value), NdV A w y v → Calls Tryz.prog 11 #[v] w fun e w' => ∃ u, e = .returned u ∧ NdV (fun b => w.heap.size ≤ b) w' y u ∧ Below w.heap.size w w') (w : World) (A : Nat → Prop) (v : Value) (hv : NdV A w n v) :
  Calls Tryz.prog 11 #[v] w fun e w' => ∃ u, e = .returned u ∧ NdV (fun b => w.heap.size ≤ b) w' n u ∧ Below w.heap.size w w' := by
 obtain ⟨na, nc, ka, kc, fl, rfl, sn, sk, kf, bn, bk, bt⟩ := NdV.parts hv
 go_enter Tryz.func11, Tryz.ntmps11
 go_wp2_with (refine bx25 _ rfl _ rfl _ _ _ _ _ _ _ _ _ _ rfl ?_)
 intro q1 wa Ea hq1 Ba
 have hla := lt_of_block Ea
 have hsa := Ba.size
 go_wp2_with (refine Zdn _ rfl rfl ?_)
 intro q wb Eb hq Bb
 have Da : Below w.heap.size w wb := Ba.trans (Bb.mono hsa)
 replace Ea := (Bb.block q1 hla).trans Ea
 have hsb := Bb.size
 have hlb := lt_of_block Eb
 clear Ba Bb
 obtain ⟨y0, y1, y2, y3, y4, y5, _⟩ := Zae Ea
 go_wp2_with (refine Zb5 rfl rfl rfl 3 rfl rfl rfl (fun _ => rfl) (fun _ => rfl) ?_)
 intro q3 wd Ed hq3 Bd
 have hsd := Bd.size
 have hld := lt_of_block Ed
 clear y0 y1 y2 y3 y4 y5
 have sn' : SlF A wd na n.names.length nc (n.names.map Zcr) := sn.imp (fun b hb hA => ⟨hA, (Bd.block b (by omega)).trans (Da.block b hb)⟩)
 have E1d := (Bd.block q1 (by omega)).trans Ea
 obtain ⟨y0, y1, y2, y3, y4, y5, _⟩ := Zae E1d
 obtain ⟨z0, z1, z2, z3, z4, z5, zf⟩ := Zac Ed
 go_wp2_with (at_builtin; refine ap22 _ rfl _ _ rfl rfl rfl rfl sn' bn ?_)
 intro va vc we SE BE
 have hse := BE.size
 have E1e := (BE.block q1 (by omega)).trans E1d
 have E3e := (BE.block q3 (by omega)).trans Ed
 clear y0 y1 y2 y3 y4 y5 z0 z1 z2 z3 z4 z5 zf
 obtain ⟨y0, y1, y2, y3, y4, y5, _⟩ := Zae E1e
 obtain ⟨z0, z1, z2, z3, z4, z5, zf⟩ := Zac E3e
 have zf4 := zf 4
 go_upto_region 3 with fail
 obtain ⟨B0, hB0⟩ : ∃ B0, B0 = wb.heap.size := ⟨_, rfl⟩
 have S4 := St.cell we q3 4 (.slice va n.names.length vc)
 have E4 := heap_setCell_same we q3 4 _ _ (.slice va n.names.length vc) E3e
 have D0 : Below B0 wb (we.setCell ⟨q3, 4, none⟩ (.slice va n.names.length vc)) := by
  rw [hB0]
  exact (Bd.trans (BE.mono hsd)).trans (S4.below hq3)
 have K0 : Zca (we.setCell ⟨q3, 4, none⟩ (.slice va n.names.length vc)) (fun b => B0 ≤ b ∧ b ≠ q3) q3 (.mk n.kind n.text n.pos n.n n.names []) := by
  refine ⟨va, vc, none, 0, ?_, SE.imp (fun b hb hA => ⟨⟨⟨by omega, by omega⟩, fun g hg => by simp [Value.ownBlock] at hg⟩, S4.block b (by omega)⟩), Zbu.nil _ _⟩
  rw [E4]
  simp [Nd.kind, Nd.text, Nd.pos, Nd.n, Nd.names, Nd.kids]
 clear SE BE E3e E4 S4 Ed E1d E1e y0 y1 y2 y3 y4 y5 z0 z1 z2 z3 z4 z5 zf zf4 sn' Bd
 generalize we.setCell ⟨q3, 4, none⟩ (.slice va n.names.length vc) = w0 at *
 have sk0 : SlF A wb ka n.kids.length kc fl := sk.imp (fun b hb hA => ⟨hA, Da.block b hb⟩)
 have kf0 : KsF A wb n.kids fl := KsF.imp (fun b hb hA => ⟨hA, Da.block b hb⟩) _ _ kf
 have hl0 : ∀ b, A b ∧ b < wb.heap.size → b < B0 := fun b h => by omega
 go_wp2
 go_loopw [4] (fun iv wr => ∃ k : Nat, k ≤ n.kids.length ∧ iv = .int .i64 (k : Int) ∧ Zca wr (fun b => B0 ≤ b ∧ b ≠ q3) q3 (.mk n.kind n.text n.pos n.n n.names (n.kids.take k)) ∧ Below B0 wb wr) (fun iv _ => n.kids.length - (intOf iv).toNat)
 case atStart => exact ⟨0, Nat.zero_le _, rfl, K0, D0⟩
 obtain ⟨k, hk0, rfl, K, Dw⟩ := hrel
 clear K0 D0
 have hsr := Dw.size
 have E1r : wr.heap[q1]? = _ := (Dw.block q1 (by omega)).trans Ea
 obtain ⟨y0, y1, y2, y3, y4, y5, _⟩ := Zae E1r
 by_cases hk : k < n.kids.length
 ·have hki : (k : Int) < (n.kids.length : Int) := by omega
  have skr : SlF (fun b => A b ∧ b < B0) wr ka n.kids.length kc fl := sk0.imp (fun b hb hA => ⟨⟨hA, by omega⟩, Dw.block b (by omega)⟩)
  have kfr : KsF (fun b => A b ∧ b < B0) wr n.kids fl := KsF.imp (fun b hb hA => ⟨⟨hA, by omega⟩, Dw.block b (by omega)⟩) _ _ kf0
  obtain ⟨y, hget⟩ : ∃ y, n.kids[k]? = some y := ⟨_, List.getElem?_eq_getElem hk⟩
  have hmem : y ∈ n.kids := List.mem_of_getElem? hget
  obtain ⟨v0, v1, v2, v3, v4, v5, hN, hf0, hf1, hf2, hf3, hf4, hf5⟩ := kfr.at_ k y hget
  obtain ⟨kb, koff, rfl, _, hcell⟩ := skr.cells (by have := kfr.len; omega)
  obtain ⟨sa, sc, ta, tc, _, eP, _⟩ := NdV.parts hN
  simp only [Value.agg.injEq, Array.mk.injEq, List.cons.injEq, and_true] at eP
  obtain ⟨rfl, rfl, rfl, rfl, rfl, rfl⟩ := eP
  have hk0' := hcell _ _ hf0
  have hk1' := hcell _ _ hf1
  have hk2' := hcell _ _ hf2
  have hk3' := hcell _ _ hf3
  have hk4' := hcell _ _ hf4
  have hk5' := hcell _ _ hf5
  simp only [← Nat.add_assoc] at hk0' hk1' hk2' hk3' hk4' hk5'
  have hk0 : wr.drew.cell? ⟨kb, koff + k * 6, none⟩ = _ := hk0'
  have hk1 : wr.drew.cell? ⟨kb, koff + k * 6 + 1, none⟩ = _ := hk1'
  have hk2 : wr.drew.cell? ⟨kb, koff + k * 6 + 2, none⟩ = _ := hk2'
  have hk3 : wr.drew.cell? ⟨kb, koff + k * 6 + 3, none⟩ = _ := hk3'
  have hk4 : wr.drew.cell? ⟨kb, koff + k * 6 + 4, none⟩ = _ := hk4'
  have hk5 : wr.drew.cell? ⟨kb, koff + k * 6 + 5, none⟩ = _ := hk5'
  have HT : ∀ w', w' = wr.drew → Calls Tryz.prog 11 #[.agg #[.int .i64 y.kind, .string (strOfNums y.text), .int .i64 (y.pos : Int), .int .i64 (y.n : Int), .slice sa y.names.length sc, .slice ta y.kids.length tc]] w' fun e w'' => ∃ u, e = .returned u ∧ NdV (fun b => w'.heap.size ≤ b) w'' y u ∧ Below w'.heap.size w' w'' := by
   rintro _ rfl
   exact IH y hmem wr.drew _ _ (NdV.imp (w := wr) (w' := wr.drew) (A := fun b => A b ∧ b < B0) (A' := fun b => A b ∧ b < B0) (fun b _ hA => ⟨hA, rfl⟩) _ _ hN)
  obtain ⟨x, hx⟩ : ∃ x, Hid (x = Nd.mk n.kind n.text n.pos n.n n.names (n.kids.take k)) := ⟨_, rfl⟩
  rw [← hx.out] at K
  have hxl : x.kids.length ≤ 500000 := by rw [hx.out]; show (n.kids.take k).length ≤ _; rw [List.length_take]; omega
  obtain ⟨oa, oc, pa, pc, Ek, sn, rk⟩ := K
  have hko2 : ∀ g, (Value.slice pa x.kids.length pc).ownBlock = some g → (B0 ≤ g ∧ g ≠ q3) ∧ g < wr.heap.size := fun g hg => rk.own hg
  have hko : ∀ g, (Value.slice pa x.kids.length pc).ownBlock = some g → B0 ≤ g := fun g hg => (hko2 g hg).1.1
  have hkq : (Value.slice pa x.kids.length pc).ownBlock ≠ some q3 := fun e => (hko2 _ e).1.2 rfl
  have hB0' := hB0
  have hB3 : B0 ≤ q3 := by omega
  have hq3r : q3 < wr.heap.size := lt_of_block Ek
  replace hB0 : B0 ≤ wr.heap.size := by omega
  have hA6 : ∀ b, wr.heap.size ≤ b → (B0 ≤ b ∧ b ≠ q3) := fun b hb => ⟨by omega, by omega⟩
  have hAb : ∀ b g, wr.heap.size ≤ g → (wr.heap.size ≤ b ∨ b = g) → ((B0 ≤ b ∧ b ≠ q3) ∧ ∀ q, (Value.slice pa x.kids.length pc).ownBlock = some q → b ≠ q) := fun b g hg hb => ⟨⟨by omega, by omega⟩, fun q hq => by have := hko2 q hq; omega⟩
  have Ekd : wr.drew.heap[q3]? = _ := Ek
  have rkd : Zbu wr.drew (fun b => B0 ≤ b ∧ b ≠ q3) (.slice pa x.kids.length pc) x.kids := rk.keep (fun _ _ _ => rfl)
  have y5d : wr.drew.cell? ⟨q1, 5, none⟩ = _ := y5
  have hix : (0 : Int) ≤ (k : Int) := by omega
  have hix2 : ((k : Int)).toNat = k := by omega
  have hix3 : (k : Int) < (n.kids.length : Int) := hki
  obtain ⟨kl, hkl⟩ : ∃ kl, Hid (n.kids.length = kl) := ⟨_, rfl⟩
  rw [hkl.out] at y5d hix3
  clear rk hk0' hk1' hk2' hk3' hk4' hk5' hcell hf0 hf1 hf2 hf3 hf4 hf5 skr kfr hB0' y0 y1 y2 y3 y4
  go_wp2_with fail
  refine Zah fun A hA => ?_
  have hsz : A.tmps.size = 39 := by rw [hA]; rfl
  have s1 : A.tmps[1]? = some (.pointer (some ⟨q1, 0, none⟩)) := by rw [hA]; rfl
  have s3 : A.tmps[3]? = some (.pointer (some ⟨q3, 0, none⟩)) := by rw [hA]; rfl
  have s4 : A.tmps[4]? = some (.int .i64 (k : Int)) := by rw [hA]; rfl
  refine zR1 (fun A D a w' => ∃ (l : List Value) (ma : Option Addr) (la : Option Addr) (va : Option Addr) (mc : Nat) (lc : Nat) (vc : Nat) (g : Nat), a = Zaj A 27 l ∧ l.length = 11 ∧ (∀ j, j < 11 → D j → l[j]? = some (dtkV x y q1 q3 k kb koff kl sa ta pa ma la va sc tc kc pc mc lc vc g j)) ∧ (D 11 ∨ w'.heap[q3]? = some (.cells #[.int .i64 x.kind, .string (strOfNums x.text), .int .i64 (x.pos : Int), .int .i64 (x.n : Int), .slice oa x.names.length oc, .slice pa x.kids.length pc] 31)) ∧ (D 7 ∨ w' = wr.drew) ∧ (D 9 ∨ Zbu w' (fun b => B0 ≤ b ∧ b ≠ q3) (.slice pa x.kids.length pc) x.kids) ∧ (D 11 → ∃ w9, (Zbu w9 (fun b => B0 ≤ b ∧ b ≠ q3) (.slice va (x.kids.length + 1) vc) (x.kids ++ [y]) ∧ Kp (.slice pa x.kids.length pc) wr w9 ∧ (∀ g, (Value.slice va (x.kids.length + 1) vc).ownBlock = some g → (Value.slice pa x.kids.length pc).ownBlock = some g ∨ wr.heap.size ≤ g)) ∧ w' = w9.setCell ⟨q3, 5, none⟩ (.slice va (x.kids.length + 1) vc) ∧ w9.heap[q3]? = some (.cells #[.int .i64 x.kind, .string (strOfNums x.text), .int .i64 (x.pos : Int), .int .i64 (x.n : Int), .slice oa x.names.length oc, .slice pa x.kids.length pc] 31)) ∧ (D 7 → ¬ D 8 → NdV (fun b => wr.heap.size ≤ b) w' y (.agg #[.int .i64 y.kind, .string (strOfNums y.text), .int .i64 (y.pos : Int), .int .i64 (y.n : Int), .slice ma y.names.length mc, .slice la y.kids.length lc]) ∧ Below wr.heap.size wr w') ∧ (D 8 → ¬ D 9 → w'.heap[g]? = some (.cells #[.int .i64 y.kind, .string (strOfNums y.text), .int .i64 (y.pos : Int), .int .i64 (y.n : Int), .slice ma y.names.length mc, .slice la y.kids.length lc] 31) ∧ NdV (fun b => wr.heap.size ≤ b) w' y (.agg #[.int .i64 y.kind, .string (strOfNums y.text), .int .i64 (y.pos : Int), .int .i64 (y.n : Int), .slice ma y.names.length mc, .slice la y.kids.length lc]) ∧ Below wr.heap.size wr w' ∧ wr.heap.size ≤ g) ∧ (D 9 → ¬ D 11 → Zbu w' (fun b => B0 ≤ b ∧ b ≠ q3) (.slice va (x.kids.length + 1) vc) (x.kids ++ [y]) ∧ Kp (.slice pa x.kids.length pc) wr w' ∧ (∀ g, (Value.slice va (x.kids.length + 1) vc).ownBlock = some g → (Value.slice pa x.kids.length pc).ownBlock = some g ∨ wr.heap.size ≤ g))) ?start ?step ?done
  case start => exact ⟨_, none, none, none, 0, 0, 0, 0, zS 27 11 hsz, zG 27 11 hsz, zK, .inr (Ekd), .inr (rfl), .inr (rkd), zf, zF, zF, zF⟩
  case step =>
   clear hA
   intro i o ho D a w' hI hn hcl hd
   obtain ⟨l, ma, la, va, mc, lc, vc, g, ha, Lh, hl, hE, hN, hK, hQ, hU, hG, hY⟩ := hI
   match i, ho with
   | 0, ho =>
    cases zq ho
    have ev : a.tmps[3]? = some (.pointer (some ⟨q3, 0, none⟩)) := zu 3 ha Lh hsz s3
    exact zx (.pointer (some ⟨q3, 5, none⟩)) (by simp [execOp, ev, go_sem]) ⟨_, ma, la, va, mc, lc, vc, g, zp 0 ha Lh hsz, zh Lh, zk Lh hl, zl hE, zl hN, zl hK, zr hQ, zs hU, zs hG, zs hY⟩
   | 1, ho =>
    cases zq ho
    have ev : a.tmps[27]? = some (.pointer (some ⟨q3, 5, none⟩)) := zv ha hsz Lh hl 0 hd
    have e1 := hE.resolve_left (fun h => hn (zc hcl 9 1 rfl (zc hcl 11 9 rfl h)))
    obtain ⟨z0, z1, z2, z3, z4, z5, _⟩ := Zac e1
    exact zx (.slice pa x.kids.length pc) (by simp [execOp, ev, go_sem, z5]) ⟨_, ma, la, va, mc, lc, vc, g, zp 1 ha Lh hsz, zh Lh, zk Lh hl, zl hE, zl hN, zl hK, zr hQ, zs hU, zs hG, zs hY⟩
   | 2, ho =>
    cases zq ho
    have ev : a.tmps[1]? = some (.pointer (some ⟨q1, 0, none⟩)) := zu 1 ha Lh hsz s1
    exact zx (.pointer (some ⟨q1, 5, none⟩)) (by simp [execOp, ev, go_sem]) ⟨_, ma, la, va, mc, lc, vc, g, zp 2 ha Lh hsz, zh Lh, zk Lh hl, zl hE, zl hN, zl hK, zr hQ, zs hU, zs hG, zs hY⟩
   | 3, ho =>
    cases zq ho
    have ev : a.tmps[29]? = some (.pointer (some ⟨q1, 5, none⟩)) := zv ha hsz Lh hl 2 hd
    have eN := hN.resolve_left (fun h => hn (zc hcl 5 3 rfl (zc hcl 6 5 rfl (zc hcl 7 6 rfl h))))
    have zz := y5d
    rw [← eN] at zz
    exact zx (.slice (some ⟨kb, koff, none⟩) kl kc) (by simp [execOp, ev, go_sem, zz]) ⟨_, ma, la, va, mc, lc, vc, g, zp 3 ha Lh hsz, zh Lh, zk Lh hl, zl hE, zl hN, zl hK, zr hQ, zs hU, zs hG, zs hY⟩
   | 4, ho =>
    cases zq ho
    have ev : a.tmps[4]? = some (.int .i64 (k : Int)) := zu 4 ha Lh hsz s4
    exact zx (.int .i64 (k : Int)) (by simp [execOp, ev, go_sem]) ⟨_, ma, la, va, mc, lc, vc, g, zp 4 ha Lh hsz, zh Lh, zk Lh hl, zl hE, zl hN, zl hK, zr hQ, zs hU, zs hG, zs hY⟩
   | 5, ho =>
    cases zq ho
    have ev : a.tmps[30]? = some (.slice (some ⟨kb, koff, none⟩) kl kc) := zv ha hsz Lh hl 3 hd
    have ev' : a.tmps[31]? = some (.int .i64 (k : Int)) := zv ha hsz Lh hl 4 hd
    refine Zba (w' := w') (v := .pointer (some ⟨kb, koff + k * 6, none⟩)) ?_ ?_
    ·simp [execOp, ev, ev', go_sem, hix, hix2, Za7]
     intro hh
     exact absurd hh (by omega)
    exact ⟨_, ma, la, va, mc, lc, vc, g, zp 5 ha Lh hsz, zh Lh, zk Lh hl, zl hE, zl hN, zl hK, zr hQ, zs hU, zs hG, zs hY⟩
   | 6, ho =>
    cases zq ho
    have ev : a.tmps[32]? = some (.pointer (some ⟨kb, koff + k * 6, none⟩)) := zv ha hsz Lh hl 5 hd
    have eN := hN.resolve_left (fun h => hn (zc hcl 7 6 rfl h))
    have x0 := hk0
    have x1 := hk1
    have x2 := hk2
    have x3 := hk3
    have x4 := hk4
    have x5 := hk5
    rw [← eN] at x0 x1 x2 x3 x4 x5
    exact zx (.agg #[.int .i64 y.kind, .string (strOfNums y.text), .int .i64 (y.pos : Int), .int .i64 (y.n : Int), .slice sa y.names.length sc, .slice ta y.kids.length tc]) (by simp [execOp, ev, go_sem, x0, x1, x2, x3, x4, x5, Za7]) ⟨_, ma, la, va, mc, lc, vc, g, zp 6 ha Lh hsz, zh Lh, zk Lh hl, zl hE, zl hN, zl hK, zr hQ, zs hU, zs hG, zs hY⟩
   | 7, ho =>
    cases zq ho
    have ev : a.tmps[33]? = some (.agg #[.int .i64 y.kind, .string (strOfNums y.text), .int .i64 (y.pos : Int), .int .i64 (y.n : Int), .slice sa y.names.length sc, .slice ta y.kids.length tc]) := zv ha hsz Lh hl 6 hd
    have eN := hN.resolve_left hn
    have e1 := hE.resolve_left (fun h => hn (zc hcl 8 7 rfl (zc hcl 9 8 rfl (zc hcl 11 9 rfl h))))
    have rk0 := hK.resolve_left (fun h => hn (zc hcl 8 7 rfl (zc hcl 9 8 rfl h)))
    refine Zan (f := 11) (args := #[.agg #[.int .i64 y.kind, .string (strOfNums y.text), .int .i64 (y.pos : Int), .int .i64 (y.n : Int), .slice sa y.names.length sc, .slice ta y.kids.length tc]]) (by simp [execOp, ev, go_sem]) ?_
    refine (HT w' eN).mono ?_
    rintro e w6 ⟨u, rfl, hu, F4⟩
    refine ⟨_, rfl, ?_⟩
    obtain ⟨ma', mc', la', lc', _, rfl, _⟩ := NdV.parts hu
    have hsF := F4.size
    have hs60 : wr.heap.size ≤ w'.heap.size := by rw [eN]; exact Nat.le_refl _
    exact ⟨_, ma', la', va, mc', lc', vc, g, zp 7 ha Lh hsz, zh Lh, Zai (val' := dtkV x y q1 q3 k kb koff kl sa ta pa ma' la' va sc tc kc pc mc' lc' vc g) Lh (by decide) hl (fun j hj hne => match j, hj, hne with | 0, _, _ => rfl | 1, _, _ => rfl | 2, _, _ => rfl | 3, _, _ => rfl | 4, _, _ => rfl | 5, _, _ => rfl | 6, _, _ => rfl | 7, _, hne => absurd rfl hne | 8, _, _ => rfl | 9, _, _ => rfl | 10, _, _ => rfl | j + 11, _, _ => rfl), .inr ((F4.block q3 (lt_of_block e1)).trans e1), .inl (.inl rfl), .inr (rk0.keep (fun b hA hb => F4.block b hb)), za (fun h => hn (zc hcl 8 7 rfl (zc hcl 9 8 rfl (zc hcl 11 9 rfl h)))), fun _ _ => ⟨hu.mono (fun b _ hb => (show wr.heap.size ≤ b from Nat.le_trans hs60 hb)), by rw [eN] at F4; exact drewF4 F4⟩, zb (fun h => hn (zc hcl 8 7 rfl h)), zb (fun h => hn (zc hcl 8 7 rfl (zc hcl 9 8 rfl h)))⟩
   | 8, ho =>
    cases zq ho
    have ev : a.tmps[34]? = some (.agg #[.int .i64 y.kind, .string (strOfNums y.text), .int .i64 (y.pos : Int), .int .i64 (y.n : Int), .slice ma y.names.length mc, .slice la y.kids.length lc]) := zv ha hsz Lh hl 7 hd
    have U3 := hU (zd hd 7) hn
    have e1 := hE.resolve_left (fun h => hn (zc hcl 9 8 rfl (zc hcl 11 9 rfl h)))
    have rk0 := hK.resolve_left (fun h => hn (zc hcl 9 8 rfl h))
    refine Zeg w' _ rfl _ _ _ _ _ _ _ _ _ _ (by simpa [Act.eval] using Zav ev) ?_
    exact ⟨_, ma, la, va, mc, lc, vc, w'.heap.size, zp 8 ha Lh hsz, zh Lh, Zai (val' := dtkV x y q1 q3 k kb koff kl sa ta pa ma la va sc tc kc pc mc lc vc w'.heap.size) Lh (by decide) hl (fun j hj hne => match j, hj, hne with | 0, _, _ => rfl | 1, _, _ => rfl | 2, _, _ => rfl | 3, _, _ => rfl | 4, _, _ => rfl | 5, _, _ => rfl | 6, _, _ => rfl | 7, _, _ => rfl | 8, _, hne => absurd rfl hne | 9, _, _ => rfl | 10, _, _ => rfl | j + 11, _, _ => rfl), .inr ((Zbc.block q3 (lt_of_block e1)).trans e1), .inl (.inr (zd hd 7)), .inr (rk0.keep (fun b _ hb => Zbc.block b hb)), za (fun h => hn (zc hcl 9 8 rfl (zc hcl 11 9 rfl h))), zi, fun _ _ => ⟨Zc0 w' _, U3.1.bel Zbc, U3.2.trans (Zbc.mono U3.2.size), U3.2.size⟩, zb (fun h => hn (zc hcl 9 8 rfl h))⟩
   | 9, ho =>
    cases zq ho
    have ev : a.tmps[28]? = some (.slice pa x.kids.length pc) := zv ha hsz Lh hl 1 hd
    have ev' : a.tmps[35]? = some (.slice (some ⟨g, 0, none⟩) 1 1) := zv ha hsz Lh hl 8 hd
    have G4 := hG (zd hd 8) hn
    have e1 := hE.resolve_left (fun h => hn (zc hcl 11 9 rfl h))
    have rk0 := hK.resolve_left hn
    refine Zeh w' _ _ rfl (by simpa [Act.eval] using Zav ev) (by simpa [Act.eval] using Zav ev') rk0 G4.1 G4.2.1 (fun b hb hh => hAb b g G4.2.2.2 hh) hxl (fun b hb => hA6 b (Nat.le_trans G4.2.2.1.size hb)) ?_
    intro va' vc' w9 R9 K9 pl9
    have hs9 := K9.size
    exact ⟨_, ma, la, va', mc, lc, vc', g, zp 9 ha Lh hsz, zh Lh, Zai (val' := dtkV x y q1 q3 k kb koff kl sa ta pa ma la va' sc tc kc pc mc lc vc' g) Lh (by decide) hl (fun j hj hne => match j, hj, hne with | 0, _, _ => rfl | 1, _, _ => rfl | 2, _, _ => rfl | 3, _, _ => rfl | 4, _, _ => rfl | 5, _, _ => rfl | 6, _, _ => rfl | 7, _, _ => rfl | 8, _, _ => rfl | 9, _, hne => absurd rfl hne | 10, _, _ => rfl | j + 11, _, _ => rfl), .inr ((K9.block q3 (lt_of_block e1) hkq).trans e1), .inl (.inr (zc hcl 8 7 rfl (zd hd 8))), .inl (.inl rfl), za (fun h => hn (zc hcl 11 9 rfl h)), zj (zd hd 8), zi, fun _ _ => ⟨R9, kp_bel G4.2.2.1 K9, fun g' hg' => (pl9 g' hg').imp_right (fun h => Nat.le_trans G4.2.2.1.size h)⟩⟩
   | 10, ho =>
    cases zq ho
    have ev : a.tmps[3]? = some (.pointer (some ⟨q3, 0, none⟩)) := zu 3 ha Lh hsz s3
    exact zx (.pointer (some ⟨q3, 5, none⟩)) (by simp [execOp, ev, go_sem]) ⟨_, ma, la, va, mc, lc, vc, g, zp 10 ha Lh hsz, zh Lh, zk Lh hl, zl hE, zl hN, zl hK, zr hQ, zs hU, zs hG, zs hY⟩
   | 11, ho =>
    cases zq ho
    have ev : a.tmps[37]? = some (.pointer (some ⟨q3, 5, none⟩)) := zv ha hsz Lh hl 10 hd
    have ev' : a.tmps[36]? = some (.slice va (x.kids.length + 1) vc) := zv ha hsz Lh hl 9 hd
    have e1 := hE.resolve_left hn
    obtain ⟨z0, z1, z2, z3, z4, z5, zf⟩ := Zac e1
    have zf5 := zf 5
    have L := hY (zd hd 9) hn
    refine Zbj (w' := w'.setCell ⟨q3, 5, none⟩ (.slice va (x.kids.length + 1) vc)) (by simp [execOp, Act.eval, ev, ev', go_sem, z5, zf5]) ?_
    exact ⟨l, ma, la, va, mc, lc, vc, g, ha, Lh, zJ hl, .inl (.inl rfl), .inl (.inr (zc hcl 8 7 rfl (zc hcl 9 8 rfl (zd hd 9)))), .inl (.inr (zd hd 9)), fun _ => ⟨w', L, rfl, e1⟩, zj (zc hcl 9 8 rfl (zd hd 9)), zj (zd hd 9), zi⟩
   | i + 12, ho => simp at ho
  rintro D a w' ⟨l, ma, la, va, mc, lc, vc, g, ha, Lh, hl, hE, hN, hK, hQ, hU, hG, hY⟩ hall
  obtain ⟨v0, v1, v2, v3, v4, v5, v6, v7, v8, v9, v10, rfl⟩ := zL11 Lh
  obtain ⟨w9, ⟨R9, F9, pl9⟩, ew, E9⟩ := hQ (hall 11 (by decide))
  subst hA
  have hfr : a = _ := ha
  rw [hfr]
  clear hfr ha
  simp only [Zaj, yG, yH]
  clear hl hE hN hK hU hG hY hQ hall
  obtain ⟨K9, S9⟩ := Zca.put Ek sn R9 F9 pl9 (fun h => h.2 rfl) hkq
  have D9 := (F9.below (B := B0) hB0 (fun g hg => hko g hg)).trans (S9.below hB3)
  rw [← ew] at K9 D9
  clear ew S9 E9 F9 R9 pl9 rkd Ekd HT
  have hxy : x.kid y = .mk n.kind n.text n.pos n.n n.names (n.kids.take (k + 1)) := by
   rw [hx.out, List.take_add_one, hget]
   rfl
  rw [hxy] at K9
  go_wp2
  go_roundw
  case rel => exact ⟨k + 1, hk, by go_num, K9, Dw.trans D9⟩
  case measure => simp [intOf]; omega
 have hki : ¬ (k : Int) < (n.kids.length : Int) := by omega
 have hkl : n.kids.take k = n.kids := List.take_of_length_le (by omega)
 rw [hkl] at K
 have hnn : Nd.mk n.kind n.text n.pos n.n n.names n.kids = n := by cases n; rfl
 rw [hnn] at K
 obtain ⟨na', nc', ka', kc', Ek, hv'⟩ := K.nd (by omega) (by omega) (by omega)
 obtain ⟨z0, z1, z2, z3, z4, z5, _⟩ := Zac Ek
 have E2 : wr.heap[q]? = _ := (Dw.block q (by omega)).trans Eb
 go_wp2_with (refine Za8 rfl rfl rfl rfl rfl E2 ?_)
 intro wz Ez Sz
 go_wp2
 exact zT 2 (by rfl) (by rfl) (Zau Ez) (by rfl) ⟨_, rfl, hv'.imp (A' := fun b => w.heap.size ≤ b) (fun b _ hA => ⟨by omega, Sz.block b (by omega)⟩) _ _, (Da.trans (Dw.mono (by omega))).trans (Sz.below (by omega))⟩
theorem Zpg (k : Nat) : ∀ n : Nd, SizeOf.sizeOf n ≤ k → ∀ (w : World) (A : Nat → Prop) (v : Value), NdV A w n v → Calls Tryz.prog 11 #[v] w fun e w' => ∃ u, e = .returned u ∧ NdV (fun b => w.heap.size ≤ b) w' n u ∧ Below w.heap.size w w' := by
 induction k with
 | zero => intro n hn; cases n; simp at hn
 | succ k ih =>
  intro n hn w A v hv
  refine taken_at n (fun y hy => ih y ?_) w A v hv
  cases n with
  | mk k t p m l kids =>
   have h1 : SizeOf.sizeOf y < SizeOf.sizeOf kids := List.sizeOf_lt_of_mem hy
   simp only [Nd.mk.sizeOf_spec] at hn
   omega
theorem Zpf (n : Nd) (w : World) (A : Nat → Prop) (v : Value) (hv : NdV A w n v) : Calls Tryz.prog 11 #[v] w fun e w' => ∃ u, e = .returned u ∧ NdV (fun b => w.heap.size ≤ b) w' n u ∧ Below w.heap.size w w' := Zpg _ n zo w A v hv
end Go.Proofs.YtncfmhlikmibaaaGreatDoor
