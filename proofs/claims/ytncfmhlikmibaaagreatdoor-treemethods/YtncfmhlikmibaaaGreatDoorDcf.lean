/- The document's parser: cascade. -/
import Derived.Test.YtncfmhlikmibaaaGreatDoorDxp
import Derived.Test.YtncfmhlikmibaaaGreatDoorOth
import Derived.Test.YtncfmhlikmibaaaGreatDoorKno
import Derived.Test.YtncfmhlikmibaaaGreatDoorDli
namespace Go.Proofs.YtncfmhlikmibaaaGreatDoor
open Go.RowKit
set_option maxRecDepth 100000
set_option maxHeartbeats 16000000
section
theorem Znw (b off m kc : Nat) (w : World) : (Instr.slice 29 (.slice (some ⟨b, off, none⟩) (m + 1) kc) (some (.int .i64 1)) none none).run Tryz.prog w = .ok (.slice (Zj9 b off kc) m (kc - 1)) w := by
 have ht : Tryz.prog.underlying 29 = some (.slice (Tryz.prog.elem 29)) := by simp [Program.elem, Tryz.underlying29]
 have he : Tryz.prog.elem 29 = 31 := by simp [Program.elem, Tryz.underlying29]
 have hz : (sizeOf 31).run Tryz.prog w = .ok 6 w := by
  obtain ⟨i0, hi, hz0, hz1, hz2⟩ := Zb1 Znf
  simp [sizeOf, typeInfo, hi, hz1]
 rw [run_slice_l w 29 _ _ _ ht .i64 _ (by omega) (by omega), he, hz]
 simp only [Result.andThen, sliced, Zj9]
 by_cases h : kc = 1
 ·subst h
  simp
 simp [h, Za7]
variable {W : List Tk} {d m n0 q : Nat} {w : World}
theorem wp_ap31g (w : World) {o : Oper} {a : Act} {K : Act → World → Prop} {Q : Exit → Act → World → Prop} (s x : Operand) (ho : o.op = .call { callee := .builtin .append, args := #[s, x], argTypes := #[29, 29] }) {A : Nat → Prop} {v : Value} {xs : List Nd} (hs : a.eval s = v) (q1 : Zbu w A v xs) {xa : Option Addr} {c : Nat} (hx : a.eval x = .slice xa m c) {ys : List Nd} {gl : List Value} (hm : m = ys.length) (sl : SlF (fun b => A b ∧ ∀ g, v.ownBlock = some g → b ≠ g) w xa ys.length c gl) (hk : KsF (fun b => A b ∧ ∀ g, v.ownBlock = some g → b ≠ g) w ys gl) (hn : xs.length + ys.length ≤ 1000000) (hbase : ∀ b, w.heap.size ≤ b → A b)
  (h : ∀ (va : Option Addr) (vc : Nat) w', Zbu w' A (.slice va (xs.length + ys.length) vc) (xs ++ ys) → Kp v w w' → (∀ g, (Value.slice va (xs.length + ys.length) vc).ownBlock = some g → v.ownBlock = some g ∨ w.heap.size ≤ g) → K (a.put o.dst (.slice va (xs.length + ys.length) vc)) w') : o.wp Tryz.prog a w K Q := by
 subst hm
 obtain ⟨v', w', hr, r1, r2, r3⟩ := Zho w o.type q1 sl hk hn hbase
 obtain ⟨va, vc, rfl⟩ := r1.shape
 have hl : (xs ++ ys).length = xs.length + ys.length := by simp
 rw [hl] at r1 r3 hr
 exact Lib.wp_append_run w s x 29 29 ho _ _ hs hx _ w' hr (h va vc w' r1 r2 r3)
theorem key_det {y Y x : Nd} {k K j : Nat} {ek : Int} {tk : Nat} (h : KeyR W n0 d y k ek tk) (r1 : Zaa W (.prim n0 d) (.ok x j)) (r2 : Zaa W (.keyOf j d x) (.ok Y K)) : y = Y ∧ k = K ∧ ek = 0 ∧ tk = 0 := by
 rcases h with ⟨h1, h2, x', j', g1, g2⟩ | ⟨_, m, _, g | ⟨x', j', g1, g2⟩⟩
 ·have e := g1.det r1
  simp only [Rs.ok.injEq] at e
  obtain ⟨rfl, rfl⟩ := e
  have e := r2.det g2
  simp only [Rs.ok.injEq] at e
  exact ⟨e.1.symm, e.2.symm, h1, h2⟩
 ·have e := g.det r1
  cases e
 have e := g1.det r1
 simp only [Rs.ok.injEq] at e
 obtain ⟨rfl, rfl⟩ := e
 have e := g2.det r2
 cases e
theorem Zca.str {A : Nat → Prop} {x : Nd} (h : Zca w A q x) : Zca w (fun b => A b ∧ b < w.heap.size) q x := by
 obtain ⟨na, nc, ka, kc, E, sn, rk⟩ := h
 exact ⟨na, nc, ka, kc, E, sn.imp (fun b hb hA => ⟨⟨⟨hA.1, hb⟩, hA.2⟩, rfl⟩), rk.str⟩
def Zmt (w : World) (q m : Nat) : Prop := ∀ v, w.cell? ⟨q, 5, none⟩ = some v → ∀ g, v.ownBlock = some g → m ≤ g
theorem Zmt.keep {w' : World} (h : Zmt w q m) (hk : w'.heap[q]? = w.heap[q]?) : Zmt w' q m := fun v hc => h v ((World.cell?_of_block (a := ⟨q, 5, none⟩) hk).symm.trans hc)
theorem Zmt.put {V : Value} {u0 u1 u2 u3 u4 u5 : Value} (E : w.heap[q]? = some (.cells #[u0, u1, u2, u3, u4, u5] 31)) (h : ∀ g, V.ownBlock = some g → m ≤ g) : Zmt (w.setCell ⟨q, 5, none⟩ V) q m := by
 intro v hc
 have e1 := heap_setCell_same w q 5 _ _ V E
 have h5 : (w.setCell ⟨q, 5, none⟩ V).cell? ⟨q, 5, none⟩ = some V := by simp [World.cell?, e1]
 rw [h5] at hc
 simp only [Option.some.injEq] at hc
 subst hc
 exact h
theorem ConM.v {i p : Nat} (h : ConM W i d) : ConV 104 p W i d 0 0 (Zo0 W i d) := by
 intro w hp
 refine (h w p hp).mono ?_
 rintro e w' ⟨z, u, iz, ez, tz, h1, h2, _, h3, h4, h5, h6⟩
 exact ⟨z, u, iz, ez, tz, h1, h2, h3, h4, h5, h6⟩
theorem pr_kp' {w' : World} {p : Nat} {i t : Nat} {e : Int} {v : Value} (h : Pr w p W i d e t) (K : Kp v w w') (hv : ∀ g, v.ownBlock = some g → p < g) : Pr w' p W i d e t :=
 h.same (fun b hb => K.block b (by have := h.lt; omega) (fun e => by have := hv b e; omega)) (K.block p h.lt (fun e => by have := hv p e; omega))
def dcaV (k0 : Nd) (q5 q6 b0 off kl kc g vc : Nat) (sa ta va : Option Addr) (sc tc : Nat) (j : Nat) : Value :=
 ([.pointer (some ⟨q6, 5, none⟩),
  .slice none 0 0,
  .pointer (some ⟨q5, 5, none⟩),
  .slice (some ⟨b0, off, none⟩) kl kc,
  .pointer (some ⟨b0, off, none⟩),
  .agg #[.int .i64 k0.kind, .string (strOfNums k0.text), .int .i64 (k0.pos : Int), .int .i64 (k0.n : Int), .slice sa k0.names.length sc, .slice ta k0.kids.length tc],
  .slice (some ⟨g, 0, none⟩) 1 1,
  .slice va 1 vc,
  .pointer (some ⟨q6, 5, none⟩)] : List Value).getD j undef
def dcbV (q5 q7 b0 off m kc vc : Nat) (va : Option Addr) (j : Nat) : Value :=
 ([.pointer (some ⟨q7, 5, none⟩),
  .slice none 0 0,
  .pointer (some ⟨q5, 5, none⟩),
  .slice (some ⟨b0, off, none⟩) (m + 1) kc,
  .slice (Zj9 b0 off kc) m (kc - 1),
  .slice va m vc,
  .pointer (some ⟨q7, 5, none⟩)] : List Value).getD j undef
def dccV (x y : Nd) (p q4 : Nat) (pa ma la va : Option Addr) (pc mc lc vc g : Nat) (j : Nat) : Value :=
 ([.pointer (some ⟨q4, 5, none⟩),
  .slice pa x.kids.length pc,
  .pointer (some ⟨p, 0, none⟩),
  .agg #[.int .i64 y.kind, .string (strOfNums y.text), .int .i64 (y.pos : Int), .int .i64 (y.n : Int), .slice ma y.names.length mc, .slice la y.kids.length lc],
  .slice (some ⟨g, 0, none⟩) 1 1,
  .slice va (x.kids.length + 1) vc,
  .pointer (some ⟨q4, 5, none⟩)] : List Value).getD j undef
theorem Zom {E : Nat} (S : Src W E) (hi : n0 ≤ E) (H : ConKy W n0 d) (HM : ∀ j, n0 < j → j ≤ E → ConM W j d) {Y X : Nd} {K J : Nat} (r1 : Zaa W (.prim n0 d) (.ok X J)) (r2 : Zaa W (.keyOf J d X) (.ok Y K)) (h15 : kdW W K = 15) (hJK : J ≠ K) (h7 : Y.kind = 7) (hw : kdW W n0 = 8 → whF W K (K - n0) n0 0 = false) : Zdk 81 W (.casc n0 d) n0 d := by
 intro w p h
 have hpl := h.lt
 go_enter Tryz.func81, Tryz.ntmps81
 go_wp2_with (refine Zdn _ rfl rfl ?_)
 intro q w1 E1 hq B1
 replace h := h.bel B1
 have hl1 := lt_of_block E1
 go_wp2_with fail
 refine (Zad h (S.lt hi) 8).mono ?_
 rintro e w2 ⟨rfl, B2⟩
 replace h := h.bel B2
 replace E1 := (B2.block _ hl1).trans E1
 have C := Zab B1 zo B2
 have hs12 := B2.size
 clear B1 B2
 obtain ⟨b0, off0, cc, c0, c1, c2, c3, c4, cf⟩ := h.cells
 go_wp2_with fail
 clear c0 c1 c2 c3 c4 cf
 refine (H w2 p h).mono ?_
 rintro e w3 ⟨y, v, k, ek, tk, rfl, hv, h3, hk, F3, hK⟩
 replace E1 := (F3.block _ (lt_of_block E1) (by omega)).trans E1
 have F := (Fr.of_below C).thn zo F3
 have hs23 := F3.size
 have hl13 := lt_of_block E1
 clear F3 C h
 obtain ⟨na, nc, ka, kc, _, rfl, _⟩ := NdV.parts hv
 go_wp2_with (refine Zb5 rfl rfl rfl 5 rfl rfl rfl (fun _ => rfl) (fun _ => rfl) ?_)
 intro q5 w4 E4 hq5 B4
 replace h3 := h3.bel B4
 replace E1 := (B4.block _ hl13).trans E1
 replace hv := hv.bel B4
 replace F := F.thn zo (Fr.of_below B4)
 have hs34 := B4.size
 clear B4
 obtain ⟨eY, eK, rfl, rfl⟩ := key_det hK r1 r2
 subst eY eK
 have hjk : J ≠ k := hJK
 have hadv0 := r1.adv S.ends
 simp only [Adv, Qy.place, Qy.takes, Qy.asks] at hadv0
 have hadv1 := r2.adv S.ends
 simp only [Adv, Qy.place, Qy.takes, Qy.asks] at hadv1
 have hj0 := hadv0
 have hkE : k ≤ E := by
  have := S.ends.len
  omega
 have hnk : n0 < k := by
  rcases Nat.lt_or_ge n0 E with h | h
  ·have := hadv0 (by omega); have := hadv1 (by omega); omega
  obtain rfl : n0 = E := by omega
  have := hadv0 (by omega); have := hadv1 (by omega); omega
 have hnk' : n0 ≤ k := Nat.le_of_lt hnk
 have hk5 : k ≤ 5000 := by have := S.small; omega
 have hne := Zi2 r2 (fun e => hjk e.symm)
 clear hK hadv0 hadv1 hj0
 go_wp2_with fail
 refine (Zad h3 hk 15).mono ?_
 rintro e w5 ⟨rfl, B5⟩
 rw [show (kdW W k == 15) = true by simp [h15]]
 replace h3 := h3.bel B5
 replace E1 := (B5.block _ (lt_of_block E1)).trans E1
 replace E4 := (B5.block _ (lt_of_block E4)).trans E4
 replace hv := hv.bel B5
 replace F := F.thn zo (Fr.of_below B5)
 have hs45 := B5.size
 clear B5
 have h7b : (y.kind != 7) = false := by simp [h7]
 go_upto_region 6 with fail
 go_cut [3, 41] from 9 to 41 (fun _ v wx => v = .bool false ∧ wx = w5)
 case first =>
  obtain ⟨z0, z1, z2, z3, z4, z5, _⟩ := Zac E4
  by_cases h8 : kdW W n0 = 8
  ·rw [show (kdW W n0 == 8) = true by simp [h8]]
   obtain ⟨b, off, cc, c0, c1, hkw⟩ := h3.words
   have k0 := hkw n0 (by omega)
   rw [h8] at k0
   have hnI : (n0 : Int) < (W.length : Int) := by omega
   have hn0 : (0 : Int) ≤ (n0 : Int) := by omega
   clear hkw
   go_wp2_with fail
   refine (Zk0 h3 hk hnk' hk5).mono ?_
   rintro e w7 ⟨rfl, e7⟩
   rw [hw h8]
   subst e7
   go_wp2
   go_meet
   case rel => exact ⟨rfl, rfl⟩
  rw [show (kdW W n0 == 8) = false by simp [h8]]
  go_wp2
  go_meet
  case rel => exact ⟨rfl, rfl⟩
 case rest =>
 obtain ⟨rfl, ew⟩ := hcut
 subst ew
 try generalize w5 = w7 at *
 try generalize wc = w7 at *
 obtain ⟨k0, kt, hyk0⟩ : ∃ k0 kt, y.kids = k0 :: kt := by
  cases hq0 : y.kids with
  | nil => exact absurd hq0 hne
  | cons a b => exact ⟨a, b, rfl⟩
 have hyk : Hid (y.kids = k0 :: kt) := hyk0
 obtain ⟨na', nc', ka', kc', fl, eP, _, sk, kf, _, hyl, hyt⟩ := NdV.parts hv
 simp only [Value.agg.injEq, Array.mk.injEq, List.cons.injEq, Value.slice.injEq, and_true, true_and] at eP
 obtain ⟨⟨rfl, rfl⟩, rfl, rfl⟩ := eP
 have hlen0 := kf.len
 obtain ⟨x0, x1, x2, x3, x4, x5, hN0, hf0, hf1, hf2, hf3, hf4, hf5⟩ := kf.at_ 0 k0 (by rw [hyk0]; rfl)
 obtain ⟨b1, off1, eb, hAb, hcell⟩ := sk.cells (by rw [hlen0, hyk0, List.length_cons]; omega)
 obtain rfl := eb
 obtain ⟨m, hm⟩ : ∃ m, Hid (y.kids.length = m + 1 ∧ kt.length = m) := ⟨kt.length, by rw [hyk0]; rfl, rfl⟩
 have hrm := sk.room
 have hmst := sk.most
 rw [hm.out.1] at E4 hrm hyl sk
 have hsl0 : SlF (fun b => w2.heap.size ≤ b) w7 (Zj9 b1 off1 kc) m (kc - 1) (fl.drop 6) := by
  refine ⟨by omega, by omega, fun e => ?_, fun h0 => ?_⟩
  ·unfold Zj9 at e
   split at e <;> simp at e
  have hl6 : fl.length = (m + 1) * 6 := by rw [hlen0, hm.out.1]
  rw [List.length_drop] at h0
  have hne1 : ¬ kc = 1 := by omega
  refine ⟨b1, off1 + 6, by unfold Zj9; rw [if_neg hne1], hAb, fun j u hj => ?_⟩
  rw [List.getElem?_drop] at hj
  have := hcell (6 + j) u hj
  rwa [← Nat.add_assoc] at this
 have hkt0 : KsF (fun b => w2.heap.size ≤ b) w7 kt (fl.drop 6) := by
  rw [hyk0] at kf
  simp only [KsF] at kf
  obtain ⟨_, _, _, _, _, _, r, rfl, _, h2⟩ := kf
  exact h2
 have hsl : SlF (fun b => w2.heap.size ≤ b ∧ b < w7.heap.size) w7 (Zj9 b1 off1 kc) m (kc - 1) (fl.drop 6) := hsl0.imp (fun b hb hA => ⟨⟨hA, hb⟩, rfl⟩)
 have hkt' : KsF (fun b => w2.heap.size ≤ b ∧ b < w7.heap.size) w7 kt (fl.drop 6) := KsF.imp (fun b hb hA => ⟨⟨hA, hb⟩, rfl⟩) _ _ hkt0
 replace hN0 := hN0.imp (A' := fun b => w2.heap.size ≤ b ∧ b < w7.heap.size) (w' := w7) (fun b hb hA => ⟨⟨hA, hb⟩, rfl⟩) _ _
 obtain ⟨sa, sc, ta, tc, _, eP, _⟩ := NdV.parts hN0
 simp only [Value.agg.injEq, Array.mk.injEq, List.cons.injEq, and_true] at eP
 obtain ⟨rfl, rfl, rfl, rfl, rfl, rfl⟩ := eP
 have hk0 := hcell 0 _ hf0
 have hk1 := hcell 1 _ hf1
 have hk2 := hcell 2 _ hf2
 have hk3 := hcell 3 _ hf3
 have hk4 := hcell 4 _ hf4
 have hk5' := hcell 5 _ hf5
 have hrun := Znw b1 off1 m kc
 have hmk : m ≤ 100000 := by omega
 rw [show m = kt.length from hm.out.2.symm] at hsl
 obtain ⟨kl, hkl'⟩ : ∃ kl, Hid (m + 1 = kl) := ⟨_, rfl⟩
 rw [hkl'.out] at E4
 have hkl0 : (0 : Int) < (kl : Int) := by have := hkl'.out; omega
 have hklne : ¬ kl = 0 := by omega
 clear hcell hf0 hf1 hf2 hf3 hf4 hf5 hsl0 hkt0 sk kf hlen0 hyk0 hv
 have hl57 := lt_of_block E4
 obtain ⟨z0, z1, z2, z3, z4, z5, _⟩ := Zac E4
 go_wp2_with (refine Zb5 rfl rfl rfl 6 rfl rfl rfl (fun _ => rfl) (fun _ => rfl) ?_)
 intro q6 w8 E6 hq6 B8
 have hl8 := lt_of_block E6
 have hs8 := B8.size
 replace h3 := h3.bel B8
 replace E1 := (B8.block _ (lt_of_block E1)).trans E1
 replace E4 := (B8.block _ (lt_of_block E4)).trans E4
 replace F := F.thn zo (Fr.of_below B8)
 replace hsl := hsl.imp (A' := fun b => w2.heap.size ≤ b ∧ b < w7.heap.size) (fun b hb' hA => ⟨hA, B8.block b hb'⟩)
 replace hkt' := KsF.imp (A' := fun b => w2.heap.size ≤ b ∧ b < w7.heap.size) (fun b hb' hA => ⟨hA, B8.block b hb'⟩) _ _ hkt'
 replace hN0 := hN0.imp (A' := fun b => w2.heap.size ≤ b ∧ b < w7.heap.size) (fun b hb' hA => ⟨hA, B8.block b hb'⟩) _ _
 replace hk0 := (B8.cell (p := ⟨b1, off1 + 0, none⟩) (block_lt_of_cell hk0)).trans hk0
 replace hk1 := (B8.cell (p := ⟨b1, off1 + 1, none⟩) (block_lt_of_cell hk1)).trans hk1
 replace hk2 := (B8.cell (p := ⟨b1, off1 + 2, none⟩) (block_lt_of_cell hk2)).trans hk2
 replace hk3 := (B8.cell (p := ⟨b1, off1 + 3, none⟩) (block_lt_of_cell hk3)).trans hk3
 replace hk4 := (B8.cell (p := ⟨b1, off1 + 4, none⟩) (block_lt_of_cell hk4)).trans hk4
 replace hk5' := (B8.cell (p := ⟨b1, off1 + 5, none⟩) (block_lt_of_cell hk5')).trans hk5'
 have hs2w : w.heap.size ≤ w2.heap.size := by omega
 have hp2 : p < w2.heap.size := by omega
 have hq2 : q < w2.heap.size := by omega
 clear z0 z1 z2 z3 z4 z5 B8
 go_wp2_with fail
 refine Zah fun A hA => ?_
 have hsz : A.tmps.size = 87 := by rw [hA]; rfl
 have s5 : A.tmps[5]? = some (.pointer (some ⟨q5, 0, none⟩)) := by rw [hA]; rfl
 have s6 : A.tmps[6]? = some (.pointer (some ⟨q6, 0, none⟩)) := by rw [hA]; rfl
 refine zR1 (fun A D a w' => ∃ (l : List Value) (va : Option Addr) (vc : Nat) (g : Nat), a = Zaj A 48 l ∧ l.length = 9 ∧ (∀ j, j < 9 → D j → l[j]? = some (dcaV k0 q5 q6 b1 off1 kl kc g vc sa ta va sc tc j)) ∧ (D 9 ∨ Below w8.heap.size w8 w') ∧ (D 9 → ∃ w9, Below w8.heap.size w8 w9 ∧ (Zbu w9 (fun b => w2.heap.size ≤ b ∧ b ≠ q6) (.slice va 1 vc) [k0] ∧ ∀ g, (Value.slice va 1 vc).ownBlock = some g → w8.heap.size ≤ g) ∧ w' = w9.setCell ⟨q6, 5, none⟩ (.slice va 1 vc)) ∧ (D 6 → ¬ D 7 → (w'.heap[g]? = some (.cells #[.int .i64 k0.kind, .string (strOfNums k0.text), .int .i64 (k0.pos : Int), .int .i64 (k0.n : Int), .slice sa k0.names.length sc, .slice ta k0.kids.length tc] 31) ∧ w8.heap.size ≤ g)) ∧ (D 7 → ¬ D 9 → (Zbu w' (fun b => w2.heap.size ≤ b ∧ b ≠ q6) (.slice va 1 vc) [k0] ∧ ∀ g, (Value.slice va 1 vc).ownBlock = some g → w8.heap.size ≤ g))) ?start ?step ?done
 case start => exact ⟨_, none, 0, 0, zS 48 9 hsz, zG 48 9 hsz, zK, .inr ((Below.refl _ _).drew), zf, zF, zF⟩
 case step =>
  clear hA
  intro i o ho D a w' hI hn hcl hd
  obtain ⟨l, va, vc, g, ha, Lh, hl, hB, hQ, hG, hY⟩ := hI
  match i, ho with
  | 0, ho =>
   cases zq ho
   have ev : a.tmps[6]? = some (.pointer (some ⟨q6, 0, none⟩)) := zu 6 ha Lh hsz s6
   exact zx (.pointer (some ⟨q6, 5, none⟩)) (by simp [execOp, ev, go_sem]) ⟨_, va, vc, g, zp 0 ha Lh hsz, zh Lh, zk Lh hl, zl hB, zr hQ, zs hG, zs hY⟩
  | 1, ho =>
   cases zq ho
   have ev : a.tmps[48]? = some (.pointer (some ⟨q6, 5, none⟩)) := zv ha hsz Lh hl 0 hd
   have hb := hB.resolve_left (fun h => hn (zc hcl 7 1 rfl (zc hcl 9 7 rfl h)))
   obtain ⟨z0, z1, z2, z3, z4, z5, _⟩ := Zac ((hb.block _ (lt_of_block E6)).trans E6)
   exact zx (.slice none 0 0) (by simp [execOp, ev, go_sem, z5]) ⟨_, va, vc, g, zp 1 ha Lh hsz, zh Lh, zk Lh hl, zl hB, zr hQ, zs hG, zs hY⟩
  | 2, ho =>
   cases zq ho
   have ev : a.tmps[5]? = some (.pointer (some ⟨q5, 0, none⟩)) := zu 5 ha Lh hsz s5
   exact zx (.pointer (some ⟨q5, 5, none⟩)) (by simp [execOp, ev, go_sem]) ⟨_, va, vc, g, zp 2 ha Lh hsz, zh Lh, zk Lh hl, zl hB, zr hQ, zs hG, zs hY⟩
  | 3, ho =>
   cases zq ho
   have ev : a.tmps[50]? = some (.pointer (some ⟨q5, 5, none⟩)) := zv ha hsz Lh hl 2 hd
   have hb := hB.resolve_left (fun h => hn (zc hcl 4 3 rfl (zc hcl 5 4 rfl (zc hcl 6 5 rfl (zc hcl 7 6 rfl (zc hcl 9 7 rfl h))))))
   obtain ⟨z0, z1, z2, z3, z4, z5, _⟩ := Zac ((hb.block _ (lt_of_block E4)).trans E4)
   exact zx (.slice (some ⟨b1, off1, none⟩) kl kc) (by simp [execOp, ev, go_sem, z5]) ⟨_, va, vc, g, zp 3 ha Lh hsz, zh Lh, zk Lh hl, zl hB, zr hQ, zs hG, zs hY⟩
  | 4, ho =>
   cases zq ho
   have ev : a.tmps[51]? = some (.slice (some ⟨b1, off1, none⟩) kl kc) := zv ha hsz Lh hl 3 hd
   exact zx (.pointer (some ⟨b1, off1, none⟩)) (by simp [execOp, ev, go_sem, hklne, Za7]) ⟨_, va, vc, g, zp 4 ha Lh hsz, zh Lh, zk Lh hl, zl hB, zr hQ, zs hG, zs hY⟩
  | 5, ho =>
   cases zq ho
   have ev : a.tmps[52]? = some (.pointer (some ⟨b1, off1, none⟩)) := zv ha hsz Lh hl 4 hd
   have hb := hB.resolve_left (fun h => hn (zc hcl 6 5 rfl (zc hcl 7 6 rfl (zc hcl 9 7 rfl h))))
   have c0 := (hb.cell (p := ⟨b1, off1 + 0, none⟩) (block_lt_of_cell hk0)).trans hk0
   have c1 := (hb.cell (p := ⟨b1, off1 + 1, none⟩) (block_lt_of_cell hk1)).trans hk1
   have c2 := (hb.cell (p := ⟨b1, off1 + 2, none⟩) (block_lt_of_cell hk2)).trans hk2
   have c3 := (hb.cell (p := ⟨b1, off1 + 3, none⟩) (block_lt_of_cell hk3)).trans hk3
   have c4 := (hb.cell (p := ⟨b1, off1 + 4, none⟩) (block_lt_of_cell hk4)).trans hk4
   have c5 := (hb.cell (p := ⟨b1, off1 + 5, none⟩) (block_lt_of_cell hk5')).trans hk5'
   rw [Nat.add_zero] at c0
   exact zx (.agg #[.int .i64 k0.kind, .string (strOfNums k0.text), .int .i64 (k0.pos : Int), .int .i64 (k0.n : Int), .slice sa k0.names.length sc, .slice ta k0.kids.length tc]) (by simp [execOp, ev, go_sem, c0, c1, c2, c3, c4, c5]) ⟨_, va, vc, g, zp 5 ha Lh hsz, zh Lh, zk Lh hl, zl hB, zr hQ, zs hG, zs hY⟩
  | 6, ho =>
   cases zq ho
   have ev : a.tmps[53]? = some (.agg #[.int .i64 k0.kind, .string (strOfNums k0.text), .int .i64 (k0.pos : Int), .int .i64 (k0.n : Int), .slice sa k0.names.length sc, .slice ta k0.kids.length tc]) := zv ha hsz Lh hl 5 hd
   have hb := hB.resolve_left (fun h => hn (zc hcl 7 6 rfl (zc hcl 9 7 rfl h)))
   refine Zeg w' _ rfl _ _ _ _ _ _ _ _ _ _ (by simpa [Act.eval] using Zav ev) ?_
   exact ⟨_, va, vc, w'.heap.size, zp 6 ha Lh hsz, zh Lh, Zai (val' := dcaV k0 q5 q6 b1 off1 kl kc w'.heap.size vc sa ta va sc tc) Lh (by decide) hl (fun j hj hne => match j, hj, hne with | 0, _, _ => rfl | 1, _, _ => rfl | 2, _, _ => rfl | 3, _, _ => rfl | 4, _, _ => rfl | 5, _, _ => rfl | 6, _, hne => absurd rfl hne | 7, _, _ => rfl | 8, _, _ => rfl | j + 9, _, _ => rfl), .inr (hb.trans (Below.mono Zbc hb.size)), za (fun h => hn (zc hcl 7 6 rfl (zc hcl 9 7 rfl h))), fun _ _ => ⟨Zc0 w' _, hb.size⟩, zb (fun h => hn (zc hcl 7 6 rfl h))⟩
  | 7, ho =>
   cases zq ho
   have ev : a.tmps[49]? = some (.slice none 0 0) := zv ha hsz Lh hl 1 hd
   have ev' : a.tmps[54]? = some (.slice (some ⟨g, 0, none⟩) 1 1) := zv ha hsz Lh hl 6 hd
   have hb := hB.resolve_left (fun h => hn (zc hcl 9 7 rfl h))
   have G4 := hG (zd hd 6) hn
   have hN7 := hN0.imp (fun b hb' hA => ⟨hA, hb.block b hb'⟩) _ _
   have hs' := hb.size
   refine Zeh (A := fun b => w2.heap.size ≤ b ∧ b ≠ q6) (xs := []) w' _ _ rfl (by simpa [Act.eval] using Zav ev) (by simpa [Act.eval] using Zav ev') (Zbu.nil _ _) G4.1 hN7 (fun b hb' hh => ⟨⟨by rcases hh with h | h <;> omega, by rcases hh with h | h <;> omega⟩, fun g hg => by simp [Value.ownBlock] at hg⟩) (by simp) (fun b hb' => ⟨by omega, by omega⟩) ?_
   intro va' vc' w9 R9 K9 pl9
   have hpl9 : ∀ g, (Value.slice va' 1 vc').ownBlock = some g → w8.heap.size ≤ g := fun g' hg' => (pl9 g' hg').elim (fun h => absurd h (by simp [Value.ownBlock])) (fun h => Nat.le_trans hs' h)
   exact ⟨_, va', vc', g, zp 7 ha Lh hsz, zh Lh, Zai (val' := dcaV k0 q5 q6 b1 off1 kl kc g vc' sa ta va' sc tc) Lh (by decide) hl (fun j hj hne => match j, hj, hne with | 0, _, _ => rfl | 1, _, _ => rfl | 2, _, _ => rfl | 3, _, _ => rfl | 4, _, _ => rfl | 5, _, _ => rfl | 6, _, _ => rfl | 7, _, hne => absurd rfl hne | 8, _, _ => rfl | j + 9, _, _ => rfl), .inr (hb.trans ((K9.below (B := w8.heap.size) hs' (fun g hg => by simp [Value.ownBlock] at hg)))), za (fun h => hn (zc hcl 9 7 rfl h)), zi, fun _ _ => ⟨R9, hpl9⟩⟩
  | 8, ho =>
   cases zq ho
   have ev : a.tmps[6]? = some (.pointer (some ⟨q6, 0, none⟩)) := zu 6 ha Lh hsz s6
   exact zx (.pointer (some ⟨q6, 5, none⟩)) (by simp [execOp, ev, go_sem]) ⟨_, va, vc, g, zp 8 ha Lh hsz, zh Lh, zk Lh hl, zl hB, zr hQ, zs hG, zs hY⟩
  | 9, ho =>
   cases zq ho
   have ev : a.tmps[56]? = some (.pointer (some ⟨q6, 5, none⟩)) := zv ha hsz Lh hl 8 hd
   have ev' : a.tmps[55]? = some (.slice va 1 vc) := zv ha hsz Lh hl 7 hd
   have hb := hB.resolve_left hn
   have Y := hY (zd hd 7) hn
   obtain ⟨z0, z1, z2, z3, z4, z5, zf⟩ := Zac ((hb.block _ (lt_of_block E6)).trans E6)
   have zf5 := zf 5
   refine Zbj (w' := w'.setCell ⟨q6, 5, none⟩ (.slice va 1 vc)) (by simp [execOp, Act.eval, ev, ev', go_sem, z5, zf5]) ?_
   exact ⟨l, va, vc, g, ha, Lh, zJ hl, .inl (.inl rfl), fun _ => ⟨w', hb, Y, rfl⟩, zj (zd hd 7), zi⟩
  | i + 10, ho => simp at ho
 case done =>
  rintro D a w' ⟨l, va, vc, g, ha, Lh, hl, hB, hQ, hG, hY⟩ hall
  obtain ⟨v0, v1, v2, v3, v4, v5, v6, v7, v8, rfl⟩ := zL9 Lh
  obtain ⟨w9, B9, ⟨R9, hpl9⟩, ew⟩ := hQ (hall 9 (by decide))
  subst hA
  have hfr : a = _ := ha
  rw [hfr]
  clear hfr ha
  simp only [Zaj, yG, yH]
  clear hl hB hG hY hQ hall
  have E6' := (B9.block _ (lt_of_block E6)).trans E6
  have S9 := St.cell w9 q6 5 (.slice va 1 vc)
  have K9 : Zca (w9.setCell ⟨q6, 5, none⟩ (.slice va 1 vc)) (fun b => w2.heap.size ≤ b ∧ b ≠ q6) q6 (Nd.kid (.mk 8 [] y.pos 0 [] []) k0) := Zca.put2 (x := .mk 8 [] y.pos 0 [] []) rfl (na := none) (nc := 0) (ka := none) (kc := 0) E6' ⟨Nat.le_refl _, by decide, fun _ => rfl⟩ R9 (by omega)
  have hOw : Zmt (w9.setCell ⟨q6, 5, none⟩ (.slice va 1 vc)) q6 w8.heap.size := Zmt.put E6' hpl9
  replace h3 := (h3.bel B9).st S9 (by omega)
  replace E1 := (S9.block _ (by omega)).trans ((B9.block _ (lt_of_block E1)).trans E1)
  replace E4 := (S9.block _ (by omega)).trans ((B9.block _ (lt_of_block E4)).trans E4)
  have hs9 := B9.size
  have hs9' := Nat.le_of_eq S9.size.symm
  replace F := (F.thn zo (Fr.of_below B9)).trans (Fr.of_below (S9.below (B := w.heap.size) (by omega))) zo
  replace hsl := hsl.imp (A' := fun b => w2.heap.size ≤ b ∧ b < w7.heap.size) (fun b hb' hA => ⟨hA, (S9.block b (by omega)).trans (B9.block b hb')⟩)
  replace hkt' := KsF.imp (A' := fun b => w2.heap.size ≤ b ∧ b < w7.heap.size) (fun b hb' hA => ⟨hA, (S9.block b (by omega)).trans (B9.block b hb')⟩) _ _ hkt'
  rw [← ew] at K9 h3 E1 E4 F hsl hkt' hs9' hOw
  have hl610 := K9.lt
  clear ew S9 B9 R9 E6' hN0 E6 hk0 hk1 hk2 hk3 hk4 hk5'
  generalize w' = w10 at *
  obtain ⟨z0, z1, z2, z3, z4, z5, _⟩ := Zac E4
  go_wp2_with (refine Zb5 rfl rfl rfl 7 rfl rfl rfl (fun _ => rfl) (fun _ => rfl) ?_)
  intro q7 w11 E7 hq7 B11
  have hl7 := lt_of_block E7
  have hs11 := B11.size
  replace h3 := h3.bel B11
  replace E1 := (B11.block _ (lt_of_block E1)).trans E1
  replace E4 := (B11.block _ (lt_of_block E4)).trans E4
  replace F := F.thn zo (Fr.of_below B11)
  have K9l := K9.lt
  replace hOw := hOw.keep (B11.block _ K9l)
  replace K9 := K9.str.bel B11
  replace hsl := hsl.imp (A' := fun b => w2.heap.size ≤ b ∧ b < w7.heap.size) (fun b hb' hA => ⟨hA, B11.block b hb'⟩)
  replace hkt' := KsF.imp (A' := fun b => w2.heap.size ≤ b ∧ b < w7.heap.size) (fun b hb' hA => ⟨hA, B11.block b hb'⟩) _ _ hkt'
  rw [← hkl'.out] at E4
  clear z0 z1 z2 z3 z4 z5 B11
  go_wp2_with fail
  refine Zah fun A hA => ?_
  have hsz : A.tmps.size = 87 := by rw [hA]; rfl
  have s5 : A.tmps[5]? = some (.pointer (some ⟨q5, 0, none⟩)) := by rw [hA]; rfl
  have s7 : A.tmps[7]? = some (.pointer (some ⟨q7, 0, none⟩)) := by rw [hA]; rfl
  refine zR1 (fun A D a w' => ∃ (l : List Value) (va : Option Addr) (vc : Nat), a = Zaj A 62 l ∧ l.length = 7 ∧ (∀ j, j < 7 → D j → l[j]? = some (dcbV q5 q7 b1 off1 m kc vc va j)) ∧ (D 7 ∨ Below w11.heap.size w11 w') ∧ (D 7 → ∃ w9, Below w11.heap.size w11 w9 ∧ Zbu w9 (fun b => (w2.heap.size ≤ b ∧ b < w7.heap.size) ∨ w11.heap.size ≤ b) (.slice va m vc) kt ∧ w' = w9.setCell ⟨q7, 5, none⟩ (.slice va m vc)) ∧ (D 5 → ¬ D 7 → Zbu w' (fun b => (w2.heap.size ≤ b ∧ b < w7.heap.size) ∨ w11.heap.size ≤ b) (.slice va m vc) kt)) ?start ?step ?done
  case start => exact ⟨_, none, 0, zS 62 7 hsz, zG 62 7 hsz, zK, .inr ((Below.refl _ _).drew), zf, zF⟩
  case step =>
   clear hA
   intro i o ho D a w' hI hn hcl hd
   obtain ⟨l, va, vc, ha, Lh, hl, hB, hQ, hY⟩ := hI
   match i, ho with
   | 0, ho =>
    cases zq ho
    have ev : a.tmps[7]? = some (.pointer (some ⟨q7, 0, none⟩)) := zu 7 ha Lh hsz s7
    exact zx (.pointer (some ⟨q7, 5, none⟩)) (by simp [execOp, ev, go_sem]) ⟨_, va, vc, zp 0 ha Lh hsz, zh Lh, zk Lh hl, zl hB, zr hQ, zs hY⟩
   | 1, ho =>
    cases zq ho
    have ev : a.tmps[62]? = some (.pointer (some ⟨q7, 5, none⟩)) := zv ha hsz Lh hl 0 hd
    have hb := hB.resolve_left (fun h => hn (zc hcl 5 1 rfl (zc hcl 7 5 rfl h)))
    obtain ⟨z0, z1, z2, z3, z4, z5, _⟩ := Zac ((hb.block _ (lt_of_block E7)).trans E7)
    exact zx (.slice none 0 0) (by simp [execOp, ev, go_sem, z5]) ⟨_, va, vc, zp 1 ha Lh hsz, zh Lh, zk Lh hl, zl hB, zr hQ, zs hY⟩
   | 2, ho =>
    cases zq ho
    have ev : a.tmps[5]? = some (.pointer (some ⟨q5, 0, none⟩)) := zu 5 ha Lh hsz s5
    exact zx (.pointer (some ⟨q5, 5, none⟩)) (by simp [execOp, ev, go_sem]) ⟨_, va, vc, zp 2 ha Lh hsz, zh Lh, zk Lh hl, zl hB, zr hQ, zs hY⟩
   | 3, ho =>
    cases zq ho
    have ev : a.tmps[64]? = some (.pointer (some ⟨q5, 5, none⟩)) := zv ha hsz Lh hl 2 hd
    have hb := hB.resolve_left (fun h => hn (zc hcl 4 3 rfl (zc hcl 5 4 rfl (zc hcl 7 5 rfl h))))
    obtain ⟨z0, z1, z2, z3, z4, z5, _⟩ := Zac ((hb.block _ (lt_of_block E4)).trans E4)
    exact zx (.slice (some ⟨b1, off1, none⟩) (m + 1) kc) (by simp [execOp, ev, go_sem, z5]) ⟨_, va, vc, zp 3 ha Lh hsz, zh Lh, zk Lh hl, zl hB, zr hQ, zs hY⟩
   | 4, ho =>
    cases zq ho
    have ev : a.tmps[65]? = some (.slice (some ⟨b1, off1, none⟩) (m + 1) kc) := zv ha hsz Lh hl 3 hd
    exact zx (.slice (Zj9 b1 off1 kc) m (kc - 1)) (by simp [execOp, ev, go_sem, hrun]) ⟨_, va, vc, zp 4 ha Lh hsz, zh Lh, zk Lh hl, zl hB, zr hQ, zs hY⟩
   | 5, ho =>
    cases zq ho
    have ev : a.tmps[63]? = some (.slice none 0 0) := zv ha hsz Lh hl 1 hd
    have ev' : a.tmps[66]? = some (.slice (Zj9 b1 off1 kc) m (kc - 1)) := zv ha hsz Lh hl 4 hd
    have hb := hB.resolve_left (fun h => hn (zc hcl 7 5 rfl h))
    have hs' := hb.size
    refine wp_ap31g (A := fun b => (w2.heap.size ≤ b ∧ b < w7.heap.size) ∨ w11.heap.size ≤ b) (xs := []) (ys := kt) w' _ _ rfl (by simpa [Act.eval] using Zav ev) (Zbu.nil _ _) (by simpa [Act.eval] using Zav ev') hm.out.2.symm (hsl.imp (fun b hb' hA => ⟨⟨.inl hA, fun g hg => by simp [Value.ownBlock] at hg⟩, hb.block b hb'⟩)) (KsF.imp (fun b hb' hA => ⟨⟨.inl hA, fun g hg => by simp [Value.ownBlock] at hg⟩, hb.block b hb'⟩) _ _ hkt') (by have := hm.out.2; simp; omega) (fun b hb' => .inr (by omega)) ?_
    intro va' vc' w9 R9 K9 pl9
    rw [show ([] : List Nd).length + kt.length = m by have := hm.out.2; simp; omega] at R9 pl9 ⊢
    exact ⟨_, va', vc', zp 5 ha Lh hsz, zh Lh, Zai (val' := dcbV q5 q7 b1 off1 m kc vc' va') Lh (by decide) hl (fun j hj hne => match j, hj, hne with | 0, _, _ => rfl | 1, _, _ => rfl | 2, _, _ => rfl | 3, _, _ => rfl | 4, _, _ => rfl | 5, _, hne => absurd rfl hne | 6, _, _ => rfl | j + 7, _, _ => rfl), .inr (hb.trans ((K9.below (B := w11.heap.size) hs' (fun g hg => by simp [Value.ownBlock] at hg)))), za (fun h => hn (zc hcl 7 5 rfl h)), fun _ _ => R9⟩
   | 6, ho =>
    cases zq ho
    have ev : a.tmps[7]? = some (.pointer (some ⟨q7, 0, none⟩)) := zu 7 ha Lh hsz s7
    exact zx (.pointer (some ⟨q7, 5, none⟩)) (by simp [execOp, ev, go_sem]) ⟨_, va, vc, zp 6 ha Lh hsz, zh Lh, zk Lh hl, zl hB, zr hQ, zs hY⟩
   | 7, ho =>
    cases zq ho
    have ev : a.tmps[68]? = some (.pointer (some ⟨q7, 5, none⟩)) := zv ha hsz Lh hl 6 hd
    have ev' : a.tmps[67]? = some (.slice va m vc) := zv ha hsz Lh hl 5 hd
    have hb := hB.resolve_left hn
    have Y := hY (zd hd 5) hn
    obtain ⟨z0, z1, z2, z3, z4, z5, zf⟩ := Zac ((hb.block _ (lt_of_block E7)).trans E7)
    have zf5 := zf 5
    refine Zbj (w' := w'.setCell ⟨q7, 5, none⟩ (.slice va m vc)) (by simp [execOp, Act.eval, ev, ev', go_sem, z5, zf5]) ?_
    exact ⟨l, va, vc, ha, Lh, zJ hl, .inl (.inl rfl), fun _ => ⟨w', hb, Y, rfl⟩, zi⟩
   | i + 8, ho => simp at ho
  case done =>
   rintro D a w' ⟨l, va, vc, ha, Lh, hl, hB, hQ, hY⟩ hall
   obtain ⟨v0, v1, v2, v3, v4, v5, v6, rfl⟩ := zL7 Lh
   obtain ⟨w9, B9, R9, ew⟩ := hQ (hall 7 (by decide))
   subst hA
   have hfr : a = _ := ha
   rw [hfr]
   clear hfr ha
   simp only [Zaj, yG, yH]
   clear hl hB hY hQ hall
   have E7' := (B9.block _ (lt_of_block E7)).trans E7
   have S9 := St.cell w9 q7 5 (.slice va m vc)
   have E8 := heap_setCell_same w9 q7 5 _ _ (.slice va m vc) E7'
   simp only [List.setIfInBounds_toArray, List.set_cons_zero, List.set_cons_succ] at E8
   have R10 := R9.keep (w' := w9.setCell ⟨q7, 5, none⟩ (.slice va m vc)) (fun b hb _ => S9.block b (by rcases hb with h | h <;> omega))
   replace h3 := (h3.bel B9).st S9 (by omega)
   replace E1 := (S9.block _ (by omega)).trans ((B9.block _ (lt_of_block E1)).trans E1)
   replace hOw := (hOw.keep (B9.block _ K9.lt)).keep (S9.block q6 (by omega))
   replace K9 := (K9.bel B9).st S9 (by omega) (by omega)
   have hs12 := B9.size
   have hs12' := Nat.le_of_eq S9.size.symm
   replace F := (F.thn zo (Fr.of_below B9)).trans (Fr.of_below (S9.below (B := w.heap.size) (by omega))) zo
   rw [← ew] at K9 h3 E1 E8 F R10 hs12' hOw
   clear ew S9 B9 R9 E7' E4 E7 hsl hkt'
   generalize w' = w12 at *
   have hM : NdV (fun b => (w2.heap.size ≤ b ∧ b < w7.heap.size) ∨ w11.heap.size ≤ b) w12 (Zda y.text y.pos kt) (.agg #[.int .i64 9, .string (strOfNums y.text), .int .i64 (y.pos : Int), .int .i64 0, .slice none 0 0, .slice va m vc]) := by
    obtain ⟨_, fl3, sl3, kf3⟩ := R10.sl
    have hM := NdV.mk_ (A := fun b => (w2.heap.size ≤ b ∧ b < w7.heap.size) ∨ w11.heap.size ≤ b) (w := w12) (k := 9) (t := y.text) (p := y.pos) (n := 0) (l := []) (kids := kt) (na := none) (nc := 0) (SlF.nil _ _) (by rw [hm.out.2]; exact sl3) kf3 (by simp) (by rw [hm.out.2]; omega) hyt
    rw [hm.out.2] at hM
    exact hM
   obtain ⟨x1, hx1⟩ : ∃ x1, Hid (x1 = Nd.kid (.mk 8 [] y.pos 0 [] []) k0) := ⟨_, rfl⟩
   rw [← hx1.out] at K9
   have hx1n : x1.names = [] := by rw [hx1.out]; rfl
   have hx1l : Hid (x1.kids.length = 1) := by show x1.kids.length = 1; rw [hx1.out]; rfl
   have hx1c : x1.kid (Zda y.text y.pos kt) = Zcw y := by
    rw [hx1.out]
    show Nd.mk 8 [] y.pos 0 [] [k0, Zda y.text y.pos kt] = Nd.mk 8 [] y.pos 0 [] [y.kids.headD (.mk 0 [] 0 0 [] []), Zda y.text y.pos y.kids.tail]
    rw [hyk.out]
    rfl
   obtain ⟨oa, oc, pa, pc, Ek, sn, rk⟩ := K9
   have hnc := And.intro sn.room (And.intro sn.most sn.nil0)
   obtain ⟨y0, y1, y2, y3, y4, y5, _⟩ := Zac Ek
   have hpl : ∀ g, (Value.slice pa x1.kids.length pc).ownBlock = some g → w8.heap.size ≤ g := hOw _ y5
   obtain ⟨z0, z1, z2, z3, z4, z5, _⟩ := Zac E8
   go_wp2_with (refine bs31 _ rfl _ rfl _ _ _ _ _ _ _ _ _ _ rfl ?_)
   intro g13 w13 E13 hg13 B13
   have hl6 := lt_of_block Ek
   have hl10 : ∀ b, (Value.slice pa x1.kids.length pc).ownBlock = some b → b < w10.heap.size := fun b hb => (rk.own hb).1.2
   replace rk := rk.mono (A' := fun b => w2.heap.size ≤ b ∧ b ≠ q6) (fun b hb => hb.1)
   replace sn := sn.imp (A' := fun b => (w2.heap.size ≤ b ∧ b ≠ q6) ∧ ∀ g, (Value.slice pa x1.kids.length pc).ownBlock = some g → b ≠ g) (fun b _ hb => ⟨⟨hb.1.1, hb.2⟩, rfl⟩)
   have hko : ∀ b, (Value.slice pa x1.kids.length pc).ownBlock = some b → (w2.heap.size ≤ b ∧ b ≠ q6) ∧ b < w12.heap.size := fun b hb => rk.own hb
   replace Ek := (B13.block _ (lt_of_block Ek)).trans Ek
   replace E1 := (B13.block _ (lt_of_block E1)).trans E1
   have hs13 := B13.size
   replace sn := sn.imp (fun b hb hA => ⟨hA, B13.block b hb⟩)
   replace rk := rk.keep (fun b _ hb => B13.block b hb)
   have hM13 := hM.imp (A' := fun b => ((w2.heap.size ≤ b ∧ b < w7.heap.size) ∨ w11.heap.size ≤ b) ∧ b < w12.heap.size ∧ (w7.heap.size ≤ b → True)) (fun b hb hA => ⟨⟨hA, hb, fun _ => trivial⟩, B13.block b hb⟩) _ _
   replace h3 := h3.bel B13
   replace F := F.thn zo (Fr.of_below B13)
   clear y0 y1 y2 y3 y4 y5 z0 z1 z2 z3 z4 z5 B13 E8 hM R10
   go_wp2_with (at_builtin; refine ap31p _ rfl _ _ rfl rfl rk rfl E13 hM13 ?hA ?hn ?hb ?_)
   case hA =>
    intro b hb hh
    refine ⟨⟨by omega, by omega⟩, fun g' hg' => ?_⟩
    have := hko g' hg'
    have := hpl g' hg'
    have := hl10 g' hg'
    omega
   case hn => rw [hx1l.out]; omega
   case hb => intro b hb; exact ⟨by omega, by omega⟩
   intro va2 vc2 w14 R14 K14 pl14
   obtain ⟨K15, S15⟩ := Zca.put Ek sn R14 K14 pl14 (fun h => h.2 rfl) (fun e => (hko _ e).1.2 rfl)
   have hs14 := K14.size
   have hs15 := Nat.le_of_eq S15.size.symm
   replace h3 := (pr_kp' h3 K14 (fun g' hg' => by have := hko g' hg'; omega)).st S15 (by omega)
   have hZ : Zge (w14.setCell ⟨q6, 5, none⟩ (.slice va2 (x1.kids.length + 1) vc2)) q := ⟨_, _, _, _, _, _, (S15.block q (by omega)).trans ((K14.block q (by omega) (fun e => by have := hko _ e; omega)).trans E1)⟩
   replace F := (F.trans (Fr.of_below (K14.below (B := w.heap.size) (by omega) (fun g' hg' => by have := hko g' hg'; omega))) zo).trans (Fr.of_below (S15.below (B := w.heap.size) (by omega))) zo
   obtain ⟨y0, y1, y2, y3, y4, y5, zf⟩ := Zac ((K14.block q6 (by omega) (fun e => (hko _ e).1.2 rfl)).trans Ek)
   have zf5 := zf 5
   rw [hx1c] at K15
   have hcl : Hid ((Zcw y).kids.length = 2) := rfl
   have hcn : Hid ((Zcw y).names = [] ∧ (Zcw y).kids.length ≤ 5003 ∧ (Zcw y).text = []) := ⟨rfl, by rw [hcl.out]; omega, rfl⟩
   clear S15 K14 R14 pl14 sn rk hM13 E13 E1 Ek
   have hqp6 : q6 ≠ p := by omega
   have hAp6 : ¬ (w2.heap.size ≤ p ∧ p ≠ q6) := by omega
   have hw13 : w2.heap.size ≤ w13.heap.size := by omega
   go_wp2_with fail
   go_loopw [] (fun wr => ∃ (i' : Nat) (x' : Nd) (ei : Int) (ti : Nat), Zca wr (fun b => w2.heap.size ≤ b ∧ b ≠ q6) q6 x' ∧ Zge wr q ∧ Pr wr p W i' d ei ti ∧ Fr p w.heap.size w wr ∧ i' < W.length ∧ w13.heap.size ≤ wr.heap.size ∧ Hid (x'.names = [] ∧ x'.kids.length ≤ 5003 ∧ x'.text = []) ∧ Hid (ei = 0 → ti = 0 ∧ k ≤ i' ∧ x'.kids.length ≤ i' + 2 ∧ ∀ r, Zaa W (.others i' d x') r → Zaa W (.others k d (Zcw y)) r) ∧ Hid (ei ≠ 0 → ∃ j, Zaa W (.others k d (Zcw y)) (.er j ei) ∧ ti = psW W j)) (fun wr => Zi1 E wr p)
   case atStart => exact ⟨k, _, 0, 0, K15, hZ, h3, F, hk, by omega, hcn, fun _ => ⟨rfl, zo, by rw [hcl.out]; omega, fun r hr => hr⟩, fun h => absurd rfl h⟩
   clear K15 hZ h3 F hcn hx1c y0 y1 y2 y3 y4 y5 zf zf5
   obtain ⟨i', x, ei, ti, K, hZ, h, F, hi', hsr, hX, hGG, hD⟩ := hrel
   by_cases hei : ei = 0 ∧ kdW W i' = 15
   ·obtain ⟨rfl, hk15⟩ := hei
    obtain ⟨rfl, hni, hxk, hGr0⟩ := hGG.out rfl
    have hGr : Hid (∀ r, Zaa W (.others i' d x) r → Zaa W (.others k d (Zcw y)) r) := hGr0
    have hxn : x.names = [] := hX.out.1
    have hlt : i' < E := S.ends.lt (by rw [hk15]; decide)
    have hE5 := S.small
    clear hGG hGr0 hD
    go_wp2_with fail
    refine (Zad h hi' 15).mono ?_
    rintro e wI ⟨rfl, B3⟩
    rw [show (kdW W i' == 15) = true by simp [hk15]]
    have hat : Zi1 E wr p = _ := h.mea
    have hsI := B3.size
    replace K := K.bel B3
    replace hZ := hZ.keep (fun hl => B3.block _ hl)
    replace F := F.thn zo (Fr.of_below B3)
    replace h := h.bel B3
    clear B3
    go_wp2_with fail
    refine (Za9 h hi' (by rw [hk15]; decide)).mono ?_
    rintro e wS ⟨rfl, h9, F9⟩
    have hsS := F9.size
    replace K := K.fr F9 hqp6 hAp6
    replace hZ := hZ.keep (fun hl => F9.block q hl (by omega))
    replace F := F.thn zo F9
    clear F9 h
    obtain ⟨oa, oc, pa, pc, Ek, sn, rk⟩ := K
    have hnc := And.intro sn.room (And.intro sn.most sn.nil0)
    have hko2 : ∀ g, (Value.slice pa x.kids.length pc).ownBlock = some g → (w2.heap.size ≤ g ∧ g ≠ q6) ∧ g < wS.heap.size := fun g hg => rk.own hg
    have hko : ∀ g, (Value.slice pa x.kids.length pc).ownBlock = some g → w2.heap.size ≤ g := fun g hg => (hko2 g hg).1.1
    have hkq : (Value.slice pa x.kids.length pc).ownBlock ≠ some q6 := fun e => (hko2 _ e).1.2 rfl
    have hwS : w2.heap.size ≤ wS.heap.size := by omega
    have hpB : p < w2.heap.size := by omega
    have hqp4 : q6 ≠ p := by omega
    have hAp : ¬ (w2.heap.size ≤ p ∧ p ≠ q6) := by omega
    have hq4S : q6 < wS.heap.size := lt_of_block Ek
    have hA6 : ∀ b, wS.heap.size ≤ b → (w2.heap.size ≤ b ∧ b ≠ q6) := fun b hb => ⟨by omega, by omega⟩
    have hAb : ∀ b g, wS.heap.size ≤ g → (wS.heap.size ≤ b ∨ b = g) → ((w2.heap.size ≤ b ∧ b ≠ q6) ∧ ∀ q, (Value.slice pa x.kids.length pc).ownBlock = some q → b ≠ q) := fun b g hg hb => ⟨⟨by omega, by omega⟩, fun q hq => by have := hko2 q hq; omega⟩
    have hxl : x.kids.length ≤ 500000 := by omega
    have Ekd : wS.drew.heap[q6]? = _ := Ek
    have h6d : Pr wS.drew p W (i' + 1) d 0 0 ∧ Fr p wS.heap.size wS wS.drew := ⟨h9.drewP, Fr.drewF _ _ _⟩
    have rkd : Zbu wS.drew (fun b => w2.heap.size ≤ b ∧ b ≠ q6) (.slice pa x.kids.length pc) x.kids := rk.keep (fun _ _ _ => rfl)
    clear sn rk
    go_wp2_with fail
    refine Zah fun A hA => ?_
    have hsz : A.tmps.size = 87 := by rw [hA]; rfl
    have s0 : A.tmps[0]? = some (.pointer (some ⟨p, 0, none⟩)) := by rw [hA]; rfl
    have s6 : A.tmps[6]? = some (.pointer (some ⟨q6, 0, none⟩)) := by rw [hA]; rfl
    refine zR1 (fun A D a w' => ∃ (l : List Value) (ma : Option Addr) (la : Option Addr) (va : Option Addr) (mc : Nat) (lc : Nat) (vc : Nat) (g : Nat) (yy : Nd) (iz : Nat) (ez : Int) (tz : Nat), a = Zaj A 79 l ∧ l.length = 7 ∧ (∀ j, j < 7 → D j → l[j]? = some (dccV x yy p q6 pa ma la va pc mc lc vc g j)) ∧ (D 7 ∨ w'.heap[q6]? = some (.cells #[.int .i64 x.kind, .string (strOfNums x.text), .int .i64 (x.pos : Int), .int .i64 (x.n : Int), .slice oa x.names.length oc, .slice pa x.kids.length pc] 31)) ∧ (D 3 ∨ (Pr w' p W (i' + 1) d 0 0 ∧ Fr p wS.heap.size wS w')) ∧ (D 5 ∨ Zbu w' (fun b => w2.heap.size ≤ b ∧ b ≠ q6) (.slice pa x.kids.length pc) x.kids) ∧ (D 3 → Zo0 W (i' + 1) d yy iz ez tz ∧ iz < W.length) ∧ (D 7 → ∃ w9, (Zbu w9 (fun b => w2.heap.size ≤ b ∧ b ≠ q6) (.slice va (x.kids.length + 1) vc) (x.kids ++ [yy]) ∧ Pr w9 p W iz d ez tz ∧ Fr p w2.heap.size wS w9 ∧ (∀ g, (Value.slice va (x.kids.length + 1) vc).ownBlock = some g → (Value.slice pa x.kids.length pc).ownBlock = some g ∨ wS.heap.size ≤ g)) ∧ w' = w9.setCell ⟨q6, 5, none⟩ (.slice va (x.kids.length + 1) vc) ∧ w9.heap[q6]? = some (.cells #[.int .i64 x.kind, .string (strOfNums x.text), .int .i64 (x.pos : Int), .int .i64 (x.n : Int), .slice oa x.names.length oc, .slice pa x.kids.length pc] 31)) ∧ (D 3 → ¬ D 4 → NdV (fun b => wS.heap.size ≤ b) w' yy (.agg #[.int .i64 yy.kind, .string (strOfNums yy.text), .int .i64 (yy.pos : Int), .int .i64 (yy.n : Int), .slice ma yy.names.length mc, .slice la yy.kids.length lc]) ∧ Pr w' p W iz d ez tz ∧ Fr p wS.heap.size wS w') ∧ (D 4 → ¬ D 5 → w'.heap[g]? = some (.cells #[.int .i64 yy.kind, .string (strOfNums yy.text), .int .i64 (yy.pos : Int), .int .i64 (yy.n : Int), .slice ma yy.names.length mc, .slice la yy.kids.length lc] 31) ∧ NdV (fun b => wS.heap.size ≤ b) w' yy (.agg #[.int .i64 yy.kind, .string (strOfNums yy.text), .int .i64 (yy.pos : Int), .int .i64 (yy.n : Int), .slice ma yy.names.length mc, .slice la yy.kids.length lc]) ∧ Pr w' p W iz d ez tz ∧ Fr p wS.heap.size wS w' ∧ wS.heap.size ≤ g) ∧ (D 5 → ¬ D 7 → Zbu w' (fun b => w2.heap.size ≤ b ∧ b ≠ q6) (.slice va (x.kids.length + 1) vc) (x.kids ++ [yy]) ∧ Pr w' p W iz d ez tz ∧ Fr p w2.heap.size wS w' ∧ (∀ g, (Value.slice va (x.kids.length + 1) vc).ownBlock = some g → (Value.slice pa x.kids.length pc).ownBlock = some g ∨ wS.heap.size ≤ g))) ?start ?step ?done
    case start => exact ⟨_, none, none, none, 0, 0, 0, 0, zNd, 0, 0, 0, zS 79 7 hsz, zG 79 7 hsz, zK, .inr (Ekd), .inr (h6d), .inr (rkd), zf, zf, zF, zF, zF⟩
    case step =>
     clear hA
     intro i o ho D a w' hI hn hcl hd
     obtain ⟨l, ma, la, va, mc, lc, vc, g, yy, iz, ez, tz, ha, Lh, hl, hE, hN, hK, hM, hQ, hU, hG, hY⟩ := hI
     match i, ho with
     | 0, ho =>
      cases zq ho
      have ev : a.tmps[6]? = some (.pointer (some ⟨q6, 0, none⟩)) := zu 6 ha Lh hsz s6
      exact zx (.pointer (some ⟨q6, 5, none⟩)) (by simp [execOp, ev, go_sem]) ⟨_, ma, la, va, mc, lc, vc, g, yy, iz, ez, tz, zp 0 ha Lh hsz, zh Lh, zk Lh hl, zl hE, zl hN, zl hK, zr hM, zr hQ, zs hU, zs hG, zs hY⟩
     | 1, ho =>
      cases zq ho
      have ev : a.tmps[79]? = some (.pointer (some ⟨q6, 5, none⟩)) := zv ha hsz Lh hl 0 hd
      have e1 := hE.resolve_left (fun h => hn (zc hcl 5 1 rfl (zc hcl 7 5 rfl h)))
      obtain ⟨z0, z1, z2, z3, z4, z5, _⟩ := Zac e1
      exact zx (.slice pa x.kids.length pc) (by simp [execOp, ev, go_sem, z5]) ⟨_, ma, la, va, mc, lc, vc, g, yy, iz, ez, tz, zp 1 ha Lh hsz, zh Lh, zk Lh hl, zl hE, zl hN, zl hK, zr hM, zr hQ, zs hU, zs hG, zs hY⟩
     | 2, ho =>
      cases zq ho
      exact zm (zu 0 ha Lh hsz s0) ⟨_, ma, la, va, mc, lc, vc, g, yy, iz, ez, tz, zp 2 ha Lh hsz, zh Lh, zk Lh hl, zl hE, zl hN, zl hK, zr hM, zr hQ, zs hU, zs hG, zs hY⟩
     | 3, ho =>
      cases zq ho
      have ev : a.tmps[81]? = some (.pointer (some ⟨p, 0, none⟩)) := zv ha hsz Lh hl 2 hd
      have hN0 := hN.resolve_left hn
      have e1 := hE.resolve_left (fun h => hn (zc hcl 4 3 rfl (zc hcl 5 4 rfl (zc hcl 7 5 rfl h))))
      have rk0 := hK.resolve_left (fun h => hn (zc hcl 4 3 rfl (zc hcl 5 4 rfl h)))
      refine Zan (f := 104) (args := #[.pointer (some ⟨p, 0, none⟩)]) (by simp [execOp, ev, go_sem]) ?_
      refine ((HM (i' + 1) (by omega) (by omega)).v w' hN0.1).mono ?_
      rintro e w6 ⟨y', u, iz', ez', tz', rfl, hu, h4, hiz, F4, hM4⟩
      refine ⟨_, rfl, ?_⟩
      obtain ⟨ma', mc', la', lc', _, rfl, _⟩ := NdV.parts hu
      have hsF := F4.size
      have hs60 := hN0.2.size
      exact ⟨_, ma', la', va, mc', lc', vc, g, y', iz', ez', tz', zp 3 ha Lh hsz, zh Lh, Zai (val' := dccV x y' p q6 pa ma' la' va pc mc' lc' vc g) Lh (by decide) hl (fun j hj hne => match j, hj, hne with | 0, _, _ => rfl | 1, _, _ => rfl | 2, _, _ => rfl | 3, _, hne => absurd rfl hne | 4, _, _ => rfl | 5, _, _ => rfl | 6, _, _ => rfl | j + 7, _, _ => rfl), .inr ((F4.block q6 (lt_of_block e1) hqp4).trans e1), .inl (.inl rfl), .inr (rk0.keep (fun b hA hb => F4.block b hb (fun e => hAp (e ▸ hA)))), fun _ => ⟨hM4, hiz⟩, za (fun h => hn (zc hcl 4 3 rfl (zc hcl 5 4 rfl (zc hcl 7 5 rfl h)))), fun _ _ => ⟨hu.mono (fun b _ hb => (show wS.heap.size ≤ b from Nat.le_trans hs60 hb)), h4, hN0.2.trans F4 hs60⟩, zb (fun h => hn (zc hcl 4 3 rfl h)), zb (fun h => hn (zc hcl 4 3 rfl (zc hcl 5 4 rfl h)))⟩
     | 4, ho =>
      cases zq ho
      have ev : a.tmps[82]? = some (.agg #[.int .i64 yy.kind, .string (strOfNums yy.text), .int .i64 (yy.pos : Int), .int .i64 (yy.n : Int), .slice ma yy.names.length mc, .slice la yy.kids.length lc]) := zv ha hsz Lh hl 3 hd
      have U3 := hU (zd hd 3) hn
      have e1 := hE.resolve_left (fun h => hn (zc hcl 5 4 rfl (zc hcl 7 5 rfl h)))
      have rk0 := hK.resolve_left (fun h => hn (zc hcl 5 4 rfl h))
      refine Zeg w' _ rfl _ _ _ _ _ _ _ _ _ _ (by simpa [Act.eval] using Zav ev) ?_
      exact ⟨_, ma, la, va, mc, lc, vc, w'.heap.size, yy, iz, ez, tz, zp 4 ha Lh hsz, zh Lh, Zai (val' := dccV x yy p q6 pa ma la va pc mc lc vc w'.heap.size) Lh (by decide) hl (fun j hj hne => match j, hj, hne with | 0, _, _ => rfl | 1, _, _ => rfl | 2, _, _ => rfl | 3, _, _ => rfl | 4, _, hne => absurd rfl hne | 5, _, _ => rfl | 6, _, _ => rfl | j + 7, _, _ => rfl), .inr ((Zbc.block q6 (lt_of_block e1)).trans e1), .inl (.inr (zd hd 3)), .inr (rk0.keep (fun b _ hb => Zbc.block b hb)), zr hM, za (fun h => hn (zc hcl 5 4 rfl (zc hcl 7 5 rfl h))), zi, fun _ _ => ⟨Zc0 w' _, U3.1.bel Zbc, U3.2.1.bel Zbc, U3.2.2.trans (Fr.of_below Zbc) U3.2.2.size, U3.2.2.size⟩, zb (fun h => hn (zc hcl 5 4 rfl h))⟩
     | 5, ho =>
      cases zq ho
      have ev : a.tmps[80]? = some (.slice pa x.kids.length pc) := zv ha hsz Lh hl 1 hd
      have ev' : a.tmps[83]? = some (.slice (some ⟨g, 0, none⟩) 1 1) := zv ha hsz Lh hl 4 hd
      have G4 := hG (zd hd 4) hn
      have e1 := hE.resolve_left (fun h => hn (zc hcl 7 5 rfl h))
      have rk0 := hK.resolve_left hn
      refine Zeh w' _ _ rfl (by simpa [Act.eval] using Zav ev) (by simpa [Act.eval] using Zav ev') rk0 G4.1 G4.2.1 (fun b hb hh => hAb b g G4.2.2.2.2 hh) hxl (fun b hb => hA6 b (Nat.le_trans G4.2.2.2.1.size hb)) ?_
      intro va' vc' w9 R9 K9 pl9
      have hs9 := K9.size
      exact ⟨_, ma, la, va', mc, lc, vc', g, yy, iz, ez, tz, zp 5 ha Lh hsz, zh Lh, Zai (val' := dccV x yy p q6 pa ma la va' pc mc lc vc' g) Lh (by decide) hl (fun j hj hne => match j, hj, hne with | 0, _, _ => rfl | 1, _, _ => rfl | 2, _, _ => rfl | 3, _, _ => rfl | 4, _, _ => rfl | 5, _, hne => absurd rfl hne | 6, _, _ => rfl | j + 7, _, _ => rfl), .inr ((K9.block q6 (lt_of_block e1) hkq).trans e1), .inl (.inr (zc hcl 4 3 rfl (zd hd 4))), .inl (.inl rfl), zr hM, za (fun h => hn (zc hcl 7 5 rfl h)), zj (zd hd 4), zi, fun _ _ => ⟨R9, G4.2.2.1.below (K9.below (B := w2.heap.size) (by have := G4.2.2.2.1.size; omega) (fun g' hg' => hko g' hg')) hpB, (G4.2.2.2.1.low hwS).trans (Fr.of_below (K9.below (B := w2.heap.size) (by have := G4.2.2.2.1.size; omega) (fun g' hg' => hko g' hg'))) zo, fun g' hg' => (pl9 g' hg').imp_right (fun h => Nat.le_trans G4.2.2.2.1.size h)⟩⟩
     | 6, ho =>
      cases zq ho
      have ev : a.tmps[6]? = some (.pointer (some ⟨q6, 0, none⟩)) := zu 6 ha Lh hsz s6
      exact zx (.pointer (some ⟨q6, 5, none⟩)) (by simp [execOp, ev, go_sem]) ⟨_, ma, la, va, mc, lc, vc, g, yy, iz, ez, tz, zp 6 ha Lh hsz, zh Lh, zk Lh hl, zl hE, zl hN, zl hK, zr hM, zr hQ, zs hU, zs hG, zs hY⟩
     | 7, ho =>
      cases zq ho
      have ev : a.tmps[85]? = some (.pointer (some ⟨q6, 5, none⟩)) := zv ha hsz Lh hl 6 hd
      have ev' : a.tmps[84]? = some (.slice va (x.kids.length + 1) vc) := zv ha hsz Lh hl 5 hd
      have e1 := hE.resolve_left hn
      obtain ⟨z0, z1, z2, z3, z4, z5, zf⟩ := Zac e1
      have zf5 := zf 5
      have L := hY (zd hd 5) hn
      refine Zbj (w' := w'.setCell ⟨q6, 5, none⟩ (.slice va (x.kids.length + 1) vc)) (by simp [execOp, Act.eval, ev, ev', go_sem, z5, zf5]) ?_
      exact ⟨l, ma, la, va, mc, lc, vc, g, yy, iz, ez, tz, ha, Lh, zJ hl, .inl (.inl rfl), .inl (.inr (zc hcl 4 3 rfl (zc hcl 5 4 rfl (zd hd 5)))), .inl (.inr (zd hd 5)), zr hM, fun _ => ⟨w', L, rfl, e1⟩, zj (zc hcl 5 4 rfl (zd hd 5)), zj (zd hd 5), zi⟩
     | i + 8, ho => simp at ho
    rintro D a w' ⟨l, ma, la, va, mc, lc, vc, g, yy, iz, ez, tz, ha, Lh, hl, hE, hN, hK, hM, hQ, hU, hG, hY⟩ hall
    obtain ⟨v0, v1, v2, v3, v4, v5, v6, rfl⟩ := zL7 Lh
    obtain ⟨w9, ⟨R9, h9, F9, pl9⟩, ew, E9⟩ := hQ (hall 7 (by decide))
    obtain ⟨hRel, hiz⟩ := hM (hall 3 (by decide))
    subst hA
    have hfr : a = _ := ha
    rw [hfr]
    clear hfr ha
    simp only [Zaj, yA, yB, yC, yD, yE, yF, yG, yH]
    clear hl hE hN hK hU hG hY hQ hM hall
    have S9 := St.cell w9 q6 5 (.slice va (x.kids.length + 1) vc)
    have K9 := Zca.put2 hxn E9 hnc R9 (by omega)
    replace h9 := h9.st S9 (by omega)
    replace hZ := (hZ.keep (fun hl => F9.block q (by omega) (by omega))).keep (fun hl => S9.block q (by omega))
    replace F := (F.trans (F9.low (B' := w.heap.size) (by omega)) zo).trans (Fr.of_below (S9.below (B := w.heap.size) (by omega))) zo
    have hsz9 := F9.size
    rw [← ew] at K9 h9 hZ F S9
    have hsz10 := S9.size
    clear ew S9 E9 F9 R9 pl9
    have hkl : Hid ((x.kid yy).kids.length = x.kids.length + 1) := by show (x.kid yy).kids.length = x.kids.length + 1; simp [Nd.kid, Nd.kids]
    go_wp2
    go_roundw
    case rel =>
     refine ⟨iz, x.kid yy, ez, tz, K9, hZ, h9, F, hiz, by omega, ?_, ?_, ?_⟩
     ·exact ⟨hxn, by rw [hkl.out]; omega, hX.out.2.2⟩
     ·intro he
      rcases hRel with ⟨g1, g2, g3⟩ | ⟨g1, _⟩
      ·have hadv := g3.adv S.ends
       simp only [Adv, Qy.place, Qy.takes, Qy.asks] at hadv
       have hj := hadv (by omega)
       exact ⟨g2, by omega, by rw [hkl.out]; omega, fun r hr => hGr.out r (Zhx g3 hr hk15)⟩
      exact absurd he g1
     intro he
     rcases hRel with ⟨g1, _⟩ | ⟨g1, m', g3, g4⟩
     ·exact absurd g1 he
     exact ⟨m', hGr.out _ (Zhy g3 hk15), g4⟩
    rw [h9.mea, hat]
    rcases hRel with ⟨g1, g2, g3⟩ | ⟨g1, _⟩
    ·have hadv := g3.adv S.ends
     simp only [Adv, Qy.place, Qy.takes, Qy.asks] at hadv
     have hj := hadv (by omega)
     subst g1
     simp
     omega
    simp [g1]
    omega
   have hfin : Hid ((ei = 0 → ti = 0 ∧ Zaa W (.casc n0 d) (.ok x i')) ∧ (ei ≠ 0 → ∃ j, Zaa W (.casc n0 d) (.er j ei) ∧ ti = psW W j)) := by
    refine ⟨fun he => ?_, fun he => ?_⟩
    ·obtain ⟨ht, _, _, hr⟩ := hGG.out he
     exact ⟨ht, Zd8 r1 r2 (hr _ (Zf8 (fun hk => hei ⟨he, hk⟩))) (fun e => hjk e.symm) h15⟩
    obtain ⟨j', hj, ht⟩ := hD.out he
    exact ⟨j', Zd8 r1 r2 hj (fun e => hjk e.symm) h15, ht⟩
   have hcall : Calls Tryz.prog 45 #[.pointer (some ⟨p, 0, none⟩), .int .i64 15] wr fun e w' => e = .returned (.bool false) ∧ Below wr.heap.size wr w' := by
    by_cases he : ei = 0
    ·subst he
     have := Zad h hi' 15
     rwa [show (kdW W i' == 15) = false by simp only [beq_eq_false_iff_ne, ne_eq]; exact fun hk => hei ⟨rfl, hk⟩] at this
    exact Zax h hi' he 15
   go_wp2_with fail
   refine hcall.mono ?_
   rintro e wJ ⟨rfl, B3⟩
   have hs3 := B3.size
   replace K := K.bel B3
   replace hZ := hZ.keep (fun hl => B3.block _ hl)
   replace F := F.thn zo (Fr.of_below B3)
   replace h := h.bel B3
   clear B3 hcall
   have hX' := hX.out
   obtain ⟨na', nc', ka', kc', Ek, hv⟩ := K.nd (by rw [hX'.1]; simp) (by omega) (by rw [hX'.2.2]; simp)
   clear hX'
   obtain ⟨z0, z1, z2, z3, z4, z5, _⟩ := Zac Ek
   obtain ⟨u0, u1, u2, u3, u4, u5, E2⟩ := hZ
   go_wp2_with (refine Za8 rfl rfl rfl rfl rfl E2 ?_)
   intro wz Ez Sz
   go_wp2
   have hvo := hv.imp (A' := fun b => w.heap.size ≤ b) (w' := wz) (fun b _ hA => ⟨by omega, Sz.block b (by omega)⟩) _ _
   have hzz := h.st Sz (by omega)
   have hFF := F.trans (Fr.of_below (Sz.below hq)) zo
   by_cases he : ei = 0
   ·obtain ⟨ht, hr⟩ := hfin.out.1 he
    subst he
    subst ht
    exact zT 2 (by rfl) (by rfl) (Zau Ez) (by rfl) ⟨_, hr, ⟨_, rfl, hvo, hzz⟩, hFF⟩
   obtain ⟨j', hr, rfl⟩ := hfin.out.2 he
   exact zT 2 (by rfl) (by rfl) (Zau Ez) (by rfl) ⟨_, hr, ⟨_, _, _, rfl, hvo, hzz, hi', he⟩, hFF⟩
theorem Zlq {E : Nat} (S : Src W E) (hi : n0 ≤ E) (H : ConKy W n0 d) (HM : ∀ j, n0 < j → j ≤ E → ConM W j d) : Zdk 81 W (.casc n0 d) n0 d := by
 by_cases hx : ∃ y k x j, Zaa W (.prim n0 d) (.ok x j) ∧ Zaa W (.keyOf j d x) (.ok y k) ∧ kdW W k = 15 ∧ y.kind = 7 ∧ j ≠ k ∧ (kdW W n0 = 8 → whF W k (k - n0) n0 0 = false)
 ·obtain ⟨y, k, x, j, r1, r2, h15, h7, hj, hw⟩ := hx
  exact Zom S hi H HM r1 r2 h15 hj h7 hw
 refine Zq9 S hi H fun y k tk hK h15 => ?_
 rcases casc_two S.ends hi hK with h | ⟨h7, hw, x, j, r1, r2, hj⟩
 ·exact h
 exact absurd ⟨y, k, x, j, r1, r2, h15, h7, hj, hw⟩ hx
end
end Go.Proofs.YtncfmhlikmibaaaGreatDoor
