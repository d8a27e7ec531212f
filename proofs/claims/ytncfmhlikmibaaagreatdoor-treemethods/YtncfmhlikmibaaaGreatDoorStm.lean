/- statements. -/
import Derived.Test.YtncfmhlikmibaaaGreatDoorPrs
import Derived.Test.YtncfmhlikmibaaaGreatDoorBno
import Derived.Test.YtncfmhlikmibaaaGreatDoorExp
namespace Go.Proofs.YtncfmhlikmibaaaGreatDoor
open Go.RowKit
set_option maxRecDepth 100000
set_option maxHeartbeats 16000000
section
def stmV (x y : Nd) (q z g vc : Nat) (pa : Option Addr) (pc : Nat) (ma : Option Addr) (mc : Nat) (ka : Option Addr) (kc : Nat) (j : Nat) : Value :=
 ([.pointer (some ⟨q, 0, none⟩),
  .pointer (some ⟨q, 0, none⟩),
  .pointer (some ⟨q, 5, none⟩),
  .slice pa x.kids.length pc,
  .agg #[.int .i64 y.kind, .string (strOfNums y.text), .int .i64 (y.pos : Int), .int .i64 (y.n : Int), .slice ma y.names.length mc, .slice ka y.kids.length kc],
  .int .i64 (x.kids.length : Int),
  .slice (some ⟨z, 0, none⟩) 1 1,
  .slice (some ⟨g, 0, none⟩) (x.kids.length + 1) vc,
  .pointer (some ⟨g, x.kids.length * 6, none⟩),
  .pointer (some ⟨q, 0, none⟩),
  .pointer (some ⟨q, 5, none⟩)] : List Value).getD j undef
def opO (j : Nat) : Nat := if j < 9 then j else j + 1
variable {A : Nat → Prop} {j n q : Nat} {v : Value} {w w' : World}
theorem Zbi {k : Nat} (h : opO j = opO k) : j = k := by unfold opO at h; split at h <;> split at h <;> omega
theorem opO_9 (j : Nat) : opO j ≠ 9 := by unfold opO; split <;> omega
theorem opO_12 (hj : j < 11) : opO j ≠ 12 := by unfold opO; split <;> omega
structure Sf (W : List Tk) (p q q5 B j d b7 : Nat) (A : Nat → Prop) (w9 : World) (x y : Nd) (pa : Option Addr) (pc : Nat) (na : Option Addr) (nc : Nat) (ma : Option Addr) (mc : Nat) (ka : Option Addr) (kc : Nat) (w' : World) : Prop where
 five : w'.heap[q5]? = some (.cells #[.int .i64 y.kind, .string (strOfNums y.text), .int .i64 (y.pos : Int), .int .i64 (y.n : Int), .slice ma y.names.length mc, .slice ka y.kids.length kc] 25)
 rd : Rdw w' p W j (d : Int) 20
 fr : Fr p B w9 w'
 sn : SlF (fun b => (A b ∧ ∀ g, (Value.slice pa x.kids.length pc).ownBlock = some g → b ≠ g) ∧ b < w9.heap.size) w' na x.names.length nc (x.names.map Zcr)
 hv : NdV (fun b => b7 ≤ b ∧ b < w9.heap.size) w' y (.agg #[.int .i64 y.kind, .string (strOfNums y.text), .int .i64 (y.pos : Int), .int .i64 (y.n : Int), .slice ma y.names.length mc, .slice ka y.kids.length kc])
structure Kq (q n : Nat) (v : Value) (w w' : World) : Prop where
 os : w'.os = w.os
 tape : w'.tape = w.tape
 output : w'.output = w.output
 size : w.heap.size ≤ w'.heap.size
 block : ∀ b, b < n → b ≠ q → v.ownBlock ≠ some b → w'.heap[b]? = w.heap[b]?
theorem Kq.of_below (h : Below n w w') : Kq q n v w w' := ⟨h.os, h.tape, h.output, h.size, fun b hb _ _ => h.block b hb⟩
theorem Kq.of_kp (h : Kp v w w') (hn : n ≤ w.heap.size) : Kq q n v w w' := ⟨h.os, h.tape, h.output, h.size, fun b hb _ hv => h.block b (by omega) hv⟩
theorem Kq.of_st {g : Nat} (h : St g w w') (hg : g = q ∨ v.ownBlock = some g ∨ n ≤ g) : Kq q n v w w' :=
 ⟨h.os, h.tape, h.output, Nat.le_of_eq h.size.symm, fun b hb hq hv => h.block b (fun e => by subst e; rcases hg with h | h | h <;> first | exact hq h | exact hv h | omega)⟩
structure Sg (p q q5 B b7 : Nat) (A : Nat → Prop) (w9 : World) (x : Nd) (pa : Option Addr) (pc : Nat) : Prop where
 hp : p < B
 hB : B ≤ b7
 h79 : b7 ≤ w9.heap.size
 hq : B ≤ q
 hq7 : q < b7
 nq : ¬ A q
 lo : ∀ b, A b → B ≤ b
 new : ∀ b, b7 ≤ b → A b
 own : ∀ b, (Value.slice pa x.kids.length pc).ownBlock = some b → A b ∧ b < b7
 h5 : b7 ≤ q5
 h59 : q5 < w9.heap.size
theorem Sf.step {W : List Tk} {p q5 B d b7 : Nat} {w9 : World} {x y : Nd} {pa : Option Addr} {pc : Nat} {na : Option Addr} {nc : Nat} {ma : Option Addr} {mc : Nat} {ka : Option Addr} {kc : Nat} (h : Sf W p q q5 B j d b7 A w9 x y pa pc na nc ma mc ka kc w) (G : Sg p q q5 B b7 A w9 x pa pc) (k : Kq q w9.heap.size (.slice pa x.kids.length pc) w w') : Sf W p q q5 B j d b7 A w9 x y pa pc na nc ma mc ka kc w' := by
 have g1 := G.hp
 have g2 := G.hB
 have g3 := G.h79
 have g4 := G.hq
 have g5 := G.hq7
 have g6 := G.h5
 have g7 := G.h59
 have low : ∀ b, b < B → w'.heap[b]? = w.heap[b]? := fun b hb => k.block b (by omega) (by omega) (fun e => by have := G.lo b (G.own b e).1; omega)
 refine ⟨(k.block q5 g7 (by omega) (fun e => by have := (G.own q5 e).2; omega)).trans h.five, h.rd.same (fun b hb => low b (by omega)) (low p g1), ?_, h.sn.imp (fun b _ hA => ⟨hA, k.block b hA.2 (fun e => G.nq (e ▸ hA.1.1)) (fun e => hA.1.2 b e rfl)⟩), h.hv.imp (fun b _ hA => ⟨hA, k.block b hA.2 (by omega) (fun e => by have := (G.own b e).2; omega)⟩) _ _⟩
 exact ⟨k.os.trans h.fr.os, k.tape.trans h.fr.tape, k.output.trans h.fr.output, Nat.le_trans h.fr.size k.size, fun b hb hn => (low b hb).trans (h.fr.block b hb hn)⟩
theorem Zdm.some_ {xs : List Nd} {z : Nd} (h : Zdm w A v (xs ++ [z])) : ∃ g c, v = .slice (some ⟨g, 0, none⟩) (xs.length + 1) c ∧ A g := by
 obtain ⟨g, c, h1, h2, _⟩ := h.put (y := zNd) (A0 := fun _ => False) NdV.zero (fun _ _ h => h.elim)
 exact ⟨g, c, h1, h2⟩
theorem Zp5 {a : Option Addr} {c : Nat} {fl : List Value} (o : w.ownsRow 0 9 1 (.slice a n c) n fl) (hA : ∀ g, (Value.slice a n c).ownBlock = some g → A g) : SlF A w a n c fl := by
 have hs := o.1
 rcases o.2 with ⟨e, h0⟩ | ⟨g, cap, cur, e, _, hg, hn, hm, hc, ht⟩
 ·simp only [Value.slice.injEq] at e
  obtain ⟨rfl, rfl, rfl⟩ := e
  have : fl = [] := List.eq_nil_of_length_eq_zero (by omega)
  subst this
  exact SlF.nil _ _
 simp only [Value.slice.injEq] at e
 obtain ⟨rfl, _, rfl⟩ := e
 refine ⟨hn, hm, by simp, fun _ => ⟨g, 0, rfl, hA g rfl, fun j u hj => ?_⟩⟩
 have := o.cells (g := g) rfl j u hj
 rw [Za7] at this
 exact this
theorem Zdo.ofM {x : Nd} (M : Zd9 w A q x) : Zdo w A q x := by
 obtain ⟨na, nc, E, o, hA⟩ := M.ex
 have hk := M.kids
 refine ⟨na, nc, none, 0, ?_, ?_, ?_⟩
 ·rw [hk]; exact E
 ·rw [hk]; exact Zp5 o fun g hg => ⟨hA g hg, fun g' h => by simp [Value.ownBlock] at h⟩
 rw [hk]; exact Zdm.nil w A
theorem Zig {W : List Tk} {E : Nat} (S : Src W E) {i d : Nat} (hi : i ≤ E) (H : ∀ j, i ≤ j → j ≤ E → Zcb 72 W (.stmt j d) j d) : Zrh 43 W (fun x => .stmts i d x) i d := by
 intro w p q B A x0 G M h1 h3 h
 have hqp : q ≠ p := by have := G.hp; have := G.hq; omega
 have hAp : ¬ A p := fun e => by have := G.lo p e; have := G.hp; omega
 have hpw : p < w.heap.size := by have := G.hp; have := G.hB; omega
 have K := Zdo.ofM M
 have hk0 : x0.kids.length ≤ i := by rw [M.kids]; exact Nat.zero_le _
 clear M
 go_enter Tryz.func43, Tryz.ntmps43
 go_wp2_with fail
 go_loopw [] (fun wr => ∃ (i' : Nat) (x' : Nd), Zdo wr A q x' ∧ Rdw wr p W i' (d : Int) 20 ∧ Fr p B w wr ∧ i ≤ i' ∧ i' ≤ E ∧ x'.kids.length ≤ i' ∧ Hid (x'.names.length ≤ i ∧ x'.text.length ≤ 50000000) ∧ Hid (∀ r, Zaa W (.stmts i' d x') r → Zaa W (.stmts i d x0) r)) (fun wr => E - atOf wr p)
 case atStart => exact ⟨i, x0, K, h, Fr.refl _ _ _, zo, hi, hk0, ⟨h1, h3⟩, fun r hr => hr⟩
 clear K h h1 h3 hk0
 obtain ⟨i', x, K, h, F, hii, hi', hxl, hxn, hR⟩ := hrel
 have hat : atOf wr p = i' := h.atOf
 have hE5 := S.small
 have G1 := G.up F.size
 have hsw : w.heap.size ≤ wr.heap.size := F.size
 have hBw : B ≤ wr.heap.size := by have := G.hB; omega
 go_wp2_with fail
 refine (Zb8 h (S.lt hi') 0).mono ?_
 rintro e w6 ⟨rfl, B6⟩
 replace K := K.bel B6
 replace h := h.fr B6
 have hs6 := B6.size
 replace F := F.trans (Fr.of_below B6) hBw
 clear B6
 by_cases hk : kdW W i' = 0
 ·rw [show (kdW W i' == 0) = true by simp [hk]]
  go_wp2
  exact bodyPost_ret (v := .bool true) (by simp [results, go_sem]) rfl ⟨_, hR.out _ (Zet hk), ⟨rfl, K.nd (by have := hxn.out.1; omega) (by omega) (by have := hxn.out.2; omega), h⟩, F⟩
 rw [show (kdW W i' == 0) = false by simp [hk]]
 go_wp2_with fail
 refine (Zb8 h (S.lt hi') 11).mono ?_
 rintro e w7 ⟨rfl, B7⟩
 replace K := K.bel B7
 replace h := h.fr B7
 have hs7 := B7.size
 replace F := F.trans (Fr.of_below B7) (by omega)
 clear B7
 by_cases hk1 : kdW W i' = 11
 ·rw [show (kdW W i' == 11) = true by simp [hk1]]
  go_wp2
  exact bodyPost_ret (v := .bool true) (by simp [results, go_sem]) rfl ⟨_, hR.out _ (Zes hk1), ⟨rfl, K.nd (by have := hxn.out.1; omega) (by omega) (by have := hxn.out.2; omega), h⟩, F⟩
 rw [show (kdW W i' == 11) = false by simp [hk1]]
 go_wp2_with fail
 refine (H i' hii hi' w7 p h).mono ?_
 rintro e w8 ⟨r, hr, ha, F8⟩
 have hs8 := F8.size
 obtain ⟨oa, oc, pa, pc, Ek, sn, rk⟩ := K
 have hq7 : q < w7.heap.size := lt_of_block Ek
 have hko : ∀ b, (Value.slice pa x.kids.length pc).ownBlock = some b → A b ∧ b < w7.heap.size := fun b hb => rk.own hb
 replace Ek := (F8.block _ (lt_of_block Ek) hqp).trans Ek
 replace sn := sn.imp (fun b hb hA => ⟨hA, F8.block b hb (fun e => hAp (e ▸ hA.1))⟩)
 replace rk := rk.keep (fun b hA hb => F8.block b hb (fun e => hAp (e ▸ hA)))
 replace F := F.trans F8 (by omega)
 clear h F8
 cases r with
 | er j c =>
  obtain ⟨v, y, d', rfl, hv, h⟩ := ha
  obtain ⟨na, nc, ka, kc, _, rfl, _⟩ := NdV.parts hv
  go_wp2_with (refine Zcm rfl rfl rfl 5 rfl rfl rfl (fun _ => rfl) (fun _ => rfl) ?_)
  intro q5 w9 E9 _ B9
  replace Ek := (B9.block _ (lt_of_block Ek)).trans Ek
  replace h := h.fr B9
  replace F := F.trans (Fr.of_below B9) (by omega)
  go_wp2
  exact bodyPost_ret (v := .bool false) (by simp [results, go_sem]) rfl ⟨_, hR.out _ (Zjc hr hk hk1), ⟨rfl, ⟨_, _, _, _, _, _, Ek⟩, _, h⟩, F⟩
 | ok y j =>
  obtain ⟨v, rfl, hv, h⟩ := ha
  have hj : i' + 1 ≤ j ∧ j ≤ E := hr.adv S.ends hi'
  obtain ⟨na, nc, ka, kc, _, rfl, _⟩ := NdV.parts hv
  go_wp2_with (refine Zcm rfl rfl rfl 5 rfl rfl rfl (fun _ => rfl) (fun _ => rfl) ?_)
  intro q5 w9 E9 hq5 B9
  replace Ek := (B9.block _ (lt_of_block Ek)).trans Ek
  replace sn := sn.imp (fun b hb hA => ⟨hA, B9.block b hb⟩)
  replace rk := rk.keep (fun b _ hb => B9.block b hb)
  replace h := h.fr B9
  replace hv := hv.bel B9
  replace F := F.trans (Fr.of_below B9) (by omega)
  have hs9 := B9.size
  clear B9
  go_wp2_with fail
  have G9 : Sg p q q5 B w7.heap.size A w9 x pa pc := ⟨G.hp, by omega, by omega, G.hq, hq7, G.nq, G.lo, fun b hb => G.new b (by omega), hko, by omega, lt_of_block E9⟩
  have hSd : Sf W p q q5 B j d w7.heap.size A w9 x y pa pc oa oc na nc ka kc w9.drew := ⟨E9, h.same (fun _ _ => rfl) rfl, Fr.of_below (Below.refl _ w9).drew, sn.imp (fun b hb hA => ⟨⟨hA, hb⟩, rfl⟩), NdV.imp (w := w9) (w' := w9.drew) (A := fun b => w7.heap.size ≤ b) (A' := fun b => w7.heap.size ≤ b ∧ b < w9.heap.size) (fun b hb hA => ⟨⟨hA, hb⟩, rfl⟩) _ _ hv⟩
  have Ekd : w9.drew.heap[q]? = _ := Ek
  have rkd : Zdm w9.drew A (.slice pa x.kids.length pc) x.kids := rk.keep (fun b _ hb => rfl)
  have hix : (0 : Int) ≤ (x.kids.length : Int) := by omega
  have hix2 : ((x.kids.length : Int)).toNat = x.kids.length := by omega
  have hix3 : (x.kids.length : Int) < ((x.kids.length + 1 : Nat) : Int) := by omega
  clear E9 sn hv rk
  refine Zah fun AA hA => ?_
  have hsz : AA.tmps.size = 41 := by rw [hA]; rfl
  have s1 : AA.tmps[1]? = some (.pointer (some ⟨q, 0, none⟩)) := by rw [hA]; rfl
  have s5 : AA.tmps[5]? = some (.pointer (some ⟨q5, 0, none⟩)) := by rw [hA]; rfl
  refine zR1 (fun AA D a w' => ∃ (l : List Value) (z : Nat) (g : Nat) (vc : Nat), a = Zaj AA 22 l ∧ l.length = 11 ∧ (∀ j, j < 11 → D (opO j) → l[j]? = some (stmV x y q z g vc pa pc na nc ka kc j)) ∧ (D 12 ∨ w'.heap[q]? = some (.cells #[.int .i64 x.kind, .string (strOfNums x.text), .int .i64 (x.pos : Int), .int .i64 (x.n : Int), .slice oa x.names.length oc, .slice pa x.kids.length pc] 25)) ∧ (Sf W p q q5 B j d w7.heap.size A w9 x y pa pc oa oc na nc ka kc w') ∧ (D 7 ∨ Zdm w' A (.slice pa x.kids.length pc) x.kids) ∧ (D 6 → ¬ D 7 → (w'.heap[z]? = some (.cells #[.int .i64 0, .string ⟨#[]⟩, .int .i64 0, .int .i64 0, .slice none 0 0, .slice none 0 0] 25) ∧ w9.heap.size ≤ z)) ∧ (D 7 → ¬ D 9 → Zdm w' A (.slice (some ⟨g, 0, none⟩) (x.kids.length + 1) vc) (x.kids ++ [zNd])) ∧ (D 9 → Zdm w' A (.slice (some ⟨g, 0, none⟩) (x.kids.length + 1) vc) (x.kids ++ [y])) ∧ (D 7 → (∀ h, (Value.slice (some ⟨g, 0, none⟩) (x.kids.length + 1) vc).ownBlock = some h → (Value.slice pa x.kids.length pc).ownBlock = some h ∨ w9.heap.size ≤ h)) ∧ (D 12 → w'.heap[q]? = some (.cells #[.int .i64 x.kind, .string (strOfNums x.text), .int .i64 (x.pos : Int), .int .i64 (x.n : Int), .slice oa x.names.length oc, .slice (some ⟨g, 0, none⟩) (x.kids.length + 1) vc] 25))) ?start ?step ?done
  case start => exact ⟨_, 0, 0, 0, zS 22 11 hsz, zG 22 11 hsz, zK, .inr Ekd, hSd, .inr rkd, zF, zF, zf, zf, zf⟩
  case step =>
   clear hA
   intro i o ho D a w' hI hn hcl hd
   obtain ⟨l, z, g, vc, ha, Lh, hl, hK, hS, hR0, hZ, hR1, hR2, hP, hQ⟩ := hI
   match i, ho with
   | 0, ho =>
    cases zq ho
    have ev : a.tmps[1]? = some (.pointer (some ⟨q, 0, none⟩)) := by rw [ha, Zcs AA 22 1 l (by omega) (by decide)]; exact s1
    exact zx (.pointer (some ⟨q, 0, none⟩)) (by simp [execOp, ev, go_sem]) ⟨_, z, g, vc, zp 0 ha Lh hsz, zh Lh, fun j hj h => Za5 (D := fun j => D (opO j)) Lh (by decide) hl j hj (h.imp_left (fun e => Zbi (k := 0) e)), zl hK, hS, zl hR0, zs hZ, zs hR1, zr hR2, zr hP, zr hQ⟩
   | 1, ho =>
    cases zq ho
    have ev : a.tmps[22]? = some (.pointer (some ⟨q, 0, none⟩)) := Zag (D := fun j => D (opO j)) ha hsz Lh hl 0 (by decide) (zd hd 0)
    exact zx (.pointer (some ⟨q, 0, none⟩)) (by simp [execOp, ev, go_sem]) ⟨_, z, g, vc, zp 1 ha Lh hsz, zh Lh, fun j hj h => Za5 (D := fun j => D (opO j)) Lh (by decide) hl j hj (h.imp_left (fun e => Zbi (k := 1) e)), zl hK, hS, zl hR0, zs hZ, zs hR1, zr hR2, zr hP, zr hQ⟩
   | 2, ho =>
    cases zq ho
    have ev : a.tmps[23]? = some (.pointer (some ⟨q, 0, none⟩)) := Zag (D := fun j => D (opO j)) ha hsz Lh hl 1 (by decide) (zd hd 1)
    exact zx (.pointer (some ⟨q, 5, none⟩)) (by simp [execOp, ev, go_sem]) ⟨_, z, g, vc, zp 2 ha Lh hsz, zh Lh, fun j hj h => Za5 (D := fun j => D (opO j)) Lh (by decide) hl j hj (h.imp_left (fun e => Zbi (k := 2) e)), zl hK, hS, zl hR0, zs hZ, zs hR1, zr hR2, zr hP, zr hQ⟩
   | 3, ho =>
    cases zq ho
    have ev : a.tmps[24]? = some (.pointer (some ⟨q, 5, none⟩)) := Zag (D := fun j => D (opO j)) ha hsz Lh hl 2 (by decide) (zd hd 2)
    have e1 := hK.resolve_left (fun h => hn (zc hcl 7 3 rfl (zc hcl 12 7 rfl h)))
    obtain ⟨z0, z1, z2, z3, z4, z5, _⟩ := Zae e1
    exact zx (.slice pa x.kids.length pc) (by simp [execOp, ev, go_sem, z5]) ⟨_, z, g, vc, zp 3 ha Lh hsz, zh Lh, fun j hj h => Za5 (D := fun j => D (opO j)) Lh (by decide) hl j hj (h.imp_left (fun e => Zbi (k := 3) e)), zl hK, hS, zl hR0, zs hZ, zs hR1, zr hR2, zr hP, zr hQ⟩
   | 4, ho =>
    cases zq ho
    have ev : a.tmps[5]? = some (.pointer (some ⟨q5, 0, none⟩)) := by rw [ha, Zcs AA 22 5 l (by omega) (by decide)]; exact s5
    obtain ⟨z0, z1, z2, z3, z4, z5, _⟩ := Zae hS.five
    exact zx (.agg #[.int .i64 y.kind, .string (strOfNums y.text), .int .i64 (y.pos : Int), .int .i64 (y.n : Int), .slice na y.names.length nc, .slice ka y.kids.length kc]) (by simp [execOp, ev, go_sem, z0, z1, z2, z3, z4, z5]) ⟨_, z, g, vc, zp 4 ha Lh hsz, zh Lh, fun j hj h => Za5 (D := fun j => D (opO j)) Lh (by decide) hl j hj (h.imp_left (fun e => Zbi (k := 4) e)), zl hK, hS, zl hR0, zs hZ, zs hR1, zr hR2, zr hP, zr hQ⟩
   | 5, ho =>
    cases zq ho
    have ev : a.tmps[25]? = some (.slice pa x.kids.length pc) := Zag (D := fun j => D (opO j)) ha hsz Lh hl 3 (by decide) (zd hd 3)
    exact zx (.int .i64 (x.kids.length : Int)) (by simp [execOp, ev, go_sem]) ⟨_, z, g, vc, zp 5 ha Lh hsz, zh Lh, fun j hj h => Za5 (D := fun j => D (opO j)) Lh (by decide) hl j hj (h.imp_left (fun e => Zbi (k := 5) e)), zl hK, hS, zl hR0, zs hZ, zs hR1, zr hR2, zr hP, zr hQ⟩
   | 6, ho =>
    cases zq ho
    have e0 := hR0.resolve_left (fun h => hn (zc hcl 7 6 rfl h))
    refine Zba (w' := (w'.alloc (.cells #[.int .i64 0, .string ⟨#[]⟩, .int .i64 0, .int .i64 0, .slice none 0 0, .slice none 0 0] 25))) (v := .slice (some ⟨w'.heap.size, 0, none⟩) 1 1) (by simp [execOp, go_sem]) ?_
    exact ⟨_, w'.heap.size, g, vc, zp 6 ha Lh hsz, zh Lh, fun j hj h => Zai (D := fun j => D (opO j)) (val' := stmV x y q w'.heap.size g vc pa pc na nc ka kc) Lh (by decide) hl (fun j hj hne => match j, hj, hne with | 0, _, _ => rfl | 1, _, _ => rfl | 2, _, _ => rfl | 3, _, _ => rfl | 4, _, _ => rfl | 5, _, _ => rfl | 6, _, hne => absurd rfl hne | 7, _, _ => rfl | 8, _, _ => rfl | 9, _, _ => rfl | 10, _, _ => rfl | j + 11, _, _ => rfl) j hj (h.imp_left (fun e => Zbi (k := 6) e)), hK.imp .inr (fun h => (Zbc.block q (lt_of_block h)).trans h), hS.step G9 (Kq.of_below (Zbc.mono hS.fr.size)), .inr (e0.keep (fun b _ hb => Zbc.block b hb)), fun _ _ => ⟨Zc0 w' _, hS.fr.size⟩, zb (fun h => hn (zc hcl 7 6 rfl h)), za (fun h => hn (zc hcl 7 6 rfl (zc hcl 8 7 rfl (zc hcl 9 8 rfl h)))), za (fun h => hn (zc hcl 7 6 rfl h)), za (fun h => hn (zc hcl 7 6 rfl (zc hcl 12 7 rfl h)))⟩
   | 7, ho =>
    cases zq ho
    have ev : a.tmps[25]? = some (.slice pa x.kids.length pc) := Zag (D := fun j => D (opO j)) ha hsz Lh hl 3 (by decide) (zd hd 3)
    have ev' : a.tmps[28]? = some (.slice (some ⟨z, 0, none⟩) 1 1) := Zag (D := fun j => D (opO j)) ha hsz Lh hl 6 (by decide) (zd hd 6)
    have e0 := hR0.resolve_left hn
    have eZ := hZ (zd hd 6) hn
    have hzo : ∀ b, (Value.slice pa x.kids.length pc).ownBlock = some b → z ≠ b := fun b hb e => by have := (G9.own b hb).2; have := G9.h79; omega
    refine opz w' (.tmp 25) (.tmp 28) rfl (by simpa [Act.eval] using Zav ev) (by simpa [Act.eval] using Zav ev') e0 eZ.1 ⟨G9.new z (by have := G9.h79; omega), hzo⟩ (by omega) (fun b hb => G9.new b (by have := G9.h79; have := hS.fr.size; omega)) ?_
    intro va vc0 w7 R7 K7 pl7
    obtain ⟨g', vc', e7, hAg⟩ := R7.some_
    simp only [Value.slice.injEq] at e7
    obtain ⟨rfl, _, rfl⟩ := e7
    exact ⟨_, z, g', vc0, zp 7 ha Lh hsz, zh Lh, fun j hj h => Zai (D := fun j => D (opO j)) (val' := stmV x y q z g' vc0 pa pc na nc ka kc) Lh (by decide) hl (fun j hj hne => match j, hj, hne with | 0, _, _ => rfl | 1, _, _ => rfl | 2, _, _ => rfl | 3, _, _ => rfl | 4, _, _ => rfl | 5, _, _ => rfl | 6, _, _ => rfl | 7, _, hne => absurd rfl hne | 8, hj, _ => absurd hj (fun h => hn (zc hcl 8 7 rfl h)) | 9, _, _ => rfl | 10, _, _ => rfl | j + 11, _, _ => rfl) j hj (h.imp_left (fun e => Zbi (k := 7) e)), hK.imp .inr (fun h => (K7.block q (lt_of_block h) (fun e => G9.nq (G9.own q e).1)).trans h), hS.step G9 (Kq.of_kp K7 hS.fr.size), .inl (.inl rfl), zi, fun _ _ => R7, za (fun h => hn (zc hcl 8 7 rfl (zc hcl 9 8 rfl h))), fun _ h hh => (pl7 h hh).imp id (fun k => Nat.le_trans hS.fr.size k), za (fun h => hn (zc hcl 12 7 rfl h))⟩
   | 8, ho =>
    cases zq ho
    have ev : a.tmps[29]? = some (.slice (some ⟨g, 0, none⟩) (x.kids.length + 1) vc) := Zag (D := fun j => D (opO j)) ha hsz Lh hl 7 (by decide) (zd hd 7)
    have ev' : a.tmps[27]? = some (.int .i64 (x.kids.length : Int)) := Zag (D := fun j => D (opO j)) ha hsz Lh hl 5 (by decide) (zd hd 5)
    refine Zba (w' := w') (v := .pointer (some ⟨g, x.kids.length * 6, none⟩)) ?_ ?_
    ·simp [execOp, ev, ev', go_sem, hix, hix2]
     intro hh
     exact absurd hh (by omega)
    exact ⟨_, z, g, vc, zp 8 ha Lh hsz, zh Lh, fun j hj h => Za5 (D := fun j => D (opO j)) Lh (by decide) hl j hj (h.imp_left (fun e => Zbi (k := 8) e)), zl hK, hS, zl hR0, zs hZ, zs hR1, zr hR2, zr hP, zr hQ⟩
   | 9, ho =>
    cases zq ho
    have ev : a.tmps[30]? = some (.pointer (some ⟨g, x.kids.length * 6, none⟩)) := Zag (D := fun j => D (opO j)) ha hsz Lh hl 8 (by decide) (zd hd 8)
    have ev' : a.tmps[26]? = some (.agg #[.int .i64 y.kind, .string (strOfNums y.text), .int .i64 (y.pos : Int), .int .i64 (y.n : Int), .slice na y.names.length nc, .slice ka y.kids.length kc]) := Zag (D := fun j => D (opO j)) ha hsz Lh hl 4 (by decide) (zd hd 4)
    have e1 := hR1 (zc hcl 8 7 rfl (zd hd 8)) hn
    obtain ⟨g2, c2, e2, hAg, hgl, hc6, fz, R6⟩ := e1.put hS.hv (fun b _ hb => ⟨G9.new b hb.1, fun h hh => by rcases hP (zc hcl 8 7 rfl (zd hd 8)) h hh with k | k <;> first | (have := (G9.own h k).2; omega) | omega⟩)
    simp only [Value.slice.injEq, Option.some.injEq, Addr.mk.injEq, and_true, true_and] at e2
    obtain ⟨rfl, rfl⟩ := e2
    have hc7 := hc6
    have S6 := Zmy w' g (x.kids.length * 6) (.int .i64 y.kind) (.string (strOfNums y.text)) (.int .i64 (y.pos : Int)) (.int .i64 (y.n : Int)) (.slice na y.names.length nc) (.slice ka y.kids.length kc)
    have hqg : q ≠ g := fun e => G9.nq (e ▸ hAg)
    obtain ⟨u0, u1, u2, u3, u4, u5, s0, s1, s2, s3, s4, s5⟩ := hc7
    refine st6 w' 30 26 rfl rfl g (x.kids.length * 6) _ _ _ _ _ _ _ _ _ _ (Zav ev) (Zav ev') ⟨_, _, _, _, _, _, s0, s1, s2, s3, s4, s5⟩ fz ?_
    exact ⟨l, z, g, vc, ha, Lh, fun j hj h => hl j hj (h.resolve_left (opO_9 j)), hK.imp .inr (fun h => (S6.block q hqg).trans h), hS.step G9 (Kq.of_st S6 ((hP (zc hcl 8 7 rfl (zd hd 8)) g rfl).elim (fun h => .inr (.inl h)) (fun h => .inr (.inr h)))), .inl (.inr (zc hcl 8 7 rfl (zd hd 8))), zj (zc hcl 8 7 rfl (zd hd 8)), zi, fun _ => R6, zr hP, fun h => (S6.block q hqg).trans (hQ (h.resolve_left (by decide)))⟩
   | 10, ho =>
    cases zq ho
    have ev : a.tmps[22]? = some (.pointer (some ⟨q, 0, none⟩)) := Zag (D := fun j => D (opO j)) ha hsz Lh hl 0 (by decide) (zd hd 0)
    exact zx (.pointer (some ⟨q, 0, none⟩)) (by simp [execOp, ev, go_sem]) ⟨_, z, g, vc, zp 9 ha Lh hsz, zh Lh, fun j hj h => Za5 (D := fun j => D (opO j)) Lh (by decide) hl j hj (h.imp_left (fun e => Zbi (k := 9) e)), zl hK, hS, zl hR0, zs hZ, zs hR1, zr hR2, zr hP, zr hQ⟩
   | 11, ho =>
    cases zq ho
    have ev : a.tmps[31]? = some (.pointer (some ⟨q, 0, none⟩)) := Zag (D := fun j => D (opO j)) ha hsz Lh hl 9 (by decide) (zd hd 10)
    exact zx (.pointer (some ⟨q, 5, none⟩)) (by simp [execOp, ev, go_sem]) ⟨_, z, g, vc, zp 10 ha Lh hsz, zh Lh, fun j hj h => Za5 (D := fun j => D (opO j)) Lh (by decide) hl j hj (h.imp_left (fun e => Zbi (k := 10) e)), zl hK, hS, zl hR0, zs hZ, zs hR1, zr hR2, zr hP, zr hQ⟩
   | 12, ho =>
    cases zq ho
    have ev : a.tmps[32]? = some (.pointer (some ⟨q, 5, none⟩)) := Zag (D := fun j => D (opO j)) ha hsz Lh hl 10 (by decide) (zd hd 11)
    have ev' : a.tmps[29]? = some (.slice (some ⟨g, 0, none⟩) (x.kids.length + 1) vc) := Zag (D := fun j => D (opO j)) ha hsz Lh hl 7 (by decide) (zd hd 7)
    have e1 := hK.resolve_left hn
    obtain ⟨z0, z1, z2, z3, z4, z5, zf⟩ := Zae e1
    have S5 := St.cell w' q 5 (.slice (some ⟨g, 0, none⟩) (x.kids.length + 1) vc)
    refine stq w' 32 29 rfl rfl q 5 _ _ _ (Zav ev) (Zav ev') z5 (zf 5) ?_
    have E5 : (w'.setCell ⟨q, 5, none⟩ (.slice (some ⟨g, 0, none⟩) (x.kids.length + 1) vc)).heap[q]? = some (.cells #[.int .i64 x.kind, .string (strOfNums x.text), .int .i64 (x.pos : Int), .int .i64 (x.n : Int), .slice oa x.names.length oc, .slice (some ⟨g, 0, none⟩) (x.kids.length + 1) vc] 25) := by
       rw [heap_setCell_same w' q 5 _ _ _ e1]
       simp
    exact ⟨l, z, g, vc, ha, Lh, fun j hj h => hl j hj (h.resolve_left (opO_12 hj)), .inl (.inl rfl), hS.step G9 (Kq.of_st S5 (.inl rfl)), .inl (.inr (zd hd 7)), zj (zd hd 7), fun h h' => (hR1 (h.resolve_left (by decide)) (fun k => h' (.inr k))).keep (fun b hb _ => S5.block b (fun e => G9.nq (e ▸ hb))), fun h => (hR2 (h.resolve_left (by decide))).keep (fun b hb _ => S5.block b (fun e => G9.nq (e ▸ hb))), zr hP, fun _ => E5⟩
   | i + 13, ho => simp at ho
  rintro D a w' ⟨l, z, g, vc, ha, Lh, hl, hK, hS, hR0, hZ, hR1, hR2, hP, hQ⟩ hall
  have R2 := hR2 (hall 9 (by decide))
  have P2 := hP (hall 7 (by decide))
  have Q2 := hQ (hall 12 (by decide))
  obtain ⟨v0, v1, v2, v3, v4, v5, v6, v7, v8, v9, v10, rfl⟩ := zL11 Lh
  subst hA
  have hfr : a = _ := ha
  rw [hfr]
  clear hfr ha
  simp only [Zaj, yA, yB, yC, yD, yE, yF, yG, yH]
  clear hl Lh hK hR0 hZ hR1 hR2 hP hQ hall
  clear hsz s1 s5
  have KZ : Zdo w' A q (x.kid y) := by
   have hkl : (x.kid y).kids.length = x.kids.length + 1 := by simp [Nd.kid, Nd.kids]
   refine ⟨oa, oc, some ⟨g, 0, none⟩, vc, ?_, ?_, ?_⟩
   ·rw [Q2]; simp [Nd.kid, Nd.kind, Nd.text, Nd.pos, Nd.n, Nd.names, Nd.kids]
   ·rw [hkl]; exact hS.sn.imp (fun b hb hh => ⟨⟨hh.1.1, fun h hg => (P2 h hg).elim (hh.1.2 h) (fun k => by have := hh.2; omega)⟩, rfl⟩)
   rw [hkl]; exact R2
  obtain ⟨E5, hrd, hfr, _, _⟩ := hS
  have F9 := F.trans hfr zo
  have hB9 : B ≤ w'.heap.size := by have := hfr.size; omega
  have hkl : (x.kid y).kids.length = x.kids.length + 1 := by simp [Nd.kid, Nd.kids]
  have hkn : (x.kid y).names.length ≤ i := hxn.out.1
  have hkt : (x.kid y).text.length ≤ 50000000 := hxn.out.2
  have hq5p : q5 ≠ p := by have := G.hp; omega
  clear R2 P2 Q2 Ek Ekd rkd hSd G9 h F
  by_cases hk14 : kdW W j = 14
  ·go_wp2_with fail
   refine (Zdc hrd (S.lt hj.2) 14 hk14).mono ?_
   rintro e w3 ⟨rfl, hr3, F3⟩
   have hjE : j < E := S.ends.lt (by rw [hk14]; decide)
   replace E5 := (F3.block q5 (lt_of_block E5) hq5p).trans E5
   obtain ⟨z0, z1, z2, z3, z4, z5, zf⟩ := Zae E5
   replace KZ := KZ.fr F3 hqp hAp
   replace F9 := F9.trans F3 hB9
   clear E5 F3 hrd
   by_cases hkr : y.kind = 11
   ·have hkb : (y.kind == 11) = true := by simp [hkr]
    go_wp2
    exact bodyPost_ret (v := .bool true) (by simp [results, go_sem]) rfl ⟨_, hR.out _ (Zht hr hk hk1 hk14 hkr), ⟨rfl, KZ.nd (by omega) (by omega) (by omega), hr3⟩, F9⟩
   have hkb : (y.kind == 11) = false := by simp [hkr]
   go_wp2
   go_roundw
   case rel => exact ⟨j + 1, x.kid y, KZ, hr3, F9, by omega, by omega, by omega, ⟨hkn, hkt⟩, fun r hr2 => hR.out r (Zjb hr hr2 hk hk1 hk14 hkr)⟩
   case measure => rw [hr3.atOf, hat]; omega
  go_wp2_with fail
  refine (Zem hrd (S.lt hj.2) 14 hk14).mono ?_
  rintro e w3 ⟨rfl, hr3, F3⟩
  replace KZ := KZ.fr F3 hqp hAp
  replace F9 := F9.trans F3 hB9
  go_wp2
  exact bodyPost_ret (v := .bool true) (by simp [results, go_sem]) rfl ⟨_, hR.out _ (Zf6 hr hk hk1 hk14), ⟨rfl, KZ.nd (by omega) (by omega) (by omega), hr3⟩, F9⟩
end
end Go.Proofs.YtncfmhlikmibaaaGreatDoor
