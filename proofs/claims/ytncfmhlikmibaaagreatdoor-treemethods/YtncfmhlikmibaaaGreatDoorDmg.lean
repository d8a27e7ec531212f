/- The document's parser: a message (one name, one sign), append of what a call reads. -/
import Derived.Test.YtncfmhlikmibaaaGreatDoorDke
import Derived.Test.YtncfmhlikmibaaaGreatDoorNam
namespace Go.Proofs.YtncfmhlikmibaaaGreatDoor
open Go.RowKit
set_option maxRecDepth 100000
set_option maxHeartbeats 16000000
section
theorem Zhf (k : Int) (s : ByteArray) (p : Int) (w : World) : (Instr.field 78 (.agg #[.int .i64 k, .string s, .int .i64 p]) 1).run Tryz.prog w = .ok (.string s) w := by
 simp [Instr.field, asAgg, go_sem]
def RsR (W : List Tk) (q : Qy) (y : Nd) (iz : Nat) (ez : Int) (tz : Nat) : Prop :=
 (ez = 0 ∧ tz = 0 ∧ Zaa W q (.ok y iz)) ∨ (ez ≠ 0 ∧ ∃ j, Zaa W q (.er j ez) ∧ tz = psW W j)
def ConV (f p : Nat) (W : List Tk) (i0 d0 : Nat) (e0 : Int) (t0 : Nat) (Rel : Nd → Nat → Int → Nat → Prop) : Prop :=
 ∀ w, Pr w p W i0 d0 e0 t0 → Calls Tryz.prog f #[.pointer (some ⟨p, 0, none⟩)] w fun e w' => ∃ y u iz ez tz, e = .returned u ∧ NdV (fun b => w.heap.size ≤ b) w' y u ∧ Pr w' p W iz d0 ez tz ∧ iz < W.length ∧ Fr p w.heap.size w w' ∧ Rel y iz ez tz
variable {W : List Tk} {d p : Nat} {w : World}
theorem Zdk.v {f i : Nat} {q : Qy} (h : Zdk f W q i d) (hq : ∀ y j, Zaa W q (.ok y j) → j < W.length) : ConV f p W i d 0 0 (RsR W q) := by
 intro w hp
 refine (h w p hp).mono ?_
 rintro e w' ⟨r, hr, ha, F⟩
 cases r with
 | ok x j =>
  obtain ⟨v, he, hv, h1⟩ := ha
  exact ⟨x, v, j, 0, 0, he, hv, h1, hq _ _ hr, F, .inl ⟨rfl, rfl, hr⟩⟩
 | er j c =>
  obtain ⟨v, x, i', he, hv, h1, hi, hc⟩ := ha
  exact ⟨x, v, i', c, _, he, hv, h1, hi, F, .inr ⟨hc, j, hr, rfl⟩⟩
theorem Zeg (w : World) {o : Oper} {a : Act} {K : Act → World → Prop} {Q : Exit → Act → World → Prop} (x : Operand) (ho : o.op = .buildSlice 29 1 #[(0, x)]) (k : Int) (s : ByteArray) (p n : Int) (na : Option Addr) (nl nc : Nat) (ka : Option Addr) (kl kc : Nat) (hx : a.eval x = .agg #[.int .i64 k, .string s, .int .i64 p, .int .i64 n, .slice na nl nc, .slice ka kl kc])
  (h : K (a.put o.dst (.slice (some ⟨w.heap.size, 0, none⟩) 1 1)) (w.alloc (.cells #[.int .i64 k, .string s, .int .i64 p, .int .i64 n, .slice na nl nc, .slice ka kl kc] 31))) : o.wp Tryz.prog a w K Q := by
 obtain ⟨i, hi, hz, hsize, hby⟩ := Zb1 Znf
 refine wp_buildSlice 29 31 1 _ ho #[.int .i64 k, .string s, .int .i64 p, .int .i64 n, .slice na nl nc, .slice ka kl kc] i _ Tryz.underlying29 hi hz (by rw [hsize]; decide) (by rw [hsize]; decide) ?_ h
 rw [Array.toList_map]
 show Instr.fill _ _ [(0, a.eval x)] = _
 rw [hx, hsize]
 first | kernel_rfl | simp [Instr.fill, Value.cells] | decide
theorem Zeh (w : World) {o : Oper} {a : Act} {K : Act → World → Prop} {Q : Exit → Act → World → Prop} (s x : Operand) (ho : o.op = .call { callee := .builtin .append, args := #[s, x], argTypes := #[29, 29] }) {A : Nat → Prop} {v : Value} {xs : List Nd} {g : Nat} (hs : a.eval s = v) (hx : a.eval x = .slice (some ⟨g, 0, none⟩) 1 1) (q1 : Zbu w A v xs) {v0 v1 v2 v3 v4 v5 : Value} (hg : w.heap[g]? = some (.cells #[v0, v1, v2, v3, v4, v5] 31)) {y : Nd} {A' : Nat → Prop} (hy : NdV A' w y (.agg #[v0, v1, v2, v3, v4, v5])) (hA : ∀ b, b < w.heap.size → A' b ∨ b = g → A b ∧ ∀ q, v.ownBlock = some q → b ≠ q) (hn : xs.length ≤ 500000) (hbase : ∀ b, w.heap.size ≤ b → A b)
  (h : ∀ (va : Option Addr) (vc : Nat) w', Zbu w' A (.slice va (xs.length + 1) vc) (xs ++ [y]) → Kp v w w' → (∀ g, (Value.slice va (xs.length + 1) vc).ownBlock = some g → v.ownBlock = some g ∨ w.heap.size ≤ g) → K (a.put o.dst (.slice va (xs.length + 1) vc)) w') : o.wp Tryz.prog a w K Q := by
 obtain ⟨v', w', hr, r1, r2, r3⟩ := Zho w o.type (ys := [y]) q1 (Zqg hg (hA g (lt_of_block hg) (.inr rfl))) (KsF.one (hy.mono fun b hb h => hA b hb (.inl h))) (by simp only [List.length_singleton]; omega) hbase
 obtain ⟨va, vc, rfl⟩ := r1.shape
 have hl : (xs ++ [y]).length = xs.length + 1 := by simp
 rw [hl] at r1 r3 hr
 exact Lib.wp_append_run w s x 29 29 ho _ _ hs hx _ w' hr (h va vc w' r1 r2 r3)
theorem Zca.put2 {A : Nat → Prop} {q : Nat} {x y : Nd} {na ka va : Option Addr} {nc kc vc : Nat} (hxn : x.names = []) (E : w.heap[q]? = some (.cells #[.int .i64 x.kind, .string (strOfNums x.text), .int .i64 (x.pos : Int), .int .i64 (x.n : Int), .slice na x.names.length nc, .slice ka x.kids.length kc] 31)) (hnc : x.names.length ≤ nc ∧ nc ≤ maxLen ∧ (na = none → nc = 0)) (R : Zbu w A (.slice va (x.kids.length + 1) vc) (x.kids ++ [y])) (hA : ¬ A q) :
  Zca (w.setCell ⟨q, 5, none⟩ (.slice va (x.kids.length + 1) vc)) A q (x.kid y) := by
 have S := St.cell w q 5 (.slice va (x.kids.length + 1) vc)
 have hkl : (x.kid y).kids.length = x.kids.length + 1 := by simp [Nd.kid, Nd.kids]
 have hnl : (x.kid y).names = x.names := rfl
 refine ⟨na, nc, va, vc, ?_, ?_, ?_⟩
 ·rw [heap_setCell_same w q 5 _ _ _ E]
  simp [Nd.kid, Nd.kind, Nd.text, Nd.pos, Nd.n, Nd.names, Nd.kids]
 ·rw [hnl]
  exact ⟨hnc.1, hnc.2.1, hnc.2.2, fun h0 => absurd h0 (by rw [hxn]; simp)⟩
 rw [hkl]
 exact R.keep (fun b hb _ => S.block b (fun e => hA (e ▸ hb)))
theorem Zq4 {E : Nat} (S : Src W E) {n0 : Nat} (hi : n0 < W.length) (hk : kdW W n0 = 1) (hlt : n0 < E) (h : Pr w p W n0 d 0 0) :
  Calls Tryz.prog 104 #[.pointer (some ⟨p, 0, none⟩)] w fun e w' => ∃ z u iz ez tz, e = .returned u ∧ NdV (fun b => w.heap.size ≤ b) w' z u ∧ z.kids.length ≤ 6000 ∧ Pr w' p W iz d ez tz ∧ iz < W.length ∧ Fr p w.heap.size w w' ∧ Zo0 W n0 d z iz ez tz := by
 have hpl := h.lt
 have htx := S.txt n0
 go_enter Tryz.func104, Tryz.ntmps104
 go_wp2_with (refine Zdn _ rfl rfl ?_)
 intro q w1 E1 hq B1
 replace h := h.bel B1
 go_wp2_with fail
 refine (Zb3 h hi).mono ?_
 rintro e w2 ⟨rfl, B2⟩
 replace h := h.bel B2
 replace E1 := (B2.block _ (lt_of_block E1)).trans E1
 have C := Zab B1 zo B2
 have hl1 := lt_of_block E1
 clear B1 B2
 unfold Zdh
 go_wp2_with (refine Zid _ rfl rfl ?_)
 intro t' w3 E3 ht B3
 go_wp2_with (refine Zgf _ rfl _ _ rfl rfl t' _ _ _ rfl rfl E3 ?_)
 intro w4 E4 S4
 have D4 : Below w2.heap.size w2 w4 := B3.trans (S4.below ht)
 replace h := h.bel D4
 replace E1 := (D4.block _ hl1).trans E1
 replace C := Zab C zo D4
 have hs24 := D4.size
 clear D4 B3 S4 E3
 obtain ⟨y0, y1, y2, yf⟩ := Za1 E4
 go_wp2_with (refine Zb5 rfl rfl rfl 4 rfl rfl rfl (fun _ => rfl) (fun _ => rfl) ?_)
 intro q4 w5 E5 hq4 B5
 replace h := h.bel B5
 replace E1 := (B5.block _ (lt_of_block E1)).trans E1
 replace E4 := (B5.block _ (lt_of_block E4)).trans E4
 replace C := Zab C zo B5
 have hs45 := B5.size
 have B := Below.refl w5.heap.size w5
 have hl5 := lt_of_block E5
 clear B5 y0 y1 y2 yf
 go_wp2_with fail
 refine (Zad (h.bel B) hi 1).mono ?_
 rintro e u ⟨rfl, B'⟩
 replace B := Zab B zo B'
 clear B'
 rw [show (kdW W n0 == 1) = true by simp only [beq_iff_eq]; omega]
 replace h := h.bel B
 replace E1 := (B.block _ (lt_of_block E1)).trans E1
 replace E5 := (B.block _ hl5).trans E5
 replace C := Zab C zo B
 have hsu := B.size
 clear B
 have f1 := Zhf
 have hC := C.size
 go_wp2_with fail
 refine (Za9 h hi (by rw [hk]; decide)).mono ?_
 rintro e w7 ⟨rfl, h7, F7⟩
 replace E1 := (F7.block _ (lt_of_block E1) (by omega)).trans E1
 replace E5 := (F7.block _ (lt_of_block E5) (by omega)).trans E5
 have F := (Fr.of_below C).thn zo F7
 have hs7 := F7.size
 unfold Zdh
 obtain ⟨z0, z1, z2, z3, z4, z5, zf⟩ := Zac E5
 have zf1 := zf 1
 go_upto_region 5 with fail
 have S8 := St.cell w7 q4 1 (.string (strOfNums (txW W n0)))
 have E6 := heap_setCell_same w7 q4 1 _ _ (.string (strOfNums (txW W n0))) E5
 replace h7 := h7.st S8 (by omega)
 replace E1 := (S8.block _ (by omega)).trans E1
 replace F := F.trans (Fr.of_below (S8.below (B := w.heap.size) (by omega))) zo
 have hs8 := S8.size
 clear z0 z1 z2 z3 z4 z5 zf zf1 E5 S8 h F7
 generalize w7.setCell ⟨q4, 1, none⟩ (.string (strOfNums (txW W n0))) = wS at *
 simp only [List.setIfInBounds_toArray, List.set_cons_zero, List.set_cons_succ] at E6
 obtain ⟨z0, z1, z2, z3, z4, z5, zf⟩ := Zac E6
 go_wp2_with (refine Za8 rfl rfl rfl rfl rfl E1 ?_)
 intro wz Ez Sz
 go_wp2
 exact zT 2 (by rfl) (by rfl) (Zau Ez) (by rfl) ⟨Zda (txW W n0) (psW W n0) [], _, n0 + 1, 0, 0, rfl, NdV.leaf (by omega), Nat.zero_le _, h7.st Sz (by omega), S.lt hlt, F.trans (Fr.of_below (Sz.below hq)) zo, .inl ⟨rfl, rfl, Zd6 hk⟩⟩
def dm3V (x y : Nd) (p q4 : Nat) (pa ma la va : Option Addr) (pc mc lc vc g : Nat) (j : Nat) : Value :=
 ([.pointer (some ⟨q4, 5, none⟩),
  .slice pa x.kids.length pc,
  .pointer (some ⟨p, 0, none⟩),
  .agg #[.int .i64 y.kind, .string (strOfNums y.text), .int .i64 (y.pos : Int), .int .i64 (y.n : Int), .slice ma y.names.length mc, .slice la y.kids.length lc],
  .slice (some ⟨g, 0, none⟩) 1 1,
  .slice va (x.kids.length + 1) vc,
  .pointer (some ⟨q4, 5, none⟩)] : List Value).getD j undef
theorem Zq3 {E : Nat} (S : Src W E) {n0 : Nat} (hi : n0 < W.length) (hk : kdW W n0 = 3) (H : ∀ p, ConV 123 p W (n0 + 1) d 0 0 (RsR W (.una (n0 + 1) d))) (h : Pr w p W n0 d 0 0) :
  Calls Tryz.prog 104 #[.pointer (some ⟨p, 0, none⟩)] w fun e w' => ∃ z u iz ez tz, e = .returned u ∧ NdV (fun b => w.heap.size ≤ b) w' z u ∧ z.kids.length ≤ 6000 ∧ Pr w' p W iz d ez tz ∧ iz < W.length ∧ Fr p w.heap.size w w' ∧ Zo0 W n0 d z iz ez tz := by
 have hpl := h.lt
 have htx := S.txt n0
 go_enter Tryz.func104, Tryz.ntmps104
 go_wp2_with (refine Zdn _ rfl rfl ?_)
 intro q w1 E1 hq B1
 replace h := h.bel B1
 go_wp2_with fail
 refine (Zb3 h hi).mono ?_
 rintro e w2 ⟨rfl, B2⟩
 replace h := h.bel B2
 replace E1 := (B2.block _ (lt_of_block E1)).trans E1
 have C := Zab B1 zo B2
 have hl1 := lt_of_block E1
 clear B1 B2
 unfold Zdh
 go_wp2_with (refine Zid _ rfl rfl ?_)
 intro t' w3 E3 ht B3
 go_wp2_with (refine Zgf _ rfl _ _ rfl rfl t' _ _ _ rfl rfl E3 ?_)
 intro w4 E4 S4
 have D4 : Below w2.heap.size w2 w4 := B3.trans (S4.below ht)
 replace h := h.bel D4
 replace E1 := (D4.block _ hl1).trans E1
 replace C := Zab C zo D4
 have hs24 := D4.size
 clear D4 B3 S4 E3
 obtain ⟨y0, y1, y2, yf⟩ := Za1 E4
 go_wp2_with (refine Zb5 rfl rfl rfl 4 rfl rfl rfl (fun _ => rfl) (fun _ => rfl) ?_)
 intro q4 w5 E5 hq4 B5
 replace h := h.bel B5
 replace E1 := (B5.block _ (lt_of_block E1)).trans E1
 replace E4 := (B5.block _ (lt_of_block E4)).trans E4
 replace C := Zab C zo B5
 have hs45 := B5.size
 have B := Below.refl w5.heap.size w5
 have hl5 := lt_of_block E5
 clear B5 y0 y1 y2 yf
 go_wp2_with fail
 refine (Zad (h.bel B) hi 1).mono ?_
 rintro e u ⟨rfl, B'⟩
 replace B := Zab B zo B'
 clear B'
 rw [show (kdW W n0 == 1) = false by simp only [beq_eq_false_iff_ne, ne_eq]; omega]
 go_wp2_with fail
 refine (Zad (h.bel B) hi 3).mono ?_
 rintro e u ⟨rfl, B'⟩
 replace B := Zab B zo B'
 clear B'
 rw [show (kdW W n0 == 3) = true by simp only [beq_iff_eq]; omega]
 replace h := h.bel B
 replace E1 := (B.block _ (lt_of_block E1)).trans E1
 replace E5 := (B.block _ hl5).trans E5
 replace C := Zab C zo B
 have hsu := B.size
 clear B
 have f1 := Zhf
 have hC := C.size
 go_wp2_with fail
 refine (Za9 h hi (by rw [hk]; decide)).mono ?_
 rintro e w7 ⟨rfl, h7, F7⟩
 replace E1 := (F7.block _ (lt_of_block E1) (by omega)).trans E1
 replace E5 := (F7.block _ (lt_of_block E5) (by omega)).trans E5
 have F := (Fr.of_below C).thn zo F7
 have hs7 := F7.size
 unfold Zdh
 obtain ⟨z0, z1, z2, z3, z4, z5, zf⟩ := Zac E5
 have zf1 := zf 1
 go_upto_region 8 with fail
 have S8 := St.cell w7 q4 1 (.string (strOfNums (txW W n0)))
 have E6 := heap_setCell_same w7 q4 1 _ _ (.string (strOfNums (txW W n0))) E5
 replace h7 := h7.st S8 (by omega)
 replace E1 := (S8.block _ (by omega)).trans E1
 replace F := F.trans (Fr.of_below (S8.below (B := w.heap.size) (by omega))) zo
 have hs8 := S8.size
 clear z0 z1 z2 z3 z4 z5 zf zf1 E5 S8 h F7
 generalize w7.setCell ⟨q4, 1, none⟩ (.string (strOfNums (txW W n0))) = wS at *
 simp only [List.setIfInBounds_toArray, List.set_cons_zero, List.set_cons_succ] at E6
 have K : Zca wS (fun b => w2.heap.size ≤ b ∧ b ≠ q4) q4 (.mk 9 (txW W n0) (psW W n0) 0 [] []) := Zca.new E6
 clear E6
 obtain ⟨x, hx⟩ : ∃ x, Hid (x = Nd.mk 9 (txW W n0) (psW W n0) 0 [] []) := ⟨_, rfl⟩
 have hxn : x.names = [] := by rw [hx.out]; rfl
 have hx0 : Hid (x.kids = []) := by show x.kids = []; rw [hx.out]; rfl
 have hxl : x.kids.length ≤ 500000 := by rw [hx0.out]; simp
 rw [← hx.out] at K
 obtain ⟨oa, oc, pa, pc, Ek, sn, rk⟩ := K
 have hnc := And.intro sn.room (And.intro sn.most sn.nil0)
 have hw2 : w.heap.size ≤ w2.heap.size := by omega
 have hko2 : ∀ g, (Value.slice pa x.kids.length pc).ownBlock = some g → (w2.heap.size ≤ g ∧ g ≠ q4) ∧ g < wS.heap.size := fun g hg => rk.own hg
 have hko : ∀ g, (Value.slice pa x.kids.length pc).ownBlock = some g → w2.heap.size ≤ g := fun g hg => (hko2 g hg).1.1
 have hkq : (Value.slice pa x.kids.length pc).ownBlock ≠ some q4 := fun e => (hko2 _ e).1.2 rfl
 have hwS : w2.heap.size ≤ wS.heap.size := by omega
 have hw0 : w.heap.size ≤ w2.heap.size := by omega
 have hqp4 : q4 ≠ p := by omega
 have hpB : p < w2.heap.size := by omega
 have hAp : ¬ (w2.heap.size ≤ p ∧ p ≠ q4) := by omega
 have hq4S : q4 < wS.heap.size := lt_of_block Ek
 have hA6 : ∀ b, wS.heap.size ≤ b → (w2.heap.size ≤ b ∧ b ≠ q4) := fun b hb => ⟨by omega, by omega⟩
 have hAb : ∀ b g, wS.heap.size ≤ g → (wS.heap.size ≤ b ∨ b = g) → ((w2.heap.size ≤ b ∧ b ≠ q4) ∧ ∀ q, (Value.slice pa x.kids.length pc).ownBlock = some q → b ≠ q) := fun b g hg hb => ⟨⟨by omega, by omega⟩, fun q hq => by have := hko2 q hq; omega⟩
 have Ekd : wS.drew.heap[q4]? = _ := Ek
 have h6d : Pr wS.drew p W (n0 + 1) d 0 0 ∧ Fr p wS.heap.size wS wS.drew := ⟨h7.drewP, Fr.drewF _ _ _⟩
 have rkd : Zbu wS.drew (fun b => w2.heap.size ≤ b ∧ b ≠ q4) (.slice pa x.kids.length pc) x.kids := rk.keep (fun _ _ _ => rfl)
 clear sn rk
 go_wp2_with fail
 refine Zah fun A hA => ?_
 have hsz : A.tmps.size = 54 := by rw [hA]; rfl
 have s0 : A.tmps[0]? = some (.pointer (some ⟨p, 0, none⟩)) := by rw [hA]; rfl
 have s4 : A.tmps[4]? = some (.pointer (some ⟨q4, 0, none⟩)) := by rw [hA]; rfl
 refine zR1 (fun A D a w' => ∃ (l : List Value) (ma : Option Addr) (la : Option Addr) (va : Option Addr) (mc : Nat) (lc : Nat) (vc : Nat) (g : Nat) (y : Nd) (iz : Nat) (ez : Int) (tz : Nat), a = Zaj A 23 l ∧ l.length = 7 ∧ (∀ j, j < 7 → D j → l[j]? = some (dm3V x y p q4 pa ma la va pc mc lc vc g j)) ∧ (D 7 ∨ w'.heap[q4]? = some (.cells #[.int .i64 x.kind, .string (strOfNums x.text), .int .i64 (x.pos : Int), .int .i64 (x.n : Int), .slice oa x.names.length oc, .slice pa x.kids.length pc] 31)) ∧ (D 3 ∨ (Pr w' p W (n0 + 1) d 0 0 ∧ Fr p wS.heap.size wS w')) ∧ (D 5 ∨ Zbu w' (fun b => w2.heap.size ≤ b ∧ b ≠ q4) (.slice pa x.kids.length pc) x.kids) ∧ (D 3 → RsR W (.una (n0 + 1) d) y iz ez tz ∧ iz < W.length) ∧ (D 7 → ∃ w9, (Zbu w9 (fun b => w2.heap.size ≤ b ∧ b ≠ q4) (.slice va (x.kids.length + 1) vc) (x.kids ++ [y]) ∧ Pr w9 p W iz d ez tz ∧ Fr p w2.heap.size wS w9 ∧ (∀ g, (Value.slice va (x.kids.length + 1) vc).ownBlock = some g → (Value.slice pa x.kids.length pc).ownBlock = some g ∨ wS.heap.size ≤ g)) ∧ w' = w9.setCell ⟨q4, 5, none⟩ (.slice va (x.kids.length + 1) vc) ∧ w9.heap[q4]? = some (.cells #[.int .i64 x.kind, .string (strOfNums x.text), .int .i64 (x.pos : Int), .int .i64 (x.n : Int), .slice oa x.names.length oc, .slice pa x.kids.length pc] 31)) ∧ (D 3 → ¬ D 4 → NdV (fun b => wS.heap.size ≤ b) w' y (.agg #[.int .i64 y.kind, .string (strOfNums y.text), .int .i64 (y.pos : Int), .int .i64 (y.n : Int), .slice ma y.names.length mc, .slice la y.kids.length lc]) ∧ Pr w' p W iz d ez tz ∧ Fr p wS.heap.size wS w') ∧ (D 4 → ¬ D 5 → w'.heap[g]? = some (.cells #[.int .i64 y.kind, .string (strOfNums y.text), .int .i64 (y.pos : Int), .int .i64 (y.n : Int), .slice ma y.names.length mc, .slice la y.kids.length lc] 31) ∧ NdV (fun b => wS.heap.size ≤ b) w' y (.agg #[.int .i64 y.kind, .string (strOfNums y.text), .int .i64 (y.pos : Int), .int .i64 (y.n : Int), .slice ma y.names.length mc, .slice la y.kids.length lc]) ∧ Pr w' p W iz d ez tz ∧ Fr p wS.heap.size wS w' ∧ wS.heap.size ≤ g) ∧ (D 5 → ¬ D 7 → Zbu w' (fun b => w2.heap.size ≤ b ∧ b ≠ q4) (.slice va (x.kids.length + 1) vc) (x.kids ++ [y]) ∧ Pr w' p W iz d ez tz ∧ Fr p w2.heap.size wS w' ∧ (∀ g, (Value.slice va (x.kids.length + 1) vc).ownBlock = some g → (Value.slice pa x.kids.length pc).ownBlock = some g ∨ wS.heap.size ≤ g))) ?start ?step ?done
 case start => exact ⟨_, none, none, none, 0, 0, 0, 0, zNd, 0, 0, 0, zS 23 7 hsz, zG 23 7 hsz, zK, .inr (Ekd), .inr (h6d), .inr (rkd), zf, zf, zF, zF, zF⟩
 case step =>
  clear hA
  intro i o ho D a w' hI hn hcl hd
  obtain ⟨l, ma, la, va, mc, lc, vc, g, y, iz, ez, tz, ha, Lh, hl, hE, hN, hK, hM, hQ, hU, hG, hY⟩ := hI
  match i, ho with
  | 0, ho =>
   cases zq ho
   have ev : a.tmps[4]? = some (.pointer (some ⟨q4, 0, none⟩)) := zu 4 ha Lh hsz s4
   exact zx (.pointer (some ⟨q4, 5, none⟩)) (by simp [execOp, ev, go_sem]) ⟨_, ma, la, va, mc, lc, vc, g, y, iz, ez, tz, zp 0 ha Lh hsz, zh Lh, zk Lh hl, zl hE, zl hN, zl hK, zr hM, zr hQ, zs hU, zs hG, zs hY⟩
  | 1, ho =>
   cases zq ho
   have ev : a.tmps[23]? = some (.pointer (some ⟨q4, 5, none⟩)) := zv ha hsz Lh hl 0 hd
   have e1 := hE.resolve_left (fun h => hn (zc hcl 5 1 rfl (zc hcl 7 5 rfl h)))
   obtain ⟨z0, z1, z2, z3, z4, z5, _⟩ := Zac e1
   exact zx (.slice pa x.kids.length pc) (by simp [execOp, ev, go_sem, z5]) ⟨_, ma, la, va, mc, lc, vc, g, y, iz, ez, tz, zp 1 ha Lh hsz, zh Lh, zk Lh hl, zl hE, zl hN, zl hK, zr hM, zr hQ, zs hU, zs hG, zs hY⟩
  | 2, ho =>
   cases zq ho
   exact zm (zu 0 ha Lh hsz s0) ⟨_, ma, la, va, mc, lc, vc, g, y, iz, ez, tz, zp 2 ha Lh hsz, zh Lh, zk Lh hl, zl hE, zl hN, zl hK, zr hM, zr hQ, zs hU, zs hG, zs hY⟩
  | 3, ho =>
   cases zq ho
   have ev : a.tmps[25]? = some (.pointer (some ⟨p, 0, none⟩)) := zv ha hsz Lh hl 2 hd
   have hN0 := hN.resolve_left hn
   have e1 := hE.resolve_left (fun h => hn (zc hcl 4 3 rfl (zc hcl 5 4 rfl (zc hcl 7 5 rfl h))))
   have rk0 := hK.resolve_left (fun h => hn (zc hcl 4 3 rfl (zc hcl 5 4 rfl h)))
   refine Zan (f := 123) (args := #[.pointer (some ⟨p, 0, none⟩)]) (by simp [execOp, ev, go_sem]) ?_
   refine (H p w' hN0.1).mono ?_
   rintro e w6 ⟨y', u, iz', ez', tz', rfl, hu, h4, hiz, F4, hM4⟩
   refine ⟨_, rfl, ?_⟩
   obtain ⟨ma', mc', la', lc', _, rfl, _⟩ := NdV.parts hu
   have hsF := F4.size
   have hs60 := hN0.2.size
   exact ⟨_, ma', la', va, mc', lc', vc, g, y', iz', ez', tz', zp 3 ha Lh hsz, zh Lh, Zai (val' := dm3V x y' p q4 pa ma' la' va pc mc' lc' vc g) Lh (by decide) hl (fun j hj hne => match j, hj, hne with | 0, _, _ => rfl | 1, _, _ => rfl | 2, _, _ => rfl | 3, _, hne => absurd rfl hne | 4, _, _ => rfl | 5, _, _ => rfl | 6, _, _ => rfl | j + 7, _, _ => rfl), .inr ((F4.block q4 (lt_of_block e1) hqp4).trans e1), .inl (.inl rfl), .inr (rk0.keep (fun b hA hb => F4.block b hb (fun e => hAp (e ▸ hA)))), fun _ => ⟨hM4, hiz⟩, za (fun h => hn (zc hcl 4 3 rfl (zc hcl 5 4 rfl (zc hcl 7 5 rfl h)))), fun _ _ => ⟨hu.mono (fun b _ hb => (show wS.heap.size ≤ b from Nat.le_trans hs60 hb)), h4, hN0.2.trans F4 hs60⟩, zb (fun h => hn (zc hcl 4 3 rfl h)), zb (fun h => hn (zc hcl 4 3 rfl (zc hcl 5 4 rfl h)))⟩
  | 4, ho =>
   cases zq ho
   have ev : a.tmps[26]? = some (.agg #[.int .i64 y.kind, .string (strOfNums y.text), .int .i64 (y.pos : Int), .int .i64 (y.n : Int), .slice ma y.names.length mc, .slice la y.kids.length lc]) := zv ha hsz Lh hl 3 hd
   have U3 := hU (zd hd 3) hn
   have e1 := hE.resolve_left (fun h => hn (zc hcl 5 4 rfl (zc hcl 7 5 rfl h)))
   have rk0 := hK.resolve_left (fun h => hn (zc hcl 5 4 rfl h))
   refine Zeg w' _ rfl _ _ _ _ _ _ _ _ _ _ (by simpa [Act.eval] using Zav ev) ?_
   exact ⟨_, ma, la, va, mc, lc, vc, w'.heap.size, y, iz, ez, tz, zp 4 ha Lh hsz, zh Lh, Zai (val' := dm3V x y p q4 pa ma la va pc mc lc vc w'.heap.size) Lh (by decide) hl (fun j hj hne => match j, hj, hne with | 0, _, _ => rfl | 1, _, _ => rfl | 2, _, _ => rfl | 3, _, _ => rfl | 4, _, hne => absurd rfl hne | 5, _, _ => rfl | 6, _, _ => rfl | j + 7, _, _ => rfl), .inr ((Zbc.block q4 (lt_of_block e1)).trans e1), .inl (.inr (zd hd 3)), .inr (rk0.keep (fun b _ hb => Zbc.block b hb)), zr hM, za (fun h => hn (zc hcl 5 4 rfl (zc hcl 7 5 rfl h))), zi, fun _ _ => ⟨Zc0 w' _, U3.1.bel Zbc, U3.2.1.bel Zbc, U3.2.2.trans (Fr.of_below Zbc) U3.2.2.size, U3.2.2.size⟩, zb (fun h => hn (zc hcl 5 4 rfl h))⟩
  | 5, ho =>
   cases zq ho
   have ev : a.tmps[24]? = some (.slice pa x.kids.length pc) := zv ha hsz Lh hl 1 hd
   have ev' : a.tmps[27]? = some (.slice (some ⟨g, 0, none⟩) 1 1) := zv ha hsz Lh hl 4 hd
   have G4 := hG (zd hd 4) hn
   have e1 := hE.resolve_left (fun h => hn (zc hcl 7 5 rfl h))
   have rk0 := hK.resolve_left hn
   refine Zeh w' _ _ rfl (by simpa [Act.eval] using Zav ev) (by simpa [Act.eval] using Zav ev') rk0 G4.1 G4.2.1 (fun b hb hh => hAb b g G4.2.2.2.2 hh) hxl (fun b hb => hA6 b (Nat.le_trans G4.2.2.2.1.size hb)) ?_
   intro va' vc' w9 R9 K9 pl9
   have hs9 := K9.size
   exact ⟨_, ma, la, va', mc, lc, vc', g, y, iz, ez, tz, zp 5 ha Lh hsz, zh Lh, Zai (val' := dm3V x y p q4 pa ma la va' pc mc lc vc' g) Lh (by decide) hl (fun j hj hne => match j, hj, hne with | 0, _, _ => rfl | 1, _, _ => rfl | 2, _, _ => rfl | 3, _, _ => rfl | 4, _, _ => rfl | 5, _, hne => absurd rfl hne | 6, _, _ => rfl | j + 7, _, _ => rfl), .inr ((K9.block q4 (lt_of_block e1) hkq).trans e1), .inl (.inr (zc hcl 4 3 rfl (zd hd 4))), .inl (.inl rfl), zr hM, za (fun h => hn (zc hcl 7 5 rfl h)), zj (zd hd 4), zi, fun _ _ => ⟨R9, G4.2.2.1.below (K9.below (B := w2.heap.size) (by have := G4.2.2.2.1.size; omega) (fun g' hg' => hko g' hg')) hpB, (G4.2.2.2.1.low hwS).trans (Fr.of_below (K9.below (B := w2.heap.size) (by have := G4.2.2.2.1.size; omega) (fun g' hg' => hko g' hg'))) zo, fun g' hg' => (pl9 g' hg').imp_right (fun h => Nat.le_trans G4.2.2.2.1.size h)⟩⟩
  | 6, ho =>
   cases zq ho
   have ev : a.tmps[4]? = some (.pointer (some ⟨q4, 0, none⟩)) := zu 4 ha Lh hsz s4
   exact zx (.pointer (some ⟨q4, 5, none⟩)) (by simp [execOp, ev, go_sem]) ⟨_, ma, la, va, mc, lc, vc, g, y, iz, ez, tz, zp 6 ha Lh hsz, zh Lh, zk Lh hl, zl hE, zl hN, zl hK, zr hM, zr hQ, zs hU, zs hG, zs hY⟩
  | 7, ho =>
   cases zq ho
   have ev : a.tmps[29]? = some (.pointer (some ⟨q4, 5, none⟩)) := zv ha hsz Lh hl 6 hd
   have ev' : a.tmps[28]? = some (.slice va (x.kids.length + 1) vc) := zv ha hsz Lh hl 5 hd
   have e1 := hE.resolve_left hn
   obtain ⟨z0, z1, z2, z3, z4, z5, zf⟩ := Zac e1
   have zf5 := zf 5
   have L := hY (zd hd 5) hn
   refine Zbj (w' := w'.setCell ⟨q4, 5, none⟩ (.slice va (x.kids.length + 1) vc)) (by simp [execOp, Act.eval, ev, ev', go_sem, z5, zf5]) ?_
   exact ⟨l, ma, la, va, mc, lc, vc, g, y, iz, ez, tz, ha, Lh, zJ hl, .inl (.inl rfl), .inl (.inr (zc hcl 4 3 rfl (zc hcl 5 4 rfl (zd hd 5)))), .inl (.inr (zd hd 5)), zr hM, fun _ => ⟨w', L, rfl, e1⟩, zj (zc hcl 5 4 rfl (zd hd 5)), zj (zd hd 5), zi⟩
  | i + 8, ho => simp at ho
 rintro D a w' ⟨l, ma, la, va, mc, lc, vc, g, y, iz, ez, tz, ha, Lh, hl, hE, hN, hK, hM, hQ, hU, hG, hY⟩ hall
 obtain ⟨v0, v1, v2, v3, v4, v5, v6, rfl⟩ := zL7 Lh
 obtain ⟨w9, ⟨R9, h9, F9, pl9⟩, ew, E9⟩ := hQ (hall 7 (by decide))
 obtain ⟨hRel, hiz⟩ := hM (hall 3 (by decide))
 subst hA
 have hfr : a = _ := ha
 rw [hfr]
 clear hfr ha
 simp only [Zaj, yA, yB, yC, yD, yE, yF, yG, yH]
 clear hl hE hN hK hU hG hY hQ hM hall
 have S9 := St.cell w9 q4 5 (.slice va (x.kids.length + 1) vc)
 have K9 := Zca.put2 hxn E9 hnc R9 (by omega)
 replace h9 := h9.st S9 (by omega)
 replace E1 := (F9.block q (by omega) (by omega)).trans E1
 replace E1 := (S9.block q (by omega)).trans E1
 replace F := (F.trans F9 (by omega)).trans (Fr.of_below (S9.below (B := w.heap.size) (by omega))) zo
 rw [← ew] at K9 h9 E1 F S9
 have hsz9 := S9.size
 clear ew S9 E9 F9 R9 pl9
 have hkl : (x.kid y).kids.length = x.kids.length + 1 := by simp [Nd.kid, Nd.kids]
 have hx0l : x.kids.length = 0 := by rw [hx0.out]; rfl
 obtain ⟨na, nc, ka, kc, Ek, hv⟩ := K9.nd (by rw [show (x.kid y).names = x.names from rfl, hxn]; simp) (by omega) (by rw [show (x.kid y).text = x.text from rfl, hx.out]; simp only [Nd.text]; omega)
 have hk6 : Hid ((x.kid y).kids.length ≤ 6000) := by show (x.kid y).kids.length ≤ 6000; omega
 clear hkl hx0l
 obtain ⟨z0, z1, z2, z3, z4, z5, zf⟩ := Zac Ek
 go_wp2_with (refine Za8 rfl rfl rfl rfl rfl E1 ?_)
 intro wz Ez Sz
 go_wp2
 refine zT 2 (by rfl) (by rfl) (Zau Ez) (by rfl) ⟨x.kid y, _, iz, ez, tz, rfl, hv.imp (A' := fun b => w.heap.size ≤ b) (fun b _ hA => ⟨by omega, Sz.block b (by omega)⟩) _ _, hk6.out, h9.st Sz (by omega), hiz, F.trans (Fr.of_below (Sz.below hq)) zo, ?_⟩
 rcases hRel with ⟨g1, g2, g3⟩ | ⟨g1, m, g3, g4⟩
 ·exact .inl ⟨g1, g2, by rw [hx.out]; exact Zjk g3 hk⟩
 exact .inr ⟨g1, m, Zf9 g3 hk, g4⟩
end
end Go.Proofs.YtncfmhlikmibaaaGreatDoor
