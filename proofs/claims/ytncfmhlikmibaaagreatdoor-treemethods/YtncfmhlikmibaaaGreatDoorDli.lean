/- The document's parser: list. -/
import Derived.Test.YtncfmhlikmibaaaGreatDoorDxp
import Derived.Test.YtncfmhlikmibaaaGreatDoorCas
namespace Go.Proofs.YtncfmhlikmibaaaGreatDoor
open Go.RowKit
set_option maxRecDepth 100000
set_option maxHeartbeats 16000000
section
variable {E d : Nat} {W : List Tk} {w : World}
theorem Zbu.str {A : Nat → Prop} {v : Value} {xs : List Nd} (h : Zbu w A v xs) : Zbu w (fun b => A b ∧ b < w.heap.size) v xs := by
 have ho := fun g hg => h.own (g := g) hg
 obtain ⟨fl, h1, hA, h2⟩ := h
 exact ⟨fl, h1, ho, h2.imp (fun b hb hh => ⟨⟨⟨hh.1, hb⟩, hh.2⟩, rfl⟩) _ _⟩
theorem Zbu.mono {A A' : Nat → Prop} {v : Value} {xs : List Nd} (h : Zbu w A v xs) (hA : ∀ b, A b → A' b) : Zbu w A' v xs := by
 obtain ⟨fl, h1, ho, h2⟩ := h
 exact ⟨fl, h1, fun g hg => hA g (ho g hg), h2.imp (fun b _ hh => ⟨⟨hA b hh.1, hh.2⟩, rfl⟩) _ _⟩
def LisR (W : List Tk) (n0 d : Nat) (x : Nd) (i : Nat) (ei : Int) (ti : Nat) : Prop :=
 (ei = 0 → ti = 0 ∧ n0 < i ∧ x.kids.length ≤ i ∧ d < 40 ∧ ∀ r, Zaa W (.elems i (d + 1) x) r → Zaa W (.list n0 d) r) ∧ (ei ≠ 0 → ∃ j, Zaa W (.list n0 d) (.er j ei) ∧ ti = psW W j)
theorem Zmp (S : Src W E) {n0 : Nat} (hd : d ≤ 40) (hk : kdW W n0 ≠ 0) {p : Nat} (h : Pr w p W n0 d 0 0) :
  Calls Tryz.prog 80 #[.pointer (some ⟨p, 0, none⟩)] w fun r w' => r = .returned (.tuple #[]) ∧ ∃ i1 e1 t1, Pr w' p W i1 (d + 1) e1 t1 ∧ i1 < W.length ∧ Fr p w.heap.size w w' ∧ LisR W n0 d (.mk 4 [] (psW W n0) 0 [] []) i1 e1 t1 := by
 have hl : n0 < E := S.ends.lt hk
 have hi := S.lt (Nat.le_of_lt hl)
 rcases Nat.lt_or_ge d 40 with hd' | hd'
 ·refine (Zd5 h hi hd' hk).mono ?_
  rintro e w' ⟨rfl, h1, F⟩
  exact ⟨rfl, n0 + 1, 0, 0, h1, S.lt hl, F, fun _ => ⟨rfl, by omega, Nat.zero_le _, hd', fun r hr => Zl0 hr (by omega)⟩, fun h => absurd rfl h⟩
 obtain rfl : d = 40 := by omega
 refine (Zff h hi).mono ?_
 rintro e w' ⟨rfl, h1, F⟩
 exact ⟨rfl, n0, 3, _, h1, hi, F, fun h => absurd h (by decide), fun _ => ⟨n0, Zhz rfl, rfl⟩⟩
def ElR (W : List Tk) (E i d : Nat) (y : Nd) (j : Nat) (ei : Int) (ti : Nat) : Prop :=
 (ei = 0 → ti = 0 ∧ i < j ∧ j ≤ E ∧ Zaa W (.elem i d) (.ok y j)) ∧ (ei ≠ 0 → ∃ m, ti = psW W m ∧ Zaa W (.elem i d) (.er m ei))
theorem ElR.leaf {i : Nat} {y : Nd} (h : Zaa W (.elem i d) (.ok y (i + 1))) (hl : i < E) : ElR W E i d y (i + 1) 0 0 := ⟨fun _ => ⟨rfl, Nat.lt_succ_self _, hl, h⟩, fun h => absurd rfl h⟩
theorem ElR.er {i m j : Nat} {y : Nd} {c : Int} (h : Zaa W (.elem i d) (.er m c)) (hc : c ≠ 0) : ElR W E i d y j c (psW W m) := ⟨fun h => absurd h hc, fun _ => ⟨m, rfl, h⟩⟩
theorem Zq6 (S : Src W E) (hT : ∀ i, ∀ c ∈ txW W i, 0 ≤ c ∧ c < 256) {n0 : Nat} (hd : d ≤ 40) (hk : kdW W n0 ≠ 0) (HL : ∀ j, n0 < j → j ≤ E → d < 40 → (kdW W j = 8 ∨ kdW W j = 17) → ConL W j (d + 1)) : ConL W n0 d := by
 intro w p h
 have hpl := h.lt
 have hwd : IntKind.i64.wrap (((d + 1 : Nat) : Int) - 1) = (d : Int) := by rw [IntKind.wrap_i64]; omega
 go_enter Tryz.func155, Tryz.ntmps155
 go_wp2_with (refine Zdn _ rfl rfl ?_)
 intro q w1 E1 hq B1
 replace h := h.bel B1
 have hl1 := lt_of_block E1
 go_wp2_with (refine Zb5 rfl rfl rfl 5 rfl rfl rfl (fun _ => rfl) (fun _ => rfl) ?_)
 intro q5 w2 E5 hq5 B2
 replace h := h.bel B2
 replace E1 := (B2.block _ hl1).trans E1
 have C := Zab B1 zo B2
 have hs1 := B1.size
 have hs2 := B2.size
 clear B1 B2
 have hl5 := lt_of_block E5
 go_wp2_with fail
 refine (Zmp S hd hk h).mono ?_
 rintro e w3 ⟨rfl, i1, e1, t1, h3, hi1, F3, hL0⟩
 have hL : Hid (LisR W n0 d (.mk 4 [] (psW W n0) 0 [] []) i1 e1 t1) := hL0
 replace E1 := (F3.block _ (lt_of_block E1) (by omega)).trans E1
 replace E5 := (F3.block _ hl5 (by omega)).trans E5
 have F := (Fr.of_below C).thn zo F3
 have hs3 := F3.size
 have K : Zca w3 (fun b => w1.heap.size ≤ b ∧ b ≠ q5) q5 (.mk 4 [] (psW W n0) 0 [] []) := Zca.new E5
 have hZ : Zge w3 q := ⟨_, _, _, _, _, _, E1⟩
 have hqp5 : q5 ≠ p := by omega
 have hAp : ¬ (w1.heap.size ≤ p ∧ p ≠ q5) := by omega
 clear E1 E5 C F3 hL0
 replace h := h3
 clear h3
 go_wp2_with fail
 go_loopw [] (fun wr => ∃ (i' : Nat) (x' : Nd) (ei : Int) (ti : Nat), Zca wr (fun b => w1.heap.size ≤ b ∧ b ≠ q5) q5 x' ∧ Zge wr q ∧ Pr wr p W i' (d + 1) ei ti ∧ Fr p w.heap.size w wr ∧ i' < W.length ∧ w3.heap.size ≤ wr.heap.size ∧ Hid (x'.names = [] ∧ x'.text = [] ∧ x'.kids.length ≤ 5002) ∧ Hid (LisR W n0 d x' i' ei ti)) (fun wr => Zi1 E wr p)
 case atStart => exact ⟨i1, _, e1, t1, K, hZ, h, F, hi1, zo, ⟨rfl, rfl, Nat.zero_le _⟩, hL⟩
 clear K hZ h F hL hi1
 obtain ⟨i', x, ei, ti, K, hZ, h, F, hi', hsr, hX, hG⟩ := hrel
 by_cases hei : ei ≠ 0
 ·skip
  have he := hei
  obtain ⟨j, hj, ht⟩ := hG.out.2 he
  have hjr : Hid (Zaa W (.list n0 d) (.er j ei) ∧ ti = psW W j) := ⟨hj, ht⟩
  have heb : (ei == 0) = false := by simp [he]
  clear hj ht hG
  go_wp2_with fail
  refine (Zax h hi' he 9).mono ?_
  rintro e w3 ⟨rfl, B3⟩
  have hs3 := B3.size
  replace K := K.bel B3
  replace hZ := hZ.keep (fun hl => B3.block _ hl)
  replace F := F.thn zo (Fr.of_below B3)
  replace h := h.bel B3
  clear B3
  obtain ⟨b0, off0, cc, c0, c1, c2, c3, c4, cf⟩ := h.cells
  go_wp2_with fail
  refine (Ze5 h hi' he 9).mono ?_
  rintro e w9 ⟨rfl, B9⟩
  have h9 := h.bel B9
  have F9 := Fr.of_below (p := p) B9
  clear c0 c1 c2 c3 c4 cf
  have hs9 := F9.size
  replace K := K.fr F9 hqp5 hAp
  replace hZ := hZ.keep (fun hl => F9.block q hl (by omega))
  replace F := F.thn zo F9
  obtain ⟨b0, off0, cc, c0, c1, c2, c3, c4, cf⟩ := h9.cells
  have f2 := cf 2
  go_upto_region 28 with fail
  have S9 := St.cell w9 p 2 (.int .i64 (d : Int))
  replace h9 := h9.setDepth d
  replace K := K.st S9 hqp5 hAp
  replace hZ := hZ.keep (fun hl => S9.block q (by omega))
  replace F := F.trans (S9.fr (B := w.heap.size)) zo
  have hs10 := S9.size
  clear c0 c1 c2 c3 c4 cf f2 S9
  generalize w9.setCell ⟨p, 2, none⟩ (.int .i64 (d : Int)) = w10 at *
  have hX' := hX.out
  obtain ⟨na, nc, ka, kc, Ek, hv⟩ := K.nd (by rw [hX'.1]; simp) (by omega) (by rw [hX'.2.1]; simp)
  clear hX'
  obtain ⟨z0, z1, z2, z3, z4, z5, _⟩ := Zac Ek
  obtain ⟨u0, u1, u2, u3, u4, u5, E2⟩ := hZ
  go_wp2_with (refine Za8 rfl rfl rfl rfl rfl E2 ?_)
  intro wz Ez Sz
  go_wp2
  have hvo := hv.imp (A' := fun b => w.heap.size ≤ b) (w' := wz) (fun b _ hA => ⟨by omega, Sz.block b (by omega)⟩) _ _
  have hzz := h9.st Sz (by omega)
  have hFF := F.trans (Fr.of_below (Sz.below hq)) zo
  exact zT 4 (by rfl) (by rfl) (Zau Ez) (by rfl) ⟨_, hjr.out.1, ⟨_, _, _, rfl, hvo, hzz.pos hjr.out.2, hi', he⟩, hFF⟩
 obtain rfl : ei = 0 := by omega
 by_cases h9k : kdW W i' = 9
 ·skip
  have hk9 : kdW W i' = 9 := h9k
  have hlt : i' < E := S.ends.lt (by rw [hk9]; decide)
  have hR : Hid (∀ r, Zaa W (.elems i' (d + 1) x) r → Zaa W (.list n0 d) r) := (hG.out.1 rfl).2.2.2.2
  obtain rfl : ti = 0 := (hG.out.1 rfl).1
  clear hG
  go_wp2_with fail
  refine (Zad h hi' 9).mono ?_
  rintro e w3 ⟨rfl, B3⟩
  rw [show (kdW W i' == 9) = true by simp [hk9]]
  have hs3 := B3.size
  replace K := K.bel B3
  replace hZ := hZ.keep (fun hl => B3.block _ hl)
  replace F := F.thn zo (Fr.of_below B3)
  replace h := h.bel B3
  clear B3
  go_wp2_with fail
  refine (Ze4 h hi' 9 hk9 (by decide)).mono ?_
  rintro e w9 ⟨rfl, h9, F9⟩
  have hs9 := F9.size
  replace K := K.fr F9 hqp5 hAp
  replace hZ := hZ.keep (fun hl => F9.block q hl (by omega))
  replace F := F.thn zo F9
  obtain ⟨b0, off0, cc, c0, c1, c2, c3, c4, cf⟩ := h9.cells
  have f2 := cf 2
  go_upto_region 28 with fail
  have S9 := St.cell w9 p 2 (.int .i64 (d : Int))
  replace h9 := h9.setDepth d
  replace K := K.st S9 hqp5 hAp
  replace hZ := hZ.keep (fun hl => S9.block q (by omega))
  replace F := F.trans (S9.fr (B := w.heap.size)) zo
  have hs10 := S9.size
  clear c0 c1 c2 c3 c4 cf f2 S9
  generalize w9.setCell ⟨p, 2, none⟩ (.int .i64 (d : Int)) = w10 at *
  have hX' := hX.out
  obtain ⟨na, nc, ka, kc, Ek, hv⟩ := K.nd (by rw [hX'.1]; simp) (by omega) (by rw [hX'.2.1]; simp)
  clear hX'
  obtain ⟨z0, z1, z2, z3, z4, z5, _⟩ := Zac Ek
  obtain ⟨u0, u1, u2, u3, u4, u5, E2⟩ := hZ
  go_wp2_with (refine Za8 rfl rfl rfl rfl rfl E2 ?_)
  intro wz Ez Sz
  go_wp2
  have hvo := hv.imp (A' := fun b => w.heap.size ≤ b) (w' := wz) (fun b _ hA => ⟨by omega, Sz.block b (by omega)⟩) _ _
  have hzz := h9.st Sz (by omega)
  have hFF := F.trans (Fr.of_below (Sz.below hq)) zo
  exact zT 4 (by rfl) (by rfl) (Zau Ez) (by rfl) ⟨_, hR.out _ (Zh3 hk9), ⟨_, rfl, hvo, hzz⟩, hFF⟩
 obtain ⟨rfl, hni, hxk, hd40, hR0⟩ := hG.out.1 rfl
 have hR : Hid (∀ r, Zaa W (.elems i' (d + 1) x) r → Zaa W (.list n0 d) r) := hR0
 have hxn : x.names = [] := hX.out.1
 have hxtt : x.text = [] := hX.out.2.1
 have hE5 := S.small
 have hiE : i' ≤ E := by have := S.ends.len; omega
 have htx := S.txt i'
 have hat : Zi1 E wr p = _ := h.mea
 clear hG hR0 hX
 go_wp2_with fail
 refine (Zad h hi' 9).mono ?_
 rintro e wZ ⟨rfl, BZ⟩
 rw [show (kdW W i' == 9) = false by simp [h9k]]
 have hsZ := BZ.size
 replace K := K.bel BZ
 replace h := h.bel BZ
 replace hZ := hZ.keep (fun hl => BZ.block _ hl)
 replace F := F.thn zo (Fr.of_below BZ)
 clear BZ
 obtain ⟨b0, off0, cc, c0, c1, c2, c3, c4, cf⟩ := h.cells
 go_wp2_with fail
 refine (Zb3 h hi').mono ?_
 rintro e wA ⟨rfl, BA⟩
 have hsA := BA.size
 replace K := K.bel BA
 replace h := h.bel BA
 replace hZ := hZ.keep (fun hl => BA.block _ hl)
 replace F := F.thn zo (Fr.of_below BA)
 clear BA c0 c1 c2 c3 c4 cf
 obtain ⟨oa, oc, pa, pc, Ek, sn, rk⟩ := K
 have hnc := And.intro sn.room (And.intro sn.most sn.nil0)
 have hko : ∀ b, (Value.slice pa x.kids.length pc).ownBlock = some b → (w1.heap.size ≤ b ∧ b ≠ q5) ∧ b < wA.heap.size := fun b hb => rk.own hb
 replace rk := rk.str
 clear sn
 unfold Zdh
 go_wp2_with (refine Zid _ rfl rfl ?_)
 intro t' wB EB ht BB
 go_wp2_with (refine Zgf _ rfl _ _ rfl rfl t' _ _ _ rfl rfl EB ?_)
 intro wC EC SC
 have DC : Below wA.heap.size wA wC := BB.trans (SC.below ht)
 have hsC := DC.size
 replace h := h.bel DC
 replace hZ := hZ.keep (fun hl => DC.block _ hl)
 replace F := F.thn zo (Fr.of_below DC)
 replace Ek := (DC.block _ (lt_of_block Ek)).trans Ek
 replace rk := rk.keep (fun b _ hb => DC.block b hb)
 clear BB EB SC DC
 have hcA : wA.heap.size ≤ wC.heap.size := hsC
 obtain ⟨t0, t1, t2, tf⟩ := Za1 EC
 have htl := lt_of_block EC
 go_wp2_with (refine Zb5 rfl rfl rfl 7 rfl rfl rfl (fun _ => rfl) (fun _ => rfl) ?_)
 intro q7 wI E7 hq7 BI
 have hsI := BI.size
 replace h := h.bel BI
 have FC : Fr p wC.heap.size wC wI := Fr.of_below BI
 replace EC := (BI.block _ htl).trans EC
 have hl7 := lt_of_block E7
 have hq5l := lt_of_block Ek
 clear BI t0 t1 t2 tf
 obtain ⟨t0, t1, t2, tf⟩ := Za1 EC
 go_upto_block 2 with fail
 go_cut [] from 12 to 73 (fun wx => ∃ (y : Nd) (j : Nat) (ej : Int) (tj : Nat) (na : Option Addr) (nc : Nat) (ka : Option Addr) (kc : Nat), wx.heap[q7]? = some (.cells #[.int .i64 y.kind, .string (strOfNums y.text), .int .i64 (y.pos : Int), .int .i64 (y.n : Int), .slice na y.names.length nc, .slice ka y.kids.length kc] 31) ∧ NdV (fun b => wC.heap.size ≤ b ∧ b ≠ q7) wx y (.agg #[.int .i64 y.kind, .string (strOfNums y.text), .int .i64 (y.pos : Int), .int .i64 (y.n : Int), .slice na y.names.length nc, .slice ka y.kids.length kc]) ∧ Pr wx p W j (d + 1) ej tj ∧ Fr p wC.heap.size wC wx ∧ j < W.length ∧ Hid (ElR W E i' (d + 1) y j ej tj))
 case first =>
  by_cases k6 : kdW W i' = 6
  ·have hkk := k6
   have hke : kdW W i' = 6 := hkk
   have hlt : i' < E := S.ends.lt (by rw [hke]; decide)
   have b4 : (kdW W i' == 4) = false := by simp [hke]
   have b5 : (kdW W i' == 5) = false := by simp [hke]
   have b1 : (kdW W i' == 1) = false := by simp [hke]
   have b2 : (kdW W i' == 2) = false := by simp [hke]
   have b3 : (kdW W i' == 3) = false := by simp [hke]
   have b6 : (kdW W i' == 6) = true := by simp [hke]
   have b8 : (kdW W i' == 8) = false := by simp [hke]
   have b17 : (kdW W i' == 17) = false := by simp [hke]
   go_wp2_with fail
   refine (Za9 h hi' (by rw [hke]; decide)).mono ?_
   rintro e wN ⟨rfl, hN, FN⟩
   replace FC := FC.trans FN (by omega)
   replace E7 := (FN.block q7 (lt_of_block E7) (by omega)).trans E7
   go_wp2
   go_meet
   case rel => exact ⟨Zbr W 3 i', i' + 1, 0, 0, none, 0, none, 0, E7, NdV.leaf (by omega), hN, FC, S.lt hlt, ElR.leaf (Zjt hke) hlt⟩
  by_cases k4 : kdW W i' = 4
  ·have hkk := k4
   have hke : kdW W i' = 4 := hkk
   have hlt : i' < E := S.ends.lt (by rw [hke]; decide)
   have b4 : (kdW W i' == 4) = true := by simp [hke]
   have b5 : (kdW W i' == 5) = false := by simp [hke]
   have b1 : (kdW W i' == 1) = false := by simp [hke]
   have b2 : (kdW W i' == 2) = false := by simp [hke]
   have b3 : (kdW W i' == 3) = false := by simp [hke]
   have b6 : (kdW W i' == 6) = false := by simp [hke]
   have b8 : (kdW W i' == 8) = false := by simp [hke]
   have b17 : (kdW W i' == 17) = false := by simp [hke]
   obtain ⟨z0, z1, z2, z3, z4, z5, zf⟩ := Zac E7
   have zf0 := zf 0
   go_upto_region 10 with fail
   have S6 := St.cell wI q7 0 (.int .i64 1)
   replace E7 := heap_setCell_same wI q7 0 _ _ (.int .i64 1) E7
   replace h := h.st S6 (by omega)
   replace FC := FC.trans (Fr.of_below (S6.below (B := wC.heap.size) (by omega))) zo
   have hs6 := S6.size
   clear z0 z1 z2 z3 z4 z5 zf zf0 S6 t0 t1 t2 tf
   generalize wI.setCell ⟨q7, 0, none⟩ (.int .i64 1) = wJ at *
   go_wp2_with fail
   refine (Za9 h hi' (by rw [hke]; decide)).mono ?_
   rintro e wN ⟨rfl, hN, FN⟩
   replace FC := FC.trans FN (by omega)
   replace E7 := (FN.block q7 (lt_of_block E7) (by omega)).trans E7
   go_wp2
   go_meet
   case rel => exact ⟨Zbr W 1 i', i' + 1, 0, 0, none, 0, none, 0, E7, NdV.leaf (by omega), hN, FC, S.lt hlt, ElR.leaf (Zjv hke) hlt⟩
  by_cases k5 : kdW W i' = 5
  ·have hkk := k5
   have hke : kdW W i' = 5 := hkk
   have hlt : i' < E := S.ends.lt (by rw [hke]; decide)
   have b4 : (kdW W i' == 4) = false := by simp [hke]
   have b5 : (kdW W i' == 5) = true := by simp [hke]
   have b1 : (kdW W i' == 1) = false := by simp [hke]
   have b2 : (kdW W i' == 2) = false := by simp [hke]
   have b3 : (kdW W i' == 3) = false := by simp [hke]
   have b6 : (kdW W i' == 6) = false := by simp [hke]
   have b8 : (kdW W i' == 8) = false := by simp [hke]
   have b17 : (kdW W i' == 17) = false := by simp [hke]
   obtain ⟨z0, z1, z2, z3, z4, z5, zf⟩ := Zac E7
   have zf0 := zf 0
   go_upto_region 13 with fail
   have S6 := St.cell wI q7 0 (.int .i64 2)
   replace E7 := heap_setCell_same wI q7 0 _ _ (.int .i64 2) E7
   replace h := h.st S6 (by omega)
   replace FC := FC.trans (Fr.of_below (S6.below (B := wC.heap.size) (by omega))) zo
   have hs6 := S6.size
   clear z0 z1 z2 z3 z4 z5 zf zf0 S6 t0 t1 t2 tf
   generalize wI.setCell ⟨q7, 0, none⟩ (.int .i64 2) = wJ at *
   go_wp2_with fail
   refine (Za9 h hi' (by rw [hke]; decide)).mono ?_
   rintro e wN ⟨rfl, hN, FN⟩
   replace FC := FC.trans FN (by omega)
   replace E7 := (FN.block q7 (lt_of_block E7) (by omega)).trans E7
   go_wp2
   go_meet
   case rel => exact ⟨Zbr W 2 i', i' + 1, 0, 0, none, 0, none, 0, E7, NdV.leaf (by omega), hN, FC, S.lt hlt, ElR.leaf (Zju hke) hlt⟩
  by_cases k2 : kdW W i' = 2
  ·have hkk := k2
   have hke : kdW W i' = 2 := hkk
   have hlt : i' < E := S.ends.lt (by rw [hke]; decide)
   have b4 : (kdW W i' == 4) = false := by simp [hke]
   have b5 : (kdW W i' == 5) = false := by simp [hke]
   have b1 : (kdW W i' == 1) = false := by simp [hke]
   have b2 : (kdW W i' == 2) = true := by simp [hke]
   have b3 : (kdW W i' == 3) = false := by simp [hke]
   have b6 : (kdW W i' == 6) = false := by simp [hke]
   have b8 : (kdW W i' == 8) = false := by simp [hke]
   have b17 : (kdW W i' == 17) = false := by simp [hke]
   go_wp2_with fail
   refine (Za9 h hi' (by rw [hke]; decide)).mono ?_
   rintro e wN ⟨rfl, hN, FN⟩
   replace FC := FC.trans FN (by omega)
   replace E7 := (FN.block q7 (lt_of_block E7) (by omega)).trans E7
   go_wp2
   go_meet
   case rel => exact ⟨Zbr W 3 i', i' + 1, 0, 0, none, 0, none, 0, E7, NdV.leaf (by omega), hN, FC, S.lt hlt, ElR.leaf (Zjw hke) hlt⟩
  by_cases k3 : kdW W i' = 3
  ·have hkk := k3
   have hke : kdW W i' = 3 := hkk
   have hlt : i' < E := S.ends.lt (by rw [hke]; decide)
   have b4 : (kdW W i' == 4) = false := by simp [hke]
   have b5 : (kdW W i' == 5) = false := by simp [hke]
   have b1 : (kdW W i' == 1) = false := by simp [hke]
   have b2 : (kdW W i' == 2) = false := by simp [hke]
   have b3 : (kdW W i' == 3) = true := by simp [hke]
   have b6 : (kdW W i' == 6) = false := by simp [hke]
   have b8 : (kdW W i' == 8) = false := by simp [hke]
   have b17 : (kdW W i' == 17) = false := by simp [hke]
   go_wp2_with fail
   refine (Za9 h hi' (by rw [hke]; decide)).mono ?_
   rintro e wN ⟨rfl, hN, FN⟩
   replace FC := FC.trans FN (by omega)
   replace E7 := (FN.block q7 (lt_of_block E7) (by omega)).trans E7
   go_wp2
   go_meet
   case rel => exact ⟨Zbr W 3 i', i' + 1, 0, 0, none, 0, none, 0, E7, NdV.leaf (by omega), hN, FC, S.lt hlt, ElR.leaf (Zh4 hke) hlt⟩
  by_cases k1 : kdW W i' = 1
  ·skip
   have hkk := k1
   have s1 : ((strOfNums (txW W i')).toList == [116, 114, 117, 101]) = decide (txW W i' = Zel) := Zfm _ Zel (hT i') (by decide) (by rw [Lib.strOfNums_toList]; rfl)
   have s2 : ((strOfNums (txW W i')).toList == [102, 97, 108, 115, 101]) = decide (txW W i' = Zcv) := Zfm _ Zcv (hT i') (by decide) (by rw [Lib.strOfNums_toList]; rfl)
   have s3 : ((strOfNums (txW W i')).toList == [110, 105, 108]) = decide (txW W i' = Zmf) := Zfm _ Zmf (hT i') (by decide) (by rw [Lib.strOfNums_toList]; rfl)
   by_cases h1 : txW W i' = Zel
   ·rw [decide_eq_true h1] at s1
    have hw : Hid (txW W i' = Zel ∨ txW W i' = Zcv ∨ txW W i' = Zmf) := .inl h1
    clear h1 s2 s3
    have hke : kdW W i' = 1 := hkk
    have hlt : i' < E := S.ends.lt (by rw [hke]; decide)
    have b4 : (kdW W i' == 4) = false := by simp [hke]
    have b5 : (kdW W i' == 5) = false := by simp [hke]
    have b1 : (kdW W i' == 1) = true := by simp [hke]
    have b2 : (kdW W i' == 2) = false := by simp [hke]
    have b3 : (kdW W i' == 3) = false := by simp [hke]
    have b6 : (kdW W i' == 6) = false := by simp [hke]
    have b8 : (kdW W i' == 8) = false := by simp [hke]
    have b17 : (kdW W i' == 17) = false := by simp [hke]
    obtain ⟨z0, z1, z2, z3, z4, z5, zf⟩ := Zac E7
    have zf0 := zf 0
    go_upto_region 17 with fail
    have S6 := St.cell wI q7 0 (.int .i64 13)
    replace E7 := heap_setCell_same wI q7 0 _ _ (.int .i64 13) E7
    replace h := h.st S6 (by omega)
    replace FC := FC.trans (Fr.of_below (S6.below (B := wC.heap.size) (by omega))) zo
    have hs6 := S6.size
    clear z0 z1 z2 z3 z4 z5 zf zf0 S6 t0 t1 t2 tf
    generalize wI.setCell ⟨q7, 0, none⟩ (.int .i64 13) = wJ at *
    go_wp2_with fail
    refine (Za9 h hi' (by rw [hke]; decide)).mono ?_
    rintro e wN ⟨rfl, hN, FN⟩
    replace FC := FC.trans FN (by omega)
    replace E7 := (FN.block q7 (lt_of_block E7) (by omega)).trans E7
    go_wp2
    go_meet
    case rel => exact ⟨Zbr W 13 i', i' + 1, 0, 0, none, 0, none, 0, E7, NdV.leaf (by omega), hN, FC, S.lt hlt, ElR.leaf (Zcg hke hw.out) hlt⟩
   rw [decide_eq_false h1] at s1
   by_cases h2 : txW W i' = Zcv
   ·rw [decide_eq_true h2] at s2
    have hw : Hid (txW W i' = Zel ∨ txW W i' = Zcv ∨ txW W i' = Zmf) := .inr (.inl h2)
    clear h1 h2 s3
    have hke : kdW W i' = 1 := hkk
    have hlt : i' < E := S.ends.lt (by rw [hke]; decide)
    have b4 : (kdW W i' == 4) = false := by simp [hke]
    have b5 : (kdW W i' == 5) = false := by simp [hke]
    have b1 : (kdW W i' == 1) = true := by simp [hke]
    have b2 : (kdW W i' == 2) = false := by simp [hke]
    have b3 : (kdW W i' == 3) = false := by simp [hke]
    have b6 : (kdW W i' == 6) = false := by simp [hke]
    have b8 : (kdW W i' == 8) = false := by simp [hke]
    have b17 : (kdW W i' == 17) = false := by simp [hke]
    obtain ⟨z0, z1, z2, z3, z4, z5, zf⟩ := Zac E7
    have zf0 := zf 0
    go_upto_region 17 with fail
    have S6 := St.cell wI q7 0 (.int .i64 13)
    replace E7 := heap_setCell_same wI q7 0 _ _ (.int .i64 13) E7
    replace h := h.st S6 (by omega)
    replace FC := FC.trans (Fr.of_below (S6.below (B := wC.heap.size) (by omega))) zo
    have hs6 := S6.size
    clear z0 z1 z2 z3 z4 z5 zf zf0 S6 t0 t1 t2 tf
    generalize wI.setCell ⟨q7, 0, none⟩ (.int .i64 13) = wJ at *
    go_wp2_with fail
    refine (Za9 h hi' (by rw [hke]; decide)).mono ?_
    rintro e wN ⟨rfl, hN, FN⟩
    replace FC := FC.trans FN (by omega)
    replace E7 := (FN.block q7 (lt_of_block E7) (by omega)).trans E7
    go_wp2
    go_meet
    case rel => exact ⟨Zbr W 13 i', i' + 1, 0, 0, none, 0, none, 0, E7, NdV.leaf (by omega), hN, FC, S.lt hlt, ElR.leaf (Zcg hke hw.out) hlt⟩
   rw [decide_eq_false h2] at s2
   by_cases h3 : txW W i' = Zmf
   ·rw [decide_eq_true h3] at s3
    have hw : Hid (txW W i' = Zel ∨ txW W i' = Zcv ∨ txW W i' = Zmf) := .inr (.inr h3)
    clear h1 h2 h3
    have hke : kdW W i' = 1 := hkk
    have hlt : i' < E := S.ends.lt (by rw [hke]; decide)
    have b4 : (kdW W i' == 4) = false := by simp [hke]
    have b5 : (kdW W i' == 5) = false := by simp [hke]
    have b1 : (kdW W i' == 1) = true := by simp [hke]
    have b2 : (kdW W i' == 2) = false := by simp [hke]
    have b3 : (kdW W i' == 3) = false := by simp [hke]
    have b6 : (kdW W i' == 6) = false := by simp [hke]
    have b8 : (kdW W i' == 8) = false := by simp [hke]
    have b17 : (kdW W i' == 17) = false := by simp [hke]
    obtain ⟨z0, z1, z2, z3, z4, z5, zf⟩ := Zac E7
    have zf0 := zf 0
    go_upto_region 17 with fail
    have S6 := St.cell wI q7 0 (.int .i64 13)
    replace E7 := heap_setCell_same wI q7 0 _ _ (.int .i64 13) E7
    replace h := h.st S6 (by omega)
    replace FC := FC.trans (Fr.of_below (S6.below (B := wC.heap.size) (by omega))) zo
    have hs6 := S6.size
    clear z0 z1 z2 z3 z4 z5 zf zf0 S6 t0 t1 t2 tf
    generalize wI.setCell ⟨q7, 0, none⟩ (.int .i64 13) = wJ at *
    go_wp2_with fail
    refine (Za9 h hi' (by rw [hke]; decide)).mono ?_
    rintro e wN ⟨rfl, hN, FN⟩
    replace FC := FC.trans FN (by omega)
    replace E7 := (FN.block q7 (lt_of_block E7) (by omega)).trans E7
    go_wp2
    go_meet
    case rel => exact ⟨Zbr W 13 i', i' + 1, 0, 0, none, 0, none, 0, E7, NdV.leaf (by omega), hN, FC, S.lt hlt, ElR.leaf (Zcg hke hw.out) hlt⟩
   rw [decide_eq_false h3] at s3
   have hw : Hid (¬ (txW W i' = Zel ∨ txW W i' = Zcv ∨ txW W i' = Zmf)) := fun h => h.elim h1 (fun h => h.elim h2 h3)
   clear h1 h2 h3
   have hke : kdW W i' = 1 := hkk
   have hlt : i' < E := S.ends.lt (by rw [hke]; decide)
   have b4 : (kdW W i' == 4) = false := by simp [hke]
   have b5 : (kdW W i' == 5) = false := by simp [hke]
   have b1 : (kdW W i' == 1) = true := by simp [hke]
   have b2 : (kdW W i' == 2) = false := by simp [hke]
   have b3 : (kdW W i' == 3) = false := by simp [hke]
   have b6 : (kdW W i' == 6) = false := by simp [hke]
   have b8 : (kdW W i' == 8) = false := by simp [hke]
   have b17 : (kdW W i' == 17) = false := by simp [hke]
   go_wp2_with fail
   refine (Za9 h hi' (by rw [hke]; decide)).mono ?_
   rintro e wN ⟨rfl, hN, FN⟩
   replace FC := FC.trans FN (by omega)
   replace E7 := (FN.block q7 (lt_of_block E7) (by omega)).trans E7
   go_wp2
   go_meet
   case rel => exact ⟨Zbr W 3 i', i' + 1, 0, 0, none, 0, none, 0, E7, NdV.leaf (by omega), hN, FC, S.lt hlt, ElR.leaf (Zh5 hke hw.out) hlt⟩
  by_cases k8 : kdW W i' = 8 ∨ kdW W i' = 17
  ·by_cases h8 : kdW W i' = 8
   ·skip
    have hke : kdW W i' = 8 := by omega
    have hlt : i' < E := S.ends.lt (by rw [hke]; decide)
    have b4 : (kdW W i' == 4) = false := by simp [hke]
    have b5 : (kdW W i' == 5) = false := by simp [hke]
    have b1 : (kdW W i' == 1) = false := by simp [hke]
    have b2 : (kdW W i' == 2) = false := by simp [hke]
    have b3 : (kdW W i' == 3) = false := by simp [hke]
    have b6 : (kdW W i' == 6) = false := by simp [hke]
    have b8 : (kdW W i' == 8) = true := by simp [hke]
    have b17 : (kdW W i' == 17) = false := by simp [hke]
    go_wp2_with fail
    refine (HL i' hni hiE hd40 k8 wI p h).mono ?_
    rintro e wN ⟨r, hr, ha, FN⟩
    have hsN := FN.size
    replace FC := FC.trans FN (by omega)
    replace E7 := (FN.block q7 (lt_of_block E7) (by omega)).trans E7
    clear FN h t0 t1 t2 tf b4 b5 b1 b2 b3 b6 b8 b17
    cases r with
    | er j c =>
     obtain ⟨v, y, ik, rfl, hv, h, hik, hc⟩ := ha
     obtain ⟨na, nc, ka, kc, _, rfl, _⟩ := NdV.parts hv
     go_wp2_with (refine Za8 rfl rfl rfl rfl rfl E7 ?_)
     intro wJ E8 S8
     replace hv := hv.imp (A' := fun b => wC.heap.size ≤ b ∧ b ≠ q7) (w' := wJ) (fun b _ hA => ⟨⟨by omega, by omega⟩, S8.block b (by omega)⟩) _ _
     replace h := h.st S8 (by omega)
     replace FC := FC.trans (Fr.of_below (S8.below (B := wC.heap.size) (by omega))) zo
     go_wp2
     go_meet
     case rel => exact ⟨y, ik, c, _, na, nc, ka, kc, E8, hv, h, FC, hik, ElR.er (Zdi hr hke) hc⟩
    | ok y j =>
     obtain ⟨v, rfl, hv, h⟩ := ha
     have hj := hr.adv S.ends
     simp only [Adv, Qy.place, Qy.takes, Qy.asks] at hj
     replace hj := hj (by omega)
     obtain ⟨na, nc, ka, kc, _, rfl, _⟩ := NdV.parts hv
     go_wp2_with (refine Za8 rfl rfl rfl rfl rfl E7 ?_)
     intro wJ E8 S8
     replace hv := hv.imp (A' := fun b => wC.heap.size ≤ b ∧ b ≠ q7) (w' := wJ) (fun b _ hA => ⟨⟨by omega, by omega⟩, S8.block b (by omega)⟩) _ _
     replace h := h.st S8 (by omega)
     replace FC := FC.trans (Fr.of_below (S8.below (B := wC.heap.size) (by omega))) zo
     go_wp2
     go_meet
     case rel => exact ⟨y, j, 0, _, na, nc, ka, kc, E8, hv, h, FC, S.lt hj.2, fun _ => ⟨rfl, by omega, hj.2, Zdi hr hke⟩, fun h => absurd rfl h⟩
   have hke : kdW W i' = 17 := by omega
   have hlt : i' < E := S.ends.lt (by rw [hke]; decide)
   have b4 : (kdW W i' == 4) = false := by simp [hke]
   have b5 : (kdW W i' == 5) = false := by simp [hke]
   have b1 : (kdW W i' == 1) = false := by simp [hke]
   have b2 : (kdW W i' == 2) = false := by simp [hke]
   have b3 : (kdW W i' == 3) = false := by simp [hke]
   have b6 : (kdW W i' == 6) = false := by simp [hke]
   have b8 : (kdW W i' == 8) = false := by simp [hke]
   have b17 : (kdW W i' == 17) = true := by simp [hke]
   go_wp2_with fail
   refine (HL i' hni hiE hd40 k8 wI p h).mono ?_
   rintro e wN ⟨r, hr, ha, FN⟩
   have hsN := FN.size
   replace FC := FC.trans FN (by omega)
   replace E7 := (FN.block q7 (lt_of_block E7) (by omega)).trans E7
   clear FN h t0 t1 t2 tf b4 b5 b1 b2 b3 b6 b8 b17
   cases r with
   | er j c =>
    obtain ⟨v, y, ik, rfl, hv, h, hik, hc⟩ := ha
    obtain ⟨na, nc, ka, kc, _, rfl, _⟩ := NdV.parts hv
    go_wp2_with (refine Za8 rfl rfl rfl rfl rfl E7 ?_)
    intro wJ E8 S8
    replace hv := hv.imp (A' := fun b => wC.heap.size ≤ b ∧ b ≠ q7) (w' := wJ) (fun b _ hA => ⟨⟨by omega, by omega⟩, S8.block b (by omega)⟩) _ _
    replace h := h.st S8 (by omega)
    replace FC := FC.trans (Fr.of_below (S8.below (B := wC.heap.size) (by omega))) zo
    go_wp2
    go_meet
    case rel => exact ⟨y, ik, c, _, na, nc, ka, kc, E8, hv, h, FC, hik, ElR.er (Zev hr hke) hc⟩
   | ok y j =>
    obtain ⟨v, rfl, hv, h⟩ := ha
    have hj := hr.adv S.ends
    simp only [Adv, Qy.place, Qy.takes, Qy.asks] at hj
    replace hj := hj (by omega)
    obtain ⟨na, nc, ka, kc, _, rfl, _⟩ := NdV.parts hv
    go_wp2_with (refine Za8 rfl rfl rfl rfl rfl E7 ?_)
    intro wJ E8 S8
    replace hv := hv.imp (A' := fun b => wC.heap.size ≤ b ∧ b ≠ q7) (w' := wJ) (fun b _ hA => ⟨⟨by omega, by omega⟩, S8.block b (by omega)⟩) _ _
    replace h := h.st S8 (by omega)
    replace FC := FC.trans (Fr.of_below (S8.below (B := wC.heap.size) (by omega))) zo
    go_wp2
    go_meet
    case rel => exact ⟨y, j, 0, _, na, nc, ka, kc, E8, hv, h, FC, S.lt hj.2, fun _ => ⟨rfl, by omega, hj.2, Zev hr hke⟩, fun h => absurd rfl h⟩
  have hbd : ∀ k : Int, k = 4 ∨ k = 5 ∨ k = 1 ∨ k = 2 ∨ k = 3 ∨ k = 6 ∨ k = 8 ∨ k = 17 → (kdW W i' == k) = false := by
   intro k hk
   simp only [beq_eq_false_iff_ne, ne_eq]
   omega
  have b4 := hbd 4 (by omega)
  have b5 := hbd 5 (by omega)
  have b1 := hbd 1 (by omega)
  have b2 := hbd 2 (by omega)
  have b3 := hbd 3 (by omega)
  have b6 := hbd 6 (by omega)
  have b8 := hbd 8 (by omega)
  have b17 := hbd 17 (by omega)
  have hbr : Hid (Zaa W (.elem i' (d + 1)) (.er i' 20)) := Zjx (by omega) (by omega) (by omega) (by omega) (by omega) (by omega) (by omega) (by omega)
  clear hbd k1 k2 k3 k4 k5 k6 k8
  go_wp2_with fail
  refine (Zb6 h hi' 20).mono ?_
  rintro e wN ⟨rfl, hN, FN⟩
  replace FC := FC.trans FN (by omega)
  replace E7 := (FN.block q7 (lt_of_block E7) (by omega)).trans E7
  go_wp2
  go_meet
  case rel => exact ⟨Zbr W 3 i', i', 20, _, none, 0, none, 0, E7, NdV.leaf (by omega), hN, FC, hi', ElR.er hbr.out (by decide)⟩
 obtain ⟨y, j, ej, tj, na, nc, ka, kc, E9, hv, h2, FI, hjW, hEL⟩ := hcut
 clear E7 h FC EC t0 t1 t2 tf hi'
 have E7 := E9
 have h := h2
 have hsI2 := FI.size
 replace hZ := hZ.keep (fun hl => FI.block q (by omega) (by omega))
 replace F := F.trans (FI.low (B' := w.heap.size) (by omega)) zo
 replace Ek := (FI.block q5 hq5l hqp5).trans Ek
 replace rk := rk.keep (fun b hb hl => FI.block b hl (fun e => hAp (e ▸ hb.1)))
 clear E9 h2 FI
 obtain ⟨z0, z1, z2, z3, z4, z5, _⟩ := Zac E7
 obtain ⟨y0, y1, y2, y3, y4, y5, _⟩ := Zac Ek
 go_wp2_with (refine bs31 _ rfl _ rfl _ _ _ _ _ _ _ _ _ _ rfl ?_)
 intro g wG EG hg BG
 have hsG := BG.size
 replace h := h.bel BG
 replace hZ := hZ.keep (fun hl => BG.block _ hl)
 replace F := F.thn zo (Fr.of_below BG)
 replace Ek := (BG.block _ (lt_of_block Ek)).trans Ek
 replace rk := rk.keep (fun b _ hb => BG.block b hb)
 have hvE := hv.imp (A' := fun b => wC.heap.size ≤ b ∧ b ≠ q7) (w' := wG) (fun b hb hA => ⟨hA, BG.block b hb⟩) _ _
 clear z0 z1 z2 z3 z4 z5 y0 y1 y2 y3 y4 y5 BG
 obtain ⟨y0, y1, y2, y3, y4, y5, yf⟩ := Zac Ek
 have yf5 := yf 5
 go_wp2_with (at_builtin; refine ap31p _ rfl _ _ rfl (A := fun b => w1.heap.size ≤ b ∧ b ≠ q5) (v := .slice pa x.kids.length pc) (xs := x.kids) rfl (rk.mono (fun b h => h.1)) rfl EG hvE ?hA ?hn ?hb ?_)
 case hA =>
  intro b hb hh
  refine ⟨⟨by omega, by omega⟩, fun g' hg' => ?_⟩
  have := hko g' hg'
  omega
 case hn => omega
 case hb => intro b hb; exact ⟨by omega, by omega⟩
 intro va vc wH RH KH plH
 have hsH := KH.size
 have EkH := (KH.block q5 (lt_of_block Ek) (fun e => (hko _ e).1.2 rfl)).trans Ek
 have K11 := Zca.put2 hxn EkH hnc RH (by omega)
 have S11 := St.cell wH q5 5 (.slice va (x.kids.length + 1) vc)
 have BH := KH.below (B := w1.heap.size) (by omega) (fun g' hg' => (hko g' hg').1.1)
 replace h := (h.below BH (by omega)).st S11 (by omega)
 replace hZ := (hZ.keep (fun hl => BH.block q (by omega))).keep (fun hl => S11.block q (by omega))
 replace F := (F.trans (Fr.of_below (BH.mono (B' := w.heap.size) (by omega))) zo).trans (Fr.of_below (S11.below (B := w.heap.size) (by omega))) zo
 have hs11 := S11.size
 clear y0 y1 y2 y3 y4 y5 yf yf5 S11 KH RH plH rk hvE EG BH
 obtain ⟨y0, y1, y2, y3, y4, y5, yf⟩ := Zac EkH
 have yf5 := yf 5
 go_wp2
 go_roundw
 have hkl : (x.kid y).kids.length = x.kids.length + 1 := by simp only [Nd.kid, Nd.kids, List.length_append, List.length_singleton]
 case rel =>
  refine ⟨j, x.kid y, ej, tj, K11, hZ, h, F, hjW, by omega, ⟨hxn, hxtt, by omega⟩, fun he => ?_, fun he => ?_⟩
  ·obtain ⟨g1, g2, g3, g4⟩ := hEL.out.1 he
   exact ⟨g1, by omega, by omega, hd40, fun r hr => hR.out r (Zjr g4 hr h9k)⟩
  obtain ⟨m, g1, g2⟩ := hEL.out.2 he
  exact ⟨m, hR.out _ (Zjs g2 h9k), g1⟩
 by_cases he : ej = 0
 ·obtain ⟨g1, g2, g3, g4⟩ := hEL.out.1 he
  rw [h.mea, hat]; simp [he]; omega
 rw [h.mea, hat]; simp [he]; omega
end
end Go.Proofs.YtncfmhlikmibaaaGreatDoor
