/- The document's parser: a message of keys; any message. -/
import Derived.Test.YtncfmhlikmibaaaGreatDoorDmg
namespace Go.Proofs.YtncfmhlikmibaaaGreatDoor
open Go.RowKit
set_option maxRecDepth 100000
set_option maxHeartbeats 16000000
theorem Zca.say {w : World} {A : Nat → Prop} {q : Nat} {x : Nd} (h : Zca w A q x) (hA : ¬ A q) (t : List Int) : Zca (w.setCell ⟨q, 1, none⟩ (.string (strOfNums x.text ++ strOfNums t))) A q (x.say t) := by
 obtain ⟨na, nc, ka, kc, E, sn, rk⟩ := h
 have S := St.cell w q 1 (.string (strOfNums x.text ++ strOfNums t))
 refine ⟨na, nc, ka, kc, ?_, sn.imp (fun b _ hA' => ⟨hA', S.block b (fun e => hA (e ▸ hA'.1))⟩), rk.keep (fun b hb _ => S.block b (fun e => hA (e ▸ hb)))⟩
 rw [heap_setCell_same w q 1 _ _ _ E, Zfi]
 simp [Nd.say, Nd.kind, Nd.text, Nd.pos, Nd.n, Nd.names, Nd.kids]
def dmsV (x : Nd) (p q4 i' : Nat) (W : List Tk) (j : Nat) : Value :=
 ([.pointer (some ⟨q4, 1, none⟩),
  .string (strOfNums x.text),
  .pointer (some ⟨p, 0, none⟩),
  (.agg #[.int .i64 (kdW W i'), .string (strOfNums (txW W i')), .int .i64 (psW W i' : Int)]),
  (.string (strOfNums (txW W i'))),
  (.string (strOfNums x.text ++ strOfNums (txW W i'))),
  .pointer (some ⟨q4, 1, none⟩)] : List Value).getD j undef
def dmaV (x y : Nd) (p q4 : Nat) (pa ma la va : Option Addr) (pc mc lc vc g : Nat) (j : Nat) : Value :=
 ([.pointer (some ⟨q4, 5, none⟩),
  .slice pa x.kids.length pc,
  .pointer (some ⟨p, 0, none⟩),
  .agg #[.int .i64 y.kind, .string (strOfNums y.text), .int .i64 (y.pos : Int), .int .i64 (y.n : Int), .slice ma y.names.length mc, .slice la y.kids.length lc],
  .slice (some ⟨g, 0, none⟩) 1 1,
  .slice va (x.kids.length + 1) vc,
  .pointer (some ⟨q4, 5, none⟩)] : List Value).getD j undef
theorem Zq5 {W : List Tk} {E : Nat} (S : Src W E) {n0 d : Nat} (hi : n0 < W.length) (hk : kdW W n0 = 2) (HB : ∀ j, n0 < j → j ≤ E → ∀ p, ConV 120 p W j d 0 0 (RsR W (.bin j d))) {w : World} {p : Nat} (h : Pr w p W n0 d 0 0) :
  Calls Tryz.prog 104 #[.pointer (some ⟨p, 0, none⟩)] w fun e w' => ∃ z u iz ez tz, e = .returned u ∧ NdV (fun b => w.heap.size ≤ b) w' z u ∧ z.kids.length ≤ 6000 ∧ Pr w' p W iz d ez tz ∧ iz < W.length ∧ Fr p w.heap.size w w' ∧ Zo0 W n0 d z iz ez tz := by
 have hpl := h.lt
 have htx := S.txt n0
 go_enter Tryz.func104, Tryz.ntmps104
 go_wp2_with (refine Zdn _ rfl rfl ?_)
 intro q w1 E1 hq B1
 replace h := h.bel B1
 go_wp2_with fail
 refine (Zb3 h hi).mono ?_
 rintro e w2 ⟨rfl, B2⟩
 replace h := h.bel B2
 replace E1 := (B2.block _ (lt_of_block E1)).trans E1
 have C := Zab B1 zo B2
 have hl1 := lt_of_block E1
 clear B1 B2
 unfold Zdh
 go_wp2_with (refine Zid _ rfl rfl ?_)
 intro t' w3 E3 ht B3
 go_wp2_with (refine Zgf _ rfl _ _ rfl rfl t' _ _ _ rfl rfl E3 ?_)
 intro w4 E4 S4
 have D4 : Below w2.heap.size w2 w4 := B3.trans (S4.below ht)
 replace h := h.bel D4
 replace E1 := (D4.block _ hl1).trans E1
 replace C := Zab C zo D4
 have hs24 := D4.size
 clear D4 B3 S4 E3
 obtain ⟨y0, y1, y2, yf⟩ := Za1 E4
 go_wp2_with (refine Zb5 rfl rfl rfl 4 rfl rfl rfl (fun _ => rfl) (fun _ => rfl) ?_)
 intro q4 w5 E5 hq4 B5
 replace h := h.bel B5
 replace E1 := (B5.block _ (lt_of_block E1)).trans E1
 replace E4 := (B5.block _ (lt_of_block E4)).trans E4
 replace C := Zab C zo B5
 have hs45 := B5.size
 have B := Below.refl w5.heap.size w5
 have hl5 := lt_of_block E5
 clear B5 y0 y1 y2 yf
 go_wp2_with fail
 refine (Zad (h.bel B) hi 1).mono ?_
 rintro e u ⟨rfl, B'⟩
 replace B := Zab B zo B'
 clear B'
 rw [show (kdW W n0 == 1) = false by simp only [beq_eq_false_iff_ne, ne_eq]; omega]
 go_wp2_with fail
 refine (Zad (h.bel B) hi 3).mono ?_
 rintro e u ⟨rfl, B'⟩
 replace B := Zab B zo B'
 clear B'
 rw [show (kdW W n0 == 3) = false by simp only [beq_eq_false_iff_ne, ne_eq]; omega]
 go_wp2_with fail
 refine (Zad (h.bel B) hi 2).mono ?_
 rintro e u ⟨rfl, B'⟩
 replace B := Zab B zo B'
 clear B'
 rw [show (kdW W n0 == 2) = true by simp only [beq_iff_eq]; omega]
 replace h := h.bel B
 replace E1 := (B.block _ (lt_of_block E1)).trans E1
 replace E5 := (B.block _ hl5).trans E5
 replace C := Zab C zo B
 have hsu := B.size
 clear B
 have hC := C.size
 have F : Fr p w.heap.size w u := Fr.of_below C
 have K : Zca u (fun b => w2.heap.size ≤ b ∧ b ≠ q4) q4 (.mk 9 [] (psW W n0) 0 [] []) := Zca.new E5
 have hZ : Zge u q := ⟨_, _, _, _, _, _, E1⟩
 have hq2 : q < w2.heap.size := hl1
 have hq4u := lt_of_block E5
 have hqp4 : q4 ≠ p := by omega
 have hAp : ¬ (w2.heap.size ≤ p ∧ p ≠ q4) := by omega
 have hu0 : w2.heap.size ≤ u.heap.size := by omega
 clear E1 E5 C
 go_wp2_with fail
 go_loopw [] (fun wr => ∃ (i' : Nat) (x' : Nd) (ei : Int) (ti : Nat), Zca wr (fun b => w2.heap.size ≤ b ∧ b ≠ q4) q4 x' ∧ Zge wr q ∧ Pr wr p W i' d ei ti ∧ Fr p w.heap.size w wr ∧ i' < W.length ∧ u.heap.size ≤ wr.heap.size ∧ Hid (x'.names = [] ∧ x'.kids.length ≤ 5001 ∧ x'.text.length ≤ 25005000) ∧ Hid (ei = 0 → ti = 0 ∧ n0 ≤ i' ∧ x'.kids.length ≤ i' ∧ x'.text.length ≤ i' * 5000 ∧ ∀ r, Zaa W (.keys i' d x') r → Zaa W (.keys n0 d (Zda [] (psW W n0) [])) r) ∧ Hid (ei ≠ 0 → ∃ j, Zaa W (.keys n0 d (Zda [] (psW W n0) [])) (.er j ei) ∧ ti = psW W j)) (fun wr => Zi1 E wr p)
 case atStart => exact ⟨n0, _, 0, 0, K, hZ, h, F, hi, zo, ⟨rfl, Nat.zero_le _, Nat.zero_le _⟩, fun _ => ⟨rfl, zo, Nat.zero_le _, Nat.zero_le _, fun r hr => hr⟩, fun h => absurd rfl h⟩
 clear K hZ h F
 obtain ⟨i', x, ei, ti, K, hZ, h, F, hi', hsr, hX, hG, hD⟩ := hrel
 by_cases hei : ei = 0 ∧ kdW W i' = 2
 ·obtain ⟨rfl, hk2⟩ := hei
  obtain ⟨rfl, hni, hxk, hxt, hGr0⟩ := hG.out rfl
  have hGr : Hid (∀ r, Zaa W (.keys i' d x) r → Zaa W (.keys n0 d (Zda [] (psW W n0) [])) r) := hGr0
  have hxn : x.names = [] := hX.out.1
  have hlt : i' < E := S.ends.lt (by rw [hk2]; decide)
  have hE5 := S.small
  clear hG hGr0 hD hX
  have hk : kdW W i' = 2 := hk2
  go_wp2_with fail
  refine (Zad h hi' 2).mono ?_
  rintro e wI ⟨rfl, B3⟩
  rw [show (kdW W i' == 2) = true by simp [hk]]
  have hat : Zi1 E wr p = _ := h.mea
  have hsI := B3.size
  replace K := K.bel B3
  replace hZ := hZ.keep (fun hl => B3.block _ hl)
  replace F := F.thn zo (Fr.of_below B3)
  replace h := h.bel B3
  have hTx : (x.text ++ txW W i').length ≤ (i' + 1) * 5000 := by have := S.txt i'; rw [List.length_append]; omega
  obtain ⟨oa, oc, pa, pc, Ek, sn0, rk0⟩ := K
  have K : Zca wI (fun b => w2.heap.size ≤ b ∧ b ≠ q4) q4 x := ⟨oa, oc, pa, pc, Ek, sn0, rk0⟩
  clear sn0 rk0 B3
  have hszT : (strOfNums x.text).size + (strOfNums (txW W i')).size ≤ 9223372036854775807 := by rw [strOfNums_size, strOfNums_size]; have := S.txt i'; omega
  have hk0 : kdW W i' ≠ 0 := by rw [hk]; decide
  have Ekd : wI.drew.heap[q4]? = _ := Ek
  have h6d : Pr wI.drew p W i' d 0 0 ∧ Fr p wI.heap.size wI wI.drew := ⟨h.drewP, Fr.drewF _ _ _⟩
  go_wp2_with fail
  refine Zah fun A hA => ?_
  have hsz : A.tmps.size = 54 := by rw [hA]; rfl
  have s0 : A.tmps[0]? = some (.pointer (some ⟨p, 0, none⟩)) := by rw [hA]; rfl
  have s4 : A.tmps[4]? = some (.pointer (some ⟨q4, 0, none⟩)) := by rw [hA]; rfl
  refine zR1 (fun A D a w' => ∃ (l : List Value), a = Zaj A 39 l ∧ l.length = 7 ∧ (∀ j, j < 7 → D j → l[j]? = some (dmsV x p q4 i' W j)) ∧ (D 7 ∨ w'.heap[q4]? = some (.cells #[.int .i64 x.kind, .string (strOfNums x.text), .int .i64 (x.pos : Int), .int .i64 (x.n : Int), .slice oa x.names.length oc, .slice pa x.kids.length pc] 31)) ∧ (D 3 ∨ (Pr w' p W i' d 0 0 ∧ Fr p wI.heap.size wI w')) ∧ (D 7 → ∃ w9, (Pr w9 p W (i' + 1) d 0 0 ∧ Fr p wI.heap.size wI w9) ∧ w' = w9.setCell ⟨q4, 1, none⟩ (.string (strOfNums x.text ++ strOfNums (txW W i'))) ∧ w9.heap[q4]? = some (.cells #[.int .i64 x.kind, .string (strOfNums x.text), .int .i64 (x.pos : Int), .int .i64 (x.n : Int), .slice oa x.names.length oc, .slice pa x.kids.length pc] 31)) ∧ (D 3 → ¬ D 7 → (Pr w' p W (i' + 1) d 0 0 ∧ Fr p wI.heap.size wI w'))) ?start ?step ?done
  case start => exact ⟨_, zS 39 7 hsz, zG 39 7 hsz, zK, .inr (Ekd), .inr (h6d), zf, zF⟩
  case step =>
   clear hA
   intro i o ho D a w' hI hn hcl hd
   obtain ⟨l, ha, Lh, hl, hE, hN, hQ, hL⟩ := hI
   match i, ho with
   | 0, ho =>
    cases zq ho
    have ev : a.tmps[4]? = some (.pointer (some ⟨q4, 0, none⟩)) := zu 4 ha Lh hsz s4
    exact zx (.pointer (some ⟨q4, 1, none⟩)) (by simp [execOp, ev, go_sem]) ⟨_, zp 0 ha Lh hsz, zh Lh, zk Lh hl, zl hE, zl hN, zr hQ, zs hL⟩
   | 1, ho =>
    cases zq ho
    have ev : a.tmps[39]? = some (.pointer (some ⟨q4, 1, none⟩)) := zv ha hsz Lh hl 0 hd
    have e1 := hE.resolve_left (fun h => hn (zc hcl 5 1 rfl (zc hcl 7 5 rfl h)))
    obtain ⟨z0, z1, z2, z3, z4, z5, _⟩ := Zac e1
    exact zx (.string (strOfNums x.text)) (by simp [execOp, ev, go_sem, z1]) ⟨_, zp 1 ha Lh hsz, zh Lh, zk Lh hl, zl hE, zl hN, zr hQ, zs hL⟩
   | 2, ho =>
    cases zq ho
    exact zm (zu 0 ha Lh hsz s0) ⟨_, zp 2 ha Lh hsz, zh Lh, zk Lh hl, zl hE, zl hN, zr hQ, zs hL⟩
   | 3, ho =>
    cases zq ho
    have ev : a.tmps[41]? = some (.pointer (some ⟨p, 0, none⟩)) := zv ha hsz Lh hl 2 hd
    have h6 := hN.resolve_left hn
    refine Zan (f := 46) (args := #[.pointer (some ⟨p, 0, none⟩)]) (by simp [execOp, ev, go_sem]) ?_
    refine (Za9 h6.1 hi' hk0).mono ?_
    rintro e w6 ⟨rfl, h9, F9⟩
    refine ⟨_, rfl, ?_⟩
    unfold Zdh
    exact ⟨_, zp 3 ha Lh hsz, zh Lh, zk Lh hl, hE.imp .inr (fun h => (F9.block q4 (lt_of_block h) hqp4).trans h), .inl (.inl rfl), za (fun h => hn (zc hcl 4 3 rfl (zc hcl 5 4 rfl (zc hcl 7 5 rfl h)))), fun _ _ => ⟨h9, h6.2.trans F9 h6.2.size⟩⟩
   | 4, ho =>
    cases zq ho
    have ev : a.tmps[42]? = some ((.agg #[.int .i64 (kdW W i'), .string (strOfNums (txW W i')), .int .i64 (psW W i' : Int)])) := zv ha hsz Lh hl 3 hd
    exact zx (.string (strOfNums (txW W i'))) (by simp [execOp, ev, go_sem, Zhf]) ⟨_, zp 4 ha Lh hsz, zh Lh, zk Lh hl, zl hE, zl hN, zr hQ, zs hL⟩
   | 5, ho =>
    cases zq ho
    have ev : a.tmps[40]? = some (.string (strOfNums x.text)) := zv ha hsz Lh hl 1 hd
    have ev' : a.tmps[43]? = some ((.string (strOfNums (txW W i')))) := zv ha hsz Lh hl 4 hd
    exact zx (.string (strOfNums x.text ++ strOfNums (txW W i'))) (by simp [execOp, ev, ev', go_sem, hszT]) ⟨_, zp 5 ha Lh hsz, zh Lh, zk Lh hl, zl hE, zl hN, zr hQ, zs hL⟩
   | 6, ho =>
    cases zq ho
    have ev : a.tmps[4]? = some (.pointer (some ⟨q4, 0, none⟩)) := zu 4 ha Lh hsz s4
    exact zx (.pointer (some ⟨q4, 1, none⟩)) (by simp [execOp, ev, go_sem]) ⟨_, zp 6 ha Lh hsz, zh Lh, zk Lh hl, zl hE, zl hN, zr hQ, zs hL⟩
   | 7, ho =>
    cases zq ho
    have ev : a.tmps[45]? = some (.pointer (some ⟨q4, 1, none⟩)) := zv ha hsz Lh hl 6 hd
    have ev' : a.tmps[44]? = some ((.string (strOfNums x.text ++ strOfNums (txW W i')))) := zv ha hsz Lh hl 5 hd
    have e1 := hE.resolve_left hn
    obtain ⟨z0, z1, z2, z3, z4, z5, zf⟩ := Zac e1
    have zf1 := zf 1
    have L := hL (zc hcl 4 3 rfl (zc hcl 5 4 rfl (zd hd 5))) hn
    refine Zbj (w' := w'.setCell ⟨q4, 1, none⟩ (.string (strOfNums x.text ++ strOfNums (txW W i')))) (by simp [execOp, Act.eval, ev, ev', go_sem, z1, zf1]) ?_
    exact ⟨l, ha, Lh, zJ hl, .inl (.inl rfl), .inl (.inr (zc hcl 4 3 rfl (zc hcl 5 4 rfl (zd hd 5)))), fun _ => ⟨w', L, rfl, e1⟩, zi⟩
   | i + 8, ho => simp at ho
  case done =>
   rintro D a wS ⟨l, ha, Lh, hl, hE, hN, hQ, hL⟩ hall
   obtain ⟨v0, v1, v2, v3, v4, v5, v6, rfl⟩ := zL7 Lh
   obtain ⟨w9, ⟨L9, F9⟩, ew, E9⟩ := hQ (hall 7 (by decide))
   subst hA
   have hfr : a = _ := ha
   rw [hfr]
   clear hfr ha
   simp only [Zaj, yA, yB, yC, yD, yE, yF, yG, yH]
   clear hl hE hN hL hQ hall
   have K9 := K.fr F9 hqp4 hAp
   have h9 := L9
   have hsI9 : wI.heap.size ≤ w9.heap.size := F9.size
   replace hZ := hZ.keep (fun hl => F9.block q hl (by omega))
   have S9 := St.cell w9 q4 1 (.string (strOfNums x.text ++ strOfNums (txW W i')))
   replace K9 := K9.say (by omega) (txW W i')
   replace h9 := h9.st S9 (by omega)
   replace hZ := hZ.keep (fun hl => S9.block q (by omega))
   replace F := (F.thn zo F9).trans (Fr.of_below (S9.below (B := w.heap.size) (by omega))) zo
   rw [← ew] at K9 h9 hZ F S9
   have hs9' := S9.size
   clear ew S9 E9 F9 L9 K Ek
   obtain ⟨xs, hxs⟩ : ∃ xs, Hid (x.say (txW W i') = xs) := ⟨_, rfl⟩
   rw [hxs.out] at K9
   have hxsn : xs.names = [] := by rw [← hxs.out]; exact hxn
   have hxsk : xs.kids.length = x.kids.length := by rw [← hxs.out]; rfl
   have hxst0 : xs.text.length ≤ (i' + 1) * 5000 := by rw [← hxs.out]; exact hTx
   have hxst2 : (xs.kid zNd).text.length ≤ (i' + 1) * 5000 := hxst0
   have hxst : (xs.kid zNd).text.length ≤ 25005000 := by have := S.small; have : (xs.kid zNd).text.length = xs.text.length := rfl; omega
   replace hxst2 : Hid (∀ y : Nd, (xs.kid y).text.length ≤ (i' + 1) * 5000) := fun y => hxst2
   replace hxst : Hid (∀ y : Nd, (xs.kid y).text.length ≤ 25005000) := fun y => hxst
   obtain ⟨oa, oc, pa, pc, Ek, sn, rk⟩ := K9
   have hnc := And.intro sn.room (And.intro sn.most sn.nil0)
   have hko2 : ∀ g, (Value.slice pa xs.kids.length pc).ownBlock = some g → (w2.heap.size ≤ g ∧ g ≠ q4) ∧ g < wS.heap.size := fun g hg => rk.own hg
   have hko : ∀ g, (Value.slice pa xs.kids.length pc).ownBlock = some g → w2.heap.size ≤ g := fun g hg => (hko2 g hg).1.1
   have hkq : (Value.slice pa xs.kids.length pc).ownBlock ≠ some q4 := fun e => (hko2 _ e).1.2 rfl
   have hwS : w2.heap.size ≤ wS.heap.size := by omega
   have hpB : p < w2.heap.size := by omega
   have hq4S : q4 < wS.heap.size := lt_of_block Ek
   have hA6 : ∀ b, wS.heap.size ≤ b → (w2.heap.size ≤ b ∧ b ≠ q4) := fun b hb => ⟨by omega, by omega⟩
   have hAb : ∀ b g, wS.heap.size ≤ g → (wS.heap.size ≤ b ∨ b = g) → ((w2.heap.size ≤ b ∧ b ≠ q4) ∧ ∀ q, (Value.slice pa xs.kids.length pc).ownBlock = some q → b ≠ q) := fun b g hg hb => ⟨⟨by omega, by omega⟩, fun q hq => by have := hko2 q hq; omega⟩
   have hxl : xs.kids.length ≤ 500000 := by omega
   have Ekd : wS.drew.heap[q4]? = _ := Ek
   have h6d : Pr wS.drew p W (i' + 1) d 0 0 ∧ Fr p wS.heap.size wS wS.drew := ⟨h9.drewP, Fr.drewF _ _ _⟩
   have rkd : Zbu wS.drew (fun b => w2.heap.size ≤ b ∧ b ≠ q4) (.slice pa xs.kids.length pc) xs.kids := rk.keep (fun _ _ _ => rfl)
   clear sn rk
   go_wp2_with fail
   refine Zah fun A hA => ?_
   have hsz : A.tmps.size = 54 := by rw [hA]; rfl
   have s0 : A.tmps[0]? = some (.pointer (some ⟨p, 0, none⟩)) := by rw [hA]; rfl
   have s4 : A.tmps[4]? = some (.pointer (some ⟨q4, 0, none⟩)) := by rw [hA]; rfl
   refine zR1 (fun A D a w' => ∃ (l : List Value) (ma : Option Addr) (la : Option Addr) (va : Option Addr) (mc : Nat) (lc : Nat) (vc : Nat) (g : Nat) (y : Nd) (iz : Nat) (ez : Int) (tz : Nat), a = Zaj A 46 l ∧ l.length = 7 ∧ (∀ j, j < 7 → D j → l[j]? = some (dmaV xs y p q4 pa ma la va pc mc lc vc g j)) ∧ (D 7 ∨ w'.heap[q4]? = some (.cells #[.int .i64 xs.kind, .string (strOfNums xs.text), .int .i64 (xs.pos : Int), .int .i64 (xs.n : Int), .slice oa xs.names.length oc, .slice pa xs.kids.length pc] 31)) ∧ (D 3 ∨ (Pr w' p W (i' + 1) d 0 0 ∧ Fr p wS.heap.size wS w')) ∧ (D 5 ∨ Zbu w' (fun b => w2.heap.size ≤ b ∧ b ≠ q4) (.slice pa xs.kids.length pc) xs.kids) ∧ (D 3 → RsR W (.bin (i' + 1) d) y iz ez tz ∧ iz < W.length) ∧ (D 7 → ∃ w9, (Zbu w9 (fun b => w2.heap.size ≤ b ∧ b ≠ q4) (.slice va (xs.kids.length + 1) vc) (xs.kids ++ [y]) ∧ Pr w9 p W iz d ez tz ∧ Fr p w2.heap.size wS w9 ∧ (∀ g, (Value.slice va (xs.kids.length + 1) vc).ownBlock = some g → (Value.slice pa xs.kids.length pc).ownBlock = some g ∨ wS.heap.size ≤ g)) ∧ w' = w9.setCell ⟨q4, 5, none⟩ (.slice va (xs.kids.length + 1) vc) ∧ w9.heap[q4]? = some (.cells #[.int .i64 xs.kind, .string (strOfNums xs.text), .int .i64 (xs.pos : Int), .int .i64 (xs.n : Int), .slice oa xs.names.length oc, .slice pa xs.kids.length pc] 31)) ∧ (D 3 → ¬ D 4 → NdV (fun b => wS.heap.size ≤ b) w' y (.agg #[.int .i64 y.kind, .string (strOfNums y.text), .int .i64 (y.pos : Int), .int .i64 (y.n : Int), .slice ma y.names.length mc, .slice la y.kids.length lc]) ∧ Pr w' p W iz d ez tz ∧ Fr p wS.heap.size wS w') ∧ (D 4 → ¬ D 5 → w'.heap[g]? = some (.cells #[.int .i64 y.kind, .string (strOfNums y.text), .int .i64 (y.pos : Int), .int .i64 (y.n : Int), .slice ma y.names.length mc, .slice la y.kids.length lc] 31) ∧ NdV (fun b => wS.heap.size ≤ b) w' y (.agg #[.int .i64 y.kind, .string (strOfNums y.text), .int .i64 (y.pos : Int), .int .i64 (y.n : Int), .slice ma y.names.length mc, .slice la y.kids.length lc]) ∧ Pr w' p W iz d ez tz ∧ Fr p wS.heap.size wS w' ∧ wS.heap.size ≤ g) ∧ (D 5 → ¬ D 7 → Zbu w' (fun b => w2.heap.size ≤ b ∧ b ≠ q4) (.slice va (xs.kids.length + 1) vc) (xs.kids ++ [y]) ∧ Pr w' p W iz d ez tz ∧ Fr p w2.heap.size wS w' ∧ (∀ g, (Value.slice va (xs.kids.length + 1) vc).ownBlock = some g → (Value.slice pa xs.kids.length pc).ownBlock = some g ∨ wS.heap.size ≤ g))) ?start ?step ?done
   case start => exact ⟨_, none, none, none, 0, 0, 0, 0, zNd, 0, 0, 0, zS 46 7 hsz, zG 46 7 hsz, zK, .inr (Ekd), .inr (h6d), .inr (rkd), zf, zf, zF, zF, zF⟩
   case step =>
    clear hA
    intro i o ho D a w' hI hn hcl hd
    obtain ⟨l, ma, la, va, mc, lc, vc, g, y, iz, ez, tz, ha, Lh, hl, hE, hN, hK, hM, hQ, hU, hG, hY⟩ := hI
    match i, ho with
    | 0, ho =>
     cases zq ho
     have ev : a.tmps[4]? = some (.pointer (some ⟨q4, 0, none⟩)) := zu 4 ha Lh hsz s4
     exact zx (.pointer (some ⟨q4, 5, none⟩)) (by simp [execOp, ev, go_sem]) ⟨_, ma, la, va, mc, lc, vc, g, y, iz, ez, tz, zp 0 ha Lh hsz, zh Lh, zk Lh hl, zl hE, zl hN, zl hK, zr hM, zr hQ, zs hU, zs hG, zs hY⟩
    | 1, ho =>
     cases zq ho
     have ev : a.tmps[46]? = some (.pointer (some ⟨q4, 5, none⟩)) := zv ha hsz Lh hl 0 hd
     have e1 := hE.resolve_left (fun h => hn (zc hcl 5 1 rfl (zc hcl 7 5 rfl h)))
     obtain ⟨z0, z1, z2, z3, z4, z5, _⟩ := Zac e1
     exact zx (.slice pa xs.kids.length pc) (by simp [execOp, ev, go_sem, z5]) ⟨_, ma, la, va, mc, lc, vc, g, y, iz, ez, tz, zp 1 ha Lh hsz, zh Lh, zk Lh hl, zl hE, zl hN, zl hK, zr hM, zr hQ, zs hU, zs hG, zs hY⟩
    | 2, ho =>
     cases zq ho
     exact zm (zu 0 ha Lh hsz s0) ⟨_, ma, la, va, mc, lc, vc, g, y, iz, ez, tz, zp 2 ha Lh hsz, zh Lh, zk Lh hl, zl hE, zl hN, zl hK, zr hM, zr hQ, zs hU, zs hG, zs hY⟩
    | 3, ho =>
     cases zq ho
     have ev : a.tmps[48]? = some (.pointer (some ⟨p, 0, none⟩)) := zv ha hsz Lh hl 2 hd
     have hN0 := hN.resolve_left hn
     have e1 := hE.resolve_left (fun h => hn (zc hcl 4 3 rfl (zc hcl 5 4 rfl (zc hcl 7 5 rfl h))))
     have rk0 := hK.resolve_left (fun h => hn (zc hcl 4 3 rfl (zc hcl 5 4 rfl h)))
     refine Zan (f := 120) (args := #[.pointer (some ⟨p, 0, none⟩)]) (by simp [execOp, ev, go_sem]) ?_
     refine (HB (i' + 1) (by omega) (by omega) p w' hN0.1).mono ?_
     rintro e w6 ⟨y', u, iz', ez', tz', rfl, hu, h4, hiz, F4, hM4⟩
     refine ⟨_, rfl, ?_⟩
     obtain ⟨ma', mc', la', lc', _, rfl, _⟩ := NdV.parts hu
     have hsF := F4.size
     have hs60 := hN0.2.size
     exact ⟨_, ma', la', va, mc', lc', vc, g, y', iz', ez', tz', zp 3 ha Lh hsz, zh Lh, Zai (val' := dmaV xs y' p q4 pa ma' la' va pc mc' lc' vc g) Lh (by decide) hl (fun j hj hne => match j, hj, hne with | 0, _, _ => rfl | 1, _, _ => rfl | 2, _, _ => rfl | 3, _, hne => absurd rfl hne | 4, _, _ => rfl | 5, _, _ => rfl | 6, _, _ => rfl | j + 7, _, _ => rfl), .inr ((F4.block q4 (lt_of_block e1) hqp4).trans e1), .inl (.inl rfl), .inr (rk0.keep (fun b hA hb => F4.block b hb (fun e => hAp (e ▸ hA)))), fun _ => ⟨hM4, hiz⟩, za (fun h => hn (zc hcl 4 3 rfl (zc hcl 5 4 rfl (zc hcl 7 5 rfl h)))), fun _ _ => ⟨hu.mono (fun b _ hb => (show wS.heap.size ≤ b from Nat.le_trans hs60 hb)), h4, hN0.2.trans F4 hs60⟩, zb (fun h => hn (zc hcl 4 3 rfl h)), zb (fun h => hn (zc hcl 4 3 rfl (zc hcl 5 4 rfl h)))⟩
    | 4, ho =>
     cases zq ho
     have ev : a.tmps[49]? = some (.agg #[.int .i64 y.kind, .string (strOfNums y.text), .int .i64 (y.pos : Int), .int .i64 (y.n : Int), .slice ma y.names.length mc, .slice la y.kids.length lc]) := zv ha hsz Lh hl 3 hd
     have U3 := hU (zd hd 3) hn
     have e1 := hE.resolve_left (fun h => hn (zc hcl 5 4 rfl (zc hcl 7 5 rfl h)))
     have rk0 := hK.resolve_left (fun h => hn (zc hcl 5 4 rfl h))
     refine Zeg w' _ rfl _ _ _ _ _ _ _ _ _ _ (by simpa [Act.eval] using Zav ev) ?_
     exact ⟨_, ma, la, va, mc, lc, vc, w'.heap.size, y, iz, ez, tz, zp 4 ha Lh hsz, zh Lh, Zai (val' := dmaV xs y p q4 pa ma la va pc mc lc vc w'.heap.size) Lh (by decide) hl (fun j hj hne => match j, hj, hne with | 0, _, _ => rfl | 1, _, _ => rfl | 2, _, _ => rfl | 3, _, _ => rfl | 4, _, hne => absurd rfl hne | 5, _, _ => rfl | 6, _, _ => rfl | j + 7, _, _ => rfl), .inr ((Zbc.block q4 (lt_of_block e1)).trans e1), .inl (.inr (zd hd 3)), .inr (rk0.keep (fun b _ hb => Zbc.block b hb)), zr hM, za (fun h => hn (zc hcl 5 4 rfl (zc hcl 7 5 rfl h))), zi, fun _ _ => ⟨Zc0 w' _, U3.1.bel Zbc, U3.2.1.bel Zbc, U3.2.2.trans (Fr.of_below Zbc) U3.2.2.size, U3.2.2.size⟩, zb (fun h => hn (zc hcl 5 4 rfl h))⟩
    | 5, ho =>
     cases zq ho
     have ev : a.tmps[47]? = some (.slice pa xs.kids.length pc) := zv ha hsz Lh hl 1 hd
     have ev' : a.tmps[50]? = some (.slice (some ⟨g, 0, none⟩) 1 1) := zv ha hsz Lh hl 4 hd
     have G4 := hG (zd hd 4) hn
     have e1 := hE.resolve_left (fun h => hn (zc hcl 7 5 rfl h))
     have rk0 := hK.resolve_left hn
     refine Zeh w' _ _ rfl (by simpa [Act.eval] using Zav ev) (by simpa [Act.eval] using Zav ev') rk0 G4.1 G4.2.1 (fun b hb hh => hAb b g G4.2.2.2.2 hh) hxl (fun b hb => hA6 b (Nat.le_trans G4.2.2.2.1.size hb)) ?_
     intro va' vc' w9 R9 K9 pl9
     have hs9 := K9.size
     exact ⟨_, ma, la, va', mc, lc, vc', g, y, iz, ez, tz, zp 5 ha Lh hsz, zh Lh, Zai (val' := dmaV xs y p q4 pa ma la va' pc mc lc vc' g) Lh (by decide) hl (fun j hj hne => match j, hj, hne with | 0, _, _ => rfl | 1, _, _ => rfl | 2, _, _ => rfl | 3, _, _ => rfl | 4, _, _ => rfl | 5, _, hne => absurd rfl hne | 6, _, _ => rfl | j + 7, _, _ => rfl), .inr ((K9.block q4 (lt_of_block e1) hkq).trans e1), .inl (.inr (zc hcl 4 3 rfl (zd hd 4))), .inl (.inl rfl), zr hM, za (fun h => hn (zc hcl 7 5 rfl h)), zj (zd hd 4), zi, fun _ _ => ⟨R9, G4.2.2.1.below (K9.below (B := w2.heap.size) (by have := G4.2.2.2.1.size; omega) (fun g' hg' => hko g' hg')) hpB, (G4.2.2.2.1.low hwS).trans (Fr.of_below (K9.below (B := w2.heap.size) (by have := G4.2.2.2.1.size; omega) (fun g' hg' => hko g' hg'))) zo, fun g' hg' => (pl9 g' hg').imp_right (fun h => Nat.le_trans G4.2.2.2.1.size h)⟩⟩
    | 6, ho =>
     cases zq ho
     have ev : a.tmps[4]? = some (.pointer (some ⟨q4, 0, none⟩)) := zu 4 ha Lh hsz s4
     exact zx (.pointer (some ⟨q4, 5, none⟩)) (by simp [execOp, ev, go_sem]) ⟨_, ma, la, va, mc, lc, vc, g, y, iz, ez, tz, zp 6 ha Lh hsz, zh Lh, zk Lh hl, zl hE, zl hN, zl hK, zr hM, zr hQ, zs hU, zs hG, zs hY⟩
    | 7, ho =>
     cases zq ho
     have ev : a.tmps[52]? = some (.pointer (some ⟨q4, 5, none⟩)) := zv ha hsz Lh hl 6 hd
     have ev' : a.tmps[51]? = some (.slice va (xs.kids.length + 1) vc) := zv ha hsz Lh hl 5 hd
     have e1 := hE.resolve_left hn
     obtain ⟨z0, z1, z2, z3, z4, z5, zf⟩ := Zac e1
     have zf5 := zf 5
     have L := hY (zd hd 5) hn
     refine Zbj (w' := w'.setCell ⟨q4, 5, none⟩ (.slice va (xs.kids.length + 1) vc)) (by simp [execOp, Act.eval, ev, ev', go_sem, z5, zf5]) ?_
     exact ⟨l, ma, la, va, mc, lc, vc, g, y, iz, ez, tz, ha, Lh, zJ hl, .inl (.inl rfl), .inl (.inr (zc hcl 4 3 rfl (zc hcl 5 4 rfl (zd hd 5)))), .inl (.inr (zd hd 5)), zr hM, fun _ => ⟨w', L, rfl, e1⟩, zj (zc hcl 5 4 rfl (zd hd 5)), zj (zd hd 5), zi⟩
    | i + 8, ho => simp at ho
   rintro D a w' ⟨l, ma, la, va, mc, lc, vc, g, y, iz, ez, tz, ha, Lh, hl, hE, hN, hK, hM, hQ, hU, hG, hY⟩ hall
   obtain ⟨v0, v1, v2, v3, v4, v5, v6, rfl⟩ := zL7 Lh
   obtain ⟨w9, ⟨R9, h9, F9, pl9⟩, ew, E9⟩ := hQ (hall 7 (by decide))
   obtain ⟨hRel, hiz⟩ := hM (hall 3 (by decide))
   subst hA
   have hfr : a = _ := ha
   rw [hfr]
   clear hfr ha
   simp only [Zaj, yA, yB, yC, yD, yE, yF, yG, yH]
   clear hl hE hN hK hU hG hY hQ hM hall
   have S9 := St.cell w9 q4 5 (.slice va (xs.kids.length + 1) vc)
   have K9 := Zca.put2 hxsn E9 hnc R9 (by omega)
   replace h9 := h9.st S9 (by omega)
   replace hZ := (hZ.keep (fun hl => F9.block q (by omega) (by omega))).keep (fun hl => S9.block q (by omega))
   replace F := (F.trans (F9.low (B' := w.heap.size) (by omega)) zo).trans (Fr.of_below (S9.below (B := w.heap.size) (by omega))) zo
   have hsz9 := F9.size
   rw [← ew] at K9 h9 hZ F S9
   have hsz10 := S9.size
   clear ew S9 E9 F9 R9 pl9
   have hkl : Hid ((xs.kid y).kids.length = xs.kids.length + 1) := by show (xs.kid y).kids.length = xs.kids.length + 1; simp [Nd.kid, Nd.kids]
   go_wp2
   go_roundw
   case rel =>
    refine ⟨iz, xs.kid y, ez, tz, K9, hZ, h9, F, hiz, by omega, ?_, ?_, ?_⟩
    ·exact ⟨hxsn, by rw [hkl.out]; omega, hxst.out y⟩
    ·intro he
     rcases hRel with ⟨g1, g2, g3⟩ | ⟨g1, _⟩
     ·have hadv := g3.adv S.ends
      simp only [Adv, Qy.place, Qy.takes, Qy.asks] at hadv
      have hj := hadv (by omega)
      refine ⟨g2, by omega, by rw [hkl.out]; omega, ?_, fun r hr => hGr.out r (Zl1 g3 (by rw [hxs.out]; exact hr) hk)⟩
      exact Nat.le_trans (hxst2.out y) (Nat.mul_le_mul_right 5000 (by omega))
     exact absurd he g1
    intro he
    rcases hRel with ⟨g1, _⟩ | ⟨g1, m, g3, g4⟩
    ·exact absurd g1 he
    exact ⟨m, hGr.out _ (Zl2 g3 hk), g4⟩
   rw [h9.mea, hat]
   rcases hRel with ⟨g1, g2, g3⟩ | ⟨g1, _⟩
   ·have hadv := g3.adv S.ends
    simp only [Adv, Qy.place, Qy.takes, Qy.asks] at hadv
    have hj := hadv (by omega)
    subst g1
    simp
    omega
   simp [g1]
   omega

 have hfin : Hid (Zo0 W n0 d x i' ei ti) := by
  by_cases he : ei = 0
  ·obtain ⟨ht, _, _, _, hr⟩ := hG.out he
   exact .inl ⟨he, ht, Zd7 (hr _ (Zjl (fun hk => hei ⟨he, hk⟩))) hk⟩
  obtain ⟨j, hj, ht⟩ := hD.out he
  exact .inr ⟨he, j, Zd7 hj hk, ht⟩
 have hcall : Calls Tryz.prog 45 #[.pointer (some ⟨p, 0, none⟩), .int .i64 2] wr fun e w' => e = .returned (.bool false) ∧ Below wr.heap.size wr w' := by
  by_cases he : ei = 0
  ·subst he
   have := Zad h hi' 2
   rwa [show (kdW W i' == 2) = false by simp only [beq_eq_false_iff_ne, ne_eq]; exact fun hk => hei ⟨rfl, hk⟩] at this
  exact Zax h hi' he 2
 go_wp2_with fail
 refine hcall.mono ?_
 rintro e w3 ⟨rfl, B3⟩
 have hs3 := B3.size
 replace K := K.bel B3
 replace hZ := hZ.keep (fun hl => B3.block _ hl)
 replace F := F.thn zo (Fr.of_below B3)
 replace h := h.bel B3
 clear B3 hcall
 have hX' := hX.out
 obtain ⟨na, nc, ka, kc, Ek, hv⟩ := K.nd (by rw [hX'.1]; simp) (by omega) (by omega)
 clear hX'
 obtain ⟨z0, z1, z2, z3, z4, z5, _⟩ := Zac Ek
 obtain ⟨u0, u1, u2, u3, u4, u5, E2⟩ := hZ
 go_wp2_with (refine Za8 rfl rfl rfl rfl rfl E2 ?_)
 intro wz Ez Sz
 go_wp2
 exact zT 2 (by rfl) (by rfl) (Zau Ez) (by rfl) ⟨x, _, i', ei, ti, rfl, hv.imp (A' := fun b => w.heap.size ≤ b) (fun b _ hA => ⟨by omega, Sz.block b (by omega)⟩) _ _, by have := hX.out.2.1; omega, h.st Sz (by omega), hi', F.trans (Fr.of_below (Sz.below hq)) zo, hfin.out⟩
end Go.Proofs.YtncfmhlikmibaaaGreatDoor
