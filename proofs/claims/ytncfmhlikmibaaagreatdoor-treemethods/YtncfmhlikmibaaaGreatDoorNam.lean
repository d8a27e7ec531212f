/- name, argument. -/
import Derived.Test.YtncfmhlikmibaaaGreatDoorCas
import Derived.Test.YtncfmhlikmibaaaGreatDoorBno
namespace Go.Proofs.YtncfmhlikmibaaaGreatDoor
open Go.RowKit
set_option maxRecDepth 100000
set_option maxHeartbeats 16000000
theorem Zfi (a b : List Int) : strOfNums a ++ strOfNums b = strOfNums (a ++ b) := by
 apply ByteArray.ext
 simp [strOfNums]
theorem Zbj {P : Program} {o : Oper} {a : Act} {w w' : World} {K : Act → World → Prop} {Q : Exit → Act → World → Prop} (h : (execOp a.eval o).run P w = .ok .skip w') (hk : K (a.put o.dst undef) w') : o.wp P a w K Q := by
 unfold Oper.wp; rw [h]; exact hk
theorem Zdo.say {w : World} {A : Nat → Prop} {q : Nat} {x : Nd} (h : Zdo w A q x) (hA : ¬ A q) (t : List Int) : Zdo (w.setCell ⟨q, 1, none⟩ (.string (strOfNums x.text ++ strOfNums t))) A q (x.say t) := by
 obtain ⟨na, nc, ka, kc, E, sn, rk⟩ := h
 have S := St.cell w q 1 (.string (strOfNums x.text ++ strOfNums t))
 refine ⟨na, nc, ka, kc, ?_, sn.imp (fun b _ hA' => ⟨hA', S.block b (fun e => hA (e ▸ hA'.1))⟩), rk.keep (fun b hb _ => S.block b (fun e => hA (e ▸ hb)))⟩
 rw [heap_setCell_same w q 1 _ _ _ E, Zfi]
 simp [Nd.say, Nd.kind, Nd.text, Nd.pos, Nd.n, Nd.names, Nd.kids]
def keyV (x : Nd) (p q4 i' : Nat) (W : List Tk) (j : Nat) : Value :=
 ([.pointer (some ⟨q4, 1, none⟩),
  .string (strOfNums x.text),
  .pointer (some ⟨p, 0, none⟩),
  .agg #[.int .i64 (kdW W i'), .string (strOfNums (txW W i')), .int .i64 (psW W i' : Int)],
  (.string (strOfNums (txW W i'))),
  (.string (strOfNums x.text ++ strOfNums (txW W i'))),
  .pointer (some ⟨q4, 1, none⟩)] : List Value).getD j undef
theorem Zqk {W : List Tk} {E : Nat} (S : Src W E) {i d : Nat} (hi : i ≤ E) (H : ∀ j, i < j → j ≤ E → Zcb 166 W (.bin j d) j d) : ConK W i d := by
 intro w p h
 have f2 := fld2
 go_enter Tryz.func152, Tryz.ntmps152
 go_wp2_with (refine Zdl _ rfl rfl ?_)
 intro q w1 E1 hq B1
 have X := Sx.start h ⟨_, _, _, _, _, _, E1⟩ hq B1
 have hp := X.hp
 have hq1 := X.z.lt
 have hs1 := X.size
 clear E1 hq B1 h
 go_wp2_with fail
 refine (Zbw X.rd (S.lt hi)).mono ?_
 rintro e w2 ⟨rfl, B2⟩
 have X2 := X.bel B2
 have hs12 : w1.heap.size ≤ w2.heap.size := B2.size
 clear X B2
 go_wp2_with (refine Zdl _ rfl rfl ?_)
 intro q4 w3a E3a hq4 B3a
 go_wp2_with (refine Zar rfl rfl rfl rfl rfl E3a ?_)
 intro w3 E3 S3
 have B3 : Below w2.heap.size w2 w3 := B3a.trans (S3.below hq4)
 clear S3 E3a B3a
 have K : Zdo w3 (fun b => w2.heap.size ≤ b ∧ b ≠ q4) q4 (.mk 9 [] (psW W i) 0 [] []) := Zdo.new E3
 have hl4 := lt_of_block E3
 have hs23 : w2.heap.size ≤ w3.heap.size := B3.size
 replace X2 := X2.bel B3
 have hqp4 : q4 ≠ p := by have := X2.hp; omega
 have hAp : ¬ (w2.heap.size ≤ p ∧ p ≠ q4) := by have := X2.hp; omega
 clear E3 B3 f2
 go_wp2_with fail
 go_loopw [] (fun wr => ∃ (i' : Nat) (x' : Nd), Zdo wr (fun b => w2.heap.size ≤ b ∧ b ≠ q4) q4 x' ∧ Sx w p q wr W i' (d : Int) 20 ∧ i ≤ i' ∧ i' ≤ E ∧ w3.heap.size ≤ wr.heap.size ∧ x'.kids.length ≤ i' ∧ Hid (x'.names = [] ∧ x'.text.length ≤ i' * 5000) ∧ Hid (∀ r, Zaa W (.keys i' d x') r → Zaa W (.keys i d (Zda [] (psW W i) [])) r)) (fun wr => E - atOf wr p)
 case atStart => exact ⟨i, _, K, X2, zo, hi, zo, Nat.zero_le _, ⟨rfl, Nat.zero_le _⟩, fun r hr => hr⟩
 clear K X2
 obtain ⟨i', x, K, X, hii, hi', hs5, hxl, hxn, hR⟩ := hrel
 have hat : atOf wr p = i' := X.rd.atOf
 go_wp2_with fail
 refine (Zb8 X.rd (S.lt hi') 2).mono ?_
 rintro e w6 ⟨rfl, B6⟩
 have hs6 : wr.heap.size ≤ w6.heap.size := B6.size
 replace K := K.bel B6
 replace X := X.bel B6
 clear B6
 by_cases hk : kdW W i' = 2
 ·rw [show (kdW W i' == 2) = true by simp [hk]]
  have hlt : i' < E := S.ends.lt (by rw [hk]; decide)
  have hTx : (x.text ++ txW W i').length ≤ (i' + 1) * 5000 := by have := hxn.out.2; have := S.txt i'; rw [List.length_append]; omega
  obtain ⟨oa, oc, pa, pc, Ek, sn0, rk0⟩ := K
  have K : Zdo w6 (fun b => w2.heap.size ≤ b ∧ b ≠ q4) q4 x := ⟨oa, oc, pa, pc, Ek, sn0, rk0⟩
  clear sn0 rk0
  have hszT : (strOfNums x.text).size + (strOfNums (txW W i')).size ≤ 9223372036854775807 := by rw [strOfNums_size, strOfNums_size]; have := S.txt i'; have := hxn.out.2; have := S.small; omega
  have Ekd : w6.drew.heap[q4]? = _ := Ek
  have h6d : Rdw w6.drew p W i' (d : Int) 20 ∧ Fr p w6.heap.size w6 w6.drew := ⟨X.rd.same (fun _ _ => rfl) rfl, Fr.of_below (Below.refl _ _).drew⟩
  go_wp2_with fail
  refine Zah fun A hA => ?_
  have hsz : A.tmps.size = 35 := by rw [hA]; rfl
  have s0 : A.tmps[0]? = some (.pointer (some ⟨p, 0, none⟩)) := by rw [hA]; rfl
  have s4 : A.tmps[4]? = some (.pointer (some ⟨q4, 0, none⟩)) := by rw [hA]; rfl
  refine zR1 (fun A D a w' => ∃ (l : List Value), a = Zaj A 13 l ∧ l.length = 7 ∧ (∀ j, j < 7 → D j → l[j]? = some (keyV x p q4 i' W j)) ∧ (D 7 ∨ w'.heap[q4]? = some (.cells #[.int .i64 x.kind, .string (strOfNums x.text), .int .i64 (x.pos : Int), .int .i64 (x.n : Int), .slice oa x.names.length oc, .slice pa x.kids.length pc] 25)) ∧ (D 3 ∨ (Rdw w' p W i' (d : Int) 20 ∧ Fr p w6.heap.size w6 w')) ∧ (D 7 → ∃ w9, (Rdw w9 p W (i' + 1) (d : Int) 20 ∧ Fr p w6.heap.size w6 w9) ∧ w' = w9.setCell ⟨q4, 1, none⟩ (.string (strOfNums x.text ++ strOfNums (txW W i'))) ∧ w9.heap[q4]? = some (.cells #[.int .i64 x.kind, .string (strOfNums x.text), .int .i64 (x.pos : Int), .int .i64 (x.n : Int), .slice oa x.names.length oc, .slice pa x.kids.length pc] 25)) ∧ (D 3 → ¬ D 7 → (Rdw w' p W (i' + 1) (d : Int) 20 ∧ Fr p w6.heap.size w6 w'))) ?start ?step ?done
  case start => exact ⟨_, zS 13 7 hsz, zG 13 7 hsz, zK, .inr (Ekd), .inr (h6d), zf, zF⟩
  case step =>
   clear hA
   intro i o ho D a w' hI hn hcl hd
   obtain ⟨l, ha, Lh, hl, hE, hN, hQ, hL⟩ := hI
   match i, ho with
   | 0, ho =>
    cases zq ho
    have ev : a.tmps[4]? = some (.pointer (some ⟨q4, 0, none⟩)) := zu 4 ha Lh hsz s4
    exact zx (.pointer (some ⟨q4, 1, none⟩)) (by simp [execOp, ev, go_sem]) ⟨_, zp 0 ha Lh hsz, zh Lh, zk Lh hl, zl hE, zl hN, zr hQ, zs hL⟩
   | 1, ho =>
    cases zq ho
    have ev : a.tmps[13]? = some (.pointer (some ⟨q4, 1, none⟩)) := zv ha hsz Lh hl 0 hd
    have e1 := hE.resolve_left (fun h => hn (zc hcl 5 1 rfl (zc hcl 7 5 rfl h)))
    obtain ⟨z0, z1, z2, z3, z4, z5, _⟩ := Zae e1
    exact zx (.string (strOfNums x.text)) (by simp [execOp, ev, go_sem, z1]) ⟨_, zp 1 ha Lh hsz, zh Lh, zk Lh hl, zl hE, zl hN, zr hQ, zs hL⟩
   | 2, ho =>
    cases zq ho
    exact zm (zu 0 ha Lh hsz s0) ⟨_, zp 2 ha Lh hsz, zh Lh, zk Lh hl, zl hE, zl hN, zr hQ, zs hL⟩
   | 3, ho =>
    cases zq ho
    have ev : a.tmps[15]? = some (.pointer (some ⟨p, 0, none⟩)) := zv ha hsz Lh hl 2 hd
    have h6 := hN.resolve_left hn
    refine Zan (f := 39) (args := #[.pointer (some ⟨p, 0, none⟩)]) (by simp [execOp, ev, go_sem]) ?_
    refine (Zch h6.1 (S.lt hi')).mono ?_
    rintro e w6 ⟨rfl, h9, F9⟩
    refine ⟨_, rfl, ?_⟩
    exact ⟨_, zp 3 ha Lh hsz, zh Lh, zk Lh hl, hE.imp .inr (fun h => (F9.block q4 (lt_of_block h) hqp4).trans h), .inl (.inl rfl), za (fun h => hn (zc hcl 4 3 rfl (zc hcl 5 4 rfl (zc hcl 7 5 rfl h)))), fun _ _ => ⟨h9, h6.2.trans F9 h6.2.size⟩⟩
   | 4, ho =>
    cases zq ho
    have ev : a.tmps[16]? = some (.agg #[.int .i64 (kdW W i'), .string (strOfNums (txW W i')), .int .i64 (psW W i' : Int)]) := zv ha hsz Lh hl 3 hd
    exact zx (.string (strOfNums (txW W i'))) (by simp [execOp, ev, go_sem, fld1]) ⟨_, zp 4 ha Lh hsz, zh Lh, zk Lh hl, zl hE, zl hN, zr hQ, zs hL⟩
   | 5, ho =>
    cases zq ho
    have ev : a.tmps[14]? = some (.string (strOfNums x.text)) := zv ha hsz Lh hl 1 hd
    have ev' : a.tmps[17]? = some ((.string (strOfNums (txW W i')))) := zv ha hsz Lh hl 4 hd
    exact zx (.string (strOfNums x.text ++ strOfNums (txW W i'))) (by simp [execOp, ev, ev', go_sem, hszT]) ⟨_, zp 5 ha Lh hsz, zh Lh, zk Lh hl, zl hE, zl hN, zr hQ, zs hL⟩
   | 6, ho =>
    cases zq ho
    have ev : a.tmps[4]? = some (.pointer (some ⟨q4, 0, none⟩)) := zu 4 ha Lh hsz s4
    exact zx (.pointer (some ⟨q4, 1, none⟩)) (by simp [execOp, ev, go_sem]) ⟨_, zp 6 ha Lh hsz, zh Lh, zk Lh hl, zl hE, zl hN, zr hQ, zs hL⟩
   | 7, ho =>
    cases zq ho
    have ev : a.tmps[19]? = some (.pointer (some ⟨q4, 1, none⟩)) := zv ha hsz Lh hl 6 hd
    have ev' : a.tmps[18]? = some ((.string (strOfNums x.text ++ strOfNums (txW W i')))) := zv ha hsz Lh hl 5 hd
    have e1 := hE.resolve_left hn
    obtain ⟨z0, z1, z2, z3, z4, z5, zf⟩ := Zae e1
    have zf1 := zf 1
    have L := hL (zc hcl 4 3 rfl (zc hcl 5 4 rfl (zd hd 5))) hn
    refine Zbj (w' := w'.setCell ⟨q4, 1, none⟩ (.string (strOfNums x.text ++ strOfNums (txW W i')))) (by simp [execOp, Act.eval, ev, ev', go_sem, z1, zf1]) ?_
    exact ⟨l, ha, Lh, zJ hl, .inl (.inl rfl), .inl (.inr (zc hcl 4 3 rfl (zc hcl 5 4 rfl (zd hd 5)))), fun _ => ⟨w', L, rfl, e1⟩, zi⟩
   | i + 8, ho => simp at ho
  rintro D a w' ⟨l, ha, Lh, hl, hE, hN, hQ, hL⟩ hall
  obtain ⟨v0, v1, v2, v3, v4, v5, v6, rfl⟩ := zL7 Lh
  obtain ⟨w9, ⟨L9, F9⟩, ew, E9⟩ := hQ (hall 7 (by decide))
  subst hA
  have hfr : a = _ := ha
  rw [hfr]
  clear hfr ha
  simp only [Zaj, yA, yB, yC, yD, yE, yF, yG, yH]
  clear hl hE hN hL hQ hall
  have K9 := K.fr F9 hqp4 hAp
  have X9 := X.go F9 L9
  have hs69 : w6.heap.size ≤ w9.heap.size := F9.size
  have S9 := St.cell w9 q4 1 (.string (strOfNums x.text ++ strOfNums (txW W i')))
  replace K9 := K9.say (by omega) (txW W i')
  replace X9 := X9.st S9 (by omega)
  have hs9' := S9.size
  rw [← ew] at K9 X9 S9 hs9'
  have hsz' : w6.heap.size ≤ w'.heap.size := by omega
  clear ew S9 E9 F9 L9 hs9'
  go_wp2_with fail
  refine (H (i' + 1) (by omega) (by omega) w' p X9.rd).mono ?_
  rintro e w7 ⟨r, hr, ha, F7⟩
  have hs67 : w6.heap.size ≤ w7.heap.size := Nat.le_trans hsz' F7.size
  have hsp7 : w'.heap.size ≤ w7.heap.size := F7.size
  obtain ⟨oa, oc, pa, pc, Ek, sn, rk⟩ := K9
  have hko : ∀ b, (Value.slice pa (x.say (txW W i')).kids.length pc).ownBlock = some b → (w2.heap.size ≤ b ∧ b ≠ q4) ∧ b < w'.heap.size := fun b hb => rk.own hb
  replace Ek := (F7.block _ (lt_of_block Ek) hqp4).trans Ek
  replace sn := sn.imp (fun b hb hA => ⟨hA, F7.block b hb (fun e => hAp (e ▸ hA.1))⟩)
  replace rk := rk.keep (fun b hA hb => F7.block b hb (fun e => hAp (e ▸ hA)))
  have hxk : (x.say (txW W i')).kids.length ≤ i' := hxl
  clear hxl
  generalize hxs : x.say (txW W i') = xs at *
  cases r with
  | er j c =>
   obtain ⟨v, y, d', rfl, hv, h7⟩ := ha
   obtain ⟨na, nc, ka, kc, _, rfl, _⟩ := NdV.parts hv
   have X7 := X9.go F7 h7
   go_wp2_with (refine Zcm rfl rfl rfl 5 rfl rfl rfl (fun _ => rfl) (fun _ => rfl) ?_)
   intro q5 w8 E8 _ B8
   replace X7 := X7.bel B8
   obtain ⟨u0, u1, u2, u3, u4, u5, Eq⟩ := X7.z
   go_wp2_with (refine Zar rfl rfl rfl rfl rfl Eq ?_)
   intro wz Ez Sz
   go_wp2
   exact zB 2 3 (by rfl) (by rfl) (by rfl) (Zal Ez) (by rfl) ⟨_, hR.out _ (Zl2 hr hk), ⟨_, rfl, (X7.fin Sz).2⟩, (X7.fin Sz).1⟩
  | ok y j =>
   obtain ⟨v, rfl, hv, h7⟩ := ha
   have hj : i' + 1 + 1 ≤ j ∧ j ≤ E := hr.adv S.ends (by show i' + 1 + 0 ≤ E; omega)
   obtain ⟨na, nc, ka, kc, _, rfl, _⟩ := NdV.parts hv
   have X7 := X9.go F7 h7
   clear X9 F7 h7
   go_wp2_with (refine Zcm rfl rfl rfl 5 rfl rfl rfl (fun _ => rfl) (fun _ => rfl) ?_)
   intro q5 w8 E8 _ B8
   replace X7 := X7.bel B8
   replace Ek := (B8.block _ (lt_of_block Ek)).trans Ek
   replace sn := sn.imp (fun b hb hA => ⟨hA, B8.block b hb⟩)
   replace rk := rk.keep (fun b _ hb => B8.block b hb)
   replace hv := hv.bel B8
   have hs78 : w7.heap.size ≤ w8.heap.size := B8.size
   clear B8
   obtain ⟨y0, y1, y2, y3, y4, y5, _⟩ := Zae Ek
   obtain ⟨z0, z1, z2, z3, z4, z5, _⟩ := Zae E8
   go_wp2_with (refine bs25 _ rfl _ rfl _ _ _ _ _ _ _ _ _ _ rfl ?_)
   intro g w9 E9 hg B9
   replace Ek := (B9.block _ (lt_of_block Ek)).trans Ek
   have hs89 : w8.heap.size ≤ w9.heap.size := B9.size
   replace sn := sn.imp (fun b hb hA => ⟨hA, B9.block b hb⟩)
   replace rk := rk.keep (fun b _ hb => B9.block b hb)
   replace hv := hv.bel B9
   replace X7 := X7.bel B9
   clear y0 y1 y2 y3 y4 y5 z0 z1 z2 z3 z4 z5 B9 E8
   go_wp2_with (at_builtin; refine ap25p _ rfl _ _ rfl rfl rk rfl E9 hv ?hA ?hn ?hb ?_)
   case hA =>
    intro b hb hh
    refine ⟨⟨by omega, by omega⟩, fun g' hg' => ?_⟩
    have := hko g' hg'
    omega
   case hn => have := S.small; omega
   case hb => intro b hb; exact ⟨by omega, by omega⟩
   intro va vc w10 R10 K10 pl10
   obtain ⟨K11, S11⟩ := Zdo.put Ek sn R10 K10 pl10 (by omega) (fun e => by have := hko _ e; omega)
   replace X7 := (X7.kp K10 (fun g' hg' => by have := hko g' hg'; omega)).st S11 (by omega)
   have hs10 : w9.heap.size ≤ w10.heap.size := K10.size
   have hs11 := S11.size
   obtain ⟨y0, y1, y2, y3, y4, y5, zf⟩ := Zae ((K10.block q4 (lt_of_block Ek) (fun e => by have := hko _ e; omega)).trans Ek)
   have zf5 := zf 5
   clear S11 K10 R10 pl10 sn rk hv E9
   go_wp2
   go_roundw
   case rel => exact ⟨j, xs.kid y, K11, X7, by omega, hj.2, by omega, by simp only [Nd.kid, Nd.kids, List.length_append, List.length_singleton]; show xs.kids.length + 1 ≤ j; omega, by subst hxs; exact ⟨hxn.out.1, by have := Nat.le_trans hTx (Nat.mul_le_mul_right 5000 (show i' + 1 ≤ j by omega)); simpa [Nd.kid, Nd.say, Nd.text] using this⟩, fun r hr' => hR.out r (Zl1 hr (by rw [hxs]; exact hr') hk)⟩
   case measure => rw [X7.rd.atOf, hat]; omega

 rw [show (kdW W i' == 2) = false by simp [hk]]
 have hN := K.nd (by rw [hxn.out.1]; exact Nat.zero_le _) (by have := S.small; omega) (by have := hxn.out.2; have := S.small; omega)
 obtain ⟨na, nc, ka, kc, Ek, hv⟩ := hN
 obtain ⟨y0, y1, y2, y3, y4, y5, _⟩ := Zae Ek
 obtain ⟨u0, u1, u2, u3', u4, u5', Eq⟩ := X.z
 go_wp2_with (refine Zar rfl rfl rfl rfl rfl Eq ?_)
 intro wz Ez Sz
 go_wp2
 exact zB 2 3 (by rfl) (by rfl) (by rfl) (Zal Ez) (by rfl) ⟨_, hR.out _ (Zjl hk), ⟨_, rfl, NdV.imp (fun b _ hA => ⟨by omega, Sz.block b (by omega)⟩) _ _ hv, by have := S.small; omega, (X.fin Sz).2⟩, (X.fin Sz).1⟩
section
variable {A : Nat → Prop} {B E i p q : Nat} {W : List Tk} {d : Int} {v : Value} {w w' : World} {x : Nd}
theorem Zbh {e sz n : Nat} {xs : List Value} (h : w.ownsRow 0 e sz v n xs) (hk : ∀ g, v.ownBlock = some g → g < w.heap.size → w'.heap[g]? = w.heap[g]?) : w'.ownsRow 0 e sz v n xs := by
 refine ⟨h.1, ?_⟩
 rcases h.2 with h | ⟨g, cap, cur, e, hB, hg, rest⟩
 ·exact .inl h
 exact .inr ⟨g, cap, cur, e, hB, (hk g (by rw [e]; rfl) (lt_of_block hg)).trans hg, rest⟩
theorem rd_kp {y : Int} (h : Rdw w p W i d y) (K : Kp v w w') (hv : ∀ g, v.ownBlock = some g → p < g) : Rdw w' p W i d y :=
 h.same (fun b hb => K.block b (by have := h.lt; omega) (fun e => by have := hv b e; omega)) (K.block p h.lt (fun e => by have := hv p e; omega))
theorem Zqs {w0 : World} (h : Fr p w0.heap.size w0 w) (K : Kp v w w') (hv : ∀ g, v.ownBlock = some g → B ≤ g) (hB : B ≤ w0.heap.size := by assumption) : Fr p B w0 w' :=
 (h.low hB).trans (Fr.of_below (K.below (Nat.le_trans hB h.size) hv)) zo
structure Zd9 (w : World) (A : Nat → Prop) (q : Nat) (x : Nd) : Prop where
 kids : x.kids = []
 ex : ∃ na nc, w.heap[q]? = some (.cells #[.int .i64 x.kind, .string (strOfNums x.text), .int .i64 (x.pos : Int), .int .i64 (x.n : Int), .slice na x.names.length nc, .slice none 0 0] 25) ∧ w.ownsRow 0 9 1 (.slice na x.names.length nc) x.names.length (x.names.map Zcr) ∧ ∀ g, (Value.slice na x.names.length nc).ownBlock = some g → A g
theorem Zd9.keep (h : Zd9 w A q x) (hq : q < w.heap.size → w'.heap[q]? = w.heap[q]?) (hk : ∀ b, A b → b < w.heap.size → w'.heap[b]? = w.heap[b]?) : Zd9 w' A q x := by
 obtain ⟨na, nc, E, o, hA⟩ := h.ex
 exact ⟨h.kids, na, nc, (hq (lt_of_block E)).trans E, Zbh o (fun g hg hl => hk g (hA g hg) hl), hA⟩
theorem Zd9.bel (h : Zd9 w A q x) (B : Below w.heap.size w w') : Zd9 w' A q x := h.keep (fun hl => B.block q hl) (fun b _ hb => B.block b hb)
theorem Zd9.fr (h : Zd9 w A q x) (F : Fr p w.heap.size w w') (hq : q ≠ p) (hA : ¬ A p) : Zd9 w' A q x :=
 h.keep (fun hl => F.block q hl hq) (fun b hb hl => F.block b hl (fun e => hA (e ▸ hb)))
theorem Zd9.lt (h : Zd9 w A q x) : q < w.heap.size := by
 obtain ⟨_, _, E, _⟩ := h.ex
 exact lt_of_block E
structure Gd (p B q : Nat) (A : Nat → Prop) (w : World) : Prop where
 hp : p < B
 hB : B ≤ w.heap.size
 hq : B ≤ q
 lo : ∀ b, A b → B ≤ b
 nq : ¬ A q
 new : ∀ b, w.heap.size ≤ b → A b
theorem Gd.up (h : Gd p B q A w) (hs : w.heap.size ≤ w'.heap.size) : Gd p B q A w' := ⟨h.hp, Nat.le_trans h.hB hs, h.hq, h.lo, h.nq, fun b hb => h.new b (Nat.le_trans hs hb)⟩
theorem Zqc (S : Src W E) (hi : i ≤ E) (hk : kdW W i ≠ 1) (h : Rdw w p W i d 20) :
  Calls Tryz.prog 42 #[.pointer (some ⟨p, 0, none⟩), .pointer (some ⟨q, 0, none⟩)] w fun e w' => e = .returned (.bool false) ∧ Below w.heap.size w w' := by
 go_enter Tryz.func42, Tryz.ntmps42
 go_wp2_with fail
 refine (Zb8 h (S.lt hi) 1).mono ?_
 rintro e w1 ⟨rfl, B1⟩
 rw [show (kdW W i == 1) = false by simp [hk]]
 go_wp2
 go_ret
 exact ⟨rfl, B1⟩
def nmeV (x : Nd) (p q i' g : Nat) (W : List Tk) (na va : Option Addr) (nc vc : Nat) (j : Nat) : Value :=
 ([.pointer (some ⟨q, 0, none⟩),
  .pointer (some ⟨q, 0, none⟩),
  .pointer (some ⟨q, 0, none⟩),
  .pointer (some ⟨q, 4, none⟩),
  .slice na x.names.length nc,
  .pointer (some ⟨p, 0, none⟩),
  .agg #[.int .i64 (kdW W i'), .string (strOfNums (txW W i')), .int .i64 (psW W i' : Int)],
  (.string (strOfNums (txW W i'))),
  .slice (some ⟨g, 0, none⟩) 1 1,
  .slice va (x.names.length + 1) vc,
  .pointer (some ⟨q, 0, none⟩),
  .pointer (some ⟨q, 4, none⟩)] : List Value).getD j undef
theorem Zm7 (S : Src W E) {i' : Nat} (hi : i' ≤ E) (hk : kdW W i' = 1) {Z : Nat → Prop} (G : Gd p B q Z w) (M : Zd9 w Z q x) (hxl : x.names.length ≤ 90000) (h : Rdw w p W i' d 20) :
  Calls Tryz.prog 42 #[.pointer (some ⟨p, 0, none⟩), .pointer (some ⟨q, 0, none⟩)] w fun e w' => e = .returned (.bool true) ∧ Zd9 w' Z q (x.tmp (txW W i')) ∧ Rdw w' p W (i' + 1) d 20 ∧ Fr p B w w' := by
 go_enter Tryz.func42, Tryz.ntmps42
 go_wp2_with fail
 refine (Zb8 h (S.lt hi) 1).mono ?_
 rintro e w6 ⟨rfl, B1⟩
 rw [show (kdW W i' == 1) = true by simp [hk]]
 replace M := M.bel B1
 replace h := h.fr B1
 have G6 := G.up B1.size
 have hBl : B ≤ w6.heap.size := G6.hB
 have hqp : q ≠ p := by have := G.hp; have := G.hq; omega
 have hAp : ¬ Z p := fun e => by have := G.lo p e; have := G.hp; omega
 have hAq : ¬ Z q := G.nq
 have hnw := G6.new
 have hAB := G.lo
 have hAlo : ∀ b, Z b → p < b := fun b hb => by have := G.lo b hb; have := G.hp; omega
 have hkd := M.kids
 obtain ⟨na, nc, Ek, hO6, hoA⟩ := M.ex
 have Ekd : w6.drew.heap[q]? = _ := Ek
 have hOd : w6.drew.ownsRow 0 9 1 _ _ _ := hO6
 have h6d : Rdw w6.drew p W i' d 20 ∧ Fr p w6.heap.size w6 w6.drew := ⟨h.same (fun _ _ => rfl) rfl, Fr.of_below (Below.refl _ _).drew⟩
 clear M G6
 go_wp2_with fail
 refine Zah fun A hA => ?_
 have hsz : A.tmps.size = 20 := by rw [hA]; rfl
 have s0 : A.tmps[0]? = some (.pointer (some ⟨p, 0, none⟩)) := by rw [hA]; rfl
 have s1 : A.tmps[1]? = some (.pointer (some ⟨q, 0, none⟩)) := by rw [hA]; rfl
 refine zR1 (fun A D a w' => ∃ (l : List Value) (va : Option Addr) (vc : Nat) (g : Nat), a = Zaj A 8 l ∧ l.length = 12 ∧ (∀ j, j < 12 → D j → l[j]? = some (nmeV x p q i' g W na va nc vc j)) ∧ (D 12 ∨ w'.heap[q]? = some (.cells #[.int .i64 x.kind, .string (strOfNums x.text), .int .i64 (x.pos : Int), .int .i64 (x.n : Int), .slice na x.names.length nc, .slice none 0 0] 25)) ∧ (D 6 ∨ (Rdw w' p W i' d 20 ∧ Fr p w6.heap.size w6 w')) ∧ (D 9 ∨ w'.ownsRow 0 9 1 (.slice na x.names.length nc) x.names.length (x.names.map Zcr)) ∧ (D 12 → ∃ w9, (Rdw w9 p W (i' + 1) d 20 ∧ Fr p B w6 w9 ∧ w9.ownsRow 0 9 1 (.slice va (x.names.length + 1) vc) (x.names.length + 1) ((x.names ++ [txW W i']).map Zcr) ∧ ∀ g', (Value.slice va (x.names.length + 1) vc).ownBlock = some g' → Z g') ∧ w' = w9.setCell ⟨q, 4, none⟩ (.slice va (x.names.length + 1) vc) ∧ w9.heap[q]? = some (.cells #[.int .i64 x.kind, .string (strOfNums x.text), .int .i64 (x.pos : Int), .int .i64 (x.n : Int), .slice na x.names.length nc, .slice none 0 0] 25)) ∧ (D 6 → ¬ D 8 → (Rdw w' p W (i' + 1) d 20 ∧ Fr p w6.heap.size w6 w')) ∧ (D 8 → ¬ D 9 → (Rdw w' p W (i' + 1) d 20 ∧ Fr p w6.heap.size w6 w' ∧ w'.heap[g]? = some (.cells #[.string (strOfNums (txW W i'))] 9) ∧ w6.heap.size ≤ g)) ∧ (D 9 → ¬ D 12 → (Rdw w' p W (i' + 1) d 20 ∧ Fr p B w6 w' ∧ w'.ownsRow 0 9 1 (.slice va (x.names.length + 1) vc) (x.names.length + 1) ((x.names ++ [txW W i']).map Zcr) ∧ ∀ g', (Value.slice va (x.names.length + 1) vc).ownBlock = some g' → Z g'))) ?start ?step ?done
 case start => exact ⟨_, none, 0, 0, zS 8 12 hsz, zG 8 12 hsz, zK, .inr (Ekd), .inr (h6d), .inr (hOd), zf, zF, zF, zF⟩
 case step =>
  clear hA
  intro i o ho D a w' hI hn hcl hd
  obtain ⟨l, va, vc, g, ha, Lh, hl, hE, hN, hO, hQ, hL, hM, hR⟩ := hI
  match i, ho with
  | 0, ho =>
   cases zq ho
   exact zm (zu 1 ha Lh hsz s1) ⟨_, va, vc, g, zp 0 ha Lh hsz, zh Lh, zk Lh hl, zl hE, zl hN, zl hO, zr hQ, zs hL, zs hM, zs hR⟩
  | 1, ho =>
   cases zq ho
   exact zm (zu 1 ha Lh hsz s1) ⟨_, va, vc, g, zp 1 ha Lh hsz, zh Lh, zk Lh hl, zl hE, zl hN, zl hO, zr hQ, zs hL, zs hM, zs hR⟩
  | 2, ho =>
   cases zq ho
   exact zm (zv ha hsz Lh hl 1 hd) ⟨_, va, vc, g, zp 2 ha Lh hsz, zh Lh, zk Lh hl, zl hE, zl hN, zl hO, zr hQ, zs hL, zs hM, zs hR⟩
  | 3, ho =>
   cases zq ho
   have ev : a.tmps[10]? = some (.pointer (some ⟨q, 0, none⟩)) := zv ha hsz Lh hl 2 hd
   exact zx (.pointer (some ⟨q, 4, none⟩)) (by simp [execOp, ev, go_sem]) ⟨_, va, vc, g, zp 3 ha Lh hsz, zh Lh, zk Lh hl, zl hE, zl hN, zl hO, zr hQ, zs hL, zs hM, zs hR⟩
  | 4, ho =>
   cases zq ho
   have ev : a.tmps[11]? = some (.pointer (some ⟨q, 4, none⟩)) := zv ha hsz Lh hl 3 hd
   have e1 := hE.resolve_left (fun h => hn (zc hcl 9 4 rfl (zc hcl 12 9 rfl h)))
   obtain ⟨z0, z1, z2, z3, z4, z5, _⟩ := Zae e1
   exact zx (.slice na x.names.length nc) (by simp [execOp, ev, go_sem, z4]) ⟨_, va, vc, g, zp 4 ha Lh hsz, zh Lh, zk Lh hl, zl hE, zl hN, zl hO, zr hQ, zs hL, zs hM, zs hR⟩
  | 5, ho =>
   cases zq ho
   exact zm (zu 0 ha Lh hsz s0) ⟨_, va, vc, g, zp 5 ha Lh hsz, zh Lh, zk Lh hl, zl hE, zl hN, zl hO, zr hQ, zs hL, zs hM, zs hR⟩
  | 6, ho =>
   cases zq ho
   have ev : a.tmps[13]? = some (.pointer (some ⟨p, 0, none⟩)) := zv ha hsz Lh hl 5 hd
   have h6 := hN.resolve_left hn
   have e1 := hE.resolve_left (fun h => hn (zc hcl 7 6 rfl (zc hcl 8 7 rfl (zc hcl 9 8 rfl (zc hcl 12 9 rfl h)))))
   have o1 := hO.resolve_left (fun h => hn (zc hcl 7 6 rfl (zc hcl 8 7 rfl (zc hcl 9 8 rfl h))))
   refine Zan (f := 39) (args := #[.pointer (some ⟨p, 0, none⟩)]) (by simp [execOp, ev, go_sem]) ?_
   refine (Zch h6.1 (S.lt hi)).mono ?_
   rintro e w6 ⟨rfl, h9, F9⟩
   refine ⟨_, rfl, ?_⟩
   exact ⟨_, va, vc, g, zp 6 ha Lh hsz, zh Lh, zk Lh hl, .inr ((F9.block q (lt_of_block e1) hqp).trans e1), .inl (.inl rfl), .inr (Zbh o1 (fun g' hg' hl => F9.block g' hl (fun e => hAp (e ▸ hoA g' hg')))), za (fun h => hn (zc hcl 7 6 rfl (zc hcl 8 7 rfl (zc hcl 9 8 rfl (zc hcl 12 9 rfl h))))), fun _ _ => ⟨h9, h6.2.trans F9 h6.2.size⟩, zb (fun h => hn (zc hcl 7 6 rfl (zc hcl 8 7 rfl h))), zb (fun h => hn (zc hcl 7 6 rfl (zc hcl 8 7 rfl (zc hcl 9 8 rfl h))))⟩
  | 7, ho =>
   cases zq ho
   have ev : a.tmps[14]? = some (.agg #[.int .i64 (kdW W i'), .string (strOfNums (txW W i')), .int .i64 (psW W i' : Int)]) := zv ha hsz Lh hl 6 hd
   exact zx (.string (strOfNums (txW W i'))) (by simp [execOp, ev, go_sem, fld1]) ⟨_, va, vc, g, zp 7 ha Lh hsz, zh Lh, zk Lh hl, zl hE, zl hN, zl hO, zr hQ, zs hL, zs hM, zs hR⟩
  | 8, ho =>
   cases zq ho
   have ev : a.tmps[15]? = some ((.string (strOfNums (txW W i')))) := zv ha hsz Lh hl 7 hd
   have L := hL (zc hcl 7 6 rfl (zd hd 7)) hn
   have e1 := hE.resolve_left (fun h => hn (zc hcl 9 8 rfl (zc hcl 12 9 rfl h)))
   have o1 := hO.resolve_left (fun h => hn (zc hcl 9 8 rfl h))
   refine Zba (w' := w'.alloc (.cells #[.string (strOfNums (txW W i'))] 9)) (v := .slice (some ⟨w'.heap.size, 0, none⟩) 1 1) (by simp [execOp, ev, go_sem]) ?_
   exact ⟨_, va, vc, w'.heap.size, zp 8 ha Lh hsz, zh Lh, Zai (val' := nmeV x p q i' w'.heap.size W na va nc vc) Lh (by decide) hl (fun j hj hne => match j, hj, hne with | 0, _, _ => rfl | 1, _, _ => rfl | 2, _, _ => rfl | 3, _, _ => rfl | 4, _, _ => rfl | 5, _, _ => rfl | 6, _, _ => rfl | 7, _, _ => rfl | 8, _, hne => absurd rfl hne | 9, _, _ => rfl | 10, _, _ => rfl | 11, _, _ => rfl | j + 12, _, _ => rfl), .inr ((Zbc.block q (lt_of_block e1)).trans e1), .inl (.inr (zc hcl 7 6 rfl (zd hd 7))), .inr (Zbh o1 (fun g' hg' hl => Zbc.block g' hl)), za (fun h => hn (zc hcl 9 8 rfl (zc hcl 12 9 rfl h))), zi, fun _ _ => ⟨L.1.fr Zbc, L.2.thn zo (Fr.of_below Zbc), Zc0 w' _, L.2.size⟩, zb (fun h => hn (zc hcl 9 8 rfl h))⟩
  | 9, ho =>
   cases zq ho
   have ev : a.tmps[12]? = some (.slice na x.names.length nc) := zv ha hsz Lh hl 4 hd
   have ev' : a.tmps[16]? = some (.slice (some ⟨g, 0, none⟩) 1 1) := zv ha hsz Lh hl 8 hd
   have M := hM (zd hd 8) hn
   have e1 := hE.resolve_left (fun h => hn (zc hcl 12 9 rfl h))
   have o1 := hO.resolve_left hn
   obtain ⟨i9, hi9, hz9, hs9, hb9⟩ := Zb1 Zoa
   obtain ⟨v', w7, hr7, o7, g7, p7⟩ := Zd0 w' 22 22 9 Tryz.underlying22 hi9 hz9 hs9 hb9 rfl (by decide) (by decide) o1 ⟨g, 0, none⟩ 1 1 [.string (strOfNums (txW W i'))] rfl (fun j u hj => by match j, hj with | 0, hj => simp at hj; subst hj; rw [Za7]; simp [World.cell?, M.2.2.1]) (by simp [Value.oneCell']) (by omega) (Nat.zero_le _)
   have o7' : w7.ownsRow 0 9 1 v' (x.names.length + 1) ((x.names ++ [txW W i']).map Zcr) := by rw [List.map_append]; exact o7
   obtain ⟨va', vc', rfl⟩ : ∃ a c, v' = .slice a (x.names.length + 1) c := by
     rcases o7'.2 with ⟨rfl, h0⟩ | ⟨g', cap, cur, rfl, _⟩
     ·exact absurd h0 (by omega)
     exact ⟨_, _, rfl⟩
   have k7 : Kp (.slice na x.names.length nc) w' w7 := ⟨g7.os, g7.tape, g7.output, g7.size, fun b hb hne => g7.block b hb (fun e => hne e.symm)⟩
   have hA7 : ∀ g', (Value.slice va' (x.names.length + 1) vc').ownBlock = some g' → Z g' := fun g' hg' => (p7 g' hg').elim (hoA g') (fun h => hnw g' (Nat.le_trans M.2.1.size h))
   refine Lib.wp_append_run w' (.tmp 12) (.tmp 16) 22 22 rfl _ _ (by simpa [Act.eval] using Zav ev) (by simpa [Act.eval] using Zav ev') _ w7 hr7 ?_
   exact ⟨_, va', vc', g, zp 9 ha Lh hsz, zh Lh, Zai (val' := nmeV x p q i' g W na va' nc vc') Lh (by decide) hl (fun j hj hne => match j, hj, hne with | 0, _, _ => rfl | 1, _, _ => rfl | 2, _, _ => rfl | 3, _, _ => rfl | 4, _, _ => rfl | 5, _, _ => rfl | 6, _, _ => rfl | 7, _, _ => rfl | 8, _, _ => rfl | 9, _, hne => absurd rfl hne | 10, _, _ => rfl | 11, _, _ => rfl | j + 12, _, _ => rfl), .inr ((k7.block q (lt_of_block e1) (fun e => hAq (hoA q e))).trans e1), .inl (.inr (zc hcl 7 6 rfl (zc hcl 8 7 rfl (zd hd 8)))), .inl (.inl rfl), za (fun h => hn (zc hcl 12 9 rfl h)), zj (zd hd 8), zi, fun _ _ => ⟨rd_kp M.1 k7 (fun g' hg' => hAlo g' (hoA g' hg')) , Zqs M.2.1 k7 (fun g' hg' => hAB g' (hoA g' hg')), o7', hA7⟩⟩
  | 10, ho =>
   cases zq ho
   exact zm (zv ha hsz Lh hl 0 hd) ⟨_, va, vc, g, zp 10 ha Lh hsz, zh Lh, zk Lh hl, zl hE, zl hN, zl hO, zr hQ, zs hL, zs hM, zs hR⟩
  | 11, ho =>
   cases zq ho
   have ev : a.tmps[18]? = some (.pointer (some ⟨q, 0, none⟩)) := zv ha hsz Lh hl 10 hd
   exact zx (.pointer (some ⟨q, 4, none⟩)) (by simp [execOp, ev, go_sem]) ⟨_, va, vc, g, zp 11 ha Lh hsz, zh Lh, zk Lh hl, zl hE, zl hN, zl hO, zr hQ, zs hL, zs hM, zs hR⟩
  | 12, ho =>
   cases zq ho
   have ev : a.tmps[19]? = some (.pointer (some ⟨q, 4, none⟩)) := zv ha hsz Lh hl 11 hd
   have ev' : a.tmps[17]? = some (.slice va (x.names.length + 1) vc) := zv ha hsz Lh hl 9 hd
   have e1 := hE.resolve_left hn
   obtain ⟨z0, z1, z2, z3, z4, z5, zf⟩ := Zae e1
   have zf4 := zf 4
   have M := hR (zd hd 9) hn
   refine Zbj (w' := w'.setCell ⟨q, 4, none⟩ (.slice va (x.names.length + 1) vc)) (by simp [execOp, Act.eval, ev, ev', go_sem, z4, zf4]) ?_
   exact ⟨l, va, vc, g, ha, Lh, zJ hl, .inl (.inl rfl), .inl (.inr (zc hcl 7 6 rfl (zc hcl 8 7 rfl (zc hcl 9 8 rfl (zd hd 9))))), .inl (.inr (zd hd 9)), fun _ => ⟨w', M, rfl, e1⟩, zj (zc hcl 9 8 rfl (zd hd 9)), zj (zd hd 9), zi⟩
  | i + 13, ho => simp at ho
 rintro D a w' ⟨l, va, vc, g, ha, Lh, hl, hE, hN, hO, hQ, hL, hM, hR⟩ hall
 obtain ⟨v0, v1, v2, v3, v4, v5, v6, v7, v8, v9, v10, v11, rfl⟩ := zL12 Lh
 obtain ⟨w9, ⟨L9, F9, O9, A9⟩, ew, E9⟩ := hQ (hall 12 (by decide))
 subst hA
 have hfr : a = _ := ha
 rw [hfr]
 clear hfr ha
 simp only [Zaj, yA, yB, yC, yD, yE, yF, yG, yH]
 clear hl hE hN hO hL hM hR hQ hall
 subst ew
 go_wp2
 have S9 := St.cell w9 q 4 (.slice va (x.names.length + 1) vc)
 refine bodyPost_ret (v := .bool true) (by simp [results, go_sem]) rfl ⟨rfl, ⟨hkd, va, vc, ?_, ?_, ?_⟩, L9.st S9 (by have := G.hp; have := G.hq; omega), ((Fr.of_below B1).low G.hB).trans (F9.trans (Fr.of_below (S9.below G.hq)) zo) zo⟩
 ·rw [heap_setCell_same w9 q 4 _ _ _ E9]
  simp [Nd.tmp, Nd.kind, Nd.text, Nd.pos, Nd.n, Nd.names]
 ·have hl1 : (x.tmp (txW W i')).names.length = x.names.length + 1 := by simp [Nd.tmp, Nd.names]
  rw [hl1]
  exact Zbh O9 (fun g hg _ => S9.block g (fun e => hAq (e ▸ A9 g hg)))
 have hl1 : (x.tmp (txW W i')).names.length = x.names.length + 1 := by simp [Nd.tmp, Nd.names]
 rw [hl1]
 exact A9
theorem Zeq (S : Src W E) (hi : i ≤ E) (hk : kdW W i ≠ 1) (h : Rdw w p W i d 20) :
  Calls Tryz.prog 40 #[.pointer (some ⟨p, 0, none⟩), .pointer (some ⟨q, 0, none⟩)] w fun e w' => e = .returned (.bool false) ∧ Below w.heap.size w w' := by
 go_enter Tryz.func40, Tryz.ntmps40
 go_wp2_with fail
 refine (Zqc S hi hk h).mono ?_
 rintro e w1 ⟨rfl, B1⟩
 go_wp2
 go_ret
 exact ⟨rfl, B1⟩
theorem Zdy (S : Src W E) (hi : i ≤ E) (hk : kdW W i = 1) (G : Gd p B q A w) (M : Zd9 w A q x) (hxl : x.names.length ≤ 90000) (hxn : x.n ≤ 90000) (h : Rdw w p W i d 20) :
  Calls Tryz.prog 40 #[.pointer (some ⟨p, 0, none⟩), .pointer (some ⟨q, 0, none⟩)] w fun e w' => e = .returned (.bool true) ∧ Zd9 w' A q (x.arg (txW W i)) ∧ Rdw w' p W (i + 1) d 20 ∧ Fr p B w w' := by
 have hw : IntKind.i64.wrap ((x.n : Int) + 1) = (x.n : Int) + 1 := by rw [IntKind.wrap_i64]; omega
 go_enter Tryz.func40, Tryz.ntmps40
 go_wp2_with fail
 refine (Zm7 S hi hk G M hxl h).mono ?_
 rintro e w1 ⟨rfl, M1, h1, F1⟩
 have hkd := M1.kids
 obtain ⟨na, nc, Ek, hO, hoA⟩ := M1.ex
 have hn1 : (x.tmp (txW W i)).n = x.n := rfl
 rw [hn1] at Ek
 obtain ⟨z0, z1, z2, z3, z4, z5, zf⟩ := Zae Ek
 have zf3 := zf 3
 clear hn1
 go_wp2
 have S1 := St.cell w1 q 3 (.int .i64 ((x.n : Int) + 1))
 refine bodyPost_ret (v := .bool true) (by simp [results, go_sem]) rfl ⟨rfl, ⟨hkd, na, nc, ?_, Zbh hO (fun g hg _ => S1.block g (fun e => G.nq (e ▸ hoA g hg))), hoA⟩, h1.st S1 (by have := G.hp; have := G.hq; omega), F1.trans (Fr.of_below (S1.below G.hq)) zo⟩
 rw [heap_setCell_same w1 q 3 _ _ _ Ek]
 simp [Nd.tmp, Nd.arg, Nd.kind, Nd.text, Nd.pos, Nd.n, Nd.names]
end
end Go.Proofs.YtncfmhlikmibaaaGreatDoor
