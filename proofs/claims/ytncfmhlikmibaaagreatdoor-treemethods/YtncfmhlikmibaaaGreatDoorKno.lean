/- What must come of fixed calls. -/
import Derived.Test.YtncfmhlikmibaaaGreatDoorRxP
import Derived.Test.YtncfmhlikmibaaaGreatDoorBno
import Derived.Test.YtncfmhlikmibaaaGreatDoorCas
import Derived.Test.YtncfmhlikmibaaaGreatDoorDpa
import Derived.Test.YtncfmhlikmibaaaGreatDoorPrs
import Derived.Test.YtncfmhlikmibaaaGreatDoorExp
import Derived.Test.YtncfmhlikmibaaaGreatDoorNam
import Derived.Test.YtncfmhlikmibaaaGreatDoorBlk
import Derived.Test.YtncfmhlikmibaaaGreatDoorInb
import Derived.Test.YtncfmhlikmibaaaGreatDoorOth
import Derived.Test.YtncfmhlikmibaaaGreatDoorStm
import Derived.Test.YtncfmhlikmibaaaGreatDoorWrz
namespace Go.Proofs.YtncfmhlikmibaaaGreatDoor
open Go.RowKit
set_option maxRecDepth 100000
set_option maxHeartbeats 16000000
theorem Zfo (r m : Nd) : (Zat r m).kids ≠ [] := by simp [Zat, Nd.kids]
theorem Znt {W : List Tk} (f : Nat) : ∀ {i d : Nat} {x y : Nd} {k : Nat}, Zdt W f (.unaOf i d x) = some (.ok y k) → (y = x ∧ k = i) ∨ y.kids ≠ [] := by
 induction f with
 | zero => intro i d x y k e; cases e
 | succ f ih =>
  intro i d x y k e
  simp only [Zdt, Zam] at e
  split at e
  ·rcases ih e with ⟨rfl, _⟩ | h
   ·exact Or.inr (Zfo _ _)
   exact Or.inr h
  cases e; exact Or.inl ⟨rfl, rfl⟩
theorem Zos {W : List Tk} (f : Nat) : ∀ {i d : Nat} {x y : Nd} {k : Nat}, Zdt W f (.binOf i d x) = some (.ok y k) → (y = x ∧ k = i) ∨ y.kids ≠ [] := by
 induction f with
 | zero => intro i d x y k e; cases e
 | succ f ih =>
  intro i d x y k e
  simp only [Zdt, Zam] at e
  split at e
  ·cases h1 : Zdt W f (.una (i + 1) d) with
   | none => rw [h1] at e; cases e
   | some r =>
    rw [h1] at e
    cases r with
    | er j c => cases e
    | ok a j =>
     have e2 : Zdt W f (.binOf j d (Zat x (Zda (txW W i) (psW W i) [a]))) = some (.ok y k) := e
     rcases ih e2 with ⟨rfl, _⟩ | h
     ·exact Or.inr (Zfo _ _)
     exact Or.inr h
  cases e; exact Or.inl ⟨rfl, rfl⟩
theorem Zi2 {W : List Tk} {i d k : Nat} {x y : Nd} (h : Zaa W (.keyOf i d x) (.ok y k)) (hk : k ≠ i) : y.kids ≠ [] := by
 obtain ⟨f, e⟩ := h
 cases f with
 | zero => cases e
 | succ f =>
  simp only [Zdt, Zam] at e
  cases h1 : Zdt W f (.unaOf i d x) with
  | none => rw [h1] at e; cases e
  | some r =>
   rw [h1] at e
   cases r with
   | er j c => cases e
   | ok z j =>
    replace e : ((Zdt W f (.binOf j d z)).bind fun r => r.bind fun z k => if kdW W k = 2 then (Zdt W f (.keys k d (Zda [] (psW W k) []))).bind fun r => r.bind fun m l => some (.ok (Zat z m) l) else some (.ok z k)) = some (.ok y k) := e
    cases h2 : Zdt W f (.binOf j d z) with
    | none => rw [h2] at e; cases e
    | some r =>
     rw [h2] at e
     cases r with
     | er j c => cases e
     | ok z2 l =>
      replace e : (if kdW W l = 2 then (Zdt W f (.keys l d (Zda [] (psW W l) []))).bind fun r => r.bind fun m l => some (.ok (Zat z2 m) l) else some (.ok z2 l)) = some (.ok y k) := e
      split at e
      ·cases h3 : Zdt W f (.keys l d (Zda [] (psW W l) [])) with
       | none => rw [h3] at e; cases e
       | some r =>
        rw [h3] at e
        cases r with
        | er j c => cases e
        | ok m l2 => cases e; exact Zfo _ _
      cases e
      rcases Zos f h2 with ⟨rfl, rfl⟩ | h
      ·rcases Znt f h1 with ⟨rfl, rfl⟩ | h
       ·exact absurd rfl hk
       exact h
      exact h
def lstV (x : Nd) (p : Nat) (na ka : Option Addr) (nc kc : Nat) (j : Nat) : Value :=
 ([.agg #[.int .i64 x.kind, .string (strOfNums x.text), .int .i64 (x.pos : Int), .int .i64 (x.n : Int), .slice na x.names.length nc, .slice ka x.kids.length kc],
  .pointer (some ⟨p, 0, none⟩),
  .bool true] : List Value).getD j undef
theorem list_con {W : List Tk} {E : Nat} (S : Src W E) {i d : Nat} (hlt : i < E) (hd : d ≤ 40) (H : ∀ j, i < j → j ≤ E → d ≠ 40 → Zcb 168 W (.elem j (d + 1)) j (d + 1)) : Zcb 163 W (.list i d) i d := by
 intro w p h
 have hi : i ≤ E := Nat.le_of_lt hlt
 have f2 := fld2
 go_enter Tryz.func163, Tryz.ntmps163
 go_wp2_with (refine Zdl _ rfl rfl ?_)
 intro q w1 E1 hq B1
 have X := Sx.start h ⟨_, _, _, _, _, _, E1⟩ hq B1
 have hp := X.hp
 have hq1 := X.z.lt
 have hs1 := X.size
 clear E1 hq B1 h
 go_wp2_with fail
 refine (Zbw X.rd (S.lt hi)).mono ?_
 rintro e w2 ⟨rfl, B2⟩
 have X2 := X.bel B2
 have hs12 : w1.heap.size ≤ w2.heap.size := B2.size
 clear X B2
 go_wp2_with (refine Zcm rfl rfl rfl 4 rfl rfl rfl (fun _ => rfl) (fun _ => rfl) ?_)
 intro q4 w3 E3 hq4 B3
 have K : Zdo w3 (fun b => w2.heap.size ≤ b ∧ b ≠ q4) q4 (.mk 4 [] (psW W i) 0 [] []) := Zdo.new E3
 have hl4 := lt_of_block E3
 have hs23 : w2.heap.size ≤ w3.heap.size := B3.size
 replace X2 := X2.bel B3
 have hqp4 : q4 ≠ p := by have := X2.hp; omega
 have hAp : ¬ (w2.heap.size ≤ p ∧ p ≠ q4) := by have := X2.hp; omega
 clear E3 B3
 by_cases hd4 : d = 40
 ·subst hd4
  go_wp2_with fail
  refine (Zgk X2.rd).mono ?_
  rintro e w5 ⟨rfl, h5, F5⟩
  have X5 := X2.go F5 h5
  clear X2
  obtain ⟨u0, u1, u2, u3, u4, u5, Eq⟩ := X5.z
  go_wp2_with (refine Zar rfl rfl rfl rfl rfl Eq ?_)
  intro wz Ez Sz
  go_wp2
  exact zB 2 3 (by rfl) (by rfl) (by rfl) (Zal Ez) (by rfl) ⟨_, Zhz rfl, ⟨_, _, _, rfl, NdV.zero, (X5.fin Sz).2⟩, (X5.fin Sz).1⟩
 go_wp2_with fail
 refine (Zfd X2.rd (by omega) (S.lt hi)).mono ?_
 rintro e w5 ⟨rfl, h5, F5⟩
 have hs35 : w3.heap.size ≤ w5.heap.size := F5.size
 replace X2 : Sx w p q w5 W (i + 1) ((d + 1 : Nat) : Int) 20 := X2.go F5 h5
 replace K := K.fr F5 hqp4 hAp
 clear F5 h5
 go_wp2_with fail
 go_loopw [] (fun wr => ∃ (i' : Nat) (x' : Nd), Zdo wr (fun b => w2.heap.size ≤ b ∧ b ≠ q4) q4 x' ∧ Sx w p q wr W i' ((d + 1 : Nat) : Int) 20 ∧ i + 1 ≤ i' ∧ i' ≤ E ∧ w5.heap.size ≤ wr.heap.size ∧ x'.kids.length ≤ i' ∧ Hid (x'.names = [] ∧ x'.text = []) ∧ Hid (∀ r, Zaa W (.elems i' (d + 1) x') r → Zaa W (.list i d) r)) (fun wr => E - atOf wr p)
 case atStart => exact ⟨i + 1, _, K, X2, zo, hlt, zo, Nat.zero_le _, ⟨rfl, rfl⟩, fun r hr => Zl0 hr hd4⟩
 clear K X2
 obtain ⟨i', x, K, X, hii, hi', hs5, hxl, hxn, hR⟩ := hrel
 have hat : atOf wr p = i' := X.rd.atOf
 go_wp2_with fail
 refine (Zb8 X.rd (S.lt hi') 9).mono ?_
 rintro e w6 ⟨rfl, B6⟩
 have hs6 : wr.heap.size ≤ w6.heap.size := B6.size
 replace K := K.bel B6
 replace X := X.bel B6
 clear B6
 by_cases hk : kdW W i' = 9
 ·rw [show (kdW W i' == 9) = true by simp [hk]]
  have hlt' : i' < E := S.ends.lt (by rw [hk]; decide)
  have hN := K.nd (by rw [hxn.out.1]; exact Nat.zero_le _) (by have := S.small; omega) (by rw [hxn.out.2]; exact Nat.zero_le _)
  obtain ⟨na, nc, ka, kc, Ek, hv⟩ := hN
  go_wp2_with fail
  have hd1 : (0 : Int) ≤ ((d + 1 : Nat) : Int) ∧ ((d + 1 : Nat) : Int) ≤ 100 := by omega
  have Ekd : w6.drew.heap[q4]? = _ := Ek
  have hZd : Zer w6.drew q := X.z
  have h6d : Rdw w6.drew p W i' ((d + 1 : Nat) : Int) 20 ∧ Fr p w6.heap.size w6 w6.drew := ⟨X.rd.same (fun _ _ => rfl) rfl, Fr.of_below (Below.refl _ _).drew⟩
  have hqpq : q ≠ p := by have := X.hq; have := X.hp; omega
  refine Zah fun A hA => ?_
  have hsz : A.tmps.size = 35 := by rw [hA]; rfl
  have st : A.tmps[3]? = some (u3) := by rw [hA]; rfl
  have s0 : A.tmps[0]? = some (.pointer (some ⟨p, 0, none⟩)) := by rw [hA]; rfl
  have s4 : A.tmps[4]? = some (.pointer (some ⟨q4, 0, none⟩)) := by rw [hA]; rfl
  have s2 : A.tmps[2]? = some (.pointer (some ⟨q, 0, none⟩)) := by rw [hA]; rfl
  refine zR1 (fun A D a w' => ∃ (l : List Value) (vt : Value), a = (Zaj A 32 l).put (some 3) vt ∧ l.length = 3 ∧ (∀ j, j < 3 → D j → l[j]? = some (lstV x p na ka nc kc j)) ∧ (D 4 → vt = .bool true) ∧ (D 3 ∨ w'.heap[q4]? = some (.cells #[.int .i64 x.kind, .string (strOfNums x.text), .int .i64 (x.pos : Int), .int .i64 (x.n : Int), .slice na x.names.length nc, .slice ka x.kids.length kc] 25)) ∧ (D 3 ∨ Zer w' q) ∧ (D 2 ∨ (Rdw w' p W i' ((d + 1 : Nat) : Int) 20 ∧ Fr p w6.heap.size w6 w')) ∧ (D 3 → ∃ w9, (Rdw w9 p W (i' + 1) (((d + 1 : Nat) : Int) - 1) 20 ∧ Fr p w6.heap.size w6 w9) ∧ w'.heap[q]? = some (.cells #[.int .i64 x.kind, .string (strOfNums x.text), .int .i64 (x.pos : Int), .int .i64 (x.n : Int), .slice na x.names.length nc, .slice ka x.kids.length kc] 25) ∧ St q w9 w') ∧ (D 2 → ¬ D 3 → (Rdw w' p W (i' + 1) (((d + 1 : Nat) : Int) - 1) 20 ∧ Fr p w6.heap.size w6 w'))) ?start ?step ?done
  case start => exact ⟨_, _, Zbo A 32 3 3 _ (by omega) (by decide) st, zG 32 3 hsz, zK, zf, .inr (Ekd), .inr (hZd), .inr (h6d), zf, zF⟩
  case step =>
   clear hA
   intro i o ho D a w' hI hn hcl hd
   obtain ⟨l, vt, ha, Lh, hl, hvt, hE, hZ, hN, hQ, hL⟩ := hI
   match i, ho with
   | 0, ho =>
    cases zq ho
    have ev : a.tmps[4]? = some (.pointer (some ⟨q4, 0, none⟩)) := zU 4 ha Lh hsz s4
    have e1 := hE.resolve_left (fun h => hn (zc hcl 3 0 rfl h))
    obtain ⟨z0, z1, z2, z3, z4, z5, _⟩ := Zae e1
    exact zx (.agg #[.int .i64 x.kind, .string (strOfNums x.text), .int .i64 (x.pos : Int), .int .i64 (x.n : Int), .slice na x.names.length nc, .slice ka x.kids.length kc]) (by simp [execOp, ev, go_sem, z0, z1, z2, z3, z4, z5]) ⟨_, vt, zt 0 ha Lh hsz, zh Lh, zk Lh hl, zr hvt, zl hE, zl hZ, zl hN, zr hQ, zs hL⟩
   | 1, ho =>
    cases zq ho
    exact zm (zU 0 ha Lh hsz s0) ⟨_, vt, zt 1 ha Lh hsz, zh Lh, zk Lh hl, zr hvt, zl hE, zl hZ, zl hN, zr hQ, zs hL⟩
   | 2, ho =>
    cases zq ho
    have ev : a.tmps[33]? = some (.pointer (some ⟨p, 0, none⟩)) := zw ha hsz Lh hl 1 hd
    have h6 := hN.resolve_left hn
    refine Zan (f := 161) (args := #[.pointer (some ⟨p, 0, none⟩), .int .i64 9]) (by simp [execOp, ev, go_sem]) ?_
    refine (Zhd h6.1 (S.lt hi') hd1 9 hk).mono ?_
    rintro e w6 ⟨rfl, h9, F9⟩
    refine ⟨_, rfl, ?_⟩
    exact ⟨_, vt, zt 2 ha Lh hsz, zh Lh, zk Lh hl, zr hvt, hE.imp .inr (fun h => (F9.block q4 (lt_of_block h) hqp4).trans h), hZ.imp .inr (fun h => h.keep (fun hl => F9.block q hl hqpq)), .inl (.inl rfl), za (fun h => hn (hcl 3 _ rfl h ⟨2, .chain⟩ (by simp) rfl)), fun _ _ => ⟨h9, h6.2.trans F9 h6.2.size⟩⟩
   | 3, ho =>
    cases zq ho
    have ev : a.tmps[32]? = some (.agg #[.int .i64 x.kind, .string (strOfNums x.text), .int .i64 (x.pos : Int), .int .i64 (x.n : Int), .slice na x.names.length nc, .slice ka x.kids.length kc]) := zw ha hsz Lh hl 0 hd
    have e1 := hZ.resolve_left hn
    obtain ⟨u0, u1, u2, u3, u4, u5, e1⟩ := e1
    have e4 : a.tmps[2]? = some (.pointer (some ⟨q, 0, none⟩)) := zU 2 ha Lh hsz s2
    have L := hL (hd ⟨2, .chain⟩ (by simp) rfl) hn
    refine wp_store_row (P := Tryz.prog) 25 (.tmp 2) (.tmp 32) rfl q #[.int .i64 x.kind, .string (strOfNums x.text), .int .i64 (x.pos : Int), .int .i64 (x.n : Int), .slice na x.names.length nc, .slice ka x.kids.length kc] (by simpa [Act.eval] using Zav e4) (by simpa [Act.eval] using Zav ev) 25 _ e1 (by kernel_rfl) rfl (by simp [Value.oneCell']) ?_
    exact ⟨l, vt, ha, Lh, zJ hl, zr hvt, .inl (.inl rfl), .inl (.inl rfl), .inl (.inr (hd ⟨2, .chain⟩ (by simp) rfl)), fun _ => ⟨w', L, setRow_heap w' q _ _ _ _ e1, St.row w' q _⟩, zi⟩
   | 4, ho =>
    cases zq ho
    have ev : a.tmps[34]? = some (.bool true) := zw ha hsz Lh hl 2 hd
    exact zx (.bool true) (by simp [execOp, ev, go_sem]) ⟨l, (.bool true), by rw [ha]; exact Zbp _ _ _ _, Lh, zJ hl, fun _ => rfl, zl hE, zl hZ, zl hN, zr hQ, zs hL⟩
   | i + 5, ho => simp at ho
  rintro D a w' ⟨l, vt, ha, Lh, hl, hvt, hE, hZ, hN, hQ, hL⟩ hall
  obtain rfl := hvt (hall 4 (by decide))
  obtain ⟨v0, v1, v2, rfl⟩ := zL3 Lh
  obtain ⟨w9, ⟨L9, F9⟩, Eq, Sq⟩ := hQ (hall 3 (by decide))
  subst hA
  have hfr : a = _ := ha
  rw [hfr]
  clear hfr ha
  simp only [Zaj, yA, yB, yC, yD, yE, yF, yG, yH]
  clear hl hE hZ hN hL hQ hall
  have hs69 := F9.size
  have X9 := X.go F9 L9
  have hv9 := hv.fr F9 (fun b hb hl => ⟨hl, fun e => hAp (e ▸ hb)⟩)
  have hdd : (((d + 1 : Nat) : Int) - 1) = (d : Int) := by omega
  rw [hdd] at X9
  go_wp2
  exact zB 2 3 (by rfl) (by rfl) (by rfl) (Zal Eq) (by rfl) ⟨_, hR.out _ (Zh3 hk), ⟨_, rfl, NdV.imp (fun b _ hA => ⟨by omega, Sq.block b (by omega)⟩) _ _ hv9, (X9.fin Sq).2⟩, (X9.fin Sq).1⟩
 rw [show (kdW W i' == 9) = false by simp [hk]]
 go_wp2_with fail
 refine (H i' (by omega) hi' hd4 w6 p X.rd).mono ?_
 rintro e w7 ⟨r, hr, ha, F7⟩
 have hs67 : w6.heap.size ≤ w7.heap.size := F7.size
 have X7 := X
 obtain ⟨oa, oc, pa, pc, Ek, sn, rk⟩ := K
 have hko : ∀ b, (Value.slice pa x.kids.length pc).ownBlock = some b → (w2.heap.size ≤ b ∧ b ≠ q4) ∧ b < w6.heap.size := fun b hb => rk.own hb
 replace Ek := (F7.block _ (lt_of_block Ek) hqp4).trans Ek
 replace sn := sn.imp (fun b hb hA => ⟨hA, F7.block b hb (fun e => hAp (e ▸ hA.1))⟩)
 replace rk := rk.keep (fun b hA hb => F7.block b hb (fun e => hAp (e ▸ hA)))
 cases r with
 | er j c =>
  obtain ⟨v, y, d', rfl, hv, h7⟩ := ha
  obtain ⟨na, nc, ka, kc, _, rfl, _⟩ := NdV.parts hv
  replace X7 := X.go F7 h7
  go_wp2_with (refine Zcm rfl rfl rfl 5 rfl rfl rfl (fun _ => rfl) (fun _ => rfl) ?_)
  intro q5 w8 E8 _ B8
  replace X7 := X7.bel B8
  obtain ⟨u0, u1, u2, u3, u4, u5, Eq⟩ := X7.z
  go_wp2_with (refine Zar rfl rfl rfl rfl rfl Eq ?_)
  intro wz Ez Sz
  go_wp2
  exact zB 2 3 (by rfl) (by rfl) (by rfl) (Zal Ez) (by rfl) ⟨_, hR.out _ (Zjs hr hk), ⟨_, _, _, rfl, NdV.zero, (X7.fin Sz).2⟩, (X7.fin Sz).1⟩
 | ok y j =>
  obtain ⟨v, rfl, hv, h7⟩ := ha
  have hj : i' + 1 ≤ j ∧ j ≤ E := hr.adv S.ends hi'
  obtain ⟨na, nc, ka, kc, _, rfl, _⟩ := NdV.parts hv
  replace X7 := X.go F7 h7
  clear X F7 h7
  go_wp2_with (refine Zcm rfl rfl rfl 5 rfl rfl rfl (fun _ => rfl) (fun _ => rfl) ?_)
  intro q5 w8 E8 _ B8
  replace X7 := X7.bel B8
  replace Ek := (B8.block _ (lt_of_block Ek)).trans Ek
  replace sn := sn.imp (fun b hb hA => ⟨hA, B8.block b hb⟩)
  replace rk := rk.keep (fun b _ hb => B8.block b hb)
  replace hv := hv.bel B8
  have hs78 : w7.heap.size ≤ w8.heap.size := B8.size
  clear B8
  obtain ⟨y0, y1, y2, y3, y4, y5, _⟩ := Zae Ek
  obtain ⟨z0, z1, z2, z3, z4, z5, _⟩ := Zae E8
  go_wp2_with (refine bs25 _ rfl _ rfl _ _ _ _ _ _ _ _ _ _ rfl ?_)
  intro g w9 E9 hg B9
  replace Ek := (B9.block _ (lt_of_block Ek)).trans Ek
  have hs89 : w8.heap.size ≤ w9.heap.size := B9.size
  replace sn := sn.imp (fun b hb hA => ⟨hA, B9.block b hb⟩)
  replace rk := rk.keep (fun b _ hb => B9.block b hb)
  replace hv := hv.bel B9
  replace X7 := X7.bel B9
  clear y0 y1 y2 y3 y4 y5 z0 z1 z2 z3 z4 z5 B9 E8
  go_wp2_with (at_builtin; refine ap25p _ rfl _ _ rfl rfl rk rfl E9 hv ?hA ?hn ?hb ?_)
  case hA =>
   intro b hb hh
   refine ⟨⟨by omega, by omega⟩, fun g' hg' => ?_⟩
   have := hko g' hg'
   omega
  case hn => have := S.small; omega
  case hb => intro b hb; exact ⟨by omega, by omega⟩
  intro va vc w10 R10 K10 pl10
  obtain ⟨K11, S11⟩ := Zdo.put Ek sn R10 K10 pl10 (by omega) (fun e => by have := hko _ e; omega)
  replace X7 := (X7.kp K10 (fun g' hg' => by have := hko g' hg'; omega)).st S11 (by omega)
  have hs10 : w9.heap.size ≤ w10.heap.size := K10.size
  have hs11 := S11.size
  obtain ⟨y0, y1, y2, y3, y4, y5, zf⟩ := Zae ((K10.block q4 (lt_of_block Ek) (fun e => by have := hko _ e; omega)).trans Ek)
  have zf5 := zf 5
  clear S11 K10 R10 pl10 sn rk hv E9
  go_wp2
  go_roundw
  case rel => exact ⟨j, x.kid y, K11, X7, by omega, hj.2, by omega, by simp [Nd.kid, Nd.kids]; show x.kids.length + 1 ≤ j; omega, ⟨hxn.out.1, hxn.out.2⟩, fun r hr' => hR.out r (Zjr hr hr' hk)⟩
  case measure => rw [X7.rd.atOf, hat]; omega
structure Alls (W : List Tk) (E i d : Nat) : Prop where
 list : i < E → Zcb 163 W (.list i d) i d
 prim : Zcb 134 W (.prim i d) i d
 una : Zcb 169 W (.una i d) i d
 bin : Zcb 166 W (.bin i d) i d
 binOf : ∀ x, Zou 150 W (.binOf i d x) x i d
 keys : ConK W i d
 keyOf : ∀ x, Zou 135 W (.keyOf i d x) x i d
 msg : Zcb 154 W (.msg i d) i d
 oth : ∀ s, s.kids ≠ [] → Zou 136 W (.others i d (Zcw s)) s i d
 expr : Zcb 97 W (.expr i d) i d
 stmt : Zcb 72 W (.stmt i d) i d
 stmts : Zrh 43 W (fun x => .stmts i d x) i d
 body : Zrh 26 W (fun x => .body i d x) i d
 elem : Zcb 168 W (.elem i d) i d
theorem Zrg {W : List Tk} {E : Nat} (S : Src W E) (hT : ∀ i, ∀ c ∈ txW W i, 0 ≤ c ∧ c < 256)
  (HST : ∀ i d, i ≤ E → d ≤ 40 → (∀ j, i ≤ j → j ≤ E → Zcb 72 W (.stmt j d) j d) → Zrh 43 W (fun x => .stmts i d x) i d)
  {i d : Nat} (hi : i ≤ E) (hd : d ≤ 40) (ih : ∀ j d, i < j → j ≤ E → d ≤ 40 → Alls W E j d) : Alls W E i d := by
 have lt : ∀ {k : Int}, kdW W i = k → k ≠ 0 → i < E := fun h hk => S.ends.lt (by rw [h]; exact hk)
 have list : i < E → Zcb 163 W (.list i d) i d := fun hlt => list_con S hlt hd fun j h1 h2 h3 => (ih j (d + 1) h1 h2 (by omega)).elem
 have block : i < E → Zcb 148 W (.block i d) i d := fun hlt => Zrc S hlt hd fun j h1 h2 h3 => (ih j (d + 1) h1 h2 (by omega)).body
 have brk : kdW W i = 8 → Zcb 147 W (.prim i d) i d := fun hk => Zih S (lt hk (by decide)) hd hk fun h => (ih (i + 1) (d + 1) (by omega) (lt hk (by decide)) (by omega)).expr
 have prim : Zcb 134 W (.prim i d) i d := Zmc S hi brk (fun hk => block (lt hk (by decide))) (fun hk => list (lt hk (by decide)))
 have una : Zcb 169 W (.una i d) i d := Zo8 S hi prim
 have binOf : ∀ x, Zou 150 W (.binOf i d x) x i d := fun x => Zlu S hi fun j h1 h2 => (ih j d h1 h2 hd).una
 have bin : Zcb 166 W (.bin i d) i d := Zoq S hi una fun x j h1 h2 => (ih j d h1 h2 hd).binOf x
 have keys : ConK W i d := Zqk S hi fun j h1 h2 => (ih j d h1 h2 hd).bin
 have keyOf : ∀ x, Zou 135 W (.keyOf i d x) x i d := fun x => Zmi S hi
  (fun j x h1 h2 => by
   rcases Nat.eq_or_lt_of_le h1 with e | h
   ·subst e; exact binOf x
   exact (ih j d h h2 hd).binOf x)
  (fun j h1 h2 _ => by
   rcases Nat.eq_or_lt_of_le h1 with e | h
   ·subst e; exact keys
   exact (ih j d h h2 hd).keys)
 have casc : Zcb 116 W (.casc i d) i d := Zms S hi prim (fun j x h1 h2 => (ih j d h1 h2 hd).keyOf x) (fun k s h1 h2 h3 => (ih k d h1 h2 hd).oth s h3) (fun h hk => Zi2 h hk)
 have msg : Zcb 154 W (.msg i d) i d := Zmh S hi (fun hk => (ih (i + 1) d (by omega) (lt hk (by decide)) hd).una) (fun _ => keys.con0)
 have oth : ∀ s, s.kids ≠ [] → Zou 136 W (.others i d (Zcw s)) s i d := fun s hs => Zn0 S hi hs fun j h1 h2 => (ih j d h1 h2 hd).msg
 have set : kdW W i = 1 → kdW W (i + 1) = 7 → Zcb 115 W (.expr i d) i d := fun hk hk7 => set_con S hi hd hk hk7 fun h => (ih (i + 2) (d + 1) (by omega) (by have := S.ends.lt (m := i + 1) (by rw [hk7]; decide); omega) (by omega)).expr
 have expr : Zcb 97 W (.expr i d) i d := Zij S hi set casc
 have stmt : Zcb 72 W (.stmt i d) i d := Zkd S hi expr fun hk => (ih (i + 1) d (by omega) (lt hk (by decide)) hd).expr
 have stmts : Zrh 43 W (fun x => .stmts i d x) i d := HST i d hi hd fun j h1 h2 => by
  rcases Nat.eq_or_lt_of_le h1 with e | h
  ·subst e; exact stmt
  exact (ih j d h h2 hd).stmt
 have body : Zrh 26 W (fun x => .body i d x) i d := body_con S hi fun j h1 h2 => by
  rcases Nat.eq_or_lt_of_le h1 with e | h
  ·subst e; exact stmts
  exact (ih j d h h2 hd).stmts
 have elem : Zcb 168 W (.elem i d) i d := Zmk S hT hi fun h => list (by rcases h with h | h <;> exact lt h (by decide))
 exact ⟨list, prim, una, bin, binOf, keys, keyOf, msg, oth, expr, stmt, stmts, body, elem⟩
theorem alls {W : List Tk} {E : Nat} (S : Src W E) (hT : ∀ i, ∀ c ∈ txW W i, 0 ≤ c ∧ c < 256)
  (HST : ∀ i d, i ≤ E → d ≤ 40 → (∀ j, i ≤ j → j ≤ E → Zcb 72 W (.stmt j d) j d) → Zrh 43 W (fun x => .stmts i d x) i d) (n : Nat) : ∀ i d, E - i ≤ n → i ≤ E → d ≤ 40 → Alls W E i d := by
 induction n with
 | zero => intro i d hn hi hd; exact Zrg S hT HST hi hd fun j d' h1 h2 _ => absurd h1 (by omega)
 | succ n ih => intro i d hn hi hd; exact Zrg S hT HST hi hd fun j d' h1 h2 h3 => ih j d' (by omega) h2 h3
def LexE (ss : List Int) (pl : Nat) (er : Int) : Prop :=
 (4096 < ss.length ∧ pl = 0 ∧ er = 3) ∨ (ss.length ≤ 4096 ∧ Zck Zeb 0 ss = .error pl ∧ er = 20)
def TreP (ss : List Int) (m : Bool) (n : Nd) (pl : Nat) (er : Int) : Prop :=
 (LexE ss pl er ∧ n = zNd) ∨ ∃ W, ss.length ≤ 4096 ∧ Zck Zeb 0 ss = .ok W ∧ Zb4 W m n pl er
theorem Zk8 (ss : List Int) (m : Bool) (pl : Nat) (er : Int) (h3 : er ≠ 0) (w : World)
  (HL : ∀ w, Calls Tryz.prog 24 #[.string (strOfNums ss)] w fun e w' => e = .returned (.tuple #[.slice none 0 0, .int .i64 (pl : Int), .int .i64 er]) ∧ Below w.heap.size w w') :
  Calls Tryz.prog 19 #[.string (strOfNums ss), .bool m] w fun e w' => ∃ v, e = .returned (.tuple #[v, .int .i64 (pl : Int), .int .i64 er]) ∧ NdB w.heap.size w' zNd v ∧ Below w.heap.size w w' := by
 have hne : (er != 0) = true := by simp [h3]
 go_enter Tryz.func19, Tryz.ntmps19
 go_wp2_with (refine Zdl _ rfl rfl ?_)
 intro q w1 E1 hq B1
 go_wp2_with fail
 refine wp_scope_jumps 0 (fun a' w' => False) (fun _ _ => 0) rfl ?_ ?_
 ·go_wp2_with fail
  refine (HL w1).mono ?_
  rintro e w2 ⟨rfl, B2⟩
  have B02 : Below w.heap.size w w2 := B1.trans (B2.mono B1.size)
  have E2 : w2.heap[q]? = _ := (B2.block _ (lt_of_block E1)).trans E1
  clear E1 B1 B2
  go_wp2_with (refine Zar rfl rfl rfl rfl rfl E2 ?_)
  intro w4 E4 S4
  go_wp2
  simp only [Exit.jump]
  exact bodyPost_ret (Za6 (a := 4) (t := 25) (b := 5) (c := 6) (by rfl) (by rfl) (by rfl) (by rfl) (Zal E4)) (by rfl) ⟨_, rfl, NdB.zero, B02.trans (S4.below hq)⟩
 rintro a' w' h
 exact h.elim
theorem Zk2 (ss : List Int) (m : Bool) (w : World) (hb : ∀ x ∈ ss, 0 ≤ x ∧ x < 256) (hm : ss.length ≤ 9223372036854775807) :
  Calls Tryz.prog 19 #[.string (strOfNums ss), .bool m] w fun e w' => ∃ n pl er v, TreP ss m n pl er ∧ e = .returned (.tuple #[v, .int .i64 (pl : Int), .int .i64 er]) ∧ NdB w.heap.size w' n v ∧ Below w.heap.size w w' := by
 by_cases hl : 4096 < ss.length
 ·refine (Zk8 ss m 0 3 (by decide) w fun w => (Zkf ss w hb hm).mono ?_).mono ?_
  ·rintro e w' ⟨h, B⟩
   unfold RdP at h
   rw [if_pos hl] at h
   exact ⟨h, B⟩
  rintro e w' ⟨v, he, hn, B⟩
  exact ⟨zNd, 0, 3, v, .inl ⟨.inl ⟨hl, rfl, rfl⟩, rfl⟩, he, hn, B⟩
 have hl2 : ss.length ≤ 4096 := by omega
 cases ho : Zck Zeb 0 ss with
 | error p =>
  refine (Zk8 ss m p 20 (by decide) w fun w => (Zkf ss w hb hm).mono ?_).mono ?_
  ·rintro e w' ⟨h, B⟩
   unfold RdP at h
   rw [if_neg hl, ho] at h
   exact ⟨h, B⟩
  rintro e w' ⟨v, he, hn, B⟩
  exact ⟨zNd, p, 20, v, .inl ⟨.inr ⟨hl2, ho, rfl⟩, rfl⟩, he, hn, B⟩
 | ok W =>
  obtain ⟨S, hT, _⟩ := src_of ho hl2 hb
  have A := alls S hT (fun i d hi _ H => Zig S hi H) (W.length - 1)
  refine (unit_con S (fun j hj => (A j 0 (by omega) hj (by decide)).body) ss m w fun w => (Zkf ss w hb hm).mono ?_).mono ?_
  ·rintro e w' ⟨h, B⟩
   unfold RdP at h
   rw [if_neg hl, ho] at h
   exact ⟨h, B⟩
  rintro e w' ⟨n, pl, er, v, hu, he, hn, B⟩
  exact ⟨n, pl, er, v, .inr ⟨W, hl2, ho, hu⟩, he, hn, B⟩
theorem Zg3 (f : Nat) (m : Bool) (hf : (f = 8 ∧ m = false) ∨ (f = 13 ∧ m = true)) (ss : List Int) (w : World) (hb : ∀ x ∈ ss, 0 ≤ x ∧ x < 256) (hm : ss.length ≤ 9223372036854775807) :
  Calls Tryz.prog f #[.string (strOfNums ss)] w fun e w' => ∃ n pl er v, TreP ss m n pl er ∧ e = .returned (.tuple #[v, .int .i64 (pl : Int), .int .i64 er]) ∧ NdB w.heap.size w' n v ∧ Below w.heap.size w w' := by
 rcases hf with ⟨rfl, rfl⟩ | ⟨rfl, rfl⟩
 ·go_enter Tryz.func8, Tryz.ntmps8
  go_wp2_with (refine Zdl _ rfl rfl ?_)
  intro q w1 E1 hq B1
  go_wp2_with fail
  refine (Zk2 ss false w1 hb hm).mono ?_
  rintro e w2 ⟨n, pl, er, v, hu, rfl, hn, B2⟩
  obtain ⟨na, nc, ka, kc, _, rfl, _⟩ := NdV.parts hn
  have E2 : w2.heap[q]? = _ := (B2.block _ (lt_of_block E1)).trans E1
  have hql := lt_of_block E1
  go_wp2_with (refine Zar rfl rfl rfl rfl rfl E2 ?_)
  intro w4 E4 S4
  go_wp2
  exact bodyPost_ret (Za6 (a := 2) (t := 25) (b := 3) (c := 4) (by rfl) (by rfl) (by rfl) (by rfl) (Zal E4)) (by rfl) ⟨n, pl, er, _, hu, rfl, hn.imp (fun b _ hA => ⟨by have := B1.size; omega, S4.block b (by omega)⟩) _ _, (B1.trans (B2.mono B1.size)).trans (S4.below hq)⟩
 go_enter Tryz.func13, Tryz.ntmps13
 go_wp2_with (refine Zdl _ rfl rfl ?_)
 intro q w1 E1 hq B1
 go_wp2_with fail
 refine (Zk2 ss true w1 hb hm).mono ?_
 rintro e w2 ⟨n, pl, er, v, hu, rfl, hn, B2⟩
 obtain ⟨na, nc, ka, kc, _, rfl, _⟩ := NdV.parts hn
 have E2 : w2.heap[q]? = _ := (B2.block _ (lt_of_block E1)).trans E1
 have hql := lt_of_block E1
 go_wp2_with (refine Zar rfl rfl rfl rfl rfl E2 ?_)
 intro w4 E4 S4
 go_wp2
 exact bodyPost_ret (Za6 (a := 2) (t := 25) (b := 3) (c := 4) (by rfl) (by rfl) (by rfl) (by rfl) (Zal E4)) (by rfl) ⟨n, pl, er, _, hu, rfl, hn.imp (fun b _ hA => ⟨by have := B1.size; omega, S4.block b (by omega)⟩) _ _, (B1.trans (B2.mono B1.size)).trans (S4.below hq)⟩
section
def srcK : List Int := [97, 32, 98, 32, 43, 32, 50, 32, 102, 111, 111, 58, 32, 51]
def WK : List Tk := [⟨1, [97], 0⟩, ⟨1, [98], 2⟩, ⟨3, [43], 4⟩, ⟨4, [50], 6⟩, ⟨2, [102, 111, 111, 58], 8⟩, ⟨4, [51], 13⟩, ⟨0, [], 14⟩]
theorem lexK : Zck Zeb 0 srcK = .ok WK := by kernel_rfl
def treK : Nd := .mk 12 [] 0 0 [] [.mk 7 [102, 111, 111, 58] 8 0 [] [.mk 7 [43] 4 0 [] [.mk 7 [98] 2 0 [] [.mk 5 [97] 0 0 [] []], .mk 1 [50] 6 0 [] []], .mk 1 [51] 13 0 [] []]]
theorem runK : Zdt WK 60 (.body 0 0 u0N) = some (.ok treK 6) := by kernel_rfl
def srcE : List Int := [97, 32, 93]
def WE : List Tk := [⟨1, [97], 0⟩, ⟨11, [93], 2⟩, ⟨0, [], 3⟩]
theorem lexE : Zck Zeb 0 srcE = .ok WE := by kernel_rfl
def treE : Nd := .mk 12 [] 0 0 [] [.mk 5 [97] 0 0 [] []]
theorem runE : Zdt WE 60 (.body 0 0 u0N) = some (.ok treE 1) := by kernel_rfl
variable {er : Int} {n : Nd} {pl : Nat}
theorem Zpb {ss : List Int} {W : List Tk} {x : Nd} {j f : Nat} (h : TreP ss false n pl er) (hl : ss.length ≤ 4096) (ho : Zck Zeb 0 ss = .ok W) (hr : Zdt W f (.body 0 0 u0N) = some (.ok x j)) : if kdW W j = 0 then n = x ∧ pl = 0 ∧ er = 0 else n = zNd ∧ pl = psW W j ∧ er = 20 := by
 rcases h with ⟨⟨h, _⟩ | ⟨_, h, _⟩, _⟩ | ⟨W', _, h, hu⟩
 ·omega
 ·rw [ho] at h; cases h
 rw [ho] at h
 cases h
 unfold Zb4 at hu
 rw [if_neg (by decide)] at hu
 obtain ⟨r, h1, h2⟩ := hu
 obtain rfl := h1.det ⟨f, hr⟩
 exact h2
theorem knownK (h : TreP srcK false n pl er) : n = treK ∧ pl = 0 ∧ er = 0 := Zpb h (by decide) lexK runK
theorem knownE (h : TreP srcE false n pl er) : n = zNd ∧ pl = 2 ∧ er = 20 := Zpb h (by decide) lexE runE
end
theorem wrK : Zey treK srcK := by
 have Ha := Zg6 5 (.inr rfl) [97] 0 (by decide)
 have Mb := msg_un [98] [] (by decide) rfl
 have Hb := Zg5 2 (by decide) Ha rfl (by decide) Mb
 have H2 := Zg6 1 (.inl rfl) [50] 6 (by decide)
 have Mp := msg_sg [43] (r := []) (by decide) rfl H2 rfl (by decide)
 have Hp := Zg5 4 (by decide) Hb rfl (by decide) Mp
 have H3 := Zg6 1 (.inl rfl) [51] 13 (by decide)
 have Mf := msg_key [102, 111, 111] (by decide) (by decide) (by decide) rfl H3 rfl (by decide)
 have Hf := Zg5 8 (by decide) Hp rfl (by decide) Mf
 exact Zp9 Hf
theorem Zn7 (w : World) : Calls Tryz.prog 12 #[] w fun e w' => e = .returned (.bool true) ∧ Below w.heap.size w w' := by
 have e1 : (⟨#[97, 32, 98, 32, 43, 32, 50, 32, 102, 111, 111, 58, 32, 51]⟩ : ByteArray) = strOfNums srcK := rfl
 have e2 : (⟨#[97, 32, 93]⟩ : ByteArray) = strOfNums srcE := rfl
 have P1 := fun w => Zg3 8 false (.inl ⟨rfl, rfl⟩) srcK w (by decide) (by decide)
 have P2 := fun w => Zg3 8 false (.inl ⟨rfl, rfl⟩) srcE w (by decide) (by decide)
 have A1 := fun w => Zdz [97, 116, 58, 112, 117, 116, 58] w (by decide) (by decide)
 have A2 := fun w => Zdz [43] w (by decide) (by decide)
 have A3 := fun w => Zdz [102, 111, 111] w (by decide) (by decide)
 have a1 : Zcx [97, 116, 58, 112, 117, 116, 58] = 2 := rfl
 have a2 : Zcx [43] = 1 := rfl
 have a3 : Zcx [102, 111, 111] = 0 := rfl
 rw [a1] at A1
 rw [a2] at A2
 rw [a3] at A3
 rw [← e1] at P1
 rw [← e2] at P2
 go_enter Tryz.func12, Tryz.ntmps12
 go_wp2_with fail
 refine (P1 _).mono ?_
 rintro e w1 ⟨n, pl, er, v, ht, rfl, hn, B1⟩
 obtain ⟨rfl, rfl, rfl⟩ := knownK ht
 clear ht
 obtain ⟨na, nc, ka, kc, _, hv, _⟩ := NdV.parts hn
 replace hv : v = .agg #[.int .i64 12, .string ⟨#[]⟩, .int .i64 0, .int .i64 0, .slice na 0 nc, .slice ka 1 kc] := hv
 subst hv
 rw [Int.natCast_zero]
 go_wp2_with (refine Zdl _ rfl rfl ?_)
 intro b1 w2 E2 hb1 B2
 go_wp2_with (refine Zar rfl rfl rfl rfl rfl E2 ?_)
 intro w3 E3 S3
 have B3 : Below w1.heap.size w1 w3 := B2.trans (S3.below hb1)
 have hn3 : NdV (fun b => w.heap.size ≤ b) w3 treK (.agg #[.int .i64 12, .string ⟨#[]⟩, .int .i64 0, .int .i64 0, .slice na 0 nc, .slice ka 1 kc]) := NdV.imp (w := w1) (fun b hb hA => ⟨hA, B3.block b hb⟩) _ _ hn
 have B03 : Below w.heap.size w w3 := B1.trans (B3.mono B1.size)
 clear E2 B2 S3 hn B3 B1
 go_wp2_with fail
 refine (P2 _).mono ?_
 rintro e w4 ⟨n2, pl2, er2, v2, ht, rfl, hn2, B4⟩
 obtain ⟨rfl, rfl, rfl⟩ := knownE ht
 clear ht
 obtain ⟨na2, nc2, ka2, kc2, _, hv, _⟩ := NdV.parts hn2
 replace hv : v2 = .agg #[.int .i64 0, .string ⟨#[]⟩, .int .i64 0, .int .i64 0, .slice na2 0 nc2, .slice ka2 0 kc2] := hv
 subst hv
 have E4 := (B4.block b1 (lt_of_block E3)).trans E3
 have hn4 : NdV (fun b => w.heap.size ≤ b) w4 treK (.agg #[.int .i64 12, .string ⟨#[]⟩, .int .i64 0, .int .i64 0, .slice na 0 nc, .slice ka 1 kc]) := NdV.imp (w := w3) (fun b hb hA => ⟨hA, B4.block b hb⟩) _ _ hn3
 have B04 : Below w.heap.size w w4 := B03.trans (B4.mono B03.size)
 clear hn3 E3 B4 hn2 B03
 go_wp2_with (refine Zdl _ rfl rfl ?_)
 intro b5 w5 E5 hb5 B5
 go_wp2_with (refine Zar rfl rfl rfl rfl rfl E5 ?_)
 intro w6 E6 S6
 have B6 : Below w4.heap.size w4 w6 := B5.trans (S6.below hb5)
 have E7 := (B6.block b1 (lt_of_block E4)).trans E4
 have hn6 : NdV (fun b => w.heap.size ≤ b) w6 treK (.agg #[.int .i64 12, .string ⟨#[]⟩, .int .i64 0, .int .i64 0, .slice na 0 nc, .slice ka 1 kc]) := NdV.imp (w := w4) (fun b hb hA => ⟨hA, B6.block b hb⟩) _ _ hn4
 have B06 : Below w.heap.size w w6 := B04.trans (B6.mono B04.size)
 obtain ⟨z0, z1, z2, z3, z4, z5, _⟩ := Zae E7
 clear E5 B5 S6 E6 E4 hn4 B6 B04
 have T := text_is wrK (by decide) (by decide) (by decide) _ w6 _ hn6
 rw [← e1] at T
 go_wp2_with fail
 refine T.mono ?_
 rintro e w7 ⟨rfl, B7⟩
 have B07 : Below w.heap.size w w7 := B06.trans (B7.mono B06.size)
 clear z0 z1 z2 z3 z4 z5 T B06 B7 E7 hn6
 go_wp2_with fail
 refine (A1 _).mono ?_
 rintro e w8 ⟨rfl, B8⟩
 replace B07 := B07.trans (B8.mono B07.size)
 go_wp2_with fail
 refine (A2 _).mono ?_
 rintro e w9 ⟨rfl, B9⟩
 replace B07 := B07.trans (B9.mono B07.size)
 go_wp2_with fail
 refine (A3 _).mono ?_
 rintro e w10 ⟨rfl, B10⟩
 replace B07 := B07.trans (B10.mono B07.size)
 go_wp2
 go_ret
 exact ⟨rfl, B07⟩
end Go.Proofs.YtncfmhlikmibaaaGreatDoor
