/- expression. -/
import Derived.Test.YtncfmhlikmibaaaGreatDoorAny
import Derived.Test.YtncfmhlikmibaaaGreatDoorCas
namespace Go.Proofs.YtncfmhlikmibaaaGreatDoor
open Go.RowKit
set_option maxRecDepth 100000
set_option maxHeartbeats 16000000
section

variable {ops : Array Oper}
theorem Zak {o oj : Oper} {j k : Nat} {b : Bool} {v : Value} {tmps : Array Value} (hg : o.guard = some (j, b)) (ho : ops[j]? = some oj) (hd : oj.dst = some k) (hv : tmps[k]? = some v) (hne : v ≠ .bool b) : Region.wanted o (yielded ops tmps) = false := by
 unfold Region.wanted yielded
 rw [hg]
 simp [ho, hd, hv]
 cases v <;> simp_all

theorem Zfk {P : Program} {Q : Exit → Act → World → Prop} (hp : Zdf ops = true) (I : (Nat → Prop) → Act → World → Prop)
  (hmono : ∀ D D' a w, (∀ j, D j ↔ D' j) → I D a w → I D' a w)
  (hstep : ∀ (i : Nat) (o : Oper), ops[i]? = some o → ∀ D a w, I D a w → ¬ D i → Zcy ops D → (∀ e ∈ o.after, Region.binds .any e = true → D e.on) → (Region.wanted o (yielded ops a.tmps) = true ∧ o.wp P a w (I fun j => j = i ∨ D j) Q) ∨ (Region.wanted o (yielded ops a.tmps) = false ∧ I (fun j => j = i ∨ D j) (a.put o.dst undef) w))
  (hend : ∀ D a w, I D a w → (∀ i, i < ops.size → D i) → Q .normal a w) :
  ∀ (fuel : Nat) (L : Array Bool) (a : Act) (w : World), L.size = ops.size → Zc1 L ≤ fuel → Zcy ops (fun j => L.getD j false = true) → I (fun j => L.getD j false = true) a w → wpAny P .any ops Q fuel L a w
 | 0, L, a, w, hs, hf, hcl, hI => by
  have hall := Zek (show Zc1 L = 0 by omega)
  refine ⟨?_, hend _ a w hI fun i hi => ?_⟩
  ·cases hr : Region.ready .any ops L with
   | nil => rfl
   | cons x xs =>
    have hx : x ∈ Region.ready .any ops L := by rw [hr]; simp
    obtain ⟨h1, o, ho, _⟩ := mem_ready.1 hx
    have hx' : x < L.size := by
     rcases Nat.lt_or_ge x L.size with h' | h'
     ·exact h'
     rw [hs] at h'; rw [Array.getElem?_eq_none h'] at ho; cases ho
    rw [hall x hx'] at h1; cases h1
  have := hall i (by omega)
  simp [show i < L.size by omega] at this ⊢; exact this
 | fuel + 1, L, a, w, hs, hf, hcl, hI => by
  refine ⟨fun hr => hend _ a w hI fun i hi => Ziu hp hs hr i hi, fun i hi => ?_⟩
  obtain ⟨h1, o, ho, hd⟩ := mem_ready.1 hi
  have hi' : i < L.size := by
   rcases Nat.lt_or_ge i L.size with h' | h'
   ·exact h'
   rw [hs] at h'; rw [Array.getElem?_eq_none h'] at ho; cases ho
  have hn : ¬ L.getD i false = true := by
   simp [hi'] at h1 ⊢; exact h1
  have hst := hstep i o ho _ a w hI hn hcl hd
  have hset : ∀ j, (j = i ∨ L.getD j false = true) ↔ (L.setIfInBounds i true).getD j false = true := fun j => by
   by_cases hj : j = i
   ·subst hj; simp [hi']
   simp [hj, Ne.symm hj]
  have hclose : Zcy ops (fun j => (L.setIfInBounds i true).getD j false = true) := by
   intro j oj hoj hDj e he hb
   rcases (hset j).2 hDj with rfl | hDj
   ·rw [ho] at hoj
    cases hoj
    exact (hset _).1 (.inr (hd e he hb))
   exact (hset _).1 (.inr (hcl j oj hoj hDj e he hb))
  unfold wpOp
  simp only [ho]
  rcases hst with hst | hst
  ·rw [if_pos hst.1]
   refine .inl (Oper.wp_mono (fun a' w' hI' => ?_) hst.2)
   exact Zfk hp I hmono hstep hend fuel _ a' w' (by simp [hs]) (by have := Zd2 h1; omega) hclose (hmono _ _ a' w' hset hI')
  rw [if_neg (by rw [hst.1]; decide)]
  exact Zfk hp I hmono hstep hend fuel _ _ w (by simp [hs]) (by have := Zd2 h1; omega) hclose (hmono _ _ _ w hset hst.2)
theorem Zcc {P : Program} {Q : Exit → Act → World → Prop} {id : Nat} {a : Act} {w : World} (I : Act → (Nat → Prop) → Act → World → Prop) (hm : P.follows .mixedOrders = true) (hp : Zdf ops = true)
  (hmono : ∀ D D' a' w', (∀ j, D j ↔ D' j) → I a D a' w' → I a D' a' w')
  (hstart : I a (fun _ => False) a { w with drawn := w.drawn + 1 })
  (hstep : ∀ (i : Nat) (o : Oper), ops[i]? = some o → ∀ D a' w', I a D a' w' → ¬ D i → Zcy ops D → (∀ e ∈ o.after, Region.binds .any e = true → D e.on) → (Region.wanted o (yielded ops a'.tmps) = true ∧ o.wp P a' w' (I a fun j => j = i ∨ D j) Q) ∨ (Region.wanted o (yielded ops a'.tmps) = false ∧ I a (fun j => j = i ∨ D j) (a'.put o.dst undef) w'))
  (hend : ∀ D a' w', I a D a' w' → (∀ i, i < ops.size → D i) → Q .normal a' w') : (Code.region id ops true).wp P Q a w := by
 refine wp_region_any hm (Zfk hp (I a) hmono hstep hend _ _ a _ (by simp) ?_ ?_ (hmono _ _ _ _ (fun j => ?_) hstart))
 ·unfold Zc1
  exact Nat.le_trans (List.length_filter_le _ _) (by simp)
 ·intro j oj hoj hDj
  exfalso
  rcases Nat.lt_or_ge j ops.size with h' | h'
  ·simp [h'] at hDj
  simp [h'] at hDj
 constructor
 ·intro h; cases h
 intro h
 exfalso
 rcases Nat.lt_or_ge j ops.size with h' | h'
 ·simp [h'] at h
 simp [h'] at h
end
theorem Zkd {W : List Tk} {E : Nat} (S : Src W E) {i d : Nat} (hi : i ≤ E) (H : Zcb 97 W (.expr i d) i d) (H2 : kdW W i = 13 → Zcb 97 W (.expr (i + 1) d) (i + 1) d) : Zcb 72 W (.stmt i d) i d := by
 intro w p h
 go_enter Tryz.func72, Tryz.ntmps72
 go_wp2_with (refine Zdl _ rfl rfl ?_)
 intro q w1 E1 hq B1
 have X := Sx.start h ⟨_, _, _, _, _, _, E1⟩ hq B1
 have hp := X.hp
 have hq1 := X.z.lt
 have hs1 := X.size
 clear E1 hq B1 h
 go_wp2_with fail
 refine (Zb8 X.rd (S.lt hi) 13).mono ?_
 rintro e w1' ⟨rfl, B1⟩
 have hs11 : w1.heap.size ≤ w1'.heap.size := B1.size
 replace X := X.bel B1
 replace hq1 : q < w1'.heap.size := by omega
 replace hs1 : w.heap.size ≤ w1'.heap.size := by omega
 clear B1 hs11
 generalize w1' = w1 at *
 by_cases hk : kdW W i = 13
 ·rw [show (kdW W i == 13) = true by simp [hk]]
  go_wp2_with fail
  refine (Zch X.rd (S.lt hi)).mono ?_
  rintro e w2 ⟨rfl, h2, F2⟩
  have X2 := X.go F2 h2
  have hs12 : w1.heap.size ≤ w2.heap.size := F2.size
  clear X F2
  go_wp2_with (refine al54 _ rfl rfl ?_)
  intro t w3 E3 ht B3
  go_wp2_with (refine st54 _ rfl _ _ rfl rfl _ _ _ _ rfl rfl E3 ?_)
  intro w4 E4 S4
  have B4 : Below w2.heap.size w2 w4 := B3.trans (S4.below ht)
  replace X2 := X2.bel B4
  have htp : t ≠ p := by have := X2.hp; omega
  have hs24 : w2.heap.size ≤ w4.heap.size := B4.size
  clear E3 B3 S4 B4
  go_wp2_with fail
  refine (H2 hk w4 p X2.rd).mono ?_
  rintro e w5 ⟨r, hr, ha, F5⟩
  have hs45 : w4.heap.size ≤ w5.heap.size := F5.size
  replace E4 := (F5.block t (lt_of_block E4) htp).trans E4
  cases r with
  | er j c =>
   obtain ⟨v, x, d', rfl, hv, h5⟩ := ha
   obtain ⟨na, nc, ka, kc, _, rfl, _⟩ := NdV.parts hv
   have X5 := X2.go F5 h5
   go_wp2_with (refine Zcm rfl rfl rfl 5 rfl rfl rfl (fun _ => rfl) (fun _ => rfl) ?_)
   intro q5 w6 E6 _ B6
   replace X5 := X5.bel B6
   replace E4 := (B6.block t (lt_of_block E4)).trans E4
   replace hv := hv.bel B6
   have hs56 : w5.heap.size ≤ w6.heap.size := B6.size
   have hq56 : w5.heap.size ≤ q5 := by assumption

   obtain ⟨y0, y1, y2, _⟩ := Zbx E4
   obtain ⟨z0, z1, z2, z3, z4, z5, _⟩ := Zae E6
   go_wp2_with (refine bs25 _ rfl _ rfl _ _ _ _ _ _ _ _ _ _ rfl ?_)
   intro g w7 E7 hg B7
   replace X5 := X5.bel B7
   replace hv := hv.bel B7
   have hN := NdV.mk_ (A := fun b => w1.heap.size ≤ b) (w := w7) (k := 11) (t := []) (p := psW W i) (n := 0) (l := []) (kids := [x]) (na := none) (nc := 0) (SlF.nil _ _) (Ze6 E7 (by omega)) (KsF.one (NdV.mono hv (fun b _ hb => by omega))) (by simp) (by simp) (by decide)
   obtain ⟨u0, u1, u2, u3, u4, u5, Eq⟩ := X5.z
   go_wp2_with (refine Zar rfl rfl rfl rfl rfl Eq ?_)
   intro wz Ez Sz
   go_wp2
   exact zB 2 3 (by rfl) (by rfl) (by rfl) (Zal Ez) (by rfl) ⟨_, Zlw hr hk, ⟨_, _, _, rfl, hN.out Sz hq1 hs1, (X5.fin Sz).2⟩, (X5.fin Sz).1⟩
  | ok x j =>
   obtain ⟨v, rfl, hv, h5⟩ := ha
   obtain ⟨na, nc, ka, kc, _, rfl, _⟩ := NdV.parts hv
   have X5 := X2.go F5 h5
   go_wp2_with (refine Zcm rfl rfl rfl 5 rfl rfl rfl (fun _ => rfl) (fun _ => rfl) ?_)
   intro q5 w6 E6 _ B6
   replace X5 := X5.bel B6
   replace E4 := (B6.block t (lt_of_block E4)).trans E4
   replace hv := hv.bel B6
   have hs56 : w5.heap.size ≤ w6.heap.size := B6.size
   have hq56 : w5.heap.size ≤ q5 := by assumption

   obtain ⟨y0, y1, y2, _⟩ := Zbx E4
   obtain ⟨z0, z1, z2, z3, z4, z5, _⟩ := Zae E6
   go_wp2_with (refine bs25 _ rfl _ rfl _ _ _ _ _ _ _ _ _ _ rfl ?_)
   intro g w7 E7 hg B7
   replace X5 := X5.bel B7
   replace hv := hv.bel B7
   have hN := NdV.mk_ (A := fun b => w1.heap.size ≤ b) (w := w7) (k := 11) (t := []) (p := psW W i) (n := 0) (l := []) (kids := [x]) (na := none) (nc := 0) (SlF.nil _ _) (Ze6 E7 (by omega)) (KsF.one (NdV.mono hv (fun b _ hb => by omega))) (by simp) (by simp) (by decide)
   obtain ⟨u0, u1, u2, u3, u4, u5, Eq⟩ := X5.z
   go_wp2_with (refine Zar rfl rfl rfl rfl rfl Eq ?_)
   intro wz Ez Sz
   go_wp2
   exact zB 2 3 (by rfl) (by rfl) (by rfl) (Zal Ez) (by rfl) ⟨_, Zjd hr hk, ⟨_, rfl, hN.out Sz hq1 hs1, (X5.fin Sz).2⟩, (X5.fin Sz).1⟩
 rw [show (kdW W i == 13) = false by simp [hk]]
 go_wp2_with fail
 refine (H w1 p X.rd).mono ?_
 rintro e w3 ⟨r, hr, ha, F3⟩
 cases r with
 | er j c =>
  obtain ⟨v, x, d', rfl, hv, h3⟩ := ha
  obtain ⟨na, nc, ka, kc, _, rfl, _⟩ := NdV.parts hv
  have X3 := X.go F3 h3
  obtain ⟨u0, u1, u2, u3, u4, u5, Eq⟩ := X3.z
  go_wp2_with (refine Zar rfl rfl rfl rfl rfl Eq ?_)
  intro wz Ez Sz
  go_wp2
  exact zB 2 3 (by rfl) (by rfl) (by rfl) (Zal Ez) (by rfl) ⟨_, Zc6 hr hk, ⟨_, _, _, rfl, hv.out Sz hq1 hs1, (X3.fin Sz).2⟩, (X3.fin Sz).1⟩
 | ok x j =>
  obtain ⟨v, rfl, hv, h3⟩ := ha
  obtain ⟨na, nc, ka, kc, _, rfl, _⟩ := NdV.parts hv
  have X3 := X.go F3 h3
  obtain ⟨u0, u1, u2, u3, u4, u5, Eq⟩ := X3.z
  go_wp2_with (refine Zar rfl rfl rfl rfl rfl Eq ?_)
  intro wz Ez Sz
  go_wp2
  exact zB 2 3 (by rfl) (by rfl) (by rfl) (Zal Ez) (by rfl) ⟨_, Zc6 hr hk, ⟨_, rfl, hv.out Sz hq1 hs1, (X3.fin Sz).2⟩, (X3.fin Sz).1⟩
theorem set_con {W : List Tk} {E : Nat} (S : Src W E) {i d : Nat} (hi : i ≤ E) (hd : d ≤ 40) (hk : kdW W i = 1) (hk7 : kdW W (i + 1) = 7) (H : d ≠ 40 → Zcb 97 W (.expr (i + 2) (d + 1)) (i + 2) (d + 1)) : Zcb 115 W (.expr i d) i d := by
 intro w p h
 have hlt : i + 1 < E := S.ends.lt (by rw [hk7]; decide)
 have htx := S.txt i
 go_enter Tryz.func115, Tryz.ntmps115
 go_wp2_with (refine Zdl _ rfl rfl ?_)
 intro q w1 E1 hq B1
 have X := Sx.start h ⟨_, _, _, _, _, _, E1⟩ hq B1
 have hp := X.hp
 have hq1 := X.z.lt
 have hs1 := X.size
 clear E1 hq B1 h
 go_wp2_with fail
 refine (Zch X.rd (S.lt hi)).mono ?_
 rintro e w2 ⟨rfl, h2, F2⟩
 have X2 := X.go F2 h2
 have hs12 : w1.heap.size ≤ w2.heap.size := F2.size
 clear X F2
 go_wp2_with (refine al54 _ rfl rfl ?_)
 intro t w3 E3 ht B3
 go_wp2_with (refine st54 _ rfl _ _ rfl rfl _ _ _ _ rfl rfl E3 ?_)
 intro w4 E4 S4
 have B4 : Below w2.heap.size w2 w4 := B3.trans (S4.below ht)
 replace X2 := X2.bel B4
 have htp : t ≠ p := by have := X2.hp; omega
 have hs24 : w2.heap.size ≤ w4.heap.size := B4.size
 clear E3 B3 S4 B4
 by_cases hd4 : d = 40
 ·subst hd4
  go_wp2_with fail
  refine (Zgk X2.rd).mono ?_
  rintro e w5 ⟨rfl, h5, F5⟩
  have X5 := X2.go F5 h5
  clear X2
  obtain ⟨u0, u1, u2, u3, u4, u5, Eq⟩ := X5.z
  go_wp2_with (refine Zar rfl rfl rfl rfl rfl Eq ?_)
  intro wz Ez Sz
  go_wp2
  exact zB 2 3 (by rfl) (by rfl) (by rfl) (Zal Ez) (by rfl) ⟨_, Zh2 hk hk7 rfl, ⟨_, _, _, rfl, NdV.zero, (X5.fin Sz).2⟩, (X5.fin Sz).1⟩
 go_wp2_with fail
 refine (Zfd X2.rd (by omega) (S.lt (by omega))).mono ?_
 rintro e w4' ⟨rfl, h5, F5⟩
 replace E4 := (F5.block t (lt_of_block E4) htp).trans E4
 have hs44 : w4.heap.size ≤ w4'.heap.size := F5.size
 replace X2 : Sx w p q w4' W (i + 2) ((d + 1 : Nat) : Int) 20 := X2.go F5 h5
 clear F5 h5
 replace hs24 : w2.heap.size ≤ w4'.heap.size := by omega
 clear hs44
 generalize w4' = w4 at *
 go_wp2_with fail
 refine (H hd4 w4 p X2.rd).mono ?_
 rintro e w5 ⟨r, hr, ha, F5⟩
 have hs45 : w4.heap.size ≤ w5.heap.size := F5.size
 replace E4 := (F5.block t (lt_of_block E4) htp).trans E4
 have hwd : IntKind.i64.wrap ((d : Int) + 1 - 1) = (d : Int) := by rw [IntKind.wrap_i64]; omega
 cases r with
 | er j c =>
  obtain ⟨v, x, d', rfl, hv, h5⟩ := ha
  obtain ⟨na, nc, ka, kc, _, rfl, _⟩ := NdV.parts hv
  have X5 := X2.go F5 h5
  go_wp2_with (refine Zcm rfl rfl rfl 5 rfl rfl rfl (fun _ => rfl) (fun _ => rfl) ?_)
  intro q5 w6 E6 _ B6
  replace X5 := X5.bel B6
  replace E4 := (B6.block t (lt_of_block E4)).trans E4
  replace hv := hv.bel B6
  have hs56 : w5.heap.size ≤ w6.heap.size := B6.size
  have hq56 : w5.heap.size ≤ q5 := by assumption
  obtain ⟨c1, c2, c3, f1, f2, f3⟩ := X5.rd.own
  go_upto_region 6 with fail
  replace X5 : Sx w p q _ W j (wrap64 (d' - 1)) c := X5.go (St.cell w6 p 2 _).fr (X5.rd.setDepth _)
  replace hv := NdV.imp (fun b hb hA => ⟨hA, (St.cell w6 p 2 (.int .i64 (wrap64 (d' - 1)))).block b (by omega)⟩) _ _ hv
  replace E4 := ((St.cell w6 p 2 (.int .i64 (wrap64 (d' - 1)))).block t htp).trans E4
  replace E6 := ((St.cell w6 p 2 (.int .i64 (wrap64 (d' - 1)))).block q5 (by omega)).trans E6
  have hs6' : w6.heap.size ≤ (w6.setCell ⟨p, 2, none⟩ (.int .i64 (wrap64 (d' - 1)))).heap.size := Nat.le_of_eq (St.cell w6 p 2 _).size.symm
  clear c1 c2 c3 f1 f2 f3
  generalize w6.setCell ⟨p, 2, none⟩ (.int .i64 (wrap64 (d' - 1))) = w6 at *
  obtain ⟨y0, y1, y2, _⟩ := Zbx E4
  obtain ⟨z0, z1, z2, z3, z4, z5, _⟩ := Zae E6
  go_wp2_with (refine bs25 _ rfl _ rfl _ _ _ _ _ _ _ _ _ _ rfl ?_)
  intro g w7 E7 hg B7
  replace X5 := X5.bel B7
  replace hv := hv.bel B7
  have hN := NdV.mk_ (A := fun b => w1.heap.size ≤ b) (w := w7) (k := 6) (t := txW W i) (p := psW W i) (n := 0) (l := []) (kids := [x]) (na := none) (nc := 0) (SlF.nil _ _) (Ze6 E7 (by omega)) (KsF.one (NdV.mono hv (fun b _ hb => by omega))) (by simp) (by simp) (by omega)
  obtain ⟨u0, u1, u2, u3, u4, u5, Eq⟩ := X5.z
  go_wp2_with (refine Zar rfl rfl rfl rfl rfl Eq ?_)
  intro wz Ez Sz
  go_wp2
  exact zB 2 3 (by rfl) (by rfl) (by rfl) (Zal Ez) (by rfl) ⟨_, Zl4 hr hk hk7 hd4, ⟨_, _, _, rfl, hN.out Sz hq1 hs1, (X5.fin Sz).2⟩, (X5.fin Sz).1⟩
 | ok x j =>
  obtain ⟨v, rfl, hv, h5⟩ := ha
  obtain ⟨na, nc, ka, kc, _, rfl, _⟩ := NdV.parts hv
  have X5 := X2.go F5 h5
  go_wp2_with (refine Zcm rfl rfl rfl 5 rfl rfl rfl (fun _ => rfl) (fun _ => rfl) ?_)
  intro q5 w6 E6 _ B6
  replace X5 := X5.bel B6
  replace E4 := (B6.block t (lt_of_block E4)).trans E4
  replace hv := hv.bel B6
  have hs56 : w5.heap.size ≤ w6.heap.size := B6.size
  have hq56 : w5.heap.size ≤ q5 := by assumption
  obtain ⟨c1, c2, c3, f1, f2, f3⟩ := X5.rd.own
  go_upto_region 6 with fail
  replace X5 : Sx w p q _ W j (d : Int) 20 := X5.go (St.cell w6 p 2 _).fr (X5.rd.setDepth (d : Int))
  replace hv := NdV.imp (fun b hb hA => ⟨hA, (St.cell w6 p 2 (.int .i64 (d : Int))).block b (by omega)⟩) _ _ hv
  replace E4 := ((St.cell w6 p 2 (.int .i64 (d : Int))).block t htp).trans E4
  replace E6 := ((St.cell w6 p 2 (.int .i64 (d : Int))).block q5 (by omega)).trans E6
  have hs6' : w6.heap.size ≤ (w6.setCell ⟨p, 2, none⟩ (.int .i64 (d : Int))).heap.size := Nat.le_of_eq (St.cell w6 p 2 _).size.symm
  clear c1 c2 c3 f1 f2 f3
  generalize w6.setCell ⟨p, 2, none⟩ (.int .i64 (d : Int)) = w6 at *
  obtain ⟨y0, y1, y2, _⟩ := Zbx E4
  obtain ⟨z0, z1, z2, z3, z4, z5, _⟩ := Zae E6
  go_wp2_with (refine bs25 _ rfl _ rfl _ _ _ _ _ _ _ _ _ _ rfl ?_)
  intro g w7 E7 hg B7
  replace X5 := X5.bel B7
  replace hv := hv.bel B7
  have hN := NdV.mk_ (A := fun b => w1.heap.size ≤ b) (w := w7) (k := 6) (t := txW W i) (p := psW W i) (n := 0) (l := []) (kids := [x]) (na := none) (nc := 0) (SlF.nil _ _) (Ze6 E7 (by omega)) (KsF.one (NdV.mono hv (fun b _ hb => by omega))) (by simp) (by simp) (by omega)
  obtain ⟨u0, u1, u2, u3, u4, u5, Eq⟩ := X5.z
  go_wp2_with (refine Zar rfl rfl rfl rfl rfl Eq ?_)
  intro wz Ez Sz
  go_wp2
  exact zB 2 3 (by rfl) (by rfl) (by rfl) (Zal Ez) (by rfl) ⟨_, Zjq hr hk hk7 hd4, ⟨_, rfl, hN.out Sz hq1 hs1, (X5.fin Sz).2⟩, (X5.fin Sz).1⟩
section
variable {W : List Tk} {i : Nat}
theorem Rdw.two {w : World} {p : Nat} {d y : Int} (h : Rdw w p W i d y) (b off c : Nat) (hp : w.cell? ⟨p, 0, none⟩ = some (.slice (some ⟨b, off, none⟩) W.length c)) (hi : i + 1 < W.length) : w.cell? ⟨p, 1, none⟩ = some (.int .i64 (i : Int)) ∧ w.cell? ⟨b, off + (i + 1) * 3, none⟩ = some (.int .i64 (kdW W (i + 1))) := by
 obtain ⟨b', off', c', h1, h2, h3⟩ := h.ex
 obtain ⟨c0, c1, _⟩ := Zkg h1
 rw [c0] at hp
 simp only [Option.some.injEq, Value.slice.injEq, Addr.mk.injEq, and_true, true_and] at hp
 obtain ⟨⟨rfl, rfl⟩, rfl⟩ := hp
 obtain ⟨b', off', e, hc⟩ := h3.cells (by omega)
 simp only [Option.some.injEq, Addr.mk.injEq, and_true] at e
 obtain ⟨rfl, rfl⟩ := e
 exact ⟨c1, (hc (i + 1) hi).1⟩
def Zni (p : Nat) (j : Nat) : Value :=
 ([.pointer (some ⟨p, 0, none⟩),
  .bool false,
  .bool false,
  undef,
  undef,
  undef,
  undef,
  undef,
  undef,
  undef,
  undef,
  undef,
  undef,
  undef,
  undef,
  undef,
  .bool false] : List Value).getD j undef
theorem is_no {w : World} {p : Nat} {d y : Int} (h : Rdw w p W i d y) (hi : i < W.length) (k : Int) (hk : kdW W i ≠ k) :
  Calls Tryz.prog 27 #[.pointer (some ⟨p, 0, none⟩), .int .i64 k] w fun e w' => e = .returned (.bool false) ∧ Below w.heap.size w w' := by
 refine (Zb8 h hi k).mono ?_
 rintro e w' ⟨rfl, B⟩
 exact ⟨by simp [hk], B⟩
theorem Zij {E : Nat} (S : Src W E) {d : Nat} (hi : i ≤ E) (HS : kdW W i = 1 → kdW W (i + 1) = 7 → Zcb 115 W (.expr i d) i d) (HC : Zcb 116 W (.casc i d) i d) : Zcb 97 W (.expr i d) i d := by
 intro w p h
 go_enter Tryz.func97, Tryz.ntmps97
 go_wp2_with (refine Zdl _ rfl rfl ?_)
 intro q w1 E1 hq B1
 have X := Sx.start h ⟨_, _, _, _, _, _, E1⟩ hq B1
 have hp := X.hp
 have hq1 := X.z.lt
 have hs1 := X.size
 clear E1 hq B1 h
 go_wp2_with fail
 obtain ⟨bb, off, c, e1, hbp, _⟩ := X.rd.ex
 have hp0 := (Zkg e1).1
 by_cases hk : kdW W i = 1
 ·have hlt : i < E := S.ends.lt (by rw [hk]; decide)
  have hwi : IntKind.i64.wrap ((i : Int) + 1) = (i : Int) + 1 := by have := S.small; rw [IntKind.wrap_i64]; omega
  have hix1 : (0 : Int) ≤ (i : Int) + 1 := by omega
  have hix2 : (i : Int) + 1 < (W.length : Int) := by have := S.ends.len; omega
  have hix3 : ((i : Int) + 1).toNat = i + 1 := by omega
  have hx1 : i + 1 < W.length := by have := S.ends.len; omega
  have h1d : Rdw w1.drew p W i (d : Int) 20 := X.rd.same (fun _ _ => rfl) rfl
  have hp0d : w1.drew.cell? ⟨p, 0, none⟩ = some (.slice (some ⟨bb, off, none⟩) W.length c) := hp0
  go_region_with (go_at_call 27; go_loud (refine (Zb8 (i := i) (d := (d : Int)) (y := 20) (W := W) (p := p) ?_ (S.lt hi) 1).mono ?_); exact h1d; go_loud (rintro e w2 ⟨rfl, B2⟩); go_loud (rw [show (kdW W i == 1) = true by simp [hk]]); go_loud (have hp2 := (B2.cell (p := ⟨p, 0, none⟩) (block_lt_of_cell hp0d)).trans hp0d); go_loud (obtain ⟨c1, c2⟩ := (h1d.fr B2).two bb off c hp2 hx1))
  all_goals
   replace X := X.go (Fr.of_below ((Below.refl _ w1).drew.trans B2)) (h1d.fr B2)
   have hs12 : w1.heap.size ≤ w2.heap.size := B2.size
   replace hq1 : q < w2.heap.size := by omega
   replace hs1 : w.heap.size ≤ w2.heap.size := by omega
   clear hp0 hp0d hp2 e1 B2
   by_cases hk7 : kdW W (i + 1) = 7
   ·rw [show (kdW W (i + 1) == 7) = true by simp [hk7]]
    clear c1 c2
    go_wp2_with fail
    refine (HS hk hk7 w2 p X.rd).mono ?_
    rintro e w3 ⟨r, hr, ha, F3⟩
    cases r with
    | er j c =>
     obtain ⟨v, x, d', rfl, hv, h3⟩ := ha
     obtain ⟨na, nc, ka, kc, _, rfl, _⟩ := NdV.parts hv
     have X3 := X.go F3 h3
     obtain ⟨u0, u1, u2, u3, u4, u5, Eq⟩ := X3.z
     go_wp2_with (refine Zar rfl rfl rfl rfl rfl Eq ?_)
     intro wz Ez Sz
     go_wp2
     exact zB 2 3 (by rfl) (by rfl) (by rfl) (Zal Ez) (by rfl) ⟨_, hr, ⟨_, _, _, rfl, hv.out Sz hq1 hs1, (X3.fin Sz).2⟩, (X3.fin Sz).1⟩
    | ok x j =>
     obtain ⟨v, rfl, hv, h3⟩ := ha
     obtain ⟨na, nc, ka, kc, _, rfl, _⟩ := NdV.parts hv
     have X3 := X.go F3 h3
     obtain ⟨u0, u1, u2, u3, u4, u5, Eq⟩ := X3.z
     go_wp2_with (refine Zar rfl rfl rfl rfl rfl Eq ?_)
     intro wz Ez Sz
     go_wp2
     exact zB 2 3 (by rfl) (by rfl) (by rfl) (Zal Ez) (by rfl) ⟨_, hr, ⟨_, rfl, hv.out Sz hq1 hs1, (X3.fin Sz).2⟩, (X3.fin Sz).1⟩
   rw [show (kdW W (i + 1) == 7) = false by simp [hk7]]
   clear c1 c2
   go_wp2_with fail
   refine (HC w2 p X.rd).mono ?_
   rintro e w3 ⟨r, hr, ha, F3⟩
   cases r with
   | er j c =>
    obtain ⟨v, x, d', rfl, hv, h3⟩ := ha
    obtain ⟨na, nc, ka, kc, _, rfl, _⟩ := NdV.parts hv
    have X3 := X.go F3 h3
    obtain ⟨u0, u1, u2, u3, u4, u5, Eq⟩ := X3.z
    go_wp2_with (refine Zar rfl rfl rfl rfl rfl Eq ?_)
    intro wz Ez Sz
    go_wp2
    exact zB 2 3 (by rfl) (by rfl) (by rfl) (Zal Ez) (by rfl) ⟨_, Zbs hr (fun h => hk7 h.2), ⟨_, _, _, rfl, hv.out Sz hq1 hs1, (X3.fin Sz).2⟩, (X3.fin Sz).1⟩
   | ok x j =>
    obtain ⟨v, rfl, hv, h3⟩ := ha
    obtain ⟨na, nc, ka, kc, _, rfl, _⟩ := NdV.parts hv
    have X3 := X.go F3 h3
    obtain ⟨u0, u1, u2, u3, u4, u5, Eq⟩ := X3.z
    go_wp2_with (refine Zar rfl rfl rfl rfl rfl Eq ?_)
    intro wz Ez Sz
    go_wp2
    exact zB 2 3 (by rfl) (by rfl) (by rfl) (Zal Ez) (by rfl) ⟨_, Zbs hr (fun h => hk7 h.2), ⟨_, rfl, hv.out Sz hq1 hs1, (X3.fin Sz).2⟩, (X3.fin Sz).1⟩
 have h1d : Rdw w1.drew p W i (d : Int) 20 := X.rd.same (fun _ _ => rfl) rfl
 have B1d : Below w1.heap.size w1 w1.drew := (Below.refl _ _).drew
 go_wp2_with fail
 refine Zah fun A hA => ?_
 have hsz : A.tmps.size = 29 := by rw [hA]; rfl
 have s0 : A.tmps[0]? = some (.pointer (some ⟨p, 0, none⟩)) := by rw [hA]; rfl
 refine Zcc (fun A D a w' => ∃ (l : List Value), a = Zaj A 4 l ∧ l.length = 17 ∧ (∀ j, j < 17 → D j → l[j]? = some (Zni p j)) ∧ (D 1 ∨ (Rdw w' p W i (d : Int) 20 ∧ Below w1.heap.size w1 w')) ∧ (D 1 → (Rdw w' p W i (d : Int) 20 ∧ Below w1.heap.size w1 w'))) (by kernel_rfl) (by kernel_rfl) ?mono ?start ?step ?done
 case mono =>
  rintro D D' a w' hD ⟨l, ha, Lh, hl, hN, hL⟩
  exact ⟨l, ha, Lh, fun j hj h => hl j hj ((hD j).2 h), hN.imp_left (hD 1).1, fun h => hL ((hD 1).2 h)⟩
 case start => exact ⟨_, zS 4 17 hsz, zG 4 17 hsz, zK, .inr (⟨h1d, B1d⟩), zf⟩
 case step =>
  clear hA
  intro i o ho D a w' hI hn hcl hd
  obtain ⟨l, ha, Lh, hl, hN, hL⟩ := hI
  match i, ho with
  | 0, ho =>
   cases zq ho
   refine .inl ⟨rfl, ?_⟩
   exact zm (zu 0 ha Lh hsz s0) ⟨_, zp 0 ha Lh hsz, zh Lh, zk Lh hl, zl hN, zr hL⟩
  | 1, ho =>
   cases zq ho
   refine .inl ⟨rfl, ?_⟩
   have ev : a.tmps[4]? = some (.pointer (some ⟨p, 0, none⟩)) := zv ha hsz Lh hl 0 hd
   have hN6 := hN.resolve_left hn
   refine Zan (f := 27) (args := #[.pointer (some ⟨p, 0, none⟩), .int .i64 1]) (by simp [execOp, ev, go_sem]) ?_
   refine (is_no hN6.1 (S.lt hi) 1 hk).mono ?_
   rintro e w6 ⟨rfl, B9⟩
   refine ⟨_, rfl, ?_⟩
   exact ⟨_, zp 1 ha Lh hsz, zh Lh, zk Lh hl, .inl (.inl rfl), fun _ => ⟨hN6.1.fr B9, hN6.2.trans (B9.mono hN6.2.size)⟩⟩
  | 2, ho =>
   cases zq ho
   refine .inl ⟨rfl, ?_⟩
   have ev : a.tmps[5]? = some (.bool false) := zv ha hsz Lh hl 1 hd
   exact zx (.bool false) (by simp [execOp, ev, go_sem]) ⟨_, zp 2 ha Lh hsz, zh Lh, zk Lh hl, zl hN, zr hL⟩
  | 3, ho =>
   cases zq ho
   refine .inr ⟨Zak (k := 6) rfl rfl rfl (Zag ha hsz Lh hl 2 (by decide) (zg hd 2)) (by simp [Zni, undef]), ?_⟩
   exact ⟨_, zp 3 ha Lh hsz, zh Lh, zk Lh hl, zl hN, zr hL⟩
  | 4, ho =>
   cases zq ho
   refine .inr ⟨Zak (k := 6) rfl rfl rfl (Zag ha hsz Lh hl 2 (by decide) (zg hd 2)) (by simp [Zni, undef]), ?_⟩
   exact ⟨_, zp 4 ha Lh hsz, zh Lh, zk Lh hl, zl hN, zr hL⟩
  | 5, ho =>
   cases zq ho
   refine .inr ⟨Zak (k := 6) rfl rfl rfl (Zag ha hsz Lh hl 2 (by decide) (zg hd 2)) (by simp [Zni, undef]), ?_⟩
   exact ⟨_, zp 5 ha Lh hsz, zh Lh, zk Lh hl, zl hN, zr hL⟩
  | 6, ho =>
   cases zq ho
   refine .inr ⟨Zak (k := 6) rfl rfl rfl (Zag ha hsz Lh hl 2 (by decide) (zg hd 2)) (by simp [Zni, undef]), ?_⟩
   exact ⟨_, zp 6 ha Lh hsz, zh Lh, zk Lh hl, zl hN, zr hL⟩
  | 7, ho =>
   cases zq ho
   refine .inr ⟨Zak (k := 6) rfl rfl rfl (Zag ha hsz Lh hl 2 (by decide) (zg hd 2)) (by simp [Zni, undef]), ?_⟩
   exact ⟨_, zp 7 ha Lh hsz, zh Lh, zk Lh hl, zl hN, zr hL⟩
  | 8, ho =>
   cases zq ho
   refine .inr ⟨Zak (k := 6) rfl rfl rfl (Zag ha hsz Lh hl 2 (by decide) (zg hd 2)) (by simp [Zni, undef]), ?_⟩
   exact ⟨_, zp 8 ha Lh hsz, zh Lh, zk Lh hl, zl hN, zr hL⟩
  | 9, ho =>
   cases zq ho
   refine .inr ⟨Zak (k := 6) rfl rfl rfl (Zag ha hsz Lh hl 2 (by decide) (zg hd 2)) (by simp [Zni, undef]), ?_⟩
   exact ⟨_, zp 9 ha Lh hsz, zh Lh, zk Lh hl, zl hN, zr hL⟩
  | 10, ho =>
   cases zq ho
   refine .inr ⟨Zak (k := 6) rfl rfl rfl (Zag ha hsz Lh hl 2 (by decide) (zg hd 2)) (by simp [Zni, undef]), ?_⟩
   exact ⟨_, zp 10 ha Lh hsz, zh Lh, zk Lh hl, zl hN, zr hL⟩
  | 11, ho =>
   cases zq ho
   refine .inr ⟨Zak (k := 6) rfl rfl rfl (Zag ha hsz Lh hl 2 (by decide) (zg hd 2)) (by simp [Zni, undef]), ?_⟩
   exact ⟨_, zp 11 ha Lh hsz, zh Lh, zk Lh hl, zl hN, zr hL⟩
  | 12, ho =>
   cases zq ho
   refine .inr ⟨Zak (k := 6) rfl rfl rfl (Zag ha hsz Lh hl 2 (by decide) (zg hd 2)) (by simp [Zni, undef]), ?_⟩
   exact ⟨_, zp 12 ha Lh hsz, zh Lh, zk Lh hl, zl hN, zr hL⟩
  | 13, ho =>
   cases zq ho
   refine .inr ⟨Zak (k := 6) rfl rfl rfl (Zag ha hsz Lh hl 2 (by decide) (zg hd 2)) (by simp [Zni, undef]), ?_⟩
   exact ⟨_, zp 13 ha Lh hsz, zh Lh, zk Lh hl, zl hN, zr hL⟩
  | 14, ho =>
   cases zq ho
   refine .inr ⟨Zak (k := 6) rfl rfl rfl (Zag ha hsz Lh hl 2 (by decide) (zg hd 2)) (by simp [Zni, undef]), ?_⟩
   exact ⟨_, zp 14 ha Lh hsz, zh Lh, zk Lh hl, zl hN, zr hL⟩
  | 15, ho =>
   cases zq ho
   refine .inr ⟨Zak (k := 6) rfl rfl rfl (Zag ha hsz Lh hl 2 (by decide) (zg hd 2)) (by simp [Zni, undef]), ?_⟩
   exact ⟨_, zp 15 ha Lh hsz, zh Lh, zk Lh hl, zl hN, zr hL⟩
  | 16, ho =>
   cases zq ho
   refine .inl ⟨rfl, ?_⟩
   have ev : a.tmps[6]? = some (.bool false) := zv ha hsz Lh hl 2 hd
   exact zx (.bool false) (by simp [execOp, ev, go_sem]) ⟨_, zp 16 ha Lh hsz, zh Lh, zk Lh hl, zl hN, zr hL⟩
  | i + 17, ho => simp at ho
 rintro D a w' ⟨l, ha, Lh, hl, hN, hL⟩ hall
 obtain ⟨v0, v1, v2, v3, v4, v5, v6, v7, v8, v9, v10, v11, v12, v13, v14, v15, v16, rfl⟩ := zL17 Lh
 have hL6 := hL (hall 1 (by decide))
 have hz := hl 16 (by decide) (hall 16 (by decide))
 simp only [List.getElem?_cons_succ, List.getElem?_cons_zero, Option.some.injEq] at hz
 have hz' : v16 = .bool false := hz
 subst hz'
 subst hA
 have hfr : a = _ := ha
 rw [hfr]
 clear hfr ha
 simp only [Zaj, yA, yB, yC, yD, yE, yF, yG, yH]
 clear hl hN hL hall
 replace X := X.go (Fr.of_below hL6.2) hL6.1
 have hs12 : w1.heap.size ≤ w'.heap.size := hL6.2.size
 replace hq1 : q < w'.heap.size := by omega
 replace hs1 : w.heap.size ≤ w'.heap.size := by omega
 clear hL6
 go_wp2_with fail
 refine (HC w' p X.rd).mono ?_
 rintro e w3 ⟨r, hr, ha, F3⟩
 cases r with
 | er j c =>
  obtain ⟨v, x, d', rfl, hv, h3⟩ := ha
  obtain ⟨na, nc, ka, kc, _, rfl, _⟩ := NdV.parts hv
  have X3 := X.go F3 h3
  obtain ⟨u0, u1, u2, u3, u4, u5, Eq⟩ := X3.z
  go_wp2_with (refine Zar rfl rfl rfl rfl rfl Eq ?_)
  intro wz Ez Sz
  go_wp2
  exact zB 2 3 (by rfl) (by rfl) (by rfl) (Zal Ez) (by rfl) ⟨_, Zbs hr (fun h => hk h.1), ⟨_, _, _, rfl, hv.out Sz hq1 hs1, (X3.fin Sz).2⟩, (X3.fin Sz).1⟩
 | ok x j =>
  obtain ⟨v, rfl, hv, h3⟩ := ha
  obtain ⟨na, nc, ka, kc, _, rfl, _⟩ := NdV.parts hv
  have X3 := X.go F3 h3
  obtain ⟨u0, u1, u2, u3, u4, u5, Eq⟩ := X3.z
  go_wp2_with (refine Zar rfl rfl rfl rfl rfl Eq ?_)
  intro wz Ez Sz
  go_wp2
  exact zB 2 3 (by rfl) (by rfl) (by rfl) (Zal Ez) (by rfl) ⟨_, Zbs hr (fun h => hk h.1), ⟨_, rfl, hv.out Sz hq1 hs1, (X3.fin Sz).2⟩, (X3.fin Sz).1⟩
end
end Go.Proofs.YtncfmhlikmibaaaGreatDoor
