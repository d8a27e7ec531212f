/- cascade, element. -/
import Derived.Test.YtncfmhlikmibaaaGreatDoorBno
import Derived.Test.YtncfmhlikmibaaaGreatDoorRead
namespace Go.Proofs.YtncfmhlikmibaaaGreatDoor
open Go.RowKit
set_option maxRecDepth 100000
set_option maxHeartbeats 16000000
section
variable {E d i : Nat} {W : List Tk}
theorem Zg8 (S : Src W E) (hi : i ≤ E) (q0 : Qy) (hn : kdW W i = 4 → Zaa W q0 (.ok (Zbr W 1 i) (i + 1))) (hs : kdW W i = 5 → Zaa W q0 (.ok (Zbr W 2 i) (i + 1))) (hy : kdW W i = 6 → Zaa W q0 (.ok (Zbr W 3 i) (i + 1)))
  (hl : kdW W i = 17 → ∀ r, Zaa W (.list i d) r → Zaa W q0 r) (hb : kdW W i ≠ 4 → kdW W i ≠ 5 → kdW W i ≠ 6 → kdW W i ≠ 17 → Zaa W q0 (.er i 20)) (H : kdW W i = 17 → Zcb 163 W (.list i d) i d) : Zcb 149 W q0 i d := by
 intro w p h
 go_enter Tryz.func149, Tryz.ntmps149
 go_wp2_with (refine Zdl _ rfl rfl ?_)
 intro q w1 E1 hq B1
 have X := Sx.start h ⟨_, _, _, _, _, _, E1⟩ hq B1
 have hp := X.hp
 have hq1 := X.z.lt
 have hs1 := X.size
 clear E1 hq B1 h
 have f0 := fld0
 go_wp2_with fail
 refine (Zbw X.rd (S.lt hi)).mono ?_
 rintro e w2 ⟨rfl, B2⟩
 have X2 := X.bel B2
 have hs12 : w1.heap.size ≤ w2.heap.size := B2.size
 replace hq1 : q < w2.heap.size := by omega
 replace hs1 : w.heap.size ≤ w2.heap.size := by omega
 clear X B2
 by_cases hk4 : kdW W i = 4
 ·rw [hk4]
  go_wp2_with fail
  refine (Zci S X2.rd hi 1).mono ?_
  rintro e w3 ⟨v, rfl, hv, h3, F3⟩
  obtain ⟨na, nc, ka, kc, _, rfl, _⟩ := NdV.parts hv
  have X3 := X2.go F3 h3
  obtain ⟨u0, u1, u2, u3, u4, u5, Eq⟩ := X3.z
  go_wp2_with (refine Zar rfl rfl rfl rfl rfl Eq ?_)
  intro wz Ez Sz
  go_wp2
  exact zB 2 3 (by rfl) (by rfl) (by rfl) (Zal Ez) (by rfl) ⟨_, hn hk4, ⟨_, rfl, NdV.out hv Sz hq1 hs1, (X3.fin Sz).2⟩, (X3.fin Sz).1⟩
 by_cases hk5 : kdW W i = 5
 ·rw [hk5]
  go_wp2_with fail
  refine (Zci S X2.rd hi 2).mono ?_
  rintro e w3 ⟨v, rfl, hv, h3, F3⟩
  obtain ⟨na, nc, ka, kc, _, rfl, _⟩ := NdV.parts hv
  have X3 := X2.go F3 h3
  obtain ⟨u0, u1, u2, u3, u4, u5, Eq⟩ := X3.z
  go_wp2_with (refine Zar rfl rfl rfl rfl rfl Eq ?_)
  intro wz Ez Sz
  go_wp2
  exact zB 2 3 (by rfl) (by rfl) (by rfl) (Zal Ez) (by rfl) ⟨_, hs hk5, ⟨_, rfl, NdV.out hv Sz hq1 hs1, (X3.fin Sz).2⟩, (X3.fin Sz).1⟩
 by_cases hk6 : kdW W i = 6
 ·rw [hk6]
  go_wp2_with fail
  refine (Zci S X2.rd hi 3).mono ?_
  rintro e w3 ⟨v, rfl, hv, h3, F3⟩
  obtain ⟨na, nc, ka, kc, _, rfl, _⟩ := NdV.parts hv
  have X3 := X2.go F3 h3
  obtain ⟨u0, u1, u2, u3, u4, u5, Eq⟩ := X3.z
  go_wp2_with (refine Zar rfl rfl rfl rfl rfl Eq ?_)
  intro wz Ez Sz
  go_wp2
  exact zB 2 3 (by rfl) (by rfl) (by rfl) (Zal Ez) (by rfl) ⟨_, hy hk6, ⟨_, rfl, NdV.out hv Sz hq1 hs1, (X3.fin Sz).2⟩, (X3.fin Sz).1⟩
 by_cases hk17 : kdW W i = 17
 ·rw [hk17]
  go_wp2_with fail
  refine (H hk17 w2 p X2.rd).mono ?_
  rintro e w3 ⟨r, hr, ha, F3⟩
  cases r with
  | er j c =>
   obtain ⟨v, x, d', rfl, hv, h3⟩ := ha
   obtain ⟨na, nc, ka, kc, _, rfl, _⟩ := NdV.parts hv
   have X3 := X2.go F3 h3
   obtain ⟨u0, u1, u2, u3, u4, u5, Eq⟩ := X3.z
   go_wp2_with (refine Zar rfl rfl rfl rfl rfl Eq ?_)
   intro wz Ez Sz
   go_wp2
   exact zB 2 3 (by rfl) (by rfl) (by rfl) (Zal Ez) (by rfl) ⟨_, hl hk17 _ hr, ⟨_, _, _, rfl, hv.out Sz hq1 hs1, (X3.fin Sz).2⟩, (X3.fin Sz).1⟩
  | ok x j =>
   obtain ⟨v, rfl, hv, h3⟩ := ha
   obtain ⟨na, nc, ka, kc, _, rfl, _⟩ := NdV.parts hv
   have X3 := X2.go F3 h3
   obtain ⟨u0, u1, u2, u3, u4, u5, Eq⟩ := X3.z
   go_wp2_with (refine Zar rfl rfl rfl rfl rfl Eq ?_)
   intro wz Ez Sz
   go_wp2
   exact zB 2 3 (by rfl) (by rfl) (by rfl) (Zal Ez) (by rfl) ⟨_, hl hk17 _ hr, ⟨_, rfl, hv.out Sz hq1 hs1, (X3.fin Sz).2⟩, (X3.fin Sz).1⟩
 have b4 : (kdW W i == 4) = false := by simp [hk4]
 have b5 : (kdW W i == 5) = false := by simp [hk5]
 have b6 : (kdW W i == 6) = false := by simp [hk6]
 have b17 : (kdW W i == 17) = false := by simp [hk17]
 obtain ⟨u0, u1, u2, u3, u4, u5, Eq⟩ := X2.z
 go_wp2_with (refine Zar rfl rfl rfl rfl rfl Eq ?_)
 intro wz Ez Sz
 go_wp2
 exact zB 2 3 (by rfl) (by rfl) (by rfl) (Zal Ez) (by rfl) ⟨_, hb hk4 hk5 hk6 hk17, ⟨_, _, _, rfl, NdV.zero, (X2.fin Sz).2⟩, (X2.fin Sz).1⟩
theorem Zmc (S : Src W E) (hi : i ≤ E) (H8 : kdW W i = 8 → Zcb 147 W (.prim i d) i d) (H10 : kdW W i = 10 → Zcb 148 W (.block i d) i d) (Hl : kdW W i = 17 → Zcb 163 W (.list i d) i d) : Zcb 134 W (.prim i d) i d := by
 intro w p h
 have HL : kdW W i ≠ 1 → kdW W i ≠ 8 → kdW W i ≠ 10 → Zcb 149 W (.prim i d) i d := fun a b c => Zg8 S hi _ Zjh Zjg Zjf (fun h _ hr => Zeu hr h) (fun e f g k => Zfy a b c e f g k) Hl
 go_enter Tryz.func134, Tryz.ntmps134
 go_wp2_with (refine Zdl _ rfl rfl ?_)
 intro q w1 E1 hq B1
 have X := Sx.start h ⟨_, _, _, _, _, _, E1⟩ hq B1
 have hp := X.hp
 have hq1 := X.z.lt
 have hs1 := X.size
 clear E1 hq B1 h
 have f0 := fld0
 go_wp2_with fail
 refine (Zbw X.rd (S.lt hi)).mono ?_
 rintro e w2 ⟨rfl, B2⟩
 have X2 := X.bel B2
 have hs12 : w1.heap.size ≤ w2.heap.size := B2.size
 replace hq1 : q < w2.heap.size := by omega
 replace hs1 : w.heap.size ≤ w2.heap.size := by omega
 clear X B2
 by_cases hk1 : kdW W i = 1
 ·rw [hk1]
  go_wp2_with fail
  refine (Zci S X2.rd hi 5).mono ?_
  rintro e w3 ⟨v, rfl, hv, h3, F3⟩
  obtain ⟨na, nc, ka, kc, _, rfl, _⟩ := NdV.parts hv
  have X3 := X2.go F3 h3
  obtain ⟨u0, u1, u2, u3, u4, u5, Eq⟩ := X3.z
  go_wp2_with (refine Zar rfl rfl rfl rfl rfl Eq ?_)
  intro wz Ez Sz
  go_wp2
  exact zB 2 3 (by rfl) (by rfl) (by rfl) (Zal Ez) (by rfl) ⟨_, Zje hk1, ⟨_, rfl, NdV.out hv Sz hq1 hs1, (X3.fin Sz).2⟩, (X3.fin Sz).1⟩
 by_cases hk8 : kdW W i = 8
 ·rw [hk8]
  go_wp2_with fail
  refine (H8 hk8 w2 p X2.rd).mono ?_
  rintro e w3 ⟨r, hr, ha, F3⟩
  cases r with
  | er j c =>
   obtain ⟨v, x, d', rfl, hv, h3⟩ := ha
   obtain ⟨na, nc, ka, kc, _, rfl, _⟩ := NdV.parts hv
   have X3 := X2.go F3 h3
   obtain ⟨u0, u1, u2, u3, u4, u5, Eq⟩ := X3.z
   go_wp2_with (refine Zar rfl rfl rfl rfl rfl Eq ?_)
   intro wz Ez Sz
   go_wp2
   exact zB 2 3 (by rfl) (by rfl) (by rfl) (Zal Ez) (by rfl) ⟨_, hr, ⟨_, _, _, rfl, hv.out Sz hq1 hs1, (X3.fin Sz).2⟩, (X3.fin Sz).1⟩
  | ok x j =>
   obtain ⟨v, rfl, hv, h3⟩ := ha
   obtain ⟨na, nc, ka, kc, _, rfl, _⟩ := NdV.parts hv
   have X3 := X2.go F3 h3
   obtain ⟨u0, u1, u2, u3, u4, u5, Eq⟩ := X3.z
   go_wp2_with (refine Zar rfl rfl rfl rfl rfl Eq ?_)
   intro wz Ez Sz
   go_wp2
   exact zB 2 3 (by rfl) (by rfl) (by rfl) (Zal Ez) (by rfl) ⟨_, hr, ⟨_, rfl, hv.out Sz hq1 hs1, (X3.fin Sz).2⟩, (X3.fin Sz).1⟩
 by_cases hk10 : kdW W i = 10
 ·rw [hk10]
  go_wp2_with fail
  refine (H10 hk10 w2 p X2.rd).mono ?_
  rintro e w3 ⟨r, hr, ha, F3⟩
  cases r with
  | er j c =>
   obtain ⟨v, x, d', rfl, hv, h3⟩ := ha
   obtain ⟨na, nc, ka, kc, _, rfl, _⟩ := NdV.parts hv
   have X3 := X2.go F3 h3
   obtain ⟨u0, u1, u2, u3, u4, u5, Eq⟩ := X3.z
   go_wp2_with (refine Zar rfl rfl rfl rfl rfl Eq ?_)
   intro wz Ez Sz
   go_wp2
   exact zB 2 3 (by rfl) (by rfl) (by rfl) (Zal Ez) (by rfl) ⟨_, Zc7 hr hk10, ⟨_, _, _, rfl, hv.out Sz hq1 hs1, (X3.fin Sz).2⟩, (X3.fin Sz).1⟩
  | ok x j =>
   obtain ⟨v, rfl, hv, h3⟩ := ha
   obtain ⟨na, nc, ka, kc, _, rfl, _⟩ := NdV.parts hv
   have X3 := X2.go F3 h3
   obtain ⟨u0, u1, u2, u3, u4, u5, Eq⟩ := X3.z
   go_wp2_with (refine Zar rfl rfl rfl rfl rfl Eq ?_)
   intro wz Ez Sz
   go_wp2
   exact zB 2 3 (by rfl) (by rfl) (by rfl) (Zal Ez) (by rfl) ⟨_, Zc7 hr hk10, ⟨_, rfl, hv.out Sz hq1 hs1, (X3.fin Sz).2⟩, (X3.fin Sz).1⟩
 have b1 : (kdW W i == 1) = false := by simp [hk1]
 have b8 : (kdW W i == 8) = false := by simp [hk8]
 have b10 : (kdW W i == 10) = false := by simp [hk10]
 go_wp2_with fail
 refine (HL hk1 hk8 hk10 w2 p X2.rd).mono ?_
 rintro e w3 ⟨r, hr, ha, F3⟩
 cases r with
 | er j c =>
  obtain ⟨v, x, d', rfl, hv, h3⟩ := ha
  obtain ⟨na, nc, ka, kc, _, rfl, _⟩ := NdV.parts hv
  have X3 := X2.go F3 h3
  obtain ⟨u0, u1, u2, u3, u4, u5, Eq⟩ := X3.z
  go_wp2_with (refine Zar rfl rfl rfl rfl rfl Eq ?_)
  intro wz Ez Sz
  go_wp2
  exact zB 2 3 (by rfl) (by rfl) (by rfl) (Zal Ez) (by rfl) ⟨_, hr, ⟨_, _, _, rfl, hv.out Sz hq1 hs1, (X3.fin Sz).2⟩, (X3.fin Sz).1⟩
 | ok x j =>
  obtain ⟨v, rfl, hv, h3⟩ := ha
  obtain ⟨na, nc, ka, kc, _, rfl, _⟩ := NdV.parts hv
  have X3 := X2.go F3 h3
  obtain ⟨u0, u1, u2, u3, u4, u5, Eq⟩ := X3.z
  go_wp2_with (refine Zar rfl rfl rfl rfl rfl Eq ?_)
  intro wz Ez Sz
  go_wp2
  exact zB 2 3 (by rfl) (by rfl) (by rfl) (Zal Ez) (by rfl) ⟨_, hr, ⟨_, rfl, hv.out Sz hq1 hs1, (X3.fin Sz).2⟩, (X3.fin Sz).1⟩
theorem Zmh (S : Src W E) (hi : i ≤ E) (H3 : kdW W i = 3 → Zcb 169 W (.una (i + 1) d) (i + 1) d) (H2 : kdW W i = 2 → Zcb 152 W (.keys i d (Zda [] (psW W i) [])) i d) : Zcb 154 W (.msg i d) i d := by
 intro w p h
 go_enter Tryz.func154, Tryz.ntmps154
 go_wp2_with (refine Zdl _ rfl rfl ?_)
 intro q w1 E1 hq B1
 have X := Sx.start h ⟨_, _, _, _, _, _, E1⟩ hq B1
 have hp := X.hp
 have hq1 := X.z.lt
 have hs1 := X.size
 clear E1 hq B1 h
 have f0 := fld0
 go_wp2_with fail
 refine (Zbw X.rd (S.lt hi)).mono ?_
 rintro e w2 ⟨rfl, B2⟩
 have X2 := X.bel B2
 have hs12 : w1.heap.size ≤ w2.heap.size := B2.size
 replace hq1 : q < w2.heap.size := by omega
 replace hs1 : w.heap.size ≤ w2.heap.size := by omega
 clear X B2
 by_cases hk1 : kdW W i = 1
 ·rw [hk1]
  go_wp2_with fail
  refine (Zi0 S X2.rd hi).mono ?_
  rintro e w3 ⟨v, rfl, hv, h3, F3⟩
  obtain ⟨na, nc, ka, kc, _, rfl, _⟩ := NdV.parts hv
  have X3 := X2.go F3 h3
  obtain ⟨u0, u1, u2, u3, u4, u5, Eq⟩ := X3.z
  go_wp2_with (refine Zar rfl rfl rfl rfl rfl Eq ?_)
  intro wz Ez Sz
  go_wp2
  exact zB 2 3 (by rfl) (by rfl) (by rfl) (Zal Ez) (by rfl) ⟨_, Zd6 hk1, ⟨_, rfl, NdV.out hv Sz hq1 hs1, (X3.fin Sz).2⟩, (X3.fin Sz).1⟩
 by_cases hk3 : kdW W i = 3
 ·rw [hk3]
  go_wp2_with fail
  refine (Zis S (S.ends.lt (by rw [hk3]; decide)) (H3 hk3) X2.rd).mono ?_
  rintro e w3 ⟨r, hr, ha, F3⟩
  cases r with
  | er j c =>
   obtain ⟨v, x, d', rfl, hv, h3⟩ := ha
   obtain ⟨na, nc, ka, kc, _, rfl, _⟩ := NdV.parts hv
   have X3 := X2.go F3 h3
   obtain ⟨u0, u1, u2, u3, u4, u5, Eq⟩ := X3.z
   go_wp2_with (refine Zar rfl rfl rfl rfl rfl Eq ?_)
   intro wz Ez Sz
   go_wp2
   exact zB 2 3 (by rfl) (by rfl) (by rfl) (Zal Ez) (by rfl) ⟨_, Zf9 hr hk3, ⟨_, _, _, rfl, hv.out Sz hq1 hs1, (X3.fin Sz).2⟩, (X3.fin Sz).1⟩
  | ok x j =>
   obtain ⟨v, rfl, hv, h3⟩ := ha
   obtain ⟨na, nc, ka, kc, _, rfl, _⟩ := NdV.parts hv
   have X3 := X2.go F3 h3
   obtain ⟨u0, u1, u2, u3, u4, u5, Eq⟩ := X3.z
   go_wp2_with (refine Zar rfl rfl rfl rfl rfl Eq ?_)
   intro wz Ez Sz
   go_wp2
   exact zB 2 3 (by rfl) (by rfl) (by rfl) (Zal Ez) (by rfl) ⟨_, Zjk hr hk3, ⟨_, rfl, hv.out Sz hq1 hs1, (X3.fin Sz).2⟩, (X3.fin Sz).1⟩
 by_cases hk2 : kdW W i = 2
 ·rw [hk2]
  go_wp2_with fail
  refine (H2 hk2 w2 p X2.rd).mono ?_
  rintro e w3 ⟨r, hr, ha, F3⟩
  cases r with
  | er j c =>
   obtain ⟨v, x, d', rfl, hv, h3⟩ := ha
   obtain ⟨na, nc, ka, kc, _, rfl, _⟩ := NdV.parts hv
   have X3 := X2.go F3 h3
   obtain ⟨u0, u1, u2, u3, u4, u5, Eq⟩ := X3.z
   go_wp2_with (refine Zar rfl rfl rfl rfl rfl Eq ?_)
   intro wz Ez Sz
   go_wp2
   exact zB 2 3 (by rfl) (by rfl) (by rfl) (Zal Ez) (by rfl) ⟨_, Zd7 hr hk2, ⟨_, _, _, rfl, hv.out Sz hq1 hs1, (X3.fin Sz).2⟩, (X3.fin Sz).1⟩
  | ok x j =>
   obtain ⟨v, rfl, hv, h3⟩ := ha
   obtain ⟨na, nc, ka, kc, _, rfl, _⟩ := NdV.parts hv
   have X3 := X2.go F3 h3
   obtain ⟨u0, u1, u2, u3, u4, u5, Eq⟩ := X3.z
   go_wp2_with (refine Zar rfl rfl rfl rfl rfl Eq ?_)
   intro wz Ez Sz
   go_wp2
   exact zB 2 3 (by rfl) (by rfl) (by rfl) (Zal Ez) (by rfl) ⟨_, Zd7 hr hk2, ⟨_, rfl, hv.out Sz hq1 hs1, (X3.fin Sz).2⟩, (X3.fin Sz).1⟩
 have b1 : (kdW W i == 1) = false := by simp [hk1]
 have b3 : (kdW W i == 3) = false := by simp [hk3]
 have b2 : (kdW W i == 2) = false := by simp [hk2]
 obtain ⟨u0, u1, u2, u3, u4, u5, Eq⟩ := X2.z
 go_wp2_with (refine Zar rfl rfl rfl rfl rfl Eq ?_)
 intro wz Ez Sz
 go_wp2
 exact zB 2 3 (by rfl) (by rfl) (by rfl) (Zal Ez) (by rfl) ⟨_, Zlz hk1 hk2 hk3, ⟨_, _, _, rfl, NdV.zero, (X2.fin Sz).2⟩, (X2.fin Sz).1⟩
end
def ConK (W : List Tk) (i d : Nat) : Prop :=
 ∀ w p, Rdw w p W i (d : Int) 20 → Calls Tryz.prog 152 #[.pointer (some ⟨p, 0, none⟩)] w fun e w' => ∃ r, Zaa W (.keys i d (Zda [] (psW W i) [])) r ∧ (match r with
  | .ok x j => ∃ v, e = .returned (.tuple #[v, .bool true]) ∧ NdB w.heap.size w' x v ∧ x.kids.length ≤ 90000 ∧ Rdw w' p W j (d : Int) 20
  | .er j c => ∃ d', e = .returned (.tuple #[.agg #[.int .i64 0, .string ⟨#[]⟩, .int .i64 0, .int .i64 0, .slice none 0 0, .slice none 0 0], .bool false]) ∧ Rdw w' p W j d' c) ∧ Fr p w.heap.size w w'
theorem ConK.con0 {W : List Tk} {i d : Nat} (h : ConK W i d) : Zcb 152 W (.keys i d (Zda [] (psW W i) [])) i d := by
 intro w p hr
 refine (h w p hr).mono ?_
 rintro e w' ⟨r, h1, h2, h3⟩
 refine ⟨r, h1, ?_, h3⟩
 cases r with
 | ok x j => obtain ⟨v, a, b, _, c⟩ := h2; exact ⟨v, a, b, c⟩
 | er j c => obtain ⟨d', a, b⟩ := h2; exact ⟨_, zNd, d', a, NdV.zero, b⟩
theorem Zmi {W : List Tk} {E : Nat} (S : Src W E) {i d : Nat} {x0 : Nd} (hi : i ≤ E) (H : ∀ j x, i ≤ j → j ≤ E → Zou 150 W (.binOf j d x) x j d) (HK : ∀ j, i ≤ j → j ≤ E → kdW W j = 2 → ConK W j d) : Zou 135 W (.keyOf i d x0) x0 i d := by
 intro w p A v h hAp hA0 hx
 have hpw := h.lt
 obtain ⟨na, nc, ka, kc, _, rfl, _⟩ := NdV.parts hx
 go_enter Tryz.func135, Tryz.ntmps135
 go_wp2_with (refine bx25 _ rfl _ rfl _ _ _ _ _ _ _ _ _ _ rfl ?_)
 intro q1 w1 E1 hq1 C1
 go_wp2_with (refine Zdl _ rfl rfl ?_)
 intro q2 w2 E2 hq2 C2
 have B02 : Below w.heap.size w w2 := C1.trans (C2.mono C1.size)
 have l1 := lt_of_block E1
 have l2 := lt_of_block E2
 have hq2' : w.heap.size ≤ q2 := Nat.le_trans C1.size hq2
 have hne : q1 ≠ q2 := by omega
 have hqp : q1 ≠ p := by omega
 have hqp2 : q2 ≠ p := by omega
 have hx2 : NdV (fun b => A b ∧ b ≠ q1 ∧ b ≠ q2 ∧ b ≠ p) w2 _ _ := hx.imp (fun b hb hA => ⟨⟨hA, by omega, by omega, fun e => hAp (e ▸ hA)⟩, B02.block b hb⟩) _ _
 have X : Sx w p q2 w2 W i (d : Int) 20 := ⟨Fr.of_below B02, ⟨_, _, _, _, _, _, E2⟩, (h.fr C1).fr C2, hq2', hpw⟩
 replace E1 := (C2.block _ l1).trans E1
 have hs02 : w.heap.size ≤ w2.heap.size := B02.size
 have hs12 : w1.heap.size ≤ w2.heap.size := C2.size
 clear C1 C2 hq2 B02 hx h E2
 obtain ⟨z0, z1, z2, z3, z4, z5, _⟩ := Zae E1
 go_wp2_with fail
 refine (Zgt S hi X.rd (A0 := fun b => A b ∧ b ≠ q1 ∧ b ≠ q2 ∧ b ≠ p) (fun h => h.2.2.2 rfl) (fun b hb => ⟨hA0 b (by omega), by omega, by omega, by omega⟩) hx2).mono ?_
 rintro e w3 ⟨x1, j1, u, hr1, hj1, rfl, hu, h3, F3⟩
 have hj1' : i ≤ j1 := (hr1.adv S.ends hi).1
 obtain ⟨ma, mc, la, lc, _, rfl, _⟩ := NdV.parts hu
 have hs23 : w2.heap.size ≤ w3.heap.size := F3.size
 have X3 := X.go F3 h3
 replace E1 := (F3.block _ (lt_of_block E1) hqp).trans E1
 clear z0 z1 z2 z3 z4 z5 X F3 hx2
 go_wp2_with fail
 refine (H j1 x1 hj1' hj1 w3 p (fun b => A b ∧ b ≠ q1 ∧ b ≠ q2 ∧ b ≠ p) _ X3.rd (fun h => h.2.2.2 rfl) (fun b hb => ⟨hA0 b (by omega), by omega, by omega, by omega⟩) hu).mono ?_
 rintro e w4 ⟨r, hr2, ha, F4⟩
 have hs34 : w3.heap.size ≤ w4.heap.size := F4.size
 replace E1 := (F4.block _ (lt_of_block E1) hqp).trans E1
 clear hu
 cases r with
 | er j c =>
  obtain ⟨v, y, d', rfl, hv, h4⟩ := ha
  obtain ⟨ma, mc, la, lc, _, rfl, _⟩ := NdV.parts hv
  have X4 := X3.go F4 h4
  clear X3 F4
  go_wp2_with (refine Zar rfl rfl rfl rfl rfl E1 ?_)
  intro w5 E5 S5
  have hv5 : NdV (fun b => A b ∧ b ≠ q1 ∧ b ≠ q2 ∧ b ≠ p) w5 _ _ := hv.imp (fun b _ hA => ⟨hA, S5.block b hA.2.1⟩) _ _
  have X5 : Sx w p q2 w5 W j d' c := ⟨X4.fr.trans (Fr.of_below (S5.below (B := w.heap.size) hq1)) zo, X4.z.keep (fun _ => S5.block q2 (fun e => hne e.symm)), X4.rd.same (fun b hb => S5.block b (by omega)) (S5.block p (fun e => hqp e.symm)), hq2', hpw⟩
  obtain ⟨y0, y1, y2, y3, y4, y5, _⟩ := Zae E5
  obtain ⟨u0, u1, u2, u3, u4, u5, Eq⟩ := X5.z
  go_wp2_with (refine Zar rfl rfl rfl rfl rfl Eq ?_)
  intro wz Ez Sz
  go_wp2
  exact zB 4 5 (by rfl) (by rfl) (by rfl) (Zal Ez) (by rfl) ⟨_, Zh1 hr1 hr2, ⟨_, _, _, rfl, hv5.imp (fun b _ hA => ⟨hA.1, Sz.block b hA.2.2.1⟩) _ _, (X5.fin Sz).2⟩, (X5.fin Sz).1⟩
 | ok x2 j2 =>
  obtain ⟨v, rfl, hv, h4⟩ := ha
  have hj2 : j1 ≤ j2 ∧ j2 ≤ E := hr2.adv S.ends hj1
  obtain ⟨ma, mc, la, lc, _, rfl, _⟩ := NdV.parts hv
  have X4 := X3.go F4 h4
  clear X3 F4
  go_wp2_with (refine Zar rfl rfl rfl rfl rfl E1 ?_)
  intro w5 E5 S5
  have hu : NdV (fun b => A b ∧ b ≠ q1 ∧ b ≠ q2 ∧ b ≠ p) w5 _ _ := hv.imp (fun b _ hA => ⟨hA, S5.block b hA.2.1⟩) _ _
  replace X4 : Sx w p q2 w5 W j2 (d : Int) 20 := ⟨X4.fr.trans (Fr.of_below (S5.below (B := w.heap.size) hq1)) zo, X4.z.keep (fun _ => S5.block q2 (fun e => hne e.symm)), X4.rd.same (fun b hb => S5.block b (by omega)) (S5.block p (fun e => hqp e.symm)), hq2', hpw⟩
  have hs45 := S5.size
  replace E1 := E5
  clear S5 hv E5
  go_wp2_with fail
  refine (Zb8 X4.rd (S.lt hj2.2) 2).mono ?_
  rintro e w6 ⟨rfl, B6⟩
  have hs56 : w5.heap.size ≤ w6.heap.size := B6.size
  replace E1 := (B6.block _ (lt_of_block E1)).trans E1
  replace X4 := X4.bel B6
  replace hu := hu.bel B6
  clear B6
  by_cases hk2 : kdW W j2 = 2
  ·rw [show (kdW W j2 == 2) = true by simp [hk2]]
   go_wp2_with fail
   refine (HK j2 (by omega) hj2.2 hk2 w6 p X4.rd).mono ?_
   rintro e w7 ⟨r, hr7, ha, F7⟩
   have hs67 : w6.heap.size ≤ w7.heap.size := F7.size
   replace E1 := (F7.block _ (lt_of_block E1) hqp).trans E1
   replace hu : NdV (fun b => A b ∧ b ≠ q1 ∧ b ≠ q2 ∧ b ≠ p) w7 _ _ := hu.fr F7 (fun b hb hl => ⟨hl, hb.2.2.2⟩)
   cases r with
   | er j c =>
    obtain ⟨d', rfl, h7⟩ := ha
    have X7 := X4.go F7 h7
    clear X4
    go_wp2_with (refine Zcm rfl rfl rfl 7 rfl rfl rfl (fun _ => rfl) (fun _ => rfl) ?_)
    intro q7 w8 E8 _ B8
    replace X7 := X7.bel B8
    replace hu := hu.bel B8
    replace E1 := (B8.block _ (lt_of_block E1)).trans E1
    have hs78 : w7.heap.size ≤ w8.heap.size := B8.size
    obtain ⟨y0, y1, y2, y3, y4, y5, _⟩ := Zae E1
    obtain ⟨z0, z1, z2, z3, z4, z5, _⟩ := Zae E8
    go_wp2_with fail
    refine (Zgh (A0 := fun b => A b ∧ b ≠ q1 ∧ b ≠ q2 ∧ b ≠ p) (fun b hb => ⟨hA0 b (by omega), by omega, by omega, by omega⟩) hu (NdV.zero) (by decide)).mono ?_
    rintro e w9 ⟨u, rfl, hu9, B9⟩
    obtain ⟨oa, oc, pa, pc, _, rfl, _⟩ := NdV.parts hu9
    replace X7 := X7.bel B9
    obtain ⟨u0, u1, u2, u3, u4, u5, Eq⟩ := X7.z
    go_wp2_with (refine Zar rfl rfl rfl rfl rfl Eq ?_)
    intro wz Ez Sz
    go_wp2
    exact zB 4 5 (by rfl) (by rfl) (by rfl) (Zal Ez) (by rfl) ⟨_, Zh0 hr1 hr2 hr7 hk2, ⟨_, _, _, rfl, hu9.imp (fun b _ hA => ⟨hA.1, Sz.block b hA.2.2.1⟩) _ _, (X7.fin Sz).2⟩, (X7.fin Sz).1⟩
   | ok m j =>
    obtain ⟨v7, rfl, hv7, hmk, h7⟩ := ha
    obtain ⟨oa, oc, pa, pc, _, rfl, _⟩ := NdV.parts hv7
    have X7 := X4.go F7 h7
    clear X4
    go_wp2_with (refine Zcm rfl rfl rfl 7 rfl rfl rfl (fun _ => rfl) (fun _ => rfl) ?_)
    intro q7 w8 E8 _ B8
    replace X7 := X7.bel B8
    replace hu := hu.bel B8
    have hv8 : NdV (fun b => A b ∧ b ≠ q1 ∧ b ≠ q2 ∧ b ≠ p) w8 _ _ := NdV.mono (NdV.bel hv7 B8) (fun b _ hA => ⟨hA0 b (by omega), by omega, by omega, by omega⟩)
    replace E1 := (B8.block _ (lt_of_block E1)).trans E1
    have hs78 : w7.heap.size ≤ w8.heap.size := B8.size
    obtain ⟨y0, y1, y2, y3, y4, y5, _⟩ := Zae E1
    obtain ⟨z0, z1, z2, z3, z4, z5, _⟩ := Zae E8
    go_wp2_with fail
    refine (Zgh (A0 := fun b => A b ∧ b ≠ q1 ∧ b ≠ q2 ∧ b ≠ p) (fun b hb => ⟨hA0 b (by omega), by omega, by omega, by omega⟩) hu hv8 hmk).mono ?_
    rintro e w9 ⟨u, rfl, hu9, B9⟩
    obtain ⟨ra, rc, sa, sc, _, rfl, _⟩ := NdV.parts hu9
    replace X7 := X7.bel B9
    obtain ⟨u0, u1, u2, u3, u4, u5, Eq⟩ := X7.z
    go_wp2_with (refine Zar rfl rfl rfl rfl rfl Eq ?_)
    intro wz Ez Sz
    go_wp2
    exact zB 4 5 (by rfl) (by rfl) (by rfl) (Zal Ez) (by rfl) ⟨_, Zjp hr1 hr2 hr7 hk2, ⟨_, rfl, hu9.imp (fun b _ hA => ⟨hA.1, Sz.block b hA.2.2.1⟩) _ _, (X7.fin Sz).2⟩, (X7.fin Sz).1⟩
  rw [show (kdW W j2 == 2) = false by simp [hk2]]
  obtain ⟨y0, y1, y2, y3, y4, y5, _⟩ := Zae E1
  obtain ⟨u0, u1, u2, u3, u4, u5, Eq⟩ := X4.z
  go_wp2_with (refine Zar rfl rfl rfl rfl rfl Eq ?_)
  intro wz Ez Sz
  go_wp2
  exact zB 4 5 (by rfl) (by rfl) (by rfl) (Zal Ez) (by rfl) ⟨_, Zjo hr1 hr2 hk2, ⟨_, rfl, hu.imp (fun b _ hA => ⟨hA.1, Sz.block b hA.2.2.1⟩) _ _, (X4.fin Sz).2⟩, (X4.fin Sz).1⟩
theorem Zfm (d u : List Int) {l : List UInt8} (hb : ∀ x ∈ d, 0 ≤ x ∧ x < 256) (hu : ∀ x ∈ u, 0 ≤ x ∧ x < 256) (e : (strOfNums u).toList = l) : ((strOfNums d).toList == l) = decide (d = u) := by
 subst e
 by_cases h : d = u
 ·subst h
  simp
 rw [decide_eq_false h]
 rw [beq_eq_false_iff_ne]
 exact fun he => h (Zph hb hu he)
theorem Zms {W : List Tk} {E : Nat} (S : Src W E) {i d : Nat} (hi : i ≤ E) (H : Zcb 134 W (.prim i d) i d) (HK : ∀ j x, i < j → j ≤ E → Zou 135 W (.keyOf j d x) x j d) (HO : ∀ k s, i < k → k ≤ E → s.kids ≠ [] → Zou 136 W (.others k d (Zcw s)) s k d) (hne : ∀ {j k : Nat} {x y : Nd}, Zaa W (.keyOf j d x) (.ok y k) → k ≠ j → y.kids ≠ []) : Zcb 116 W (.casc i d) i d := by
 intro w p h
 go_enter Tryz.func116, Tryz.ntmps116
 go_wp2_with (refine Zdl _ rfl rfl ?_)
 intro q w1 E1 hq B1
 have X := Sx.start h ⟨_, _, _, _, _, _, E1⟩ hq B1
 have hp := X.hp
 have hq1 := X.z.lt
 have hs1 := X.size
 clear E1 hq B1 h
 go_wp2_with fail
 refine (H w1 p X.rd).mono ?_
 rintro e w2 ⟨r, hr, ha, F2⟩
 have hs12 : w1.heap.size ≤ w2.heap.size := F2.size
 cases r with
 | er j c =>
  obtain ⟨v, x, d', rfl, hv, h2⟩ := ha
  obtain ⟨na, nc, ka, kc, _, rfl, _⟩ := NdV.parts hv
  have X2 := X.go F2 h2
  clear X F2
  go_wp2_with (refine Zcm rfl rfl rfl 4 rfl rfl rfl (fun _ => rfl) (fun _ => rfl) ?_)
  intro q4 w3 E3 _ B3
  replace X2 := X2.bel B3
  obtain ⟨u0, u1, u2, u3, u4, u5, Eq⟩ := X2.z
  go_wp2_with (refine Zar rfl rfl rfl rfl rfl Eq ?_)
  intro wz Ez Sz
  go_wp2
  exact zB 2 3 (by rfl) (by rfl) (by rfl) (Zal Ez) (by rfl) ⟨_, Zf0 hr, ⟨_, _, _, rfl, NdV.zero, (X2.fin Sz).2⟩, (X2.fin Sz).1⟩
 | ok x j =>
  obtain ⟨v, rfl, hv, h2⟩ := ha
  have hj : i + 1 ≤ j ∧ j ≤ E := hr.adv S.ends hi
  obtain ⟨na, nc, ka, kc, _, rfl, _⟩ := NdV.parts hv
  have X2 := X.go F2 h2
  clear X F2
  go_wp2_with (refine Zcm rfl rfl rfl 4 rfl rfl rfl (fun _ => rfl) (fun _ => rfl) ?_)
  intro q4 w3 E3 hq4 B3
  have hs23 : w2.heap.size ≤ w3.heap.size := B3.size
  replace X2 := X2.bel B3
  have hv3 : NdV (fun b => w1.heap.size ≤ b ∧ b ≠ q4) w3 x _ := NdV.imp (fun b hb hA => ⟨⟨hA, by omega⟩, B3.block b hb⟩) _ _ hv
  have hl4 := lt_of_block E3
  have hqp4 : q4 ≠ p := by omega
  clear B3 hv
  obtain ⟨z0, z1, z2, z3, z4, z5, _⟩ := Zae E3
  obtain ⟨c1, c2, c3, f1, f2, f3⟩ := X2.rd.own
  go_wp2_with fail
  refine (HK j x (by omega) hj.2 w3 p (fun b => w1.heap.size ≤ b ∧ b ≠ q4) _ X2.rd (by omega) (fun b hb => by omega) hv3).mono ?_
  clear c1 c2 c3 f1 f2 f3 z0 z1 z2 z3 z4 z5
  rintro e w4 ⟨r, hr2, ha, F4⟩
  have hs34 : w3.heap.size ≤ w4.heap.size := F4.size
  replace E3 := (F4.block _ hl4 hqp4).trans E3
  cases r with
  | er k c =>
   obtain ⟨v, y, d', rfl, hu, h4⟩ := ha
   obtain ⟨ma, mc, la, lc, _, rfl, _⟩ := NdV.parts hu
   replace X2 := X2.go F4 h4
   go_wp2_with (refine Zar rfl rfl rfl rfl rfl E3 ?_)
   intro w5 E5 S5
   replace X2 : Sx w p q w5 W k d' c := X2.low (S5.below (by omega))
   obtain ⟨u0, u1, u2, u3, u4, u5, Eq⟩ := X2.z
   go_wp2_with (refine Zar rfl rfl rfl rfl rfl Eq ?_)
   intro wz Ez Sz
   go_wp2
   exact zB 2 3 (by rfl) (by rfl) (by rfl) (Zal Ez) (by rfl) ⟨_, Zjy hr hr2, ⟨_, _, _, rfl, NdV.zero, (X2.fin Sz).2⟩, (X2.fin Sz).1⟩
  | ok y k =>
   obtain ⟨v, rfl, hu, h4⟩ := ha
   have hk : j ≤ k ∧ k ≤ E := hr2.adv S.ends hj.2
   obtain ⟨ma, mc, la, lc, _, rfl, _⟩ := NdV.parts hu
   replace X2 := X2.go F4 h4
   go_wp2_with (refine Zar rfl rfl rfl rfl rfl E3 ?_)
   intro w5 E5 S5
   replace X2 : Sx w p q w5 W k (d : Int) 20 := X2.low (S5.below (by omega))
   replace hu : NdV (fun b => w1.heap.size ≤ b ∧ b ≠ q4) w5 y _ := hu.imp (fun b _ hA => ⟨hA, S5.block b hA.2⟩) _ _
   have hs45 := S5.size
   clear S5 E3 F4
   go_wp2_with fail
   refine (Zb8 X2.rd (S.lt hk.2) 15).mono ?_
   rintro e w6 ⟨rfl, B6⟩
   have hs56 : w5.heap.size ≤ w6.heap.size := B6.size
   replace E5 := (B6.block _ (lt_of_block E5)).trans E5
   replace X2 := X2.bel B6
   replace hu := hu.bel B6
   clear B6
   by_cases hk15 : kdW W k = 15
   ·rw [show (kdW W k == 15) = true by simp [hk15]]
    obtain ⟨c1, c2, c3, f1, f2, f3⟩ := X2.rd.own
    by_cases hkj : k = j
    ·subst hkj
     have hbb : ((k : Int) == (k : Int)) = true := by simp
     obtain ⟨u0, u1, u2, u3, u4, u5, Eq⟩ := X2.z
     go_wp2_with (refine Zar rfl rfl rfl rfl rfl Eq ?_)
     intro wz Ez Sz
     go_wp2
     exact zB 2 3 (by rfl) (by rfl) (by rfl) (Zal Ez) (by rfl) ⟨_, Zjz hr hr2 hk15, ⟨_, _, _, rfl, NdV.zero, (X2.fin Sz).2⟩, (X2.fin Sz).1⟩
    have hbb : ((k : Int) == (j : Int)) = false := by simp; omega
    obtain ⟨z0, z1, z2, z3, z4, z5, _⟩ := Zae E5
    go_wp2_with fail
    refine (HO k y (by omega) hk.2 (hne hr2 hkj) w6 p (fun b => w1.heap.size ≤ b ∧ b ≠ q4) _ X2.rd (by omega) (fun b hb => by omega) hu).mono ?_
    clear c1 c2 c3 f1 f2 f3 z0 z1 z2 z3 z4 z5
    rintro e w7 ⟨r, hr3, ha, F7⟩
    cases r with
    | er l c =>
     obtain ⟨v, y, d', rfl, hv, h7⟩ := ha
     obtain ⟨oa, oc, pa, pc, _, rfl, _⟩ := NdV.parts hv
     replace X2 := X2.go F7 h7
     obtain ⟨u0, u1, u2, u3, u4, u5, Eq⟩ := X2.z
     go_wp2_with (refine Zar rfl rfl rfl rfl rfl Eq ?_)
     intro wz Ez Sz
     go_wp2
     exact zB 2 3 (by rfl) (by rfl) (by rfl) (Zal Ez) (by rfl) ⟨_, Zd8 hr hr2 hr3 hkj hk15, ⟨_, _, _, rfl, hv.imp (fun b _ hA => ⟨by omega, Sz.block b (by omega)⟩) _ _, (X2.fin Sz).2⟩, (X2.fin Sz).1⟩
    | ok z l =>
     obtain ⟨v, rfl, hv, h7⟩ := ha
     obtain ⟨oa, oc, pa, pc, _, rfl, _⟩ := NdV.parts hv
     replace X2 := X2.go F7 h7
     obtain ⟨u0, u1, u2, u3, u4, u5, Eq⟩ := X2.z
     go_wp2_with (refine Zar rfl rfl rfl rfl rfl Eq ?_)
     intro wz Ez Sz
     go_wp2
     exact zB 2 3 (by rfl) (by rfl) (by rfl) (Zal Ez) (by rfl) ⟨_, Zd8 hr hr2 hr3 hkj hk15, ⟨_, rfl, hv.imp (fun b _ hA => ⟨by omega, Sz.block b (by omega)⟩) _ _, (X2.fin Sz).2⟩, (X2.fin Sz).1⟩
   rw [show (kdW W k == 15) = false by simp [hk15]]
   obtain ⟨z0, z1, z2, z3, z4, z5, _⟩ := Zae E5
   obtain ⟨u0, u1, u2, u3, u4, u5, Eq⟩ := X2.z
   go_wp2_with (refine Zar rfl rfl rfl rfl rfl Eq ?_)
   intro wz Ez Sz
   go_wp2
   exact zB 2 3 (by rfl) (by rfl) (by rfl) (Zal Ez) (by rfl) ⟨_, Zl5 hr hr2 hk15, ⟨_, rfl, hu.imp (fun b _ hA => ⟨by omega, Sz.block b (by omega)⟩) _ _, (X2.fin Sz).2⟩, (X2.fin Sz).1⟩
theorem Zmk {W : List Tk} {E : Nat} (S : Src W E) (hT : ∀ i, ∀ c ∈ txW W i, 0 ≤ c ∧ c < 256) {i d : Nat} (hi : i ≤ E) (H : kdW W i = 8 ∨ kdW W i = 17 → Zcb 163 W (.list i d) i d) : Zcb 168 W (.elem i d) i d := by
 intro w p h
 have HL : kdW W i ≠ 1 → kdW W i ≠ 2 → kdW W i ≠ 3 → kdW W i ≠ 8 → Zcb 149 W (.elem i d) i d := fun a b c k => Zg8 S hi _ Zjv Zju Zjt (fun h _ hr => Zev hr h) (fun e f g l => Zjx a b c k e f g l) (fun h => H (.inr h))
 go_enter Tryz.func168, Tryz.ntmps168
 go_wp2_with (refine Zdl _ rfl rfl ?_)
 intro q w1 E1 hq B1
 have X := Sx.start h ⟨_, _, _, _, _, _, E1⟩ hq B1
 have hp := X.hp
 have hq1 := X.z.lt
 have hs1 := X.size
 clear E1 hq B1 h
 have f0 := fld0
 go_wp2_with fail
 refine (Zbw X.rd (S.lt hi)).mono ?_
 rintro e w1' ⟨rfl, B1⟩
 have hs11 : w1.heap.size ≤ w1'.heap.size := B1.size
 replace X := X.bel B1
 clear B1
 go_wp2_with (refine al54 _ rfl rfl ?_)
 intro t w3 E3 ht B3
 go_wp2_with (refine st54 _ rfl _ _ rfl rfl _ _ _ _ rfl rfl E3 ?_)
 intro w2 E4 S4
 have B4 : Below w1'.heap.size w1' w2 := B3.trans (S4.below ht)
 have X2 := X.bel B4
 have hs24 : w1'.heap.size ≤ w2.heap.size := B4.size
 have hs12 : w1.heap.size ≤ w2.heap.size := by omega
 replace hq1 : q < w2.heap.size := by omega
 replace hs1 : w.heap.size ≤ w2.heap.size := by omega
 clear E3 B3 S4 B4 X
 obtain ⟨y0, y1, y2, _⟩ := Zbx E4
 by_cases hk1 : kdW W i = 1
 ·rw [hk1] at y0 ⊢
  have t1 : ((strOfNums (txW W i)).toList == [116, 114, 117, 101]) = decide (txW W i = Zel) := Zfm _ Zel (hT i) (by decide) (by rw [Lib.strOfNums_toList]; rfl)
  have t2 : ((strOfNums (txW W i)).toList == [102, 97, 108, 115, 101]) = decide (txW W i = Zcv) := Zfm _ Zcv (hT i) (by decide) (by rw [Lib.strOfNums_toList]; rfl)
  have t3 : ((strOfNums (txW W i)).toList == [110, 105, 108]) = decide (txW W i = Zmf) := Zfm _ Zmf (hT i) (by decide) (by rw [Lib.strOfNums_toList]; rfl)
  by_cases h1 : txW W i = Zel
  ·rw [decide_eq_true h1] at t1; replace h1 : Hid (txW W i = Zel) := h1
   go_wp2_with fail
   refine (Zci S X2.rd hi 13).mono ?_
   rintro e w3 ⟨v, rfl, hv, h3, F3⟩
   obtain ⟨na, nc, ka, kc, _, rfl, _⟩ := NdV.parts hv
   have X3 := X2.go F3 h3
   obtain ⟨u0, u1, u2, u3, u4, u5, Eq⟩ := X3.z
   go_wp2_with (refine Zar rfl rfl rfl rfl rfl Eq ?_)
   intro wz Ez Sz
   go_wp2
   exact zB 2 3 (by rfl) (by rfl) (by rfl) (Zal Ez) (by rfl) ⟨_, Zcg hk1 (.inl h1.out), ⟨_, rfl, NdV.out hv Sz hq1 hs1, (X3.fin Sz).2⟩, (X3.fin Sz).1⟩
  rw [decide_eq_false h1] at t1; replace h1 : Hid (¬ txW W i = Zel) := h1
  by_cases h2 : txW W i = Zcv
  ·rw [decide_eq_true h2] at t2; replace h2 : Hid (txW W i = Zcv) := h2
   go_wp2_with fail
   refine (Zci S X2.rd hi 13).mono ?_
   rintro e w3 ⟨v, rfl, hv, h3, F3⟩
   obtain ⟨na, nc, ka, kc, _, rfl, _⟩ := NdV.parts hv
   have X3 := X2.go F3 h3
   obtain ⟨u0, u1, u2, u3, u4, u5, Eq⟩ := X3.z
   go_wp2_with (refine Zar rfl rfl rfl rfl rfl Eq ?_)
   intro wz Ez Sz
   go_wp2
   exact zB 2 3 (by rfl) (by rfl) (by rfl) (Zal Ez) (by rfl) ⟨_, Zcg hk1 (.inr (.inl h2.out)), ⟨_, rfl, NdV.out hv Sz hq1 hs1, (X3.fin Sz).2⟩, (X3.fin Sz).1⟩
  rw [decide_eq_false h2] at t2; replace h2 : Hid (¬ txW W i = Zcv) := h2
  by_cases hn3 : txW W i = Zmf
  ·rw [decide_eq_true hn3] at t3; replace hn3 : Hid (txW W i = Zmf) := hn3
   go_wp2_with fail
   refine (Zci S X2.rd hi 13).mono ?_
   rintro e w3 ⟨v, rfl, hv, h3, F3⟩
   obtain ⟨na, nc, ka, kc, _, rfl, _⟩ := NdV.parts hv
   have X3 := X2.go F3 h3
   obtain ⟨u0, u1, u2, u3, u4, u5, Eq⟩ := X3.z
   go_wp2_with (refine Zar rfl rfl rfl rfl rfl Eq ?_)
   intro wz Ez Sz
   go_wp2
   exact zB 2 3 (by rfl) (by rfl) (by rfl) (Zal Ez) (by rfl) ⟨_, Zcg hk1 (.inr (.inr hn3.out)), ⟨_, rfl, NdV.out hv Sz hq1 hs1, (X3.fin Sz).2⟩, (X3.fin Sz).1⟩
  rw [decide_eq_false hn3] at t3; replace hn3 : Hid (¬ txW W i = Zmf) := hn3
  go_wp2_with fail
  refine (Zci S X2.rd hi 3).mono ?_
  rintro e w3 ⟨v, rfl, hv, h3, F3⟩
  obtain ⟨na, nc, ka, kc, _, rfl, _⟩ := NdV.parts hv
  have X3 := X2.go F3 h3
  obtain ⟨u0, u1, u2, u3, u4, u5, Eq⟩ := X3.z
  go_wp2_with (refine Zar rfl rfl rfl rfl rfl Eq ?_)
  intro wz Ez Sz
  go_wp2
  exact zB 2 3 (by rfl) (by rfl) (by rfl) (Zal Ez) (by rfl) ⟨_, Zh5 hk1 (fun h => h.elim h1.out (fun h => h.elim h2.out hn3.out)), ⟨_, rfl, NdV.out hv Sz hq1 hs1, (X3.fin Sz).2⟩, (X3.fin Sz).1⟩
 by_cases hk2 : kdW W i = 2
 ·rw [hk2] at y0 ⊢
  go_wp2_with fail
  refine (Zci S X2.rd hi 3).mono ?_
  rintro e w3 ⟨v, rfl, hv, h3, F3⟩
  obtain ⟨na, nc, ka, kc, _, rfl, _⟩ := NdV.parts hv
  have X3 := X2.go F3 h3
  obtain ⟨u0, u1, u2, u3, u4, u5, Eq⟩ := X3.z
  go_wp2_with (refine Zar rfl rfl rfl rfl rfl Eq ?_)
  intro wz Ez Sz
  go_wp2
  exact zB 2 3 (by rfl) (by rfl) (by rfl) (Zal Ez) (by rfl) ⟨_, Zjw hk2, ⟨_, rfl, NdV.out hv Sz hq1 hs1, (X3.fin Sz).2⟩, (X3.fin Sz).1⟩
 by_cases hk3 : kdW W i = 3
 ·rw [hk3] at y0 ⊢
  go_wp2_with fail
  refine (Zci S X2.rd hi 3).mono ?_
  rintro e w3 ⟨v, rfl, hv, h3, F3⟩
  obtain ⟨na, nc, ka, kc, _, rfl, _⟩ := NdV.parts hv
  have X3 := X2.go F3 h3
  obtain ⟨u0, u1, u2, u3, u4, u5, Eq⟩ := X3.z
  go_wp2_with (refine Zar rfl rfl rfl rfl rfl Eq ?_)
  intro wz Ez Sz
  go_wp2
  exact zB 2 3 (by rfl) (by rfl) (by rfl) (Zal Ez) (by rfl) ⟨_, Zh4 hk3, ⟨_, rfl, NdV.out hv Sz hq1 hs1, (X3.fin Sz).2⟩, (X3.fin Sz).1⟩
 by_cases hk8 : kdW W i = 8
 ·rw [hk8] at y0 ⊢
  go_wp2_with fail
  refine (H (.inl hk8) w2 p X2.rd).mono ?_
  rintro e w3 ⟨r, hr, ha, F3⟩
  cases r with
  | er j c =>
   obtain ⟨v, x, d', rfl, hv, h3⟩ := ha
   obtain ⟨na, nc, ka, kc, _, rfl, _⟩ := NdV.parts hv
   have X3 := X2.go F3 h3
   obtain ⟨u0, u1, u2, u3, u4, u5, Eq⟩ := X3.z
   go_wp2_with (refine Zar rfl rfl rfl rfl rfl Eq ?_)
   intro wz Ez Sz
   go_wp2
   exact zB 2 3 (by rfl) (by rfl) (by rfl) (Zal Ez) (by rfl) ⟨_, Zdi hr hk8, ⟨_, _, _, rfl, hv.out Sz hq1 hs1, (X3.fin Sz).2⟩, (X3.fin Sz).1⟩
  | ok x j =>
   obtain ⟨v, rfl, hv, h3⟩ := ha
   obtain ⟨na, nc, ka, kc, _, rfl, _⟩ := NdV.parts hv
   have X3 := X2.go F3 h3
   obtain ⟨u0, u1, u2, u3, u4, u5, Eq⟩ := X3.z
   go_wp2_with (refine Zar rfl rfl rfl rfl rfl Eq ?_)
   intro wz Ez Sz
   go_wp2
   exact zB 2 3 (by rfl) (by rfl) (by rfl) (Zal Ez) (by rfl) ⟨_, Zdi hr hk8, ⟨_, rfl, hv.out Sz hq1 hs1, (X3.fin Sz).2⟩, (X3.fin Sz).1⟩
 have b1 : (kdW W i == 1) = false := by simp [hk1]
 have b2 : (kdW W i == 2) = false := by simp [hk2]
 have b3 : (kdW W i == 3) = false := by simp [hk3]
 have b8 : (kdW W i == 8) = false := by simp [hk8]
 go_wp2_with fail
 refine (HL hk1 hk2 hk3 hk8 w2 p X2.rd).mono ?_
 rintro e w3 ⟨r, hr, ha, F3⟩
 cases r with
 | er j c =>
  obtain ⟨v, x, d', rfl, hv, h3⟩ := ha
  obtain ⟨na, nc, ka, kc, _, rfl, _⟩ := NdV.parts hv
  have X3 := X2.go F3 h3
  obtain ⟨u0, u1, u2, u3, u4, u5, Eq⟩ := X3.z
  go_wp2_with (refine Zar rfl rfl rfl rfl rfl Eq ?_)
  intro wz Ez Sz
  go_wp2
  exact zB 2 3 (by rfl) (by rfl) (by rfl) (Zal Ez) (by rfl) ⟨_, hr, ⟨_, _, _, rfl, hv.out Sz hq1 hs1, (X3.fin Sz).2⟩, (X3.fin Sz).1⟩
 | ok x j =>
  obtain ⟨v, rfl, hv, h3⟩ := ha
  obtain ⟨na, nc, ka, kc, _, rfl, _⟩ := NdV.parts hv
  have X3 := X2.go F3 h3
  obtain ⟨u0, u1, u2, u3, u4, u5, Eq⟩ := X3.z
  go_wp2_with (refine Zar rfl rfl rfl rfl rfl Eq ?_)
  intro wz Ez Sz
  go_wp2
  exact zB 2 3 (by rfl) (by rfl) (by rfl) (Zal Ez) (by rfl) ⟨_, hr, ⟨_, rfl, hv.out Sz hq1 hs1, (X3.fin Sz).2⟩, (X3.fin Sz).1⟩
end Go.Proofs.YtncfmhlikmibaaaGreatDoor
