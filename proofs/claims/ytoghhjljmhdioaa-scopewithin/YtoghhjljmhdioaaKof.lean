/- keyedOf. -/
import Derived.Test.YtoghhjljmhdioaaPri
namespace Go.Proofs.Ytoghhjljmhdioaa
open Go.RowKit
set_option maxRecDepth 100000
/-- keyed, which answers an empty part where it gives up. -/
def ConK (W : List Tk) (i d : Nat) : Prop :=
  ∀ w p, Rdw w p W i (d : Int) 20 → Calls Try.prog 86 #[.pointer (some ⟨p, 0, none⟩)] w fun e w' => ∃ r, Reads W (.keys i d (msgN [] (psW W i) [])) r ∧ (match r with
    | .ok x j => ∃ v, e = .returned (.tuple #[v, .bool true]) ∧ NdB w.heap.size w' x v ∧ x.kids.length ≤ 90000 ∧ Rdw w' p W j (d : Int) 20
    | .er j c => ∃ d', e = .returned (.tuple #[.agg #[.int .i64 0, .string ⟨#[]⟩, .int .i64 0, .int .i64 0, .slice none 0 0, .slice none 0 0], .bool false]) ∧ Rdw w' p W j d' c) ∧ Fr p w.heap.size w w'
theorem ConK.con0 {W : List Tk} {i d : Nat} (h : ConK W i d) : Con0 86 W (.keys i d (msgN [] (psW W i) [])) i d := by
  intro w p hr
  refine (h w p hr).mono ?_
  rintro e w' ⟨r, h1, h2, h3⟩
  refine ⟨r, h1, ?_, h3⟩
  cases r with
  | ok x j => obtain ⟨v, a, b, _, c⟩ := h2; exact ⟨v, a, b, c⟩
  | er j c => obtain ⟨d', a, b⟩ := h2; exact ⟨_, zNd, d', a, NdV.zero, b⟩
theorem keyedOf_con {W : List Tk} {E : Nat} (S : Src W E) {i d : Nat} {x0 : Nd} (hi : i ≤ E) (H : ∀ j x, i ≤ j → j ≤ E → Con1 84 W (.binOf j d x) x j d) (HK : ∀ j, i ≤ j → j ≤ E → kdW W j = 2 → ConK W j d) : Con1 75 W (.keyOf i d x0) x0 i d := by
  intro w p A v h hAp hA0 hx
  have hpw := h.lt
  obtain ⟨na, nc, ka, kc, _, rfl, _⟩ := NdV.parts hx
  go_enter Try.func75, Try.ntmps75
  go_wp2_with (refine bx25 _ rfl _ rfl _ _ _ _ _ _ _ _ _ _ rfl ?_)
  intro q1 w1 E1 hq1 C1
  go_wp2_with (refine al25 _ rfl rfl ?_)
  intro q2 w2 E2 hq2 C2
  have B02 : Below w.heap.size w w2 := C1.trans (C2.mono C1.size)
  have l1 := lt_of_block E1
  have l2 := lt_of_block E2
  have hq2' : w.heap.size ≤ q2 := Nat.le_trans C1.size hq2
  have hne : q1 ≠ q2 := by omega
  have hqp : q1 ≠ p := by omega
  have hqp2 : q2 ≠ p := by omega
  have hx2 : NdV (fun b => A b ∧ b ≠ q1 ∧ b ≠ q2 ∧ b ≠ p) w2 _ _ := hx.imp (fun b hb hA => ⟨⟨hA, by omega, by omega, fun e => hAp (e ▸ hA)⟩, B02.block b hb⟩) _ _
  have X : Sx w p q2 w2 W i (d : Int) 20 := ⟨Fr.of_below B02, ⟨_, _, _, _, _, _, E2⟩, (h.fr C1).fr C2, hq2', hpw⟩
  replace E1 := (C2.block _ l1).trans E1
  have hs02 : w.heap.size ≤ w2.heap.size := B02.size
  have hs12 : w1.heap.size ≤ w2.heap.size := C2.size
  clear C1 C2 hq2 B02 hx h E2
  obtain ⟨z0, z1, z2, z3, z4, z5, _⟩ := nd_cells E1
  go_wp2_with fail
  refine (unaryOf_any S hi X.rd (A0 := fun b => A b ∧ b ≠ q1 ∧ b ≠ q2 ∧ b ≠ p) (fun h => h.2.2.2 rfl) (fun b hb => ⟨hA0 b (by omega), by omega, by omega, by omega⟩) hx2).mono ?_
  rintro e w3 ⟨x1, j1, u, hr1, hj1, rfl, hu, h3, F3⟩
  have hj1' : i ≤ j1 := (hr1.adv S.ends hi).1
  obtain ⟨ma, mc, la, lc, _, rfl, _⟩ := NdV.parts hu
  have hs23 : w2.heap.size ≤ w3.heap.size := F3.size
  have X3 := X.go F3 h3
  replace E1 := (F3.block _ (lt_of_block E1) hqp).trans E1
  clear z0 z1 z2 z3 z4 z5 X F3 hx2
  go_wp2_with fail
  refine (H j1 x1 hj1' hj1 w3 p (fun b => A b ∧ b ≠ q1 ∧ b ≠ q2 ∧ b ≠ p) _ X3.rd (fun h => h.2.2.2 rfl) (fun b hb => ⟨hA0 b (by omega), by omega, by omega, by omega⟩) hu).mono ?_
  rintro e w4 ⟨r, hr2, ha, F4⟩
  have hs34 : w3.heap.size ≤ w4.heap.size := F4.size
  replace E1 := (F4.block _ (lt_of_block E1) hqp).trans E1
  clear hu
  cases r with
  | er j c =>
    obtain ⟨v, y, d', rfl, hv, h4⟩ := ha
    obtain ⟨ma, mc, la, lc, _, rfl, _⟩ := NdV.parts hv
    have X4 := X3.go F4 h4
    clear X3 F4
    go_wp2_with (refine st25 _ rfl _ _ rfl rfl _ _ _ _ _ _ _ _ _ _ _ rfl rfl E1 ?_)
    intro w5 E5 S5
    have hv5 : NdV (fun b => A b ∧ b ≠ q1 ∧ b ≠ q2 ∧ b ≠ p) w5 _ _ := hv.imp (fun b _ hA => ⟨hA, S5.block b hA.2.1⟩) _ _
    have X5 : Sx w p q2 w5 W j d' c := ⟨X4.fr.trans (Fr.of_below (S5.below (B := w.heap.size) hq1)) (Nat.le_refl _), X4.z.keep (fun _ => S5.block q2 (fun e => hne e.symm)), X4.rd.same (fun b hb => S5.block b (by omega)) (S5.block p (fun e => hqp e.symm)), hq2', hpw⟩
    obtain ⟨y0, y1, y2, y3, y4, y5, _⟩ := nd_cells E5
    obtain ⟨u0, u1, u2, u3, u4, u5, Eq⟩ := X5.z
    go_wp2_with (refine st25 _ rfl _ _ rfl rfl _ _ _ _ _ _ _ _ _ _ _ rfl rfl Eq ?_)
    intro wz Ez Sz
    go_wp2
    exact bodyPost_ret (results_cellb (a := 4) (t := 36) (b := 5) (by rfl) (by rfl) (by rfl) (load25 Ez)) (by rfl) ⟨_, R_keyOf_er1 hr1 hr2, ⟨_, _, _, rfl, hv5.imp (fun b _ hA => ⟨hA.1, Sz.block b hA.2.2.1⟩) _ _, (X5.fin Sz).2⟩, (X5.fin Sz).1⟩
  | ok x2 j2 =>
    obtain ⟨v, rfl, hv, h4⟩ := ha
    have hj2 : j1 ≤ j2 ∧ j2 ≤ E := hr2.adv S.ends hj1
    obtain ⟨ma, mc, la, lc, _, rfl, _⟩ := NdV.parts hv
    have X4 := X3.go F4 h4
    clear X3 F4
    go_wp2_with (refine st25 _ rfl _ _ rfl rfl _ _ _ _ _ _ _ _ _ _ _ rfl rfl E1 ?_)
    intro w5 E5 S5
    have hu : NdV (fun b => A b ∧ b ≠ q1 ∧ b ≠ q2 ∧ b ≠ p) w5 _ _ := hv.imp (fun b _ hA => ⟨hA, S5.block b hA.2.1⟩) _ _
    replace X4 : Sx w p q2 w5 W j2 (d : Int) 20 := ⟨X4.fr.trans (Fr.of_below (S5.below (B := w.heap.size) hq1)) (Nat.le_refl _), X4.z.keep (fun _ => S5.block q2 (fun e => hne e.symm)), X4.rd.same (fun b hb => S5.block b (by omega)) (S5.block p (fun e => hqp e.symm)), hq2', hpw⟩
    have hs45 := S5.size
    replace E1 := E5
    clear S5 hv E5
    go_wp2_with fail
    refine (is_any X4.rd (S.lt hj2.2) 2).mono ?_
    rintro e w6 ⟨rfl, B6⟩
    have hs56 : w5.heap.size ≤ w6.heap.size := B6.size
    replace E1 := (B6.block _ (lt_of_block E1)).trans E1
    replace X4 := X4.bel B6
    replace hu := hu.bel B6
    clear B6
    by_cases hk2 : kdW W j2 = 2
    · rw [show (kdW W j2 == 2) = true by simp [hk2]]
      go_wp2_with fail
      refine (HK j2 (by omega) hj2.2 hk2 w6 p X4.rd).mono ?_
      rintro e w7 ⟨r, hr7, ha, F7⟩
      have hs67 : w6.heap.size ≤ w7.heap.size := F7.size
      replace E1 := (F7.block _ (lt_of_block E1) hqp).trans E1
      replace hu : NdV (fun b => A b ∧ b ≠ q1 ∧ b ≠ q2 ∧ b ≠ p) w7 _ _ := hu.fr F7 (fun b hb hl => ⟨hl, hb.2.2.2⟩)
      cases r with
      | er j c =>
        obtain ⟨d', rfl, h7⟩ := ha
        have X7 := X4.go F7 h7
        clear X4
        go_wp2_with (refine as25 _ rfl rfl rfl 7 rfl _ rfl rfl _ _ _ _ _ _ _ _ _ _ (fun _ => rfl) (fun _ => rfl) ?_)
        intro q7 w8 E8 _ B8
        replace X7 := X7.bel B8
        replace hu := hu.bel B8
        replace E1 := (B8.block _ (lt_of_block E1)).trans E1
        have hs78 : w7.heap.size ≤ w8.heap.size := B8.size
        obtain ⟨y0, y1, y2, y3, y4, y5, _⟩ := nd_cells E1
        obtain ⟨z0, z1, z2, z3, z4, z5, _⟩ := nd_cells E8
        go_wp2_with fail
        refine (send_any (A0 := fun b => A b ∧ b ≠ q1 ∧ b ≠ q2 ∧ b ≠ p) (fun b hb => ⟨hA0 b (by omega), by omega, by omega, by omega⟩) hu (NdV.zero) (by decide)).mono ?_
        rintro e w9 ⟨u, rfl, hu9, B9⟩
        obtain ⟨oa, oc, pa, pc, _, rfl, _⟩ := NdV.parts hu9
        replace X7 := X7.bel B9
        obtain ⟨u0, u1, u2, u3, u4, u5, Eq⟩ := X7.z
        go_wp2_with (refine st25 _ rfl _ _ rfl rfl _ _ _ _ _ _ _ _ _ _ _ rfl rfl Eq ?_)
        intro wz Ez Sz
        go_wp2
        exact bodyPost_ret (results_cellb (a := 4) (t := 36) (b := 5) (by rfl) (by rfl) (by rfl) (load25 Ez)) (by rfl) ⟨_, R_keyOf_er2 hr1 hr2 hr7 hk2, ⟨_, _, _, rfl, hu9.imp (fun b _ hA => ⟨hA.1, Sz.block b hA.2.2.1⟩) _ _, (X7.fin Sz).2⟩, (X7.fin Sz).1⟩
      | ok m j =>
        obtain ⟨v7, rfl, hv7, hmk, h7⟩ := ha
        obtain ⟨oa, oc, pa, pc, _, rfl, _⟩ := NdV.parts hv7
        have X7 := X4.go F7 h7
        clear X4
        go_wp2_with (refine as25 _ rfl rfl rfl 7 rfl _ rfl rfl _ _ _ _ _ _ _ _ _ _ (fun _ => rfl) (fun _ => rfl) ?_)
        intro q7 w8 E8 _ B8
        replace X7 := X7.bel B8
        replace hu := hu.bel B8
        have hv8 : NdV (fun b => A b ∧ b ≠ q1 ∧ b ≠ q2 ∧ b ≠ p) w8 _ _ := NdV.mono (NdV.bel hv7 B8) (fun b _ hA => ⟨hA0 b (by omega), by omega, by omega, by omega⟩)
        replace E1 := (B8.block _ (lt_of_block E1)).trans E1
        have hs78 : w7.heap.size ≤ w8.heap.size := B8.size
        obtain ⟨y0, y1, y2, y3, y4, y5, _⟩ := nd_cells E1
        obtain ⟨z0, z1, z2, z3, z4, z5, _⟩ := nd_cells E8
        go_wp2_with fail
        refine (send_any (A0 := fun b => A b ∧ b ≠ q1 ∧ b ≠ q2 ∧ b ≠ p) (fun b hb => ⟨hA0 b (by omega), by omega, by omega, by omega⟩) hu hv8 hmk).mono ?_
        rintro e w9 ⟨u, rfl, hu9, B9⟩
        obtain ⟨ra, rc, sa, sc, _, rfl, _⟩ := NdV.parts hu9
        replace X7 := X7.bel B9
        obtain ⟨u0, u1, u2, u3, u4, u5, Eq⟩ := X7.z
        go_wp2_with (refine st25 _ rfl _ _ rfl rfl _ _ _ _ _ _ _ _ _ _ _ rfl rfl Eq ?_)
        intro wz Ez Sz
        go_wp2
        exact bodyPost_ret (results_cellb (a := 4) (t := 36) (b := 5) (by rfl) (by rfl) (by rfl) (load25 Ez)) (by rfl) ⟨_, R_keyOf_go hr1 hr2 hr7 hk2, ⟨_, rfl, hu9.imp (fun b _ hA => ⟨hA.1, Sz.block b hA.2.2.1⟩) _ _, (X7.fin Sz).2⟩, (X7.fin Sz).1⟩
    · rw [show (kdW W j2 == 2) = false by simp [hk2]]
      obtain ⟨y0, y1, y2, y3, y4, y5, _⟩ := nd_cells E1
      obtain ⟨u0, u1, u2, u3, u4, u5, Eq⟩ := X4.z
      go_wp2_with (refine st25 _ rfl _ _ rfl rfl _ _ _ _ _ _ _ _ _ _ _ rfl rfl Eq ?_)
      intro wz Ez Sz
      go_wp2
      exact bodyPost_ret (results_cellb (a := 4) (t := 36) (b := 5) (by rfl) (by rfl) (by rfl) (load25 Ez)) (by rfl) ⟨_, R_keyOf_no hr1 hr2 hk2, ⟨_, rfl, hu.imp (fun b _ hA => ⟨hA.1, Sz.block b hA.2.2.1⟩) _ _, (X4.fin Sz).2⟩, (X4.fin Sz).1⟩
end Go.Proofs.Ytoghhjljmhdioaa
