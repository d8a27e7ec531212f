/- signed, binary. -/
import Derived.Test.YtoghhjljmhdioaaSta
namespace Go.Proofs.Ytoghhjljmhdioaa
open Go.RowKit
set_option maxRecDepth 100000
theorem signed_con {W : List Tk} {E : Nat} (S : Src W E) {i d : Nat} (hi : i < E) (H : Con0 96 W (.una (i + 1) d) (i + 1) d) {w : World} {p : Nat} (h : Rdw w p W i (d : Int) 20) :
    Calls Try.prog 92 #[.pointer (some ⟨p, 0, none⟩)] w fun e w' => ∃ r, Reads W (.una (i + 1) d) r ∧ AnsA (fun b => w.heap.size ≤ b) p W d e w' (match r with | .ok y j => .ok (msgN (txW W i) (psW W i) [y]) j | .er j c => .er j c) ∧ Fr p w.heap.size w w' := by
  go_enter Try.func92, Try.ntmps92
  go_wp2_with (refine al25 _ rfl rfl ?_)
  intro q w1 E1 hq B1
  have X := Sx.start h ⟨_, _, _, _, _, _, E1⟩ hq B1
  have hp := X.hp
  have hq1 := X.z.lt
  have hs1 := X.size
  clear E1 hq B1 h
  have htx := S.txt i
  go_wp2_with fail
  refine (next_any X.rd (S.lt (Nat.le_of_lt hi))).mono ?_
  rintro e w2 ⟨rfl, h2, F2⟩
  have X2 := X.go F2 h2
  have hs12 : w1.heap.size ≤ w2.heap.size := F2.size
  clear X F2
  go_wp2_with (refine al54 _ rfl rfl ?_)
  intro t w3 E3 ht B3
  go_wp2_with (refine st54 _ rfl _ _ rfl rfl _ _ _ _ rfl rfl E3 ?_)
  intro w4 E4 S4
  have B4 : Below w2.heap.size w2 w4 := B3.trans (S4.below ht)
  replace X2 := X2.bel B4
  have htp : t ≠ p := by have := X2.hp; omega
  have hs24 : w2.heap.size ≤ w4.heap.size := B4.size
  clear E3 B3 S4 B4
  go_wp2_with fail
  refine (H w4 p X2.rd).mono ?_
  rintro e w5 ⟨r, hr, ha, F5⟩
  have hs45 : w4.heap.size ≤ w5.heap.size := F5.size
  replace E4 := (F5.block t (lt_of_block E4) htp).trans E4
  cases r with
  | er j c =>
    obtain ⟨v, x, d', rfl, hv, h5⟩ := ha
    obtain ⟨na, nc, ka, kc, _, rfl, _⟩ := NdV.parts hv
    have X5 := X2.go F5 h5
    have hyk := hv
    go_wp2_with (refine as25 _ rfl rfl rfl 5 rfl _ rfl rfl _ _ _ _ _ _ _ _ _ _ (fun _ => rfl) (fun _ => rfl) ?_)
    intro q5 w6 E6 _ B6
    replace X5 := X5.bel B6
    replace E4 := (B6.block t (lt_of_block E4)).trans E4
    replace hv := hv.bel B6
    obtain ⟨y0, y1, y2, _⟩ := tok_cells E4
    obtain ⟨z0, z1, z2, z3, z4, z5, _⟩ := nd_cells E6
    have hs56 : w5.heap.size ≤ w6.heap.size := B6.size
    go_wp2_with (refine bs25 _ rfl _ rfl _ _ _ _ _ _ _ _ _ _ rfl ?_)
    intro g w7 E7 hg B7
    replace X5 := X5.bel B7
    replace hv := hv.bel B7
    have hN := NdV.mk_ (A := fun b => w1.heap.size ≤ b) (w := w7) (k := 9) (t := txW W i) (p := psW W i) (n := 0) (l := []) (kids := [x]) (na := none) (nc := 0) (SlF.nil _ _) (lit_sl E7 (by omega)) (KsF.one (NdV.mono hv (fun b _ hb => by omega))) (by simp) (by simp) (by omega)
    obtain ⟨u0, u1, u2, u3, u4, u5, Eq⟩ := X5.z
    go_wp2_with (refine st25 _ rfl _ _ rfl rfl _ _ _ _ _ _ _ _ _ _ _ rfl rfl Eq ?_)
    intro wz Ez Sz
    go_wp2
    exact bodyPost_ret (results_cellb (a := 2) (t := 36) (b := 3) (by rfl) (by rfl) (by rfl) (load25 Ez)) (by rfl) ⟨_, hr, ⟨_, _, _, rfl, hN.out Sz hq1 hs1, (X5.fin Sz).2⟩, (X5.fin Sz).1⟩
  | ok x j =>
    obtain ⟨v, rfl, hv, h5⟩ := ha
    obtain ⟨na, nc, ka, kc, _, rfl, _⟩ := NdV.parts hv
    have X5 := X2.go F5 h5
    have hyk := hv
    go_wp2_with (refine as25 _ rfl rfl rfl 5 rfl _ rfl rfl _ _ _ _ _ _ _ _ _ _ (fun _ => rfl) (fun _ => rfl) ?_)
    intro q5 w6 E6 _ B6
    replace X5 := X5.bel B6
    replace E4 := (B6.block t (lt_of_block E4)).trans E4
    replace hv := hv.bel B6
    obtain ⟨y0, y1, y2, _⟩ := tok_cells E4
    obtain ⟨z0, z1, z2, z3, z4, z5, _⟩ := nd_cells E6
    have hs56 : w5.heap.size ≤ w6.heap.size := B6.size
    go_wp2_with (refine bs25 _ rfl _ rfl _ _ _ _ _ _ _ _ _ _ rfl ?_)
    intro g w7 E7 hg B7
    replace X5 := X5.bel B7
    replace hv := hv.bel B7
    have hN := NdV.mk_ (A := fun b => w1.heap.size ≤ b) (w := w7) (k := 9) (t := txW W i) (p := psW W i) (n := 0) (l := []) (kids := [x]) (na := none) (nc := 0) (SlF.nil _ _) (lit_sl E7 (by omega)) (KsF.one (NdV.mono hv (fun b _ hb => by omega))) (by simp) (by simp) (by omega)
    obtain ⟨u0, u1, u2, u3, u4, u5, Eq⟩ := X5.z
    go_wp2_with (refine st25 _ rfl _ _ rfl rfl _ _ _ _ _ _ _ _ _ _ _ rfl rfl Eq ?_)
    intro wz Ez Sz
    go_wp2
    exact bodyPost_ret (results_cellb (a := 2) (t := 36) (b := 3) (by rfl) (by rfl) (by rfl) (load25 Ez)) (by rfl) ⟨_, hr, ⟨_, rfl, hN.out Sz hq1 hs1, (X5.fin Sz).2⟩, (X5.fin Sz).1⟩
theorem binary_con {W : List Tk} {E : Nat} (S : Src W E) {i d : Nat} (hi : i ≤ E) (H : Con0 96 W (.una i d) i d) (H2 : ∀ x j, i < j → j ≤ E → Con1 84 W (.binOf j d x) x j d) : Con0 94 W (.bin i d) i d := by
  intro w p h
  go_enter Try.func94, Try.ntmps94
  go_wp2_with (refine al25 _ rfl rfl ?_)
  intro q w1 E1 hq B1
  have X := Sx.start h ⟨_, _, _, _, _, _, E1⟩ hq B1
  have hp := X.hp
  have hq1 := X.z.lt
  have hs1 := X.size
  clear E1 hq B1 h
  go_wp2_with fail
  refine (H w1 p X.rd).mono ?_
  rintro e w2 ⟨r, hr, ha, F2⟩
  have hs12 : w1.heap.size ≤ w2.heap.size := F2.size
  cases r with
  | er j c =>
    obtain ⟨v, x, d', rfl, hv, h2⟩ := ha
    obtain ⟨na, nc, ka, kc, _, rfl, _⟩ := NdV.parts hv
    have X2 := X.go F2 h2
    clear X F2
    go_wp2_with (refine as25 _ rfl rfl rfl 4 rfl _ rfl rfl _ _ _ _ _ _ _ _ _ _ (fun _ => rfl) (fun _ => rfl) ?_)
    intro q4 w3 E3 _ B3
    replace X2 := X2.bel B3
    obtain ⟨u0, u1, u2, u3, u4, u5, Eq⟩ := X2.z
    go_wp2_with (refine st25 _ rfl _ _ rfl rfl _ _ _ _ _ _ _ _ _ _ _ rfl rfl Eq ?_)
    intro wz Ez Sz
    go_wp2
    exact bodyPost_ret (results_cellb (a := 2) (t := 36) (b := 3) (by rfl) (by rfl) (by rfl) (load25 Ez)) (by rfl) ⟨_, R_bin_er hr, ⟨_, _, _, rfl, NdV.zero, (X2.fin Sz).2⟩, (X2.fin Sz).1⟩
  | ok x j =>
    obtain ⟨v, rfl, hv, h2⟩ := ha
    have hj : i + 1 ≤ j ∧ j ≤ E := hr.adv S.ends hi
    obtain ⟨na, nc, ka, kc, _, rfl, _⟩ := NdV.parts hv
    have X2 := X.go F2 h2
    clear X F2
    go_wp2_with (refine as25 _ rfl rfl rfl 4 rfl _ rfl rfl _ _ _ _ _ _ _ _ _ _ (fun _ => rfl) (fun _ => rfl) ?_)
    intro q4 w3 E3 _ B3
    have hs23 : w2.heap.size ≤ w3.heap.size := B3.size
    replace X2 := X2.bel B3
    replace hv := hv.bel B3
    obtain ⟨z0, z1, z2, z3, z4, z5, _⟩ := nd_cells E3
    go_wp2_with fail
    refine (H2 x j (by omega) hj.2 w3 p (fun b => w1.heap.size ≤ b) _ X2.rd (by omega) (fun b hb => by omega) hv).mono ?_
    rintro e w4 ⟨r, hr2, ha, F4⟩
    cases r with
    | er k c =>
      obtain ⟨v, y, d', rfl, hu, h4⟩ := ha
      obtain ⟨ma, mc, la, lc, _, rfl, _⟩ := NdV.parts hu
      replace X2 := X2.go F4 h4
      obtain ⟨u0, u1, u2, u3, u4, u5, Eq⟩ := X2.z
      go_wp2_with (refine st25 _ rfl _ _ rfl rfl _ _ _ _ _ _ _ _ _ _ _ rfl rfl Eq ?_)
      intro wz Ez Sz
      go_wp2
      exact bodyPost_ret (results_cellb (a := 2) (t := 36) (b := 3) (by rfl) (by rfl) (by rfl) (load25 Ez)) (by rfl) ⟨_, R_bin_go hr hr2, ⟨_, _, _, rfl, hu.out Sz hq1 hs1, (X2.fin Sz).2⟩, (X2.fin Sz).1⟩
    | ok y k =>
      obtain ⟨v, rfl, hu, h4⟩ := ha
      obtain ⟨ma, mc, la, lc, _, rfl, _⟩ := NdV.parts hu
      replace X2 := X2.go F4 h4
      obtain ⟨u0, u1, u2, u3, u4, u5, Eq⟩ := X2.z
      go_wp2_with (refine st25 _ rfl _ _ rfl rfl _ _ _ _ _ _ _ _ _ _ _ rfl rfl Eq ?_)
      intro wz Ez Sz
      go_wp2
      exact bodyPost_ret (results_cellb (a := 2) (t := 36) (b := 3) (by rfl) (by rfl) (by rfl) (load25 Ez)) (by rfl) ⟨_, R_bin_go hr hr2, ⟨_, rfl, hu.out Sz hq1 hs1, (X2.fin Sz).2⟩, (X2.fin Sz).1⟩
end Go.Proofs.Ytoghhjljmhdioaa
