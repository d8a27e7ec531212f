/- statement, set. -/
import Derived.Test.YtoghhjljmhdioaaPri
namespace Go.Proofs.Ytoghhjljmhdioaa
open Go.RowKit
set_option maxRecDepth 100000
theorem statement_con {W : List Tk} {E : Nat} (S : Src W E) {i d : Nat} (hi : i ≤ E) (H : Con0 56 W (.expr i d) i d) (H2 : kdW W i = 13 → Con0 56 W (.expr (i + 1) d) (i + 1) d) : Con0 44 W (.stmt i d) i d := by
  intro w p h
  go_enter Try.func44, Try.ntmps44
  go_wp2_with (refine al25 _ rfl rfl ?_)
  intro q w1 E1 hq B1
  have X := Sx.start h ⟨_, _, _, _, _, _, E1⟩ hq B1
  have hp := X.hp
  have hq1 := X.z.lt
  have hs1 := X.size
  clear E1 hq B1 h
  go_wp2_with fail
  refine (is_any X.rd (S.lt hi) 13).mono ?_
  rintro e w1' ⟨rfl, B1⟩
  have hs11 : w1.heap.size ≤ w1'.heap.size := B1.size
  replace X := X.bel B1
  replace hq1 : q < w1'.heap.size := by omega
  replace hs1 : w.heap.size ≤ w1'.heap.size := by omega
  clear B1 hs11
  generalize w1' = w1 at *
  by_cases hk : kdW W i = 13
  · rw [show (kdW W i == 13) = true by simp [hk]]
    go_wp2_with fail
    refine (next_any X.rd (S.lt hi)).mono ?_
    rintro e w2 ⟨rfl, h2, F2⟩
    have X2 := X.go F2 h2
    have hs12 : w1.heap.size ≤ w2.heap.size := F2.size
    clear X F2
    go_wp2_with (refine al54 _ rfl rfl ?_)
    intro t w3 E3 ht B3
    go_wp2_with (refine st54 _ rfl _ _ rfl rfl _ _ _ _ rfl rfl E3 ?_)
    intro w4 E4 S4
    have B4 : Below w2.heap.size w2 w4 := B3.trans (S4.below ht)
    replace X2 := X2.bel B4
    have htp : t ≠ p := by have := X2.hp; omega
    have hs24 : w2.heap.size ≤ w4.heap.size := B4.size
    clear E3 B3 S4 B4
    go_wp2_with fail
    refine (H2 hk w4 p X2.rd).mono ?_
    rintro e w5 ⟨r, hr, ha, F5⟩
    have hs45 : w4.heap.size ≤ w5.heap.size := F5.size
    replace E4 := (F5.block t (lt_of_block E4) htp).trans E4
    cases r with
    | er j c =>
      obtain ⟨v, x, d', rfl, hv, h5⟩ := ha
      obtain ⟨na, nc, ka, kc, _, rfl, _⟩ := NdV.parts hv
      have X5 := X2.go F5 h5
      go_wp2_with (refine as25 _ rfl rfl rfl 5 rfl _ rfl rfl _ _ _ _ _ _ _ _ _ _ (fun _ => rfl) (fun _ => rfl) ?_)
      intro q5 w6 E6 _ B6
      replace X5 := X5.bel B6
      replace E4 := (B6.block t (lt_of_block E4)).trans E4
      replace hv := hv.bel B6
      have hs56 : w5.heap.size ≤ w6.heap.size := B6.size
      have hq56 : w5.heap.size ≤ q5 := by assumption

      obtain ⟨y0, y1, y2, _⟩ := tok_cells E4
      obtain ⟨z0, z1, z2, z3, z4, z5, _⟩ := nd_cells E6
      go_wp2_with (refine bs25 _ rfl _ rfl _ _ _ _ _ _ _ _ _ _ rfl ?_)
      intro g w7 E7 hg B7
      replace X5 := X5.bel B7
      replace hv := hv.bel B7
      have hN := NdV.mk_ (A := fun b => w1.heap.size ≤ b) (w := w7) (k := 11) (t := []) (p := psW W i) (n := 0) (l := []) (kids := [x]) (na := none) (nc := 0) (SlF.nil _ _) (lit_sl E7 (by omega)) (KsF.one (NdV.mono hv (fun b _ hb => by omega))) (by simp) (by simp) (by decide)
      obtain ⟨u0, u1, u2, u3, u4, u5, Eq⟩ := X5.z
      go_wp2_with (refine st25 _ rfl _ _ rfl rfl _ _ _ _ _ _ _ _ _ _ _ rfl rfl Eq ?_)
      intro wz Ez Sz
      go_wp2
      exact bodyPost_ret (results_cellb (a := 2) (t := 36) (b := 3) (by rfl) (by rfl) (by rfl) (load25 Ez)) (by rfl) ⟨_, R_stmt_er hr hk, ⟨_, _, _, rfl, hN.out Sz hq1 hs1, (X5.fin Sz).2⟩, (X5.fin Sz).1⟩
    | ok x j =>
      obtain ⟨v, rfl, hv, h5⟩ := ha
      obtain ⟨na, nc, ka, kc, _, rfl, _⟩ := NdV.parts hv
      have X5 := X2.go F5 h5
      go_wp2_with (refine as25 _ rfl rfl rfl 5 rfl _ rfl rfl _ _ _ _ _ _ _ _ _ _ (fun _ => rfl) (fun _ => rfl) ?_)
      intro q5 w6 E6 _ B6
      replace X5 := X5.bel B6
      replace E4 := (B6.block t (lt_of_block E4)).trans E4
      replace hv := hv.bel B6
      have hs56 : w5.heap.size ≤ w6.heap.size := B6.size
      have hq56 : w5.heap.size ≤ q5 := by assumption

      obtain ⟨y0, y1, y2, _⟩ := tok_cells E4
      obtain ⟨z0, z1, z2, z3, z4, z5, _⟩ := nd_cells E6
      go_wp2_with (refine bs25 _ rfl _ rfl _ _ _ _ _ _ _ _ _ _ rfl ?_)
      intro g w7 E7 hg B7
      replace X5 := X5.bel B7
      replace hv := hv.bel B7
      have hN := NdV.mk_ (A := fun b => w1.heap.size ≤ b) (w := w7) (k := 11) (t := []) (p := psW W i) (n := 0) (l := []) (kids := [x]) (na := none) (nc := 0) (SlF.nil _ _) (lit_sl E7 (by omega)) (KsF.one (NdV.mono hv (fun b _ hb => by omega))) (by simp) (by simp) (by decide)
      obtain ⟨u0, u1, u2, u3, u4, u5, Eq⟩ := X5.z
      go_wp2_with (refine st25 _ rfl _ _ rfl rfl _ _ _ _ _ _ _ _ _ _ _ rfl rfl Eq ?_)
      intro wz Ez Sz
      go_wp2
      exact bodyPost_ret (results_cellb (a := 2) (t := 36) (b := 3) (by rfl) (by rfl) (by rfl) (load25 Ez)) (by rfl) ⟨_, R_stmt_ret hr hk, ⟨_, rfl, hN.out Sz hq1 hs1, (X5.fin Sz).2⟩, (X5.fin Sz).1⟩
  · rw [show (kdW W i == 13) = false by simp [hk]]
    go_wp2_with fail
    refine (H w1 p X.rd).mono ?_
    rintro e w3 ⟨r, hr, ha, F3⟩
    cases r with
    | er j c =>
      obtain ⟨v, x, d', rfl, hv, h3⟩ := ha
      obtain ⟨na, nc, ka, kc, _, rfl, _⟩ := NdV.parts hv
      have X3 := X.go F3 h3
      obtain ⟨u0, u1, u2, u3, u4, u5, Eq⟩ := X3.z
      go_wp2_with (refine st25 _ rfl _ _ rfl rfl _ _ _ _ _ _ _ _ _ _ _ rfl rfl Eq ?_)
      intro wz Ez Sz
      go_wp2
      exact bodyPost_ret (results_cellb (a := 2) (t := 36) (b := 3) (by rfl) (by rfl) (by rfl) (load25 Ez)) (by rfl) ⟨_, R_stmt_plain hr hk, ⟨_, _, _, rfl, hv.out Sz hq1 hs1, (X3.fin Sz).2⟩, (X3.fin Sz).1⟩
    | ok x j =>
      obtain ⟨v, rfl, hv, h3⟩ := ha
      obtain ⟨na, nc, ka, kc, _, rfl, _⟩ := NdV.parts hv
      have X3 := X.go F3 h3
      obtain ⟨u0, u1, u2, u3, u4, u5, Eq⟩ := X3.z
      go_wp2_with (refine st25 _ rfl _ _ rfl rfl _ _ _ _ _ _ _ _ _ _ _ rfl rfl Eq ?_)
      intro wz Ez Sz
      go_wp2
      exact bodyPost_ret (results_cellb (a := 2) (t := 36) (b := 3) (by rfl) (by rfl) (by rfl) (load25 Ez)) (by rfl) ⟨_, R_stmt_plain hr hk, ⟨_, rfl, hv.out Sz hq1 hs1, (X3.fin Sz).2⟩, (X3.fin Sz).1⟩
theorem set_con {W : List Tk} {E : Nat} (S : Src W E) {i d : Nat} (hi : i ≤ E) (hd : d ≤ 40) (hk : kdW W i = 1) (hk7 : kdW W (i + 1) = 7) (H : d ≠ 40 → Con0 56 W (.expr (i + 2) (d + 1)) (i + 2) (d + 1)) : Con0 65 W (.expr i d) i d := by
  intro w p h
  have hlt : i + 1 < E := S.ends.lt (by rw [hk7]; decide)
  have htx := S.txt i
  go_enter Try.func65, Try.ntmps65
  go_wp2_with (refine al25 _ rfl rfl ?_)
  intro q w1 E1 hq B1
  have X := Sx.start h ⟨_, _, _, _, _, _, E1⟩ hq B1
  have hp := X.hp
  have hq1 := X.z.lt
  have hs1 := X.size
  clear E1 hq B1 h
  go_wp2_with fail
  refine (next_any X.rd (S.lt hi)).mono ?_
  rintro e w2 ⟨rfl, h2, F2⟩
  have X2 := X.go F2 h2
  have hs12 : w1.heap.size ≤ w2.heap.size := F2.size
  clear X F2
  go_wp2_with (refine al54 _ rfl rfl ?_)
  intro t w3 E3 ht B3
  go_wp2_with (refine st54 _ rfl _ _ rfl rfl _ _ _ _ rfl rfl E3 ?_)
  intro w4 E4 S4
  have B4 : Below w2.heap.size w2 w4 := B3.trans (S4.below ht)
  replace X2 := X2.bel B4
  have htp : t ≠ p := by have := X2.hp; omega
  have hs24 : w2.heap.size ≤ w4.heap.size := B4.size
  clear E3 B3 S4 B4
  by_cases hd4 : d = 40
  · subst hd4
    go_wp2_with fail
    refine (enter_no X2.rd).mono ?_
    rintro e w5 ⟨rfl, h5, F5⟩
    have X5 := X2.go F5 h5
    clear X2
    obtain ⟨u0, u1, u2, u3, u4, u5, Eq⟩ := X5.z
    go_wp2_with (refine st25 _ rfl _ _ rfl rfl _ _ _ _ _ _ _ _ _ _ _ rfl rfl Eq ?_)
    intro wz Ez Sz
    go_wp2
    exact bodyPost_ret (results_cellb (a := 2) (t := 36) (b := 3) (by rfl) (by rfl) (by rfl) (load25 Ez)) (by rfl) ⟨_, R_expr_deep hk hk7 rfl, ⟨_, _, _, rfl, NdV.zero, (X5.fin Sz).2⟩, (X5.fin Sz).1⟩
  · go_wp2_with fail
    refine (enter_yes X2.rd (by omega) (S.lt (by omega))).mono ?_
    rintro e w4' ⟨rfl, h5, F5⟩
    replace E4 := (F5.block t (lt_of_block E4) htp).trans E4
    have hs44 : w4.heap.size ≤ w4'.heap.size := F5.size
    replace X2 : Sx w p q w4' W (i + 2) ((d + 1 : Nat) : Int) 20 := X2.go F5 h5
    clear F5 h5
    replace hs24 : w2.heap.size ≤ w4'.heap.size := by omega
    clear hs44
    generalize w4' = w4 at *
    go_wp2_with fail
    refine (H hd4 w4 p X2.rd).mono ?_
    rintro e w5 ⟨r, hr, ha, F5⟩
    have hs45 : w4.heap.size ≤ w5.heap.size := F5.size
    replace E4 := (F5.block t (lt_of_block E4) htp).trans E4
    have hwd : IntKind.i64.wrap ((d : Int) + 1 - 1) = (d : Int) := by rw [IntKind.wrap_i64]; omega
    cases r with
    | er j c =>
      obtain ⟨v, x, d', rfl, hv, h5⟩ := ha
      obtain ⟨na, nc, ka, kc, _, rfl, _⟩ := NdV.parts hv
      have X5 := X2.go F5 h5
      go_wp2_with (refine as25 _ rfl rfl rfl 5 rfl _ rfl rfl _ _ _ _ _ _ _ _ _ _ (fun _ => rfl) (fun _ => rfl) ?_)
      intro q5 w6 E6 _ B6
      replace X5 := X5.bel B6
      replace E4 := (B6.block t (lt_of_block E4)).trans E4
      replace hv := hv.bel B6
      have hs56 : w5.heap.size ≤ w6.heap.size := B6.size
      have hq56 : w5.heap.size ≤ q5 := by assumption
      obtain ⟨c1, c2, c3, f1, f2, f3⟩ := X5.rd.own
      go_upto_region 6 with fail
      replace X5 : Sx w p q _ W j (wrap64 (d' - 1)) c := X5.go (St.cell w6 p 2 _).fr (X5.rd.setDepth _)
      replace hv := NdV.imp (fun b hb hA => ⟨hA, (St.cell w6 p 2 (.int .i64 (wrap64 (d' - 1)))).block b (by omega)⟩) _ _ hv
      replace E4 := ((St.cell w6 p 2 (.int .i64 (wrap64 (d' - 1)))).block t htp).trans E4
      replace E6 := ((St.cell w6 p 2 (.int .i64 (wrap64 (d' - 1)))).block q5 (by omega)).trans E6
      have hs6' : w6.heap.size ≤ (w6.setCell ⟨p, 2, none⟩ (.int .i64 (wrap64 (d' - 1)))).heap.size := Nat.le_of_eq (St.cell w6 p 2 _).size.symm
      clear c1 c2 c3 f1 f2 f3
      generalize w6.setCell ⟨p, 2, none⟩ (.int .i64 (wrap64 (d' - 1))) = w6 at *
      obtain ⟨y0, y1, y2, _⟩ := tok_cells E4
      obtain ⟨z0, z1, z2, z3, z4, z5, _⟩ := nd_cells E6
      go_wp2_with (refine bs25 _ rfl _ rfl _ _ _ _ _ _ _ _ _ _ rfl ?_)
      intro g w7 E7 hg B7
      replace X5 := X5.bel B7
      replace hv := hv.bel B7
      have hN := NdV.mk_ (A := fun b => w1.heap.size ≤ b) (w := w7) (k := 6) (t := txW W i) (p := psW W i) (n := 0) (l := []) (kids := [x]) (na := none) (nc := 0) (SlF.nil _ _) (lit_sl E7 (by omega)) (KsF.one (NdV.mono hv (fun b _ hb => by omega))) (by simp) (by simp) (by omega)
      obtain ⟨u0, u1, u2, u3, u4, u5, Eq⟩ := X5.z
      go_wp2_with (refine st25 _ rfl _ _ rfl rfl _ _ _ _ _ _ _ _ _ _ _ rfl rfl Eq ?_)
      intro wz Ez Sz
      go_wp2
      exact bodyPost_ret (results_cellb (a := 2) (t := 36) (b := 3) (by rfl) (by rfl) (by rfl) (load25 Ez)) (by rfl) ⟨_, R_expr_er hr hk hk7 hd4, ⟨_, _, _, rfl, hN.out Sz hq1 hs1, (X5.fin Sz).2⟩, (X5.fin Sz).1⟩
    | ok x j =>
      obtain ⟨v, rfl, hv, h5⟩ := ha
      obtain ⟨na, nc, ka, kc, _, rfl, _⟩ := NdV.parts hv
      have X5 := X2.go F5 h5
      go_wp2_with (refine as25 _ rfl rfl rfl 5 rfl _ rfl rfl _ _ _ _ _ _ _ _ _ _ (fun _ => rfl) (fun _ => rfl) ?_)
      intro q5 w6 E6 _ B6
      replace X5 := X5.bel B6
      replace E4 := (B6.block t (lt_of_block E4)).trans E4
      replace hv := hv.bel B6
      have hs56 : w5.heap.size ≤ w6.heap.size := B6.size
      have hq56 : w5.heap.size ≤ q5 := by assumption
      obtain ⟨c1, c2, c3, f1, f2, f3⟩ := X5.rd.own
      go_upto_region 6 with fail
      replace X5 : Sx w p q _ W j (d : Int) 20 := X5.go (St.cell w6 p 2 _).fr (X5.rd.setDepth (d : Int))
      replace hv := NdV.imp (fun b hb hA => ⟨hA, (St.cell w6 p 2 (.int .i64 (d : Int))).block b (by omega)⟩) _ _ hv
      replace E4 := ((St.cell w6 p 2 (.int .i64 (d : Int))).block t htp).trans E4
      replace E6 := ((St.cell w6 p 2 (.int .i64 (d : Int))).block q5 (by omega)).trans E6
      have hs6' : w6.heap.size ≤ (w6.setCell ⟨p, 2, none⟩ (.int .i64 (d : Int))).heap.size := Nat.le_of_eq (St.cell w6 p 2 _).size.symm
      clear c1 c2 c3 f1 f2 f3
      generalize w6.setCell ⟨p, 2, none⟩ (.int .i64 (d : Int)) = w6 at *
      obtain ⟨y0, y1, y2, _⟩ := tok_cells E4
      obtain ⟨z0, z1, z2, z3, z4, z5, _⟩ := nd_cells E6
      go_wp2_with (refine bs25 _ rfl _ rfl _ _ _ _ _ _ _ _ _ _ rfl ?_)
      intro g w7 E7 hg B7
      replace X5 := X5.bel B7
      replace hv := hv.bel B7
      have hN := NdV.mk_ (A := fun b => w1.heap.size ≤ b) (w := w7) (k := 6) (t := txW W i) (p := psW W i) (n := 0) (l := []) (kids := [x]) (na := none) (nc := 0) (SlF.nil _ _) (lit_sl E7 (by omega)) (KsF.one (NdV.mono hv (fun b _ hb => by omega))) (by simp) (by simp) (by omega)
      obtain ⟨u0, u1, u2, u3, u4, u5, Eq⟩ := X5.z
      go_wp2_with (refine st25 _ rfl _ _ rfl rfl _ _ _ _ _ _ _ _ _ _ _ rfl rfl Eq ?_)
      intro wz Ez Sz
      go_wp2
      exact bodyPost_ret (results_cellb (a := 2) (t := 36) (b := 3) (by rfl) (by rfl) (by rfl) (load25 Ez)) (by rfl) ⟨_, R_expr_set hr hk hk7 hd4, ⟨_, rfl, hN.out Sz hq1 hs1, (X5.fin Sz).2⟩, (X5.fin Sz).1⟩
end Go.Proofs.Ytoghhjljmhdioaa
