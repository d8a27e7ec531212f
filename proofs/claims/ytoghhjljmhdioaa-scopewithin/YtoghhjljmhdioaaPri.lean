/- literal, primary, message. -/
import Derived.Test.YtoghhjljmhdioaaSgn
namespace Go.Proofs.Ytoghhjljmhdioaa
open Go.RowKit
set_option maxRecDepth 100000
theorem literal_con {W : List Tk} {E : Nat} (S : Src W E) {i d : Nat} (hi : i ≤ E) (q0 : Qy) (hn : kdW W i = 4 → Reads W q0 (.ok (leafW W 1 i) (i + 1))) (hs : kdW W i = 5 → Reads W q0 (.ok (leafW W 2 i) (i + 1))) (hy : kdW W i = 6 → Reads W q0 (.ok (leafW W 3 i) (i + 1)))
    (hl : kdW W i = 17 → ∀ r, Reads W (.list i d) r → Reads W q0 r) (hb : kdW W i ≠ 4 → kdW W i ≠ 5 → kdW W i ≠ 6 → kdW W i ≠ 17 → Reads W q0 (.er i 20)) (H : kdW W i = 17 → Con0 91 W (.list i d) i d) : Con0 83 W q0 i d := by
  intro w p h
  go_enter Try.func83, Try.ntmps83
  go_wp2_with (refine al25 _ rfl rfl ?_)
  intro q w1 E1 hq B1
  have X := Sx.start h ⟨_, _, _, _, _, _, E1⟩ hq B1
  have hp := X.hp
  have hq1 := X.z.lt
  have hs1 := X.size
  clear E1 hq B1 h
  have f0 := fld0
  go_wp2_with fail
  refine (wordR_any X.rd (S.lt hi)).mono ?_
  rintro e w2 ⟨rfl, B2⟩
  have X2 := X.bel B2
  have hs12 : w1.heap.size ≤ w2.heap.size := B2.size
  replace hq1 : q < w2.heap.size := by omega
  replace hs1 : w.heap.size ≤ w2.heap.size := by omega
  clear X B2
  by_cases hk4 : kdW W i = 4
  · rw [hk4]
    go_wp2_with fail
    refine (leaf_any S X2.rd hi 1).mono ?_
    rintro e w3 ⟨v, rfl, hv, h3, F3⟩
    obtain ⟨na, nc, ka, kc, _, rfl, _⟩ := NdV.parts hv
    have X3 := X2.go F3 h3
    obtain ⟨u0, u1, u2, u3, u4, u5, Eq⟩ := X3.z
    go_wp2_with (refine st25 _ rfl _ _ rfl rfl _ _ _ _ _ _ _ _ _ _ _ rfl rfl Eq ?_)
    intro wz Ez Sz
    go_wp2
    exact bodyPost_ret (results_cellb (a := 2) (t := 36) (b := 3) (by rfl) (by rfl) (by rfl) (load25 Ez)) (by rfl) ⟨_, hn hk4, ⟨_, rfl, NdV.out hv Sz hq1 hs1, (X3.fin Sz).2⟩, (X3.fin Sz).1⟩
  · skip
    by_cases hk5 : kdW W i = 5
    · rw [hk5]
      go_wp2_with fail
      refine (leaf_any S X2.rd hi 2).mono ?_
      rintro e w3 ⟨v, rfl, hv, h3, F3⟩
      obtain ⟨na, nc, ka, kc, _, rfl, _⟩ := NdV.parts hv
      have X3 := X2.go F3 h3
      obtain ⟨u0, u1, u2, u3, u4, u5, Eq⟩ := X3.z
      go_wp2_with (refine st25 _ rfl _ _ rfl rfl _ _ _ _ _ _ _ _ _ _ _ rfl rfl Eq ?_)
      intro wz Ez Sz
      go_wp2
      exact bodyPost_ret (results_cellb (a := 2) (t := 36) (b := 3) (by rfl) (by rfl) (by rfl) (load25 Ez)) (by rfl) ⟨_, hs hk5, ⟨_, rfl, NdV.out hv Sz hq1 hs1, (X3.fin Sz).2⟩, (X3.fin Sz).1⟩
    · skip
      by_cases hk6 : kdW W i = 6
      · rw [hk6]
        go_wp2_with fail
        refine (leaf_any S X2.rd hi 3).mono ?_
        rintro e w3 ⟨v, rfl, hv, h3, F3⟩
        obtain ⟨na, nc, ka, kc, _, rfl, _⟩ := NdV.parts hv
        have X3 := X2.go F3 h3
        obtain ⟨u0, u1, u2, u3, u4, u5, Eq⟩ := X3.z
        go_wp2_with (refine st25 _ rfl _ _ rfl rfl _ _ _ _ _ _ _ _ _ _ _ rfl rfl Eq ?_)
        intro wz Ez Sz
        go_wp2
        exact bodyPost_ret (results_cellb (a := 2) (t := 36) (b := 3) (by rfl) (by rfl) (by rfl) (load25 Ez)) (by rfl) ⟨_, hy hk6, ⟨_, rfl, NdV.out hv Sz hq1 hs1, (X3.fin Sz).2⟩, (X3.fin Sz).1⟩
      · skip
        by_cases hk17 : kdW W i = 17
        · rw [hk17]
          go_wp2_with fail
          refine (H hk17 w2 p X2.rd).mono ?_
          rintro e w3 ⟨r, hr, ha, F3⟩
          cases r with
          | er j c =>
            obtain ⟨v, x, d', rfl, hv, h3⟩ := ha
            obtain ⟨na, nc, ka, kc, _, rfl, _⟩ := NdV.parts hv
            have X3 := X2.go F3 h3
            obtain ⟨u0, u1, u2, u3, u4, u5, Eq⟩ := X3.z
            go_wp2_with (refine st25 _ rfl _ _ rfl rfl _ _ _ _ _ _ _ _ _ _ _ rfl rfl Eq ?_)
            intro wz Ez Sz
            go_wp2
            exact bodyPost_ret (results_cellb (a := 2) (t := 36) (b := 3) (by rfl) (by rfl) (by rfl) (load25 Ez)) (by rfl) ⟨_, hl hk17 _ hr, ⟨_, _, _, rfl, hv.out Sz hq1 hs1, (X3.fin Sz).2⟩, (X3.fin Sz).1⟩
          | ok x j =>
            obtain ⟨v, rfl, hv, h3⟩ := ha
            obtain ⟨na, nc, ka, kc, _, rfl, _⟩ := NdV.parts hv
            have X3 := X2.go F3 h3
            obtain ⟨u0, u1, u2, u3, u4, u5, Eq⟩ := X3.z
            go_wp2_with (refine st25 _ rfl _ _ rfl rfl _ _ _ _ _ _ _ _ _ _ _ rfl rfl Eq ?_)
            intro wz Ez Sz
            go_wp2
            exact bodyPost_ret (results_cellb (a := 2) (t := 36) (b := 3) (by rfl) (by rfl) (by rfl) (load25 Ez)) (by rfl) ⟨_, hl hk17 _ hr, ⟨_, rfl, hv.out Sz hq1 hs1, (X3.fin Sz).2⟩, (X3.fin Sz).1⟩
        · skip
          have b4 : (kdW W i == 4) = false := by simp [hk4]
          have b5 : (kdW W i == 5) = false := by simp [hk5]
          have b6 : (kdW W i == 6) = false := by simp [hk6]
          have b17 : (kdW W i == 17) = false := by simp [hk17]
          obtain ⟨u0, u1, u2, u3, u4, u5, Eq⟩ := X2.z
          go_wp2_with (refine st25 _ rfl _ _ rfl rfl _ _ _ _ _ _ _ _ _ _ _ rfl rfl Eq ?_)
          intro wz Ez Sz
          go_wp2
          exact bodyPost_ret (results_cellb (a := 2) (t := 36) (b := 3) (by rfl) (by rfl) (by rfl) (load25 Ez)) (by rfl) ⟨_, hb hk4 hk5 hk6 hk17, ⟨_, _, _, rfl, NdV.zero, (X2.fin Sz).2⟩, (X2.fin Sz).1⟩
theorem primary_con {W : List Tk} {E : Nat} (S : Src W E) {i d : Nat} (hi : i ≤ E) (H8 : kdW W i = 8 → Con0 81 W (.prim i d) i d) (H10 : kdW W i = 10 → Con0 82 W (.block i d) i d) (Hl : kdW W i = 17 → Con0 91 W (.list i d) i d) : Con0 74 W (.prim i d) i d := by
  intro w p h
  have HL : kdW W i ≠ 1 → kdW W i ≠ 8 → kdW W i ≠ 10 → Con0 83 W (.prim i d) i d := fun a b c => literal_con S hi _ R_prim_num R_prim_str R_prim_sym (fun h _ hr => R_prim_list hr h) (fun e f g k => R_prim_bad a b c e f g k) Hl
  go_enter Try.func74, Try.ntmps74
  go_wp2_with (refine al25 _ rfl rfl ?_)
  intro q w1 E1 hq B1
  have X := Sx.start h ⟨_, _, _, _, _, _, E1⟩ hq B1
  have hp := X.hp
  have hq1 := X.z.lt
  have hs1 := X.size
  clear E1 hq B1 h
  have f0 := fld0
  go_wp2_with fail
  refine (wordR_any X.rd (S.lt hi)).mono ?_
  rintro e w2 ⟨rfl, B2⟩
  have X2 := X.bel B2
  have hs12 : w1.heap.size ≤ w2.heap.size := B2.size
  replace hq1 : q < w2.heap.size := by omega
  replace hs1 : w.heap.size ≤ w2.heap.size := by omega
  clear X B2
  by_cases hk1 : kdW W i = 1
  · rw [hk1]
    go_wp2_with fail
    refine (leaf_any S X2.rd hi 5).mono ?_
    rintro e w3 ⟨v, rfl, hv, h3, F3⟩
    obtain ⟨na, nc, ka, kc, _, rfl, _⟩ := NdV.parts hv
    have X3 := X2.go F3 h3
    obtain ⟨u0, u1, u2, u3, u4, u5, Eq⟩ := X3.z
    go_wp2_with (refine st25 _ rfl _ _ rfl rfl _ _ _ _ _ _ _ _ _ _ _ rfl rfl Eq ?_)
    intro wz Ez Sz
    go_wp2
    exact bodyPost_ret (results_cellb (a := 2) (t := 36) (b := 3) (by rfl) (by rfl) (by rfl) (load25 Ez)) (by rfl) ⟨_, R_prim_var hk1, ⟨_, rfl, NdV.out hv Sz hq1 hs1, (X3.fin Sz).2⟩, (X3.fin Sz).1⟩
  · skip
    by_cases hk8 : kdW W i = 8
    · rw [hk8]
      go_wp2_with fail
      refine (H8 hk8 w2 p X2.rd).mono ?_
      rintro e w3 ⟨r, hr, ha, F3⟩
      cases r with
      | er j c =>
        obtain ⟨v, x, d', rfl, hv, h3⟩ := ha
        obtain ⟨na, nc, ka, kc, _, rfl, _⟩ := NdV.parts hv
        have X3 := X2.go F3 h3
        obtain ⟨u0, u1, u2, u3, u4, u5, Eq⟩ := X3.z
        go_wp2_with (refine st25 _ rfl _ _ rfl rfl _ _ _ _ _ _ _ _ _ _ _ rfl rfl Eq ?_)
        intro wz Ez Sz
        go_wp2
        exact bodyPost_ret (results_cellb (a := 2) (t := 36) (b := 3) (by rfl) (by rfl) (by rfl) (load25 Ez)) (by rfl) ⟨_, hr, ⟨_, _, _, rfl, hv.out Sz hq1 hs1, (X3.fin Sz).2⟩, (X3.fin Sz).1⟩
      | ok x j =>
        obtain ⟨v, rfl, hv, h3⟩ := ha
        obtain ⟨na, nc, ka, kc, _, rfl, _⟩ := NdV.parts hv
        have X3 := X2.go F3 h3
        obtain ⟨u0, u1, u2, u3, u4, u5, Eq⟩ := X3.z
        go_wp2_with (refine st25 _ rfl _ _ rfl rfl _ _ _ _ _ _ _ _ _ _ _ rfl rfl Eq ?_)
        intro wz Ez Sz
        go_wp2
        exact bodyPost_ret (results_cellb (a := 2) (t := 36) (b := 3) (by rfl) (by rfl) (by rfl) (load25 Ez)) (by rfl) ⟨_, hr, ⟨_, rfl, hv.out Sz hq1 hs1, (X3.fin Sz).2⟩, (X3.fin Sz).1⟩
    · skip
      by_cases hk10 : kdW W i = 10
      · rw [hk10]
        go_wp2_with fail
        refine (H10 hk10 w2 p X2.rd).mono ?_
        rintro e w3 ⟨r, hr, ha, F3⟩
        cases r with
        | er j c =>
          obtain ⟨v, x, d', rfl, hv, h3⟩ := ha
          obtain ⟨na, nc, ka, kc, _, rfl, _⟩ := NdV.parts hv
          have X3 := X2.go F3 h3
          obtain ⟨u0, u1, u2, u3, u4, u5, Eq⟩ := X3.z
          go_wp2_with (refine st25 _ rfl _ _ rfl rfl _ _ _ _ _ _ _ _ _ _ _ rfl rfl Eq ?_)
          intro wz Ez Sz
          go_wp2
          exact bodyPost_ret (results_cellb (a := 2) (t := 36) (b := 3) (by rfl) (by rfl) (by rfl) (load25 Ez)) (by rfl) ⟨_, R_prim_block hr hk10, ⟨_, _, _, rfl, hv.out Sz hq1 hs1, (X3.fin Sz).2⟩, (X3.fin Sz).1⟩
        | ok x j =>
          obtain ⟨v, rfl, hv, h3⟩ := ha
          obtain ⟨na, nc, ka, kc, _, rfl, _⟩ := NdV.parts hv
          have X3 := X2.go F3 h3
          obtain ⟨u0, u1, u2, u3, u4, u5, Eq⟩ := X3.z
          go_wp2_with (refine st25 _ rfl _ _ rfl rfl _ _ _ _ _ _ _ _ _ _ _ rfl rfl Eq ?_)
          intro wz Ez Sz
          go_wp2
          exact bodyPost_ret (results_cellb (a := 2) (t := 36) (b := 3) (by rfl) (by rfl) (by rfl) (load25 Ez)) (by rfl) ⟨_, R_prim_block hr hk10, ⟨_, rfl, hv.out Sz hq1 hs1, (X3.fin Sz).2⟩, (X3.fin Sz).1⟩
      · skip
        have b1 : (kdW W i == 1) = false := by simp [hk1]
        have b8 : (kdW W i == 8) = false := by simp [hk8]
        have b10 : (kdW W i == 10) = false := by simp [hk10]
        go_wp2_with fail
        refine (HL hk1 hk8 hk10 w2 p X2.rd).mono ?_
        rintro e w3 ⟨r, hr, ha, F3⟩
        cases r with
        | er j c =>
          obtain ⟨v, x, d', rfl, hv, h3⟩ := ha
          obtain ⟨na, nc, ka, kc, _, rfl, _⟩ := NdV.parts hv
          have X3 := X2.go F3 h3
          obtain ⟨u0, u1, u2, u3, u4, u5, Eq⟩ := X3.z
          go_wp2_with (refine st25 _ rfl _ _ rfl rfl _ _ _ _ _ _ _ _ _ _ _ rfl rfl Eq ?_)
          intro wz Ez Sz
          go_wp2
          exact bodyPost_ret (results_cellb (a := 2) (t := 36) (b := 3) (by rfl) (by rfl) (by rfl) (load25 Ez)) (by rfl) ⟨_, hr, ⟨_, _, _, rfl, hv.out Sz hq1 hs1, (X3.fin Sz).2⟩, (X3.fin Sz).1⟩
        | ok x j =>
          obtain ⟨v, rfl, hv, h3⟩ := ha
          obtain ⟨na, nc, ka, kc, _, rfl, _⟩ := NdV.parts hv
          have X3 := X2.go F3 h3
          obtain ⟨u0, u1, u2, u3, u4, u5, Eq⟩ := X3.z
          go_wp2_with (refine st25 _ rfl _ _ rfl rfl _ _ _ _ _ _ _ _ _ _ _ rfl rfl Eq ?_)
          intro wz Ez Sz
          go_wp2
          exact bodyPost_ret (results_cellb (a := 2) (t := 36) (b := 3) (by rfl) (by rfl) (by rfl) (load25 Ez)) (by rfl) ⟨_, hr, ⟨_, rfl, hv.out Sz hq1 hs1, (X3.fin Sz).2⟩, (X3.fin Sz).1⟩
theorem message_con {W : List Tk} {E : Nat} (S : Src W E) {i d : Nat} (hi : i ≤ E) (H3 : kdW W i = 3 → Con0 96 W (.una (i + 1) d) (i + 1) d) (H2 : kdW W i = 2 → Con0 86 W (.keys i d (msgN [] (psW W i) [])) i d) : Con0 88 W (.msg i d) i d := by
  intro w p h
  go_enter Try.func88, Try.ntmps88
  go_wp2_with (refine al25 _ rfl rfl ?_)
  intro q w1 E1 hq B1
  have X := Sx.start h ⟨_, _, _, _, _, _, E1⟩ hq B1
  have hp := X.hp
  have hq1 := X.z.lt
  have hs1 := X.size
  clear E1 hq B1 h
  have f0 := fld0
  go_wp2_with fail
  refine (wordR_any X.rd (S.lt hi)).mono ?_
  rintro e w2 ⟨rfl, B2⟩
  have X2 := X.bel B2
  have hs12 : w1.heap.size ≤ w2.heap.size := B2.size
  replace hq1 : q < w2.heap.size := by omega
  replace hs1 : w.heap.size ≤ w2.heap.size := by omega
  clear X B2
  by_cases hk1 : kdW W i = 1
  · rw [hk1]
    go_wp2_with fail
    refine (namedR_any S X2.rd hi).mono ?_
    rintro e w3 ⟨v, rfl, hv, h3, F3⟩
    obtain ⟨na, nc, ka, kc, _, rfl, _⟩ := NdV.parts hv
    have X3 := X2.go F3 h3
    obtain ⟨u0, u1, u2, u3, u4, u5, Eq⟩ := X3.z
    go_wp2_with (refine st25 _ rfl _ _ rfl rfl _ _ _ _ _ _ _ _ _ _ _ rfl rfl Eq ?_)
    intro wz Ez Sz
    go_wp2
    exact bodyPost_ret (results_cellb (a := 2) (t := 36) (b := 3) (by rfl) (by rfl) (by rfl) (load25 Ez)) (by rfl) ⟨_, R_msg_name hk1, ⟨_, rfl, NdV.out hv Sz hq1 hs1, (X3.fin Sz).2⟩, (X3.fin Sz).1⟩
  · skip
    by_cases hk3 : kdW W i = 3
    · rw [hk3]
      go_wp2_with fail
      refine (signed_con S (S.ends.lt (by rw [hk3]; decide)) (H3 hk3) X2.rd).mono ?_
      rintro e w3 ⟨r, hr, ha, F3⟩
      cases r with
      | er j c =>
        obtain ⟨v, x, d', rfl, hv, h3⟩ := ha
        obtain ⟨na, nc, ka, kc, _, rfl, _⟩ := NdV.parts hv
        have X3 := X2.go F3 h3
        obtain ⟨u0, u1, u2, u3, u4, u5, Eq⟩ := X3.z
        go_wp2_with (refine st25 _ rfl _ _ rfl rfl _ _ _ _ _ _ _ _ _ _ _ rfl rfl Eq ?_)
        intro wz Ez Sz
        go_wp2
        exact bodyPost_ret (results_cellb (a := 2) (t := 36) (b := 3) (by rfl) (by rfl) (by rfl) (load25 Ez)) (by rfl) ⟨_, R_msg_signer hr hk3, ⟨_, _, _, rfl, hv.out Sz hq1 hs1, (X3.fin Sz).2⟩, (X3.fin Sz).1⟩
      | ok x j =>
        obtain ⟨v, rfl, hv, h3⟩ := ha
        obtain ⟨na, nc, ka, kc, _, rfl, _⟩ := NdV.parts hv
        have X3 := X2.go F3 h3
        obtain ⟨u0, u1, u2, u3, u4, u5, Eq⟩ := X3.z
        go_wp2_with (refine st25 _ rfl _ _ rfl rfl _ _ _ _ _ _ _ _ _ _ _ rfl rfl Eq ?_)
        intro wz Ez Sz
        go_wp2
        exact bodyPost_ret (results_cellb (a := 2) (t := 36) (b := 3) (by rfl) (by rfl) (by rfl) (load25 Ez)) (by rfl) ⟨_, R_msg_sign hr hk3, ⟨_, rfl, hv.out Sz hq1 hs1, (X3.fin Sz).2⟩, (X3.fin Sz).1⟩
    · skip
      by_cases hk2 : kdW W i = 2
      · rw [hk2]
        go_wp2_with fail
        refine (H2 hk2 w2 p X2.rd).mono ?_
        rintro e w3 ⟨r, hr, ha, F3⟩
        cases r with
        | er j c =>
          obtain ⟨v, x, d', rfl, hv, h3⟩ := ha
          obtain ⟨na, nc, ka, kc, _, rfl, _⟩ := NdV.parts hv
          have X3 := X2.go F3 h3
          obtain ⟨u0, u1, u2, u3, u4, u5, Eq⟩ := X3.z
          go_wp2_with (refine st25 _ rfl _ _ rfl rfl _ _ _ _ _ _ _ _ _ _ _ rfl rfl Eq ?_)
          intro wz Ez Sz
          go_wp2
          exact bodyPost_ret (results_cellb (a := 2) (t := 36) (b := 3) (by rfl) (by rfl) (by rfl) (load25 Ez)) (by rfl) ⟨_, R_msg_keys hr hk2, ⟨_, _, _, rfl, hv.out Sz hq1 hs1, (X3.fin Sz).2⟩, (X3.fin Sz).1⟩
        | ok x j =>
          obtain ⟨v, rfl, hv, h3⟩ := ha
          obtain ⟨na, nc, ka, kc, _, rfl, _⟩ := NdV.parts hv
          have X3 := X2.go F3 h3
          obtain ⟨u0, u1, u2, u3, u4, u5, Eq⟩ := X3.z
          go_wp2_with (refine st25 _ rfl _ _ rfl rfl _ _ _ _ _ _ _ _ _ _ _ rfl rfl Eq ?_)
          intro wz Ez Sz
          go_wp2
          exact bodyPost_ret (results_cellb (a := 2) (t := 36) (b := 3) (by rfl) (by rfl) (by rfl) (load25 Ez)) (by rfl) ⟨_, R_msg_keys hr hk2, ⟨_, rfl, hv.out Sz hq1 hs1, (X3.fin Sz).2⟩, (X3.fin Sz).1⟩
      · skip
        have b1 : (kdW W i == 1) = false := by simp [hk1]
        have b3 : (kdW W i == 3) = false := by simp [hk3]
        have b2 : (kdW W i == 2) = false := by simp [hk2]
        obtain ⟨u0, u1, u2, u3, u4, u5, Eq⟩ := X2.z
        go_wp2_with (refine st25 _ rfl _ _ rfl rfl _ _ _ _ _ _ _ _ _ _ _ rfl rfl Eq ?_)
        intro wz Ez Sz
        go_wp2
        exact bodyPost_ret (results_cellb (a := 2) (t := 36) (b := 3) (by rfl) (by rfl) (by rfl) (load25 Ez)) (by rfl) ⟨_, R_msg_bad hk1 hk2 hk3, ⟨_, _, _, rfl, NdV.zero, (X2.fin Sz).2⟩, (X2.fin Sz).1⟩
end Go.Proofs.Ytoghhjljmhdioaa
