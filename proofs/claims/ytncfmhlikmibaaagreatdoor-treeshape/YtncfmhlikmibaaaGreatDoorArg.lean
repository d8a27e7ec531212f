/- arguments, body. -/
import Derived.Test.YtncfmhlikmibaaaGreatDoorNam
namespace Go.Proofs.YtncfmhlikmibaaaGreatDoor
open Go.RowKit
set_option maxRecDepth 100000
/-- What a function of the reader and a part that is being made answers. -/
def AnsM (A : Nat → Prop) (p q : Nat) (W : List Tk) (d : Nat) (e : Ending) (w' : World) : Rs → Prop
  | .ok y j => e = .returned (.bool true) ∧ MBox w' A q y ∧ Rdw w' p W j (d : Int) 20 ∧ y.names.length ≤ j ∧ y.n ≤ j ∧ y.text.length ≤ 50000000
  | .er j c => e = .returned (.bool false) ∧ ∃ d', Rdw w' p W j d' c
theorem arguments_con {W : List Tk} {E : Nat} (S : Src W E) {i d : Nat} (hi : i ≤ E) {w : World} {p q B : Nat} {A : Nat → Prop} {x0 : Nd} (G : Gd p B q A w) (M : MBox w A q x0) (h1 : x0.names.length ≤ i) (h2 : x0.n ≤ i) (h3 : x0.text.length ≤ 50000000) (h : Rdw w p W i (d : Int) 20) :
    Calls Tryz.prog 162 #[.pointer (some ⟨p, 0, none⟩), .pointer (some ⟨q, 0, none⟩)] w fun e w' => ∃ r, Reads W (.args i d x0) r ∧ AnsM A p q W d e w' r ∧ Fr p B w w' := by
  have hqp : q ≠ p := by have := G.hp; have := G.hq; omega
  have hAp : ¬ A p := fun e => by have := G.lo p e; have := G.hp; omega
  go_enter Tryz.func162, Tryz.ntmps162
  go_wp2_with fail
  go_loopw [] (fun wr => ∃ (i' : Nat) (x' : Nd), MBox wr A q x' ∧ Rdw wr p W i' (d : Int) 20 ∧ Fr p B w wr ∧ i ≤ i' ∧ i' ≤ E ∧ x'.names.length ≤ i' ∧ x'.n ≤ i' ∧ x'.text.length ≤ 50000000 ∧ Hid (∀ r, Reads W (.args i' d x') r → Reads W (.args i d x0) r)) (fun wr => E - atOf wr p)
  case atStart => exact ⟨i, x0, M, h, Fr.refl _ _ _, Nat.le_refl _, hi, h1, h2, h3, fun r hr => hr⟩
  case round =>
    clear M h h1 h2 h3
    obtain ⟨i', x, M, h, F, hii, hi', h1, h2, h3, hR⟩ := hrel
    have hat : atOf wr p = i' := h.atOf
    have G1 := G.up F.size
    have hE5 := S.small
    by_cases hk : kdW W i' = 16
    · have hlt : i' < E := S.ends.lt (by rw [hk]; decide)
      go_wp2_with fail
      refine (skip_yes h (S.lt hi') 16 hk).mono ?_
      rintro e w1 ⟨rfl, hr1, F1⟩
      have M1 := M.fr F1 hqp hAp
      have G2 := G1.up F1.size
      have F01 := F.trans (F1.low G1.hB) (Nat.le_refl _)
      by_cases hk1 : kdW W (i' + 1) = 1
      · have hlt1 : i' + 1 < E := S.ends.lt (by rw [hk1]; decide)
        go_wp2_with fail
        refine (argument_yes S (by omega) hk1 G2 M1 (by omega) (by omega) hr1).mono ?_
        rintro e w2 ⟨rfl, M2, hr2, F2⟩
        have F02 := F01.trans F2 (Nat.le_refl _)
        go_wp2
        go_roundw
        case rel => exact ⟨i' + 2, _, M2, hr2, F02, by omega, by omega, by show (x.names ++ [_]).length ≤ _; rw [List.length_append, List.length_singleton]; omega, by show x.n + 1 ≤ i' + 2; omega, h3, fun r hr => hR.out r (R_args_go hr hk hk1)⟩
        case measure => rw [hr2.atOf, hat]; omega
      · go_wp2_with fail
        refine (argument_no S (by omega) hk1 hr1).mono ?_
        rintro e w2 ⟨rfl, B2⟩
        go_wp2
        go_ret
        exact ⟨_, hR.out _ (R_args_bad hk hk1), ⟨rfl, _, hr1.fr B2⟩, F01.trans ((Fr.of_below B2).low G2.hB) (Nat.le_refl _)⟩
    · go_wp2_with fail
      refine (skip_no h (S.lt hi') 16 hk).mono ?_
      rintro e w1 ⟨rfl, hr1, F1⟩
      have M1 := M.fr F1 hqp hAp
      have F01 := F.trans (F1.low G1.hB) (Nat.le_refl _)
      have G2 := G1.up F1.size
      clear M h F F1
      have hkd := M1.kids
      obtain ⟨na, nc, Ek, hO, hoA⟩ := M1.ex
      obtain ⟨z0, z1, z2, z3, z4, z5, _⟩ := nd_cells Ek
      by_cases hn : x.n = 0
      · have hnb : ((x.n : Int) == 0) = true := by simp [hn]
        go_wp2
        refine bodyPost_ret (v := .bool true) (by simp [results, go_sem]) rfl ⟨_, hR.out _ (R_args_none hk hn), ⟨rfl, M1, hr1, h1, h2, h3⟩, F01⟩
      · have hnb : ((x.n : Int) == 0) = false := by simp; omega
        by_cases hk11 : kdW W i' = 11
        · go_wp2_with fail
          refine (is_any hr1 (S.lt hi') 11).mono ?_
          rintro e w2 ⟨rfl, B2⟩
          rw [show (kdW W i' == 11) = true by simp [hk11]]
          replace M1 := M1.bel B2
          go_wp2
          refine bodyPost_ret (v := .bool true) (by simp [results, go_sem]) rfl ⟨_, hR.out _ (R_args_fin hk11), ⟨rfl, M1, hr1.fr B2, h1, h2, h3⟩, F01.trans ((Fr.of_below B2).low G2.hB) (Nat.le_refl _)⟩
        · go_wp2_with fail
          refine (is_any hr1 (S.lt hi') 11).mono ?_
          rintro e w2 ⟨rfl, B2⟩
          rw [show (kdW W i' == 11) = false by simp [hk11]]
          replace M1 := M1.bel B2
          replace F01 := F01.trans ((Fr.of_below B2).low G2.hB) (Nat.le_refl _)
          have G3 := G2.up B2.size
          by_cases hk12 : kdW W i' = 12
          · have hlt : i' < E := S.ends.lt (by rw [hk12]; decide)
            go_wp2_with fail
            refine (skip_yes (hr1.fr B2) (S.lt hi') 12 hk12).mono ?_
            rintro e w3 ⟨rfl, hr3, F3⟩
            go_wp2
            refine bodyPost_ret (v := .bool true) (by simp [results, go_sem]) rfl ⟨_, hR.out _ (R_args_bar hn hk12), ⟨rfl, M1.fr F3 hqp hAp, hr3, by omega, by omega, h3⟩, F01.trans (F3.low G3.hB) (Nat.le_refl _)⟩
          · go_wp2_with fail
            refine (skip_no (hr1.fr B2) (S.lt hi') 12 hk12).mono ?_
            rintro e w3 ⟨rfl, hr3, F3⟩
            go_wp2
            refine bodyPost_ret (v := .bool false) (by simp [results, go_sem]) rfl ⟨_, hR.out _ (R_args_no hk hn hk11 hk12), ⟨rfl, _, hr3⟩, F01.trans (F3.low G3.hB) (Nat.le_refl _)⟩
/-- What a function that makes a part's parts answers. -/
def AnsN (A : Nat → Prop) (p q : Nat) (W : List Tk) (d : Nat) (e : Ending) (w' : World) : Rs → Prop
  | .ok y j => e = .returned (.bool true) ∧ NBox w' A q y ∧ Rdw w' p W j (d : Int) 20
  | .er j c => e = .returned (.bool false) ∧ ZBox w' q ∧ ∃ d', Rdw w' p W j d' c
/-- statements, body: a part whose names are there. -/
def ConN (f : Nat) (W : List Tk) (q0 : Nd → Qy) (i d : Nat) : Prop :=
  ∀ w p q B (A : Nat → Prop) x, Gd p B q A w → MBox w A q x → x.names.length ≤ i → x.text.length ≤ 50000000 → Rdw w p W i (d : Int) 20 → Calls Tryz.prog f #[.pointer (some ⟨p, 0, none⟩), .pointer (some ⟨q, 0, none⟩)] w fun e w' => ∃ r, Reads W (q0 x) r ∧ AnsN A p q W d e w' r ∧ Fr p B w w'
theorem MBox.z {w : World} {A : Nat → Prop} {q : Nat} {x : Nd} (h : MBox w A q x) : ZBox w q := by
  obtain ⟨_, _, E, _⟩ := h.ex
  exact ⟨_, _, _, _, _, _, E⟩
theorem body_con {W : List Tk} {E : Nat} (S : Src W E) {i d : Nat} (hi : i ≤ E) (H : ∀ j, i ≤ j → j ≤ E → ConN 43 W (fun x => .stmts j d x) j d) : ConN 26 W (fun x => .body i d x) i d := by
  intro w p q B A x0 G M h1 h3 h
  have hqp : q ≠ p := by have := G.hp; have := G.hq; omega
  have hAp : ¬ A p := fun e => by have := G.lo p e; have := G.hp; omega
  go_enter Tryz.func26, Tryz.ntmps26
  by_cases hk : kdW W i = 12
  · have hlt : i < E := S.ends.lt (by rw [hk]; decide)
    go_wp2_with fail
    refine (skip_yes h (S.lt hi) 12 hk).mono ?_
    rintro e w1 ⟨rfl, hr1, F1⟩
    replace M := M.fr F1 hqp hAp
    have G1 := G.up F1.size
    have F01 := F1.low G.hB
    clear h F1
    go_wp2_with fail
    go_loopw [] (fun wr => ∃ (i' : Nat) (x' : Nd), MBox wr A q x' ∧ Rdw wr p W i' (d : Int) 20 ∧ Fr p B w wr ∧ i + 1 ≤ i' ∧ i' ≤ E ∧ x'.names.length ≤ i' ∧ x'.text.length ≤ 50000000 ∧ Hid (∀ r, Reads W (.temps i' d x') r → Reads W (.temps (i + 1) d x0) r)) (fun wr => E - atOf wr p)
    case atStart => exact ⟨i + 1, x0, M, hr1, F01, Nat.le_refl _, hlt, by omega, h3, fun r hr => hr⟩
    case round =>
      clear M hr1 F01 h1 h3 G1
      obtain ⟨i', x, M, h, F, hii, hi', h1, h3, hR⟩ := hrel
      have hat : atOf wr p = i' := h.atOf
      have G1 := G.up F.size
      have hE5 := S.small
      by_cases hk1 : kdW W i' = 1
      · have hlt1 : i' < E := S.ends.lt (by rw [hk1]; decide)
        go_wp2_with fail
        refine (name_yes S hi' hk1 G1 M (by omega) h).mono ?_
        rintro e w2 ⟨rfl, M2, hr2, F2⟩
        have F02 := F.trans F2 (Nat.le_refl _)
        go_wp2
        go_roundw
        case rel => exact ⟨i' + 1, _, M2, hr2, F02, by omega, by omega, by show (x.names ++ [_]).length ≤ _; rw [List.length_append, List.length_singleton]; omega, h3, fun r hr => hR.out r (R_temps_go hr hk1)⟩
        case measure => rw [hr2.atOf, hat]; omega
      · go_wp2_with fail
        refine (name_no S hi' hk1 h).mono ?_
        rintro e w2 ⟨rfl, B2⟩
        have M2 := M.bel B2
        have hr2 := h.fr B2
        have G2 := G1.up B2.size
        have F02 := F.trans ((Fr.of_below B2).low G1.hB) (Nat.le_refl _)
        clear M h F B2
        by_cases hk2 : kdW W i' = 12
        · have hlt2 : i' < E := S.ends.lt (by rw [hk2]; decide)
          go_wp2_with fail
          refine (skip_yes hr2 (S.lt hi') 12 hk2).mono ?_
          rintro e w3 ⟨rfl, hr3, F3⟩
          have M3 := M2.fr F3 hqp hAp
          have G3 := G2.up F3.size
          have F03 := F02.trans (F3.low G2.hB) (Nat.le_refl _)
          go_wp2_with fail
          refine (H (i' + 1) (by omega) hlt2 w3 p q B A x G3 M3 (by omega) h3 hr3).mono ?_
          rintro e w4 ⟨r, hr, ha, F4⟩
          have hb := R_body_go (hR.out _ (R_temps_end hk2)) hr hk
          have F04 := F03.trans F4 (Nat.le_refl _)
          cases r with
          | er j c =>
            obtain ⟨rfl, hz, d', h4⟩ := ha
            go_wp2
            refine bodyPost_ret (v := .bool false) (by simp [results, go_sem]) rfl ⟨_, hb, ⟨rfl, hz, d', h4⟩, F04⟩
          | ok y j =>
            obtain ⟨rfl, hz, h4⟩ := ha
            go_wp2
            refine bodyPost_ret (v := .bool true) (by simp [results, go_sem]) rfl ⟨_, hb, ⟨rfl, hz, h4⟩, F04⟩
        · go_wp2_with fail
          refine (skip_no hr2 (S.lt hi') 12 hk2).mono ?_
          rintro e w3 ⟨rfl, hr3, F3⟩
          go_wp2
          refine bodyPost_ret (v := .bool false) (by simp [results, go_sem]) rfl ⟨_, R_body_er (hR.out _ (R_temps_bad hk1 hk2)) hk, ⟨rfl, (M2.fr F3 hqp hAp).z, _, hr3⟩, F02.trans (F3.low G2.hB) (Nat.le_refl _)⟩
  · go_wp2_with fail
    refine (skip_no h (S.lt hi) 12 hk).mono ?_
    rintro e w1 ⟨rfl, hr1, F1⟩
    replace M := M.fr F1 hqp hAp
    have G1 := G.up F1.size
    have F01 := F1.low G.hB
    clear h F1
    go_wp2_with fail
    refine (H i (Nat.le_refl _) hi w1 p q B A x0 G1 M h1 h3 hr1).mono ?_
    rintro e w4 ⟨r, hr, ha, F4⟩
    have hb := R_body_plain hr hk
    have F04 := F01.trans F4 (Nat.le_refl _)
    cases r with
    | er j c =>
      obtain ⟨rfl, hz, d', h4⟩ := ha
      go_wp2
      refine bodyPost_ret (v := .bool false) (by simp [results, go_sem]) rfl ⟨_, hb, ⟨rfl, hz, d', h4⟩, F04⟩
    | ok y j =>
      obtain ⟨rfl, hz, h4⟩ := ha
      go_wp2
      refine bodyPost_ret (v := .bool true) (by simp [results, go_sem]) rfl ⟨_, hb, ⟨rfl, hz, h4⟩, F04⟩

end Go.Proofs.YtncfmhlikmibaaaGreatDoor
