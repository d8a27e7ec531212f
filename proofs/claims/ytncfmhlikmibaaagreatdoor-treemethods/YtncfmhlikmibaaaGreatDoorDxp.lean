/- The document's parser: expression. -/
import Derived.Test.YtncfmhlikmibaaaGreatDoorDmk
import Derived.Test.YtncfmhlikmibaaaGreatDoorDsn
import Derived.Test.YtncfmhlikmibaaaGreatDoorDbs
import Derived.Test.YtncfmhlikmibaaaGreatDoorExp
namespace Go.Proofs.YtncfmhlikmibaaaGreatDoor
open Go.RowKit
set_option maxRecDepth 100000
set_option maxHeartbeats 16000000
theorem dmsg_bad {W : List Tk} {E : Nat} (S : Src W E) {n0 d : Nat} (hi : n0 < W.length) (hk1 : kdW W n0 ≠ 1) (hk3 : kdW W n0 ≠ 3) (hk2 : kdW W n0 ≠ 2) {w : World} {p : Nat} (h : Pr w p W n0 d 0 0) :
  Calls Tryz.prog 104 #[.pointer (some ⟨p, 0, none⟩)] w fun e w' => ∃ z u iz ez tz, e = .returned u ∧ NdV (fun b => w.heap.size ≤ b) w' z u ∧ z.kids.length ≤ 6000 ∧ Pr w' p W iz d ez tz ∧ iz < W.length ∧ Fr p w.heap.size w w' ∧ Zo0 W n0 d z iz ez tz := by
 have hpl := h.lt
 have htx := S.txt n0
 go_enter Tryz.func104, Tryz.ntmps104
 go_wp2_with (refine Zdn _ rfl rfl ?_)
 intro q w1 E1 hq B1
 replace h := h.bel B1
 go_wp2_with fail
 refine (Zb3 h hi).mono ?_
 rintro e w2 ⟨rfl, B2⟩
 replace h := h.bel B2
 replace E1 := (B2.block _ (lt_of_block E1)).trans E1
 have C := Zab B1 zo B2
 have hl1 := lt_of_block E1
 clear B1 B2
 unfold Zdh
 go_wp2_with (refine Zid _ rfl rfl ?_)
 intro t' w3 E3 ht B3
 go_wp2_with (refine Zgf _ rfl _ _ rfl rfl t' _ _ _ rfl rfl E3 ?_)
 intro w4 E4 S4
 have D4 : Below w2.heap.size w2 w4 := B3.trans (S4.below ht)
 replace h := h.bel D4
 replace E1 := (D4.block _ hl1).trans E1
 replace C := Zab C zo D4
 have hs24 := D4.size
 clear D4 B3 S4 E3
 obtain ⟨y0, y1, y2, yf⟩ := Za1 E4
 go_wp2_with (refine Zb5 rfl rfl rfl 4 rfl rfl rfl (fun _ => rfl) (fun _ => rfl) ?_)
 intro q4 w5 E5 hq4 B5
 replace h := h.bel B5
 replace E1 := (B5.block _ (lt_of_block E1)).trans E1
 replace E4 := (B5.block _ (lt_of_block E4)).trans E4
 replace C := Zab C zo B5
 have hs45 := B5.size
 have B := Below.refl w5.heap.size w5
 have hl5 := lt_of_block E5
 clear B5 y0 y1 y2 yf
 go_wp2_with fail
 refine (Zad (h.bel B) hi 1).mono ?_
 rintro e u ⟨rfl, B'⟩
 replace B := Zab B zo B'
 clear B'
 rw [show (kdW W n0 == 1) = false by simp only [beq_eq_false_iff_ne, ne_eq]; omega]
 go_wp2_with fail
 refine (Zad (h.bel B) hi 3).mono ?_
 rintro e u ⟨rfl, B'⟩
 replace B := Zab B zo B'
 clear B'
 rw [show (kdW W n0 == 3) = false by simp only [beq_eq_false_iff_ne, ne_eq]; omega]
 go_wp2_with fail
 refine (Zad (h.bel B) hi 2).mono ?_
 rintro e u ⟨rfl, B'⟩
 replace B := Zab B zo B'
 clear B'
 rw [show (kdW W n0 == 2) = false by simp only [beq_eq_false_iff_ne, ne_eq]; omega]
 replace h := h.bel B
 replace E1 := (B.block _ (lt_of_block E1)).trans E1
 replace E5 := (B.block _ hl5).trans E5
 replace C := Zab C zo B
 have hsu := B.size
 clear B
 have hC := C.size
 go_wp2_with fail
 refine (Zb6 h hi 20).mono ?_
 rintro e w7 ⟨rfl, h7, F7⟩
 replace E1 := (F7.block _ (lt_of_block E1) (by omega)).trans E1
 replace E5 := (F7.block _ (lt_of_block E5) (by omega)).trans E5
 have F := (Fr.of_below C).thn zo F7
 obtain ⟨z0, z1, z2, z3, z4, z5, zf⟩ := Zac E5
 go_wp2_with (refine Za8 rfl rfl rfl rfl rfl E1 ?_)
 intro wz Ez Sz
 go_wp2
 exact zT 2 (by rfl) (by rfl) (Zau Ez) (by rfl) ⟨Zda [] (psW W n0) [], _, n0, 20, _, rfl, NdV.leaf (t := []) (by simp), Nat.zero_le _, h7.st Sz (by omega), hi, F.trans (Fr.of_below (Sz.below hq)) zo, .inr ⟨by decide, n0, Zlz hk1 hk2 hk3, rfl⟩⟩
theorem Zlo {W : List Tk} {E : Nat} (S : Src W E) {n0 d : Nat} (hi : n0 ≤ E) (HU : n0 < E → Zdk 123 W (.una (n0 + 1) d) (n0 + 1) d) (HB : ∀ j, n0 < j → j ≤ E → Zdk 120 W (.bin j d) j d) : ConM W n0 d := by
 intro w p h
 have hi' := S.lt hi
 have lt : ∀ {q : Qy} {y : Nd} {j : Nat}, q.place + q.asks ≤ E → Zaa W q (.ok y j) → j < W.length := by
  intro q y j hq hr
  have := hr.adv S.ends
  simp only [Adv] at this
  exact S.lt (this hq).2
 by_cases k1 : kdW W n0 = 1
 ·exact Zq4 S hi' k1 (S.ends.lt (by rw [k1]; decide)) h
 by_cases k3 : kdW W n0 = 3
 ·have hl : n0 < E := S.ends.lt (by rw [k3]; decide)
  exact Zq3 S hi' k3 (fun p => (HU hl).v (fun y j hr => lt (by simp only [Qy.place, Qy.asks]; omega) hr)) h
 by_cases k2 : kdW W n0 = 2
 ·exact Zq5 S hi' k2 (fun j h1 h2 p => (HB j h1 h2).v (fun y j hr => lt (by simp only [Qy.place, Qy.asks]; omega) hr)) h
 exact dmsg_bad S hi' k1 k3 k2 h
theorem Zon {W : List Tk} (HD : Zdj 102 W) : Zdj 81 W := by
 intro w p n0 d c t h hi hc
 have hpl := h.lt
 go_enter Tryz.func81, Tryz.ntmps81
 go_wp2_with (refine Zdn _ rfl rfl ?_)
 intro q w1 E1 hq B1
 replace h := h.bel B1
 have hl1 := lt_of_block E1
 go_wp2_with fail
 refine (Zax h hi hc 8).mono ?_
 rintro e w2 ⟨rfl, B2⟩
 replace h := h.bel B2
 replace E1 := (B2.block _ hl1).trans E1
 have C := Zab B1 zo B2
 have hs12 := B2.size
 clear B1 B2
 obtain ⟨b0, off0, cc, c0, c1, c2, c3, c4, cf⟩ := h.cells
 go_wp2_with fail
 clear c0 c1 c2 c3 c4 cf
 refine (HD w2 p n0 d c t h hi hc).mono ?_
 rintro e w3 ⟨v, rfl, hv, B3⟩
 replace h := h.bel B3
 replace E1 := (B3.block _ (lt_of_block E1)).trans E1
 replace C := Zab C zo B3
 have hs23 := B3.size
 have hl13 := lt_of_block E1
 clear B3
 obtain ⟨na, nc, ka, kc, _, rfl, _⟩ := NdV.parts hv
 go_wp2_with (refine Zb5 rfl rfl rfl 5 rfl rfl rfl (fun _ => rfl) (fun _ => rfl) ?_)
 intro q5 w4 E4 hq5 B4
 replace h := h.bel B4
 replace E1 := (B4.block _ hl13).trans E1
 replace hv := hv.bel B4
 replace C := Zab C zo B4
 have hs34 := B4.size
 clear B4
 go_wp2_with fail
 refine (Zax h hi hc 15).mono ?_
 rintro e w5 ⟨rfl, B5⟩
 replace E1 := (B5.block _ (lt_of_block E1)).trans E1
 replace E4 := (B5.block _ (lt_of_block E4)).trans E4
 replace hv := hv.bel B5
 replace C := Zab C zo B5
 obtain ⟨z0, z1, z2, z3, z4, z5, _⟩ := Zac E4
 go_wp2_with (refine Za8 rfl rfl rfl rfl rfl E1 ?_)
 intro wz Ez Sz
 go_wp2
 exact zT 2 (by rfl) (by rfl) (Zau Ez) (by rfl) ⟨_, rfl, NdV.out hv Sz (by omega) (by omega), C.trans (Sz.below hq)⟩
theorem Pr.words {w : World} {p : Nat} {W : List Tk} {i d t : Nat} {e : Int} (h : Pr w p W i d e t) : ∃ b off c, w.cell? ⟨p, 0, none⟩ = some (.slice (some ⟨b, off, none⟩) W.length c) ∧ w.cell? ⟨p, 1, none⟩ = some (.int .i64 (i : Int)) ∧ ∀ k, k < W.length → w.cell? ⟨b, off + k * 3, none⟩ = some (.int .i64 (kdW W k)) := by
 obtain ⟨b, off, c, h1, _, h3⟩ := h.ex
 refine ⟨b, off, c, (Zdw h1).1, (Zdw h1).2.1, fun k hk => ?_⟩
 obtain ⟨b', off', e', hcs⟩ := h3.cells (by omega)
 simp only [Option.some.injEq, Addr.mk.injEq, and_true] at e'
 obtain ⟨rfl, rfl⟩ := e'
 exact (hcs k hk).1
theorem Zk0 {w : World} {p : Nat} {W : List Tk} {z d t a : Nat} {c : Int} (h : Pr w p W z d c t) (hz : z < W.length) (ha : a ≤ z) (hs : z ≤ 5000) :
  Calls Tryz.prog 103 #[.pointer (some ⟨p, 0, none⟩), .int .i64 (a : Int)] w fun e w' => e = .returned (.bool (whF W z (z - a) a 0)) ∧ w' = w := by
 obtain ⟨b, off, cc, c0, c1, hk⟩ := h.words
 have hwz : IntKind.i64.wrap ((z : Int) - 1) = (z : Int) - 1 := by rw [IntKind.wrap_i64]; omega
 go_enter Tryz.func103, Tryz.ntmps103
 go_wp2_with fail
 go_loop [5, 6] (fun n i => ∃ (k : Nat) (m : Int), a ≤ k ∧ k ≤ z ∧ n = .int .i64 m ∧ i = .int .i64 (k : Int) ∧ -(k : Int) ≤ m ∧ m ≤ (k : Int) ∧ Hid (whF W z (z - a) a 0 = whF W z (z - k) k m)) (fun _ i => z - (intOf i).toNat)
 case atStart => exact ⟨a, 0, zo, ha, rfl, rfl, by omega, by omega, rfl⟩
 obtain ⟨k, m, hak, hkz, rfl, rfl, hm1, hm2, hR⟩ := hrel
 have hwk : IntKind.i64.wrap ((k : Int) + 1) = (k : Int) + 1 := by rw [IntKind.wrap_i64]; omega
 have hwm : IntKind.i64.wrap (m + 1) = m + 1 := by rw [IntKind.wrap_i64]; omega
 have hwn : IntKind.i64.wrap (m - 1) = m - 1 := by rw [IntKind.wrap_i64]; omega
 rcases Nat.lt_or_ge k z with hlt | hge
 ·have hl : ((k : Int) < (z : Int)) := by omega
  have hkI : (k : Int) < (W.length : Int) := by omega
  have hk0 : (0 : Int) ≤ (k : Int) := by omega
  have k0 := hk k (by omega)
  have hst : whF W z (z - k) k m = if m + wt (kdW W k) = 0 then decide (k + 1 = z) else whF W z (z - (k + 1)) (k + 1) (m + wt (kdW W k)) := by
   obtain ⟨f, hf⟩ : ∃ f, z - k = f + 1 := ⟨z - k - 1, by omega⟩
   rw [hf, show z - (k + 1) = f by omega]
   rfl
  generalize hkd : kdW W k = kd at *
  have hz1 : ((k : Int) == (z : Int) - 1) = decide (k + 1 = z) := by
   by_cases h : k + 1 = z
   ·rw [decide_eq_true h]; simp; omega
   rw [decide_eq_false h]; simp; omega
  by_cases h8 : kd = 8
  ·subst h8
   rw [show wt 8 = 1 from by decide] at hst
   by_cases h0 : m + 1 = 0
   ·have hb0 : (m + 1 == 0) = true := by simp [h0]
    rw [if_pos h0] at hst
    have hf : Hid (whF W z (z - a) a 0 = decide (k + 1 = z)) := hR.out.trans hst
    clear hst hR
    go_wp2
    go_ret
    exact ⟨by rw [hf.out]; rfl, rfl⟩
   have hb0 : (m + 1 == 0) = false := by simp [h0]
   rw [if_neg h0] at hst
   have hf : Hid (whF W z (z - a) a 0 = whF W z (z - (k + 1)) (k + 1) (m + 1)) := hR.out.trans hst
   clear hst hR
   go_wp2
   go_round
   case rel => exact ⟨k + 1, m + 1, by omega, by omega, rfl, by go_num, by omega, by omega, hf.out⟩
   case measure => simp [intOf]; omega
  by_cases h17 : kd = 17
  ·subst h17
   rw [show wt 17 = 1 from by decide] at hst
   by_cases h0 : m + 1 = 0
   ·have hb0 : (m + 1 == 0) = true := by simp [h0]
    rw [if_pos h0] at hst
    have hf : Hid (whF W z (z - a) a 0 = decide (k + 1 = z)) := hR.out.trans hst
    clear hst hR
    go_wp2
    go_ret
    exact ⟨by rw [hf.out]; rfl, rfl⟩
   have hb0 : (m + 1 == 0) = false := by simp [h0]
   rw [if_neg h0] at hst
   have hf : Hid (whF W z (z - a) a 0 = whF W z (z - (k + 1)) (k + 1) (m + 1)) := hR.out.trans hst
   clear hst hR
   go_wp2
   go_round
   case rel => exact ⟨k + 1, m + 1, by omega, by omega, rfl, by go_num, by omega, by omega, hf.out⟩
   case measure => simp [intOf]; omega
  by_cases h9 : kd = 9
  ·subst h9
   rw [show wt 9 = -1 from by decide] at hst
   by_cases h0 : m - 1 = 0
   ·have hb0 : (m - 1 == 0) = true := by simp [h0]
    rw [if_pos (by omega)] at hst
    have hf : Hid (whF W z (z - a) a 0 = decide (k + 1 = z)) := hR.out.trans hst
    clear hst hR
    go_wp2
    go_ret
    exact ⟨by rw [hf.out]; rfl, rfl⟩
   have hb0 : (m - 1 == 0) = false := by simp [h0]
   rw [if_neg (by omega)] at hst
   have hf : Hid (whF W z (z - a) a 0 = whF W z (z - (k + 1)) (k + 1) (m - 1)) := hR.out.trans (by rw [hst, ← Int.sub_eq_add_neg])
   clear hst hR
   go_wp2
   go_round
   case rel => exact ⟨k + 1, m - 1, by omega, by omega, rfl, by go_num, by omega, by omega, hf.out⟩
   case measure => simp [intOf]; omega
  have b8 : (kd == 8) = false := by simp [h8]
  have b17 : (kd == 17) = false := by simp [h17]
  have b9 : (kd == 9) = false := by simp [h9]
  rw [show wt kd = 0 from by simp [wt, h8, h17, h9]] at hst
  by_cases h0 : m = 0
  ·have hb0 : (m == 0) = true := by simp [h0]
   rw [if_pos (by omega)] at hst
   have hf : Hid (whF W z (z - a) a 0 = decide (k + 1 = z)) := hR.out.trans hst
   clear hst hR
   go_wp2
   go_ret
   exact ⟨by rw [hf.out]; rfl, rfl⟩
  have hb0 : (m == 0) = false := by simp [h0]
  rw [if_neg (by omega)] at hst
  have hf : Hid (whF W z (z - a) a 0 = whF W z (z - (k + 1)) (k + 1) (m)) := hR.out.trans (by rw [hst, Int.add_zero])
  clear hst hR
  go_wp2
  go_round
  case rel => exact ⟨k + 1, m, by omega, by omega, rfl, by go_num, by omega, by omega, hf.out⟩
  case measure => simp [intOf]; omega
 have hl : ¬ ((k : Int) < (z : Int)) := by omega
 have hf : Hid (whF W z (z - a) a 0 = false) := hR.out.trans (by rw [show z - k = 0 by omega]; rfl)
 clear hR
 go_wp2
 go_ret
 exact ⟨by rw [hf.out]; rfl, rfl⟩
theorem casc_two {W : List Tk} {E : Nat} (hE : Zim W E) {n0 d : Nat} {y : Nd} {k tk : Nat} (hi : n0 ≤ E) (h : KeyR W n0 d y k 0 tk) : (Zaa W (.prim n0 d) (.ok y k) ∧ (y.kind ≠ 7 ∨ (kdW W n0 = 8 ∧ whF W k (k - n0) n0 0 = true))) ∨ (y.kind = 7 ∧ (kdW W n0 = 8 → whF W k (k - n0) n0 0 = false) ∧ ∃ x j, Zaa W (.prim n0 d) (.ok x j) ∧ Zaa W (.keyOf j d x) (.ok y k) ∧ j ≠ k) := by
 rcases h with ⟨_, _, x, j, r1, r2⟩ | ⟨h, _⟩
 ·have hadv := r1.adv hE
  simp only [Adv, Qy.place, Qy.takes, Qy.asks] at hadv
  have hj := hadv (by omega)
  rcases Zn8 hE r2 hj.2 with ⟨rfl, rfl⟩ | ⟨h7, hlt⟩
  ·refine .inl ⟨r1, ?_⟩
   by_cases h8 : kdW W n0 = 8
   ·exact .inr ⟨h8, by rw [Zip r1 h8 zo]; simp⟩
   exact .inl (Zp0 r1 h8)
  exact .inr ⟨h7, fun h8 => by rw [Zip r1 h8 (Nat.le_of_lt hlt)]; simp; omega, x, j, r1, r2, by omega⟩
 exact absurd rfl h
theorem Zq9 {W : List Tk} {E : Nat} (S : Src W E) {n0 d : Nat} (hi : n0 ≤ E) (H : ConKy W n0 d) (hno : ∀ y k tk, KeyR W n0 d y k 0 tk → kdW W k = 15 → Zaa W (.prim n0 d) (.ok y k) ∧ (y.kind ≠ 7 ∨ (kdW W n0 = 8 ∧ whF W k (k - n0) n0 0 = true))) : Zdk 81 W (.casc n0 d) n0 d := by
 intro w p h
 have hpl := h.lt
 go_enter Tryz.func81, Tryz.ntmps81
 go_wp2_with (refine Zdn _ rfl rfl ?_)
 intro q w1 E1 hq B1
 replace h := h.bel B1
 have hl1 := lt_of_block E1
 go_wp2_with fail
 refine (Zad h (S.lt hi) 8).mono ?_
 rintro e w2 ⟨rfl, B2⟩
 replace h := h.bel B2
 replace E1 := (B2.block _ hl1).trans E1
 have C := Zab B1 zo B2
 have hs12 := B2.size
 clear B1 B2
 obtain ⟨b0, off0, cc, c0, c1, c2, c3, c4, cf⟩ := h.cells
 go_wp2_with fail
 clear c0 c1 c2 c3 c4 cf
 refine (H w2 p h).mono ?_
 rintro e w3 ⟨y, v, k, ek, tk, rfl, hv, h3, hk, F3, hK⟩
 replace E1 := (F3.block _ (lt_of_block E1) (by omega)).trans E1
 have F := (Fr.of_below C).thn zo F3
 have hs23 := F3.size
 have hl13 := lt_of_block E1
 clear F3 C h
 obtain ⟨na, nc, ka, kc, _, rfl, _⟩ := NdV.parts hv
 go_wp2_with (refine Zb5 rfl rfl rfl 5 rfl rfl rfl (fun _ => rfl) (fun _ => rfl) ?_)
 intro q5 w4 E4 hq5 B4
 replace h3 := h3.bel B4
 replace E1 := (B4.block _ hl13).trans E1
 replace hv := hv.bel B4
 replace F := F.thn zo (Fr.of_below B4)
 have hs34 := B4.size
 clear B4
 by_cases hc15 : ek = 0 ∧ kdW W k = 15
 ·skip
  obtain ⟨rfl, h15⟩ := hc15
  obtain ⟨hr, hy⟩ := hno y k tk hK h15
  have hbad : Hid (Zaa W (.casc n0 d) (.er k 20)) := by
   rcases hK with ⟨_, _, x, j, r1, r2⟩ | ⟨h, _⟩
   ·have := r1.det hr
    simp only [Rs.ok.injEq] at this
    obtain ⟨rfl, rfl⟩ := this
    exact Zjz r1 r2 h15
   exact absurd rfl h
  have hadv := hr.adv S.ends
  simp only [Adv, Qy.place, Qy.takes, Qy.asks] at hadv
  have hnk : n0 ≤ k := by
   rcases Nat.lt_or_ge n0 E with h | h
   ·have := hadv (by omega); omega
   obtain rfl : n0 = E := by omega
   have := hadv (by omega); omega
  have hk5 : k ≤ 5000 := by have := S.small; have := S.ends.len; omega
  have htk : tk = tk := rfl
  go_wp2_with fail
  refine (Zad (h3.pos rfl) hk 15).mono ?_
  rintro e w5 ⟨rfl, B5⟩
  rw [show (kdW W k == 15) = true by simp [h15]]
  replace h3 := h3.bel B5
  replace E1 := (B5.block _ (lt_of_block E1)).trans E1
  replace E4 := (B5.block _ (lt_of_block E4)).trans E4
  replace hv := hv.bel B5
  replace F := F.thn zo (Fr.of_below B5)
  have hs45 := B5.size
  clear B5 hK hno
  by_cases h7 : y.kind = 7
  ·have h8 : kdW W n0 = 8 ∧ whF W k (k - n0) n0 0 = true := hy.elim (fun h => absurd h7 h) id
   have h7b : (y.kind != 7) = false := by simp [h7]
   rw [show (kdW W n0 == 8) = true by simp [h8.1]]
   obtain ⟨b, off, cc, c0, c1, hkw⟩ := h3.words
   have k0 := hkw n0 (by omega)
   rw [h8.1] at k0
   have hw := h8.2
   have hnI : (n0 : Int) < (W.length : Int) := by omega
   have hn0 : (0 : Int) ≤ (n0 : Int) := by omega
   obtain ⟨z0, z1, z2, z3, z4, z5, _⟩ := Zac E4
   clear hkw hy h8 hr h7
   go_wp2_with fail
   refine (Zk0 h3 hk hnk hk5).mono ?_
   rintro e w6 ⟨rfl, rfl⟩
   rw [hw]
   clear c0 c1 k0 z0 z1 z2 z3 z4 z5 hw
   obtain ⟨z0, z1, z2, z3, z4, z5, _⟩ := Zac E4
   go_wp2_with fail
   refine (Zb6 h3 hk 20).mono ?_
   rintro e w7 ⟨rfl, h7, F7⟩
   have hs7 := F7.size
   replace E1 := (F7.block _ (lt_of_block E1) (by omega)).trans E1
   replace E4 := (F7.block _ (lt_of_block E4) (by omega)).trans E4
   replace hv := NdB.fr (B := w2.heap.size) hv F7 (by omega)
   replace F := F.thn zo F7
   clear z0 z1 z2 z3 z4 z5
   obtain ⟨z0, z1, z2, z3, z4, z5, _⟩ := Zac E4
   go_wp2_with (refine Za8 rfl rfl rfl rfl rfl E1 ?_)
   intro wz Ez Sz
   go_wp2
   have hvo := NdV.out (B0 := w.heap.size) (hv : NdV (fun b => w2.heap.size ≤ b) _ _ _) Sz (by omega) (by omega)
   exact zT 2 (by rfl) (by rfl) (Zau Ez) (by rfl) ⟨_, hbad.out, ⟨_, _, _, rfl, hvo, h7.st Sz (by omega), hk, by decide⟩, F.trans (Fr.of_below (Sz.below hq)) zo⟩
  have h7b : (y.kind != 7) = true := by simp [h7]
  clear hy hr
  obtain ⟨z0, z1, z2, z3, z4, z5, _⟩ := Zac E4
  go_wp2_with fail
  refine (Zb6 h3 hk 20).mono ?_
  rintro e w7 ⟨rfl, h7, F7⟩
  have hs7 := F7.size
  replace E1 := (F7.block _ (lt_of_block E1) (by omega)).trans E1
  replace E4 := (F7.block _ (lt_of_block E4) (by omega)).trans E4
  replace hv := NdB.fr (B := w2.heap.size) hv F7 (by omega)
  replace F := F.thn zo F7
  clear z0 z1 z2 z3 z4 z5
  obtain ⟨z0, z1, z2, z3, z4, z5, _⟩ := Zac E4
  go_wp2_with (refine Za8 rfl rfl rfl rfl rfl E1 ?_)
  intro wz Ez Sz
  go_wp2
  have hvo := NdV.out (B0 := w.heap.size) (hv : NdV (fun b => w2.heap.size ≤ b) _ _ _) Sz (by omega) (by omega)
  exact zT 2 (by rfl) (by rfl) (Zau Ez) (by rfl) ⟨_, hbad.out, ⟨_, _, _, rfl, hvo, h7.st Sz (by omega), hk, by decide⟩, F.trans (Fr.of_below (Sz.below hq)) zo⟩
 have hcall : Calls Tryz.prog 45 #[.pointer (some ⟨p, 0, none⟩), .int .i64 15] w4 fun e w' => e = .returned (.bool false) ∧ Below w4.heap.size w4 w' := by
  by_cases he : ek = 0
  ·subst he
   have := Zad h3 hk 15
   rwa [show (kdW W k == 15) = false by simp only [beq_eq_false_iff_ne, ne_eq]; exact fun h15 => hc15 ⟨rfl, h15⟩] at this
  exact Zax h3 hk he 15
 go_wp2_with fail
 refine hcall.mono ?_
 rintro e w5 ⟨rfl, B5⟩
 replace h3 := h3.bel B5
 replace E1 := (B5.block _ (lt_of_block E1)).trans E1
 replace E4 := (B5.block _ (lt_of_block E4)).trans E4
 replace hv := hv.bel B5
 replace F := F.thn zo (Fr.of_below B5)
 clear hcall B5
 obtain ⟨z0, z1, z2, z3, z4, z5, _⟩ := Zac E4
 go_wp2_with (refine Za8 rfl rfl rfl rfl rfl E1 ?_)
 intro wz Ez Sz
 go_wp2
 have hvo := NdV.out (B0 := w.heap.size) hv Sz (by omega) (by omega)
 have hzz := h3.st Sz (by omega)
 have hFF := F.trans (Fr.of_below (Sz.below hq)) zo
 rcases hK with ⟨rfl, rfl, x, j, r1, r2⟩ | ⟨he, m, rfl, r⟩
 ·exact zT 2 (by rfl) (by rfl) (Zau Ez) (by rfl) ⟨_, Zl5 r1 r2 (fun h15 => hc15 ⟨rfl, h15⟩), ⟨_, rfl, hvo, hzz⟩, hFF⟩
 rcases r with r1 | ⟨x, j, r1, r2⟩
 ·exact zT 2 (by rfl) (by rfl) (Zau Ez) (by rfl) ⟨_, Zf0 r1, ⟨_, _, _, rfl, hvo, hzz, hk, he⟩, hFF⟩
 exact zT 2 (by rfl) (by rfl) (Zau Ez) (by rfl) ⟨_, Zjy r1 r2, ⟨_, _, _, rfl, hvo, hzz, hk, he⟩, hFF⟩
def Zfj (p : Nat) (j : Nat) : Value :=
 ([.pointer (some ⟨p, 0, none⟩),
  .bool false,
  .bool false,
  undef,
  undef,
  undef,
  undef,
  undef,
  undef,
  undef,
  undef,
  undef,
  undef,
  undef,
  undef,
  undef,
  .bool false] : List Value).getD j undef
theorem Zi6 {W : List Tk} (HD : Zdj 81 W) : Zdj 49 W := by
 intro w p n0 d c t h hi hc
 have hpl := h.lt
 go_enter Tryz.func49, Tryz.ntmps49
 go_wp2_with (refine Zdn _ rfl rfl ?_)
 intro q w1 E1 hq B1
 replace h := h.bel B1
 have hl1 := lt_of_block E1
 have hcall : ∀ w', Pr w' p W n0 d c t → Calls Tryz.prog 45 #[.pointer (some ⟨p, 0, none⟩), .int .i64 1] w' fun e w'' => e = .returned (.bool false) ∧ Below w'.heap.size w' w'' := fun w' h' => Zax h' hi hc 1
 have h1d : Pr w1.drew p W n0 d c t := h.drewP
 have B1d : Below w1.heap.size w1 w1.drew := (Below.refl _ _).drew
 go_wp2_with fail
 refine Zah fun A hA => ?_
 have hsz : A.tmps.size = 48 := by rw [hA]; rfl
 have s0 : A.tmps[0]? = some (.pointer (some ⟨p, 0, none⟩)) := by rw [hA]; rfl
 refine Zcc (fun A D a w' => ∃ (l : List Value), a = Zaj A 5 l ∧ l.length = 17 ∧ (∀ j, j < 17 → D j → l[j]? = some (Zfj p j)) ∧ (D 1 ∨ (Pr w' p W n0 d c t ∧ Below w1.heap.size w1 w')) ∧ (D 1 → (Pr w' p W n0 d c t ∧ Below w1.heap.size w1 w'))) (by kernel_rfl) (by kernel_rfl) ?mono ?start ?step ?done
 case mono =>
  rintro D D' a w' hD ⟨l, ha, Lh, hl, hN, hL⟩
  exact ⟨l, ha, Lh, fun j hj h => hl j hj ((hD j).2 h), hN.imp_left (hD 1).1, fun h => hL ((hD 1).2 h)⟩
 case start => exact ⟨_, zS 5 17 hsz, zG 5 17 hsz, zK, .inr (⟨h1d, B1d⟩), zf⟩
 case step =>
  clear hA
  intro i o ho D a w' hI hn hcl hd
  obtain ⟨l, ha, Lh, hl, hN, hL⟩ := hI
  match i, ho with
  | 0, ho =>
   cases zq ho
   refine .inl ⟨rfl, ?_⟩
   exact zm (zu 0 ha Lh hsz s0) ⟨_, zp 0 ha Lh hsz, zh Lh, zk Lh hl, zl hN, zr hL⟩
  | 1, ho =>
   cases zq ho
   refine .inl ⟨rfl, ?_⟩
   have ev : a.tmps[5]? = some (.pointer (some ⟨p, 0, none⟩)) := zv ha hsz Lh hl 0 hd
   have hN6 := hN.resolve_left hn
   refine Zan (f := 45) (args := #[.pointer (some ⟨p, 0, none⟩), .int .i64 1]) (by simp [execOp, ev, go_sem]) ?_
   refine (hcall w' hN6.1).mono ?_
   rintro e w6 ⟨rfl, B9⟩
   refine ⟨_, rfl, ?_⟩
   exact ⟨_, zp 1 ha Lh hsz, zh Lh, zk Lh hl, .inl (.inl rfl), fun _ => ⟨hN6.1.bel B9, hN6.2.trans (B9.mono hN6.2.size)⟩⟩
  | 2, ho =>
   cases zq ho
   refine .inl ⟨rfl, ?_⟩
   have ev : a.tmps[6]? = some (.bool false) := zv ha hsz Lh hl 1 hd
   exact zx (.bool false) (by simp [execOp, ev, go_sem]) ⟨_, zp 2 ha Lh hsz, zh Lh, zk Lh hl, zl hN, zr hL⟩
  | 3, ho =>
   cases zq ho
   refine .inr ⟨Zak (k := 7) rfl rfl rfl (Zag ha hsz Lh hl 2 (by decide) (zg hd 2)) (by simp [Zfj, undef]), ?_⟩
   exact ⟨_, zp 3 ha Lh hsz, zh Lh, zk Lh hl, zl hN, zr hL⟩
  | 4, ho =>
   cases zq ho
   refine .inr ⟨Zak (k := 7) rfl rfl rfl (Zag ha hsz Lh hl 2 (by decide) (zg hd 2)) (by simp [Zfj, undef]), ?_⟩
   exact ⟨_, zp 4 ha Lh hsz, zh Lh, zk Lh hl, zl hN, zr hL⟩
  | 5, ho =>
   cases zq ho
   refine .inr ⟨Zak (k := 7) rfl rfl rfl (Zag ha hsz Lh hl 2 (by decide) (zg hd 2)) (by simp [Zfj, undef]), ?_⟩
   exact ⟨_, zp 5 ha Lh hsz, zh Lh, zk Lh hl, zl hN, zr hL⟩
  | 6, ho =>
   cases zq ho
   refine .inr ⟨Zak (k := 7) rfl rfl rfl (Zag ha hsz Lh hl 2 (by decide) (zg hd 2)) (by simp [Zfj, undef]), ?_⟩
   exact ⟨_, zp 6 ha Lh hsz, zh Lh, zk Lh hl, zl hN, zr hL⟩
  | 7, ho =>
   cases zq ho
   refine .inr ⟨Zak (k := 7) rfl rfl rfl (Zag ha hsz Lh hl 2 (by decide) (zg hd 2)) (by simp [Zfj, undef]), ?_⟩
   exact ⟨_, zp 7 ha Lh hsz, zh Lh, zk Lh hl, zl hN, zr hL⟩
  | 8, ho =>
   cases zq ho
   refine .inr ⟨Zak (k := 7) rfl rfl rfl (Zag ha hsz Lh hl 2 (by decide) (zg hd 2)) (by simp [Zfj, undef]), ?_⟩
   exact ⟨_, zp 8 ha Lh hsz, zh Lh, zk Lh hl, zl hN, zr hL⟩
  | 9, ho =>
   cases zq ho
   refine .inr ⟨Zak (k := 7) rfl rfl rfl (Zag ha hsz Lh hl 2 (by decide) (zg hd 2)) (by simp [Zfj, undef]), ?_⟩
   exact ⟨_, zp 9 ha Lh hsz, zh Lh, zk Lh hl, zl hN, zr hL⟩
  | 10, ho =>
   cases zq ho
   refine .inr ⟨Zak (k := 7) rfl rfl rfl (Zag ha hsz Lh hl 2 (by decide) (zg hd 2)) (by simp [Zfj, undef]), ?_⟩
   exact ⟨_, zp 10 ha Lh hsz, zh Lh, zk Lh hl, zl hN, zr hL⟩
  | 11, ho =>
   cases zq ho
   refine .inr ⟨Zak (k := 7) rfl rfl rfl (Zag ha hsz Lh hl 2 (by decide) (zg hd 2)) (by simp [Zfj, undef]), ?_⟩
   exact ⟨_, zp 11 ha Lh hsz, zh Lh, zk Lh hl, zl hN, zr hL⟩
  | 12, ho =>
   cases zq ho
   refine .inr ⟨Zak (k := 7) rfl rfl rfl (Zag ha hsz Lh hl 2 (by decide) (zg hd 2)) (by simp [Zfj, undef]), ?_⟩
   exact ⟨_, zp 12 ha Lh hsz, zh Lh, zk Lh hl, zl hN, zr hL⟩
  | 13, ho =>
   cases zq ho
   refine .inr ⟨Zak (k := 7) rfl rfl rfl (Zag ha hsz Lh hl 2 (by decide) (zg hd 2)) (by simp [Zfj, undef]), ?_⟩
   exact ⟨_, zp 13 ha Lh hsz, zh Lh, zk Lh hl, zl hN, zr hL⟩
  | 14, ho =>
   cases zq ho
   refine .inr ⟨Zak (k := 7) rfl rfl rfl (Zag ha hsz Lh hl 2 (by decide) (zg hd 2)) (by simp [Zfj, undef]), ?_⟩
   exact ⟨_, zp 14 ha Lh hsz, zh Lh, zk Lh hl, zl hN, zr hL⟩
  | 15, ho =>
   cases zq ho
   refine .inr ⟨Zak (k := 7) rfl rfl rfl (Zag ha hsz Lh hl 2 (by decide) (zg hd 2)) (by simp [Zfj, undef]), ?_⟩
   exact ⟨_, zp 15 ha Lh hsz, zh Lh, zk Lh hl, zl hN, zr hL⟩
  | 16, ho =>
   cases zq ho
   refine .inl ⟨rfl, ?_⟩
   have ev : a.tmps[7]? = some (.bool false) := zv ha hsz Lh hl 2 hd
   exact zx (.bool false) (by simp [execOp, ev, go_sem]) ⟨_, zp 16 ha Lh hsz, zh Lh, zk Lh hl, zl hN, zr hL⟩
  | i + 17, ho => simp at ho
 rintro D a w' ⟨l, ha, Lh, hl, hN, hL⟩ hall
 obtain ⟨v0, v1, v2, v3, v4, v5, v6, v7, v8, v9, v10, v11, v12, v13, v14, v15, v16, rfl⟩ := zL17 Lh
 have hL6 := hL (hall 1 (by decide))
 have hz := hl 16 (by decide) (hall 16 (by decide))
 simp only [List.getElem?_cons_succ, List.getElem?_cons_zero, Option.some.injEq] at hz
 have hz' : v16 = .bool false := hz
 subst hz'
 subst hA
 have hfr : a = _ := ha
 rw [hfr]
 clear hfr ha
 simp only [Zaj, yA, yB, yC, yD, yE, yF, yG, yH]
 clear hl hN hL hall
 replace E1 := (hL6.2.block _ hl1).trans E1
 have C := Zab B1 zo hL6.2
 have hsz6 := hL6.2.size
 replace h := hL6.1
 clear hL6 B1
 go_wp2_with fail
 refine (HD w' p n0 d c t h hi hc).mono ?_
 rintro e w7 ⟨v, rfl, hv, B7⟩
 replace E1 := (B7.block _ (lt_of_block E1)).trans E1
 obtain ⟨na, nc, ka, kc, _, rfl, _⟩ := NdV.parts hv
 go_wp2_with (refine Za8 rfl rfl rfl rfl rfl E1 ?_)
 intro wz Ez Sz
 go_wp2
 exact zT 2 (by rfl) (by rfl) (Zau Ez) (by rfl) ⟨_, rfl, NdV.out hv Sz (by omega) (by omega), (Zab C zo B7).trans (Sz.below hq)⟩
theorem Zmo {W : List Tk} {n0 d : Nat} (hi : n0 < W.length) (hk : kdW W n0 ≠ 1) (H : Zdk 81 W (.casc n0 d) n0 d) : Zdk 49 W (.expr n0 d) n0 d := by
 intro w p h
 have hpl := h.lt
 go_enter Tryz.func49, Tryz.ntmps49
 go_wp2_with (refine Zdn _ rfl rfl ?_)
 intro q w1 E1 hq B1
 replace h := h.bel B1
 have hl1 := lt_of_block E1
 have hcall : ∀ w', Pr w' p W n0 d 0 0 → Calls Tryz.prog 45 #[.pointer (some ⟨p, 0, none⟩), .int .i64 1] w' fun e w'' => e = .returned (.bool false) ∧ Below w'.heap.size w' w'' := by
  intro w' h'
  have := Zad h' hi 1
  rwa [show (kdW W n0 == 1) = false by simp [hk]] at this
 have h1d : Pr w1.drew p W n0 d 0 0 := h.drewP
 have B1d : Below w1.heap.size w1 w1.drew := (Below.refl _ _).drew
 go_wp2_with fail
 refine Zah fun A hA => ?_
 have hsz : A.tmps.size = 48 := by rw [hA]; rfl
 have s0 : A.tmps[0]? = some (.pointer (some ⟨p, 0, none⟩)) := by rw [hA]; rfl
 refine Zcc (fun A D a w' => ∃ (l : List Value), a = Zaj A 5 l ∧ l.length = 17 ∧ (∀ j, j < 17 → D j → l[j]? = some (Zfj p j)) ∧ (D 1 ∨ (Pr w' p W n0 d 0 0 ∧ Below w1.heap.size w1 w')) ∧ (D 1 → (Pr w' p W n0 d 0 0 ∧ Below w1.heap.size w1 w'))) (by kernel_rfl) (by kernel_rfl) ?mono ?start ?step ?done
 case mono =>
  rintro D D' a w' hD ⟨l, ha, Lh, hl, hN, hL⟩
  exact ⟨l, ha, Lh, fun j hj h => hl j hj ((hD j).2 h), hN.imp_left (hD 1).1, fun h => hL ((hD 1).2 h)⟩
 case start => exact ⟨_, zS 5 17 hsz, zG 5 17 hsz, zK, .inr (⟨h1d, B1d⟩), zf⟩
 case step =>
  clear hA
  intro i o ho D a w' hI hn hcl hd
  obtain ⟨l, ha, Lh, hl, hN, hL⟩ := hI
  match i, ho with
  | 0, ho =>
   cases zq ho
   refine .inl ⟨rfl, ?_⟩
   exact zm (zu 0 ha Lh hsz s0) ⟨_, zp 0 ha Lh hsz, zh Lh, zk Lh hl, zl hN, zr hL⟩
  | 1, ho =>
   cases zq ho
   refine .inl ⟨rfl, ?_⟩
   have ev : a.tmps[5]? = some (.pointer (some ⟨p, 0, none⟩)) := zv ha hsz Lh hl 0 hd
   have hN6 := hN.resolve_left hn
   refine Zan (f := 45) (args := #[.pointer (some ⟨p, 0, none⟩), .int .i64 1]) (by simp [execOp, ev, go_sem]) ?_
   refine (hcall w' hN6.1).mono ?_
   rintro e w6 ⟨rfl, B9⟩
   refine ⟨_, rfl, ?_⟩
   exact ⟨_, zp 1 ha Lh hsz, zh Lh, zk Lh hl, .inl (.inl rfl), fun _ => ⟨hN6.1.bel B9, hN6.2.trans (B9.mono hN6.2.size)⟩⟩
  | 2, ho =>
   cases zq ho
   refine .inl ⟨rfl, ?_⟩
   have ev : a.tmps[6]? = some (.bool false) := zv ha hsz Lh hl 1 hd
   exact zx (.bool false) (by simp [execOp, ev, go_sem]) ⟨_, zp 2 ha Lh hsz, zh Lh, zk Lh hl, zl hN, zr hL⟩
  | 3, ho =>
   cases zq ho
   refine .inr ⟨Zak (k := 7) rfl rfl rfl (Zag ha hsz Lh hl 2 (by decide) (zg hd 2)) (by simp [Zfj, undef]), ?_⟩
   exact ⟨_, zp 3 ha Lh hsz, zh Lh, zk Lh hl, zl hN, zr hL⟩
  | 4, ho =>
   cases zq ho
   refine .inr ⟨Zak (k := 7) rfl rfl rfl (Zag ha hsz Lh hl 2 (by decide) (zg hd 2)) (by simp [Zfj, undef]), ?_⟩
   exact ⟨_, zp 4 ha Lh hsz, zh Lh, zk Lh hl, zl hN, zr hL⟩
  | 5, ho =>
   cases zq ho
   refine .inr ⟨Zak (k := 7) rfl rfl rfl (Zag ha hsz Lh hl 2 (by decide) (zg hd 2)) (by simp [Zfj, undef]), ?_⟩
   exact ⟨_, zp 5 ha Lh hsz, zh Lh, zk Lh hl, zl hN, zr hL⟩
  | 6, ho =>
   cases zq ho
   refine .inr ⟨Zak (k := 7) rfl rfl rfl (Zag ha hsz Lh hl 2 (by decide) (zg hd 2)) (by simp [Zfj, undef]), ?_⟩
   exact ⟨_, zp 6 ha Lh hsz, zh Lh, zk Lh hl, zl hN, zr hL⟩
  | 7, ho =>
   cases zq ho
   refine .inr ⟨Zak (k := 7) rfl rfl rfl (Zag ha hsz Lh hl 2 (by decide) (zg hd 2)) (by simp [Zfj, undef]), ?_⟩
   exact ⟨_, zp 7 ha Lh hsz, zh Lh, zk Lh hl, zl hN, zr hL⟩
  | 8, ho =>
   cases zq ho
   refine .inr ⟨Zak (k := 7) rfl rfl rfl (Zag ha hsz Lh hl 2 (by decide) (zg hd 2)) (by simp [Zfj, undef]), ?_⟩
   exact ⟨_, zp 8 ha Lh hsz, zh Lh, zk Lh hl, zl hN, zr hL⟩
  | 9, ho =>
   cases zq ho
   refine .inr ⟨Zak (k := 7) rfl rfl rfl (Zag ha hsz Lh hl 2 (by decide) (zg hd 2)) (by simp [Zfj, undef]), ?_⟩
   exact ⟨_, zp 9 ha Lh hsz, zh Lh, zk Lh hl, zl hN, zr hL⟩
  | 10, ho =>
   cases zq ho
   refine .inr ⟨Zak (k := 7) rfl rfl rfl (Zag ha hsz Lh hl 2 (by decide) (zg hd 2)) (by simp [Zfj, undef]), ?_⟩
   exact ⟨_, zp 10 ha Lh hsz, zh Lh, zk Lh hl, zl hN, zr hL⟩
  | 11, ho =>
   cases zq ho
   refine .inr ⟨Zak (k := 7) rfl rfl rfl (Zag ha hsz Lh hl 2 (by decide) (zg hd 2)) (by simp [Zfj, undef]), ?_⟩
   exact ⟨_, zp 11 ha Lh hsz, zh Lh, zk Lh hl, zl hN, zr hL⟩
  | 12, ho =>
   cases zq ho
   refine .inr ⟨Zak (k := 7) rfl rfl rfl (Zag ha hsz Lh hl 2 (by decide) (zg hd 2)) (by simp [Zfj, undef]), ?_⟩
   exact ⟨_, zp 12 ha Lh hsz, zh Lh, zk Lh hl, zl hN, zr hL⟩
  | 13, ho =>
   cases zq ho
   refine .inr ⟨Zak (k := 7) rfl rfl rfl (Zag ha hsz Lh hl 2 (by decide) (zg hd 2)) (by simp [Zfj, undef]), ?_⟩
   exact ⟨_, zp 13 ha Lh hsz, zh Lh, zk Lh hl, zl hN, zr hL⟩
  | 14, ho =>
   cases zq ho
   refine .inr ⟨Zak (k := 7) rfl rfl rfl (Zag ha hsz Lh hl 2 (by decide) (zg hd 2)) (by simp [Zfj, undef]), ?_⟩
   exact ⟨_, zp 14 ha Lh hsz, zh Lh, zk Lh hl, zl hN, zr hL⟩
  | 15, ho =>
   cases zq ho
   refine .inr ⟨Zak (k := 7) rfl rfl rfl (Zag ha hsz Lh hl 2 (by decide) (zg hd 2)) (by simp [Zfj, undef]), ?_⟩
   exact ⟨_, zp 15 ha Lh hsz, zh Lh, zk Lh hl, zl hN, zr hL⟩
  | 16, ho =>
   cases zq ho
   refine .inl ⟨rfl, ?_⟩
   have ev : a.tmps[7]? = some (.bool false) := zv ha hsz Lh hl 2 hd
   exact zx (.bool false) (by simp [execOp, ev, go_sem]) ⟨_, zp 16 ha Lh hsz, zh Lh, zk Lh hl, zl hN, zr hL⟩
  | i + 17, ho => simp at ho
 rintro D a w' ⟨l, ha, Lh, hl, hN, hL⟩ hall
 obtain ⟨v0, v1, v2, v3, v4, v5, v6, v7, v8, v9, v10, v11, v12, v13, v14, v15, v16, rfl⟩ := zL17 Lh
 have hL6 := hL (hall 1 (by decide))
 have hz := hl 16 (by decide) (hall 16 (by decide))
 simp only [List.getElem?_cons_succ, List.getElem?_cons_zero, Option.some.injEq] at hz
 have hz' : v16 = .bool false := hz
 subst hz'
 subst hA
 have hfr : a = _ := ha
 rw [hfr]
 clear hfr ha
 simp only [Zaj, yA, yB, yC, yD, yE, yF, yG, yH]
 clear hl hN hL hall
 replace E1 := (hL6.2.block _ hl1).trans E1
 have C := Zab B1 zo hL6.2
 have hsz6 := hL6.2.size
 replace h := hL6.1
 clear hL6 B1
 go_wp2_with fail
 refine (H w' p h).mono ?_
 rintro e w7 ⟨r, hr, ha, F7⟩
 replace E1 := (F7.block _ (lt_of_block E1) (by omega)).trans E1
 have F := (Fr.of_below C).thn zo F7
 cases r with
 | er j c =>
  obtain ⟨v, x, i', rfl, hv, h7, hi', hc⟩ := ha
  obtain ⟨na, nc, ka, kc, _, rfl, _⟩ := NdV.parts hv
  go_wp2_with (refine Za8 rfl rfl rfl rfl rfl E1 ?_)
  intro wz Ez Sz
  go_wp2
  exact zT 2 (by rfl) (by rfl) (Zau Ez) (by rfl) ⟨_, Zbs hr (fun hh => hk hh.1), ⟨_, _, _, rfl, hv.out Sz (by omega) (by omega), h7.st Sz (by omega), hi', hc⟩, F.trans (Fr.of_below (Sz.below hq)) zo⟩
 | ok x j =>
  obtain ⟨v, rfl, hv, h7⟩ := ha
  obtain ⟨na, nc, ka, kc, _, rfl, _⟩ := NdV.parts hv
  go_wp2_with (refine Za8 rfl rfl rfl rfl rfl E1 ?_)
  intro wz Ez Sz
  go_wp2
  exact zT 2 (by rfl) (by rfl) (Zau Ez) (by rfl) ⟨_, Zbs hr (fun hh => hk hh.1), ⟨_, rfl, hv.out Sz (by omega) (by omega), h7.st Sz (by omega)⟩, F.trans (Fr.of_below (Sz.below hq)) zo⟩
end Go.Proofs.YtncfmhlikmibaaaGreatDoor
