/- The document's primary: all arms. -/
import Derived.Test.YtncfmhlikmibaaaGreatDoorDsn
namespace Go.Proofs.YtncfmhlikmibaaaGreatDoor
open Go.RowKit
set_option maxRecDepth 100000
set_option maxHeartbeats 16000000
section
def Zov (A : Nat → Prop) (p : Nat) (W : List Tk) (d : Nat) (e : Ending) (w' : World) : Rs → Prop
 | .ok x j => ∃ v, e = .returned v ∧ NdV A w' x v ∧ Pr w' p W j d 0 0
 | .er j c => ∃ v x i', e = .returned v ∧ NdV A w' x v ∧ Pr w' p W i' d c (psW W j) ∧ i' < W.length ∧ c ≠ 0
def Zdk (f : Nat) (W : List Tk) (q : Qy) (i d : Nat) : Prop :=
 ∀ w p, Pr w p W i d 0 0 → Calls Tryz.prog f #[.pointer (some ⟨p, 0, none⟩)] w fun e w' => ∃ r, Zaa W q r ∧ Zov (fun b => w.heap.size ≤ b) p W d e w' r ∧ Fr p w.heap.size w w'
def Zdj (f : Nat) (W : List Tk) : Prop :=
 ∀ w p i d c t, Pr w p W i d c t → i < W.length → c ≠ 0 → Calls Tryz.prog f #[.pointer (some ⟨p, 0, none⟩)] w fun e w' => ∃ v, e = .returned v ∧ NdV (fun b => w.heap.size ≤ b) w' (Zbr W 0 i) v ∧ Below w.heap.size w w'
variable {E d n0 p : Nat} {W : List Tk} {w : World}
theorem Pr.pos {i t t' : Nat} {e : Int} (h : Pr w p W i d e t) (ht : t = t') : Pr w p W i d e t' := ht ▸ h
theorem Zq1 (S : Src W E) (hi : n0 < W.length) (hk : kdW W n0 = 1) (h : Pr w p W n0 d 0 0) :
  Calls Tryz.prog 137 #[.pointer (some ⟨p, 0, none⟩)] w fun e w' => ∃ v, e = .returned v ∧ NdV (fun b => w.heap.size ≤ b) w' (Zbr W 5 n0) v ∧ Pr w' p W (n0 + 1) d 0 0 ∧ Fr p w.heap.size w w' := by
 have hpl := h.lt
 have htx := S.txt n0
 go_enter Tryz.func137, Tryz.ntmps137
 go_wp2_with (refine Zdn _ rfl rfl ?_)
 intro q w1 E1 hq B1
 replace h := h.bel B1
 go_wp2_with fail
 refine (Zb3 h hi).mono ?_
 rintro e w2 ⟨rfl, B2⟩
 replace h := h.bel B2
 replace E1 := (B2.block _ (lt_of_block E1)).trans E1
 have C := Zab B1 zo B2
 have hl1 := lt_of_block E1
 clear B1 B2
 unfold Zdh
 go_wp2_with (refine Zid _ rfl rfl ?_)
 intro t' w3 E3 ht B3
 go_wp2_with (refine Zgf _ rfl _ _ rfl rfl t' _ _ _ rfl rfl E3 ?_)
 intro w4 E4 S4
 have D4 : Below w2.heap.size w2 w4 := B3.trans (S4.below ht)
 replace h := h.bel D4
 replace E1 := (D4.block _ hl1).trans E1
 replace C := Zab C zo D4
 have hs24 := D4.size
 clear D4 B3 S4 E3
 obtain ⟨y0, y1, y2, yf⟩ := Za1 E4
 go_wp2_with (refine Zb5 rfl rfl rfl 4 rfl rfl rfl (fun _ => rfl) (fun _ => rfl) ?_)
 intro q4 w5 E5 hq4 B5
 replace h := h.bel B5
 replace E1 := (B5.block _ (lt_of_block E1)).trans E1
 replace E4 := (B5.block _ (lt_of_block E4)).trans E4
 replace C := Zab C zo B5
 have hs45 := B5.size
 have B := Below.refl w5.heap.size w5
 have hl5 := lt_of_block E5
 clear B5 y0 y1 y2 yf
 go_wp2_with fail
 refine (Zad (h.bel B) hi 1).mono ?_
 rintro e u ⟨rfl, B'⟩
 replace B := Zab B zo B'
 clear B'
 rw [show (kdW W n0 == 1) = true by simp only [beq_iff_eq]; omega]
 replace h := h.bel B
 replace E1 := (B.block _ (lt_of_block E1)).trans E1
 replace E5 := (B.block _ hl5).trans E5
 replace C := Zab C zo B
 have hsu := B.size
 clear B
 obtain ⟨z0, z1, z2, z3, z4, z5, zf⟩ := Zac E5
 have zf0 := zf 0
 go_upto_region 22 with fail
 have S6 := St.cell u q4 0 (.int .i64 5)
 have E6 := heap_setCell_same u q4 0 _ _ (.int .i64 5) E5
 replace h := h.st S6 (by omega)
 replace E1 := (S6.block _ (by omega)).trans E1
 replace C := C.trans (S6.below (B := w.heap.size) (by have := C.size; omega))
 have hs6 := S6.size
 clear z0 z1 z2 z3 z4 z5 zf zf0 E5 S6
 generalize u.setCell ⟨q4, 0, none⟩ (.int .i64 5) = w6 at *
 go_wp2_with fail
 refine (Za9 h hi (by rw [hk]; decide)).mono ?_
 rintro e w7 ⟨rfl, h7, F7⟩
 replace E1 := (F7.block _ (lt_of_block E1) (by omega)).trans E1
 replace E6 := (F7.block _ (lt_of_block E6) (by omega)).trans E6
 have F := (Fr.of_below C).thn zo F7
 obtain ⟨z0, z1, z2, z3, z4, z5, zf⟩ := Zac E6
 go_wp2_with (refine Za8 rfl rfl rfl rfl rfl E1 ?_)
 intro wz Ez Sz
 go_wp2
 exact zT 2 (by rfl) (by rfl) (Zau Ez) (by rfl) ⟨_, rfl, NdV.leaf (by omega), h7.st Sz (by omega), F.trans (Fr.of_below (Sz.below hq)) zo⟩
theorem Zq0 (S : Src W E) (hi : n0 < W.length) (hk : kdW W n0 = 4) (h : Pr w p W n0 d 0 0) :
  Calls Tryz.prog 137 #[.pointer (some ⟨p, 0, none⟩)] w fun e w' => ∃ v, e = .returned v ∧ NdV (fun b => w.heap.size ≤ b) w' (Zbr W 1 n0) v ∧ Pr w' p W (n0 + 1) d 0 0 ∧ Fr p w.heap.size w w' := by
 have hpl := h.lt
 have htx := S.txt n0
 go_enter Tryz.func137, Tryz.ntmps137
 go_wp2_with (refine Zdn _ rfl rfl ?_)
 intro q w1 E1 hq B1
 replace h := h.bel B1
 go_wp2_with fail
 refine (Zb3 h hi).mono ?_
 rintro e w2 ⟨rfl, B2⟩
 replace h := h.bel B2
 replace E1 := (B2.block _ (lt_of_block E1)).trans E1
 have C := Zab B1 zo B2
 have hl1 := lt_of_block E1
 clear B1 B2
 unfold Zdh
 go_wp2_with (refine Zid _ rfl rfl ?_)
 intro t' w3 E3 ht B3
 go_wp2_with (refine Zgf _ rfl _ _ rfl rfl t' _ _ _ rfl rfl E3 ?_)
 intro w4 E4 S4
 have D4 : Below w2.heap.size w2 w4 := B3.trans (S4.below ht)
 replace h := h.bel D4
 replace E1 := (D4.block _ hl1).trans E1
 replace C := Zab C zo D4
 have hs24 := D4.size
 clear D4 B3 S4 E3
 obtain ⟨y0, y1, y2, yf⟩ := Za1 E4
 go_wp2_with (refine Zb5 rfl rfl rfl 4 rfl rfl rfl (fun _ => rfl) (fun _ => rfl) ?_)
 intro q4 w5 E5 hq4 B5
 replace h := h.bel B5
 replace E1 := (B5.block _ (lt_of_block E1)).trans E1
 replace E4 := (B5.block _ (lt_of_block E4)).trans E4
 replace C := Zab C zo B5
 have hs45 := B5.size
 have B := Below.refl w5.heap.size w5
 have hl5 := lt_of_block E5
 clear B5 y0 y1 y2 yf
 go_wp2_with fail
 refine (Zad (h.bel B) hi 1).mono ?_
 rintro e u ⟨rfl, B'⟩
 replace B := Zab B zo B'
 clear B'
 rw [show (kdW W n0 == 1) = false by simp only [beq_eq_false_iff_ne, ne_eq]; omega]
 go_wp2_with fail
 refine (Zad (h.bel B) hi 4).mono ?_
 rintro e u ⟨rfl, B'⟩
 replace B := Zab B zo B'
 clear B'
 rw [show (kdW W n0 == 4) = true by simp only [beq_iff_eq]; omega]
 replace h := h.bel B
 replace E1 := (B.block _ (lt_of_block E1)).trans E1
 replace E5 := (B.block _ hl5).trans E5
 replace C := Zab C zo B
 have hsu := B.size
 clear B
 obtain ⟨z0, z1, z2, z3, z4, z5, zf⟩ := Zac E5
 have zf0 := zf 0
 go_upto_region 22 with fail
 have S6 := St.cell u q4 0 (.int .i64 1)
 have E6 := heap_setCell_same u q4 0 _ _ (.int .i64 1) E5
 replace h := h.st S6 (by omega)
 replace E1 := (S6.block _ (by omega)).trans E1
 replace C := C.trans (S6.below (B := w.heap.size) (by have := C.size; omega))
 have hs6 := S6.size
 clear z0 z1 z2 z3 z4 z5 zf zf0 E5 S6
 generalize u.setCell ⟨q4, 0, none⟩ (.int .i64 1) = w6 at *
 go_wp2_with fail
 refine (Za9 h hi (by rw [hk]; decide)).mono ?_
 rintro e w7 ⟨rfl, h7, F7⟩
 replace E1 := (F7.block _ (lt_of_block E1) (by omega)).trans E1
 replace E6 := (F7.block _ (lt_of_block E6) (by omega)).trans E6
 have F := (Fr.of_below C).thn zo F7
 obtain ⟨z0, z1, z2, z3, z4, z5, zf⟩ := Zac E6
 go_wp2_with (refine Za8 rfl rfl rfl rfl rfl E1 ?_)
 intro wz Ez Sz
 go_wp2
 exact zT 2 (by rfl) (by rfl) (Zau Ez) (by rfl) ⟨_, rfl, NdV.leaf (by omega), h7.st Sz (by omega), F.trans (Fr.of_below (Sz.below hq)) zo⟩
theorem Zqz (S : Src W E) (hi : n0 < W.length) (hk : kdW W n0 = 5) (h : Pr w p W n0 d 0 0) :
  Calls Tryz.prog 137 #[.pointer (some ⟨p, 0, none⟩)] w fun e w' => ∃ v, e = .returned v ∧ NdV (fun b => w.heap.size ≤ b) w' (Zbr W 2 n0) v ∧ Pr w' p W (n0 + 1) d 0 0 ∧ Fr p w.heap.size w w' := by
 have hpl := h.lt
 have htx := S.txt n0
 go_enter Tryz.func137, Tryz.ntmps137
 go_wp2_with (refine Zdn _ rfl rfl ?_)
 intro q w1 E1 hq B1
 replace h := h.bel B1
 go_wp2_with fail
 refine (Zb3 h hi).mono ?_
 rintro e w2 ⟨rfl, B2⟩
 replace h := h.bel B2
 replace E1 := (B2.block _ (lt_of_block E1)).trans E1
 have C := Zab B1 zo B2
 have hl1 := lt_of_block E1
 clear B1 B2
 unfold Zdh
 go_wp2_with (refine Zid _ rfl rfl ?_)
 intro t' w3 E3 ht B3
 go_wp2_with (refine Zgf _ rfl _ _ rfl rfl t' _ _ _ rfl rfl E3 ?_)
 intro w4 E4 S4
 have D4 : Below w2.heap.size w2 w4 := B3.trans (S4.below ht)
 replace h := h.bel D4
 replace E1 := (D4.block _ hl1).trans E1
 replace C := Zab C zo D4
 have hs24 := D4.size
 clear D4 B3 S4 E3
 obtain ⟨y0, y1, y2, yf⟩ := Za1 E4
 go_wp2_with (refine Zb5 rfl rfl rfl 4 rfl rfl rfl (fun _ => rfl) (fun _ => rfl) ?_)
 intro q4 w5 E5 hq4 B5
 replace h := h.bel B5
 replace E1 := (B5.block _ (lt_of_block E1)).trans E1
 replace E4 := (B5.block _ (lt_of_block E4)).trans E4
 replace C := Zab C zo B5
 have hs45 := B5.size
 have B := Below.refl w5.heap.size w5
 have hl5 := lt_of_block E5
 clear B5 y0 y1 y2 yf
 go_wp2_with fail
 refine (Zad (h.bel B) hi 1).mono ?_
 rintro e u ⟨rfl, B'⟩
 replace B := Zab B zo B'
 clear B'
 rw [show (kdW W n0 == 1) = false by simp only [beq_eq_false_iff_ne, ne_eq]; omega]
 go_wp2_with fail
 refine (Zad (h.bel B) hi 4).mono ?_
 rintro e u ⟨rfl, B'⟩
 replace B := Zab B zo B'
 clear B'
 rw [show (kdW W n0 == 4) = false by simp only [beq_eq_false_iff_ne, ne_eq]; omega]
 go_wp2_with fail
 refine (Zad (h.bel B) hi 5).mono ?_
 rintro e u ⟨rfl, B'⟩
 replace B := Zab B zo B'
 clear B'
 rw [show (kdW W n0 == 5) = true by simp only [beq_iff_eq]; omega]
 replace h := h.bel B
 replace E1 := (B.block _ (lt_of_block E1)).trans E1
 replace E5 := (B.block _ hl5).trans E5
 replace C := Zab C zo B
 have hsu := B.size
 clear B
 obtain ⟨z0, z1, z2, z3, z4, z5, zf⟩ := Zac E5
 have zf0 := zf 0
 go_upto_region 22 with fail
 have S6 := St.cell u q4 0 (.int .i64 2)
 have E6 := heap_setCell_same u q4 0 _ _ (.int .i64 2) E5
 replace h := h.st S6 (by omega)
 replace E1 := (S6.block _ (by omega)).trans E1
 replace C := C.trans (S6.below (B := w.heap.size) (by have := C.size; omega))
 have hs6 := S6.size
 clear z0 z1 z2 z3 z4 z5 zf zf0 E5 S6
 generalize u.setCell ⟨q4, 0, none⟩ (.int .i64 2) = w6 at *
 go_wp2_with fail
 refine (Za9 h hi (by rw [hk]; decide)).mono ?_
 rintro e w7 ⟨rfl, h7, F7⟩
 replace E1 := (F7.block _ (lt_of_block E1) (by omega)).trans E1
 replace E6 := (F7.block _ (lt_of_block E6) (by omega)).trans E6
 have F := (Fr.of_below C).thn zo F7
 obtain ⟨z0, z1, z2, z3, z4, z5, zf⟩ := Zac E6
 go_wp2_with (refine Za8 rfl rfl rfl rfl rfl E1 ?_)
 intro wz Ez Sz
 go_wp2
 exact zT 2 (by rfl) (by rfl) (Zau Ez) (by rfl) ⟨_, rfl, NdV.leaf (by omega), h7.st Sz (by omega), F.trans (Fr.of_below (Sz.below hq)) zo⟩
theorem Zqy (S : Src W E) (hi : n0 < W.length) (hk : kdW W n0 = 6) (h : Pr w p W n0 d 0 0) :
  Calls Tryz.prog 137 #[.pointer (some ⟨p, 0, none⟩)] w fun e w' => ∃ v, e = .returned v ∧ NdV (fun b => w.heap.size ≤ b) w' (Zbr W 3 n0) v ∧ Pr w' p W (n0 + 1) d 0 0 ∧ Fr p w.heap.size w w' := by
 have hpl := h.lt
 have htx := S.txt n0
 go_enter Tryz.func137, Tryz.ntmps137
 go_wp2_with (refine Zdn _ rfl rfl ?_)
 intro q w1 E1 hq B1
 replace h := h.bel B1
 go_wp2_with fail
 refine (Zb3 h hi).mono ?_
 rintro e w2 ⟨rfl, B2⟩
 replace h := h.bel B2
 replace E1 := (B2.block _ (lt_of_block E1)).trans E1
 have C := Zab B1 zo B2
 have hl1 := lt_of_block E1
 clear B1 B2
 unfold Zdh
 go_wp2_with (refine Zid _ rfl rfl ?_)
 intro t' w3 E3 ht B3
 go_wp2_with (refine Zgf _ rfl _ _ rfl rfl t' _ _ _ rfl rfl E3 ?_)
 intro w4 E4 S4
 have D4 : Below w2.heap.size w2 w4 := B3.trans (S4.below ht)
 replace h := h.bel D4
 replace E1 := (D4.block _ hl1).trans E1
 replace C := Zab C zo D4
 have hs24 := D4.size
 clear D4 B3 S4 E3
 obtain ⟨y0, y1, y2, yf⟩ := Za1 E4
 go_wp2_with (refine Zb5 rfl rfl rfl 4 rfl rfl rfl (fun _ => rfl) (fun _ => rfl) ?_)
 intro q4 w5 E5 hq4 B5
 replace h := h.bel B5
 replace E1 := (B5.block _ (lt_of_block E1)).trans E1
 replace E4 := (B5.block _ (lt_of_block E4)).trans E4
 replace C := Zab C zo B5
 have hs45 := B5.size
 have B := Below.refl w5.heap.size w5
 have hl5 := lt_of_block E5
 clear B5 y0 y1 y2 yf
 go_wp2_with fail
 refine (Zad (h.bel B) hi 1).mono ?_
 rintro e u ⟨rfl, B'⟩
 replace B := Zab B zo B'
 clear B'
 rw [show (kdW W n0 == 1) = false by simp only [beq_eq_false_iff_ne, ne_eq]; omega]
 go_wp2_with fail
 refine (Zad (h.bel B) hi 4).mono ?_
 rintro e u ⟨rfl, B'⟩
 replace B := Zab B zo B'
 clear B'
 rw [show (kdW W n0 == 4) = false by simp only [beq_eq_false_iff_ne, ne_eq]; omega]
 go_wp2_with fail
 refine (Zad (h.bel B) hi 5).mono ?_
 rintro e u ⟨rfl, B'⟩
 replace B := Zab B zo B'
 clear B'
 rw [show (kdW W n0 == 5) = false by simp only [beq_eq_false_iff_ne, ne_eq]; omega]
 go_wp2_with fail
 refine (Zad (h.bel B) hi 6).mono ?_
 rintro e u ⟨rfl, B'⟩
 replace B := Zab B zo B'
 clear B'
 rw [show (kdW W n0 == 6) = true by simp only [beq_iff_eq]; omega]
 replace h := h.bel B
 replace E1 := (B.block _ (lt_of_block E1)).trans E1
 replace E5 := (B.block _ hl5).trans E5
 replace C := Zab C zo B
 have hsu := B.size
 clear B
 obtain ⟨z0, z1, z2, z3, z4, z5, zf⟩ := Zac E5
 have zf0 := zf 0
 go_upto_region 22 with fail
 have S6 := St.cell u q4 0 (.int .i64 3)
 have E6 := heap_setCell_same u q4 0 _ _ (.int .i64 3) E5
 replace h := h.st S6 (by omega)
 replace E1 := (S6.block _ (by omega)).trans E1
 replace C := C.trans (S6.below (B := w.heap.size) (by have := C.size; omega))
 have hs6 := S6.size
 clear z0 z1 z2 z3 z4 z5 zf zf0 E5 S6
 generalize u.setCell ⟨q4, 0, none⟩ (.int .i64 3) = w6 at *
 go_wp2_with fail
 refine (Za9 h hi (by rw [hk]; decide)).mono ?_
 rintro e w7 ⟨rfl, h7, F7⟩
 replace E1 := (F7.block _ (lt_of_block E1) (by omega)).trans E1
 replace E6 := (F7.block _ (lt_of_block E6) (by omega)).trans E6
 have F := (Fr.of_below C).thn zo F7
 obtain ⟨z0, z1, z2, z3, z4, z5, zf⟩ := Zac E6
 go_wp2_with (refine Za8 rfl rfl rfl rfl rfl E1 ?_)
 intro wz Ez Sz
 go_wp2
 exact zT 2 (by rfl) (by rfl) (Zau Ez) (by rfl) ⟨_, rfl, NdV.leaf (by omega), h7.st Sz (by omega), F.trans (Fr.of_below (Sz.below hq)) zo⟩
theorem Zq2 (S : Src W E) (hi : n0 < W.length) (hk1 : kdW W n0 ≠ 1) (hk4 : kdW W n0 ≠ 4) (hk5 : kdW W n0 ≠ 5) (hk6 : kdW W n0 ≠ 6) (hk17 : kdW W n0 ≠ 17) (hk10 : kdW W n0 ≠ 10) (hk8 : kdW W n0 ≠ 8) (h : Pr w p W n0 d 0 0) :
  Calls Tryz.prog 137 #[.pointer (some ⟨p, 0, none⟩)] w fun e w' => ∃ v, e = .returned v ∧ NdV (fun b => w.heap.size ≤ b) w' (Zbr W 0 n0) v ∧ Pr w' p W n0 d 20 (psW W n0) ∧ Fr p w.heap.size w w' := by
 have hpl := h.lt
 have htx := S.txt n0
 go_enter Tryz.func137, Tryz.ntmps137
 go_wp2_with (refine Zdn _ rfl rfl ?_)
 intro q w1 E1 hq B1
 replace h := h.bel B1
 go_wp2_with fail
 refine (Zb3 h hi).mono ?_
 rintro e w2 ⟨rfl, B2⟩
 replace h := h.bel B2
 replace E1 := (B2.block _ (lt_of_block E1)).trans E1
 have C := Zab B1 zo B2
 have hl1 := lt_of_block E1
 clear B1 B2
 unfold Zdh
 go_wp2_with (refine Zid _ rfl rfl ?_)
 intro t' w3 E3 ht B3
 go_wp2_with (refine Zgf _ rfl _ _ rfl rfl t' _ _ _ rfl rfl E3 ?_)
 intro w4 E4 S4
 have D4 : Below w2.heap.size w2 w4 := B3.trans (S4.below ht)
 replace h := h.bel D4
 replace E1 := (D4.block _ hl1).trans E1
 replace C := Zab C zo D4
 have hs24 := D4.size
 clear D4 B3 S4 E3
 obtain ⟨y0, y1, y2, yf⟩ := Za1 E4
 go_wp2_with (refine Zb5 rfl rfl rfl 4 rfl rfl rfl (fun _ => rfl) (fun _ => rfl) ?_)
 intro q4 w5 E5 hq4 B5
 replace h := h.bel B5
 replace E1 := (B5.block _ (lt_of_block E1)).trans E1
 replace E4 := (B5.block _ (lt_of_block E4)).trans E4
 replace C := Zab C zo B5
 have hs45 := B5.size
 have B := Below.refl w5.heap.size w5
 have hl5 := lt_of_block E5
 clear B5 y0 y1 y2 yf
 go_wp2_with fail
 refine (Zad (h.bel B) hi 1).mono ?_
 rintro e u ⟨rfl, B'⟩
 replace B := Zab B zo B'
 clear B'
 rw [show (kdW W n0 == 1) = false by simp only [beq_eq_false_iff_ne, ne_eq]; omega]
 go_wp2_with fail
 refine (Zad (h.bel B) hi 4).mono ?_
 rintro e u ⟨rfl, B'⟩
 replace B := Zab B zo B'
 clear B'
 rw [show (kdW W n0 == 4) = false by simp only [beq_eq_false_iff_ne, ne_eq]; omega]
 go_wp2_with fail
 refine (Zad (h.bel B) hi 5).mono ?_
 rintro e u ⟨rfl, B'⟩
 replace B := Zab B zo B'
 clear B'
 rw [show (kdW W n0 == 5) = false by simp only [beq_eq_false_iff_ne, ne_eq]; omega]
 go_wp2_with fail
 refine (Zad (h.bel B) hi 6).mono ?_
 rintro e u ⟨rfl, B'⟩
 replace B := Zab B zo B'
 clear B'
 rw [show (kdW W n0 == 6) = false by simp only [beq_eq_false_iff_ne, ne_eq]; omega]
 go_wp2_with fail
 refine (Zad (h.bel B) hi 17).mono ?_
 rintro e u ⟨rfl, B'⟩
 replace B := Zab B zo B'
 clear B'
 rw [show (kdW W n0 == 17) = false by simp only [beq_eq_false_iff_ne, ne_eq]; omega]
 go_wp2_with fail
 refine (Zad (h.bel B) hi 10).mono ?_
 rintro e u ⟨rfl, B'⟩
 replace B := Zab B zo B'
 clear B'
 rw [show (kdW W n0 == 10) = false by simp only [beq_eq_false_iff_ne, ne_eq]; omega]
 go_wp2_with fail
 refine (Zad (h.bel B) hi 8).mono ?_
 rintro e u ⟨rfl, B'⟩
 replace B := Zab B zo B'
 clear B'
 rw [show (kdW W n0 == 8) = false by simp only [beq_eq_false_iff_ne, ne_eq]; omega]
 replace h := h.bel B
 replace E1 := (B.block _ (lt_of_block E1)).trans E1
 replace E5 := (B.block _ hl5).trans E5
 replace C := Zab C zo B
 have hsu := B.size
 clear B
 go_wp2_with fail
 refine (Zb6 h hi 20).mono ?_
 rintro e w6 ⟨rfl, h6, F6⟩
 replace E1 := (F6.block _ (lt_of_block E1) (by omega)).trans E1
 replace E5 := (F6.block _ (lt_of_block E5) (by omega)).trans E5
 have F := (Fr.of_below C).thn zo F6
 go_wp2_with fail
 refine (Zfr h6 hi (.inl (by decide))).mono ?_
 rintro e w7 ⟨rfl, B7⟩
 replace h6 := h6.bel B7
 replace E1 := (B7.block _ (lt_of_block E1)).trans E1
 replace E5 := (B7.block _ (lt_of_block E5)).trans E5
 replace F := F.thn zo (Fr.of_below B7)
 obtain ⟨z0, z1, z2, z3, z4, z5, zf⟩ := Zac E5
 go_wp2_with (refine Za8 rfl rfl rfl rfl rfl E1 ?_)
 intro wz Ez Sz
 go_wp2
 exact zT 2 (by rfl) (by rfl) (Zau Ez) (by rfl) ⟨_, rfl, NdV.leaf (by omega), h6.st Sz (by omega), F.trans (Fr.of_below (Sz.below hq)) zo⟩
theorem Zog (S : Src W E) : Zdj 137 W := by
 intro w p n0 d c t h hi hc
 have hpl := h.lt
 have htx := S.txt n0
 go_enter Tryz.func137, Tryz.ntmps137
 go_wp2_with (refine Zdn _ rfl rfl ?_)
 intro q w1 E1 hq B1
 replace h := h.bel B1
 go_wp2_with fail
 refine (Zb3 h hi).mono ?_
 rintro e w2 ⟨rfl, B2⟩
 replace h := h.bel B2
 replace E1 := (B2.block _ (lt_of_block E1)).trans E1
 have C := Zab B1 zo B2
 have hl1 := lt_of_block E1
 clear B1 B2
 unfold Zdh
 go_wp2_with (refine Zid _ rfl rfl ?_)
 intro t' w3 E3 ht B3
 go_wp2_with (refine Zgf _ rfl _ _ rfl rfl t' _ _ _ rfl rfl E3 ?_)
 intro w4 E4 S4
 have D4 : Below w2.heap.size w2 w4 := B3.trans (S4.below ht)
 replace h := h.bel D4
 replace E1 := (D4.block _ hl1).trans E1
 replace C := Zab C zo D4
 have hs24 := D4.size
 clear D4 B3 S4 E3
 obtain ⟨y0, y1, y2, yf⟩ := Za1 E4
 go_wp2_with (refine Zb5 rfl rfl rfl 4 rfl rfl rfl (fun _ => rfl) (fun _ => rfl) ?_)
 intro q4 w5 E5 hq4 B5
 replace h := h.bel B5
 replace E1 := (B5.block _ (lt_of_block E1)).trans E1
 replace E4 := (B5.block _ (lt_of_block E4)).trans E4
 replace C := Zab C zo B5
 have hs45 := B5.size
 have B := Below.refl w5.heap.size w5
 have hl5 := lt_of_block E5
 clear B5 y0 y1 y2 yf
 go_wp2_with fail
 refine (Zax (h.bel B) hi hc 1).mono ?_
 rintro e u ⟨rfl, B'⟩
 replace B := Zab B zo B'
 clear B'
 go_wp2_with fail
 refine (Zax (h.bel B) hi hc 4).mono ?_
 rintro e u ⟨rfl, B'⟩
 replace B := Zab B zo B'
 clear B'
 go_wp2_with fail
 refine (Zax (h.bel B) hi hc 5).mono ?_
 rintro e u ⟨rfl, B'⟩
 replace B := Zab B zo B'
 clear B'
 go_wp2_with fail
 refine (Zax (h.bel B) hi hc 6).mono ?_
 rintro e u ⟨rfl, B'⟩
 replace B := Zab B zo B'
 clear B'
 go_wp2_with fail
 refine (Zax (h.bel B) hi hc 17).mono ?_
 rintro e u ⟨rfl, B'⟩
 replace B := Zab B zo B'
 clear B'
 go_wp2_with fail
 refine (Zax (h.bel B) hi hc 10).mono ?_
 rintro e u ⟨rfl, B'⟩
 replace B := Zab B zo B'
 clear B'
 go_wp2_with fail
 refine (Zax (h.bel B) hi hc 8).mono ?_
 rintro e u ⟨rfl, B'⟩
 replace B := Zab B zo B'
 clear B'
 replace h := h.bel B
 replace E1 := (B.block _ (lt_of_block E1)).trans E1
 replace E5 := (B.block _ hl5).trans E5
 replace C := Zab C zo B
 have hsu := B.size
 clear B
 go_wp2_with fail
 refine (Zfc h hc 20).mono ?_
 rintro e w6 ⟨rfl, B6⟩
 replace h := h.bel B6
 replace E1 := (B6.block _ (lt_of_block E1)).trans E1
 replace E5 := (B6.block _ (lt_of_block E5)).trans E5
 replace C := Zab C zo B6
 go_wp2_with fail
 refine (Zfr h hi (.inl hc)).mono ?_
 rintro e w7 ⟨rfl, B7⟩
 replace E1 := (B7.block _ (lt_of_block E1)).trans E1
 replace E5 := (B7.block _ (lt_of_block E5)).trans E5
 replace C := Zab C zo B7
 obtain ⟨z0, z1, z2, z3, z4, z5, zf⟩ := Zac E5
 go_wp2_with (refine Za8 rfl rfl rfl rfl rfl E1 ?_)
 intro wz Ez Sz
 go_wp2
 exact zT 2 (by rfl) (by rfl) (Zau Ez) (by rfl) ⟨_, rfl, NdV.leaf (by omega), C.trans (Sz.below hq)⟩
end
section
def ConL (W : List Tk) (i d : Nat) : Prop :=
 ∀ w p, Pr w p W i d 0 0 → Calls Tryz.prog 155 #[.pointer (some ⟨p, 0, none⟩), .int .i64 (psW W i : Int)] w fun e w' => ∃ r, Zaa W (.list i d) r ∧ Zov (fun b => w.heap.size ≤ b) p W d e w' r ∧ Fr p w.heap.size w w'
variable {E d n0 p : Nat} {W : List Tk} {w : World}
theorem Zoe (S : Src W E) (hi : n0 < W.length) (hk : kdW W n0 = 17) (H : ConL W n0 d) (h : Pr w p W n0 d 0 0) :
  Calls Tryz.prog 137 #[.pointer (some ⟨p, 0, none⟩)] w fun e w' => ∃ r, Zaa W (.prim n0 d) r ∧ Zov (fun b => w.heap.size ≤ b) p W d e w' r ∧ Fr p w.heap.size w w' := by
 have hpl := h.lt
 have htx := S.txt n0
 go_enter Tryz.func137, Tryz.ntmps137
 go_wp2_with (refine Zdn _ rfl rfl ?_)
 intro q w1 E1 hq B1
 replace h := h.bel B1
 go_wp2_with fail
 refine (Zb3 h hi).mono ?_
 rintro e w2 ⟨rfl, B2⟩
 replace h := h.bel B2
 replace E1 := (B2.block _ (lt_of_block E1)).trans E1
 have C := Zab B1 zo B2
 have hl1 := lt_of_block E1
 clear B1 B2
 unfold Zdh
 go_wp2_with (refine Zid _ rfl rfl ?_)
 intro t' w3 E3 ht B3
 go_wp2_with (refine Zgf _ rfl _ _ rfl rfl t' _ _ _ rfl rfl E3 ?_)
 intro w4 E4 S4
 have D4 : Below w2.heap.size w2 w4 := B3.trans (S4.below ht)
 replace h := h.bel D4
 replace E1 := (D4.block _ hl1).trans E1
 replace C := Zab C zo D4
 have hs24 := D4.size
 clear D4 B3 S4 E3
 obtain ⟨y0, y1, y2, yf⟩ := Za1 E4
 go_wp2_with (refine Zb5 rfl rfl rfl 4 rfl rfl rfl (fun _ => rfl) (fun _ => rfl) ?_)
 intro q4 w5 E5 hq4 B5
 replace h := h.bel B5
 replace E1 := (B5.block _ (lt_of_block E1)).trans E1
 replace E4 := (B5.block _ (lt_of_block E4)).trans E4
 replace C := Zab C zo B5
 have hs45 := B5.size
 have B := Below.refl w5.heap.size w5
 have hl5 := lt_of_block E5
 clear B5 y0 y1 y2 yf
 go_wp2_with fail
 refine (Zad (h.bel B) hi 1).mono ?_
 rintro e u ⟨rfl, B'⟩
 replace B := Zab B zo B'
 clear B'
 rw [show (kdW W n0 == 1) = false by simp only [beq_eq_false_iff_ne, ne_eq]; omega]
 go_wp2_with fail
 refine (Zad (h.bel B) hi 4).mono ?_
 rintro e u ⟨rfl, B'⟩
 replace B := Zab B zo B'
 clear B'
 rw [show (kdW W n0 == 4) = false by simp only [beq_eq_false_iff_ne, ne_eq]; omega]
 go_wp2_with fail
 refine (Zad (h.bel B) hi 5).mono ?_
 rintro e u ⟨rfl, B'⟩
 replace B := Zab B zo B'
 clear B'
 rw [show (kdW W n0 == 5) = false by simp only [beq_eq_false_iff_ne, ne_eq]; omega]
 go_wp2_with fail
 refine (Zad (h.bel B) hi 6).mono ?_
 rintro e u ⟨rfl, B'⟩
 replace B := Zab B zo B'
 clear B'
 rw [show (kdW W n0 == 6) = false by simp only [beq_eq_false_iff_ne, ne_eq]; omega]
 go_wp2_with fail
 refine (Zad (h.bel B) hi 17).mono ?_
 rintro e u ⟨rfl, B'⟩
 replace B := Zab B zo B'
 clear B'
 rw [show (kdW W n0 == 17) = true by simp only [beq_iff_eq]; omega]
 replace h := h.bel B
 replace E1 := (B.block _ (lt_of_block E1)).trans E1
 replace E5 := (B.block _ hl5).trans E5
 replace C := Zab C zo B
 have hsu := B.size
 have HB := B
 clear B
 replace E4 := (HB.block _ (lt_of_block E4)).trans E4
 obtain ⟨y0, y1, y2, yf⟩ := Za1 E4
 go_wp2_with fail
 refine (H u p h).mono ?_
 rintro e w7 ⟨r, hr, ha, F7⟩
 replace E1 := (F7.block _ (lt_of_block E1) (by omega)).trans E1
 have F := (Fr.of_below C).thn zo F7
 have hC := C.size
 cases r with
 | er j c =>
  obtain ⟨v, x, i', rfl, hv, h7, hi', hc⟩ := ha
  obtain ⟨na, nc, ka, kc, _, rfl, _⟩ := NdV.parts hv
  go_wp2_with (refine Za8 rfl rfl rfl rfl rfl E1 ?_)
  intro wz Ez Sz
  go_wp2
  exact zT 2 (by rfl) (by rfl) (Zau Ez) (by rfl) ⟨_, Zeu hr hk, ⟨_, _, _, rfl, hv.out Sz (by omega) (by omega), h7.st Sz (by omega), hi', hc⟩, F.trans (Fr.of_below (Sz.below hq)) zo⟩
 | ok x j =>
  obtain ⟨v, rfl, hv, h7⟩ := ha
  obtain ⟨na, nc, ka, kc, _, rfl, _⟩ := NdV.parts hv
  go_wp2_with (refine Za8 rfl rfl rfl rfl rfl E1 ?_)
  intro wz Ez Sz
  go_wp2
  exact zT 2 (by rfl) (by rfl) (Zau Ez) (by rfl) ⟨_, Zeu hr hk, ⟨_, rfl, hv.out Sz (by omega) (by omega), h7.st Sz (by omega)⟩, F.trans (Fr.of_below (Sz.below hq)) zo⟩
theorem Zmm (S : Src W E) (hi : n0 < W.length) (hk : kdW W n0 = 10) (H : Zdk 156 W (.block n0 d) n0 d) (h : Pr w p W n0 d 0 0) :
  Calls Tryz.prog 137 #[.pointer (some ⟨p, 0, none⟩)] w fun e w' => ∃ r, Zaa W (.prim n0 d) r ∧ Zov (fun b => w.heap.size ≤ b) p W d e w' r ∧ Fr p w.heap.size w w' := by
 have hpl := h.lt
 have htx := S.txt n0
 go_enter Tryz.func137, Tryz.ntmps137
 go_wp2_with (refine Zdn _ rfl rfl ?_)
 intro q w1 E1 hq B1
 replace h := h.bel B1
 go_wp2_with fail
 refine (Zb3 h hi).mono ?_
 rintro e w2 ⟨rfl, B2⟩
 replace h := h.bel B2
 replace E1 := (B2.block _ (lt_of_block E1)).trans E1
 have C := Zab B1 zo B2
 have hl1 := lt_of_block E1
 clear B1 B2
 unfold Zdh
 go_wp2_with (refine Zid _ rfl rfl ?_)
 intro t' w3 E3 ht B3
 go_wp2_with (refine Zgf _ rfl _ _ rfl rfl t' _ _ _ rfl rfl E3 ?_)
 intro w4 E4 S4
 have D4 : Below w2.heap.size w2 w4 := B3.trans (S4.below ht)
 replace h := h.bel D4
 replace E1 := (D4.block _ hl1).trans E1
 replace C := Zab C zo D4
 have hs24 := D4.size
 clear D4 B3 S4 E3
 obtain ⟨y0, y1, y2, yf⟩ := Za1 E4
 go_wp2_with (refine Zb5 rfl rfl rfl 4 rfl rfl rfl (fun _ => rfl) (fun _ => rfl) ?_)
 intro q4 w5 E5 hq4 B5
 replace h := h.bel B5
 replace E1 := (B5.block _ (lt_of_block E1)).trans E1
 replace E4 := (B5.block _ (lt_of_block E4)).trans E4
 replace C := Zab C zo B5
 have hs45 := B5.size
 have B := Below.refl w5.heap.size w5
 have hl5 := lt_of_block E5
 clear B5 y0 y1 y2 yf
 go_wp2_with fail
 refine (Zad (h.bel B) hi 1).mono ?_
 rintro e u ⟨rfl, B'⟩
 replace B := Zab B zo B'
 clear B'
 rw [show (kdW W n0 == 1) = false by simp only [beq_eq_false_iff_ne, ne_eq]; omega]
 go_wp2_with fail
 refine (Zad (h.bel B) hi 4).mono ?_
 rintro e u ⟨rfl, B'⟩
 replace B := Zab B zo B'
 clear B'
 rw [show (kdW W n0 == 4) = false by simp only [beq_eq_false_iff_ne, ne_eq]; omega]
 go_wp2_with fail
 refine (Zad (h.bel B) hi 5).mono ?_
 rintro e u ⟨rfl, B'⟩
 replace B := Zab B zo B'
 clear B'
 rw [show (kdW W n0 == 5) = false by simp only [beq_eq_false_iff_ne, ne_eq]; omega]
 go_wp2_with fail
 refine (Zad (h.bel B) hi 6).mono ?_
 rintro e u ⟨rfl, B'⟩
 replace B := Zab B zo B'
 clear B'
 rw [show (kdW W n0 == 6) = false by simp only [beq_eq_false_iff_ne, ne_eq]; omega]
 go_wp2_with fail
 refine (Zad (h.bel B) hi 17).mono ?_
 rintro e u ⟨rfl, B'⟩
 replace B := Zab B zo B'
 clear B'
 rw [show (kdW W n0 == 17) = false by simp only [beq_eq_false_iff_ne, ne_eq]; omega]
 go_wp2_with fail
 refine (Zad (h.bel B) hi 10).mono ?_
 rintro e u ⟨rfl, B'⟩
 replace B := Zab B zo B'
 clear B'
 rw [show (kdW W n0 == 10) = true by simp only [beq_iff_eq]; omega]
 replace h := h.bel B
 replace E1 := (B.block _ (lt_of_block E1)).trans E1
 replace E5 := (B.block _ hl5).trans E5
 replace C := Zab C zo B
 have hsu := B.size
 clear B
 go_wp2_with fail
 refine (H u p h).mono ?_
 rintro e w7 ⟨r, hr, ha, F7⟩
 replace E1 := (F7.block _ (lt_of_block E1) (by omega)).trans E1
 have F := (Fr.of_below C).thn zo F7
 have hC := C.size
 cases r with
 | er j c =>
  obtain ⟨v, x, i', rfl, hv, h7, hi', hc⟩ := ha
  obtain ⟨na, nc, ka, kc, _, rfl, _⟩ := NdV.parts hv
  go_wp2_with (refine Za8 rfl rfl rfl rfl rfl E1 ?_)
  intro wz Ez Sz
  go_wp2
  exact zT 2 (by rfl) (by rfl) (Zau Ez) (by rfl) ⟨_, Zc7 hr hk, ⟨_, _, _, rfl, hv.out Sz (by omega) (by omega), h7.st Sz (by omega), hi', hc⟩, F.trans (Fr.of_below (Sz.below hq)) zo⟩
 | ok x j =>
  obtain ⟨v, rfl, hv, h7⟩ := ha
  obtain ⟨na, nc, ka, kc, _, rfl, _⟩ := NdV.parts hv
  go_wp2_with (refine Za8 rfl rfl rfl rfl rfl E1 ?_)
  intro wz Ez Sz
  go_wp2
  exact zT 2 (by rfl) (by rfl) (Zau Ez) (by rfl) ⟨_, Zc7 hr hk, ⟨_, rfl, hv.out Sz (by omega) (by omega), h7.st Sz (by omega)⟩, F.trans (Fr.of_below (Sz.below hq)) zo⟩
theorem Zod (S : Src W E) (hi : n0 < W.length) (hk : kdW W n0 = 8) (hd : d < 40) (H : Zdk 49 W (.expr (n0 + 1) (d + 1)) (n0 + 1) (d + 1)) (h : Pr w p W n0 d 0 0) :
  Calls Tryz.prog 137 #[.pointer (some ⟨p, 0, none⟩)] w fun e w' => ∃ r, Zaa W (.prim n0 d) r ∧ Zov (fun b => w.heap.size ≤ b) p W d e w' r ∧ Fr p w.heap.size w w' := by
 have hpl := h.lt
 have htx := S.txt n0
 go_enter Tryz.func137, Tryz.ntmps137
 go_wp2_with (refine Zdn _ rfl rfl ?_)
 intro q w1 E1 hq B1
 replace h := h.bel B1
 go_wp2_with fail
 refine (Zb3 h hi).mono ?_
 rintro e w2 ⟨rfl, B2⟩
 replace h := h.bel B2
 replace E1 := (B2.block _ (lt_of_block E1)).trans E1
 have C := Zab B1 zo B2
 have hl1 := lt_of_block E1
 clear B1 B2
 unfold Zdh
 go_wp2_with (refine Zid _ rfl rfl ?_)
 intro t' w3 E3 ht B3
 go_wp2_with (refine Zgf _ rfl _ _ rfl rfl t' _ _ _ rfl rfl E3 ?_)
 intro w4 E4 S4
 have D4 : Below w2.heap.size w2 w4 := B3.trans (S4.below ht)
 replace h := h.bel D4
 replace E1 := (D4.block _ hl1).trans E1
 replace C := Zab C zo D4
 have hs24 := D4.size
 clear D4 B3 S4 E3
 obtain ⟨y0, y1, y2, yf⟩ := Za1 E4
 go_wp2_with (refine Zb5 rfl rfl rfl 4 rfl rfl rfl (fun _ => rfl) (fun _ => rfl) ?_)
 intro q4 w5 E5 hq4 B5
 replace h := h.bel B5
 replace E1 := (B5.block _ (lt_of_block E1)).trans E1
 replace E4 := (B5.block _ (lt_of_block E4)).trans E4
 replace C := Zab C zo B5
 have hs45 := B5.size
 have B := Below.refl w5.heap.size w5
 have hl5 := lt_of_block E5
 clear B5 y0 y1 y2 yf
 go_wp2_with fail
 refine (Zad (h.bel B) hi 1).mono ?_
 rintro e u ⟨rfl, B'⟩
 replace B := Zab B zo B'
 clear B'
 rw [show (kdW W n0 == 1) = false by simp only [beq_eq_false_iff_ne, ne_eq]; omega]
 go_wp2_with fail
 refine (Zad (h.bel B) hi 4).mono ?_
 rintro e u ⟨rfl, B'⟩
 replace B := Zab B zo B'
 clear B'
 rw [show (kdW W n0 == 4) = false by simp only [beq_eq_false_iff_ne, ne_eq]; omega]
 go_wp2_with fail
 refine (Zad (h.bel B) hi 5).mono ?_
 rintro e u ⟨rfl, B'⟩
 replace B := Zab B zo B'
 clear B'
 rw [show (kdW W n0 == 5) = false by simp only [beq_eq_false_iff_ne, ne_eq]; omega]
 go_wp2_with fail
 refine (Zad (h.bel B) hi 6).mono ?_
 rintro e u ⟨rfl, B'⟩
 replace B := Zab B zo B'
 clear B'
 rw [show (kdW W n0 == 6) = false by simp only [beq_eq_false_iff_ne, ne_eq]; omega]
 go_wp2_with fail
 refine (Zad (h.bel B) hi 17).mono ?_
 rintro e u ⟨rfl, B'⟩
 replace B := Zab B zo B'
 clear B'
 rw [show (kdW W n0 == 17) = false by simp only [beq_eq_false_iff_ne, ne_eq]; omega]
 go_wp2_with fail
 refine (Zad (h.bel B) hi 10).mono ?_
 rintro e u ⟨rfl, B'⟩
 replace B := Zab B zo B'
 clear B'
 rw [show (kdW W n0 == 10) = false by simp only [beq_eq_false_iff_ne, ne_eq]; omega]
 go_wp2_with fail
 refine (Zad (h.bel B) hi 8).mono ?_
 rintro e u ⟨rfl, B'⟩
 replace B := Zab B zo B'
 clear B'
 rw [show (kdW W n0 == 8) = true by simp only [beq_iff_eq]; omega]
 replace h := h.bel B
 replace E1 := (B.block _ (lt_of_block E1)).trans E1
 replace E5 := (B.block _ hl5).trans E5
 replace C := Zab C zo B
 have hsu := B.size
 clear B
 have hC := C.size
 have hwd : IntKind.i64.wrap (((d + 1 : Nat) : Int) - 1) = (d : Int) := by rw [IntKind.wrap_i64]; omega
 go_wp2_with fail
 refine (Zd5 h hi hd (by rw [hk]; decide)).mono ?_
 rintro e w6 ⟨rfl, h6, F6⟩
 replace E1 := (F6.block _ (lt_of_block E1) (by omega)).trans E1
 replace E5 := (F6.block _ (lt_of_block E5) (by omega)).trans E5
 have F := (Fr.of_below C).thn zo F6
 have hs6 := F6.size
 clear C F6 h
 go_wp2_with fail
 refine (H w6 p h6).mono ?_
 rintro e w7 ⟨r, hr, ha, F7⟩
 replace E1 := (F7.block _ (lt_of_block E1) (by omega)).trans E1
 replace E5 := (F7.block _ (lt_of_block E5) (by omega)).trans E5
 replace F := F.thn zo F7
 have hs7 := F7.size
 have hl1 := lt_of_block E1
 have hl5 := lt_of_block E5
 clear F7 h6
 cases r with
 | er j c =>
  obtain ⟨v, x, i', rfl, hv, h7, hi', hc⟩ := ha
  obtain ⟨na, nc, ka, kc, _, rfl, _⟩ := NdV.parts hv
  go_wp2_with (refine Za8 rfl rfl rfl rfl rfl E5 ?_)
  intro w8 E8 S8
  replace hv := hv.imp (A' := fun b => w6.heap.size ≤ b) (fun b hb hA => ⟨hA, S8.block b (by omega)⟩) _ _
  replace h7 := h7.st S8 (by omega)
  replace E1 := (S8.block _ (by omega)).trans E1
  replace F := F.trans (Fr.of_below (S8.below (B := w.heap.size) (by omega))) zo
  have hs8 := S8.size
  clear S8 E5
  go_wp2_with fail
  refine (Ze5 h7 hi' hc 9).mono ?_
  rintro e w9 ⟨rfl, B9⟩
  have h9 := h7.bel B9
  have F9 := Fr.of_below (p := p) B9
  replace hv := NdB.fr (B := w6.heap.size) hv F9 (by omega)
  replace E1 := (F9.block _ (lt_of_block E1) (by omega)).trans E1
  replace E8 := (F9.block _ (lt_of_block E8) (by omega)).trans E8
  replace F := F.thn zo F9
  have hs9 := (F9).size
  obtain ⟨b0, off0, cc, c0, c1, c2, c3, c4, cf⟩ := h9.cells
  have f2 := cf 2
  go_upto_region 21 with fail
  have S9 := St.cell w9 p 2 (.int .i64 (d : Int))
  replace h9 := h9.setDepth d
  replace hv := NdB.st (B := w6.heap.size) hv S9 (by omega)
  replace E1 := (S9.block _ (by omega)).trans E1
  replace E8 := (S9.block _ (by omega)).trans E8
  replace F := F.trans (S9.fr (B := w.heap.size)) zo
  have hs10 := S9.size
  clear c0 c1 c2 c3 c4 cf f2 S9
  generalize w9.setCell ⟨p, 2, none⟩ (.int .i64 (d : Int)) = w10 at *
  obtain ⟨z0, z1, z2, z3, z4, z5, zf⟩ := Zac E8
  go_wp2_with (refine Za8 rfl rfl rfl rfl rfl E1 ?_)
  intro wz Ez Sz
  go_wp2
  exact zT 2 (by rfl) (by rfl) (Zau Ez) (by rfl) ⟨_, Zhu hr hk (by omega), ⟨_, _, _, rfl, NdV.out (hv : NdV (fun b => w6.heap.size ≤ b) _ _ _) Sz (by omega) (by omega), h9.st Sz (by omega), hi', hc⟩, F.trans (Fr.of_below (Sz.below hq)) zo⟩
 | ok x j =>
  obtain ⟨v, rfl, hv, h7⟩ := ha
  have hj := hr.adv S.ends (by have := S.ends.lt (m := n0) (by rw [hk]; decide); simp only [Qy.place, Qy.asks]; omega)
  simp only [Qy.place, Qy.takes] at hj
  by_cases h9k : kdW W j = 9
  ·skip
   obtain ⟨na, nc, ka, kc, _, rfl, _⟩ := NdV.parts hv
   go_wp2_with (refine Za8 rfl rfl rfl rfl rfl E5 ?_)
   intro w8 E8 S8
   replace hv := hv.imp (A' := fun b => w6.heap.size ≤ b) (fun b hb hA => ⟨hA, S8.block b (by omega)⟩) _ _
   replace h7 := h7.st S8 (by omega)
   replace E1 := (S8.block _ (by omega)).trans E1
   replace F := F.trans (Fr.of_below (S8.below (B := w.heap.size) (by omega))) zo
   have hs8 := S8.size
   clear S8 E5
   go_wp2_with fail
   refine (Ze4 h7 (S.lt hj.2) 9 h9k (by decide)).mono ?_
   rintro e w9 ⟨rfl, h9, F9⟩
   replace hv := NdB.fr (B := w6.heap.size) hv F9 (by omega)
   replace E1 := (F9.block _ (lt_of_block E1) (by omega)).trans E1
   replace E8 := (F9.block _ (lt_of_block E8) (by omega)).trans E8
   replace F := F.thn zo F9
   have hs9 := (F9).size
   obtain ⟨b0, off0, cc, c0, c1, c2, c3, c4, cf⟩ := h9.cells
   have f2 := cf 2
   go_upto_region 21 with fail
   have S9 := St.cell w9 p 2 (.int .i64 (d : Int))
   replace h9 := h9.setDepth d
   replace hv := NdB.st (B := w6.heap.size) hv S9 (by omega)
   replace E1 := (S9.block _ (by omega)).trans E1
   replace E8 := (S9.block _ (by omega)).trans E8
   replace F := F.trans (S9.fr (B := w.heap.size)) zo
   have hs10 := S9.size
   clear c0 c1 c2 c3 c4 cf f2 S9
   generalize w9.setCell ⟨p, 2, none⟩ (.int .i64 (d : Int)) = w10 at *
   obtain ⟨z0, z1, z2, z3, z4, z5, zf⟩ := Zac E8
   go_wp2_with (refine Za8 rfl rfl rfl rfl rfl E1 ?_)
   intro wz Ez Sz
   go_wp2
   exact zT 2 (by rfl) (by rfl) (Zau Ez) (by rfl) ⟨_, Zhv hr hk (by omega) h9k, ⟨_, rfl, NdV.out (hv : NdV (fun b => w6.heap.size ≤ b) _ _ _) Sz (by omega) (by omega), h9.st Sz (by omega)⟩, F.trans (Fr.of_below (Sz.below hq)) zo⟩
  obtain ⟨na, nc, ka, kc, _, rfl, _⟩ := NdV.parts hv
  go_wp2_with (refine Za8 rfl rfl rfl rfl rfl E5 ?_)
  intro w8 E8 S8
  replace hv := hv.imp (A' := fun b => w6.heap.size ≤ b) (fun b hb hA => ⟨hA, S8.block b (by omega)⟩) _ _
  replace h7 := h7.st S8 (by omega)
  replace E1 := (S8.block _ (by omega)).trans E1
  replace F := F.trans (Fr.of_below (S8.below (B := w.heap.size) (by omega))) zo
  have hs8 := S8.size
  clear S8 E5
  go_wp2_with fail
  refine (Zkk h7 (S.lt hj.2) 9 h9k).mono ?_
  rintro e w9 ⟨rfl, h9, F9⟩
  replace hv := NdB.fr (B := w6.heap.size) hv F9 (by omega)
  replace E1 := (F9.block _ (lt_of_block E1) (by omega)).trans E1
  replace E8 := (F9.block _ (lt_of_block E8) (by omega)).trans E8
  replace F := F.thn zo F9
  have hs9 := (F9).size
  obtain ⟨b0, off0, cc, c0, c1, c2, c3, c4, cf⟩ := h9.cells
  have f2 := cf 2
  go_upto_region 21 with fail
  have S9 := St.cell w9 p 2 (.int .i64 (d : Int))
  replace h9 := h9.setDepth d
  replace hv := NdB.st (B := w6.heap.size) hv S9 (by omega)
  replace E1 := (S9.block _ (by omega)).trans E1
  replace E8 := (S9.block _ (by omega)).trans E8
  replace F := F.trans (S9.fr (B := w.heap.size)) zo
  have hs10 := S9.size
  clear c0 c1 c2 c3 c4 cf f2 S9
  generalize w9.setCell ⟨p, 2, none⟩ (.int .i64 (d : Int)) = w10 at *
  obtain ⟨z0, z1, z2, z3, z4, z5, zf⟩ := Zac E8
  go_wp2_with (refine Za8 rfl rfl rfl rfl rfl E1 ?_)
  intro wz Ez Sz
  go_wp2
  exact zT 2 (by rfl) (by rfl) (Zau Ez) (by rfl) ⟨_, Zlx hr hk (by omega) h9k, ⟨_, _, _, rfl, NdV.out (hv : NdV (fun b => w6.heap.size ≤ b) _ _ _) Sz (by omega) (by omega), h9.st Sz (by omega), S.lt hj.2, by decide⟩, F.trans (Fr.of_below (Sz.below hq)) zo⟩
theorem Zof (S : Src W E) (hi : n0 < W.length) (hk : kdW W n0 = 8) (H : Zdj 49 W) (h : Pr w p W n0 40 0 0) :
  Calls Tryz.prog 137 #[.pointer (some ⟨p, 0, none⟩)] w fun e w' => ∃ r, Zaa W (.prim n0 40) r ∧ Zov (fun b => w.heap.size ≤ b) p W 40 e w' r ∧ Fr p w.heap.size w w' := by
 have hpl := h.lt
 have htx := S.txt n0
 go_enter Tryz.func137, Tryz.ntmps137
 go_wp2_with (refine Zdn _ rfl rfl ?_)
 intro q w1 E1 hq B1
 replace h := h.bel B1
 go_wp2_with fail
 refine (Zb3 h hi).mono ?_
 rintro e w2 ⟨rfl, B2⟩
 replace h := h.bel B2
 replace E1 := (B2.block _ (lt_of_block E1)).trans E1
 have C := Zab B1 zo B2
 have hl1 := lt_of_block E1
 clear B1 B2
 unfold Zdh
 go_wp2_with (refine Zid _ rfl rfl ?_)
 intro t' w3 E3 ht B3
 go_wp2_with (refine Zgf _ rfl _ _ rfl rfl t' _ _ _ rfl rfl E3 ?_)
 intro w4 E4 S4
 have D4 : Below w2.heap.size w2 w4 := B3.trans (S4.below ht)
 replace h := h.bel D4
 replace E1 := (D4.block _ hl1).trans E1
 replace C := Zab C zo D4
 have hs24 := D4.size
 clear D4 B3 S4 E3
 obtain ⟨y0, y1, y2, yf⟩ := Za1 E4
 go_wp2_with (refine Zb5 rfl rfl rfl 4 rfl rfl rfl (fun _ => rfl) (fun _ => rfl) ?_)
 intro q4 w5 E5 hq4 B5
 replace h := h.bel B5
 replace E1 := (B5.block _ (lt_of_block E1)).trans E1
 replace E4 := (B5.block _ (lt_of_block E4)).trans E4
 replace C := Zab C zo B5
 have hs45 := B5.size
 have B := Below.refl w5.heap.size w5
 have hl5 := lt_of_block E5
 clear B5 y0 y1 y2 yf
 go_wp2_with fail
 refine (Zad (h.bel B) hi 1).mono ?_
 rintro e u ⟨rfl, B'⟩
 replace B := Zab B zo B'
 clear B'
 rw [show (kdW W n0 == 1) = false by simp only [beq_eq_false_iff_ne, ne_eq]; omega]
 go_wp2_with fail
 refine (Zad (h.bel B) hi 4).mono ?_
 rintro e u ⟨rfl, B'⟩
 replace B := Zab B zo B'
 clear B'
 rw [show (kdW W n0 == 4) = false by simp only [beq_eq_false_iff_ne, ne_eq]; omega]
 go_wp2_with fail
 refine (Zad (h.bel B) hi 5).mono ?_
 rintro e u ⟨rfl, B'⟩
 replace B := Zab B zo B'
 clear B'
 rw [show (kdW W n0 == 5) = false by simp only [beq_eq_false_iff_ne, ne_eq]; omega]
 go_wp2_with fail
 refine (Zad (h.bel B) hi 6).mono ?_
 rintro e u ⟨rfl, B'⟩
 replace B := Zab B zo B'
 clear B'
 rw [show (kdW W n0 == 6) = false by simp only [beq_eq_false_iff_ne, ne_eq]; omega]
 go_wp2_with fail
 refine (Zad (h.bel B) hi 17).mono ?_
 rintro e u ⟨rfl, B'⟩
 replace B := Zab B zo B'
 clear B'
 rw [show (kdW W n0 == 17) = false by simp only [beq_eq_false_iff_ne, ne_eq]; omega]
 go_wp2_with fail
 refine (Zad (h.bel B) hi 10).mono ?_
 rintro e u ⟨rfl, B'⟩
 replace B := Zab B zo B'
 clear B'
 rw [show (kdW W n0 == 10) = false by simp only [beq_eq_false_iff_ne, ne_eq]; omega]
 go_wp2_with fail
 refine (Zad (h.bel B) hi 8).mono ?_
 rintro e u ⟨rfl, B'⟩
 replace B := Zab B zo B'
 clear B'
 rw [show (kdW W n0 == 8) = true by simp only [beq_iff_eq]; omega]
 replace h := h.bel B
 replace E1 := (B.block _ (lt_of_block E1)).trans E1
 replace E5 := (B.block _ hl5).trans E5
 replace C := Zab C zo B
 have hsu := B.size
 clear B
 have hC := C.size
 have hwd : IntKind.i64.wrap (((40 + 1 : Nat) : Int) - 1) = ((40 : Nat) : Int) := by rw [IntKind.wrap_i64]; omega
 go_wp2_with fail
 refine (Zff h hi).mono ?_
 rintro e w6 ⟨rfl, h6, F6⟩
 replace E1 := (F6.block _ (lt_of_block E1) (by omega)).trans E1
 replace E5 := (F6.block _ (lt_of_block E5) (by omega)).trans E5
 have F := (Fr.of_below C).thn zo F6
 have hs6 := F6.size
 clear C F6 h
 go_wp2_with fail
 refine (H w6 p n0 41 3 _ h6 hi (by decide)).mono ?_
 rintro e w7 ⟨v, rfl, hv, B7⟩
 have h7 := h6.bel B7
 have F7 := Fr.of_below (p := p) B7
 replace E1 := (F7.block _ (lt_of_block E1) (by omega)).trans E1
 replace E5 := (F7.block _ (lt_of_block E5) (by omega)).trans E5
 replace F := F.thn zo F7
 have hs7 := F7.size
 have hl1 := lt_of_block E1
 have hl5 := lt_of_block E5
 clear F7 h6
 obtain ⟨na, nc, ka, kc, _, rfl, _⟩ := NdV.parts hv
 go_wp2_with (refine Za8 rfl rfl rfl rfl rfl E5 ?_)
 intro w8 E8 S8
 replace hv := hv.imp (A' := fun b => w6.heap.size ≤ b) (fun b hb hA => ⟨hA, S8.block b (by omega)⟩) _ _
 replace h7 := h7.st S8 (by omega)
 replace E1 := (S8.block _ (by omega)).trans E1
 replace F := F.trans (Fr.of_below (S8.below (B := w.heap.size) (by omega))) zo
 have hs8 := S8.size
 clear S8 E5
 go_wp2_with fail
 refine (Ze5 h7 hi (by decide) 9).mono ?_
 rintro e w9 ⟨rfl, B9⟩
 have h9 := h7.bel B9
 have F9 := Fr.of_below (p := p) B9
 replace hv := NdB.fr (B := w6.heap.size) hv F9 (by omega)
 replace E1 := (F9.block _ (lt_of_block E1) (by omega)).trans E1
 replace E8 := (F9.block _ (lt_of_block E8) (by omega)).trans E8
 replace F := F.thn zo F9
 have hs9 := (F9).size
 obtain ⟨b0, off0, cc, c0, c1, c2, c3, c4, cf⟩ := h9.cells
 have f2 := cf 2
 go_upto_region 21 with fail
 have S9 := St.cell w9 p 2 (.int .i64 ((40 : Nat) : Int))
 replace h9 := h9.setDepth 40
 replace hv := NdB.st (B := w6.heap.size) hv S9 (by omega)
 replace E1 := (S9.block _ (by omega)).trans E1
 replace E8 := (S9.block _ (by omega)).trans E8
 replace F := F.trans (S9.fr (B := w.heap.size)) zo
 have hs10 := S9.size
 clear c0 c1 c2 c3 c4 cf f2 S9
 generalize w9.setCell ⟨p, 2, none⟩ (.int .i64 ((40 : Nat) : Int)) = w10 at *
 obtain ⟨z0, z1, z2, z3, z4, z5, zf⟩ := Zac E8
 go_wp2_with (refine Za8 rfl rfl rfl rfl rfl E1 ?_)
 intro wz Ez Sz
 go_wp2
 exact zT 2 (by rfl) (by rfl) (Zau Ez) (by rfl) ⟨_, Zhw hk rfl, ⟨_, _, _, rfl, NdV.out (hv : NdV (fun b => w6.heap.size ≤ b) _ _ _) Sz (by omega) (by omega), h9.st Sz (by omega), hi, by decide⟩, F.trans (Fr.of_below (Sz.below hq)) zo⟩
theorem Zlm (S : Src W E) (hi : n0 ≤ E) (hd : d ≤ 40) (HL : kdW W n0 = 17 → ConL W n0 d) (HB : kdW W n0 = 10 → Zdk 156 W (.block n0 d) n0 d) (HE : kdW W n0 = 8 → d < 40 → Zdk 49 W (.expr (n0 + 1) (d + 1)) (n0 + 1) (d + 1)) (HD : Zdj 49 W) : Zdk 137 W (.prim n0 d) n0 d := by
 intro w p h
 have hi' := S.lt hi
 by_cases k1 : kdW W n0 = 1
 ·exact (Zq1 S hi' k1 h).mono fun e w' ⟨v, he, hv, hp, F⟩ => ⟨_, Zje k1, ⟨v, he, hv, hp⟩, F⟩
 by_cases k4 : kdW W n0 = 4
 ·exact (Zq0 S hi' k4 h).mono fun e w' ⟨v, he, hv, hp, F⟩ => ⟨_, Zjh k4, ⟨v, he, hv, hp⟩, F⟩
 by_cases k5 : kdW W n0 = 5
 ·exact (Zqz S hi' k5 h).mono fun e w' ⟨v, he, hv, hp, F⟩ => ⟨_, Zjg k5, ⟨v, he, hv, hp⟩, F⟩
 by_cases k6 : kdW W n0 = 6
 ·exact (Zqy S hi' k6 h).mono fun e w' ⟨v, he, hv, hp, F⟩ => ⟨_, Zjf k6, ⟨v, he, hv, hp⟩, F⟩
 by_cases k17 : kdW W n0 = 17
 ·exact Zoe S hi' k17 (HL k17) h
 by_cases k10 : kdW W n0 = 10
 ·exact Zmm S hi' k10 (HB k10) h
 by_cases k8 : kdW W n0 = 8
 ·rcases Nat.lt_or_ge d 40 with hd' | hd'
  ·exact Zod S hi' k8 hd' (HE k8 hd') h
  obtain rfl : d = 40 := by omega
  exact Zof S hi' k8 HD h
 exact (Zq2 S hi' k1 k4 k5 k6 k17 k10 k8 h).mono fun e w' ⟨v, he, hv, hp, F⟩ => ⟨_, Zfy k1 k8 k10 k4 k5 k6 k17, ⟨v, _, _, he, hv, hp, hi', by decide⟩, F⟩
end
end Go.Proofs.YtncfmhlikmibaaaGreatDoor
