/- The document's parser: block. -/
import Derived.Test.YtncfmhlikmibaaaGreatDoorDsm
namespace Go.Proofs.YtncfmhlikmibaaaGreatDoor
open Go.RowKit
set_option maxRecDepth 100000
set_option maxHeartbeats 16000000
section
def TmpQ (W : List Tk) (n0 d : Nat) (ei : Int) (ti : Nat) (x0 y : Nd) (iz : Nat) (ez : Int) (tz : Nat) : Prop :=
 (ei = 0 ∧ kdW W n0 = 12 ∧ TmpR W (n0 + 1) d x0 y iz ez tz) ∨ ((ei ≠ 0 ∨ kdW W n0 ≠ 12) ∧ y = x0 ∧ iz = n0 ∧ ez = ei ∧ tz = ti)
variable {W : List Tk} {d n0 p ti : Nat} {ei : Int} {w : World}
theorem Zk3 {E : Nat} (S : Src W E) (hn : n0 < W.length) (ht : ei = 0 → ti = 0) {q B : Nat} {Z : Nat → Prop} {x0 : Nd} (G : Gd p B q Z w) (M : DMx w Z q x0) (hx0 : ei = 0 → x0.names.length ≤ n0) (h : Pr w p W n0 d ei ti) :
  Calls Tryz.prog 31 #[.pointer (some ⟨p, 0, none⟩), .pointer (some ⟨q, 0, none⟩)] w fun e w' => ∃ y iz ez tz, e = .returned (.tuple #[]) ∧ DMx w' Z q y ∧ Pr w' p W iz d ez tz ∧ iz < W.length ∧ Fr p B w w' ∧ TmpQ W n0 d ei ti x0 y iz ez tz := by
 by_cases he : ei = 0 ∧ kdW W n0 = 12
 ·obtain ⟨rfl, hk⟩ := he
  obtain rfl : ti = 0 := ht rfl
  refine (Zpe S hk G M (hx0 rfl) h).mono ?_
  rintro e w' ⟨y, iz, ez, tz, rfl, h1, h2, h3, h4, h5⟩
  exact ⟨y, iz, ez, tz, rfl, h1, h2, h3, h4, .inl ⟨rfl, hk, h5⟩⟩
 have hc : ei ≠ 0 ∨ kdW W n0 ≠ 12 := by
  by_cases h0 : ei = 0
  ·exact .inr fun h => he ⟨h0, h⟩
  exact .inl h0
 refine (temps_no h hn hc _).mono ?_
 rintro e w' ⟨rfl, B1⟩
 exact ⟨x0, n0, ei, ti, rfl, M.bel B1, h.bel B1, hn, (Fr.of_below B1).low G.hB, .inr ⟨hc, rfl, rfl, rfl, rfl⟩⟩
theorem Znv {t : Nat} {c : Int} (h : Pr w p W n0 d c t) (hi : n0 < W.length) (hc : c ≠ 0) (v : Value) (endk : Int) :
  Calls Tryz.prog 32 #[.pointer (some ⟨p, 0, none⟩), v, .int .i64 endk] w fun e w' => e = .returned (.tuple #[]) ∧ Below w.heap.size w w' := by
 have hcb : (c == 0) = false := by simp [hc]
 go_enter Tryz.func32, Tryz.ntmps32
 go_wp2_with fail
 go_loopw [] (fun wr => Below w.heap.size w wr) (fun _ => 0)
 case atStart => exact Below.refl _ _
 have hr : Below w.heap.size w wr := hrel
 have h1 := h.bel hr
 go_wp2_with fail
 refine (Zax h1 hi hc endk).mono ?_
 rintro e w1 ⟨rfl, B1⟩
 have h2 := h1.bel B1
 obtain ⟨b0, off0, cc, c0, c1, c2, c3, c4, cf⟩ := h2.cells
 have B2 := Zab hr zo B1
 go_wp2_with fail
 refine (Zax h2 hi hc endk).mono ?_
 rintro e w3 ⟨rfl, B3⟩
 have B4 := Zab B2 zo B3
 go_wp2_with fail
 refine (Zfc (h2.bel B3) hc 20).mono ?_
 rintro e w4 ⟨rfl, B5⟩
 go_wp2
 go_end0
 exact ⟨rfl, Zab B4 zo B5⟩
theorem Zk5 {E : Nat} (S : Src W E) {endk : Int} (hend : endk = 0 ∨ endk = 11) (hn : n0 < W.length) (hi : ei = 0 → ti = 0 ∧ n0 ≤ E ∧ ∀ j, n0 ≤ j → j ≤ E → Zdk 49 W (.expr j d) j d) {q B : Nat} {Z : Nat → Prop} {x0 : Nd} (G : Gd p B q Z w) (M : DMx w Z q x0) (h : Pr w p W n0 d ei ti) :
  Calls Tryz.prog 32 #[.pointer (some ⟨p, 0, none⟩), .pointer (some ⟨q, 0, none⟩), .int .i64 endk] w fun e w' => ∃ y iz ez tz, e = .returned (.tuple #[]) ∧ Zca w' Z q y ∧ Pr w' p W iz d ez tz ∧ iz < W.length ∧ Fr p B w w' ∧ (y.names = x0.names ∧ y.text = x0.text ∧ y.kids.length ≤ 6000) ∧ ((ei = 0 ∧ Zot W endk n0 d x0 y iz ez tz) ∨ (ei ≠ 0 ∧ ez = ei ∧ tz = ti)) := by
 by_cases he : ei = 0
 ·subst he
  obtain ⟨rfl, h1, h2⟩ := hi rfl
  refine (Zhg S hend h1 h2 G M h).mono ?_
  rintro e w' ⟨y, iz, ez, tz, g0, g1, g2, g3, g4, g5, g6⟩
  exact ⟨y, iz, ez, tz, g0, g1, g2, g3, g4, g5, .inl ⟨rfl, g6⟩⟩
 refine (Znv h hn he _ endk).mono ?_
 rintro e w' ⟨rfl, B1⟩
 exact ⟨x0, n0, ei, ti, rfl, Zca.ofM (M.bel B1), h.bel B1, hn, (Fr.of_below B1).low G.hB, ⟨rfl, rfl, by rw [M.kids]; exact Nat.zero_le _⟩, .inr ⟨he, rfl, rfl⟩⟩
theorem Zm6 (k : Int) (hk0 : k ≠ 0) (hn : n0 < W.length) (ht : ei = 0 → ti = 0) (h : Pr w p W n0 d ei ti) :
  Calls Tryz.prog 47 #[.pointer (some ⟨p, 0, none⟩), .int .i64 k] w fun e w' => ∃ tk tt tp i1 e1 t1, e = .returned (.agg #[.int .i64 tk, .string (strOfNums tt), .int .i64 tp]) ∧ Pr w' p W i1 d e1 t1 ∧ Fr p w.heap.size w w' ∧
   ((ei = 0 ∧ kdW W n0 = k ∧ tt = txW W n0 ∧ i1 = n0 + 1 ∧ e1 = 0 ∧ t1 = 0) ∨ (ei = 0 ∧ kdW W n0 ≠ k ∧ i1 = n0 ∧ e1 = 20 ∧ t1 = psW W n0) ∨ (ei ≠ 0 ∧ i1 = n0 ∧ e1 = ei ∧ t1 = ti)) := by
 by_cases he : ei = 0
 ·subst he
  obtain rfl : ti = 0 := ht rfl
  by_cases hk : kdW W n0 = k
  ·refine (Ze4 h hn k hk hk0).mono ?_
   rintro e w' ⟨rfl, g1, g2⟩
   exact ⟨kdW W n0, txW W n0, psW W n0, n0 + 1, 0, 0, rfl, g1, g2, .inl ⟨rfl, hk, rfl, rfl, rfl, rfl⟩⟩
  refine (Zkk h hn k hk).mono ?_
  rintro e w' ⟨rfl, g1, g2⟩
  exact ⟨0, [], 0, n0, 20, psW W n0, rfl, g1, g2, .inr (.inl ⟨rfl, hk, rfl, rfl, rfl⟩)⟩
 refine (Ze5 h hn he k).mono ?_
 rintro e w' ⟨rfl, B1⟩
 exact ⟨0, [], 0, n0, ei, ti, rfl, h.bel B1, Fr.of_below B1, .inr (.inr ⟨he, rfl, rfl, rfl⟩)⟩
theorem dis_con (hn : n0 < W.length) (h : Pr w p W n0 d ei ti) (k : Int) :
  Calls Tryz.prog 45 #[.pointer (some ⟨p, 0, none⟩), .int .i64 k] w fun e w' => ∃ b : Bool, e = .returned (.bool b) ∧ (b = true ↔ (ei = 0 ∧ kdW W n0 = k)) ∧ Below w.heap.size w w' := by
 by_cases he : ei = 0
 ·subst he
  refine (Zad h hn k).mono ?_
  rintro e w' ⟨rfl, g1⟩
  exact ⟨_, rfl, by simp, g1⟩
 refine (Zax h hn he k).mono ?_
 rintro e w' ⟨rfl, g1⟩
 exact ⟨false, rfl, by simp [he], g1⟩
end
theorem DMx.setN {w : World} {A : Nat → Prop} {q : Nat} {x : Nd} (h : DMx w A q x) (hq : ¬ A q) : DMx (w.setCell ⟨q, 3, none⟩ (.int .i64 (x.names.length : Int))) A q (gA x) := by
 obtain ⟨na, nc, E, o, hA⟩ := h.ex
 have S := St.cell w q 3 (.int .i64 (x.names.length : Int))
 refine ⟨h.kids, na, nc, ?_, ?_, hA⟩
 ·rw [heap_setCell_same w q 3 _ _ _ E]
  simp [gA, Nd.kind, Nd.text, Nd.pos, Nd.n, Nd.names]
 exact Zbh o (fun g hg _ => S.block g (fun e => hq (e ▸ hA g hg)))
theorem Zlp {W : List Tk} {E : Nat} (S : Src W E) {n0 d : Nat} (hd : d ≤ 40) (hk : kdW W n0 ≠ 0) {w : World} {p : Nat} (h : Pr w p W n0 d 0 0) :
  Calls Tryz.prog 80 #[.pointer (some ⟨p, 0, none⟩)] w fun r w' => r = .returned (.tuple #[]) ∧ ∃ i1 e1 t1, Pr w' p W i1 (d + 1) e1 t1 ∧ i1 < W.length ∧ Fr p w.heap.size w w' ∧ QSt W (.block n0 d) (n0 < i1 ∧ i1 ≤ E ∧ (blk0 W n0).names.length ≤ i1 ∧ BG1 W n0 d i1 (blk0 W n0)) e1 t1 := by
 have hl : n0 < E := S.ends.lt hk
 have hi := S.lt (Nat.le_of_lt hl)
 rcases Nat.lt_or_ge d 40 with hd' | hd'
 ·refine (Zd5 h hi hd' hk).mono ?_
  rintro e w' ⟨rfl, h1, F⟩
  exact ⟨rfl, n0 + 1, 0, 0, h1, S.lt hl, F, QSt.live ⟨by omega, hl, Nat.zero_le _, hd', fun r hr => hr⟩⟩
 obtain rfl : d = 40 := by omega
 refine (Zff h hi).mono ?_
 rintro e w' ⟨rfl, h1, F⟩
 exact ⟨rfl, n0, 3, _, h1, hi, F, QSt.dead (Zga rfl) (by decide)⟩
theorem Zkl {W : List Tk} {i : Nat} (d : Nat) (hi : i < W.length) (p : Nat) : ∃ (tk : Int) (tt : List Int) (tp : Int) (i1 : Nat) (e1' : Int) (t1' : Nat), (∀ w, Pr w p W i d 0 0 → Calls Tryz.prog 47 #[.pointer (some ⟨p, 0, none⟩), .int .i64 1] w fun e w' => e = .returned (.agg #[.int .i64 tk, .string (strOfNums tt), .int .i64 tp]) ∧ Pr w' p W i1 d e1' t1' ∧ Fr p w.heap.size w w') ∧
  Hid ((kdW W i = 1 ∧ tt = txW W i ∧ i1 = i + 1 ∧ e1' = 0 ∧ t1' = 0) ∨ (kdW W i ≠ 1 ∧ i1 = i ∧ e1' = 20 ∧ t1' = psW W i)) := by
 by_cases hk : kdW W i = 1
 ·exact ⟨kdW W i, txW W i, psW W i, i + 1, 0, 0, fun w hw => Ze4 hw hi 1 hk (by decide), .inl ⟨hk, rfl, rfl, rfl, rfl⟩⟩
 exact ⟨0, [], 0, i, 20, psW W i, fun w hw => Zkk hw hi 1 hk, .inr ⟨hk, rfl, rfl, rfl⟩⟩
def dblV (x : Nd) (p q g : Nat) (tk tp : Int) (tt : List Int) (na va : Option Addr) (nc vc : Nat) (j : Nat) : Value :=
 ([.pointer (some ⟨q, 4, none⟩),
  .slice na x.names.length nc,
  .pointer (some ⟨p, 0, none⟩),
  .agg #[.int .i64 tk, .string (strOfNums tt), .int .i64 tp],
  (.string (strOfNums tt)),
  .slice (some ⟨g, 0, none⟩) 1 1,
  .slice va (x.names.length + 1) vc,
  .pointer (some ⟨q, 4, none⟩)] : List Value).getD j undef
theorem Zoo {W : List Tk} {E : Nat} (S : Src W E) {n0 d : Nat} (hd : d ≤ 40) (hk : kdW W n0 ≠ 0) (HE : ∀ j, n0 < j → j ≤ E → d < 40 → Zdk 49 W (.expr j (d + 1)) j (d + 1)) : Zdk 156 W (.block n0 d) n0 d := by
 intro w p h
 have hpl := h.lt
 have hlt0 : n0 < E := S.ends.lt hk
 have hi := S.lt (Nat.le_of_lt hlt0)
 have hE5 := S.small
 have ff := fld2d
 have hwd : IntKind.i64.wrap (((d + 1 : Nat) : Int) - 1) = (d : Int) := by rw [IntKind.wrap_i64]; omega
 go_enter Tryz.func156, Tryz.ntmps156
 go_wp2_with (refine Zdn _ rfl rfl ?_)
 intro qr w1 E1 hq B1
 replace h := h.bel B1
 have hs1 := B1.size
 have hl1 := lt_of_block E1
 have F := Fr.of_below (p := p) B1
 clear B1
 go_wp2_with fail
 refine (Zb3 h hi).mono ?_
 rintro e w2 ⟨rfl, B2⟩
 replace h := h.bel B2
 replace E1 := (B2.block _ hl1).trans E1
 have hs2 := B2.size
 replace F := F.thn zo (Fr.of_below B2)
 clear B2
 unfold Zdh
 go_wp2_with (refine Zb5 rfl rfl rfl 3 rfl rfl rfl (fun _ => rfl) (fun _ => rfl) ?_)
 intro q w3 E3 hq3 B3
 replace h := h.bel B3
 have hs3 := B3.size
 replace E1 := (B3.block _ (lt_of_block E1)).trans E1
 replace F := F.thn zo (Fr.of_below B3)
 have hl3 := lt_of_block E3
 clear B3
 go_wp2_with fail
 refine (Zlp S hd hk h).mono ?_
 rintro e w4 ⟨rfl, i1, e1, t1, h4, hi1, F4, hL0⟩
 have hL : Hid (QSt W (.block n0 d) (n0 < i1 ∧ i1 ≤ E ∧ (blk0 W n0).names.length ≤ i1 ∧ BG1 W n0 d i1 (blk0 W n0)) e1 t1) := hL0
 have hs4 := F4.size
 replace E1 := (F4.block _ (lt_of_block E1) (by omega)).trans E1
 replace E3 := (F4.block _ hl3 (by omega)).trans E3
 replace F := F.thn zo F4
 have hZ : Zge w4 qr := ⟨_, _, _, _, _, _, E1⟩
 obtain ⟨B, Z, G, M, hwB, hqB⟩ : ∃ (B : Nat) (Z : Nat → Prop), Gd p B q Z w4 ∧ DMx w4 Z q (blk0 W n0) ∧ w.heap.size ≤ B ∧ qr < B ∧ B ≤ w4.heap.size :=
  ⟨w2.heap.size, fun b => w2.heap.size ≤ b ∧ b ≠ q, ⟨by omega, by omega, by omega, fun b hb => hb.1, fun h => h.2 rfl, fun b hb => ⟨by omega, by omega⟩⟩, DMx.new E3, by omega, by omega, by omega⟩
 have hBq := G.hq
 have hqp : q ≠ p := by omega
 have hAp : ¬ Z p := fun e => by have := G.lo p e; omega
 clear h hL0 E1 E3 F4
 have h := h4
 clear h4
 go_wp2_with fail
 go_loopw [] (fun wr => ∃ (i' : Nat) (x' : Nd) (ei : Int) (ti : Nat), DMx wr Z q x' ∧ Zge wr qr ∧ Pr wr p W i' (d + 1) ei ti ∧ Fr p w.heap.size w wr ∧ i' < W.length ∧ w4.heap.size ≤ wr.heap.size ∧ Hid (x'.names.length ≤ 5002 ∧ x'.text = []) ∧ Hid (QSt W (.block n0 d) (n0 < i' ∧ i' ≤ E ∧ x'.names.length ≤ i' ∧ BG1 W n0 d i' x') ei ti)) (fun wr => Zi1 E wr p)
 case atStart => exact ⟨i1, _, e1, t1, M, hZ, h, F, hi1, zo, ⟨Nat.zero_le _, rfl⟩, hL⟩
 clear M hZ h F hL hi1
 obtain ⟨i', x, ei, ti, M, hZ, h, F, hi', hsr, hX, hL⟩ := hrel
 by_cases hgo : ei = 0 ∧ kdW W i' = 16
 ·obtain ⟨rfl, hk16⟩ := hgo
  obtain ⟨ht0, hn0, hiE, hxl0, hB1⟩ := hL.out.1 rfl
  have hBG : Hid (BG1 W n0 d i' x) := hB1
  subst ht0
  clear hL hB1
  have hlt : i' < E := S.ends.lt (by rw [hk16]; decide)
  have hat : Zi1 E wr p = _ := h.mea
  go_wp2_with fail
  refine (Zad h hi' 16).mono ?_
  rintro e w5 ⟨rfl, B5⟩
  rw [show (kdW W i' == 16) = true by simp [hk16]]
  have hs5 := B5.size
  replace h := h.bel B5
  replace M := M.bel B5
  replace hZ := hZ.keep (fun hl => B5.block _ hl)
  replace F := F.thn zo (Fr.of_below B5)
  clear B5
  go_wp2_with fail
  refine (Za9 h hi' (by rw [hk16]; decide)).mono ?_
  rintro e w6 ⟨rfl, h6, F6⟩
  have hs6 := F6.size
  replace h := h6
  replace M := M.fr F6 hqp hAp
  have hZ6 := hZ.keep (fun hl => F6.block _ hl (by omega))
  replace F := F.thn zo F6
  clear h6 F6 hZ
  unfold Zdh
  have G6 := G.up (w' := w6) (by omega)
  have hxl : x.names.length ≤ 90000 := by omega
  obtain ⟨tk, tt, tp, i1, e1', t1', HC, hf⟩ := Zkl (W := W) (i := i' + 1) (d + 1) (S.lt hlt) p
  have hBl : B ≤ w6.heap.size := G6.hB
  have hqp : q ≠ p := by have := G6.hp; have := G6.hq; omega
  have hAp : ¬ Z p := fun e => by have := G6.lo p e; have := G6.hp; omega
  have hAq : ¬ Z q := G6.nq
  have hnw := G6.new
  have hAB := G6.lo
  have hAlo : ∀ b, Z b → p < b := fun b hb => by have := G6.lo b hb; have := G6.hp; omega
  have hkd := M.kids
  obtain ⟨na, nc, Ek, hO6, hoA⟩ := M.ex
  have Ekd : w6.drew.heap[q]? = _ := Ek
  have hOd : w6.drew.ownsRow 0 9 1 _ _ _ := hO6
  have h6d : Pr w6.drew p W (i' + 1) (d + 1) 0 0 ∧ Fr p w6.heap.size w6 w6.drew := ⟨h.drewP, Fr.drewF _ _ _⟩
  clear M
  go_wp2_with fail
  refine Zah fun A hA => ?_
  have hsz : A.tmps.size = 50 := by rw [hA]; rfl
  have s0 : A.tmps[0]? = some (.pointer (some ⟨p, 0, none⟩)) := by rw [hA]; rfl
  have s3 : A.tmps[3]? = some (.pointer (some ⟨q, 0, none⟩)) := by rw [hA]; rfl
  refine zR1 (fun A D a w' => ∃ (l : List Value) (va : Option Addr) (vc : Nat) (g : Nat), a = Zaj A 14 l ∧ l.length = 8 ∧ (∀ j, j < 8 → D j → l[j]? = some (dblV x p q g tk tp tt na va nc vc j)) ∧ (D 8 ∨ w'.heap[q]? = some (.cells #[.int .i64 x.kind, .string (strOfNums x.text), .int .i64 (x.pos : Int), .int .i64 (x.n : Int), .slice na x.names.length nc, .slice none 0 0] 31)) ∧ (D 3 ∨ (Pr w' p W (i' + 1) (d + 1) 0 0 ∧ Fr p w6.heap.size w6 w')) ∧ (D 6 ∨ w'.ownsRow 0 9 1 (.slice na x.names.length nc) x.names.length (x.names.map Zcr)) ∧ (D 8 → ∃ w9, (Pr w9 p W i1 (d + 1) e1' t1' ∧ Fr p B w6 w9 ∧ w9.ownsRow 0 9 1 (.slice va (x.names.length + 1) vc) (x.names.length + 1) ((x.names ++ [tt]).map Zcr) ∧ ∀ g', (Value.slice va (x.names.length + 1) vc).ownBlock = some g' → Z g') ∧ w' = w9.setCell ⟨q, 4, none⟩ (.slice va (x.names.length + 1) vc) ∧ w9.heap[q]? = some (.cells #[.int .i64 x.kind, .string (strOfNums x.text), .int .i64 (x.pos : Int), .int .i64 (x.n : Int), .slice na x.names.length nc, .slice none 0 0] 31)) ∧ (D 3 → ¬ D 5 → (Pr w' p W i1 (d + 1) e1' t1' ∧ Fr p w6.heap.size w6 w')) ∧ (D 5 → ¬ D 6 → (Pr w' p W i1 (d + 1) e1' t1' ∧ Fr p w6.heap.size w6 w' ∧ w'.heap[g]? = some (.cells #[.string (strOfNums tt)] 9) ∧ w6.heap.size ≤ g)) ∧ (D 6 → ¬ D 8 → (Pr w' p W i1 (d + 1) e1' t1' ∧ Fr p B w6 w' ∧ w'.ownsRow 0 9 1 (.slice va (x.names.length + 1) vc) (x.names.length + 1) ((x.names ++ [tt]).map Zcr) ∧ ∀ g', (Value.slice va (x.names.length + 1) vc).ownBlock = some g' → Z g'))) ?start ?step ?done
  case start => exact ⟨_, none, 0, 0, zS 14 8 hsz, zG 14 8 hsz, zK, .inr (Ekd), .inr (h6d), .inr (hOd), zf, zF, zF, zF⟩
  case step =>
   clear hA
   intro i o ho D a w' hI hn hcl hd
   obtain ⟨l, va, vc, g, ha, Lh, hl, hE, hN, hO, hQ, hL, hM, hR⟩ := hI
   match i, ho with
   | 0, ho =>
    cases zq ho
    have ev : a.tmps[3]? = some (.pointer (some ⟨q, 0, none⟩)) := zu 3 ha Lh hsz s3
    exact zx (.pointer (some ⟨q, 4, none⟩)) (by simp [execOp, ev, go_sem]) ⟨_, va, vc, g, zp 0 ha Lh hsz, zh Lh, zk Lh hl, zl hE, zl hN, zl hO, zr hQ, zs hL, zs hM, zs hR⟩
   | 1, ho =>
    cases zq ho
    have ev : a.tmps[14]? = some (.pointer (some ⟨q, 4, none⟩)) := zv ha hsz Lh hl 0 hd
    have e1 := hE.resolve_left (fun h => hn (zc hcl 6 1 rfl (zc hcl 8 6 rfl h)))
    obtain ⟨z0, z1, z2, z3, z4, z5, _⟩ := Zac e1
    exact zx (.slice na x.names.length nc) (by simp [execOp, ev, go_sem, z4]) ⟨_, va, vc, g, zp 1 ha Lh hsz, zh Lh, zk Lh hl, zl hE, zl hN, zl hO, zr hQ, zs hL, zs hM, zs hR⟩
   | 2, ho =>
    cases zq ho
    exact zm (zu 0 ha Lh hsz s0) ⟨_, va, vc, g, zp 2 ha Lh hsz, zh Lh, zk Lh hl, zl hE, zl hN, zl hO, zr hQ, zs hL, zs hM, zs hR⟩
   | 3, ho =>
    cases zq ho
    have ev : a.tmps[16]? = some (.pointer (some ⟨p, 0, none⟩)) := zv ha hsz Lh hl 2 hd
    have h6 := hN.resolve_left hn
    have e1 := hE.resolve_left (fun h => hn (zc hcl 4 3 rfl (zc hcl 5 4 rfl (zc hcl 6 5 rfl (zc hcl 8 6 rfl h)))))
    have o1 := hO.resolve_left (fun h => hn (zc hcl 4 3 rfl (zc hcl 5 4 rfl (zc hcl 6 5 rfl h))))
    refine Zan (f := 47) (args := #[.pointer (some ⟨p, 0, none⟩), .int .i64 1]) (by simp [execOp, ev, go_sem]) ?_
    refine (HC w' h6.1).mono ?_
    rintro e w6 ⟨rfl, h9, F9⟩
    refine ⟨_, rfl, ?_⟩
    exact ⟨_, va, vc, g, zp 3 ha Lh hsz, zh Lh, zk Lh hl, .inr ((F9.block q (lt_of_block e1) hqp).trans e1), .inl (.inl rfl), .inr (Zbh o1 (fun g' hg' hl => F9.block g' hl (fun e => hAp (e ▸ hoA g' hg')))), za (fun h => hn (zc hcl 4 3 rfl (zc hcl 5 4 rfl (zc hcl 6 5 rfl (zc hcl 8 6 rfl h))))), fun _ _ => ⟨h9, h6.2.trans F9 h6.2.size⟩, zb (fun h => hn (zc hcl 4 3 rfl (zc hcl 5 4 rfl h))), zb (fun h => hn (zc hcl 4 3 rfl (zc hcl 5 4 rfl (zc hcl 6 5 rfl h))))⟩
   | 4, ho =>
    cases zq ho
    have ev : a.tmps[17]? = some (.agg #[.int .i64 tk, .string (strOfNums tt), .int .i64 tp]) := zv ha hsz Lh hl 3 hd
    exact zx (.string (strOfNums tt)) (by simp [execOp, ev, go_sem, Zhf]) ⟨_, va, vc, g, zp 4 ha Lh hsz, zh Lh, zk Lh hl, zl hE, zl hN, zl hO, zr hQ, zs hL, zs hM, zs hR⟩
   | 5, ho =>
    cases zq ho
    have ev : a.tmps[18]? = some ((.string (strOfNums tt))) := zv ha hsz Lh hl 4 hd
    have L := hL (zc hcl 4 3 rfl (zd hd 4)) hn
    have e1 := hE.resolve_left (fun h => hn (zc hcl 6 5 rfl (zc hcl 8 6 rfl h)))
    have o1 := hO.resolve_left (fun h => hn (zc hcl 6 5 rfl h))
    refine Zba (w' := w'.alloc (.cells #[.string (strOfNums tt)] 9)) (v := .slice (some ⟨w'.heap.size, 0, none⟩) 1 1) (by simp [execOp, ev, go_sem]) ?_
    exact ⟨_, va, vc, w'.heap.size, zp 5 ha Lh hsz, zh Lh, Zai (val' := dblV x p q w'.heap.size tk tp tt na va nc vc) Lh (by decide) hl (fun j hj hne => match j, hj, hne with | 0, _, _ => rfl | 1, _, _ => rfl | 2, _, _ => rfl | 3, _, _ => rfl | 4, _, _ => rfl | 5, _, hne => absurd rfl hne | 6, _, _ => rfl | 7, _, _ => rfl | j + 8, _, _ => rfl), .inr ((Zbc.block q (lt_of_block e1)).trans e1), .inl (.inr (zc hcl 4 3 rfl (zd hd 4))), .inr (Zbh o1 (fun g' hg' hl => Zbc.block g' hl)), za (fun h => hn (zc hcl 6 5 rfl (zc hcl 8 6 rfl h))), zi, fun _ _ => ⟨L.1.bel Zbc, L.2.thn zo (Fr.of_below Zbc), Zc0 w' _, L.2.size⟩, zb (fun h => hn (zc hcl 6 5 rfl h))⟩
   | 6, ho =>
    cases zq ho
    have ev : a.tmps[15]? = some (.slice na x.names.length nc) := zv ha hsz Lh hl 1 hd
    have ev' : a.tmps[19]? = some (.slice (some ⟨g, 0, none⟩) 1 1) := zv ha hsz Lh hl 5 hd
    have M := hM (zd hd 5) hn
    have e1 := hE.resolve_left (fun h => hn (zc hcl 8 6 rfl h))
    have o1 := hO.resolve_left hn
    obtain ⟨i9, hi9, hz9, hs9, hb9⟩ := Zb1 Zoa
    obtain ⟨v', w7, hr7, o7, g7, p7⟩ := Zd0 w' 22 22 9 Tryz.underlying22 hi9 hz9 hs9 hb9 rfl (by decide) (by decide) o1 ⟨g, 0, none⟩ 1 1 [.string (strOfNums tt)] rfl (fun j u hj => by match j, hj with | 0, hj => simp at hj; subst hj; rw [Za7]; simp [World.cell?, M.2.2.1]) (by simp [Value.oneCell']) (by omega) (Nat.zero_le _)
    have o7' : w7.ownsRow 0 9 1 v' (x.names.length + 1) ((x.names ++ [tt]).map Zcr) := by rw [List.map_append]; exact o7
    obtain ⟨va', vc', rfl⟩ : ∃ a c, v' = .slice a (x.names.length + 1) c := by
      rcases o7'.2 with ⟨rfl, h0⟩ | ⟨g', cap, cur, rfl, _⟩
      ·exact absurd h0 (by omega)
      exact ⟨_, _, rfl⟩
    have k7 : Kp (.slice na x.names.length nc) w' w7 := ⟨g7.os, g7.tape, g7.output, g7.size, fun b hb hne => g7.block b hb (fun e => hne e.symm)⟩
    have hA7 : ∀ g', (Value.slice va' (x.names.length + 1) vc').ownBlock = some g' → Z g' := fun g' hg' => (p7 g' hg').elim (hoA g') (fun h => hnw g' (Nat.le_trans M.2.1.size h))
    refine Lib.wp_append_run w' (.tmp 15) (.tmp 19) 22 22 rfl _ _ (by simpa [Act.eval] using Zav ev) (by simpa [Act.eval] using Zav ev') _ w7 hr7 ?_
    exact ⟨_, va', vc', g, zp 6 ha Lh hsz, zh Lh, Zai (val' := dblV x p q g tk tp tt na va' nc vc') Lh (by decide) hl (fun j hj hne => match j, hj, hne with | 0, _, _ => rfl | 1, _, _ => rfl | 2, _, _ => rfl | 3, _, _ => rfl | 4, _, _ => rfl | 5, _, _ => rfl | 6, _, hne => absurd rfl hne | 7, _, _ => rfl | j + 8, _, _ => rfl), .inr ((k7.block q (lt_of_block e1) (fun e => hAq (hoA q e))).trans e1), .inl (.inr (zc hcl 4 3 rfl (zc hcl 5 4 rfl (zd hd 5)))), .inl (.inl rfl), za (fun h => hn (zc hcl 8 6 rfl h)), zj (zd hd 5), zi, fun _ _ => ⟨pr_kp M.1 k7 (fun g' hg' => hAlo g' (hoA g' hg')) , Zqs M.2.1 k7 (fun g' hg' => hAB g' (hoA g' hg')), o7', hA7⟩⟩
   | 7, ho =>
    cases zq ho
    have ev : a.tmps[3]? = some (.pointer (some ⟨q, 0, none⟩)) := zu 3 ha Lh hsz s3
    exact zx (.pointer (some ⟨q, 4, none⟩)) (by simp [execOp, ev, go_sem]) ⟨_, va, vc, g, zp 7 ha Lh hsz, zh Lh, zk Lh hl, zl hE, zl hN, zl hO, zr hQ, zs hL, zs hM, zs hR⟩
   | 8, ho =>
    cases zq ho
    have ev : a.tmps[21]? = some (.pointer (some ⟨q, 4, none⟩)) := zv ha hsz Lh hl 7 hd
    have ev' : a.tmps[20]? = some (.slice va (x.names.length + 1) vc) := zv ha hsz Lh hl 6 hd
    have e1 := hE.resolve_left hn
    obtain ⟨z0, z1, z2, z3, z4, z5, zf⟩ := Zac e1
    have zf4 := zf 4
    have M := hR (zd hd 6) hn
    refine Zbj (w' := w'.setCell ⟨q, 4, none⟩ (.slice va (x.names.length + 1) vc)) (by simp [execOp, Act.eval, ev, ev', go_sem, z4, zf4]) ?_
    exact ⟨l, va, vc, g, ha, Lh, zJ hl, .inl (.inl rfl), .inl (.inr (zc hcl 4 3 rfl (zc hcl 5 4 rfl (zc hcl 6 5 rfl (zd hd 6))))), .inl (.inr (zd hd 6)), fun _ => ⟨w', M, rfl, e1⟩, zj (zc hcl 6 5 rfl (zd hd 6)), zj (zd hd 6), zi⟩
   | i + 9, ho => simp at ho
  rintro D a w' ⟨l, va, vc, g, ha, Lh, hl, hE, hN, hO, hQ, hL, hM, hR⟩ hall
  obtain ⟨v0, v1, v2, v3, v4, v5, v6, v7, rfl⟩ := zL8 Lh
  obtain ⟨w9, ⟨h9, F9, o9, hA9⟩, ew, E9⟩ := hQ (hall 8 (by decide))
  subst hA
  have hfr : a = _ := ha
  rw [hfr]
  clear hfr ha
  simp only [Zaj, yA, yB, yC, yD, yE, yF, yG, yH]
  clear hl hE hN hO hL hM hR hQ hall
  have M9 := DMx.tmp hkd E9 o9 hA9 hAq
  have S9 := St.cell w9 q 4 (.slice va (x.names.length + 1) vc)
  replace h9 := h9.st S9 (by have := G6.hp; have := G6.hq; omega)
  replace F9 := F9.trans (Fr.of_below (S9.below (B := B) G6.hq)) zo
  have hs9 := F9.size
  rw [← ew] at M9 h9 F9 hs9
  clear ew S9 E9 o9 hA9
  have hZ9 := hZ6.keep (fun hl => F9.block qr (by omega) (by omega))
  replace F := F.trans (F9.low (B' := w.heap.size) (by omega)) zo
  go_wp2
  go_roundw
  case rel =>
   have hln : (x.tmp tt).names.length = x.names.length + 1 := by show (x.names ++ [tt]).length = _; simp
   rcases hf.out with ⟨k1, rfl, rfl, rfl, rfl⟩ | ⟨k1, rfl, rfl, rfl⟩
   ·have hlt1 : i' + 1 < E := S.ends.lt (by rw [k1]; decide)
    exact ⟨i' + 1 + 1, _, 0, 0, M9, hZ9, h9, F, S.lt hlt1, by omega, ⟨by omega, hX.out.2⟩, QSt.live ⟨by omega, hlt1, by omega, hBG.out.go hk16 k1⟩⟩
   exact ⟨i' + 1, _, 20, _, M9, hZ9, h9, F, S.lt hlt, by omega, ⟨by omega, hX.out.2⟩, QSt.dead (hBG.out.bad hk16 k1) (by decide)⟩
  rcases hf.out with ⟨k1, rfl, rfl, rfl, rfl⟩ | ⟨k1, rfl, rfl, rfl⟩
  ·rw [h9.mea, hat]; simp; omega
  rw [h9.mea, hat]; simp; omega
 have hcall : Calls Tryz.prog 45 #[.pointer (some ⟨p, 0, none⟩), .int .i64 16] wr fun e w' => e = .returned (.bool false) ∧ Below wr.heap.size wr w' := by
  by_cases he : ei = 0
  ·subst he
   have hti : ti = 0 := (hL.out.1 rfl).1
   subst hti
   have := Zad h hi' 16
   rwa [show (kdW W i' == 16) = false by simp only [beq_eq_false_iff_ne, ne_eq]; exact fun hk => hgo ⟨rfl, hk⟩] at this
  exact Zax h hi' he 16
 go_wp2_with fail
 refine hcall.mono ?_
 rintro e w5 ⟨rfl, B5⟩
 have hs5 := B5.size
 replace M := M.bel B5
 replace hZ := hZ.keep (fun hl => B5.block _ hl)
 replace F := F.thn zo (Fr.of_below B5)
 replace h := h.bel B5
 clear B5 hcall
 obtain ⟨na, nc, Ek, _, _⟩ := M.ex
 obtain ⟨z0, z1, z2, z3, z4, z5, zf⟩ := Zac Ek
 have zf3 := zf 3
 go_upto_region 7 with fail
 have S7 := St.cell w5 q 3 (.int .i64 (x.names.length : Int))
 replace M := M.setN G.nq
 replace h := h.st S7 (by omega)
 replace hZ := hZ.keep (fun hl => S7.block qr (by omega))
 replace F := F.trans (Fr.of_below (S7.below (B := w.heap.size) (by omega))) zo
 have hs7 := S7.size
 clear Ek z0 z1 z2 z3 z4 z5 zf zf3 S7
 generalize w5.setCell ⟨q, 3, none⟩ (.int .i64 (x.names.length : Int)) = w7 at *
 obtain ⟨na, nc, Ek, _, _⟩ := M.ex
 obtain ⟨z0, z1, z2, z3, z4, z5, zf⟩ := Zac Ek
 have hgn : (gA x).n = x.names.length := rfl
 rw [hgn] at z3
 go_cut [33] from 22 to 33 (fun v33 wx => ∃ b : Bool, v33 = .bool b ∧ (b = true ↔ (x.names.length ≠ 0 ∧ ¬ (ei = 0 ∧ kdW W i' = 11))) ∧ Below w7.heap.size w7 wx)
 case first =>
  by_cases hN : x.names.length = 0
  ·have hN1 : ¬ (0 : Int) < (x.names.length : Int) := by omega
   have hN2 : ¬ 0 < x.names.length := by omega
   go_wp2
   go_meet
   case rel => exact ⟨false, rfl, by simp [hN], Below.refl _ _⟩
  have hN1 : (0 : Int) < (x.names.length : Int) := by omega
  have hN2 : 0 < x.names.length := by omega
  go_wp2_with fail
  refine (dis_con hi' h 11).mono ?_
  rintro e w8 ⟨b, rfl, hb, B8⟩
  cases b with
  | true =>
   have hb' := hb.1 rfl
   go_wp2
   go_meet
   case rel => exact ⟨false, rfl, ⟨fun h => (by cases h), fun h => absurd hb' h.2⟩, B8⟩
  | false =>
   go_wp2
   go_meet
   case rel => exact ⟨true, rfl, ⟨fun _ => ⟨hN, fun h => (by have := hb.2 h; cases this)⟩, fun _ => rfl⟩, B8⟩
 case rest =>
 obtain ⟨b, rfl, hb, B8⟩ := hcut
 clear z0 z1 z2 z3 z4 z5 zf Ek
 have hs8 := B8.size
 replace M := M.bel B8
 replace hZ := hZ.keep (fun hl => B8.block _ hl)
 replace F := F.thn zo (Fr.of_below B8)
 replace h := h.bel B8
 clear B8
 go_upto_if 33 with fail
 go_cut [] from 22 to 35 (fun wx => ∃ (iz : Nat) (ez : Int) (tz : Nat), DMx wx Z q (gA x) ∧ Zge wx qr ∧ Pr wx p W iz (d + 1) ez tz ∧ Fr p w.heap.size w wx ∧ iz < W.length ∧ w4.heap.size ≤ wx.heap.size ∧ Hid (QSt W (.block n0 d) (n0 < iz ∧ iz ≤ E ∧ x.names.length ≤ iz ∧ BG2 W n0 d iz (gA x)) ez tz))
 case first =>
  cases b with
  | false =>
   have hno := fun h => Bool.false_ne_true (hb.2 h)
   have hq1 : QSt W (.block n0 d) (n0 < i' ∧ i' ≤ E ∧ x.names.length ≤ i' ∧ BG2 W n0 d i' (gA x)) ei ti := by
    by_cases he : ei = 0
    ·have h1 := hL.out.1 he
     refine ⟨fun _ => ⟨h1.1, h1.2.1, h1.2.2.1, h1.2.2.2.1, h1.2.2.2.2.none (fun hk => hgo ⟨he, hk⟩) ?_⟩, fun h => absurd he h⟩
     by_cases hN : x.names.length = 0
     ·exact .inl hN
     by_cases h11 : kdW W i' = 11
     ·exact .inr h11
     exact absurd ⟨hN, fun h => h11 h.2⟩ hno
    exact hL.out.pass he
   go_wp2
   go_meet
   case rel => exact ⟨i', ei, ti, M, hZ, h, F, hi', by omega, hq1⟩
  | true =>
   obtain ⟨hN, hnb⟩ := hb.1 rfl
   clear hb
   go_wp2_with fail
   refine (Zm6 12 (by decide) hi' (fun he => (hL.out.1 he).1) h).mono ?_
   rintro e w9 ⟨tk, tt, tp, i2, e2, t2, rfl, h9, F9, hf⟩
   have hs9 := F9.size
   replace M := M.fr F9 hqp hAp
   replace hZ := hZ.keep (fun hl => F9.block _ hl (by omega))
   replace F := F.thn zo F9
   go_wp2
   go_meet
   case rel =>
    rcases hf with ⟨rfl, hk, _, rfl, rfl, rfl⟩ | ⟨rfl, hk, rfl, rfl, rfl⟩ | ⟨he, rfl, rfl, rfl⟩
    ·have hlt : i' < E := S.ends.lt (by rw [hk]; decide)
     obtain ⟨_, g1, g2, g3, g4⟩ := hL.out.1 rfl
     exact ⟨_, _, _, M, hZ, h9, F, S.lt hlt, by omega, QSt.live ⟨by omega, hlt, by omega, g4.bar hN hk⟩⟩
    ·obtain ⟨_, g1, g2, g3, g4⟩ := hL.out.1 rfl
     exact ⟨_, _, _, M, hZ, h9, F, hi', by omega, QSt.dead (g4.no (fun hk => hgo ⟨rfl, hk⟩) hN (fun hk' => hnb ⟨rfl, hk'⟩) hk) (by decide)⟩
    exact ⟨_, _, _, M, hZ, h9, F, hi', by omega, hL.out.pass he⟩
 obtain ⟨i2, e2, t2, M2, hZ2, h2, F2, hi2, hs2, hL2⟩ := hcut
 clear M hZ h F hL hgo hb hi'
 have G2 := G.up (w' := wc) (by omega)
 have hxg : (gA x).names.length ≤ 5002 := hX.out.1
 go_wp2_with fail
 refine (Zk3 S hi2 (fun he => (hL2.out.1 he).1) G2 M2 (fun he => (hL2.out.1 he).2.2.2.1) h2).mono ?_
 rintro e w8 ⟨y, iz, ez, tz, rfl, M8, h8, hiz, F8, hT⟩
 have hs8 := F8.size
 have hZ8 := hZ2.keep (fun hl => F8.block _ (by omega) (by omega))
 replace F2 := F2.trans (F8.low (B' := w.heap.size) (by omega)) zo
 clear F8 hZ2 M2 h2 G2
 have G8 := G.up (w' := w8) (by omega)
 have hL3 : Hid (QSt W (.block n0 d) (n0 < iz ∧ iz ≤ E ∧ BG3 W n0 d iz y) ez tz ∧ y.names.length ≤ 6000 ∧ y.text = []) := by
  rcases hT with ⟨rfl, hk12, ⟨_, g2, _, _, _, g6⟩, hR⟩ | ⟨hc, rfl, rfl, rfl, rfl⟩
  ·obtain ⟨_, g1, g3, g4, g5⟩ := hL2.out.1 rfl
   refine ⟨?_, ?_, ?_⟩
   ·rcases hR with ⟨rfl, rfl, hR⟩ | ⟨he, j, hR, rfl⟩
    ·have hj := hR.adv S.ends
     have hlt : i2 < E := S.ends.lt (by rw [hk12]; decide)
     simp only [Adv, Qy.place, Qy.takes, Qy.asks] at hj
     replace hj := hj (by omega)
     exact QSt.live ⟨by omega, hj.2, g5.temps hk12 hR⟩
    exact QSt.dead (g5.er hk12 hR) he
   ·have := S.ends.len; have := S.small; omega
   rw [g2]; exact hX.out.2
  refine ⟨?_, by omega, hX.out.2⟩
  by_cases he : ez = 0
  ·obtain ⟨g0, g1, g3, g4, g5⟩ := hL2.out.1 he
   exact ⟨fun _ => ⟨g0, g1, g3, g5.plain (hc.resolve_left (fun h => h he))⟩, fun h => absurd he h⟩
  exact hL2.out.pass he
 clear hT hL2
 go_wp2_with fail
 refine (Zk5 S (.inr rfl) hiz (fun he => ⟨(hL3.out.1.1 he).1, (hL3.out.1.1 he).2.2.1, fun j hj hjE => HE j (by have := (hL3.out.1.1 he).2.1; omega) hjE (hL3.out.1.1 he).2.2.2.1⟩) G8 M8 h8).mono ?_
 rintro e w9 ⟨z, ie, ee, te, rfl, K9, h9, hie, F9, hzz, hSt⟩
 have hs9 := F9.size
 have hZ9 := hZ8.keep (fun hl => F9.block _ (by omega) (by omega))
 replace F2 := F2.trans (F9.low (B' := w.heap.size) (by omega)) zo
 clear F9 hZ8 M8 h8 G8
 have hL4 : Hid (QSt W (.block n0 d) (BG4 W n0 d ie z) ee te) := by
  rcases hSt with ⟨rfl, hS⟩ | ⟨he, rfl, rfl⟩
  ·exact (hL3.out.1.1 rfl).2.2.2.stm hS
  exact hL3.out.1.pass he
 have hzn : z.names.length ≤ 6000 := by rw [hzz.1]; exact hL3.out.2.1
 have hzt : z.text.length ≤ 0 := by rw [hzz.2.1, hL3.out.2.2]; exact Nat.le_refl _
 have hzk := hzz.2.2
 clear hSt hL3 hzz
 go_wp2_with fail
 refine (Zm6 11 (by decide) hie (fun he => (hL4.out.1 he).1) h9).mono ?_
 rintro e wa ⟨tk, tt, tp, i3, e3, t3, rfl, ha, Fa, hf⟩
 have hsa := Fa.size
 replace K9 := K9.fr Fa hqp hAp
 have hZa := hZ9.keep (fun hl => Fa.block _ hl (by omega))
 replace F2 := F2.thn zo Fa
 clear Fa h9 hZ9
 have hi3 : i3 < W.length := by
  rcases hf with ⟨_, hk, _, rfl, _, _⟩ | ⟨_, _, rfl, _⟩ | ⟨_, rfl, _⟩
  ·exact S.lt (S.ends.lt (by rw [hk]; decide))
  ·exact hie
  exact hie
 obtain ⟨b0, off0, cc, c0, c1, c2, c3, c4, cf⟩ := ha.cells
 have f2 := cf 2
 go_upto_region 13 with fail
 have Sb := St.cell wa p 2 (.int .i64 (d : Int))
 replace ha := ha.setDepth d
 replace K9 := K9.st Sb hqp hAp
 have hZb := hZa.keep (fun hl => Sb.block qr (by omega))
 replace F2 := F2.trans (Sb.fr (B := w.heap.size)) zo
 have hsb := Sb.size
 clear c0 c1 c2 c3 c4 cf f2 Sb hZa
 generalize wa.setCell ⟨p, 2, none⟩ (.int .i64 (d : Int)) = wb at *
 obtain ⟨na, nc, ka, kc, Ek, hv⟩ := K9.nd (by omega) (by omega) (by omega)
 obtain ⟨z0, z1, z2, z3, z4, z5, _⟩ := Zac Ek
 obtain ⟨u0, u1, u2, u3, u4, u5, E2⟩ := hZb
 go_wp2_with (refine Za8 rfl rfl rfl rfl rfl E2 ?_)
 intro wz Ez Sz
 go_wp2
 have hvo := hv.imp (A' := fun b => w.heap.size ≤ b) (w' := wz) (fun b _ hA => ⟨by have := G.lo b hA; omega, Sz.block b (fun e => by have := G.lo b hA; omega)⟩) _ _
 have hzz := ha.st Sz (by omega)
 have hFF := F2.trans (Fr.of_below (Sz.below hq)) zo
 rcases hf with ⟨rfl, hk, _, rfl, rfl, rfl⟩ | ⟨rfl, hk, _⟩ | ⟨he, rfl, rfl, rfl⟩
 ·exact zT 2 (by rfl) (by rfl) (Zau Ez) (by rfl) ⟨_, (hL4.out.1 rfl).2.2, ⟨_, rfl, hvo, hzz⟩, hFF⟩
 ·exact absurd (hL4.out.1 rfl).2.1 hk
 obtain ⟨j, rfl, hr⟩ := hL4.out.2 he
 exact zT 2 (by rfl) (by rfl) (Zau Ez) (by rfl) ⟨_, hr, ⟨_, _, _, rfl, hvo, hzz, hi3, he⟩, hFF⟩
end Go.Proofs.YtncfmhlikmibaaaGreatDoor
