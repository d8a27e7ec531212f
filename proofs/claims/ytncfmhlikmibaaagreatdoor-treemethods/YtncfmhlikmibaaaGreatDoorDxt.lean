/- The document's parser: an expression that begins with a name. -/
import Derived.Test.YtncfmhlikmibaaaGreatDoorDxp
namespace Go.Proofs.YtncfmhlikmibaaaGreatDoor
open Go.RowKit
set_option maxRecDepth 100000
set_option maxHeartbeats 16000000
section
def SetR (W : List Tk) (n0 d : Nat) (y : Nd) (iz : Nat) (ez : Int) (tz : Nat) : Prop :=
 (ez = 0 ∧ tz = 0 ∧ Zaa W (.expr n0 d) (.ok (.mk 6 (txW W n0) (psW W n0) 0 [] [y]) iz)) ∨ (ez ≠ 0 ∧ ∃ j, Zaa W (.expr n0 d) (.er j ez) ∧ tz = psW W j)
variable {E d n0 : Nat} {W : List Tk}
theorem Zol (S : Src W E) (hd : d ≤ 40) (hk : kdW W n0 = 1) (hk7 : kdW W (n0 + 1) = 7) (HE : d < 40 → Zdk 49 W (.expr (n0 + 2) (d + 1)) (n0 + 2) (d + 1)) (HD : Zdj 49 W) {w : World} {p : Nat} (h : Pr w p W (n0 + 1) d 0 0) :
  Calls Tryz.prog 80 #[.pointer (some ⟨p, 0, none⟩)] w fun r w' => r = .returned (.tuple #[]) ∧ ∃ i1 e1 t1, Pr w' p W i1 (d + 1) e1 t1 ∧ Fr p w.heap.size w w' ∧ ConV 49 p W i1 (d + 1) e1 t1 (SetR W n0 d) := by
 have hl : n0 + 1 < E := S.ends.lt (by rw [hk7]; decide)
 have hi := S.lt (Nat.le_of_lt hl)
 rcases Nat.lt_or_ge d 40 with hd' | hd'
 ·refine (Zd5 h hi hd' (by rw [hk7]; decide)).mono ?_
  rintro e w' ⟨rfl, h1, F⟩
  refine ⟨rfl, n0 + 2, 0, 0, h1, F, ?_⟩
  intro w2 h2
  refine ((HE hd').v (fun y j hr => ?_) w2 h2).mono ?_
  ·have := hr.adv S.ends
   simp only [Adv, Qy.place, Qy.takes, Qy.asks] at this
   exact S.lt (this (by omega)).2
  rintro e w3 ⟨y, u, iz, ez, tz, g1, g2, g3, g4, g5, g6⟩
  refine ⟨y, u, iz, ez, tz, g1, g2, g3, g4, g5, ?_⟩
  rcases g6 with ⟨r1, r2, r3⟩ | ⟨r1, j, r2, r3⟩
  ·exact .inl ⟨r1, r2, Zjq r3 hk hk7 (by omega)⟩
  exact .inr ⟨r1, j, Zl4 r2 hk hk7 (by omega), r3⟩
 obtain rfl : d = 40 := by omega
 refine (Zff h hi).mono ?_
 rintro e w' ⟨rfl, h1, F⟩
 refine ⟨rfl, n0 + 1, 3, _, h1, F, ?_⟩
 intro w2 h2
 refine (HD w2 p (n0 + 1) 41 3 _ h2 hi (by decide)).mono ?_
 rintro e w3 ⟨v, g1, g2, g3⟩
 exact ⟨_, v, n0 + 1, 3, _, g1, g2, h2.bel g3, hi, Fr.of_below g3, .inr ⟨by decide, n0 + 1, Zh2 hk hk7 rfl, rfl⟩⟩
def dxtV (W : List Tk) (p n0 b off c' : Nat) (j : Nat) : Value :=
 ([.pointer (some ⟨p, 0, none⟩),
  .bool true,
  .bool true,
  .pointer (some ⟨p, 0, none⟩),
  .pointer (some ⟨p, 0, none⟩),
  .pointer (some ⟨p, 0, none⟩),
  .slice (some ⟨b, off, none⟩) W.length c',
  .pointer (some ⟨p, 0, none⟩),
  .pointer (some ⟨p, 0, none⟩),
  .pointer (some ⟨p, 1, none⟩),
  .int .i64 (n0 : Int),
  .int .i64 ((n0 : Int) + 1),
  .pointer (some ⟨b, off + (n0 + 1) * 3, none⟩),
  .pointer (some ⟨b, off + (n0 + 1) * 3, none⟩),
  .int .i64 (kdW W (n0 + 1)),
  .bool (kdW W (n0 + 1) == 7),
  .bool (kdW W (n0 + 1) == 7)] : List Value).getD j undef
def dxaV (x y : Nd) (p q4 : Nat) (pa ma la va : Option Addr) (pc mc lc vc g : Nat) (j : Nat) : Value :=
 ([.pointer (some ⟨q4, 5, none⟩),
  .slice pa x.kids.length pc,
  .pointer (some ⟨p, 0, none⟩),
  .agg #[.int .i64 y.kind, .string (strOfNums y.text), .int .i64 (y.pos : Int), .int .i64 (y.n : Int), .slice ma y.names.length mc, .slice la y.kids.length lc],
  .slice (some ⟨g, 0, none⟩) 1 1,
  .slice va (x.kids.length + 1) vc,
  .pointer (some ⟨q4, 5, none⟩)] : List Value).getD j undef
theorem Zok (S : Src W E) (hd : d ≤ 40) (hk : kdW W n0 = 1) (HE : kdW W (n0 + 1) = 7 → d < 40 → Zdk 49 W (.expr (n0 + 2) (d + 1)) (n0 + 2) (d + 1)) (HD : Zdj 49 W) (HC : Zdk 81 W (.casc n0 d) n0 d) : Zdk 49 W (.expr n0 d) n0 d := by
 intro w p h
 have hlt : n0 < E := S.ends.lt (by rw [hk]; decide)
 have hi := S.lt (Nat.le_of_lt hlt)
 have hi2 := S.lt (i := n0 + 1) hlt
 have htx := S.txt n0
 have hwp : IntKind.i64.wrap ((n0 : Int) + 1) = (n0 : Int) + 1 := by have := S.small; rw [IntKind.wrap_i64]; omega
 have hiI : (n0 : Int) + 1 < (W.length : Int) := by omega
 have hi0 : (0 : Int) ≤ (n0 : Int) + 1 := by omega
 have hiN : ((n0 : Int) + 1).toNat = n0 + 1 := by omega
 have hpl := h.lt
 go_enter Tryz.func49, Tryz.ntmps49
 go_wp2_with (refine Zdn _ rfl rfl ?_)
 intro q w1 E1 hq B1
 replace h := h.bel B1
 have hl1 := lt_of_block E1
 have hcall : ∀ w', Pr w' p W n0 d 0 0 → Calls Tryz.prog 45 #[.pointer (some ⟨p, 0, none⟩), .int .i64 1] w' fun e w'' => e = .returned (.bool true) ∧ Below w'.heap.size w' w'' := by
  intro w' h'
  have := Zad h' hi 1
  rwa [show (kdW W n0 == 1) = true by simp [hk]] at this
 obtain ⟨b, off, c', c0, c1, c2, c3, c4, cf⟩ := h.cells
 obtain ⟨c0, c1, k0⟩ : w1.cell? ⟨p, 0, none⟩ = some (.slice (some ⟨b, off, none⟩) W.length c') ∧ w1.cell? ⟨p, 1, none⟩ = some (.int .i64 (n0 : Int)) ∧ w1.cell? ⟨b, off + (n0 + 1) * 3, none⟩ = some (.int .i64 (kdW W (n0 + 1))) := by
  refine ⟨c0, c1, ?_⟩
  obtain ⟨bx, ox, cx, hx1, _, hx3⟩ := h.ex
  have e2 := (Zdw hx1).1
  rw [c0] at e2
  simp only [Option.some.injEq, Value.slice.injEq, Addr.mk.injEq, and_true] at e2
  obtain ⟨⟨rfl, rfl⟩, _⟩ := e2
  obtain ⟨by', oy', e', hcs⟩ := hx3.cells (by omega)
  simp only [Option.some.injEq, Addr.mk.injEq, and_true] at e'
  obtain ⟨rfl, rfl⟩ := e'
  exact (hcs (n0 + 1) hi2).1
 clear c2 c3 c4 cf
 have h1d : Pr w1.drew p W n0 d 0 0 := h.drewP
 have B1d : Below w1.heap.size w1 w1.drew := (Below.refl _ _).drew
 go_wp2_with fail
 refine Zah fun A hA => ?_
 have hsz : A.tmps.size = 48 := by rw [hA]; rfl
 have s0 : A.tmps[0]? = some (.pointer (some ⟨p, 0, none⟩)) := by rw [hA]; rfl
 refine zR2 (fun A D a w' => ∃ (l : List Value), a = Zaj A 5 l ∧ l.length = 17 ∧ (∀ j, j < 17 → D j → l[j]? = some (dxtV W p n0 b off c' j)) ∧ (D 1 ∨ (Pr w' p W n0 d 0 0 ∧ Below w1.heap.size w1 w')) ∧ (D 1 → (Pr w' p W n0 d 0 0 ∧ Below w1.heap.size w1 w'))) ?start ?step ?done
 case start => exact ⟨_, zS 5 17 hsz, zG 5 17 hsz, zK, .inr (⟨h1d, B1d⟩), zf⟩
 case step =>
  clear hA
  intro i o ho D a w' hI hn hcl hd
  obtain ⟨l, ha, Lh, hl, hN, hL⟩ := hI
  match i, ho with
  | 0, ho =>
   cases zq ho
   refine ⟨rfl, ?_⟩
   have ev : a.tmps[0]? = some (.pointer (some ⟨p, 0, none⟩)) := zu 0 ha Lh hsz s0
   exact zx (.pointer (some ⟨p, 0, none⟩)) (by simp [execOp, ev, go_sem]) ⟨_, zp 0 ha Lh hsz, zh Lh, zk Lh hl, zl hN, zr hL⟩
  | 1, ho =>
   cases zq ho
   refine ⟨rfl, ?_⟩
   have ev : a.tmps[5]? = some (.pointer (some ⟨p, 0, none⟩)) := zv ha hsz Lh hl 0 hd
   have hN6 := hN.resolve_left hn
   refine Zan (f := 45) (args := #[.pointer (some ⟨p, 0, none⟩), .int .i64 1]) (by simp [execOp, ev, go_sem]) ?_
   refine (hcall w' hN6.1).mono ?_
   rintro e w6 ⟨rfl, B9⟩
   refine ⟨_, rfl, ?_⟩
   exact ⟨_, zp 1 ha Lh hsz, zh Lh, zk Lh hl, .inl (.inl rfl), fun _ => ⟨hN6.1.bel B9, hN6.2.trans (B9.mono hN6.2.size)⟩⟩
  | 2, ho =>
   cases zq ho
   refine ⟨rfl, ?_⟩
   have ev : a.tmps[6]? = some (.bool true) := zv ha hsz Lh hl 1 hd
   exact zx (.bool true) (by simp [execOp, ev, go_sem]) ⟨_, zp 2 ha Lh hsz, zh Lh, zk Lh hl, zl hN, zr hL⟩
  | 3, ho =>
   cases zq ho
   refine ⟨Zaw (k := 7) rfl rfl rfl (Zag ha hsz Lh hl 2 (by decide) (zg hd 2)), ?_⟩
   have ev : a.tmps[0]? = some (.pointer (some ⟨p, 0, none⟩)) := zu 0 ha Lh hsz s0
   exact zx (.pointer (some ⟨p, 0, none⟩)) (by simp [execOp, ev, go_sem]) ⟨_, zp 3 ha Lh hsz, zh Lh, zk Lh hl, zl hN, zr hL⟩
  | 4, ho =>
   cases zq ho
   refine ⟨Zaw (k := 7) rfl rfl rfl (Zag ha hsz Lh hl 2 (by decide) (zg hd 2)), ?_⟩
   have ev : a.tmps[8]? = some (.pointer (some ⟨p, 0, none⟩)) := zv ha hsz Lh hl 3 hd
   exact zx (.pointer (some ⟨p, 0, none⟩)) (by simp [execOp, ev, go_sem]) ⟨_, zp 4 ha Lh hsz, zh Lh, zk Lh hl, zl hN, zr hL⟩
  | 5, ho =>
   cases zq ho
   refine ⟨Zaw (k := 7) rfl rfl rfl (Zag ha hsz Lh hl 2 (by decide) (zg hd 2)), ?_⟩
   have ev : a.tmps[9]? = some (.pointer (some ⟨p, 0, none⟩)) := zv ha hsz Lh hl 4 hd
   exact zx (.pointer (some ⟨p, 0, none⟩)) (by simp [execOp, ev, go_sem]) ⟨_, zp 5 ha Lh hsz, zh Lh, zk Lh hl, zl hN, zr hL⟩
  | 6, ho =>
   cases zq ho
   refine ⟨Zaw (k := 7) rfl rfl rfl (Zag ha hsz Lh hl 2 (by decide) (zg hd 2)), ?_⟩
   have ev : a.tmps[10]? = some (.pointer (some ⟨p, 0, none⟩)) := zv ha hsz Lh hl 5 hd
   have hb := (hL (hcl 2 _ rfl (zg hd 2) ⟨1, .data⟩ (by simp) rfl)).2
   have y0 := (hb.cell (p := ⟨p, 0, none⟩) (block_lt_of_cell c0)).trans c0
   exact zx (.slice (some ⟨b, off, none⟩) W.length c') (by simp [execOp, ev, go_sem, y0]) ⟨_, zp 6 ha Lh hsz, zh Lh, zk Lh hl, zl hN, zr hL⟩
  | 7, ho =>
   cases zq ho
   refine ⟨Zaw (k := 7) rfl rfl rfl (Zag ha hsz Lh hl 2 (by decide) (zg hd 2)), ?_⟩
   have ev : a.tmps[0]? = some (.pointer (some ⟨p, 0, none⟩)) := zu 0 ha Lh hsz s0
   exact zx (.pointer (some ⟨p, 0, none⟩)) (by simp [execOp, ev, go_sem]) ⟨_, zp 7 ha Lh hsz, zh Lh, zk Lh hl, zl hN, zr hL⟩
  | 8, ho =>
   cases zq ho
   refine ⟨Zaw (k := 7) rfl rfl rfl (Zag ha hsz Lh hl 2 (by decide) (zg hd 2)), ?_⟩
   have ev : a.tmps[12]? = some (.pointer (some ⟨p, 0, none⟩)) := zv ha hsz Lh hl 7 hd
   exact zx (.pointer (some ⟨p, 0, none⟩)) (by simp [execOp, ev, go_sem]) ⟨_, zp 8 ha Lh hsz, zh Lh, zk Lh hl, zl hN, zr hL⟩
  | 9, ho =>
   cases zq ho
   refine ⟨Zaw (k := 7) rfl rfl rfl (Zag ha hsz Lh hl 2 (by decide) (zg hd 2)), ?_⟩
   have ev : a.tmps[13]? = some (.pointer (some ⟨p, 0, none⟩)) := zv ha hsz Lh hl 8 hd
   exact zx (.pointer (some ⟨p, 1, none⟩)) (by simp [execOp, ev, go_sem]) ⟨_, zp 9 ha Lh hsz, zh Lh, zk Lh hl, zl hN, zr hL⟩
  | 10, ho =>
   cases zq ho
   refine ⟨Zaw (k := 7) rfl rfl rfl (Zag ha hsz Lh hl 2 (by decide) (zg hd 2)), ?_⟩
   have ev : a.tmps[14]? = some (.pointer (some ⟨p, 1, none⟩)) := zv ha hsz Lh hl 9 hd
   have hb := (hL (hcl 2 _ rfl (zg hd 2) ⟨1, .data⟩ (by simp) rfl)).2
   have y0 := (hb.cell (p := ⟨p, 1, none⟩) (block_lt_of_cell c1)).trans c1
   exact zx (.int .i64 (n0 : Int)) (by simp [execOp, ev, go_sem, y0]) ⟨_, zp 10 ha Lh hsz, zh Lh, zk Lh hl, zl hN, zr hL⟩
  | 11, ho =>
   cases zq ho
   refine ⟨Zaw (k := 7) rfl rfl rfl (Zag ha hsz Lh hl 2 (by decide) (zg hd 2)), ?_⟩
   have ev : a.tmps[15]? = some (.int .i64 (n0 : Int)) := zv ha hsz Lh hl 10 hd
   exact zx (.int .i64 ((n0 : Int) + 1)) (by simp [execOp, ev, go_sem, hwp]) ⟨_, zp 11 ha Lh hsz, zh Lh, zk Lh hl, zl hN, zr hL⟩
  | 12, ho =>
   cases zq ho
   refine ⟨Zaw (k := 7) rfl rfl rfl (Zag ha hsz Lh hl 2 (by decide) (zg hd 2)), ?_⟩
   have ev : a.tmps[11]? = some (.slice (some ⟨b, off, none⟩) W.length c') := zv ha hsz Lh hl 6 hd
   have ev' : a.tmps[16]? = some (.int .i64 ((n0 : Int) + 1)) := zv ha hsz Lh hl 11 hd
   exact zx (.pointer (some ⟨b, off + (n0 + 1) * 3, none⟩)) (by simp [execOp, ev, ev', go_sem, hi0, hiI, hiN, Za7]) ⟨_, zp 12 ha Lh hsz, zh Lh, zk Lh hl, zl hN, zr hL⟩
  | 13, ho =>
   cases zq ho
   refine ⟨Zaw (k := 7) rfl rfl rfl (Zag ha hsz Lh hl 2 (by decide) (zg hd 2)), ?_⟩
   have ev : a.tmps[17]? = some (.pointer (some ⟨b, off + (n0 + 1) * 3, none⟩)) := zv ha hsz Lh hl 12 hd
   exact zx (.pointer (some ⟨b, off + (n0 + 1) * 3, none⟩)) (by simp [execOp, ev, go_sem, Za7]) ⟨_, zp 13 ha Lh hsz, zh Lh, zk Lh hl, zl hN, zr hL⟩
  | 14, ho =>
   cases zq ho
   refine ⟨Zaw (k := 7) rfl rfl rfl (Zag ha hsz Lh hl 2 (by decide) (zg hd 2)), ?_⟩
   have ev : a.tmps[18]? = some (.pointer (some ⟨b, off + (n0 + 1) * 3, none⟩)) := zv ha hsz Lh hl 13 hd
   have hb := (hL (hcl 2 _ rfl (zg hd 2) ⟨1, .data⟩ (by simp) rfl)).2
   have y0 := (hb.cell (p := ⟨b, off + (n0 + 1) * 3, none⟩) (block_lt_of_cell k0)).trans k0
   exact zx (.int .i64 (kdW W (n0 + 1))) (by simp [execOp, ev, go_sem, y0]) ⟨_, zp 14 ha Lh hsz, zh Lh, zk Lh hl, zl hN, zr hL⟩
  | 15, ho =>
   cases zq ho
   refine ⟨Zaw (k := 7) rfl rfl rfl (Zag ha hsz Lh hl 2 (by decide) (zg hd 2)), ?_⟩
   have ev : a.tmps[19]? = some (.int .i64 (kdW W (n0 + 1))) := zv ha hsz Lh hl 14 hd
   exact zx (.bool (kdW W (n0 + 1) == 7)) (by simp [execOp, ev, go_sem]) ⟨_, zp 15 ha Lh hsz, zh Lh, zk Lh hl, zl hN, zr hL⟩
  | 16, ho =>
   cases zq ho
   refine ⟨rfl, ?_⟩
   have ev : a.tmps[7]? = some (.bool true) := zv ha hsz Lh hl 2 hd
   have ev' : a.tmps[20]? = some (.bool (kdW W (n0 + 1) == 7)) := zv ha hsz Lh hl 15 hd
   exact zx (.bool (kdW W (n0 + 1) == 7)) (by simp [execOp, ev, ev', go_sem]) ⟨_, zp 16 ha Lh hsz, zh Lh, zk Lh hl, zl hN, zr hL⟩
  | i + 17, ho => simp at ho
 case done =>
  rintro D a w' ⟨l, ha, Lh, hl, hN, hL⟩ hall
  obtain ⟨v0, v1, v2, v3, v4, v5, v6, v7, v8, v9, v10, v11, v12, v13, v14, v15, v16, rfl⟩ := zL17 Lh
  have hL6 := hL (hall 1 (by decide))
  have hz := hl 16 (by decide) (hall 16 (by decide))
  simp only [List.getElem?_cons_succ, List.getElem?_cons_zero, Option.some.injEq] at hz
  have hz' : v16 = .bool (kdW W (n0 + 1) == 7) := hz
  subst hz'
  subst hA
  have hfr : a = _ := ha
  rw [hfr]
  clear hfr ha
  simp only [Zaj, yA, yB, yC, yD, yE, yF, yG, yH]
  clear hl hN hL hall
  replace E1 := (hL6.2.block _ hl1).trans E1
  have C := Zab B1 zo hL6.2
  have hsz6 := hL6.2.size
  replace h := hL6.1
  clear hL6 B1 c0 c1 k0
  by_cases hk7 : kdW W (n0 + 1) = 7
  ·rw [show (kdW W (n0 + 1) == 7) = true by simp [hk7]]
   go_wp2_with fail
   refine (Za9 h hi (by rw [hk]; decide)).mono ?_
   rintro e w3 ⟨rfl, h3, F3⟩
   replace E1 := (F3.block _ (lt_of_block E1) (by omega)).trans E1
   have F := (Fr.of_below C).thn zo F3
   have hs3 := F3.size
   clear h F3 C
   unfold Zdh
   go_wp2_with (refine Zid _ rfl rfl ?_)
   intro t' w4 E4 ht B4
   go_wp2_with (refine Zgf _ rfl _ _ rfl rfl t' _ _ _ rfl rfl E4 ?_)
   intro w5 E5 S5
   have D5 : Below w3.heap.size w3 w5 := B4.trans (S5.below ht)
   replace h3 := h3.bel D5
   replace E1 := (D5.block _ (lt_of_block E1)).trans E1
   replace F := F.thn zo (Fr.of_below D5)
   have hs35 := D5.size
   clear D5 B4 S5 E4
   have htl := lt_of_block E5
   go_wp2_with fail
   refine (Zol S hd hk hk7 (HE hk7) HD h3).mono ?_
   rintro e w6 ⟨rfl, i1, e1, t1, h6, F6, HV⟩
   replace E1 := (F6.block _ (lt_of_block E1) (by omega)).trans E1
   replace E5 := (F6.block _ htl (by omega)).trans E5
   replace F := F.thn zo F6
   have hs56 := F6.size
   have hl16 := lt_of_block E1
   clear h3 F6
   obtain ⟨y0, y1, y2, yf⟩ := Za1 E5
   go_wp2_with (refine Zb5 rfl rfl rfl 4 rfl rfl rfl (fun _ => rfl) (fun _ => rfl) ?_)
   intro q4 wS E6 hq4 B7
   replace h6 := h6.bel B7
   replace E1 := (B7.block _ hl16).trans E1
   replace F := F.thn zo (Fr.of_below B7)
   have hs67 := B7.size
   clear B7 y0 y1 y2 yf E5
   have K : Zca wS (fun b => w6.heap.size ≤ b ∧ b ≠ q4) q4 (.mk 6 (txW W n0) (psW W n0) 0 [] []) := Zca.new E6
   clear E6
   obtain ⟨x, hx⟩ : ∃ x, Hid (x = Nd.mk 6 (txW W n0) (psW W n0) 0 [] []) := ⟨_, rfl⟩
   have hxn : x.names = [] := by rw [hx.out]; rfl
   have hx0 : Hid (x.kids = []) := by show x.kids = []; rw [hx.out]; rfl
   have hx0l : x.kids.length = 0 := by rw [hx0.out]; rfl
   have hxl : x.kids.length ≤ 500000 := by omega
   rw [← hx.out] at K
   obtain ⟨oa, oc, pa, pc, Ek, sn, rk⟩ := K
   have hnc := And.intro sn.room (And.intro sn.most sn.nil0)
   have hko2 : ∀ g, (Value.slice pa x.kids.length pc).ownBlock = some g → (w6.heap.size ≤ g ∧ g ≠ q4) ∧ g < wS.heap.size := fun g hg => rk.own hg
   have hko : ∀ g, (Value.slice pa x.kids.length pc).ownBlock = some g → w6.heap.size ≤ g := fun g hg => (hko2 g hg).1.1
   have hkq : (Value.slice pa x.kids.length pc).ownBlock ≠ some q4 := fun e => (hko2 _ e).1.2 rfl
   have hwS : w6.heap.size ≤ wS.heap.size := by omega
   have hqp4 : q4 ≠ p := by omega
   have hpB : p < w6.heap.size := by omega
   have hAp : ¬ (w6.heap.size ≤ p ∧ p ≠ q4) := by omega
   have hq4S : q4 < wS.heap.size := lt_of_block Ek
   have hA6 : ∀ b, wS.heap.size ≤ b → (w6.heap.size ≤ b ∧ b ≠ q4) := fun b hb => ⟨by omega, by omega⟩
   have hAb : ∀ b g, wS.heap.size ≤ g → (wS.heap.size ≤ b ∨ b = g) → ((w6.heap.size ≤ b ∧ b ≠ q4) ∧ ∀ q, (Value.slice pa x.kids.length pc).ownBlock = some q → b ≠ q) := fun b g hg hb => ⟨⟨by omega, by omega⟩, fun q hq => by have := hko2 q hq; omega⟩
   have Ekd : wS.drew.heap[q4]? = _ := Ek
   have h6d : Pr wS.drew p W i1 (d + 1) e1 t1 ∧ Fr p wS.heap.size wS wS.drew := ⟨h6.drewP, Fr.drewF _ _ _⟩
   have rkd : Zbu wS.drew (fun b => w6.heap.size ≤ b ∧ b ≠ q4) (.slice pa x.kids.length pc) x.kids := rk.keep (fun _ _ _ => rfl)
   clear sn rk hx0
   go_wp2_with fail
   refine Zah fun A hA => ?_
   have hsz : A.tmps.size = 48 := by rw [hA]; rfl
   have s0 : A.tmps[0]? = some (.pointer (some ⟨p, 0, none⟩)) := by rw [hA]; rfl
   have s4 : A.tmps[4]? = some (.pointer (some ⟨q4, 0, none⟩)) := by rw [hA]; rfl
   refine zR1 (fun A D a w' => ∃ (l : List Value) (ma : Option Addr) (la : Option Addr) (va : Option Addr) (mc : Nat) (lc : Nat) (vc : Nat) (g : Nat) (y : Nd) (iz : Nat) (ez : Int) (tz : Nat), a = Zaj A 31 l ∧ l.length = 7 ∧ (∀ j, j < 7 → D j → l[j]? = some (dxaV x y p q4 pa ma la va pc mc lc vc g j)) ∧ (D 7 ∨ w'.heap[q4]? = some (.cells #[.int .i64 x.kind, .string (strOfNums x.text), .int .i64 (x.pos : Int), .int .i64 (x.n : Int), .slice oa x.names.length oc, .slice pa x.kids.length pc] 31)) ∧ (D 3 ∨ (Pr w' p W i1 (d + 1) e1 t1 ∧ Fr p wS.heap.size wS w')) ∧ (D 5 ∨ Zbu w' (fun b => w6.heap.size ≤ b ∧ b ≠ q4) (.slice pa x.kids.length pc) x.kids) ∧ (D 3 → SetR W n0 d y iz ez tz ∧ iz < W.length) ∧ (D 7 → ∃ w9, (Zbu w9 (fun b => w6.heap.size ≤ b ∧ b ≠ q4) (.slice va (x.kids.length + 1) vc) (x.kids ++ [y]) ∧ Pr w9 p W iz (d + 1) ez tz ∧ Fr p w6.heap.size wS w9 ∧ (∀ g, (Value.slice va (x.kids.length + 1) vc).ownBlock = some g → (Value.slice pa x.kids.length pc).ownBlock = some g ∨ wS.heap.size ≤ g)) ∧ w' = w9.setCell ⟨q4, 5, none⟩ (.slice va (x.kids.length + 1) vc) ∧ w9.heap[q4]? = some (.cells #[.int .i64 x.kind, .string (strOfNums x.text), .int .i64 (x.pos : Int), .int .i64 (x.n : Int), .slice oa x.names.length oc, .slice pa x.kids.length pc] 31)) ∧ (D 3 → ¬ D 4 → NdV (fun b => wS.heap.size ≤ b) w' y (.agg #[.int .i64 y.kind, .string (strOfNums y.text), .int .i64 (y.pos : Int), .int .i64 (y.n : Int), .slice ma y.names.length mc, .slice la y.kids.length lc]) ∧ Pr w' p W iz (d + 1) ez tz ∧ Fr p wS.heap.size wS w') ∧ (D 4 → ¬ D 5 → w'.heap[g]? = some (.cells #[.int .i64 y.kind, .string (strOfNums y.text), .int .i64 (y.pos : Int), .int .i64 (y.n : Int), .slice ma y.names.length mc, .slice la y.kids.length lc] 31) ∧ NdV (fun b => wS.heap.size ≤ b) w' y (.agg #[.int .i64 y.kind, .string (strOfNums y.text), .int .i64 (y.pos : Int), .int .i64 (y.n : Int), .slice ma y.names.length mc, .slice la y.kids.length lc]) ∧ Pr w' p W iz (d + 1) ez tz ∧ Fr p wS.heap.size wS w' ∧ wS.heap.size ≤ g) ∧ (D 5 → ¬ D 7 → Zbu w' (fun b => w6.heap.size ≤ b ∧ b ≠ q4) (.slice va (x.kids.length + 1) vc) (x.kids ++ [y]) ∧ Pr w' p W iz (d + 1) ez tz ∧ Fr p w6.heap.size wS w' ∧ (∀ g, (Value.slice va (x.kids.length + 1) vc).ownBlock = some g → (Value.slice pa x.kids.length pc).ownBlock = some g ∨ wS.heap.size ≤ g))) ?start ?step ?done
   case start => exact ⟨_, none, none, none, 0, 0, 0, 0, zNd, 0, 0, 0, zS 31 7 hsz, zG 31 7 hsz, zK, .inr (Ekd), .inr (h6d), .inr (rkd), zf, zf, zF, zF, zF⟩
   case step =>
    clear hA
    intro i o ho D a w' hI hn hcl hd
    obtain ⟨l, ma, la, va, mc, lc, vc, g, y, iz, ez, tz, ha, Lh, hl, hE, hN, hK, hM, hQ, hU, hG, hY⟩ := hI
    match i, ho with
    | 0, ho =>
     cases zq ho
     have ev : a.tmps[4]? = some (.pointer (some ⟨q4, 0, none⟩)) := zu 4 ha Lh hsz s4
     exact zx (.pointer (some ⟨q4, 5, none⟩)) (by simp [execOp, ev, go_sem]) ⟨_, ma, la, va, mc, lc, vc, g, y, iz, ez, tz, zp 0 ha Lh hsz, zh Lh, zk Lh hl, zl hE, zl hN, zl hK, zr hM, zr hQ, zs hU, zs hG, zs hY⟩
    | 1, ho =>
     cases zq ho
     have ev : a.tmps[31]? = some (.pointer (some ⟨q4, 5, none⟩)) := zv ha hsz Lh hl 0 hd
     have e1 := hE.resolve_left (fun h => hn (zc hcl 5 1 rfl (zc hcl 7 5 rfl h)))
     obtain ⟨z0, z1, z2, z3, z4, z5, _⟩ := Zac e1
     exact zx (.slice pa x.kids.length pc) (by simp [execOp, ev, go_sem, z5]) ⟨_, ma, la, va, mc, lc, vc, g, y, iz, ez, tz, zp 1 ha Lh hsz, zh Lh, zk Lh hl, zl hE, zl hN, zl hK, zr hM, zr hQ, zs hU, zs hG, zs hY⟩
    | 2, ho =>
     cases zq ho
     have ev : a.tmps[0]? = some (.pointer (some ⟨p, 0, none⟩)) := zu 0 ha Lh hsz s0
     exact zx (.pointer (some ⟨p, 0, none⟩)) (by simp [execOp, ev, go_sem]) ⟨_, ma, la, va, mc, lc, vc, g, y, iz, ez, tz, zp 2 ha Lh hsz, zh Lh, zk Lh hl, zl hE, zl hN, zl hK, zr hM, zr hQ, zs hU, zs hG, zs hY⟩
    | 3, ho =>
     cases zq ho
     have ev : a.tmps[33]? = some (.pointer (some ⟨p, 0, none⟩)) := zv ha hsz Lh hl 2 hd
     have hN0 := hN.resolve_left hn
     have e1 := hE.resolve_left (fun h => hn (zc hcl 4 3 rfl (zc hcl 5 4 rfl (zc hcl 7 5 rfl h))))
     have rk0 := hK.resolve_left (fun h => hn (zc hcl 4 3 rfl (zc hcl 5 4 rfl h)))
     refine Zan (f := 49) (args := #[.pointer (some ⟨p, 0, none⟩)]) (by simp [execOp, ev, go_sem]) ?_
     refine (HV w' hN0.1).mono ?_
     rintro e w6 ⟨y', u, iz', ez', tz', rfl, hu, h4, hiz, F4, hM4⟩
     refine ⟨_, rfl, ?_⟩
     obtain ⟨ma', mc', la', lc', _, rfl, _⟩ := NdV.parts hu
     have hsF := F4.size
     have hs60 := hN0.2.size
     exact ⟨_, ma', la', va, mc', lc', vc, g, y', iz', ez', tz', zp 3 ha Lh hsz, zh Lh, Zai (val' := dxaV x y' p q4 pa ma' la' va pc mc' lc' vc g) Lh (by decide) hl (fun j hj hne => match j, hj, hne with | 0, _, _ => rfl | 1, _, _ => rfl | 2, _, _ => rfl | 3, _, hne => absurd rfl hne | 4, _, _ => rfl | 5, _, _ => rfl | 6, _, _ => rfl | j + 7, _, _ => rfl), .inr ((F4.block q4 (lt_of_block e1) hqp4).trans e1), .inl (.inl rfl), .inr (rk0.keep (fun b hA hb => F4.block b hb (fun e => hAp (e ▸ hA)))), fun _ => ⟨hM4, hiz⟩, za (fun h => hn (zc hcl 4 3 rfl (zc hcl 5 4 rfl (zc hcl 7 5 rfl h)))), fun _ _ => ⟨hu.mono (fun b _ hb => (show wS.heap.size ≤ b from Nat.le_trans hs60 hb)), h4, hN0.2.trans F4 hs60⟩, zb (fun h => hn (zc hcl 4 3 rfl h)), zb (fun h => hn (zc hcl 4 3 rfl (zc hcl 5 4 rfl h)))⟩
    | 4, ho =>
     cases zq ho
     have ev : a.tmps[34]? = some (.agg #[.int .i64 y.kind, .string (strOfNums y.text), .int .i64 (y.pos : Int), .int .i64 (y.n : Int), .slice ma y.names.length mc, .slice la y.kids.length lc]) := zv ha hsz Lh hl 3 hd
     have U3 := hU (zd hd 3) hn
     have e1 := hE.resolve_left (fun h => hn (zc hcl 5 4 rfl (zc hcl 7 5 rfl h)))
     have rk0 := hK.resolve_left (fun h => hn (zc hcl 5 4 rfl h))
     refine Zeg w' _ rfl _ _ _ _ _ _ _ _ _ _ (by simpa [Act.eval] using Zav ev) ?_
     exact ⟨_, ma, la, va, mc, lc, vc, w'.heap.size, y, iz, ez, tz, zp 4 ha Lh hsz, zh Lh, Zai (val' := dxaV x y p q4 pa ma la va pc mc lc vc w'.heap.size) Lh (by decide) hl (fun j hj hne => match j, hj, hne with | 0, _, _ => rfl | 1, _, _ => rfl | 2, _, _ => rfl | 3, _, _ => rfl | 4, _, hne => absurd rfl hne | 5, _, _ => rfl | 6, _, _ => rfl | j + 7, _, _ => rfl), .inr ((Zbc.block q4 (lt_of_block e1)).trans e1), .inl (.inr (zd hd 3)), .inr (rk0.keep (fun b _ hb => Zbc.block b hb)), zr hM, za (fun h => hn (zc hcl 5 4 rfl (zc hcl 7 5 rfl h))), zi, fun _ _ => ⟨Zc0 w' _, U3.1.bel Zbc, U3.2.1.bel Zbc, U3.2.2.trans (Fr.of_below Zbc) U3.2.2.size, U3.2.2.size⟩, zb (fun h => hn (zc hcl 5 4 rfl h))⟩
    | 5, ho =>
     cases zq ho
     have ev : a.tmps[32]? = some (.slice pa x.kids.length pc) := zv ha hsz Lh hl 1 hd
     have ev' : a.tmps[35]? = some (.slice (some ⟨g, 0, none⟩) 1 1) := zv ha hsz Lh hl 4 hd
     have G4 := hG (zd hd 4) hn
     have e1 := hE.resolve_left (fun h => hn (zc hcl 7 5 rfl h))
     have rk0 := hK.resolve_left hn
     refine Zeh w' _ _ rfl (by simpa [Act.eval] using Zav ev) (by simpa [Act.eval] using Zav ev') rk0 G4.1 G4.2.1 (fun b hb hh => hAb b g G4.2.2.2.2 hh) hxl (fun b hb => hA6 b (Nat.le_trans G4.2.2.2.1.size hb)) ?_
     intro va' vc' w9 R9 K9 pl9
     have hs9 := K9.size
     exact ⟨_, ma, la, va', mc, lc, vc', g, y, iz, ez, tz, zp 5 ha Lh hsz, zh Lh, Zai (val' := dxaV x y p q4 pa ma la va' pc mc lc vc' g) Lh (by decide) hl (fun j hj hne => match j, hj, hne with | 0, _, _ => rfl | 1, _, _ => rfl | 2, _, _ => rfl | 3, _, _ => rfl | 4, _, _ => rfl | 5, _, hne => absurd rfl hne | 6, _, _ => rfl | j + 7, _, _ => rfl), .inr ((K9.block q4 (lt_of_block e1) hkq).trans e1), .inl (.inr (zc hcl 4 3 rfl (zd hd 4))), .inl (.inl rfl), zr hM, za (fun h => hn (zc hcl 7 5 rfl h)), zj (zd hd 4), zi, fun _ _ => ⟨R9, G4.2.2.1.below (K9.below (B := w6.heap.size) (by have := G4.2.2.2.1.size; omega) (fun g' hg' => hko g' hg')) hpB, (G4.2.2.2.1.low hwS).trans (Fr.of_below (K9.below (B := w6.heap.size) (by have := G4.2.2.2.1.size; omega) (fun g' hg' => hko g' hg'))) zo, fun g' hg' => (pl9 g' hg').imp_right (fun h => Nat.le_trans G4.2.2.2.1.size h)⟩⟩
    | 6, ho =>
     cases zq ho
     have ev : a.tmps[4]? = some (.pointer (some ⟨q4, 0, none⟩)) := zu 4 ha Lh hsz s4
     exact zx (.pointer (some ⟨q4, 5, none⟩)) (by simp [execOp, ev, go_sem]) ⟨_, ma, la, va, mc, lc, vc, g, y, iz, ez, tz, zp 6 ha Lh hsz, zh Lh, zk Lh hl, zl hE, zl hN, zl hK, zr hM, zr hQ, zs hU, zs hG, zs hY⟩
    | 7, ho =>
     cases zq ho
     have ev : a.tmps[37]? = some (.pointer (some ⟨q4, 5, none⟩)) := zv ha hsz Lh hl 6 hd
     have ev' : a.tmps[36]? = some (.slice va (x.kids.length + 1) vc) := zv ha hsz Lh hl 5 hd
     have e1 := hE.resolve_left hn
     obtain ⟨z0, z1, z2, z3, z4, z5, zf⟩ := Zac e1
     have zf5 := zf 5
     have L := hY (zd hd 5) hn
     refine Zbj (w' := w'.setCell ⟨q4, 5, none⟩ (.slice va (x.kids.length + 1) vc)) (by simp [execOp, Act.eval, ev, ev', go_sem, z5, zf5]) ?_
     exact ⟨l, ma, la, va, mc, lc, vc, g, y, iz, ez, tz, ha, Lh, zJ hl, .inl (.inl rfl), .inl (.inr (zc hcl 4 3 rfl (zc hcl 5 4 rfl (zd hd 5)))), .inl (.inr (zd hd 5)), zr hM, fun _ => ⟨w', L, rfl, e1⟩, zj (zc hcl 5 4 rfl (zd hd 5)), zj (zd hd 5), zi⟩
    | i + 8, ho => simp at ho
   rintro D a w' ⟨l, ma, la, va, mc, lc, vc, g, y, iz, ez, tz, ha, Lh, hl, hE, hN, hK, hM, hQ, hU, hG, hY⟩ hall
   obtain ⟨v0, v1, v2, v3, v4, v5, v6, rfl⟩ := zL7 Lh
   obtain ⟨w9, ⟨R9, h9, F9, pl9⟩, ew, E9⟩ := hQ (hall 7 (by decide))
   obtain ⟨hRel, hiz⟩ := hM (hall 3 (by decide))
   subst hA
   have hfr : a = _ := ha
   rw [hfr]
   clear hfr ha
   simp only [Zaj, yG, yH]
   clear hl hE hN hK hU hG hY hQ hM hall
   have S9 := St.cell w9 q4 5 (.slice va (x.kids.length + 1) vc)
   have K9 := Zca.put2 hxn E9 hnc R9 (by omega)
   replace h9 := h9.st S9 (by omega)
   have hs9F := F9.size
   replace E1 := (F9.block q (by omega) (by omega)).trans E1
   replace E1 := (S9.block q (by omega)).trans E1
   replace F := (F.trans (F9.low (B' := w.heap.size) (by omega)) zo).trans (Fr.of_below (S9.below (B := w.heap.size) (by omega))) zo
   rw [← ew] at K9 h9 E1 F S9
   have hsz9 := S9.size
   clear ew S9 E9 F9 R9 pl9
   have hwd : IntKind.i64.wrap (((d + 1 : Nat) : Int) - 1) = (d : Int) := by rw [IntKind.wrap_i64]; omega
   obtain ⟨b0, off0, cc, c0, c1, c2, c3, c4, cf⟩ := h9.cells
   have f2 := cf 2
   go_upto_region 7 with fail
   have S10 := St.cell w' p 2 (.int .i64 (d : Int))
   replace h9 := h9.setDepth d
   replace K9 := K9.st S10 (by omega) (by omega)
   replace E1 := (S10.block q (by omega)).trans E1
   replace F := F.trans (S10.fr (B := w.heap.size)) zo
   have hs10 := S10.size
   clear c0 c1 c2 c3 c4 cf f2 S10
   generalize w'.setCell ⟨p, 2, none⟩ (.int .i64 (d : Int)) = w10 at *
   have hkl : (x.kid y).kids.length = x.kids.length + 1 := by simp [Nd.kid, Nd.kids]
   obtain ⟨na, nc, ka, kc, Ek, hv⟩ := K9.nd (by rw [show (x.kid y).names = x.names from rfl, hxn]; simp) (by omega) (by rw [show (x.kid y).text = x.text from rfl, hx.out]; simp only [Nd.text]; omega)
   clear hkl hx0l
   obtain ⟨z0, z1, z2, z3, z4, z5, zf⟩ := Zac Ek
   go_wp2_with (refine Za8 rfl rfl rfl rfl rfl E1 ?_)
   intro wz Ez Sz
   go_wp2
   have hvo := hv.imp (A' := fun b => w.heap.size ≤ b) (w' := wz) (fun b _ hA => ⟨by omega, Sz.block b (by omega)⟩) _ _
   have hzz := h9.st Sz (by omega)
   have hFF := F.trans (Fr.of_below (Sz.below hq)) zo
   have hxy : Hid (x.kid y = .mk 6 (txW W n0) (psW W n0) 0 [] [y]) := by show x.kid y = _; rw [hx.out]; rfl
   rcases hRel with ⟨rfl, rfl, g3⟩ | ⟨g1, m, g3, rfl⟩
   ·exact zT 2 (by rfl) (by rfl) (Zau Ez) (by rfl) ⟨_, g3, ⟨_, rfl, by rw [← hxy.out]; exact hvo, hzz⟩, hFF⟩
   exact zT 2 (by rfl) (by rfl) (Zau Ez) (by rfl) ⟨_, g3, ⟨_, _, _, rfl, hvo, hzz, hiz, g1⟩, hFF⟩
  rw [show (kdW W (n0 + 1) == 7) = false by simp [hk7]]
  go_wp2_with fail
  refine (HC w' p h).mono ?_
  rintro e w7 ⟨r, hr, ha, F7⟩
  replace E1 := (F7.block _ (lt_of_block E1) (by omega)).trans E1
  have F := (Fr.of_below C).thn zo F7
  cases r with
  | er j c =>
   obtain ⟨v, x, i', rfl, hv, h7, hi', hc⟩ := ha
   obtain ⟨na, nc, ka, kc, _, rfl, _⟩ := NdV.parts hv
   go_wp2_with (refine Za8 rfl rfl rfl rfl rfl E1 ?_)
   intro wz Ez Sz
   go_wp2
   exact zT 2 (by rfl) (by rfl) (Zau Ez) (by rfl) ⟨_, Zbs hr (fun hh => hk7 hh.2), ⟨_, _, _, rfl, hv.out Sz (by omega) (by omega), h7.st Sz (by omega), hi', hc⟩, F.trans (Fr.of_below (Sz.below hq)) zo⟩
  | ok x j =>
   obtain ⟨v, rfl, hv, h7⟩ := ha
   obtain ⟨na, nc, ka, kc, _, rfl, _⟩ := NdV.parts hv
   go_wp2_with (refine Za8 rfl rfl rfl rfl rfl E1 ?_)
   intro wz Ez Sz
   go_wp2
   exact zT 2 (by rfl) (by rfl) (Zau Ez) (by rfl) ⟨_, Zbs hr (fun hh => hk7 hh.2), ⟨_, rfl, hv.out Sz (by omega) (by omega), h7.st Sz (by omega)⟩, F.trans (Fr.of_below (Sz.below hq)) zo⟩
theorem Zhi (S : Src W E) (hi : n0 ≤ E) (hd : d ≤ 40) (HE : kdW W (n0 + 1) = 7 → d < 40 → Zdk 49 W (.expr (n0 + 2) (d + 1)) (n0 + 2) (d + 1)) (HD : Zdj 81 W) (HC : Zdk 81 W (.casc n0 d) n0 d) : Zdk 49 W (.expr n0 d) n0 d := by
 by_cases hk : kdW W n0 = 1
 ·exact Zok S hd hk HE (Zi6 HD) HC
 exact Zmo (S.lt hi) hk HC
end
end Go.Proofs.YtncfmhlikmibaaaGreatDoor
