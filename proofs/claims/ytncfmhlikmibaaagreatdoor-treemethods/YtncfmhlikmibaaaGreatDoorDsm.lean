/- The document's parser: statements. -/
import Derived.Test.YtncfmhlikmibaaaGreatDoorDtp
import Derived.Test.YtncfmhlikmibaaaGreatDoorDbs
namespace Go.Proofs.YtncfmhlikmibaaaGreatDoor
open Go.RowKit
set_option maxRecDepth 100000
set_option maxHeartbeats 16000000
def dstV (x y : Nd) (q z g vc : Nat) (pa : Option Addr) (pc : Nat) (ma : Option Addr) (mc : Nat) (ka : Option Addr) (kc : Nat) (j : Nat) : Value :=
 ([.pointer (some ⟨q, 0, none⟩),
  .pointer (some ⟨q, 0, none⟩),
  .pointer (some ⟨q, 5, none⟩),
  .slice pa x.kids.length pc,
  .agg #[.int .i64 y.kind, .string (strOfNums y.text), .int .i64 (y.pos : Int), .int .i64 (y.n : Int), .slice ma y.names.length mc, .slice ka y.kids.length kc],
  .int .i64 (x.kids.length : Int),
  .slice (some ⟨z, 0, none⟩) 1 1,
  .slice (some ⟨g, 0, none⟩) (x.kids.length + 1) vc,
  .pointer (some ⟨g, x.kids.length * 6, none⟩),
  .pointer (some ⟨q, 0, none⟩),
  .pointer (some ⟨q, 5, none⟩)] : List Value).getD j undef
def dsaV (x y : Nd) (p q4 : Nat) (pa ma la va : Option Addr) (pc mc lc vc g : Nat) (j : Nat) : Value :=
 ([.pointer (some ⟨q4, 5, none⟩),
  .slice pa x.kids.length pc,
  .pointer (some ⟨p, 0, none⟩),
  .agg #[.int .i64 y.kind, .string (strOfNums y.text), .int .i64 (y.pos : Int), .int .i64 (y.n : Int), .slice ma y.names.length mc, .slice la y.kids.length lc],
  .slice (some ⟨g, 0, none⟩) 1 1,
  .slice va (x.kids.length + 1) vc,
  .pointer (some ⟨q4, 5, none⟩)] : List Value).getD j undef
theorem fld2d (k : Int) (s : ByteArray) (p : Int) (w : World) : (Instr.field 78 (.agg #[.int .i64 k, .string s, .int .i64 p]) 2).run Tryz.prog w = .ok (.int .i64 p) w := by
 simp [Instr.field, asAgg, go_sem]
theorem Zhg {W : List Tk} {E : Nat} (S : Src W E) {endk : Int} (hend : endk = 0 ∨ endk = 11) {n0 d : Nat} (hi : n0 ≤ E) (H : ∀ j, n0 ≤ j → j ≤ E → Zdk 49 W (.expr j d) j d) {w : World} {p q B : Nat} {Z : Nat → Prop} {x0 : Nd} (G : Gd p B q Z w) (M : DMx w Z q x0) (h : Pr w p W n0 d 0 0) :
  Calls Tryz.prog 32 #[.pointer (some ⟨p, 0, none⟩), .pointer (some ⟨q, 0, none⟩), .int .i64 endk] w fun e w' => ∃ y iz ez tz, e = .returned (.tuple #[]) ∧ Zca w' Z q y ∧ Pr w' p W iz d ez tz ∧ iz < W.length ∧ Fr p B w w' ∧ (y.names = x0.names ∧ y.text = x0.text ∧ y.kids.length ≤ 6000) ∧ Zot W endk n0 d x0 y iz ez tz := by
 have hqp : q ≠ p := by have := G.hp; have := G.hq; omega
 have hZp : ¬ Z p := fun e => by have := G.lo p e; have := G.hp; omega
 have hpw : p < w.heap.size := by have := G.hp; have := G.hB; omega
 have hE5 := S.small
 have ff := fld2d
 have K := Zca.ofM M
 have hk0 : x0.kids.length ≤ n0 := by rw [M.kids]; exact Nat.zero_le _
 clear M
 go_enter Tryz.func32, Tryz.ntmps32
 go_wp2_with fail
 go_loopw [] (fun wr => ∃ (i' : Nat) (x' : Nd), Zca wr Z q x' ∧ Pr wr p W i' d 0 0 ∧ Fr p B w wr ∧ n0 ≤ i' ∧ i' ≤ E ∧ x'.kids.length ≤ i' ∧ Hid (x'.names = x0.names ∧ x'.text = x0.text) ∧ Hid (StG W n0 d x0 i' x')) (fun wr => Zi1 E wr p)
 case atStart => exact ⟨n0, x0, K, h, Fr.refl _ _ _, zo, hi, hk0, ⟨rfl, rfl⟩, fun r hr => hr⟩
 clear K h hk0
 obtain ⟨i', x, K, h, F, hii, hi', hxl0, hxn, hGX⟩ := hrel
 have hat : Zi1 E wr p = _ := h.mea
 have hiW := S.lt hi'
 have hsw : w.heap.size ≤ wr.heap.size := F.size
 have hBw : B ≤ wr.heap.size := by have := G.hB; omega
 go_wp2_with fail
 refine (Zad h hiW endk).mono ?_
 rintro e w5 ⟨rfl, B5⟩
 replace K := K.bel B5
 replace h := h.bel B5
 replace F := F.trans ((Fr.of_below B5).low hBw) zo
 have hs5 := B5.size
 clear B5
 by_cases hke : kdW W i' = endk
 ·rw [show (kdW W i' == endk) = true by simp [hke]]
  go_wp2_with fail
  refine (Zad h hiW endk).mono ?_
  rintro e w6 ⟨rfl, B6⟩
  rw [show (kdW W i' == endk) = true by simp [hke]]
  go_wp2
  go_end0
  exact ⟨x, i', 0, 0, rfl, K.bel B6, h.bel B6, hiW, F.trans ((Fr.of_below B6).low (by omega)) zo, ⟨hxn.out.1, hxn.out.2, by omega⟩, hGX.out.end_ hke hend⟩
 rw [show (kdW W i' == endk) = false by simp [hke]]
 obtain ⟨b0, off0, cc, c0, c1, c2, c3, c4, cf⟩ := h.cells
 go_wp2_with fail
 refine (Zad h hiW 13).mono ?_
 rintro e w7 ⟨rfl, B7⟩
 replace K := K.bel B7
 replace h := h.bel B7
 replace F := F.trans ((Fr.of_below B7).low (by omega)) zo
 have hs7 := B7.size
 clear B7 c0 c1 c2 c3 c4 cf
 go_wp2_with (refine Zdn _ rfl rfl ?_)
 intro q7 w8 E7 hq7 B8
 replace h := h.bel B8
 have F7 : Fr p w7.heap.size w7 w8 := Fr.of_below B8
 have hs8 := B8.size
 have hl7 := lt_of_block E7
 clear B8
 go_upto_if 21 with fail
 go_cut [6] from 8 to 50 (fun v6 wx => v6 = .bool (kdW W i' == 13) ∧ ∃ (y : Nd) (iz : Nat) (ez : Int) (tz : Nat) (na : Option Addr) (nc : Nat) (ka : Option Addr) (kc : Nat), wx.heap[q7]? = some (.cells #[.int .i64 y.kind, .string (strOfNums y.text), .int .i64 (y.pos : Int), .int .i64 (y.n : Int), .slice na y.names.length nc, .slice ka y.kids.length kc] 31) ∧ NdV (fun b => w7.heap.size ≤ b) wx y (.agg #[.int .i64 y.kind, .string (strOfNums y.text), .int .i64 (y.pos : Int), .int .i64 (y.n : Int), .slice na y.names.length nc, .slice ka y.kids.length kc]) ∧ Pr wx p W iz d ez tz ∧ Fr p w7.heap.size w7 wx ∧ iz < W.length ∧ Hid (StL W E endk n0 d x0 i' x y iz ez tz))
 case first =>
  by_cases h13 : kdW W i' = 13
  ·skip
   have h13b : (kdW W i' == 13) = true := by simp [h13]
   try rw [h13b]
   have hlt : i' < E := S.ends.lt (by rw [h13]; decide)
   go_wp2_with fail
   refine (Za9 h hiW (by rw [h13]; decide)).mono ?_
   rintro e wN ⟨rfl, hN, FN⟩
   replace h := hN
   replace E7 := (FN.block q7 (lt_of_block E7) (by omega)).trans E7
   replace F7 := F7.trans FN (by omega)
   have hsN := FN.size
   clear FN hN
   unfold Zdh
   go_wp2_with (refine Za8 rfl rfl rfl rfl rfl E7 ?_)
   intro wS E8 S8
   replace h := h.st S8 (by omega)
   replace F7 := F7.trans (Fr.of_below (S8.below (B := w7.heap.size) (by omega))) zo
   have hs8 : wN.heap.size ≤ wS.heap.size := by rw [S8.size]; exact Nat.le_refl _
   clear E7 S8
   have K : Zca wS (fun b => w7.heap.size ≤ b ∧ b ≠ q7) q7 (.mk 11 [] (psW W i') 0 [] []) := Zca.new E8
   clear E8
   obtain ⟨xk, hx⟩ : ∃ xk, Hid (xk = Nd.mk 11 [] (psW W i') 0 [] []) := ⟨_, rfl⟩
   have hxn : xk.names = [] := by rw [hx.out]; rfl
   have hx0 : Hid (xk.kids = []) := by show xk.kids = []; rw [hx.out]; rfl
   have hx0l : xk.kids.length ≤ 0 := by rw [hx0.out]; exact Nat.le_refl _
   have hxl : xk.kids.length ≤ 500000 := by omega
   rw [← hx.out] at K
   obtain ⟨oa, oc, pa, pc, Ek, sn, rk⟩ := K
   have hnc := And.intro sn.room (And.intro sn.most sn.nil0)
   have hko2 : ∀ g, (Value.slice pa xk.kids.length pc).ownBlock = some g → (w7.heap.size ≤ g ∧ g ≠ q7) ∧ g < wS.heap.size := fun g hg => rk.own hg
   have hko : ∀ g, (Value.slice pa xk.kids.length pc).ownBlock = some g → w7.heap.size ≤ g := fun g hg => (hko2 g hg).1.1
   have hkq : (Value.slice pa xk.kids.length pc).ownBlock ≠ some q7 := fun e => (hko2 _ e).1.2 rfl
   have hwS : w7.heap.size ≤ wS.heap.size := by omega
   have hqp4 : q7 ≠ p := by omega
   have hpB : p < w7.heap.size := by omega
   have hAp : ¬ (w7.heap.size ≤ p ∧ p ≠ q7) := by omega
   have hq4S : q7 < wS.heap.size := lt_of_block Ek
   have hA6 : ∀ b, wS.heap.size ≤ b → (w7.heap.size ≤ b ∧ b ≠ q7) := fun b hb => ⟨by omega, by omega⟩
   have hAb : ∀ b g, wS.heap.size ≤ g → (wS.heap.size ≤ b ∨ b = g) → ((w7.heap.size ≤ b ∧ b ≠ q7) ∧ ∀ q, (Value.slice pa xk.kids.length pc).ownBlock = some q → b ≠ q) := fun b g hg hb => ⟨⟨by omega, by omega⟩, fun q hq => by have := hko2 q hq; omega⟩
   have Ekd : wS.drew.heap[q7]? = _ := Ek
   have h6d : Pr wS.drew p W (i' + 1) d 0 0 ∧ Fr p wS.heap.size wS wS.drew := ⟨h.drewP, Fr.drewF _ _ _⟩
   have rkd : Zbu wS.drew (fun b => w7.heap.size ≤ b ∧ b ≠ q7) (.slice pa xk.kids.length pc) xk.kids := rk.keep (fun _ _ _ => rfl)
   have HV : ConV 49 p W (i' + 1) d 0 0 (RsR W (.expr (i' + 1) d)) := (H (i' + 1) (by omega) hlt).v (fun y j hr => by
    have hj := hr.adv S.ends
    simp only [Adv, Qy.place, Qy.takes, Qy.asks] at hj
    exact S.lt (hj (by omega)).2)
   clear sn rk hx0
   go_wp2_with fail
   refine Zah fun A hA => ?_
   have hsz : A.tmps.size = 57 := by rw [hA]; rfl
   have s0 : A.tmps[0]? = some (.pointer (some ⟨p, 0, none⟩)) := by rw [hA]; rfl
   have s7 : A.tmps[7]? = some (.pointer (some ⟨q7, 0, none⟩)) := by rw [hA]; rfl
   refine zR1 (fun A D a w' => ∃ (l : List Value) (ma : Option Addr) (la : Option Addr) (va : Option Addr) (mc : Nat) (lc : Nat) (vc : Nat) (g : Nat) (y : Nd) (iz : Nat) (ez : Int) (tz : Nat), a = Zaj A 26 l ∧ l.length = 7 ∧ (∀ j, j < 7 → D j → l[j]? = some (dsaV xk y p q7 pa ma la va pc mc lc vc g j)) ∧ (D 7 ∨ w'.heap[q7]? = some (.cells #[.int .i64 xk.kind, .string (strOfNums xk.text), .int .i64 (xk.pos : Int), .int .i64 (xk.n : Int), .slice oa xk.names.length oc, .slice pa xk.kids.length pc] 31)) ∧ (D 3 ∨ (Pr w' p W (i' + 1) d 0 0 ∧ Fr p wS.heap.size wS w')) ∧ (D 5 ∨ Zbu w' (fun b => w7.heap.size ≤ b ∧ b ≠ q7) (.slice pa xk.kids.length pc) xk.kids) ∧ (D 3 → RsR W (.expr (i' + 1) d) y iz ez tz ∧ iz < W.length) ∧ (D 7 → ∃ w9, (Zbu w9 (fun b => w7.heap.size ≤ b ∧ b ≠ q7) (.slice va (xk.kids.length + 1) vc) (xk.kids ++ [y]) ∧ Pr w9 p W iz d ez tz ∧ Fr p w7.heap.size wS w9 ∧ (∀ g, (Value.slice va (xk.kids.length + 1) vc).ownBlock = some g → (Value.slice pa xk.kids.length pc).ownBlock = some g ∨ wS.heap.size ≤ g)) ∧ w' = w9.setCell ⟨q7, 5, none⟩ (.slice va (xk.kids.length + 1) vc) ∧ w9.heap[q7]? = some (.cells #[.int .i64 xk.kind, .string (strOfNums xk.text), .int .i64 (xk.pos : Int), .int .i64 (xk.n : Int), .slice oa xk.names.length oc, .slice pa xk.kids.length pc] 31)) ∧ (D 3 → ¬ D 4 → NdV (fun b => wS.heap.size ≤ b) w' y (.agg #[.int .i64 y.kind, .string (strOfNums y.text), .int .i64 (y.pos : Int), .int .i64 (y.n : Int), .slice ma y.names.length mc, .slice la y.kids.length lc]) ∧ Pr w' p W iz d ez tz ∧ Fr p wS.heap.size wS w') ∧ (D 4 → ¬ D 5 → w'.heap[g]? = some (.cells #[.int .i64 y.kind, .string (strOfNums y.text), .int .i64 (y.pos : Int), .int .i64 (y.n : Int), .slice ma y.names.length mc, .slice la y.kids.length lc] 31) ∧ NdV (fun b => wS.heap.size ≤ b) w' y (.agg #[.int .i64 y.kind, .string (strOfNums y.text), .int .i64 (y.pos : Int), .int .i64 (y.n : Int), .slice ma y.names.length mc, .slice la y.kids.length lc]) ∧ Pr w' p W iz d ez tz ∧ Fr p wS.heap.size wS w' ∧ wS.heap.size ≤ g) ∧ (D 5 → ¬ D 7 → Zbu w' (fun b => w7.heap.size ≤ b ∧ b ≠ q7) (.slice va (xk.kids.length + 1) vc) (xk.kids ++ [y]) ∧ Pr w' p W iz d ez tz ∧ Fr p w7.heap.size wS w' ∧ (∀ g, (Value.slice va (xk.kids.length + 1) vc).ownBlock = some g → (Value.slice pa xk.kids.length pc).ownBlock = some g ∨ wS.heap.size ≤ g))) ?start ?step ?done
   case start => exact ⟨_, none, none, none, 0, 0, 0, 0, zNd, 0, 0, 0, zS 26 7 hsz, zG 26 7 hsz, zK, .inr (Ekd), .inr (h6d), .inr (rkd), zf, zf, zF, zF, zF⟩
   case step =>
    clear hA
    intro i o ho D a w' hI hn hcl hd
    obtain ⟨l, ma, la, va, mc, lc, vc, g, y, iz, ez, tz, ha, Lh, hl, hE, hN, hK, hM, hQ, hU, hG, hY⟩ := hI
    match i, ho with
    | 0, ho =>
     cases zq ho
     have ev : a.tmps[7]? = some (.pointer (some ⟨q7, 0, none⟩)) := zu 7 ha Lh hsz s7
     exact zx (.pointer (some ⟨q7, 5, none⟩)) (by simp [execOp, ev, go_sem]) ⟨_, ma, la, va, mc, lc, vc, g, y, iz, ez, tz, zp 0 ha Lh hsz, zh Lh, zk Lh hl, zl hE, zl hN, zl hK, zr hM, zr hQ, zs hU, zs hG, zs hY⟩
    | 1, ho =>
     cases zq ho
     have ev : a.tmps[26]? = some (.pointer (some ⟨q7, 5, none⟩)) := zv ha hsz Lh hl 0 hd
     have e1 := hE.resolve_left (fun h => hn (zc hcl 5 1 rfl (zc hcl 7 5 rfl h)))
     obtain ⟨z0, z1, z2, z3, z4, z5, _⟩ := Zac e1
     exact zx (.slice pa xk.kids.length pc) (by simp [execOp, ev, go_sem, z5]) ⟨_, ma, la, va, mc, lc, vc, g, y, iz, ez, tz, zp 1 ha Lh hsz, zh Lh, zk Lh hl, zl hE, zl hN, zl hK, zr hM, zr hQ, zs hU, zs hG, zs hY⟩
    | 2, ho =>
     cases zq ho
     exact zm (zu 0 ha Lh hsz s0) ⟨_, ma, la, va, mc, lc, vc, g, y, iz, ez, tz, zp 2 ha Lh hsz, zh Lh, zk Lh hl, zl hE, zl hN, zl hK, zr hM, zr hQ, zs hU, zs hG, zs hY⟩
    | 3, ho =>
     cases zq ho
     have ev : a.tmps[28]? = some (.pointer (some ⟨p, 0, none⟩)) := zv ha hsz Lh hl 2 hd
     have hN0 := hN.resolve_left hn
     have e1 := hE.resolve_left (fun h => hn (zc hcl 4 3 rfl (zc hcl 5 4 rfl (zc hcl 7 5 rfl h))))
     have rk0 := hK.resolve_left (fun h => hn (zc hcl 4 3 rfl (zc hcl 5 4 rfl h)))
     refine Zan (f := 49) (args := #[.pointer (some ⟨p, 0, none⟩)]) (by simp [execOp, ev, go_sem]) ?_
     refine (HV w' hN0.1).mono ?_
     rintro e w6 ⟨y', u, iz', ez', tz', rfl, hu, h4, hiz, F4, hM4⟩
     refine ⟨_, rfl, ?_⟩
     obtain ⟨ma', mc', la', lc', _, rfl, _⟩ := NdV.parts hu
     have hsF := F4.size
     have hs60 := hN0.2.size
     exact ⟨_, ma', la', va, mc', lc', vc, g, y', iz', ez', tz', zp 3 ha Lh hsz, zh Lh, Zai (val' := dsaV xk y' p q7 pa ma' la' va pc mc' lc' vc g) Lh (by decide) hl (fun j hj hne => match j, hj, hne with | 0, _, _ => rfl | 1, _, _ => rfl | 2, _, _ => rfl | 3, _, hne => absurd rfl hne | 4, _, _ => rfl | 5, _, _ => rfl | 6, _, _ => rfl | j + 7, _, _ => rfl), .inr ((F4.block q7 (lt_of_block e1) hqp4).trans e1), .inl (.inl rfl), .inr (rk0.keep (fun b hA hb => F4.block b hb (fun e => hAp (e ▸ hA)))), fun _ => ⟨hM4, hiz⟩, za (fun h => hn (zc hcl 4 3 rfl (zc hcl 5 4 rfl (zc hcl 7 5 rfl h)))), fun _ _ => ⟨hu.mono (fun b _ hb => (show wS.heap.size ≤ b from Nat.le_trans hs60 hb)), h4, hN0.2.trans F4 hs60⟩, zb (fun h => hn (zc hcl 4 3 rfl h)), zb (fun h => hn (zc hcl 4 3 rfl (zc hcl 5 4 rfl h)))⟩
    | 4, ho =>
     cases zq ho
     have ev : a.tmps[29]? = some (.agg #[.int .i64 y.kind, .string (strOfNums y.text), .int .i64 (y.pos : Int), .int .i64 (y.n : Int), .slice ma y.names.length mc, .slice la y.kids.length lc]) := zv ha hsz Lh hl 3 hd
     have U3 := hU (zd hd 3) hn
     have e1 := hE.resolve_left (fun h => hn (zc hcl 5 4 rfl (zc hcl 7 5 rfl h)))
     have rk0 := hK.resolve_left (fun h => hn (zc hcl 5 4 rfl h))
     refine Zeg w' _ rfl _ _ _ _ _ _ _ _ _ _ (by simpa [Act.eval] using Zav ev) ?_
     exact ⟨_, ma, la, va, mc, lc, vc, w'.heap.size, y, iz, ez, tz, zp 4 ha Lh hsz, zh Lh, Zai (val' := dsaV xk y p q7 pa ma la va pc mc lc vc w'.heap.size) Lh (by decide) hl (fun j hj hne => match j, hj, hne with | 0, _, _ => rfl | 1, _, _ => rfl | 2, _, _ => rfl | 3, _, _ => rfl | 4, _, hne => absurd rfl hne | 5, _, _ => rfl | 6, _, _ => rfl | j + 7, _, _ => rfl), .inr ((Zbc.block q7 (lt_of_block e1)).trans e1), .inl (.inr (zd hd 3)), .inr (rk0.keep (fun b _ hb => Zbc.block b hb)), zr hM, za (fun h => hn (zc hcl 5 4 rfl (zc hcl 7 5 rfl h))), zi, fun _ _ => ⟨Zc0 w' _, U3.1.bel Zbc, U3.2.1.bel Zbc, U3.2.2.trans (Fr.of_below Zbc) U3.2.2.size, U3.2.2.size⟩, zb (fun h => hn (zc hcl 5 4 rfl h))⟩
    | 5, ho =>
     cases zq ho
     have ev : a.tmps[27]? = some (.slice pa xk.kids.length pc) := zv ha hsz Lh hl 1 hd
     have ev' : a.tmps[30]? = some (.slice (some ⟨g, 0, none⟩) 1 1) := zv ha hsz Lh hl 4 hd
     have G4 := hG (zd hd 4) hn
     have e1 := hE.resolve_left (fun h => hn (zc hcl 7 5 rfl h))
     have rk0 := hK.resolve_left hn
     refine Zeh w' _ _ rfl (by simpa [Act.eval] using Zav ev) (by simpa [Act.eval] using Zav ev') rk0 G4.1 G4.2.1 (fun b hb hh => hAb b g G4.2.2.2.2 hh) hxl (fun b hb => hA6 b (Nat.le_trans G4.2.2.2.1.size hb)) ?_
     intro va' vc' w9 R9 K9 pl9
     have hs9 := K9.size
     exact ⟨_, ma, la, va', mc, lc, vc', g, y, iz, ez, tz, zp 5 ha Lh hsz, zh Lh, Zai (val' := dsaV xk y p q7 pa ma la va' pc mc lc vc' g) Lh (by decide) hl (fun j hj hne => match j, hj, hne with | 0, _, _ => rfl | 1, _, _ => rfl | 2, _, _ => rfl | 3, _, _ => rfl | 4, _, _ => rfl | 5, _, hne => absurd rfl hne | 6, _, _ => rfl | j + 7, _, _ => rfl), .inr ((K9.block q7 (lt_of_block e1) hkq).trans e1), .inl (.inr (zc hcl 4 3 rfl (zd hd 4))), .inl (.inl rfl), zr hM, za (fun h => hn (zc hcl 7 5 rfl h)), zj (zd hd 4), zi, fun _ _ => ⟨R9, G4.2.2.1.below (K9.below (B := w7.heap.size) (by have := G4.2.2.2.1.size; omega) (fun g' hg' => hko g' hg')) hpB, (G4.2.2.2.1.low hwS).trans (Fr.of_below (K9.below (B := w7.heap.size) (by have := G4.2.2.2.1.size; omega) (fun g' hg' => hko g' hg'))) zo, fun g' hg' => (pl9 g' hg').imp_right (fun h => Nat.le_trans G4.2.2.2.1.size h)⟩⟩
    | 6, ho =>
     cases zq ho
     have ev : a.tmps[7]? = some (.pointer (some ⟨q7, 0, none⟩)) := zu 7 ha Lh hsz s7
     exact zx (.pointer (some ⟨q7, 5, none⟩)) (by simp [execOp, ev, go_sem]) ⟨_, ma, la, va, mc, lc, vc, g, y, iz, ez, tz, zp 6 ha Lh hsz, zh Lh, zk Lh hl, zl hE, zl hN, zl hK, zr hM, zr hQ, zs hU, zs hG, zs hY⟩
    | 7, ho =>
     cases zq ho
     have ev : a.tmps[32]? = some (.pointer (some ⟨q7, 5, none⟩)) := zv ha hsz Lh hl 6 hd
     have ev' : a.tmps[31]? = some (.slice va (xk.kids.length + 1) vc) := zv ha hsz Lh hl 5 hd
     have e1 := hE.resolve_left hn
     obtain ⟨z0, z1, z2, z3, z4, z5, zf⟩ := Zac e1
     have zf5 := zf 5
     have L := hY (zd hd 5) hn
     refine Zbj (w' := w'.setCell ⟨q7, 5, none⟩ (.slice va (xk.kids.length + 1) vc)) (by simp [execOp, Act.eval, ev, ev', go_sem, z5, zf5]) ?_
     exact ⟨l, ma, la, va, mc, lc, vc, g, y, iz, ez, tz, ha, Lh, zJ hl, .inl (.inl rfl), .inl (.inr (zc hcl 4 3 rfl (zc hcl 5 4 rfl (zd hd 5)))), .inl (.inr (zd hd 5)), zr hM, fun _ => ⟨w', L, rfl, e1⟩, zj (zc hcl 5 4 rfl (zd hd 5)), zj (zd hd 5), zi⟩
    | i + 8, ho => simp at ho
   case done =>
    rintro D a w' ⟨l, ma, la, va, mc, lc, vc, g, y, iz, ez, tz, ha, Lh, hl, hE, hN, hK, hM, hQ, hU, hG, hY⟩ hall
    obtain ⟨v0, v1, v2, v3, v4, v5, v6, rfl⟩ := zL7 Lh
    obtain ⟨w9, ⟨R9, h9, F9, pl9⟩, ew, E9⟩ := hQ (hall 7 (by decide))
    obtain ⟨hRel, hiz⟩ := hM (hall 3 (by decide))
    subst hA
    have hfr : a = _ := ha
    rw [hfr]
    clear hfr ha
    simp only [Zaj, yG, yH]
    clear hl hE hN hK hU hG hY hQ hM hall
    have S9 := St.cell w9 q7 5 (.slice va (xk.kids.length + 1) vc)
    have K9 := Zca.put2 hxn E9 hnc R9 (by omega)
    replace h9 := h9.st S9 (by omega)
    have hs9F := F9.size
    replace F7 := (F7.trans F9 zo).trans (Fr.of_below (S9.below (B := w7.heap.size) (by omega))) zo
    rw [← ew] at K9 h9 F7 S9
    have hsz9 := S9.size
    clear ew S9 E9 F9 R9 pl9
    have hkl : (xk.kid y).kids.length = xk.kids.length + 1 := by simp [Nd.kid, Nd.kids]
    obtain ⟨na, nc, ka, kc, Ek, hv⟩ := K9.nd (by rw [show (xk.kid y).names = xk.names from rfl, hxn]; simp) (by omega) (by rw [show (xk.kid y).text = xk.text from rfl, hx.out]; simp only [Nd.text]; decide)
    have hxy : Hid (xk.kid y = .mk 11 [] (psW W i') 0 [] [y]) := by show xk.kid y = _; rw [hx.out]; rfl
    go_wp2
    go_meet
    case rel =>
     refine ⟨by rw [h13b], xk.kid y, iz, ez, tz, na, nc, ka, kc, Ek, hv.imp (fun b _ hh => ⟨hh.1, rfl⟩) _ _, h9, F7, hiz, ?_⟩
     rw [hxy.out]
     rcases hRel with ⟨rfl, rfl, g3⟩ | ⟨g1, m, g3, rfl⟩
     ·exact StL.ret S.ends hGX.out h13 g3
     exact StL.er hGX.out hke g1 (fun _ => g3) (fun h => absurd h13 h)
  have h13b : (kdW W i' == 13) = false := by simp [h13]
  try rw [h13b]
  go_wp2_with fail
  refine (H i' hii hi' w8 p h).mono ?_
  rintro e wN ⟨r, hr, ha, FN⟩
  replace E7 := (FN.block q7 (lt_of_block E7) (by omega)).trans E7
  replace F7 := F7.trans FN (by omega)
  have hsN := FN.size
  clear FN h
  cases r with
  | er j c =>
   obtain ⟨v, y, iz, rfl, hv, h, hiz, hc⟩ := ha
   obtain ⟨na, nc, ka, kc, _, rfl, _⟩ := NdV.parts hv
   go_wp2_with (refine Za8 rfl rfl rfl rfl rfl E7 ?_)
   intro wS E8 S8
   replace h := h.st S8 (by omega)
   replace F7 := F7.trans (Fr.of_below (S8.below (B := w7.heap.size) (by omega))) zo
   replace hv := hv.imp (A' := fun b => w7.heap.size ≤ b) (w' := wS) (fun b _ hA => ⟨by omega, S8.block b (by omega)⟩) _ _
   go_wp2
   go_meet
   case rel => exact ⟨by rw [h13b], y, iz, c, _, na, nc, ka, kc, E8, hv, h, F7, hiz, StL.er hGX.out hke hc (fun h => absurd h h13) (fun _ => hr)⟩
  | ok y j =>
   obtain ⟨v, rfl, hv, h⟩ := ha
   have hj := hr.adv S.ends
   simp only [Adv, Qy.place, Qy.takes, Qy.asks] at hj
   replace hj := hj (by omega)
   obtain ⟨na, nc, ka, kc, _, rfl, _⟩ := NdV.parts hv
   go_wp2_with (refine Za8 rfl rfl rfl rfl rfl E7 ?_)
   intro wS E8 S8
   replace h := h.st S8 (by omega)
   replace F7 := F7.trans (Fr.of_below (S8.below (B := w7.heap.size) (by omega))) zo
   replace hv := hv.imp (A' := fun b => w7.heap.size ≤ b) (w' := wS) (fun b _ hA => ⟨by omega, S8.block b (by omega)⟩) _ _
   go_wp2
   go_meet
   case rel => exact ⟨by rw [h13b], y, j, 0, _, na, nc, ka, kc, E8, hv, h, F7, S.lt hj.2, StL.plain S.ends hi' hGX.out h13 hr⟩
 obtain ⟨rfl, y, iz, ez, tz, na, nc, ka, kc, E9, hv, h2, F7c, hiz, hL⟩ := hcut
 clear E7 F7 h
 have h := h2
 have F7 := F7c
 clear h2 F7c
 have hs9 := F7.size
 obtain ⟨oa, oc, pa, pc, Ek, sn, rk⟩ := K
 have hko : ∀ b, (Value.slice pa x.kids.length pc).ownBlock = some b → Z b ∧ b < w7.heap.size := fun b hb => rk.own hb
 have hql : q < w7.heap.size := lt_of_block Ek
 replace Ek := (F7.block q hql hqp).trans Ek
 replace sn := sn.imp (fun b hb hA => ⟨hA, F7.block b hb (fun e => hZp (e ▸ hA.1))⟩)
 replace rk := rk.keep (fun b hA hb => F7.block b hb (fun e => hZp (e ▸ hA)))
 replace F := F.trans (F7.low (B' := B) (by omega)) zo
 have hBc : B ≤ wc.heap.size := by omega
 clear F7
 go_wp2_with fail
 have G9 : Sg p q q7 B w7.heap.size Z wc x pa pc := ⟨G.hp, by omega, by omega, G.hq, hql, G.nq, G.lo, fun b hb => G.new b (by omega), hko, by omega, lt_of_block E9⟩
 have hSd : Sfd W p q q7 B iz d w7.heap.size ez tz Z wc x y pa pc oa oc na nc ka kc wc.drew := ⟨E9, h.drewP, Fr.of_below (Below.refl _ wc).drew, sn.imp (fun b hb hA => ⟨⟨hA, hb⟩, rfl⟩), NdV.imp (w := wc) (w' := wc.drew) (A := fun b => w7.heap.size ≤ b) (A' := fun b => w7.heap.size ≤ b ∧ b < wc.heap.size) (fun b hb hA => ⟨⟨hA, hb⟩, rfl⟩) _ _ hv⟩
 have Ekd : wc.drew.heap[q]? = _ := Ek
 have rkd : Zbu wc.drew Z (.slice pa x.kids.length pc) x.kids := rk.keep (fun b _ hb => rfl)
 have hix : (0 : Int) ≤ (x.kids.length : Int) := by omega
 have hix2 : ((x.kids.length : Int)).toNat = x.kids.length := by omega
 have hix3 : (x.kids.length : Int) < ((x.kids.length + 1 : Nat) : Int) := by omega
 clear E9 sn hv rk
 refine Zah fun AA hA => ?_
 have hsz : AA.tmps.size = 57 := by rw [hA]; rfl
 have s1 : AA.tmps[1]? = some (.pointer (some ⟨q, 0, none⟩)) := by rw [hA]; rfl
 have s7 : AA.tmps[7]? = some (.pointer (some ⟨q7, 0, none⟩)) := by rw [hA]; rfl
 refine zR1 (fun AA D a w' => ∃ (l : List Value) (z : Nat) (g : Nat) (vc : Nat), a = Zaj AA 35 l ∧ l.length = 11 ∧ (∀ j, j < 11 → D (opO j) → l[j]? = some (dstV x y q z g vc pa pc na nc ka kc j)) ∧ (D 12 ∨ w'.heap[q]? = some (.cells #[.int .i64 x.kind, .string (strOfNums x.text), .int .i64 (x.pos : Int), .int .i64 (x.n : Int), .slice oa x.names.length oc, .slice pa x.kids.length pc] 31)) ∧ (Sfd W p q q7 B iz d w7.heap.size ez tz Z wc x y pa pc oa oc na nc ka kc w') ∧ (D 7 ∨ Zbu w' Z (.slice pa x.kids.length pc) x.kids) ∧ (D 6 → ¬ D 7 → (w'.heap[z]? = some (.cells #[.int .i64 0, .string ⟨#[]⟩, .int .i64 0, .int .i64 0, .slice none 0 0, .slice none 0 0] 31) ∧ wc.heap.size ≤ z)) ∧ (D 7 → ¬ D 9 → Zbu w' Z (.slice (some ⟨g, 0, none⟩) (x.kids.length + 1) vc) (x.kids ++ [zNd])) ∧ (D 9 → Zbu w' Z (.slice (some ⟨g, 0, none⟩) (x.kids.length + 1) vc) (x.kids ++ [y])) ∧ (D 7 → (∀ h, (Value.slice (some ⟨g, 0, none⟩) (x.kids.length + 1) vc).ownBlock = some h → (Value.slice pa x.kids.length pc).ownBlock = some h ∨ wc.heap.size ≤ h)) ∧ (D 12 → w'.heap[q]? = some (.cells #[.int .i64 x.kind, .string (strOfNums x.text), .int .i64 (x.pos : Int), .int .i64 (x.n : Int), .slice oa x.names.length oc, .slice (some ⟨g, 0, none⟩) (x.kids.length + 1) vc] 31))) ?start ?step ?done
 case start => exact ⟨_, 0, 0, 0, zS 35 11 hsz, zG 35 11 hsz, zK, .inr Ekd, hSd, .inr rkd, zF, zF, zf, zf, zf⟩
 case step =>
  clear hA
  intro i o ho D a w' hI hn hcl hd
  obtain ⟨l, z, g, vc, ha, Lh, hl, hK, hS, hR0, hZ, hR1, hR2, hP, hQ⟩ := hI
  match i, ho with
  | 0, ho =>
   cases zq ho
   have ev : a.tmps[1]? = some (.pointer (some ⟨q, 0, none⟩)) := by rw [ha, Zcs AA 35 1 l (by omega) (by decide)]; exact s1
   exact zx (.pointer (some ⟨q, 0, none⟩)) (by simp [execOp, ev, go_sem]) ⟨_, z, g, vc, zp 0 ha Lh hsz, zh Lh, fun j hj h => Za5 (D := fun j => D (opO j)) Lh (by decide) hl j hj (h.imp_left (fun e => Zbi (k := 0) e)), zl hK, hS, zl hR0, zs hZ, zs hR1, zr hR2, zr hP, zr hQ⟩
  | 1, ho =>
   cases zq ho
   have ev : a.tmps[35]? = some (.pointer (some ⟨q, 0, none⟩)) := Zag (D := fun j => D (opO j)) ha hsz Lh hl 0 (by decide) (zd hd 0)
   exact zx (.pointer (some ⟨q, 0, none⟩)) (by simp [execOp, ev, go_sem]) ⟨_, z, g, vc, zp 1 ha Lh hsz, zh Lh, fun j hj h => Za5 (D := fun j => D (opO j)) Lh (by decide) hl j hj (h.imp_left (fun e => Zbi (k := 1) e)), zl hK, hS, zl hR0, zs hZ, zs hR1, zr hR2, zr hP, zr hQ⟩
  | 2, ho =>
   cases zq ho
   have ev : a.tmps[36]? = some (.pointer (some ⟨q, 0, none⟩)) := Zag (D := fun j => D (opO j)) ha hsz Lh hl 1 (by decide) (zd hd 1)
   exact zx (.pointer (some ⟨q, 5, none⟩)) (by simp [execOp, ev, go_sem]) ⟨_, z, g, vc, zp 2 ha Lh hsz, zh Lh, fun j hj h => Za5 (D := fun j => D (opO j)) Lh (by decide) hl j hj (h.imp_left (fun e => Zbi (k := 2) e)), zl hK, hS, zl hR0, zs hZ, zs hR1, zr hR2, zr hP, zr hQ⟩
  | 3, ho =>
   cases zq ho
   have ev : a.tmps[37]? = some (.pointer (some ⟨q, 5, none⟩)) := Zag (D := fun j => D (opO j)) ha hsz Lh hl 2 (by decide) (zd hd 2)
   have e1 := hK.resolve_left (fun h => hn (zc hcl 7 3 rfl (zc hcl 12 7 rfl h)))
   obtain ⟨z0, z1, z2, z3, z4, z5, _⟩ := Zac e1
   exact zx (.slice pa x.kids.length pc) (by simp [execOp, ev, go_sem, z5]) ⟨_, z, g, vc, zp 3 ha Lh hsz, zh Lh, fun j hj h => Za5 (D := fun j => D (opO j)) Lh (by decide) hl j hj (h.imp_left (fun e => Zbi (k := 3) e)), zl hK, hS, zl hR0, zs hZ, zs hR1, zr hR2, zr hP, zr hQ⟩
  | 4, ho =>
   cases zq ho
   have ev : a.tmps[7]? = some (.pointer (some ⟨q7, 0, none⟩)) := by rw [ha, Zcs AA 35 7 l (by omega) (by decide)]; exact s7
   obtain ⟨z0, z1, z2, z3, z4, z5, _⟩ := Zac hS.five
   exact zx (.agg #[.int .i64 y.kind, .string (strOfNums y.text), .int .i64 (y.pos : Int), .int .i64 (y.n : Int), .slice na y.names.length nc, .slice ka y.kids.length kc]) (by simp [execOp, ev, go_sem, z0, z1, z2, z3, z4, z5]) ⟨_, z, g, vc, zp 4 ha Lh hsz, zh Lh, fun j hj h => Za5 (D := fun j => D (opO j)) Lh (by decide) hl j hj (h.imp_left (fun e => Zbi (k := 4) e)), zl hK, hS, zl hR0, zs hZ, zs hR1, zr hR2, zr hP, zr hQ⟩
  | 5, ho =>
   cases zq ho
   have ev : a.tmps[38]? = some (.slice pa x.kids.length pc) := Zag (D := fun j => D (opO j)) ha hsz Lh hl 3 (by decide) (zd hd 3)
   exact zx (.int .i64 (x.kids.length : Int)) (by simp [execOp, ev, go_sem]) ⟨_, z, g, vc, zp 5 ha Lh hsz, zh Lh, fun j hj h => Za5 (D := fun j => D (opO j)) Lh (by decide) hl j hj (h.imp_left (fun e => Zbi (k := 5) e)), zl hK, hS, zl hR0, zs hZ, zs hR1, zr hR2, zr hP, zr hQ⟩
  | 6, ho =>
   cases zq ho
   have e0 := hR0.resolve_left (fun h => hn (zc hcl 7 6 rfl h))
   refine Zba (w' := (w'.alloc (.cells #[.int .i64 0, .string ⟨#[]⟩, .int .i64 0, .int .i64 0, .slice none 0 0, .slice none 0 0] 31))) (v := .slice (some ⟨w'.heap.size, 0, none⟩) 1 1) (by simp [execOp, go_sem]) ?_
   exact ⟨_, w'.heap.size, g, vc, zp 6 ha Lh hsz, zh Lh, fun j hj h => Zai (D := fun j => D (opO j)) (val' := dstV x y q w'.heap.size g vc pa pc na nc ka kc) Lh (by decide) hl (fun j hj hne => match j, hj, hne with | 0, _, _ => rfl | 1, _, _ => rfl | 2, _, _ => rfl | 3, _, _ => rfl | 4, _, _ => rfl | 5, _, _ => rfl | 6, _, hne => absurd rfl hne | 7, _, _ => rfl | 8, _, _ => rfl | 9, _, _ => rfl | 10, _, _ => rfl | j + 11, _, _ => rfl) j hj (h.imp_left (fun e => Zbi (k := 6) e)), hK.imp .inr (fun h => (Zbc.block q (lt_of_block h)).trans h), hS.step G9 (Kq.of_below (Zbc.mono hS.fr.size)), .inr (e0.keep (fun b _ hb => Zbc.block b hb)), fun _ _ => ⟨Zc0 w' _, hS.fr.size⟩, zb (fun h => hn (zc hcl 7 6 rfl h)), za (fun h => hn (zc hcl 7 6 rfl (zc hcl 8 7 rfl (zc hcl 9 8 rfl h)))), za (fun h => hn (zc hcl 7 6 rfl h)), za (fun h => hn (zc hcl 7 6 rfl (zc hcl 12 7 rfl h)))⟩
  | 7, ho =>
   cases zq ho
   have ev : a.tmps[38]? = some (.slice pa x.kids.length pc) := Zag (D := fun j => D (opO j)) ha hsz Lh hl 3 (by decide) (zd hd 3)
   have ev' : a.tmps[41]? = some (.slice (some ⟨z, 0, none⟩) 1 1) := Zag (D := fun j => D (opO j)) ha hsz Lh hl 6 (by decide) (zd hd 6)
   have e0 := hR0.resolve_left hn
   have eZ := hZ (zd hd 6) hn
   have hzo : ∀ b, (Value.slice pa x.kids.length pc).ownBlock = some b → z ≠ b := fun b hb e => by have := (G9.own b hb).2; have := G9.h79; omega
   refine opzd w' (.tmp 38) (.tmp 41) rfl (by simpa [Act.eval] using Zav ev) (by simpa [Act.eval] using Zav ev') e0 eZ.1 ⟨G9.new z (by have := G9.h79; omega), hzo⟩ (by omega) (fun b hb => G9.new b (by have := G9.h79; have := hS.fr.size; omega)) ?_
   intro va vc0 w7 R7 K7 pl7
   obtain ⟨g', vc', e7, hAg⟩ := R7.some_
   simp only [Value.slice.injEq] at e7
   obtain ⟨rfl, _, rfl⟩ := e7
   exact ⟨_, z, g', vc0, zp 7 ha Lh hsz, zh Lh, fun j hj h => Zai (D := fun j => D (opO j)) (val' := dstV x y q z g' vc0 pa pc na nc ka kc) Lh (by decide) hl (fun j hj hne => match j, hj, hne with | 0, _, _ => rfl | 1, _, _ => rfl | 2, _, _ => rfl | 3, _, _ => rfl | 4, _, _ => rfl | 5, _, _ => rfl | 6, _, _ => rfl | 7, _, hne => absurd rfl hne | 8, hj, _ => absurd hj (fun h => hn (zc hcl 8 7 rfl h)) | 9, _, _ => rfl | 10, _, _ => rfl | j + 11, _, _ => rfl) j hj (h.imp_left (fun e => Zbi (k := 7) e)), hK.imp .inr (fun h => (K7.block q (lt_of_block h) (fun e => G9.nq (G9.own q e).1)).trans h), hS.step G9 (Kq.of_kp K7 hS.fr.size), .inl (.inl rfl), zi, fun _ _ => R7, za (fun h => hn (zc hcl 8 7 rfl (zc hcl 9 8 rfl h))), fun _ h hh => (pl7 h hh).imp id (fun k => Nat.le_trans hS.fr.size k), za (fun h => hn (zc hcl 12 7 rfl h))⟩
  | 8, ho =>
   cases zq ho
   have ev : a.tmps[42]? = some (.slice (some ⟨g, 0, none⟩) (x.kids.length + 1) vc) := Zag (D := fun j => D (opO j)) ha hsz Lh hl 7 (by decide) (zd hd 7)
   have ev' : a.tmps[40]? = some (.int .i64 (x.kids.length : Int)) := Zag (D := fun j => D (opO j)) ha hsz Lh hl 5 (by decide) (zd hd 5)
   refine Zba (w' := w') (v := .pointer (some ⟨g, x.kids.length * 6, none⟩)) ?_ ?_
   ·simp [execOp, ev, ev', go_sem, hix, hix2]
    intro hh
    exact absurd hh (by omega)
   exact ⟨_, z, g, vc, zp 8 ha Lh hsz, zh Lh, fun j hj h => Za5 (D := fun j => D (opO j)) Lh (by decide) hl j hj (h.imp_left (fun e => Zbi (k := 8) e)), zl hK, hS, zl hR0, zs hZ, zs hR1, zr hR2, zr hP, zr hQ⟩
  | 9, ho =>
   cases zq ho
   have ev : a.tmps[43]? = some (.pointer (some ⟨g, x.kids.length * 6, none⟩)) := Zag (D := fun j => D (opO j)) ha hsz Lh hl 8 (by decide) (zd hd 8)
   have ev' : a.tmps[39]? = some (.agg #[.int .i64 y.kind, .string (strOfNums y.text), .int .i64 (y.pos : Int), .int .i64 (y.n : Int), .slice na y.names.length nc, .slice ka y.kids.length kc]) := Zag (D := fun j => D (opO j)) ha hsz Lh hl 4 (by decide) (zd hd 4)
   have e1 := hR1 (zc hcl 8 7 rfl (zd hd 8)) hn
   obtain ⟨g2, c2, e2, hAg, hgl, hc6, fz, R6⟩ := e1.put hS.hv (fun b _ hb => ⟨G9.new b hb.1, fun h hh => by rcases hP (zc hcl 8 7 rfl (zd hd 8)) h hh with k | k <;> first | (have := (G9.own h k).2; omega) | omega⟩)
   simp only [Value.slice.injEq, Option.some.injEq, Addr.mk.injEq, and_true, true_and] at e2
   obtain ⟨rfl, rfl⟩ := e2
   have hc7 := hc6
   have S6 := Zmy w' g (x.kids.length * 6) (.int .i64 y.kind) (.string (strOfNums y.text)) (.int .i64 (y.pos : Int)) (.int .i64 (y.n : Int)) (.slice na y.names.length nc) (.slice ka y.kids.length kc)
   have hqg : q ≠ g := fun e => G9.nq (e ▸ hAg)
   obtain ⟨u0, u1, u2, u3, u4, u5, s0, s1, s2, s3, s4, s5⟩ := hc7
   refine st6d w' 43 39 rfl rfl g (x.kids.length * 6) _ _ _ _ _ _ _ _ _ _ (Zav ev) (Zav ev') ⟨_, _, _, _, _, _, s0, s1, s2, s3, s4, s5⟩ fz ?_
   exact ⟨l, z, g, vc, ha, Lh, fun j hj h => hl j hj (h.resolve_left (opO_9 j)), hK.imp .inr (fun h => (S6.block q hqg).trans h), hS.step G9 (Kq.of_st S6 ((hP (zc hcl 8 7 rfl (zd hd 8)) g rfl).elim (fun h => .inr (.inl h)) (fun h => .inr (.inr h)))), .inl (.inr (zc hcl 8 7 rfl (zd hd 8))), zj (zc hcl 8 7 rfl (zd hd 8)), zi, fun _ => R6, zr hP, fun h => (S6.block q hqg).trans (hQ (h.resolve_left (by decide)))⟩
  | 10, ho =>
   cases zq ho
   have ev : a.tmps[35]? = some (.pointer (some ⟨q, 0, none⟩)) := Zag (D := fun j => D (opO j)) ha hsz Lh hl 0 (by decide) (zd hd 0)
   exact zx (.pointer (some ⟨q, 0, none⟩)) (by simp [execOp, ev, go_sem]) ⟨_, z, g, vc, zp 9 ha Lh hsz, zh Lh, fun j hj h => Za5 (D := fun j => D (opO j)) Lh (by decide) hl j hj (h.imp_left (fun e => Zbi (k := 9) e)), zl hK, hS, zl hR0, zs hZ, zs hR1, zr hR2, zr hP, zr hQ⟩
  | 11, ho =>
   cases zq ho
   have ev : a.tmps[44]? = some (.pointer (some ⟨q, 0, none⟩)) := Zag (D := fun j => D (opO j)) ha hsz Lh hl 9 (by decide) (zd hd 10)
   exact zx (.pointer (some ⟨q, 5, none⟩)) (by simp [execOp, ev, go_sem]) ⟨_, z, g, vc, zp 10 ha Lh hsz, zh Lh, fun j hj h => Za5 (D := fun j => D (opO j)) Lh (by decide) hl j hj (h.imp_left (fun e => Zbi (k := 10) e)), zl hK, hS, zl hR0, zs hZ, zs hR1, zr hR2, zr hP, zr hQ⟩
  | 12, ho =>
   cases zq ho
   have ev : a.tmps[45]? = some (.pointer (some ⟨q, 5, none⟩)) := Zag (D := fun j => D (opO j)) ha hsz Lh hl 10 (by decide) (zd hd 11)
   have ev' : a.tmps[42]? = some (.slice (some ⟨g, 0, none⟩) (x.kids.length + 1) vc) := Zag (D := fun j => D (opO j)) ha hsz Lh hl 7 (by decide) (zd hd 7)
   have e1 := hK.resolve_left hn
   obtain ⟨z0, z1, z2, z3, z4, z5, zf⟩ := Zac e1
   have S5 := St.cell w' q 5 (.slice (some ⟨g, 0, none⟩) (x.kids.length + 1) vc)
   refine stqd w' 45 42 rfl rfl q 5 _ _ _ (Zav ev) (Zav ev') z5 (zf 5) ?_
   have E5 : (w'.setCell ⟨q, 5, none⟩ (.slice (some ⟨g, 0, none⟩) (x.kids.length + 1) vc)).heap[q]? = some (.cells #[.int .i64 x.kind, .string (strOfNums x.text), .int .i64 (x.pos : Int), .int .i64 (x.n : Int), .slice oa x.names.length oc, .slice (some ⟨g, 0, none⟩) (x.kids.length + 1) vc] 31) := by
      rw [heap_setCell_same w' q 5 _ _ _ e1]
      simp
   exact ⟨l, z, g, vc, ha, Lh, fun j hj h => hl j hj (h.resolve_left (opO_12 hj)), .inl (.inl rfl), hS.step G9 (Kq.of_st S5 (.inl rfl)), .inl (.inr (zd hd 7)), zj (zd hd 7), fun h h' => (hR1 (h.resolve_left (by decide)) (fun k => h' (.inr k))).keep (fun b hb _ => S5.block b (fun e => G9.nq (e ▸ hb))), fun h => (hR2 (h.resolve_left (by decide))).keep (fun b hb _ => S5.block b (fun e => G9.nq (e ▸ hb))), zr hP, fun _ => E5⟩
  | i + 13, ho => simp at ho
 rintro D a w' ⟨l, z, g, vc, ha, Lh, hl, hK, hS, hR0, hZ, hR1, hR2, hP, hQ⟩ hall
 have R2 := hR2 (hall 9 (by decide))
 have P2 := hP (hall 7 (by decide))
 have Q2 := hQ (hall 12 (by decide))
 obtain ⟨v0, v1, v2, v3, v4, v5, v6, v7, v8, v9, v10, rfl⟩ := zL11 Lh
 subst hA
 have hfr : a = _ := ha
 rw [hfr]
 clear hfr ha
 simp only [Zaj, yA, yB, yC, yD, yE, yF, yG, yH]
 clear hl Lh hK hR0 hZ hR1 hR2 hP hQ hall
 clear hsz s1 s7
 have KZ : Zca w' Z q (x.kid y) := by
  have hkl : (x.kid y).kids.length = x.kids.length + 1 := by simp [Nd.kid, Nd.kids]
  refine ⟨oa, oc, some ⟨g, 0, none⟩, vc, ?_, ?_, ?_⟩
  ·rw [Q2]; simp [Nd.kid, Nd.kind, Nd.text, Nd.pos, Nd.n, Nd.names, Nd.kids]
  ·rw [hkl]; exact hS.sn.imp (fun b hb hh => ⟨⟨hh.1.1, fun h hg => (P2 h hg).elim (hh.1.2 h) (fun k => by have := hh.2; omega)⟩, rfl⟩)
  rw [hkl]; exact R2
 obtain ⟨E5, hrd, hfr, _, _⟩ := hS
 have F9 := F.trans hfr zo
 have hkl : (x.kid y).kids.length = x.kids.length + 1 := by simp [Nd.kid, Nd.kids]
 have hkn : (x.kid y).names = x0.names := hxn.out.1
 have hkt : (x.kid y).text = x0.text := hxn.out.2
 have hsB : B ≤ w'.heap.size := by have := hfr.size; omega
 clear R2 P2 Q2 Ek Ekd rkd hSd G9 h F hfr E5
 by_cases he : ez = 0
 ·subst he
  have hLz := hL.out.1 rfl
  obtain rfl : tz = 0 := hLz.1
  have hjE : iz ≤ E := hLz.2.2.1
  have hij : i' < iz := hLz.2.1
  clear hLz
  by_cases hk14 : kdW W iz = 14
  ·have hjE' : iz < E := S.ends.lt (by rw [hk14]; decide)
   have hiz1 : iz + 1 < W.length := S.lt hjE'
   go_wp2_with fail
   refine (Zad hrd hiz 14).mono ?_
   rintro e w3 ⟨rfl, B3⟩
   rw [show (kdW W iz == 14) = true by simp [hk14]]
   replace hrd := hrd.bel B3
   replace KZ := KZ.bel B3
   replace F9 := F9.trans ((Fr.of_below B3).low hsB) zo
   have hs3 := B3.size
   clear B3
   go_wp2_with fail
   refine (Za9 hrd hiz (by rw [hk14]; decide)).mono ?_
   rintro e w4 ⟨rfl, h4, F4⟩
   replace KZ := KZ.fr F4 hqp hZp
   replace F9 := F9.trans (F4.low (by omega)) zo
   have hs4 := F4.size
   clear hrd F4
   unfold Zdh
   by_cases hl13 : kdW W i' = 13
   ·have hlb : (kdW W i' == 13) = true := by simp [hl13]
    have hR : Hid (Zaa W (.stmts n0 d x0) (.ok (x.kid y) (iz + 1))) := hL.out.out (.inr ⟨hk14, rfl, hlb⟩)
    clear hL
    try rw [hlb]
    by_cases hke : kdW W (iz + 1) = endk
    ·go_wp2_with fail
     refine (Zad h4 hiz1 endk).mono ?_
     rintro e w5 ⟨rfl, B5⟩
     rw [show (kdW W (iz + 1) == endk) = true by simp [hke]]
     go_wp2
     go_end0
     exact ⟨x.kid y, iz + 1, 0, 0, rfl, KZ.bel B5, h4.bel B5, hiz1, F9.trans ((Fr.of_below B5).low (by omega)) zo, ⟨hkn, hkt, by omega⟩, Zot.yes hR.out hke⟩
    go_wp2_with fail
    refine (Zad h4 hiz1 endk).mono ?_
    rintro e w5 ⟨rfl, B5⟩
    rw [show (kdW W (iz + 1) == endk) = false by simp [hke]]
    have hs5 := B5.size
    go_wp2_with fail
    refine (Zb6 (h4.bel B5) hiz1 20).mono ?_
    rintro e w6 ⟨rfl, h6, F6⟩
    go_wp2
    go_end0
    exact ⟨x.kid y, iz + 1, 20, _, rfl, (KZ.bel B5).fr F6 hqp hZp, h6, hiz1, (F9.trans ((Fr.of_below B5).low (by omega)) zo).trans (F6.low (by omega)) zo, ⟨hkn, hkt, by omega⟩, Zot.no hR.out hke⟩
   have hlb : (kdW W i' == 13) = false := by simp [hl13]
   have hGo : Hid (StG W n0 d x0 (iz + 1) (x.kid y)) := hL.out.go hk14 hlb
   clear hL
   try rw [hlb]
   go_wp2
   go_roundw
   case rel => exact ⟨iz + 1, x.kid y, KZ, h4, F9, by omega, by omega, by omega, ⟨hkn, hkt⟩, hGo.out⟩
   case measure => rw [h4.mea, hat]; simp; omega
  have hR : Hid (Zaa W (.stmts n0 d x0) (.ok (x.kid y) iz)) := hL.out.out (.inl ⟨hk14, rfl⟩)
  clear hL
  go_wp2_with fail
  refine (Zad hrd hiz 14).mono ?_
  rintro e w3 ⟨rfl, B3⟩
  rw [show (kdW W iz == 14) = false by simp [hk14]]
  replace hrd := hrd.bel B3
  replace KZ := KZ.bel B3
  replace F9 := F9.trans ((Fr.of_below B3).low hsB) zo
  have hs3 := B3.size
  clear B3
  by_cases hke : kdW W (iz) = endk
  ·go_wp2_with fail
   refine (Zad hrd hiz endk).mono ?_
   rintro e w5 ⟨rfl, B5⟩
   rw [show (kdW W (iz) == endk) = true by simp [hke]]
   go_wp2
   go_end0
   exact ⟨x.kid y, iz, 0, 0, rfl, KZ.bel B5, hrd.bel B5, hiz, F9.trans ((Fr.of_below B5).low (by omega)) zo, ⟨hkn, hkt, by omega⟩, Zot.yes hR.out hke⟩
  go_wp2_with fail
  refine (Zad hrd hiz endk).mono ?_
  rintro e w5 ⟨rfl, B5⟩
  rw [show (kdW W (iz) == endk) = false by simp [hke]]
  have hs5 := B5.size
  go_wp2_with fail
  refine (Zb6 (hrd.bel B5) hiz 20).mono ?_
  rintro e w6 ⟨rfl, h6, F6⟩
  go_wp2
  go_end0
  exact ⟨x.kid y, iz, 20, _, rfl, (KZ.bel B5).fr F6 hqp hZp, h6, hiz, (F9.trans ((Fr.of_below B5).low (by omega)) zo).trans (F6.low (by omega)) zo, ⟨hkn, hkt, by omega⟩, Zot.no hR.out hke⟩
 have hE : Hid (StE W endk n0 d x0 ez tz) := hL.out.2 he
 have heb : (ez == 0) = false := by simp [he]
 clear hL
 go_wp2_with fail
 refine (Zax hrd hiz he 14).mono ?_
 rintro e w3 ⟨rfl, B3⟩
 replace hrd := hrd.bel B3
 replace KZ := KZ.bel B3
 replace F9 := F9.trans ((Fr.of_below B3).low hsB) zo
 have hs3 := B3.size
 clear B3
 go_wp2_with fail
 refine (Zax hrd hiz he endk).mono ?_
 rintro e w5 ⟨rfl, B5⟩
 replace hrd := hrd.bel B5
 replace KZ := KZ.bel B5
 replace F9 := F9.trans ((Fr.of_below B5).low (by omega)) zo
 have hs5 := B5.size
 go_wp2_with fail
 refine (Zfc hrd he 20).mono ?_
 rintro e w6 ⟨rfl, B6⟩
 go_wp2
 go_end0
 exact ⟨x.kid y, iz, ez, tz, rfl, KZ.bel B6, hrd.bel B6, hiz, F9.trans ((Fr.of_below B6).low (by omega)) zo, ⟨hkn, hkt, by omega⟩, fun h => absurd h he, fun _ => hE.out⟩
end Go.Proofs.YtncfmhlikmibaaaGreatDoor
