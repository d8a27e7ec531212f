/- The document's parser: a method's pattern. -/
import Derived.Test.YtncfmhlikmibaaaGreatDoorDbl
import Derived.Test.YtncfmhlikmibaaaGreatDoorDmk
import Derived.Deep.CutBlock
namespace Go.Proofs.YtncfmhlikmibaaaGreatDoor
open Go.RowKit
set_option maxRecDepth 100000
set_option maxHeartbeats 16000000
theorem DMx.setT {w : World} {A : Nat → Prop} {q : Nat} {x : Nd} (h : DMx w A q x) (hq : ¬ A q) (t : List Int) : DMx (w.setCell ⟨q, 1, none⟩ (.string (strOfNums t))) A q (.mk x.kind t x.pos x.n x.names x.kids) := by
 obtain ⟨na, nc, E, o, hA⟩ := h.ex
 have S := St.cell w q 1 (.string (strOfNums t))
 refine ⟨h.kids, na, nc, ?_, ?_, hA⟩
 ·rw [heap_setCell_same w q 1 _ _ _ E]
  simp [Nd.kind, Nd.text, Nd.pos, Nd.n, Nd.names]
 exact Zbh o (fun g hg _ => S.block g (fun e => hq (e ▸ hA g hg)))
def Zm1 : Nd := .mk 12 [] 0 0 [] []
def PatQ (W : List Tk) (E n0 d : Nat) (y : Nd) (iz : Nat) (ez : Int) (tz : Nat) : Prop :=
 y.names.length ≤ 5002 ∧ y.text.length ≤ 25010000 ∧ QSt W (.pat n0 d Zm1) (n0 ≤ iz ∧ iz ≤ E ∧ y.names.length ≤ iz ∧ Zaa W (.pat n0 d Zm1) (.ok (gA y) iz)) ez tz
def dpaV (x : Nd) (p q g : Nat) (tk tp : Int) (tt : List Int) (na va : Option Addr) (nc vc : Nat) (j : Nat) : Value :=
 ([.pointer (some ⟨q, 0, none⟩),
  .pointer (some ⟨q, 0, none⟩),
  .pointer (some ⟨q, 0, none⟩),
  .pointer (some ⟨q, 4, none⟩),
  .slice na x.names.length nc,
  .pointer (some ⟨p, 0, none⟩),
  .agg #[.int .i64 tk, .string (strOfNums tt), .int .i64 tp],
  (.string (strOfNums tt)),
  .slice (some ⟨g, 0, none⟩) 1 1,
  .slice va (x.names.length + 1) vc,
  .pointer (some ⟨q, 0, none⟩),
  .pointer (some ⟨q, 4, none⟩)] : List Value).getD j undef
def dpsV (x : Nd) (p q i' : Nat) (W : List Tk) (j : Nat) : Value :=
 ([.pointer (some ⟨q, 0, none⟩),
  .pointer (some ⟨q, 0, none⟩),
  .pointer (some ⟨q, 0, none⟩),
  .pointer (some ⟨q, 1, none⟩),
  .string (strOfNums x.text),
  .pointer (some ⟨p, 0, none⟩),
  (.agg #[.int .i64 (kdW W i'), .string (strOfNums (txW W i')), .int .i64 (psW W i' : Int)]),
  (.string (strOfNums (txW W i'))),
  (.string (strOfNums x.text ++ strOfNums (txW W i'))),
  .pointer (some ⟨q, 0, none⟩),
  .pointer (some ⟨q, 1, none⟩)] : List Value).getD j undef
def dpkV (x : Nd) (p q g : Nat) (tk tp : Int) (tt : List Int) (na va : Option Addr) (nc vc : Nat) (j : Nat) : Value :=
 ([.pointer (some ⟨q, 0, none⟩),
  .pointer (some ⟨q, 0, none⟩),
  .pointer (some ⟨q, 0, none⟩),
  .pointer (some ⟨q, 4, none⟩),
  .slice na x.names.length nc,
  .pointer (some ⟨p, 0, none⟩),
  .agg #[.int .i64 tk, .string (strOfNums tt), .int .i64 tp],
  (.string (strOfNums tt)),
  .slice (some ⟨g, 0, none⟩) 1 1,
  .slice va (x.names.length + 1) vc,
  .pointer (some ⟨q, 0, none⟩),
  .pointer (some ⟨q, 4, none⟩)] : List Value).getD j undef
theorem Zln {W : List Tk} {E : Nat} (S : Src W E) {n0 d : Nat} (hi : n0 ≤ E) {w : World} {p q B : Nat} {Z : Nat → Prop} (G : Gd p B q Z w) (M : DMx w Z q Zm1) (h : Pr w p W n0 d 0 0) :
  Calls Tryz.prog 30 #[.pointer (some ⟨p, 0, none⟩), .pointer (some ⟨q, 0, none⟩)] w fun e w' => ∃ y iz ez tz, e = .returned (.tuple #[]) ∧ DMx w' Z q (gA y) ∧ Pr w' p W iz d ez tz ∧ iz < W.length ∧ Fr p B w w' ∧ PatQ W E n0 d y iz ez tz := by
 have hiW := S.lt hi
 have hqp : q ≠ p := by have := G.hp; have := G.hq; omega
 have hAp : ¬ Z p := fun e => by have := G.lo p e; have := G.hp; omega
 have f1 := Zhf
 go_enter Tryz.func30, Tryz.ntmps30
 go_upto_block 0 with fail
 go_cut [] from 4 to 63 (fun wx => ∃ (y : Nd) (iz : Nat) (ez : Int) (tz : Nat), DMx wx Z q y ∧ Pr wx p W iz d ez tz ∧ Fr p B w wx ∧ iz < W.length ∧ PatQ W E n0 d y iz ez tz)
 case first =>
  go_wp2_with fail
  refine (Zad h hiW 1).mono ?_
  rintro e w1 ⟨rfl, B1⟩
  replace h := h.bel B1
  replace M := M.bel B1
  have F : Fr p B w w1 := (Fr.of_below B1).low G.hB
  have hBw : B ≤ w1.heap.size := by have := G.hB; have := F.size; omega
  clear B1
  by_cases k1 : kdW W n0 = 1
  ·rw [show (kdW W n0 == 1) = true by simp [k1]]
   have hlt : n0 < E := S.ends.lt (by rw [k1]; decide)
   go_wp2_with fail
   refine (Za9 h hiW (by rw [k1]; decide)).mono ?_
   rintro e w2 ⟨rfl, h2, F2⟩
   replace M := M.fr F2 hqp hAp
   have hs2 := F2.size
   obtain ⟨na, nc, Ek, _, _⟩ := M.ex
   obtain ⟨z0, z1, z2, z3, z4, z5, zf⟩ := Zac Ek
   have zf1 := zf 1
   unfold Zdh
   go_wp2
   go_meet
   have S3 := St.cell w2 q 1 (.string (strOfNums (txW W n0)))
   case rel => exact ⟨.mk 12 (txW W n0) 0 0 [] [], n0 + 1, 0, 0, M.setT G.nq (txW W n0), h2.st S3 (by have := G.hp; have := G.hq; omega), (F.trans (F2.low hBw) zo).trans (Fr.of_below (S3.below G.hq)) zo, S.lt hlt, Nat.zero_le _, by have := S.txt n0; show (txW W n0).length ≤ _; omega, QSt.live ⟨by omega, hlt, Nat.zero_le _, Zjj (x := Zm1) k1⟩⟩
  rw [show (kdW W n0 == 1) = false by simp [k1]]
  by_cases k3 : kdW W n0 = 3
  ·go_wp2_with fail
   refine (Zad h hiW 3).mono ?_
   rintro e w3 ⟨rfl, B3⟩
   rw [show (kdW W n0 == 3) = true by simp [k3]]
   replace h := h.bel B3
   replace M := M.bel B3
   replace F := F.trans ((Fr.of_below B3).low hBw) zo
   have hs3 := B3.size
   clear B3
   have hlt : n0 < E := S.ends.lt (by rw [k3]; decide)
   go_wp2_with fail
   refine (Za9 h hiW (by rw [k3]; decide)).mono ?_
   rintro e w2 ⟨rfl, h2, F2⟩
   replace M := M.fr F2 hqp hAp
   have hs2 := F2.size
   obtain ⟨na, nc, Ek, _, _⟩ := M.ex
   obtain ⟨z0, z1, z2, z3, z4, z5, zf⟩ := Zac Ek
   have zf1 := zf 1
   unfold Zdh
   go_upto_region 5 with fail
   have S3 := St.cell w2 q 1 (.string (strOfNums (txW W n0)))
   replace M := M.setT G.nq (txW W n0)
   replace h := h2.st S3 (by have := G.hp; have := G.hq; omega)
   replace F := (F.trans (F2.low (by omega)) zo).trans (Fr.of_below (S3.below G.hq)) zo
   clear h2 F2 S3 z0 z1 z2 z3 z4 z5 zf zf1 Ek
   generalize w2.setCell ⟨q, 1, none⟩ (.string (strOfNums (txW W n0))) = w6 at *
   obtain ⟨x, hx⟩ : ∃ x, Hid (x = Nd.mk 12 (txW W n0) 0 0 [] []) := ⟨_, rfl⟩
   have M6 : DMx w6 Z q x := by rw [hx.out]; exact M
   clear M
   have M := M6
   clear M6
   have G6 := G.up F.size
   have hxl : x.names.length ≤ 90000 := by rw [hx.out]; exact Nat.zero_le _
   obtain ⟨tk, tt, tp, i1, e1', t1', HC, hf⟩ := Zkl (W := W) (i := n0 + 1) d (S.lt hlt) p
   have hBl : B ≤ w6.heap.size := G6.hB
   have hqp : q ≠ p := by have := G6.hp; have := G6.hq; omega
   have hAp : ¬ Z p := fun e => by have := G6.lo p e; have := G6.hp; omega
   have hAq : ¬ Z q := G6.nq
   have hnw := G6.new
   have hAB := G6.lo
   have hAlo : ∀ b, Z b → p < b := fun b hb => by have := G6.lo b hb; have := G6.hp; omega
   have hkd := M.kids
   obtain ⟨na, nc, Ek, hO6, hoA⟩ := M.ex
   have Ekd : w6.drew.heap[q]? = _ := Ek
   have hOd : w6.drew.ownsRow 0 9 1 _ _ _ := hO6
   have h6d : Pr w6.drew p W (n0 + 1) d 0 0 ∧ Fr p w6.heap.size w6 w6.drew := ⟨h.drewP, Fr.drewF _ _ _⟩
   clear M
   go_wp2_with fail
   refine Zah fun A hA => ?_
   have hsz : A.tmps.size = 72 := by rw [hA]; rfl
   have s0 : A.tmps[0]? = some (.pointer (some ⟨p, 0, none⟩)) := by rw [hA]; rfl
   have s1 : A.tmps[1]? = some (.pointer (some ⟨q, 0, none⟩)) := by rw [hA]; rfl
   refine zR1 (fun A D a w' => ∃ (l : List Value) (va : Option Addr) (vc : Nat) (g : Nat), a = Zaj A 24 l ∧ l.length = 12 ∧ (∀ j, j < 12 → D j → l[j]? = some (dpaV x p q g tk tp tt na va nc vc j)) ∧ (D 12 ∨ w'.heap[q]? = some (.cells #[.int .i64 x.kind, .string (strOfNums x.text), .int .i64 (x.pos : Int), .int .i64 (x.n : Int), .slice na x.names.length nc, .slice none 0 0] 31)) ∧ (D 6 ∨ (Pr w' p W (n0 + 1) d 0 0 ∧ Fr p w6.heap.size w6 w')) ∧ (D 9 ∨ w'.ownsRow 0 9 1 (.slice na x.names.length nc) x.names.length (x.names.map Zcr)) ∧ (D 12 → ∃ w9, (Pr w9 p W i1 d e1' t1' ∧ Fr p B w6 w9 ∧ w9.ownsRow 0 9 1 (.slice va (x.names.length + 1) vc) (x.names.length + 1) ((x.names ++ [tt]).map Zcr) ∧ ∀ g', (Value.slice va (x.names.length + 1) vc).ownBlock = some g' → Z g') ∧ w' = w9.setCell ⟨q, 4, none⟩ (.slice va (x.names.length + 1) vc) ∧ w9.heap[q]? = some (.cells #[.int .i64 x.kind, .string (strOfNums x.text), .int .i64 (x.pos : Int), .int .i64 (x.n : Int), .slice na x.names.length nc, .slice none 0 0] 31)) ∧ (D 6 → ¬ D 8 → (Pr w' p W i1 d e1' t1' ∧ Fr p w6.heap.size w6 w')) ∧ (D 8 → ¬ D 9 → (Pr w' p W i1 d e1' t1' ∧ Fr p w6.heap.size w6 w' ∧ w'.heap[g]? = some (.cells #[.string (strOfNums tt)] 9) ∧ w6.heap.size ≤ g)) ∧ (D 9 → ¬ D 12 → (Pr w' p W i1 d e1' t1' ∧ Fr p B w6 w' ∧ w'.ownsRow 0 9 1 (.slice va (x.names.length + 1) vc) (x.names.length + 1) ((x.names ++ [tt]).map Zcr) ∧ ∀ g', (Value.slice va (x.names.length + 1) vc).ownBlock = some g' → Z g'))) ?start ?step ?done
   case start => exact ⟨_, none, 0, 0, zS 24 12 hsz, zG 24 12 hsz, zK, .inr (Ekd), .inr (h6d), .inr (hOd), zf, zF, zF, zF⟩
   case step =>
    clear hA
    intro i o ho D a w' hI hn hcl hd
    obtain ⟨l, va, vc, g, ha, Lh, hl, hE, hN, hO, hQ, hL, hM, hR⟩ := hI
    match i, ho with
    | 0, ho =>
     cases zq ho
     exact zm (zu 1 ha Lh hsz s1) ⟨_, va, vc, g, zp 0 ha Lh hsz, zh Lh, zk Lh hl, zl hE, zl hN, zl hO, zr hQ, zs hL, zs hM, zs hR⟩
    | 1, ho =>
     cases zq ho
     exact zm (zu 1 ha Lh hsz s1) ⟨_, va, vc, g, zp 1 ha Lh hsz, zh Lh, zk Lh hl, zl hE, zl hN, zl hO, zr hQ, zs hL, zs hM, zs hR⟩
    | 2, ho =>
     cases zq ho
     exact zm (zv ha hsz Lh hl 1 hd) ⟨_, va, vc, g, zp 2 ha Lh hsz, zh Lh, zk Lh hl, zl hE, zl hN, zl hO, zr hQ, zs hL, zs hM, zs hR⟩
    | 3, ho =>
     cases zq ho
     have ev : a.tmps[26]? = some (.pointer (some ⟨q, 0, none⟩)) := zv ha hsz Lh hl 2 hd
     exact zx (.pointer (some ⟨q, 4, none⟩)) (by simp [execOp, ev, go_sem]) ⟨_, va, vc, g, zp 3 ha Lh hsz, zh Lh, zk Lh hl, zl hE, zl hN, zl hO, zr hQ, zs hL, zs hM, zs hR⟩
    | 4, ho =>
     cases zq ho
     have ev : a.tmps[27]? = some (.pointer (some ⟨q, 4, none⟩)) := zv ha hsz Lh hl 3 hd
     have e1 := hE.resolve_left (fun h => hn (zc hcl 9 4 rfl (zc hcl 12 9 rfl h)))
     obtain ⟨z0, z1, z2, z3, z4, z5, _⟩ := Zac e1
     exact zx (.slice na x.names.length nc) (by simp [execOp, ev, go_sem, z4]) ⟨_, va, vc, g, zp 4 ha Lh hsz, zh Lh, zk Lh hl, zl hE, zl hN, zl hO, zr hQ, zs hL, zs hM, zs hR⟩
    | 5, ho =>
     cases zq ho
     exact zm (zu 0 ha Lh hsz s0) ⟨_, va, vc, g, zp 5 ha Lh hsz, zh Lh, zk Lh hl, zl hE, zl hN, zl hO, zr hQ, zs hL, zs hM, zs hR⟩
    | 6, ho =>
     cases zq ho
     have ev : a.tmps[29]? = some (.pointer (some ⟨p, 0, none⟩)) := zv ha hsz Lh hl 5 hd
     have h6 := hN.resolve_left hn
     have e1 := hE.resolve_left (fun h => hn (zc hcl 7 6 rfl (zc hcl 8 7 rfl (zc hcl 9 8 rfl (zc hcl 12 9 rfl h)))))
     have o1 := hO.resolve_left (fun h => hn (zc hcl 7 6 rfl (zc hcl 8 7 rfl (zc hcl 9 8 rfl h))))
     refine Zan (f := 47) (args := #[.pointer (some ⟨p, 0, none⟩), .int .i64 1]) (by simp [execOp, ev, go_sem]) ?_
     refine (HC w' h6.1).mono ?_
     rintro e w6 ⟨rfl, h9, F9⟩
     refine ⟨_, rfl, ?_⟩
     exact ⟨_, va, vc, g, zp 6 ha Lh hsz, zh Lh, zk Lh hl, .inr ((F9.block q (lt_of_block e1) hqp).trans e1), .inl (.inl rfl), .inr (Zbh o1 (fun g' hg' hl => F9.block g' hl (fun e => hAp (e ▸ hoA g' hg')))), za (fun h => hn (zc hcl 7 6 rfl (zc hcl 8 7 rfl (zc hcl 9 8 rfl (zc hcl 12 9 rfl h))))), fun _ _ => ⟨h9, h6.2.trans F9 h6.2.size⟩, zb (fun h => hn (zc hcl 7 6 rfl (zc hcl 8 7 rfl h))), zb (fun h => hn (zc hcl 7 6 rfl (zc hcl 8 7 rfl (zc hcl 9 8 rfl h))))⟩
    | 7, ho =>
     cases zq ho
     have ev : a.tmps[30]? = some (.agg #[.int .i64 tk, .string (strOfNums tt), .int .i64 tp]) := zv ha hsz Lh hl 6 hd
     exact zx (.string (strOfNums tt)) (by simp [execOp, ev, go_sem, Zhf]) ⟨_, va, vc, g, zp 7 ha Lh hsz, zh Lh, zk Lh hl, zl hE, zl hN, zl hO, zr hQ, zs hL, zs hM, zs hR⟩
    | 8, ho =>
     cases zq ho
     have ev : a.tmps[31]? = some ((.string (strOfNums tt))) := zv ha hsz Lh hl 7 hd
     have L := hL (zc hcl 7 6 rfl (zd hd 7)) hn
     have e1 := hE.resolve_left (fun h => hn (zc hcl 9 8 rfl (zc hcl 12 9 rfl h)))
     have o1 := hO.resolve_left (fun h => hn (zc hcl 9 8 rfl h))
     refine Zba (w' := w'.alloc (.cells #[.string (strOfNums tt)] 9)) (v := .slice (some ⟨w'.heap.size, 0, none⟩) 1 1) (by simp [execOp, ev, go_sem]) ?_
     exact ⟨_, va, vc, w'.heap.size, zp 8 ha Lh hsz, zh Lh, Zai (val' := dpaV x p q w'.heap.size tk tp tt na va nc vc) Lh (by decide) hl (fun j hj hne => match j, hj, hne with | 0, _, _ => rfl | 1, _, _ => rfl | 2, _, _ => rfl | 3, _, _ => rfl | 4, _, _ => rfl | 5, _, _ => rfl | 6, _, _ => rfl | 7, _, _ => rfl | 8, _, hne => absurd rfl hne | 9, _, _ => rfl | 10, _, _ => rfl | 11, _, _ => rfl | j + 12, _, _ => rfl), .inr ((Zbc.block q (lt_of_block e1)).trans e1), .inl (.inr (zc hcl 7 6 rfl (zd hd 7))), .inr (Zbh o1 (fun g' hg' hl => Zbc.block g' hl)), za (fun h => hn (zc hcl 9 8 rfl (zc hcl 12 9 rfl h))), zi, fun _ _ => ⟨L.1.bel Zbc, L.2.thn zo (Fr.of_below Zbc), Zc0 w' _, L.2.size⟩, zb (fun h => hn (zc hcl 9 8 rfl h))⟩
    | 9, ho =>
     cases zq ho
     have ev : a.tmps[28]? = some (.slice na x.names.length nc) := zv ha hsz Lh hl 4 hd
     have ev' : a.tmps[32]? = some (.slice (some ⟨g, 0, none⟩) 1 1) := zv ha hsz Lh hl 8 hd
     have M := hM (zd hd 8) hn
     have e1 := hE.resolve_left (fun h => hn (zc hcl 12 9 rfl h))
     have o1 := hO.resolve_left hn
     obtain ⟨i9, hi9, hz9, hs9, hb9⟩ := Zb1 Zoa
     obtain ⟨v', w7, hr7, o7, g7, p7⟩ := Zd0 w' 22 22 9 Tryz.underlying22 hi9 hz9 hs9 hb9 rfl (by decide) (by decide) o1 ⟨g, 0, none⟩ 1 1 [.string (strOfNums tt)] rfl (fun j u hj => by match j, hj with | 0, hj => simp at hj; subst hj; rw [Za7]; simp [World.cell?, M.2.2.1]) (by simp [Value.oneCell']) (by omega) (Nat.zero_le _)
     have o7' : w7.ownsRow 0 9 1 v' (x.names.length + 1) ((x.names ++ [tt]).map Zcr) := by rw [List.map_append]; exact o7
     obtain ⟨va', vc', rfl⟩ : ∃ a c, v' = .slice a (x.names.length + 1) c := by
       rcases o7'.2 with ⟨rfl, h0⟩ | ⟨g', cap, cur, rfl, _⟩
       ·exact absurd h0 (by omega)
       exact ⟨_, _, rfl⟩
     have k7 : Kp (.slice na x.names.length nc) w' w7 := ⟨g7.os, g7.tape, g7.output, g7.size, fun b hb hne => g7.block b hb (fun e => hne e.symm)⟩
     have hA7 : ∀ g', (Value.slice va' (x.names.length + 1) vc').ownBlock = some g' → Z g' := fun g' hg' => (p7 g' hg').elim (hoA g') (fun h => hnw g' (Nat.le_trans M.2.1.size h))
     refine Lib.wp_append_run w' (.tmp 28) (.tmp 32) 22 22 rfl _ _ (by simpa [Act.eval] using Zav ev) (by simpa [Act.eval] using Zav ev') _ w7 hr7 ?_
     exact ⟨_, va', vc', g, zp 9 ha Lh hsz, zh Lh, Zai (val' := dpaV x p q g tk tp tt na va' nc vc') Lh (by decide) hl (fun j hj hne => match j, hj, hne with | 0, _, _ => rfl | 1, _, _ => rfl | 2, _, _ => rfl | 3, _, _ => rfl | 4, _, _ => rfl | 5, _, _ => rfl | 6, _, _ => rfl | 7, _, _ => rfl | 8, _, _ => rfl | 9, _, hne => absurd rfl hne | 10, _, _ => rfl | 11, _, _ => rfl | j + 12, _, _ => rfl), .inr ((k7.block q (lt_of_block e1) (fun e => hAq (hoA q e))).trans e1), .inl (.inr (zc hcl 7 6 rfl (zc hcl 8 7 rfl (zd hd 8)))), .inl (.inl rfl), za (fun h => hn (zc hcl 12 9 rfl h)), zj (zd hd 8), zi, fun _ _ => ⟨pr_kp M.1 k7 (fun g' hg' => hAlo g' (hoA g' hg')) , Zqs M.2.1 k7 (fun g' hg' => hAB g' (hoA g' hg')), o7', hA7⟩⟩
    | 10, ho =>
     cases zq ho
     exact zm (zv ha hsz Lh hl 0 hd) ⟨_, va, vc, g, zp 10 ha Lh hsz, zh Lh, zk Lh hl, zl hE, zl hN, zl hO, zr hQ, zs hL, zs hM, zs hR⟩
    | 11, ho =>
     cases zq ho
     have ev : a.tmps[34]? = some (.pointer (some ⟨q, 0, none⟩)) := zv ha hsz Lh hl 10 hd
     exact zx (.pointer (some ⟨q, 4, none⟩)) (by simp [execOp, ev, go_sem]) ⟨_, va, vc, g, zp 11 ha Lh hsz, zh Lh, zk Lh hl, zl hE, zl hN, zl hO, zr hQ, zs hL, zs hM, zs hR⟩
    | 12, ho =>
     cases zq ho
     have ev : a.tmps[35]? = some (.pointer (some ⟨q, 4, none⟩)) := zv ha hsz Lh hl 11 hd
     have ev' : a.tmps[33]? = some (.slice va (x.names.length + 1) vc) := zv ha hsz Lh hl 9 hd
     have e1 := hE.resolve_left hn
     obtain ⟨z0, z1, z2, z3, z4, z5, zf⟩ := Zac e1
     have zf4 := zf 4
     have M := hR (zd hd 9) hn
     refine Zbj (w' := w'.setCell ⟨q, 4, none⟩ (.slice va (x.names.length + 1) vc)) (by simp [execOp, Act.eval, ev, ev', go_sem, z4, zf4]) ?_
     exact ⟨l, va, vc, g, ha, Lh, zJ hl, .inl (.inl rfl), .inl (.inr (zc hcl 7 6 rfl (zc hcl 8 7 rfl (zc hcl 9 8 rfl (zd hd 9))))), .inl (.inr (zd hd 9)), fun _ => ⟨w', M, rfl, e1⟩, zj (zc hcl 9 8 rfl (zd hd 9)), zj (zd hd 9), zi⟩
    | i + 13, ho => simp at ho
   case done =>
    rintro D a w' ⟨l, va, vc, g, ha, Lh, hl, hE, hN, hO, hQ, hL, hM, hR⟩ hall
    obtain ⟨v0, v1, v2, v3, v4, v5, v6, v7, v8, v9, v10, v11, rfl⟩ := zL12 Lh
    obtain ⟨w9, ⟨h9, F9, o9, hA9⟩, ew, E9⟩ := hQ (hall 12 (by decide))
    subst hA
    have hfr : a = _ := ha
    rw [hfr]
    clear hfr ha
    simp only [Zaj, yA, yB, yC, yD, yE, yF, yG, yH]
    clear hl hE hN hO hL hM hR hQ hall
    have M9 := DMx.tmp hkd E9 o9 hA9 hAq
    have S9 := St.cell w9 q 4 (.slice va (x.names.length + 1) vc)
    replace h9 := h9.st S9 (by have := G6.hp; have := G6.hq; omega)
    replace F9 := F9.trans (Fr.of_below (S9.below (B := B) G6.hq)) zo
    have hs9 := F9.size
    rw [← ew] at M9 h9 F9 hs9
    clear ew S9 E9 o9 hA9
    replace F := F.trans F9 zo
    go_wp2
    go_meet
    case rel =>
     have hln : (x.tmp tt).names.length = x.names.length + 1 := by show (x.names ++ [tt]).length = _; simp
     have htl : (x.tmp tt).text.length ≤ 5000 := by have := S.txt n0; show x.text.length ≤ 5000; rw [hx.out]; exact this
     have hxn0 : x.names.length = 0 := by rw [hx.out]; rfl
     rcases hf.out with ⟨k1, rfl, rfl, rfl, rfl⟩ | ⟨k1, rfl, rfl, rfl⟩
     ·have hlt1 : n0 + 1 < E := S.ends.lt (by rw [k1]; decide)
      exact ⟨_, n0 + 1 + 1, 0, 0, M9, h9, F, S.lt hlt1, by omega, by omega, QSt.live ⟨by omega, hlt1, by omega, by rw [Zqr, hx.out]; exact Zji (x := Zm1) k3 k1⟩⟩
     exact ⟨_, n0 + 1, 20, _, M9, h9, F, S.lt hlt, by omega, by omega, QSt.dead (Zf7 k3 k1) (by decide)⟩
  go_wp2_with fail
  refine (Zad h hiW 3).mono ?_
  rintro e w3 ⟨rfl, B3⟩
  rw [show (kdW W n0 == 3) = false by simp [k3]]
  replace h := h.bel B3
  replace M := M.bel B3
  replace F := F.trans ((Fr.of_below B3).low hBw) zo
  have hs3 := B3.size
  clear B3
  go_wp2_with fail
  refine (Zad h hiW 2).mono ?_
  rintro e w4 ⟨rfl, B3⟩
  replace h := h.bel B3
  replace M := M.bel B3
  replace F := F.trans ((Fr.of_below B3).low (by omega)) zo
  have hs4 := B3.size
  clear B3
  by_cases k2 : kdW W n0 = 2
  ·rw [show (kdW W n0 == 2) = true by simp [k2]]
   go_wp2_with fail
   go_loopw [] (fun wr => ∃ (i' : Nat) (x' : Nd) (ei : Int) (ti : Nat), DMx wr Z q x' ∧ Pr wr p W i' d ei ti ∧ Fr p B w wr ∧ i' < W.length ∧ Hid (x'.names.length ≤ 5002 ∧ x'.text.length ≤ 25010000) ∧ Hid (QSt W (.pat n0 d Zm1) (n0 ≤ i' ∧ i' ≤ E ∧ x'.names.length ≤ i' ∧ x'.text.length ≤ i' * 5000 ∧ PG1 W n0 d Zm1 i' x') ei ti)) (fun wr => Zi1 E wr p)
   case atStart => exact ⟨n0, Zm1, 0, 0, M, h, F, hiW, ⟨Nat.zero_le _, Nat.zero_le _⟩, QSt.live ⟨Nat.le_refl _, hi, Nat.zero_le _, Nat.zero_le _, fun r hr => Zfz hr k2⟩⟩
   clear M h F
   obtain ⟨i', x, ei, ti, M, h, F, hi', hX, hL⟩ := hrel
   by_cases hgo : ei = 0 ∧ kdW W i' = 2
   ·obtain ⟨rfl, hk2⟩ := hgo
    obtain ⟨ht0, hn0, hiE, hxl0, hxt0, hB1⟩ := hL.out.1 rfl
    have hPG : Hid (PG1 W n0 d Zm1 i' x) := hB1
    subst ht0
    clear hL hB1
    have hlt : i' < E := S.ends.lt (by rw [hk2]; decide)
    have hat : Zi1 E wr p = _ := h.mea
    go_wp2_with fail
    refine (Zad h hi' 2).mono ?_
    rintro e wI ⟨rfl, B5⟩
    rw [show (kdW W i' == 2) = true by simp [hk2]]
    replace h := h.bel B5
    replace M := M.bel B5
    have hBw : B ≤ wr.heap.size := by have := G.hB; have := F.size; omega
    replace F := F.trans ((Fr.of_below B5).low hBw) zo
    clear B5
    have hTx : (x.text ++ txW W i').length ≤ (i' + 1) * 5000 := by have := S.txt i'; rw [List.length_append]; omega
    have hszT : (strOfNums x.text).size + (strOfNums (txW W i')).size ≤ 9223372036854775807 := by rw [strOfNums_size, strOfNums_size]; have := S.txt i'; have := S.small; omega
    have hk0 : kdW W i' ≠ 0 := by rw [hk2]; decide
    obtain ⟨na, nc, Ek, _, _⟩ := M.ex
    have hkd := M.kids
    have Ekd : wI.drew.heap[q]? = _ := Ek
    have h6d : Pr wI.drew p W i' d 0 0 ∧ Fr p wI.heap.size wI wI.drew := ⟨h.drewP, Fr.drewF _ _ _⟩
    go_wp2_with fail
    refine Zah fun A hA => ?_
    have hsz : A.tmps.size = 72 := by rw [hA]; rfl
    have s0 : A.tmps[0]? = some (.pointer (some ⟨p, 0, none⟩)) := by rw [hA]; rfl
    have s1 : A.tmps[1]? = some (.pointer (some ⟨q, 0, none⟩)) := by rw [hA]; rfl
    refine zR1 (fun A D a w' => ∃ (l : List Value), a = Zaj A 41 l ∧ l.length = 11 ∧ (∀ j, j < 11 → D j → l[j]? = some (dpsV x p q i' W j)) ∧ (D 11 ∨ w'.heap[q]? = some (.cells #[.int .i64 x.kind, .string (strOfNums x.text), .int .i64 (x.pos : Int), .int .i64 (x.n : Int), .slice na x.names.length nc, .slice none 0 0] 31)) ∧ (D 6 ∨ (Pr w' p W i' d 0 0 ∧ Fr p wI.heap.size wI w')) ∧ (D 11 → ∃ w9, (Pr w9 p W (i' + 1) d 0 0 ∧ Fr p wI.heap.size wI w9) ∧ w' = w9.setCell ⟨q, 1, none⟩ (.string (strOfNums x.text ++ strOfNums (txW W i'))) ∧ w9.heap[q]? = some (.cells #[.int .i64 x.kind, .string (strOfNums x.text), .int .i64 (x.pos : Int), .int .i64 (x.n : Int), .slice na x.names.length nc, .slice none 0 0] 31)) ∧ (D 6 → ¬ D 11 → (Pr w' p W (i' + 1) d 0 0 ∧ Fr p wI.heap.size wI w'))) ?start ?step ?done
    case start => exact ⟨_, zS 41 11 hsz, zG 41 11 hsz, zK, .inr (Ekd), .inr (h6d), zf, zF⟩
    case step =>
     clear hA
     intro i o ho D a w' hI hn hcl hd
     obtain ⟨l, ha, Lh, hl, hE, hN, hQ, hL⟩ := hI
     match i, ho with
     | 0, ho =>
      cases zq ho
      exact zm (zu 1 ha Lh hsz s1) ⟨_, zp 0 ha Lh hsz, zh Lh, zk Lh hl, zl hE, zl hN, zr hQ, zs hL⟩
     | 1, ho =>
      cases zq ho
      exact zm (zu 1 ha Lh hsz s1) ⟨_, zp 1 ha Lh hsz, zh Lh, zk Lh hl, zl hE, zl hN, zr hQ, zs hL⟩
     | 2, ho =>
      cases zq ho
      exact zm (zv ha hsz Lh hl 1 hd) ⟨_, zp 2 ha Lh hsz, zh Lh, zk Lh hl, zl hE, zl hN, zr hQ, zs hL⟩
     | 3, ho =>
      cases zq ho
      have ev : a.tmps[43]? = some (.pointer (some ⟨q, 0, none⟩)) := zv ha hsz Lh hl 2 hd
      exact zx (.pointer (some ⟨q, 1, none⟩)) (by simp [execOp, ev, go_sem]) ⟨_, zp 3 ha Lh hsz, zh Lh, zk Lh hl, zl hE, zl hN, zr hQ, zs hL⟩
     | 4, ho =>
      cases zq ho
      have ev : a.tmps[44]? = some (.pointer (some ⟨q, 1, none⟩)) := zv ha hsz Lh hl 3 hd
      have e1 := hE.resolve_left (fun h => hn (zc hcl 8 4 rfl (zc hcl 11 8 rfl h)))
      obtain ⟨z0, z1, z2, z3, z4, z5, _⟩ := Zac e1
      exact zx (.string (strOfNums x.text)) (by simp [execOp, ev, go_sem, z1]) ⟨_, zp 4 ha Lh hsz, zh Lh, zk Lh hl, zl hE, zl hN, zr hQ, zs hL⟩
     | 5, ho =>
      cases zq ho
      exact zm (zu 0 ha Lh hsz s0) ⟨_, zp 5 ha Lh hsz, zh Lh, zk Lh hl, zl hE, zl hN, zr hQ, zs hL⟩
     | 6, ho =>
      cases zq ho
      have ev : a.tmps[46]? = some (.pointer (some ⟨p, 0, none⟩)) := zv ha hsz Lh hl 5 hd
      have h6 := hN.resolve_left hn
      refine Zan (f := 46) (args := #[.pointer (some ⟨p, 0, none⟩)]) (by simp [execOp, ev, go_sem]) ?_
      refine (Za9 h6.1 hi' hk0).mono ?_
      rintro e w6 ⟨rfl, h9, F9⟩
      refine ⟨_, rfl, ?_⟩
      unfold Zdh
      exact ⟨_, zp 6 ha Lh hsz, zh Lh, zk Lh hl, hE.imp .inr (fun h => (F9.block q (lt_of_block h) hqp).trans h), .inl (.inl rfl), za (fun h => hn (zc hcl 7 6 rfl (zc hcl 8 7 rfl (zc hcl 11 8 rfl h)))), fun _ _ => ⟨h9, h6.2.trans F9 h6.2.size⟩⟩
     | 7, ho =>
      cases zq ho
      have ev : a.tmps[47]? = some ((.agg #[.int .i64 (kdW W i'), .string (strOfNums (txW W i')), .int .i64 (psW W i' : Int)])) := zv ha hsz Lh hl 6 hd
      exact zx (.string (strOfNums (txW W i'))) (by simp [execOp, ev, go_sem, Zhf]) ⟨_, zp 7 ha Lh hsz, zh Lh, zk Lh hl, zl hE, zl hN, zr hQ, zs hL⟩
     | 8, ho =>
      cases zq ho
      have ev : a.tmps[45]? = some (.string (strOfNums x.text)) := zv ha hsz Lh hl 4 hd
      have ev' : a.tmps[48]? = some ((.string (strOfNums (txW W i')))) := zv ha hsz Lh hl 7 hd
      exact zx (.string (strOfNums x.text ++ strOfNums (txW W i'))) (by simp [execOp, ev, ev', go_sem, hszT]) ⟨_, zp 8 ha Lh hsz, zh Lh, zk Lh hl, zl hE, zl hN, zr hQ, zs hL⟩
     | 9, ho =>
      cases zq ho
      exact zm (zv ha hsz Lh hl 0 hd) ⟨_, zp 9 ha Lh hsz, zh Lh, zk Lh hl, zl hE, zl hN, zr hQ, zs hL⟩
     | 10, ho =>
      cases zq ho
      have ev : a.tmps[50]? = some (.pointer (some ⟨q, 0, none⟩)) := zv ha hsz Lh hl 9 hd
      exact zx (.pointer (some ⟨q, 1, none⟩)) (by simp [execOp, ev, go_sem]) ⟨_, zp 10 ha Lh hsz, zh Lh, zk Lh hl, zl hE, zl hN, zr hQ, zs hL⟩
     | 11, ho =>
      cases zq ho
      have ev : a.tmps[51]? = some (.pointer (some ⟨q, 1, none⟩)) := zv ha hsz Lh hl 10 hd
      have ev' : a.tmps[49]? = some ((.string (strOfNums x.text ++ strOfNums (txW W i')))) := zv ha hsz Lh hl 8 hd
      have e1 := hE.resolve_left hn
      obtain ⟨z0, z1, z2, z3, z4, z5, zf⟩ := Zac e1
      have zf1 := zf 1
      have L := hL (zc hcl 7 6 rfl (zc hcl 8 7 rfl (zd hd 8))) hn
      refine Zbj (w' := w'.setCell ⟨q, 1, none⟩ (.string (strOfNums x.text ++ strOfNums (txW W i')))) (by simp [execOp, Act.eval, ev, ev', go_sem, z1, zf1]) ?_
      exact ⟨l, ha, Lh, zJ hl, .inl (.inl rfl), .inl (.inr (zc hcl 7 6 rfl (zc hcl 8 7 rfl (zd hd 8)))), fun _ => ⟨w', L, rfl, e1⟩, zi⟩
     | i + 12, ho => simp at ho
    case done =>
     rintro D a wS ⟨l, ha, Lh, hl, hE, hN, hQ, hL⟩ hall
     obtain ⟨v0, v1, v2, v3, v4, v5, v6, v7, v8, v9, v10, rfl⟩ := zL11 Lh
     obtain ⟨w9, ⟨L9, F9⟩, ew, E9⟩ := hQ (hall 11 (by decide))
     subst hA
     have hfr : a = _ := ha
     rw [hfr]
     clear hfr ha
     simp only [Zaj, yA, yB, yC, yD, yE, yF, yG, yH]
     clear hl hE hN hL hQ hall
     have MS := M.fr F9 hqp hAp
     have h9 := L9
     have hsI9 : wI.heap.size ≤ w9.heap.size := F9.size
     have S9 := St.cell w9 q 1 (.string (strOfNums x.text ++ strOfNums (txW W i')))
     have h9 := h9.st S9 (by have := G.hp; have := G.hq; omega)
     replace MS := MS.setT G.nq (x.text ++ txW W i')
     rw [← Zfi] at MS
     replace F := (F.trans (F9.low (by have := G.hB; have := F.size; omega)) zo).trans (Fr.of_below (S9.below G.hq)) zo
     rw [← ew] at MS h9 F S9
        
     clear ew S9 E9 F9 L9 M Ek
     obtain ⟨xs, hxs⟩ : ∃ z, Hid (z = x.say (txW W i')) := ⟨_, rfl⟩
     have MS' : DMx wS Z q xs := by rw [hxs.out]; exact MS
     have hxsl : xs.names.length ≤ i' := by rw [hxs.out]; exact hxl0
     have hxt : Hid (xs.text.length ≤ (i' + 1) * 5000) := by show xs.text.length ≤ _; rw [hxs.out]; exact hTx
     clear MS hszT
     have GS := G.up F.size
     have hxl : xs.names.length ≤ 90000 := by have := S.small; omega
     obtain ⟨tk, tt, tp, i1, e1', t1', HC, hf⟩ := Zkl (W := W) (i := i' + 1) d (S.lt hlt) p
     have hBl : B ≤ wS.heap.size := GS.hB
     have hqp : q ≠ p := by have := GS.hp; have := GS.hq; omega
     have hAp : ¬ Z p := fun e => by have := GS.lo p e; have := GS.hp; omega
     have hAq : ¬ Z q := GS.nq
     have hnw := GS.new
     have hAB := GS.lo
     have hAlo : ∀ b, Z b → p < b := fun b hb => by have := GS.lo b hb; have := GS.hp; omega
     have hkd := MS'.kids
     obtain ⟨na, nc, Ek, hO6, hoA⟩ := MS'.ex
     have Ekd : wS.drew.heap[q]? = _ := Ek
     have hOd : wS.drew.ownsRow 0 9 1 _ _ _ := hO6
     have h6d : Pr wS.drew p W (i' + 1) d 0 0 ∧ Fr p wS.heap.size wS wS.drew := ⟨h9.drewP, Fr.drewF _ _ _⟩
     clear MS'
     go_wp2_with fail
     refine Zah fun A hA => ?_
     have hsz : A.tmps.size = 72 := by rw [hA]; rfl
     have s0 : A.tmps[0]? = some (.pointer (some ⟨p, 0, none⟩)) := by rw [hA]; rfl
     have s1 : A.tmps[1]? = some (.pointer (some ⟨q, 0, none⟩)) := by rw [hA]; rfl
     refine zR1 (fun A D a w' => ∃ (l : List Value) (va : Option Addr) (vc : Nat) (g : Nat), a = Zaj A 52 l ∧ l.length = 12 ∧ (∀ j, j < 12 → D j → l[j]? = some (dpkV xs p q g tk tp tt na va nc vc j)) ∧ (D 12 ∨ w'.heap[q]? = some (.cells #[.int .i64 xs.kind, .string (strOfNums xs.text), .int .i64 (xs.pos : Int), .int .i64 (xs.n : Int), .slice na xs.names.length nc, .slice none 0 0] 31)) ∧ (D 6 ∨ (Pr w' p W (i' + 1) d 0 0 ∧ Fr p wS.heap.size wS w')) ∧ (D 9 ∨ w'.ownsRow 0 9 1 (.slice na xs.names.length nc) xs.names.length (xs.names.map Zcr)) ∧ (D 12 → ∃ w9, (Pr w9 p W i1 d e1' t1' ∧ Fr p B wS w9 ∧ w9.ownsRow 0 9 1 (.slice va (xs.names.length + 1) vc) (xs.names.length + 1) ((xs.names ++ [tt]).map Zcr) ∧ ∀ g', (Value.slice va (xs.names.length + 1) vc).ownBlock = some g' → Z g') ∧ w' = w9.setCell ⟨q, 4, none⟩ (.slice va (xs.names.length + 1) vc) ∧ w9.heap[q]? = some (.cells #[.int .i64 xs.kind, .string (strOfNums xs.text), .int .i64 (xs.pos : Int), .int .i64 (xs.n : Int), .slice na xs.names.length nc, .slice none 0 0] 31)) ∧ (D 6 → ¬ D 8 → (Pr w' p W i1 d e1' t1' ∧ Fr p wS.heap.size wS w')) ∧ (D 8 → ¬ D 9 → (Pr w' p W i1 d e1' t1' ∧ Fr p wS.heap.size wS w' ∧ w'.heap[g]? = some (.cells #[.string (strOfNums tt)] 9) ∧ wS.heap.size ≤ g)) ∧ (D 9 → ¬ D 12 → (Pr w' p W i1 d e1' t1' ∧ Fr p B wS w' ∧ w'.ownsRow 0 9 1 (.slice va (xs.names.length + 1) vc) (xs.names.length + 1) ((xs.names ++ [tt]).map Zcr) ∧ ∀ g', (Value.slice va (xs.names.length + 1) vc).ownBlock = some g' → Z g'))) ?start ?step ?done
     case start => exact ⟨_, none, 0, 0, zS 52 12 hsz, zG 52 12 hsz, zK, .inr (Ekd), .inr (h6d), .inr (hOd), zf, zF, zF, zF⟩
     case step =>
      clear hA
      intro i o ho D a w' hI hn hcl hd
      obtain ⟨l, va, vc, g, ha, Lh, hl, hE, hN, hO, hQ, hL, hM, hR⟩ := hI
      match i, ho with
      | 0, ho =>
       cases zq ho
       exact zm (zu 1 ha Lh hsz s1) ⟨_, va, vc, g, zp 0 ha Lh hsz, zh Lh, zk Lh hl, zl hE, zl hN, zl hO, zr hQ, zs hL, zs hM, zs hR⟩
      | 1, ho =>
       cases zq ho
       exact zm (zu 1 ha Lh hsz s1) ⟨_, va, vc, g, zp 1 ha Lh hsz, zh Lh, zk Lh hl, zl hE, zl hN, zl hO, zr hQ, zs hL, zs hM, zs hR⟩
      | 2, ho =>
       cases zq ho
       exact zm (zv ha hsz Lh hl 1 hd) ⟨_, va, vc, g, zp 2 ha Lh hsz, zh Lh, zk Lh hl, zl hE, zl hN, zl hO, zr hQ, zs hL, zs hM, zs hR⟩
      | 3, ho =>
       cases zq ho
       have ev : a.tmps[54]? = some (.pointer (some ⟨q, 0, none⟩)) := zv ha hsz Lh hl 2 hd
       exact zx (.pointer (some ⟨q, 4, none⟩)) (by simp [execOp, ev, go_sem]) ⟨_, va, vc, g, zp 3 ha Lh hsz, zh Lh, zk Lh hl, zl hE, zl hN, zl hO, zr hQ, zs hL, zs hM, zs hR⟩
      | 4, ho =>
       cases zq ho
       have ev : a.tmps[55]? = some (.pointer (some ⟨q, 4, none⟩)) := zv ha hsz Lh hl 3 hd
       have e1 := hE.resolve_left (fun h => hn (zc hcl 9 4 rfl (zc hcl 12 9 rfl h)))
       obtain ⟨z0, z1, z2, z3, z4, z5, _⟩ := Zac e1
       exact zx (.slice na xs.names.length nc) (by simp [execOp, ev, go_sem, z4]) ⟨_, va, vc, g, zp 4 ha Lh hsz, zh Lh, zk Lh hl, zl hE, zl hN, zl hO, zr hQ, zs hL, zs hM, zs hR⟩
      | 5, ho =>
       cases zq ho
       exact zm (zu 0 ha Lh hsz s0) ⟨_, va, vc, g, zp 5 ha Lh hsz, zh Lh, zk Lh hl, zl hE, zl hN, zl hO, zr hQ, zs hL, zs hM, zs hR⟩
      | 6, ho =>
       cases zq ho
       have ev : a.tmps[57]? = some (.pointer (some ⟨p, 0, none⟩)) := zv ha hsz Lh hl 5 hd
       have h6 := hN.resolve_left hn
       have e1 := hE.resolve_left (fun h => hn (zc hcl 7 6 rfl (zc hcl 8 7 rfl (zc hcl 9 8 rfl (zc hcl 12 9 rfl h)))))
       have o1 := hO.resolve_left (fun h => hn (zc hcl 7 6 rfl (zc hcl 8 7 rfl (zc hcl 9 8 rfl h))))
       refine Zan (f := 47) (args := #[.pointer (some ⟨p, 0, none⟩), .int .i64 1]) (by simp [execOp, ev, go_sem]) ?_
       refine (HC w' h6.1).mono ?_
       rintro e w6 ⟨rfl, h9, F9⟩
       refine ⟨_, rfl, ?_⟩
       exact ⟨_, va, vc, g, zp 6 ha Lh hsz, zh Lh, zk Lh hl, .inr ((F9.block q (lt_of_block e1) hqp).trans e1), .inl (.inl rfl), .inr (Zbh o1 (fun g' hg' hl => F9.block g' hl (fun e => hAp (e ▸ hoA g' hg')))), za (fun h => hn (zc hcl 7 6 rfl (zc hcl 8 7 rfl (zc hcl 9 8 rfl (zc hcl 12 9 rfl h))))), fun _ _ => ⟨h9, h6.2.trans F9 h6.2.size⟩, zb (fun h => hn (zc hcl 7 6 rfl (zc hcl 8 7 rfl h))), zb (fun h => hn (zc hcl 7 6 rfl (zc hcl 8 7 rfl (zc hcl 9 8 rfl h))))⟩
      | 7, ho =>
       cases zq ho
       have ev : a.tmps[58]? = some (.agg #[.int .i64 tk, .string (strOfNums tt), .int .i64 tp]) := zv ha hsz Lh hl 6 hd
       exact zx (.string (strOfNums tt)) (by simp [execOp, ev, go_sem, Zhf]) ⟨_, va, vc, g, zp 7 ha Lh hsz, zh Lh, zk Lh hl, zl hE, zl hN, zl hO, zr hQ, zs hL, zs hM, zs hR⟩
      | 8, ho =>
       cases zq ho
       have ev : a.tmps[59]? = some ((.string (strOfNums tt))) := zv ha hsz Lh hl 7 hd
       have L := hL (zc hcl 7 6 rfl (zd hd 7)) hn
       have e1 := hE.resolve_left (fun h => hn (zc hcl 9 8 rfl (zc hcl 12 9 rfl h)))
       have o1 := hO.resolve_left (fun h => hn (zc hcl 9 8 rfl h))
       refine Zba (w' := w'.alloc (.cells #[.string (strOfNums tt)] 9)) (v := .slice (some ⟨w'.heap.size, 0, none⟩) 1 1) (by simp [execOp, ev, go_sem]) ?_
       exact ⟨_, va, vc, w'.heap.size, zp 8 ha Lh hsz, zh Lh, Zai (val' := dpkV xs p q w'.heap.size tk tp tt na va nc vc) Lh (by decide) hl (fun j hj hne => match j, hj, hne with | 0, _, _ => rfl | 1, _, _ => rfl | 2, _, _ => rfl | 3, _, _ => rfl | 4, _, _ => rfl | 5, _, _ => rfl | 6, _, _ => rfl | 7, _, _ => rfl | 8, _, hne => absurd rfl hne | 9, _, _ => rfl | 10, _, _ => rfl | 11, _, _ => rfl | j + 12, _, _ => rfl), .inr ((Zbc.block q (lt_of_block e1)).trans e1), .inl (.inr (zc hcl 7 6 rfl (zd hd 7))), .inr (Zbh o1 (fun g' hg' hl => Zbc.block g' hl)), za (fun h => hn (zc hcl 9 8 rfl (zc hcl 12 9 rfl h))), zi, fun _ _ => ⟨L.1.bel Zbc, L.2.thn zo (Fr.of_below Zbc), Zc0 w' _, L.2.size⟩, zb (fun h => hn (zc hcl 9 8 rfl h))⟩
      | 9, ho =>
       cases zq ho
       have ev : a.tmps[56]? = some (.slice na xs.names.length nc) := zv ha hsz Lh hl 4 hd
       have ev' : a.tmps[60]? = some (.slice (some ⟨g, 0, none⟩) 1 1) := zv ha hsz Lh hl 8 hd
       have M := hM (zd hd 8) hn
       have e1 := hE.resolve_left (fun h => hn (zc hcl 12 9 rfl h))
       have o1 := hO.resolve_left hn
       obtain ⟨i9, hi9, hz9, hs9, hb9⟩ := Zb1 Zoa
       obtain ⟨v', w7, hr7, o7, g7, p7⟩ := Zd0 w' 22 22 9 Tryz.underlying22 hi9 hz9 hs9 hb9 rfl (by decide) (by decide) o1 ⟨g, 0, none⟩ 1 1 [.string (strOfNums tt)] rfl (fun j u hj => by match j, hj with | 0, hj => simp at hj; subst hj; rw [Za7]; simp [World.cell?, M.2.2.1]) (by simp [Value.oneCell']) (by omega) (Nat.zero_le _)
       have o7' : w7.ownsRow 0 9 1 v' (xs.names.length + 1) ((xs.names ++ [tt]).map Zcr) := by rw [List.map_append]; exact o7
       obtain ⟨va', vc', rfl⟩ : ∃ a c, v' = .slice a (xs.names.length + 1) c := by
         rcases o7'.2 with ⟨rfl, h0⟩ | ⟨g', cap, cur, rfl, _⟩
         ·exact absurd h0 (by omega)
         exact ⟨_, _, rfl⟩
       have k7 : Kp (.slice na xs.names.length nc) w' w7 := ⟨g7.os, g7.tape, g7.output, g7.size, fun b hb hne => g7.block b hb (fun e => hne e.symm)⟩
       have hA7 : ∀ g', (Value.slice va' (xs.names.length + 1) vc').ownBlock = some g' → Z g' := fun g' hg' => (p7 g' hg').elim (hoA g') (fun h => hnw g' (Nat.le_trans M.2.1.size h))
       refine Lib.wp_append_run w' (.tmp 56) (.tmp 60) 22 22 rfl _ _ (by simpa [Act.eval] using Zav ev) (by simpa [Act.eval] using Zav ev') _ w7 hr7 ?_
       exact ⟨_, va', vc', g, zp 9 ha Lh hsz, zh Lh, Zai (val' := dpkV xs p q g tk tp tt na va' nc vc') Lh (by decide) hl (fun j hj hne => match j, hj, hne with | 0, _, _ => rfl | 1, _, _ => rfl | 2, _, _ => rfl | 3, _, _ => rfl | 4, _, _ => rfl | 5, _, _ => rfl | 6, _, _ => rfl | 7, _, _ => rfl | 8, _, _ => rfl | 9, _, hne => absurd rfl hne | 10, _, _ => rfl | 11, _, _ => rfl | j + 12, _, _ => rfl), .inr ((k7.block q (lt_of_block e1) (fun e => hAq (hoA q e))).trans e1), .inl (.inr (zc hcl 7 6 rfl (zc hcl 8 7 rfl (zd hd 8)))), .inl (.inl rfl), za (fun h => hn (zc hcl 12 9 rfl h)), zj (zd hd 8), zi, fun _ _ => ⟨pr_kp M.1 k7 (fun g' hg' => hAlo g' (hoA g' hg')) , Zqs M.2.1 k7 (fun g' hg' => hAB g' (hoA g' hg')), o7', hA7⟩⟩
      | 10, ho =>
       cases zq ho
       exact zm (zv ha hsz Lh hl 0 hd) ⟨_, va, vc, g, zp 10 ha Lh hsz, zh Lh, zk Lh hl, zl hE, zl hN, zl hO, zr hQ, zs hL, zs hM, zs hR⟩
      | 11, ho =>
       cases zq ho
       have ev : a.tmps[62]? = some (.pointer (some ⟨q, 0, none⟩)) := zv ha hsz Lh hl 10 hd
       exact zx (.pointer (some ⟨q, 4, none⟩)) (by simp [execOp, ev, go_sem]) ⟨_, va, vc, g, zp 11 ha Lh hsz, zh Lh, zk Lh hl, zl hE, zl hN, zl hO, zr hQ, zs hL, zs hM, zs hR⟩
      | 12, ho =>
       cases zq ho
       have ev : a.tmps[63]? = some (.pointer (some ⟨q, 4, none⟩)) := zv ha hsz Lh hl 11 hd
       have ev' : a.tmps[61]? = some (.slice va (xs.names.length + 1) vc) := zv ha hsz Lh hl 9 hd
       have e1 := hE.resolve_left hn
       obtain ⟨z0, z1, z2, z3, z4, z5, zf⟩ := Zac e1
       have zf4 := zf 4
       have M := hR (zd hd 9) hn
       refine Zbj (w' := w'.setCell ⟨q, 4, none⟩ (.slice va (xs.names.length + 1) vc)) (by simp [execOp, Act.eval, ev, ev', go_sem, z4, zf4]) ?_
       exact ⟨l, va, vc, g, ha, Lh, zJ hl, .inl (.inl rfl), .inl (.inr (zc hcl 7 6 rfl (zc hcl 8 7 rfl (zc hcl 9 8 rfl (zd hd 9))))), .inl (.inr (zd hd 9)), fun _ => ⟨w', M, rfl, e1⟩, zj (zc hcl 9 8 rfl (zd hd 9)), zj (zd hd 9), zi⟩
      | i + 13, ho => simp at ho
     rintro D a w' ⟨l, va, vc, g, ha, Lh, hl, hE, hN, hO, hQ, hL, hM, hR⟩ hall
     obtain ⟨v0, v1, v2, v3, v4, v5, v6, v7, v8, v9, v10, v11, rfl⟩ := zL12 Lh
     obtain ⟨w9, ⟨h9, F9, o9, hA9⟩, ew, E9⟩ := hQ (hall 12 (by decide))
     subst hA
     have hfr : a = _ := ha
     rw [hfr]
     clear hfr ha
     simp only [Zaj, yA, yB, yC, yD, yE, yF, yG, yH]
     clear hl hE hN hO hL hM hR hQ hall
     have M9 := DMx.tmp hkd E9 o9 hA9 hAq
     have S9 := St.cell w9 q 4 (.slice va (xs.names.length + 1) vc)
     replace h9 := h9.st S9 (by have := GS.hp; have := GS.hq; omega)
     replace F9 := F9.trans (Fr.of_below (S9.below (B := B) GS.hq)) zo
     have hs9 := F9.size
     rw [← ew] at M9 h9 F9 hs9
     clear ew S9 E9 o9 hA9
     replace F := F.trans F9 zo
     go_wp2
     go_roundw
     case rel =>
      have hln : (xs.tmp tt).names.length = xs.names.length + 1 := by show (xs.names ++ [tt]).length = _; simp
      have htl : (xs.tmp tt).text.length ≤ (i' + 1) * 5000 := hxt.out
      have hE5 := S.small
      rcases hf.out with ⟨k1, rfl, rfl, rfl, rfl⟩ | ⟨k1, rfl, rfl, rfl⟩
      ·have hlt1 : i' + 1 < E := S.ends.lt (by rw [k1]; decide)
       have hP2 := hPG.out.go hk2 k1
       rw [← hxs.out] at hP2
       have g1 : (xs.tmp (txW W (i' + 1))).names.length ≤ 5002 := by omega
       have g2 : (xs.tmp (txW W (i' + 1))).text.length ≤ 25010000 := by omega
       have g3 : (xs.tmp (txW W (i' + 1))).names.length ≤ i' + 1 + 1 := by omega
       have g4 : (xs.tmp (txW W (i' + 1))).text.length ≤ (i' + 1 + 1) * 5000 := Nat.le_trans htl (Nat.mul_le_mul_right 5000 (Nat.le_succ _))
       have g5 : n0 ≤ i' + 1 + 1 := Nat.le_trans hn0 (by omega)
       exact ⟨i' + 1 + 1, xs.tmp (txW W (i' + 1)), 0, 0, M9, h9, F, S.lt hlt1, ⟨g1, g2⟩, QSt.live ⟨g5, hlt1, g3, g4, hP2⟩⟩
      exact ⟨i' + 1, _, 20, _, M9, h9, F, S.lt hlt, ⟨by omega, by omega⟩, QSt.dead (hPG.out.bad hk2 k1) (by decide)⟩
     rcases hf.out with ⟨k1, rfl, rfl, rfl, rfl⟩ | ⟨k1, rfl, rfl, rfl⟩
     ·rw [h9.mea, hat]; simp; omega
     rw [h9.mea, hat]; simp; omega
   have hcall : Calls Tryz.prog 45 #[.pointer (some ⟨p, 0, none⟩), .int .i64 2] wr fun e w' => e = .returned (.bool false) ∧ Below wr.heap.size wr w' := by
    by_cases he : ei = 0
    ·subst he
     have hti : ti = 0 := (hL.out.1 rfl).1
     subst hti
     have := Zad h hi' 2
     rwa [show (kdW W i' == 2) = false by simp only [beq_eq_false_iff_ne, ne_eq]; exact fun hk => hgo ⟨rfl, hk⟩] at this
    exact Zax h hi' he 2
   go_wp2_with fail
   refine hcall.mono ?_
   rintro e w5 ⟨rfl, B5⟩
   have hBw : B ≤ wr.heap.size := by have := G.hB; have := F.size; omega
   have hq1 : QSt W (.pat n0 d Zm1) (n0 ≤ i' ∧ i' ≤ E ∧ x.names.length ≤ i' ∧ Zaa W (.pat n0 d Zm1) (.ok (gA x) i')) ei ti := by
    by_cases he : ei = 0
    ·obtain ⟨g0, g1, g2, g3, _, g4⟩ := hL.out.1 he
     exact ⟨fun _ => ⟨g0, g1, g2, g3, g4.fin (fun hk => hgo ⟨he, hk⟩)⟩, fun h => absurd he h⟩
    exact hL.out.pass he
   go_wp2
   go_meet
   case rel => exact ⟨x, i', ei, ti, M.bel B5, h.bel B5, F.trans ((Fr.of_below B5).low hBw) zo, hi', hX.out.1, hX.out.2, hq1⟩
  rw [show (kdW W n0 == 2) = false by simp [k2]]
  go_wp2_with fail
  refine (Zb6 h hiW 20).mono ?_
  rintro e w5 ⟨rfl, h5, F5⟩
  go_wp2
  go_meet
  case rel => exact ⟨Zm1, n0, 20, _, M.fr F5 hqp hAp, h5, F.trans (F5.low (by omega)) zo, hiW, Nat.zero_le _, Nat.zero_le _, QSt.dead (Zly k1 k2 k3) (by decide)⟩
 obtain ⟨y, iz, ez, tz, M2, h2, F2, hiz, hQ⟩ := hcut
 clear M h
 obtain ⟨na, nc, Ek, _, _⟩ := M2.ex
 obtain ⟨z0, z1, z2, z3, z4, z5, zf⟩ := Zac Ek
 have zf3 := zf 3
 go_wp2
 go_end0
 have S7 := St.cell wc q 3 (.int .i64 (y.names.length : Int))
 exact ⟨y, iz, ez, tz, rfl, M2.setN G.nq, h2.st S7 (by have := G.hp; have := G.hq; omega), hiz, F2.trans (Fr.of_below (S7.below G.hq)) zo, hQ⟩
end Go.Proofs.YtncfmhlikmibaaaGreatDoor
