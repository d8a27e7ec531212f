/- The document's parser: temps behind a bar. -/
import Derived.Test.YtncfmhlikmibaaaGreatDoorDsn
import Derived.Test.YtncfmhlikmibaaaGreatDoorDli
import Derived.Test.YtncfmhlikmibaaaGreatDoorStm
namespace Go.Proofs.YtncfmhlikmibaaaGreatDoor
open Go.RowKit
set_option maxRecDepth 100000
set_option maxHeartbeats 16000000
theorem temps_no {w : World} {p : Nat} {W : List Tk} {n0 d t : Nat} {c : Int} (h : Pr w p W n0 d c t) (hi : n0 < W.length) (hc : c ≠ 0 ∨ kdW W n0 ≠ 12) (v : Value) :
  Calls Tryz.prog 31 #[.pointer (some ⟨p, 0, none⟩), v] w fun e w' => e = .returned (.tuple #[]) ∧ Below w.heap.size w w' := by
 have hcall : Calls Tryz.prog 45 #[.pointer (some ⟨p, 0, none⟩), .int .i64 12] w fun e w' => e = .returned (.bool false) ∧ Below w.heap.size w w' := by
  by_cases he : c = 0
  ·subst he
   have := Zad h hi 12
   rwa [show (kdW W n0 == 12) = false by simp only [beq_eq_false_iff_ne, ne_eq]; exact hc.resolve_left (fun h => h rfl)] at this
  exact Zax h hi he 12
 go_enter Tryz.func31, Tryz.ntmps31
 go_wp2_with fail
 refine hcall.mono ?_
 rintro e w1 ⟨rfl, B1⟩
 go_wp2
 exact zE ⟨rfl, B1⟩
section
structure DMx (w : World) (A : Nat → Prop) (q : Nat) (x : Nd) : Prop where
 kids : x.kids = []
 ex : ∃ na nc, w.heap[q]? = some (.cells #[.int .i64 x.kind, .string (strOfNums x.text), .int .i64 (x.pos : Int), .int .i64 (x.n : Int), .slice na x.names.length nc, .slice none 0 0] 31) ∧ w.ownsRow 0 9 1 (.slice na x.names.length nc) x.names.length (x.names.map Zcr) ∧ ∀ g, (Value.slice na x.names.length nc).ownBlock = some g → A g
variable {A : Nat → Prop} {p q : Nat} {w w' : World} {x : Nd}
theorem DMx.keep (h : DMx w A q x) (hq : q < w.heap.size → w'.heap[q]? = w.heap[q]?) (hk : ∀ b, A b → b < w.heap.size → w'.heap[b]? = w.heap[b]?) : DMx w' A q x := by
 obtain ⟨na, nc, E, o, hA⟩ := h.ex
 exact ⟨h.kids, na, nc, (hq (lt_of_block E)).trans E, Zbh o (fun g hg hl => hk g (hA g hg) hl), hA⟩
theorem DMx.bel (h : DMx w A q x) (B : Below w.heap.size w w') : DMx w' A q x := h.keep (fun hl => B.block q hl) (fun b _ hb => B.block b hb)
theorem DMx.fr (h : DMx w A q x) (F : Fr p w.heap.size w w') (hq : q ≠ p) (hA : ¬ A p) : DMx w' A q x :=
 h.keep (fun hl => F.block q hl hq) (fun b hb hl => F.block b hl (fun e => hA (e ▸ hb)))
theorem DMx.lt (h : DMx w A q x) : q < w.heap.size := by
 obtain ⟨_, _, E, _⟩ := h.ex
 exact lt_of_block E
theorem Zca.ofM (M : DMx w A q x) : Zca w A q x := by
 obtain ⟨na, nc, E, o, hA⟩ := M.ex
 have hk := M.kids
 refine ⟨na, nc, none, 0, ?_, ?_, ?_⟩
 ·rw [hk]; exact E
 ·rw [hk]; exact Zp5 o fun g hg => ⟨hA g hg, fun g' h => by simp [Value.ownBlock] at h⟩
 rw [hk]; exact Zbu.nil w A
theorem DMx.new {k : Int} {t : List Int} (E : w.heap[q]? = some (.cells #[.int .i64 k, .string (strOfNums t), .int .i64 (p : Int), .int .i64 0, .slice none 0 0, .slice none 0 0] 31)) : DMx w A q (.mk k t p 0 [] []) :=
 ⟨rfl, none, 0, E, World.ownsRow_nil w 0 9 1, fun g hg => by simp [Value.ownBlock] at hg⟩
theorem DMx.tmp {na va : Option Addr} {nc vc : Nat} {t : List Int} (hk : x.kids = []) (E : w.heap[q]? = some (.cells #[.int .i64 x.kind, .string (strOfNums x.text), .int .i64 (x.pos : Int), .int .i64 (x.n : Int), .slice na x.names.length nc, .slice none 0 0] 31)) (o : w.ownsRow 0 9 1 (.slice va (x.names.length + 1) vc) (x.names.length + 1) ((x.names ++ [t]).map Zcr)) (hA : ∀ g, (Value.slice va (x.names.length + 1) vc).ownBlock = some g → A g) (hq : ¬ A q) : DMx (w.setCell ⟨q, 4, none⟩ (.slice va (x.names.length + 1) vc)) A q (x.tmp t) := by
 have S := St.cell w q 4 (.slice va (x.names.length + 1) vc)
 have hl : (x.tmp t).names.length = x.names.length + 1 := by show (x.names ++ [t]).length = _; simp
 refine ⟨hk, va, vc, ?_, ?_, ?_⟩
 ·rw [heap_setCell_same w q 4 _ _ _ E, hl]
  simp [Nd.tmp, Nd.kind, Nd.text, Nd.pos, Nd.n]
 ·rw [hl]
  exact Zbh o (fun g hg _ => S.block g (fun e => hq (e ▸ hA g hg)))
 rw [hl]
 exact hA
theorem pr_kp {W : List Tk} {i d t : Nat} {e : Int} {v : Value} (h : Pr w p W i d e t) (K : Kp v w w') (hv : ∀ g, v.ownBlock = some g → p < g) : Pr w' p W i d e t :=
 h.same (fun b hb => K.block b (by have := h.lt; omega) (fun e => by have := hv b e; omega)) (K.block p h.lt (fun e => by have := hv p e; omega))
end
def TmpR (W : List Tk) (i d : Nat) (x y : Nd) (iz : Nat) (ez : Int) (tz : Nat) : Prop :=
 (y.kind = x.kind ∧ y.text = x.text ∧ y.pos = x.pos ∧ y.n = x.n ∧ y.kids = x.kids ∧ y.names.length ≤ iz) ∧ RsR W (.temps i d x) y iz ez tz
def dtpV (x : Nd) (p q g : Nat) (tk tp : Int) (tt : List Int) (na va : Option Addr) (nc vc : Nat) (j : Nat) : Value :=
 ([.pointer (some ⟨q, 0, none⟩),
  .pointer (some ⟨q, 0, none⟩),
  .pointer (some ⟨q, 0, none⟩),
  .pointer (some ⟨q, 4, none⟩),
  .slice na x.names.length nc,
  .pointer (some ⟨p, 0, none⟩),
  .agg #[.int .i64 tk, .string (strOfNums tt), .int .i64 tp],
  (.string (strOfNums tt)),
  .slice (some ⟨g, 0, none⟩) 1 1,
  .slice va (x.names.length + 1) vc,
  .pointer (some ⟨q, 0, none⟩),
  .pointer (some ⟨q, 4, none⟩)] : List Value).getD j undef
theorem Zpe {W : List Tk} {E : Nat} (S : Src W E) {n0 d : Nat} (hk : kdW W n0 = 12) {w : World} {p q B : Nat} {Z : Nat → Prop} {x0 : Nd} (G : Gd p B q Z w) (M : DMx w Z q x0) (hx0 : x0.names.length ≤ n0) (h : Pr w p W n0 d 0 0) :
  Calls Tryz.prog 31 #[.pointer (some ⟨p, 0, none⟩), .pointer (some ⟨q, 0, none⟩)] w fun e w' => ∃ y iz ez tz, e = .returned (.tuple #[]) ∧ DMx w' Z q y ∧ Pr w' p W iz d ez tz ∧ iz < W.length ∧ Fr p B w w' ∧ TmpR W (n0 + 1) d x0 y iz ez tz := by
 have hl0 : n0 < E := S.ends.lt (by rw [hk]; decide)
 have hi := S.lt (Nat.le_of_lt hl0)
 have hqp : q ≠ p := by have := G.hp; have := G.hq; omega
 have hAp : ¬ Z p := fun e => by have := G.lo p e; have := G.hp; omega
 have hE5 := S.small
 have f1 := Zhf
 go_enter Tryz.func31, Tryz.ntmps31
 go_wp2_with fail
 refine (Zad h hi 12).mono ?_
 rintro e w1 ⟨rfl, B1⟩
 rw [show (kdW W n0 == 12) = true by simp [hk]]
 replace h := h.bel B1
 replace M := M.bel B1
 have F : Fr p B w w1 := (Fr.of_below B1).low G.hB
 have hs1 := B1.size
 clear B1
 go_wp2_with fail
 refine (Za9 h hi (by rw [hk]; decide)).mono ?_
 rintro e w2 ⟨rfl, h2, F2⟩
 replace M := M.fr F2 hqp hAp
 replace F := F.trans (F2.low (by have := G.hB; omega)) zo
 have hs2 := F2.size
 clear F2 h
 go_wp2_with fail
 go_loopw [] (fun wr => ∃ (i' : Nat) (x' : Nd), DMx wr Z q x' ∧ Pr wr p W i' d 0 0 ∧ Fr p B w wr ∧ n0 + 1 ≤ i' ∧ i' ≤ E ∧ x'.names.length ≤ i' ∧ Hid (x'.kind = x0.kind ∧ x'.text = x0.text ∧ x'.pos = x0.pos ∧ x'.n = x0.n ∧ x'.kids = x0.kids) ∧ Hid (∀ r, Zaa W (.temps i' d x') r → Zaa W (.temps (n0 + 1) d x0) r)) (fun wr => Zi1 E wr p)
 case atStart => exact ⟨n0 + 1, x0, M, h2, F, zo, hl0, by omega, ⟨rfl, rfl, rfl, rfl, rfl⟩, fun r hr => hr⟩
 clear M h2 F
 obtain ⟨i', x, M, h, F, hii, hi', hxl0, hX, hR0⟩ := hrel
 have hat : Zi1 E wr p = _ := h.mea
 have hiW := S.lt hi'
 by_cases hk1 : kdW W i' = 1
 ·have hlt : i' < E := S.ends.lt (by rw [hk1]; decide)
  go_wp2_with fail
  refine (Zad h hiW 1).mono ?_
  rintro e w6 ⟨rfl, B6⟩
  rw [show (kdW W i' == 1) = true by simp [hk1]]
  have G6 := (G.up F.size).up B6.size
  replace h := h.bel B6
  replace M := M.bel B6
  replace F := F.trans ((Fr.of_below B6).low (by have := G.hB; have := F.size; omega)) zo
  have hxl : x.names.length ≤ 90000 := by omega
  have HC : ∀ w, Pr w p W i' d 0 0 → Calls Tryz.prog 46 #[.pointer (some ⟨p, 0, none⟩)] w fun e w' => e = .returned (.agg #[.int .i64 (kdW W i'), .string (strOfNums (txW W i')), .int .i64 (psW W i' : Int)]) ∧ Pr w' p W (i' + 1) d 0 0 ∧ Fr p w.heap.size w w' := fun w hw => Za9 hw hiW (by rw [hk1]; decide)
  obtain ⟨tk, htk⟩ : ∃ tk, tk = kdW W i' := ⟨_, rfl⟩
  obtain ⟨tt, htt⟩ : ∃ tt, tt = txW W i' := ⟨_, rfl⟩
  obtain ⟨tp, htp⟩ : ∃ tp, tp = (psW W i' : Int) := ⟨_, rfl⟩
  obtain ⟨i1, hi1⟩ : ∃ i1, i1 = i' + 1 := ⟨_, rfl⟩
  obtain ⟨e1', he1⟩ : ∃ e : Int, e = 0 := ⟨_, rfl⟩
  obtain ⟨t1', ht1⟩ : ∃ e : Nat, e = 0 := ⟨_, rfl⟩
  replace HC : ∀ w, Pr w p W i' d 0 0 → Calls Tryz.prog 46 #[.pointer (some ⟨p, 0, none⟩)] w fun e w' => e = .returned (.agg #[.int .i64 tk, .string (strOfNums tt), .int .i64 tp]) ∧ Pr w' p W i1 d e1' t1' ∧ Fr p w.heap.size w w' := by subst htk htt htp hi1 he1 ht1; exact HC
  clear htk htp
  have hBl : B ≤ w6.heap.size := G6.hB
  have hqp : q ≠ p := by have := G6.hp; have := G6.hq; omega
  have hAp : ¬ Z p := fun e => by have := G6.lo p e; have := G6.hp; omega
  have hAq : ¬ Z q := G6.nq
  have hnw := G6.new
  have hAB := G6.lo
  have hAlo : ∀ b, Z b → p < b := fun b hb => by have := G6.lo b hb; have := G6.hp; omega
  have hkd := M.kids
  obtain ⟨na, nc, Ek, hO6, hoA⟩ := M.ex
  have Ekd : w6.drew.heap[q]? = _ := Ek
  have hOd : w6.drew.ownsRow 0 9 1 _ _ _ := hO6
  have h6d : Pr w6.drew p W i' d 0 0 ∧ Fr p w6.heap.size w6 w6.drew := ⟨h.drewP, Fr.drewF _ _ _⟩
  clear M B6 f1
  have f1 := Zhf
  go_wp2_with fail
  refine Zah fun A hA => ?_
  have hsz : A.tmps.size = 25 := by rw [hA]; rfl
  have s0 : A.tmps[0]? = some (.pointer (some ⟨p, 0, none⟩)) := by rw [hA]; rfl
  have s1 : A.tmps[1]? = some (.pointer (some ⟨q, 0, none⟩)) := by rw [hA]; rfl
  refine zR1 (fun A D a w' => ∃ (l : List Value) (va : Option Addr) (vc : Nat) (g : Nat), a = Zaj A 11 l ∧ l.length = 12 ∧ (∀ j, j < 12 → D j → l[j]? = some (dtpV x p q g tk tp tt na va nc vc j)) ∧ (D 12 ∨ w'.heap[q]? = some (.cells #[.int .i64 x.kind, .string (strOfNums x.text), .int .i64 (x.pos : Int), .int .i64 (x.n : Int), .slice na x.names.length nc, .slice none 0 0] 31)) ∧ (D 6 ∨ (Pr w' p W i' d 0 0 ∧ Fr p w6.heap.size w6 w')) ∧ (D 9 ∨ w'.ownsRow 0 9 1 (.slice na x.names.length nc) x.names.length (x.names.map Zcr)) ∧ (D 12 → ∃ w9, (Pr w9 p W i1 d e1' t1' ∧ Fr p B w6 w9 ∧ w9.ownsRow 0 9 1 (.slice va (x.names.length + 1) vc) (x.names.length + 1) ((x.names ++ [tt]).map Zcr) ∧ ∀ g', (Value.slice va (x.names.length + 1) vc).ownBlock = some g' → Z g') ∧ w' = w9.setCell ⟨q, 4, none⟩ (.slice va (x.names.length + 1) vc) ∧ w9.heap[q]? = some (.cells #[.int .i64 x.kind, .string (strOfNums x.text), .int .i64 (x.pos : Int), .int .i64 (x.n : Int), .slice na x.names.length nc, .slice none 0 0] 31)) ∧ (D 6 → ¬ D 8 → (Pr w' p W i1 d e1' t1' ∧ Fr p w6.heap.size w6 w')) ∧ (D 8 → ¬ D 9 → (Pr w' p W i1 d e1' t1' ∧ Fr p w6.heap.size w6 w' ∧ w'.heap[g]? = some (.cells #[.string (strOfNums tt)] 9) ∧ w6.heap.size ≤ g)) ∧ (D 9 → ¬ D 12 → (Pr w' p W i1 d e1' t1' ∧ Fr p B w6 w' ∧ w'.ownsRow 0 9 1 (.slice va (x.names.length + 1) vc) (x.names.length + 1) ((x.names ++ [tt]).map Zcr) ∧ ∀ g', (Value.slice va (x.names.length + 1) vc).ownBlock = some g' → Z g'))) ?start ?step ?done
  case start => exact ⟨_, none, 0, 0, zS 11 12 hsz, zG 11 12 hsz, zK, .inr (Ekd), .inr (h6d), .inr (hOd), zf, zF, zF, zF⟩
  case step =>
   clear hA
   intro i o ho D a w' hI hn hcl hd
   obtain ⟨l, va, vc, g, ha, Lh, hl, hE, hN, hO, hQ, hL, hM, hR⟩ := hI
   match i, ho with
   | 0, ho =>
    cases zq ho
    exact zm (zu 1 ha Lh hsz s1) ⟨_, va, vc, g, zp 0 ha Lh hsz, zh Lh, zk Lh hl, zl hE, zl hN, zl hO, zr hQ, zs hL, zs hM, zs hR⟩
   | 1, ho =>
    cases zq ho
    exact zm (zu 1 ha Lh hsz s1) ⟨_, va, vc, g, zp 1 ha Lh hsz, zh Lh, zk Lh hl, zl hE, zl hN, zl hO, zr hQ, zs hL, zs hM, zs hR⟩
   | 2, ho =>
    cases zq ho
    exact zm (zv ha hsz Lh hl 1 hd) ⟨_, va, vc, g, zp 2 ha Lh hsz, zh Lh, zk Lh hl, zl hE, zl hN, zl hO, zr hQ, zs hL, zs hM, zs hR⟩
   | 3, ho =>
    cases zq ho
    have ev : a.tmps[13]? = some (.pointer (some ⟨q, 0, none⟩)) := zv ha hsz Lh hl 2 hd
    exact zx (.pointer (some ⟨q, 4, none⟩)) (by simp [execOp, ev, go_sem]) ⟨_, va, vc, g, zp 3 ha Lh hsz, zh Lh, zk Lh hl, zl hE, zl hN, zl hO, zr hQ, zs hL, zs hM, zs hR⟩
   | 4, ho =>
    cases zq ho
    have ev : a.tmps[14]? = some (.pointer (some ⟨q, 4, none⟩)) := zv ha hsz Lh hl 3 hd
    have e1 := hE.resolve_left (fun h => hn (zc hcl 9 4 rfl (zc hcl 12 9 rfl h)))
    obtain ⟨z0, z1, z2, z3, z4, z5, _⟩ := Zac e1
    exact zx (.slice na x.names.length nc) (by simp [execOp, ev, go_sem, z4]) ⟨_, va, vc, g, zp 4 ha Lh hsz, zh Lh, zk Lh hl, zl hE, zl hN, zl hO, zr hQ, zs hL, zs hM, zs hR⟩
   | 5, ho =>
    cases zq ho
    exact zm (zu 0 ha Lh hsz s0) ⟨_, va, vc, g, zp 5 ha Lh hsz, zh Lh, zk Lh hl, zl hE, zl hN, zl hO, zr hQ, zs hL, zs hM, zs hR⟩
   | 6, ho =>
    cases zq ho
    have ev : a.tmps[16]? = some (.pointer (some ⟨p, 0, none⟩)) := zv ha hsz Lh hl 5 hd
    have h6 := hN.resolve_left hn
    have e1 := hE.resolve_left (fun h => hn (zc hcl 7 6 rfl (zc hcl 8 7 rfl (zc hcl 9 8 rfl (zc hcl 12 9 rfl h)))))
    have o1 := hO.resolve_left (fun h => hn (zc hcl 7 6 rfl (zc hcl 8 7 rfl (zc hcl 9 8 rfl h))))
    refine Zan (f := 46) (args := #[.pointer (some ⟨p, 0, none⟩)]) (by simp [execOp, ev, go_sem]) ?_
    refine (HC w' h6.1).mono ?_
    rintro e w6 ⟨rfl, h9, F9⟩
    refine ⟨_, rfl, ?_⟩
    exact ⟨_, va, vc, g, zp 6 ha Lh hsz, zh Lh, zk Lh hl, .inr ((F9.block q (lt_of_block e1) hqp).trans e1), .inl (.inl rfl), .inr (Zbh o1 (fun g' hg' hl => F9.block g' hl (fun e => hAp (e ▸ hoA g' hg')))), za (fun h => hn (zc hcl 7 6 rfl (zc hcl 8 7 rfl (zc hcl 9 8 rfl (zc hcl 12 9 rfl h))))), fun _ _ => ⟨h9, h6.2.trans F9 h6.2.size⟩, zb (fun h => hn (zc hcl 7 6 rfl (zc hcl 8 7 rfl h))), zb (fun h => hn (zc hcl 7 6 rfl (zc hcl 8 7 rfl (zc hcl 9 8 rfl h))))⟩
   | 7, ho =>
    cases zq ho
    have ev : a.tmps[17]? = some (.agg #[.int .i64 tk, .string (strOfNums tt), .int .i64 tp]) := zv ha hsz Lh hl 6 hd
    exact zx (.string (strOfNums tt)) (by simp [execOp, ev, go_sem, Zhf]) ⟨_, va, vc, g, zp 7 ha Lh hsz, zh Lh, zk Lh hl, zl hE, zl hN, zl hO, zr hQ, zs hL, zs hM, zs hR⟩
   | 8, ho =>
    cases zq ho
    have ev : a.tmps[18]? = some ((.string (strOfNums tt))) := zv ha hsz Lh hl 7 hd
    have L := hL (zc hcl 7 6 rfl (zd hd 7)) hn
    have e1 := hE.resolve_left (fun h => hn (zc hcl 9 8 rfl (zc hcl 12 9 rfl h)))
    have o1 := hO.resolve_left (fun h => hn (zc hcl 9 8 rfl h))
    refine Zba (w' := w'.alloc (.cells #[.string (strOfNums tt)] 9)) (v := .slice (some ⟨w'.heap.size, 0, none⟩) 1 1) (by simp [execOp, ev, go_sem]) ?_
    exact ⟨_, va, vc, w'.heap.size, zp 8 ha Lh hsz, zh Lh, Zai (val' := dtpV x p q w'.heap.size tk tp tt na va nc vc) Lh (by decide) hl (fun j hj hne => match j, hj, hne with | 0, _, _ => rfl | 1, _, _ => rfl | 2, _, _ => rfl | 3, _, _ => rfl | 4, _, _ => rfl | 5, _, _ => rfl | 6, _, _ => rfl | 7, _, _ => rfl | 8, _, hne => absurd rfl hne | 9, _, _ => rfl | 10, _, _ => rfl | 11, _, _ => rfl | j + 12, _, _ => rfl), .inr ((Zbc.block q (lt_of_block e1)).trans e1), .inl (.inr (zc hcl 7 6 rfl (zd hd 7))), .inr (Zbh o1 (fun g' hg' hl => Zbc.block g' hl)), za (fun h => hn (zc hcl 9 8 rfl (zc hcl 12 9 rfl h))), zi, fun _ _ => ⟨L.1.bel Zbc, L.2.thn zo (Fr.of_below Zbc), Zc0 w' _, L.2.size⟩, zb (fun h => hn (zc hcl 9 8 rfl h))⟩
   | 9, ho =>
    cases zq ho
    have ev : a.tmps[15]? = some (.slice na x.names.length nc) := zv ha hsz Lh hl 4 hd
    have ev' : a.tmps[19]? = some (.slice (some ⟨g, 0, none⟩) 1 1) := zv ha hsz Lh hl 8 hd
    have M := hM (zd hd 8) hn
    have e1 := hE.resolve_left (fun h => hn (zc hcl 12 9 rfl h))
    have o1 := hO.resolve_left hn
    obtain ⟨i9, hi9, hz9, hs9, hb9⟩ := Zb1 Zoa
    obtain ⟨v', w7, hr7, o7, g7, p7⟩ := Zd0 w' 22 22 9 Tryz.underlying22 hi9 hz9 hs9 hb9 rfl (by decide) (by decide) o1 ⟨g, 0, none⟩ 1 1 [.string (strOfNums tt)] rfl (fun j u hj => by match j, hj with | 0, hj => simp at hj; subst hj; rw [Za7]; simp [World.cell?, M.2.2.1]) (by simp [Value.oneCell']) (by omega) (Nat.zero_le _)
    have o7' : w7.ownsRow 0 9 1 v' (x.names.length + 1) ((x.names ++ [tt]).map Zcr) := by rw [List.map_append]; exact o7
    obtain ⟨va', vc', rfl⟩ : ∃ a c, v' = .slice a (x.names.length + 1) c := by
      rcases o7'.2 with ⟨rfl, h0⟩ | ⟨g', cap, cur, rfl, _⟩
      ·exact absurd h0 (by omega)
      exact ⟨_, _, rfl⟩
    have k7 : Kp (.slice na x.names.length nc) w' w7 := ⟨g7.os, g7.tape, g7.output, g7.size, fun b hb hne => g7.block b hb (fun e => hne e.symm)⟩
    have hA7 : ∀ g', (Value.slice va' (x.names.length + 1) vc').ownBlock = some g' → Z g' := fun g' hg' => (p7 g' hg').elim (hoA g') (fun h => hnw g' (Nat.le_trans M.2.1.size h))
    refine Lib.wp_append_run w' (.tmp 15) (.tmp 19) 22 22 rfl _ _ (by simpa [Act.eval] using Zav ev) (by simpa [Act.eval] using Zav ev') _ w7 hr7 ?_
    exact ⟨_, va', vc', g, zp 9 ha Lh hsz, zh Lh, Zai (val' := dtpV x p q g tk tp tt na va' nc vc') Lh (by decide) hl (fun j hj hne => match j, hj, hne with | 0, _, _ => rfl | 1, _, _ => rfl | 2, _, _ => rfl | 3, _, _ => rfl | 4, _, _ => rfl | 5, _, _ => rfl | 6, _, _ => rfl | 7, _, _ => rfl | 8, _, _ => rfl | 9, _, hne => absurd rfl hne | 10, _, _ => rfl | 11, _, _ => rfl | j + 12, _, _ => rfl), .inr ((k7.block q (lt_of_block e1) (fun e => hAq (hoA q e))).trans e1), .inl (.inr (zc hcl 7 6 rfl (zc hcl 8 7 rfl (zd hd 8)))), .inl (.inl rfl), za (fun h => hn (zc hcl 12 9 rfl h)), zj (zd hd 8), zi, fun _ _ => ⟨pr_kp M.1 k7 (fun g' hg' => hAlo g' (hoA g' hg')) , Zqs M.2.1 k7 (fun g' hg' => hAB g' (hoA g' hg')), o7', hA7⟩⟩
   | 10, ho =>
    cases zq ho
    exact zm (zv ha hsz Lh hl 0 hd) ⟨_, va, vc, g, zp 10 ha Lh hsz, zh Lh, zk Lh hl, zl hE, zl hN, zl hO, zr hQ, zs hL, zs hM, zs hR⟩
   | 11, ho =>
    cases zq ho
    have ev : a.tmps[21]? = some (.pointer (some ⟨q, 0, none⟩)) := zv ha hsz Lh hl 10 hd
    exact zx (.pointer (some ⟨q, 4, none⟩)) (by simp [execOp, ev, go_sem]) ⟨_, va, vc, g, zp 11 ha Lh hsz, zh Lh, zk Lh hl, zl hE, zl hN, zl hO, zr hQ, zs hL, zs hM, zs hR⟩
   | 12, ho =>
    cases zq ho
    have ev : a.tmps[22]? = some (.pointer (some ⟨q, 4, none⟩)) := zv ha hsz Lh hl 11 hd
    have ev' : a.tmps[20]? = some (.slice va (x.names.length + 1) vc) := zv ha hsz Lh hl 9 hd
    have e1 := hE.resolve_left hn
    obtain ⟨z0, z1, z2, z3, z4, z5, zf⟩ := Zac e1
    have zf4 := zf 4
    have M := hR (zd hd 9) hn
    refine Zbj (w' := w'.setCell ⟨q, 4, none⟩ (.slice va (x.names.length + 1) vc)) (by simp [execOp, Act.eval, ev, ev', go_sem, z4, zf4]) ?_
    exact ⟨l, va, vc, g, ha, Lh, zJ hl, .inl (.inl rfl), .inl (.inr (zc hcl 7 6 rfl (zc hcl 8 7 rfl (zc hcl 9 8 rfl (zd hd 9))))), .inl (.inr (zd hd 9)), fun _ => ⟨w', M, rfl, e1⟩, zj (zc hcl 9 8 rfl (zd hd 9)), zj (zd hd 9), zi⟩
   | i + 13, ho => simp at ho
  rintro D a w' ⟨l, va, vc, g, ha, Lh, hl, hE, hN, hO, hQ, hL, hM, hR⟩ hall
  obtain ⟨v0, v1, v2, v3, v4, v5, v6, v7, v8, v9, v10, v11, rfl⟩ := zL12 Lh
  obtain ⟨w9, ⟨h9, F9, o9, hA9⟩, ew, E9⟩ := hQ (hall 12 (by decide))
  subst hA
  have hfr : a = _ := ha
  rw [hfr]
  clear hfr ha
  simp only [Zaj, yA, yB, yC, yD, yE, yF, yG, yH]
  clear hl hE hN hO hL hM hR hQ hall
  have M9 := DMx.tmp hkd E9 o9 hA9 hAq
  have S9 := St.cell w9 q 4 (.slice va (x.names.length + 1) vc)
  replace h9 := h9.st S9 (by have := G6.hp; have := G6.hq; omega)
  replace F9 := F9.trans (Fr.of_below (S9.below (B := B) G6.hq)) zo
  have hs9 := F9.size
  rw [← ew] at M9 h9 F9 hs9
  clear ew S9 E9 o9 hA9
  subst hi1 he1 ht1 htt
  go_wp2
  go_roundw
  case rel => exact ⟨i' + 1, _, M9, h9, F.trans F9 zo, by omega, hlt, by show (x.names ++ [_]).length ≤ _; rw [List.length_append, List.length_singleton]; omega, hX, fun r hr => hR0.out r (Zja hr hk1)⟩
  rw [h9.mea, hat]
  simp
  omega
 go_wp2_with fail
 refine (Zad h hiW 1).mono ?_
 rintro e w6 ⟨rfl, B6⟩
 rw [show (kdW W i' == 1) = false by simp [hk1]]
 replace h := h.bel B6
 replace M := M.bel B6
 have hBw : B ≤ wr.heap.size := by have := G.hB; have := F.size; omega
 replace F := F.trans ((Fr.of_below B6).low hBw) zo
 have hs6 := B6.size
 by_cases hk2 : kdW W i' = 12
 ·go_wp2_with fail
  refine (Ze4 h hiW 12 hk2 (by decide)).mono ?_
  rintro e w7 ⟨rfl, h7, F7⟩
  go_wp2
  have hlt : i' < E := S.ends.lt (by rw [hk2]; decide)
  go_end0
  exact ⟨x, i' + 1, 0, 0, rfl, M.fr F7 hqp hAp, h7, S.lt hlt, F.trans (F7.low (by omega)) zo, ⟨hX.out.1, hX.out.2.1, hX.out.2.2.1, hX.out.2.2.2.1, hX.out.2.2.2.2, by omega⟩, .inl ⟨rfl, rfl, hR0.out _ (Zhr hk2)⟩⟩
 go_wp2_with fail
 refine (Zkk h hiW 12 hk2).mono ?_
 rintro e w7 ⟨rfl, h7, F7⟩
 go_wp2
 go_end0
 exact ⟨x, i', 20, _, rfl, M.fr F7 hqp hAp, h7, hiW, F.trans (F7.low (by omega)) zo, ⟨hX.out.1, hX.out.2.1, hX.out.2.2.1, hX.out.2.2.2.1, hX.out.2.2.2.2, hxl0⟩, .inr ⟨by decide, i', hR0.out _ (Zhs hk1 hk2), rfl⟩⟩
section
variable {A : Nat → Prop} {K : Act → World → Prop} {Q : Exit → Act → World → Prop} {a : Act} {o : Oper} {v : Value} {w : World} {xs : List Nd}
theorem Zbu.put {A0 : Nat → Prop} {z y : Nd} {v0 v1 v2 v3 v4 v5 : Value} (h : Zbu w A v (xs ++ [z])) (hy : NdV A0 w y (.agg #[v0, v1, v2, v3, v4, v5])) (hA : ∀ b, b < w.heap.size → A0 b → A b ∧ ∀ g, v.ownBlock = some g → b ≠ g) :
  ∃ g c, v = .slice (some ⟨g, 0, none⟩) (xs.length + 1) c ∧ A g ∧ g < w.heap.size ∧ (∃ u0 u1 u2 u3 u4 u5, w.cell? ⟨g, xs.length * 6, none⟩ = some u0 ∧ w.cell? ⟨g, xs.length * 6 + 1, none⟩ = some u1 ∧ w.cell? ⟨g, xs.length * 6 + 2, none⟩ = some u2 ∧ w.cell? ⟨g, xs.length * 6 + 3, none⟩ = some u3 ∧ w.cell? ⟨g, xs.length * 6 + 4, none⟩ = some u4 ∧ w.cell? ⟨g, xs.length * 6 + 5, none⟩ = some u5) ∧ (∀ j, w.frozen? ⟨g, j, none⟩ = false) ∧ Zbu (six w g (xs.length * 6) v0 v1 v2 v3 v4 v5) A v (xs ++ [y]) := by
 obtain ⟨fl, o1, hAg, k1⟩ := h
 have hn : (xs ++ [z]).length = xs.length + 1 := by simp
 have hn2 : (xs ++ [y]).length = xs.length + 1 := by simp
 rw [hn] at o1
 rcases o1.2 with ⟨e, h0⟩ | ⟨g, cap, cur, rfl, hb, hg, hnc, hcm, hcs, ht⟩
 ·omega
 obtain ⟨f1, f2, rfl, k2, k3⟩ := KsF.split k1
 have hl1 : f1.length = xs.length * 6 := k2.len
 simp only [KsF] at k3
 obtain ⟨u0, u1, u2, u3, u4, u5, gl, rfl, _, rfl⟩ := k3
 have hc : ∀ j u, (f1 ++ [u0, u1, u2, u3, u4, u5])[j]? = some u → w.cell? ⟨g, j, none⟩ = some u := by
  intro j u hj
  have := o1.cells (g := g) rfl j u hj
  rw [Za7, Nat.zero_add] at this
  exact this
 have ha : ∀ k, (f1 ++ [u0, u1, u2, u3, u4, u5])[xs.length * 6 + k]? = [u0, u1, u2, u3, u4, u5][k]? := by
  intro k
  rw [List.getElem?_append_right (by omega)]
  congr 1
  omega
 have S := Zmy w g (xs.length * 6) v0 v1 v2 v3 v4 v5
 refine ⟨g, cap, rfl, hAg g rfl, lt_of_block hg, ⟨u0, u1, u2, u3, u4, u5, hc _ _ (by have := ha 0; rwa [Nat.add_zero] at this), hc _ _ (ha 1), hc _ _ (ha 2), hc _ _ (ha 3), hc _ _ (ha 4), hc _ _ (ha 5)⟩, fun j => o1.frozenAt j, ?_⟩
 have s0 := (o1.stored (xs.length * 6) v0).1
 have s1 := (s0.stored (xs.length * 6 + 1) v1).1
 have s2 := (s1.stored (xs.length * 6 + 2) v2).1
 have s3 := (s2.stored (xs.length * 6 + 3) v3).1
 have s4 := (s3.stored (xs.length * 6 + 4) v4).1
 have s5 := (s4.stored (xs.length * 6 + 5) v5).1
 rw [Zpl hl1.symm] at s5
 refine ⟨_, by rw [hn2]; exact s5, hAg, KsF.app (k2.imp (fun b _ hh => ⟨hh, S.block b (hh.2 g rfl)⟩) _ _) (KsF.one (hy.imp (fun b hb' hh => ⟨hA b hb' hh, S.block b ((hA b hb' hh).2 g rfl)⟩) _ _))⟩
theorem opzd (w : World) (s x : Operand) (ho : o.op = .call { callee := .builtin .append, args := #[s, x], argTypes := #[29, 29] }) {g : Nat} (hs : a.eval s = v) (hx : a.eval x = .slice (some ⟨g, 0, none⟩) 1 1) (q1 : Zbu w A v xs) (hg : w.heap[g]? = some (.cells #[.int .i64 0, .string ⟨#[]⟩, .int .i64 0, .int .i64 0, .slice none 0 0, .slice none 0 0] 31)) (hA : A g ∧ ∀ q, v.ownBlock = some q → g ≠ q) (hn : xs.length ≤ 500000) (hbase : ∀ b, w.heap.size ≤ b → A b)
  (h : ∀ (va : Option Addr) (vc : Nat) w', Zbu w' A (.slice va (xs.length + 1) vc) (xs ++ [zNd]) → Kp v w w' → (∀ g, (Value.slice va (xs.length + 1) vc).ownBlock = some g → v.ownBlock = some g ∨ w.heap.size ≤ g) → K (a.put o.dst (.slice va (xs.length + 1) vc)) w') : o.wp Tryz.prog a w K Q := by
 obtain ⟨v', w', hr, r1, r2, r3⟩ := Zho w o.type (ys := [zNd]) q1 (Zqg hg hA) (KsF.one NdV.zero) (by simp only [List.length_singleton]; omega) hbase
 obtain ⟨va, vc, rfl⟩ := r1.shape
 have hl : (xs ++ [zNd]).length = xs.length + 1 := by simp
 rw [hl] at r1 r3 hr
 exact Lib.wp_append_run w s x 29 29 ho _ _ hs hx _ w' hr (h va vc w' r1 r2 r3)
theorem st6d (w : World) (x y : Nat) (ho : o.op = .store 31 (.tmp x) (.tmp y)) (hd : o.dst = none) (g p : Nat) (k : Int) (s : ByteArray) (ps n : Int) (na : Option Addr) (nl nc : Nat) (ka : Option Addr) (kl kc : Nat) (hx : a.tmps[x]?.getD undef = .pointer (some ⟨g, p, none⟩)) (hy : a.tmps[y]?.getD undef = .agg #[.int .i64 k, .string s, .int .i64 ps, .int .i64 n, .slice na nl nc, .slice ka kl kc])
  (hc : ∃ u0 u1 u2 u3 u4 u5, w.cell? ⟨g, p, none⟩ = some u0 ∧ w.cell? ⟨g, p + 1, none⟩ = some u1 ∧ w.cell? ⟨g, p + 2, none⟩ = some u2 ∧ w.cell? ⟨g, p + 3, none⟩ = some u3 ∧ w.cell? ⟨g, p + 4, none⟩ = some u4 ∧ w.cell? ⟨g, p + 5, none⟩ = some u5) (fz : ∀ j, w.frozen? ⟨g, j, none⟩ = false)
  (h : K a (six w g p (.int .i64 k) (.string s) (.int .i64 ps) (.int .i64 n) (.slice na nl nc) (.slice ka kl kc))) : o.wp Tryz.prog a w K Q := by
 obtain ⟨u0, u1, u2, u3, u4, u5, c0, c1, c2, c3, c4, c5⟩ := hc
 have f0 := fz p
 have f1 := fz (p + 1)
 have f2 := fz (p + 2)
 have f3 := fz (p + 3)
 have f4 := fz (p + 4)
 have f5 := fz (p + 5)
 unfold six at h
 unfold Oper.wp execOp
 simp [ho, hx, hy, go_sem, c0, c1, c2, c3, c4, c5, f0, f1, f2, f3, f4, f5, hd]
 exact h
theorem stqd (w : World) (x y : Nat) (ho : o.op = .store 29 (.tmp x) (.tmp y)) (hd : o.dst = none) (q k : Nat) (va : Option Addr) (n c : Nat) (hx : a.tmps[x]?.getD undef = .pointer (some ⟨q, k, none⟩)) (hy : a.tmps[y]?.getD undef = .slice va n c)
  {u : Value} (hc : w.cell? ⟨q, k, none⟩ = some u) (fz : w.frozen? ⟨q, k, none⟩ = false) (h : K a (w.setCell ⟨q, k, none⟩ (.slice va n c))) : o.wp Tryz.prog a w K Q := by
 unfold Oper.wp execOp
 simp [ho, hx, hy, go_sem, hc, fz, hd]
 exact h
structure Sfd (W : List Tk) (p q q5 B j d b7 : Nat) (e : Int) (t : Nat) (A : Nat → Prop) (w9 : World) (x y : Nd) (pa : Option Addr) (pc : Nat) (na : Option Addr) (nc : Nat) (ma : Option Addr) (mc : Nat) (ka : Option Addr) (kc : Nat) (w' : World) : Prop where
 five : w'.heap[q5]? = some (.cells #[.int .i64 y.kind, .string (strOfNums y.text), .int .i64 (y.pos : Int), .int .i64 (y.n : Int), .slice ma y.names.length mc, .slice ka y.kids.length kc] 31)
 rd : Pr w' p W j d e t
 fr : Fr p B w9 w'
 sn : SlF (fun b => (A b ∧ ∀ g, (Value.slice pa x.kids.length pc).ownBlock = some g → b ≠ g) ∧ b < w9.heap.size) w' na x.names.length nc (x.names.map Zcr)
 hv : NdV (fun b => b7 ≤ b ∧ b < w9.heap.size) w' y (.agg #[.int .i64 y.kind, .string (strOfNums y.text), .int .i64 (y.pos : Int), .int .i64 (y.n : Int), .slice ma y.names.length mc, .slice ka y.kids.length kc])
theorem Sfd.step {W : List Tk} {p q q5 B j d b7 : Nat} {e : Int} {t : Nat} {w9 w' : World} {x y : Nd} {pa : Option Addr} {pc : Nat} {na : Option Addr} {nc : Nat} {ma : Option Addr} {mc : Nat} {ka : Option Addr} {kc : Nat} (h : Sfd W p q q5 B j d b7 e t A w9 x y pa pc na nc ma mc ka kc w) (G : Sg p q q5 B b7 A w9 x pa pc) (k : Kq q w9.heap.size (.slice pa x.kids.length pc) w w') : Sfd W p q q5 B j d b7 e t A w9 x y pa pc na nc ma mc ka kc w' := by
 have g1 := G.hp
 have g2 := G.hB
 have g3 := G.h79
 have g4 := G.hq
 have g5 := G.hq7
 have g6 := G.h5
 have g7 := G.h59
 have low : ∀ b, b < B → w'.heap[b]? = w.heap[b]? := fun b hb => k.block b (by omega) (by omega) (fun e => by have := G.lo b (G.own b e).1; omega)
 refine ⟨(k.block q5 g7 (by omega) (fun e => by have := (G.own q5 e).2; omega)).trans h.five, h.rd.same (fun b hb => low b (by omega)) (low p g1), ?_, h.sn.imp (fun b _ hA => ⟨hA, k.block b hA.2 (fun e => G.nq (e ▸ hA.1.1)) (fun e => hA.1.2 b e rfl)⟩), h.hv.imp (fun b _ hA => ⟨hA, k.block b hA.2 (by omega) (fun e => by have := (G.own b e).2; omega)⟩) _ _⟩
 exact ⟨k.os.trans h.fr.os, k.tape.trans h.fr.tape, k.output.trans h.fr.output, Nat.le_trans h.fr.size k.size, fun b hb hn => (low b hb).trans (h.fr.block b hb hn)⟩
theorem Zbu.some_ {z : Nd} (h : Zbu w A v (xs ++ [z])) : ∃ g c, v = .slice (some ⟨g, 0, none⟩) (xs.length + 1) c ∧ A g := by
 obtain ⟨g, c, h1, h2, _⟩ := h.put (y := zNd) (A0 := fun _ => False) NdV.zero (fun _ _ h => h.elim)
 exact ⟨g, c, h1, h2⟩
end
end Go.Proofs.YtncfmhlikmibaaaGreatDoor
