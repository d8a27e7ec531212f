/- The document's parser: unary, binary, keyed. -/
import Derived.Test.YtncfmhlikmibaaaGreatDoorDpm
namespace Go.Proofs.YtncfmhlikmibaaaGreatDoor
open Go.RowKit
set_option maxRecDepth 100000
set_option maxHeartbeats 16000000
section
def Zo0 (W : List Tk) (i d : Nat) (z : Nd) (iz : Nat) (ez : Int) (tz : Nat) : Prop :=
 (ez = 0 ∧ tz = 0 ∧ Zaa W (.msg i d) (.ok z iz)) ∨ (ez ≠ 0 ∧ ∃ j, Zaa W (.msg i d) (.er j ez) ∧ tz = psW W j)
def ConM (W : List Tk) (i d : Nat) : Prop :=
 ∀ w p, Pr w p W i d 0 0 → Calls Tryz.prog 104 #[.pointer (some ⟨p, 0, none⟩)] w fun e w' => ∃ z u iz ez tz, e = .returned u ∧ NdV (fun b => w.heap.size ≤ b) w' z u ∧ z.kids.length ≤ 6000 ∧ Pr w' p W iz d ez tz ∧ iz < W.length ∧ Fr p w.heap.size w w' ∧ Zo0 W i d z iz ez tz
def Zi1 (E : Nat) (w : World) (p : Nat) : Nat := match w.heap[p]? with
 | some (Obj.cells l _ _) => (match l[1]?, l[3]? with
  | some (Value.int _ i), some (Value.int _ e) => if e = 0 then E + 1 - i.toNat else 0
  | _, _ => 0)
 | _ => 0
variable {E d i : Nat} {W : List Tk}
theorem Pr.mea {w : World} {p : Nat} {t : Nat} {e : Int} (h : Pr w p W i d e t) : Zi1 E w p = if e = 0 then E + 1 - i else 0 := by
 obtain ⟨b, off, c, h1, _⟩ := h.ex
 simp [Zi1, h1, Zm2]
theorem Zqf {z : Nd} {iz : Nat} {ez : Int} {tz : Nat} (h : Zo0 W i d z iz ez tz) (hk : kdW W i = 1) : z = Zda (txW W i) (psW W i) [] ∧ iz = i + 1 ∧ ez = 0 ∧ tz = 0 := by
 rcases h with ⟨h1, h2, h3⟩ | ⟨h1, j, h3, _⟩
 ·have := h3.det (Zd6 hk)
  simp only [Rs.ok.injEq] at this
  exact ⟨this.1, this.2, h1, h2⟩
 have := h3.det (Zd6 hk)
 cases this
theorem Zg7 {r : Rs} (h : Zaa W (.msg i d) r) (hk : kdW W i = 3) : (∃ a j, r = .ok (Zda (txW W i) (psW W i) [a]) j ∧ Zaa W (.una (i + 1) d) (.ok a j)) ∨ ∃ j c, r = .er j c ∧ Zaa W (.una (i + 1) d) (.er j c) := by
 obtain ⟨f, hf⟩ := h.back
 simp only [Zam] at hf
 rw [if_neg (by rw [hk]; decide), if_pos hk] at hf
 obtain ⟨x, hx, e⟩ := Zgd hf
 rcases rsE e with ⟨j, c, rfl, rfl⟩ | ⟨y, j, rfl, e⟩
 ·exact .inr ⟨j, c, rfl, ⟨f, hx⟩⟩
 exact .inl ⟨y, j, (Option.some.inj e).symm, ⟨f, hx⟩⟩
def dubV (x z : Nd) (p : Nat) (na ka ma la oa pa : Option Addr) (nc kc mc lc oc pc : Nat) (j : Nat) : Value :=
 ([.agg #[.int .i64 x.kind, .string (strOfNums x.text), .int .i64 (x.pos : Int), .int .i64 (x.n : Int), .slice na x.names.length nc, .slice ka x.kids.length kc],
  .pointer (some ⟨p, 0, none⟩),
  .agg #[.int .i64 z.kind, .string (strOfNums z.text), .int .i64 (z.pos : Int), .int .i64 (z.n : Int), .slice ma z.names.length mc, .slice la z.kids.length lc],
  .agg #[.int .i64 7, .string (strOfNums z.text), .int .i64 (z.pos : Int), .int .i64 0, .slice oa (Zat x z).names.length oc, .slice pa (Zat x z).kids.length pc]] : List Value).getD j undef
theorem Zoc (S : Src W E) {n0 : Nat} (hi : n0 ≤ E) (H1 : Zdk 137 W (.prim n0 d) n0 d) (HMA : ∀ j, n0 < j → j ≤ E → ConM W j d) : Zdk 123 W (.una n0 d) n0 d := by
 intro w p h
 have hpw := h.lt
 go_enter Tryz.func123, Tryz.ntmps123
 go_wp2_with (refine Zdn _ rfl rfl ?_)
 intro q2 w0 E2 hq2 C1
 have l2 := lt_of_block E2
 have h0 := h.bel C1
 have hZ0 : Zge w0 q2 := ⟨_, _, _, _, _, _, E2⟩
 have hqp2 : q2 ≠ p := by omega
 have hs0 := C1.size
 clear E2 h
 go_wp2_with fail
 refine (H1 w0 p h0).mono ?_
 rintro e w1 ⟨r0, hr0, ha0, F1⟩
 replace hZ0 := hZ0.keep (fun hl => F1.block _ hl hqp2)
 have F01 := (Fr.of_below C1).thn zo F1
 have hs1 := F1.size
 clear C1 F1 h0
 obtain ⟨v0, x0, i1, e1, t1, hans⟩ : ∃ v0 x0 i1 e1 t1, e = .returned v0 ∧ NdV (fun b => w0.heap.size ≤ b) w1 x0 v0 ∧ Pr w1 p W i1 d e1 t1 ∧ i1 < W.length ∧ Hid (e1 = 0 → t1 = 0 ∧ n0 < i1 ∧ ∀ r, Zaa W (.unaOf i1 d x0) r → Zaa W (.una n0 d) r) ∧ Hid (e1 ≠ 0 → ∃ j, Zaa W (.una n0 d) (.er j e1) ∧ t1 = psW W j) := by
  cases r0 with
  | ok x j =>
   obtain ⟨v, he, hv, h1⟩ := ha0
   have hadv := hr0.adv S.ends
   simp only [Adv, Qy.place, Qy.takes, Qy.asks] at hadv
   have hj := hadv (by omega)
   exact ⟨v, x, j, 0, 0, he, hv, h1, S.lt hj.2, fun _ => ⟨rfl, by omega, fun r hr => Znm hr0 hr⟩, fun h => absurd rfl h⟩
  | er j c =>
   obtain ⟨v, x, i', he, hv, h1, hi', hc⟩ := ha0
   exact ⟨v, x, i', c, _, he, hv, h1, hi', fun h => absurd h hc, fun _ => ⟨j, Znn hr0, rfl⟩⟩
 clear ha0 hr0
 obtain ⟨rfl, hx, h1, hi1, hg1, hg2⟩ := hans
 obtain ⟨na, nc, ka, kc, _, rfl, _⟩ := NdV.parts hx
 go_wp2_with (refine Zb5 rfl rfl rfl 3 rfl rfl rfl (fun _ => rfl) (fun _ => rfl) ?_)
 intro q1 w2 E1 hq1 B2
 have hx2 : NdV (fun b => w.heap.size ≤ b ∧ b ≠ q1 ∧ b ≠ q2 ∧ b ≠ p) w2 x0 _ := hx.imp (fun b hb hA => ⟨⟨by omega, by omega, by omega, by omega⟩, B2.block b hb⟩) _ _
 have h2 := h1.bel B2
 have hZ : Zge w2 q2 := hZ0.keep (fun hl => B2.block _ hl)
 have F02 : Fr p w.heap.size w w2 := F01.thn zo (Fr.of_below B2)
 have hs2 : w2.heap.size ≤ w2.heap.size := Nat.le_refl _
 have hss := B2.size
 have hql := lt_of_block E1
 have hne : q1 ≠ q2 := by omega
 have hqp : q1 ≠ p := by omega
 replace hq1 : w.heap.size ≤ q1 := by omega
 have hq2b : q2 < w2.heap.size := by omega
 clear B2 hZ0 hx h1 F01
 go_wp2_with fail
 simp only [Act.put, List.setIfInBounds_toArray, List.set_cons_zero, List.set_cons_succ]
 go_loopw [] (fun wr => ∃ (i' : Nat) (x' : Nd) (ei : Int) (ti : Nat), EBox wr (fun b => w.heap.size ≤ b ∧ b ≠ q1 ∧ b ≠ q2 ∧ b ≠ p) q1 x' ∧ Zge wr q2 ∧ Pr wr p W i' d ei ti ∧ Fr p w.heap.size w wr ∧ i' < W.length ∧ w2.heap.size ≤ wr.heap.size ∧ Hid (ei = 0 → ti = 0 ∧ n0 < i' ∧ ∀ r, Zaa W (.unaOf i' d x') r → Zaa W (.una n0 d) r) ∧ Hid (ei ≠ 0 → ∃ j, Zaa W (.una n0 d) (.er j ei) ∧ ti = psW W j)) (fun wr => Zi1 E wr p)
 case atStart => exact ⟨i1, x0, e1, t1, ⟨na, nc, ka, kc, E1, hx2⟩, hZ, h2, F02, hi1, hs2, hg1, hg2⟩
 clear E1 hx2 hZ h2 F02 hg1 hg2
 obtain ⟨i', x, ei, ti, ⟨na, nc, ka, kc, E1, hx2⟩, hZ, h2, F02, hi', hs2, hG, hD⟩ := hrel
 by_cases hei : ei = 0 ∧ kdW W i' = 1
 ·obtain ⟨rfl, hk⟩ := hei
  obtain ⟨rfl, hni, hGr0⟩ := hG.out rfl
  have hGr : Hid (∀ r, Zaa W (.unaOf i' d x) r → Zaa W (.una n0 d) r) := hGr0
  clear hG hGr0
  have hlt : i' < E := S.ends.lt (by rw [hk]; decide)
  have HM := HMA i' hni (by omega)
  go_wp2_with fail
  refine (Zad h2 hi' 1).mono ?_
  rintro e w3 ⟨rfl, B3⟩
  rw [show (kdW W i' == 1) = true by simp [hk]]
  replace E1 := (B3.block _ (lt_of_block E1)).trans E1
  replace hZ := hZ.keep (fun hl => B3.block _ hl)
  have hx3 : NdV (fun b => w.heap.size ≤ b ∧ b ≠ q1 ∧ b ≠ q2 ∧ b ≠ p) w3 x _ := hx2.imp (fun b hb hA => ⟨hA, B3.block b hb⟩) _ _
  replace F02 := F02.thn zo (Fr.of_below B3)
  have hat : Zi1 E wr p = _ := h2.mea
  have h3 := h2.bel B3
  have hs3 : w2.heap.size ≤ w3.heap.size := Nat.le_trans hs2 B3.size
  clear hx2 h2 B3 hD
  have hbs : ∀ b, w3.heap.size ≤ b → w.heap.size ≤ b ∧ b ≠ q1 ∧ b ≠ q2 ∧ b ≠ p := fun b h => ⟨by omega, by omega, by omega, by omega⟩
  have E1d : w3.drew.heap[q1]? = _ := E1
  have h3d : Pr w3.drew p W i' d 0 0 := h3.drewP
  go_wp2_with fail
  refine Zah fun A hA => ?_
  have hsz : A.tmps.size = 13 := by rw [hA]; rfl
  have s0 : A.tmps[0]? = some (.pointer (some ⟨p, 0, none⟩)) := by rw [hA]; rfl
  have s3 : A.tmps[3]? = some (.pointer (some ⟨q1, 0, none⟩)) := by rw [hA]; rfl
  refine zR1 (fun A D a w' => ∃ (l : List Value) (ma : Option Addr) (la : Option Addr) (oa : Option Addr) (pa : Option Addr) (mc : Nat) (lc : Nat) (oc : Nat) (pc : Nat) (z : Nd) (iz : Nat) (ez : Int) (tz : Nat), a = Zaj A 8 l ∧ l.length = 4 ∧ (∀ j, j < 4 → D j → l[j]? = some (dubV x z p na ka ma la oa pa nc kc mc lc oc pc j)) ∧ (D 4 ∨ w'.heap[q1]? = some (.cells #[.int .i64 x.kind, .string (strOfNums x.text), .int .i64 (x.pos : Int), .int .i64 (x.n : Int), .slice na x.names.length nc, .slice ka x.kids.length kc] 31)) ∧ (D 2 ∨ (Pr w' p W i' d 0 0 ∧ Below w3.heap.size w3 w')) ∧ (D 2 → Zo0 W i' d z iz ez tz ∧ z.kids.length ≤ 6000 ∧ iz < W.length) ∧ (D 4 → ∃ w6, NdV (fun b => w.heap.size ≤ b ∧ b ≠ q1 ∧ b ≠ q2 ∧ b ≠ p) w6 (Zat x z) (.agg #[.int .i64 7, .string (strOfNums z.text), .int .i64 (z.pos : Int), .int .i64 0, .slice oa (Zat x z).names.length oc, .slice pa (Zat x z).kids.length pc]) ∧ Pr w6 p W iz d ez tz ∧ Fr p w3.heap.size w3 w6 ∧ w'.heap[q1]? = some (.cells #[.int .i64 7, .string (strOfNums z.text), .int .i64 (z.pos : Int), .int .i64 0, .slice oa (Zat x z).names.length oc, .slice pa (Zat x z).kids.length pc] 31) ∧ St q1 w6 w') ∧ (D 2 → ¬ D 3 → NdV (fun b => w.heap.size ≤ b ∧ b ≠ q1 ∧ b ≠ q2 ∧ b ≠ p) w' z (.agg #[.int .i64 z.kind, .string (strOfNums z.text), .int .i64 (z.pos : Int), .int .i64 (z.n : Int), .slice ma z.names.length mc, .slice la z.kids.length lc]) ∧ Pr w' p W iz d ez tz ∧ Fr p w3.heap.size w3 w') ∧ (D 3 → ¬ D 4 → NdV (fun b => w.heap.size ≤ b ∧ b ≠ q1 ∧ b ≠ q2 ∧ b ≠ p) w' (Zat x z) (.agg #[.int .i64 7, .string (strOfNums z.text), .int .i64 (z.pos : Int), .int .i64 0, .slice oa (Zat x z).names.length oc, .slice pa (Zat x z).kids.length pc]) ∧ Pr w' p W iz d ez tz ∧ Fr p w3.heap.size w3 w')) ?start ?step ?done
  case start => exact ⟨_, none, none, none, none, 0, 0, 0, 0, zNd, 0, 0, 0, zS 8 4 hsz, zG 8 4 hsz, zK, .inr (E1d), .inr (⟨h3d, (Below.refl _ _).drew⟩), zf, zf, zF, zF⟩
  case step =>
   clear hA
   intro i o ho D a w' hI hn hcl hd
   obtain ⟨l, ma, la, oa, pa, mc, lc, oc, pc, z, iz, ez, tz, ha, Lh, hl, hE, hN, hM, hQ, hU, hS⟩ := hI
   match i, ho with
   | 0, ho =>
    cases zq ho
    have ev : a.tmps[3]? = some (.pointer (some ⟨q1, 0, none⟩)) := zu 3 ha Lh hsz s3
    have e1 := hE.resolve_left (fun h => hn (zc hcl 3 0 rfl (zc hcl 4 3 rfl h)))
    obtain ⟨z0, z1, z2, z3, z4, z5, _⟩ := Zac e1
    exact zx (.agg #[.int .i64 x.kind, .string (strOfNums x.text), .int .i64 (x.pos : Int), .int .i64 (x.n : Int), .slice na x.names.length nc, .slice ka x.kids.length kc]) (by simp [execOp, ev, go_sem, z0, z1, z2, z3, z4, z5]) ⟨_, ma, la, oa, pa, mc, lc, oc, pc, z, iz, ez, tz, zp 0 ha Lh hsz, zh Lh, zk Lh hl, zl hE, zl hN, zr hM, zr hQ, zs hU, zs hS⟩
   | 1, ho =>
    cases zq ho
    exact zm (zu 0 ha Lh hsz s0) ⟨_, ma, la, oa, pa, mc, lc, oc, pc, z, iz, ez, tz, zp 1 ha Lh hsz, zh Lh, zk Lh hl, zl hE, zl hN, zr hM, zr hQ, zs hU, zs hS⟩
   | 2, ho =>
    cases zq ho
    have ev : a.tmps[9]? = some (.pointer (some ⟨p, 0, none⟩)) := zv ha hsz Lh hl 1 hd
    have hN0 := hN.resolve_left hn
    have e1 := hE.resolve_left (fun h => hn (zc hcl 3 2 rfl (zc hcl 4 3 rfl h)))
    refine Zan (f := 104) (args := #[.pointer (some ⟨p, 0, none⟩)]) (by simp [execOp, ev, go_sem]) ?_
    refine (HM w' p hN0.1).mono ?_
    rintro e w6 ⟨z', u, iz', ez', tz', rfl, hu, hzk, h4, hiz, F4, hM4⟩
    refine ⟨_, rfl, ?_⟩
    obtain ⟨ma', mc', la', lc', _, rfl, _⟩ := NdV.parts hu
    exact ⟨_, ma', la', oa, pa, mc', lc', oc, pc, z', iz', ez', tz', zp 2 ha Lh hsz, zh Lh, Zai (val' := dubV x z' p na ka ma' la' oa pa nc kc mc' lc' oc pc) Lh (by decide) hl (fun j hj hne => match j, hj, hne with | 0, _, _ => rfl | 1, _, _ => rfl | 2, _, hne => absurd rfl hne | 3, hj, _ => absurd hj (fun h => hn (zc hcl 3 2 rfl h)) | j + 4, _, _ => rfl), .inr ((F4.block q1 (lt_of_block e1) hqp).trans e1), .inl (.inl rfl), fun _ => ⟨hM4, hzk, hiz⟩, za (fun h => hn (zc hcl 3 2 rfl (zc hcl 4 3 rfl h))), fun _ _ => ⟨hu.mono (fun b _ hb => hbs b (Nat.le_trans hN0.2.size hb)), h4, (Fr.of_below hN0.2).thn zo F4⟩, zb (fun h => hn (zc hcl 3 2 rfl h))⟩
   | 3, ho =>
    cases zq ho
    have ev : a.tmps[8]? = some (.agg #[.int .i64 x.kind, .string (strOfNums x.text), .int .i64 (x.pos : Int), .int .i64 (x.n : Int), .slice na x.names.length nc, .slice ka x.kids.length kc]) := zv ha hsz Lh hl 0 hd
    have ev' : a.tmps[10]? = some (.agg #[.int .i64 z.kind, .string (strOfNums z.text), .int .i64 (z.pos : Int), .int .i64 (z.n : Int), .slice ma z.names.length mc, .slice la z.kids.length lc]) := zv ha hsz Lh hl 2 hd
    have U3 := hU (zd hd 2) hn
    have e1 := hE.resolve_left (fun h => hn (zc hcl 4 3 rfl h))
    refine Zan (f := 121) (args := #[.agg #[.int .i64 x.kind, .string (strOfNums x.text), .int .i64 (x.pos : Int), .int .i64 (x.n : Int), .slice na x.names.length nc, .slice ka x.kids.length kc], .agg #[.int .i64 z.kind, .string (strOfNums z.text), .int .i64 (z.pos : Int), .int .i64 (z.n : Int), .slice ma z.names.length mc, .slice la z.kids.length lc]]) (by simp [execOp, ev, ev', go_sem]) ?_
    refine (Zhh (fun b h => hbs b (Nat.le_trans U3.2.2.size h)) (hx3.fr U3.2.2 (fun b hb hl => ⟨hl, hb.2.2.2⟩)) U3.1 (by have := (hM (zd hd 2)).2.1; omega)).mono ?_
    rintro e w6 ⟨u, rfl, hv, B5⟩
    refine ⟨_, rfl, ?_⟩
    obtain ⟨oa', oc', pa', pc', _, rfl, _⟩ := NdV.parts hv
    exact ⟨_, ma, la, oa', pa', mc, lc, oc', pc', z, iz, ez, tz, zp 3 ha Lh hsz, zh Lh, Zai (val' := dubV x z p na ka ma la oa' pa' nc kc mc lc oc' pc') Lh (by decide) hl (fun j hj hne => match j, hj, hne with | 0, _, _ => rfl | 1, _, _ => rfl | 2, _, _ => rfl | 3, _, hne => absurd rfl hne | j + 4, _, _ => rfl), .inr ((B5.block q1 (lt_of_block e1)).trans e1), .inl (.inr (zd hd 2)), zr hM, za (fun h => hn (zc hcl 4 3 rfl h)), zi, fun _ _ => ⟨hv, U3.2.1.bel B5, U3.2.2.thn zo (Fr.of_below B5)⟩⟩
   | 4, ho =>
    cases zq ho
    have ev : a.tmps[11]? = some (.agg #[.int .i64 7, .string (strOfNums z.text), .int .i64 (z.pos : Int), .int .i64 0, .slice oa (Zat x z).names.length oc, .slice pa (Zat x z).kids.length pc]) := zv ha hsz Lh hl 3 hd
    have S4 := hS (zd hd 3) hn
    have e1 := hE.resolve_left hn
    have e4 : a.tmps[3]? = some (.pointer (some ⟨q1, 0, none⟩)) := zu 3 ha Lh hsz s3
    refine wp_store_row (P := Tryz.prog) 31 (.tmp 3) (.tmp 11) rfl q1 #[.int .i64 7, .string (strOfNums z.text), .int .i64 (z.pos : Int), .int .i64 0, .slice oa (Zat x z).names.length oc, .slice pa (Zat x z).kids.length pc] (by simpa [Act.eval] using Zav e4) (by simpa [Act.eval] using Zav ev) 31 _ e1 (by kernel_rfl) rfl (by simp [Value.oneCell']) ?_
    exact ⟨l, ma, la, oa, pa, mc, lc, oc, pc, z, iz, ez, tz, ha, Lh, zJ hl, .inl (.inl rfl), .inl (.inr (zc hcl 3 2 rfl (zd hd 3))), zr hM, fun _ => ⟨w', S4.1, S4.2.1, S4.2.2, setRow_heap w' q1 _ _ _ _ e1, St.row w' q1 _⟩, zj (zd hd 3), zi⟩
   | i + 5, ho => simp at ho
  rintro D a w' ⟨l, ma, la, oa, pa, mc, lc, oc, pc, z, iz, ez, tz, ha, Lh, hl, hE, hN, hM, hQ, hU, hS⟩ hall
  obtain ⟨v0, v1, v2, v3, rfl⟩ := zL4 Lh
  obtain ⟨w6, Nq, Rq, Fq, Eq, Sq⟩ := hQ (hall 4 (by decide))
  obtain ⟨hM4, hzk, hiz⟩ := hM (hall 2 (by decide))
  subst hA
  have hfr : a = _ := ha
  rw [hfr]
  clear hfr ha
  simp only [Zaj, yA, yB, yC, yD, yE, yF, yG, yH]
  clear hl hE hN hU hS hQ hM hall
  have hw6 : w3.heap.size ≤ w6.heap.size := Fq.size
  have l6 : q1 < w6.heap.size := by omega
  have hZ6 : Zge w' q2 := hZ.keep (fun hl => (Sq.block q2 (fun e => hne e.symm)).trans (Fq.block q2 hl hqp2))
  have hN6 : NdV (fun b => w.heap.size ≤ b ∧ b ≠ q1 ∧ b ≠ q2 ∧ b ≠ p) w' (Zat x z) _ := Nq.imp (fun b _ hA => ⟨hA, Sq.block b hA.2.1⟩) _ _
  have h6 := Rq.same (fun b hb => Sq.block b (by have := h3.lt; omega)) (Sq.block p (fun e => hqp e.symm))
  have F6 : Fr p w.heap.size w w' := (F02.thn zo Fq).trans (Fr.of_below (Sq.below (B := w.heap.size) hq1)) zo
  have hs6 : w2.heap.size ≤ w'.heap.size := by rw [Sq.size]; omega
  clear Sq Nq Rq Fq hw6 l6
  go_wp2
  go_roundw
  case rel =>
   obtain ⟨rfl, rfl, rfl, rfl⟩ := Zqf hM4 hk
   exact ⟨i' + 1, Zat x (Zda (txW W i') (psW W i') []), 0, 0, ⟨oa, oc, pa, pc, Eq, hN6⟩, hZ6, h6, F6, hiz, hs6, fun _ => ⟨rfl, by omega, fun r hr => hGr.out r (Zi9 hr hk)⟩, fun h => absurd rfl h⟩
  obtain ⟨rfl, rfl, rfl, rfl⟩ := Zqf hM4 hk
  rw [h6.mea, hat]
  simp
  omega
 have hex : ∃ b : Bool, b = false ∧ ∀ (u : World), Below wr.heap.size wr u → True := ⟨false, rfl, fun _ _ => trivial⟩
 clear hex
 have hfin : Hid (∃ r, Zaa W (.una n0 d) r ∧ ((∃ j, r = .ok x i' ∧ ei = 0 ∧ ti = 0 ∧ j = i') ∨ ∃ j, r = .er j ei ∧ ei ≠ 0 ∧ ti = psW W j)) := by
  by_cases he : ei = 0
  ·obtain ⟨ht, _, hr⟩ := hG.out he
   exact ⟨_, hr _ (Zhq (fun hk => hei ⟨he, hk⟩)), .inl ⟨_, rfl, he, ht, rfl⟩⟩
  obtain ⟨j, hj, ht⟩ := hD.out he
  exact ⟨_, hj, .inr ⟨j, rfl, he, ht⟩⟩
 have hcall : Calls Tryz.prog 45 #[.pointer (some ⟨p, 0, none⟩), .int .i64 1] wr fun e w' => e = .returned (.bool false) ∧ Below wr.heap.size wr w' := by
  by_cases he : ei = 0
  ·subst he
   have := Zad h2 hi' 1
   rwa [show (kdW W i' == 1) = false by simp only [beq_eq_false_iff_ne, ne_eq]; exact fun hk => hei ⟨rfl, hk⟩] at this
  exact Zax h2 hi' he 1
 go_wp2_with fail
 refine hcall.mono ?_
 rintro e w3 ⟨rfl, B3⟩
 replace E1 := (B3.block _ (lt_of_block E1)).trans E1
 replace hZ := hZ.keep (fun hl => B3.block _ hl)
 have hx3 : NdV (fun b => w.heap.size ≤ b ∧ b ≠ q1 ∧ b ≠ q2 ∧ b ≠ p) w3 x _ := hx2.imp (fun b hb hA => ⟨hA, B3.block b hb⟩) _ _
 replace F02 := F02.thn zo (Fr.of_below B3)
 have h3 := h2.bel B3
 clear hx2 h2 B3 hcall
 obtain ⟨z0, z1, z2, z3, z4, z5, _⟩ := Zac E1
 obtain ⟨u0, u1, u2, u3, u4, u5, E2⟩ := hZ
 have hq2l := lt_of_block E2
 go_wp2_with (refine Za8 rfl rfl rfl rfl rfl E2 ?_)
 intro w4 E4 S4
 go_wp2
 obtain ⟨r, hr, hrr⟩ := hfin.out
 have hxo := hx3.imp (A' := fun b => w.heap.size ≤ b) (w' := w4) (fun b hb hA => ⟨hA.1, S4.block b hA.2.2.1⟩) _ _
 have h4 := h3.st S4 (by omega)
 refine zT 2 (by rfl) (by rfl) (Zau E4) (by rfl) ⟨r, hr, ?_, F02.trans (Fr.of_below (S4.below (B := w.heap.size) hq2)) zo⟩
 rcases hrr with ⟨j, rfl, rfl, rfl, rfl⟩ | ⟨j, rfl, he, rfl⟩
 ·exact ⟨_, rfl, hxo, h4⟩
 exact ⟨_, _, _, rfl, hxo, h4, hi', he⟩
theorem Zmq (S : Src W E) {n0 : Nat} (hi : n0 ≤ E) (H1 : Zdk 123 W (.una n0 d) n0 d) (HMA : ∀ j, n0 < j → j ≤ E → ConM W j d) : Zdk 120 W (.bin n0 d) n0 d := by
 intro w p h
 have hpw := h.lt
 go_enter Tryz.func120, Tryz.ntmps120
 go_wp2_with (refine Zdn _ rfl rfl ?_)
 intro q2 w0 E2 hq2 C1
 have l2 := lt_of_block E2
 have h0 := h.bel C1
 have hZ0 : Zge w0 q2 := ⟨_, _, _, _, _, _, E2⟩
 have hqp2 : q2 ≠ p := by omega
 have hs0 := C1.size
 clear E2 h
 go_wp2_with fail
 refine (H1 w0 p h0).mono ?_
 rintro e w1 ⟨r0, hr0, ha0, F1⟩
 replace hZ0 := hZ0.keep (fun hl => F1.block _ hl hqp2)
 have F01 := (Fr.of_below C1).thn zo F1
 have hs1 := F1.size
 clear C1 F1 h0
 obtain ⟨v0, x0, i1, e1, t1, hans⟩ : ∃ v0 x0 i1 e1 t1, e = .returned v0 ∧ NdV (fun b => w0.heap.size ≤ b) w1 x0 v0 ∧ Pr w1 p W i1 d e1 t1 ∧ i1 < W.length ∧ Hid (e1 = 0 → t1 = 0 ∧ n0 < i1 ∧ ∀ r, Zaa W (.binOf i1 d x0) r → Zaa W (.bin n0 d) r) ∧ Hid (e1 ≠ 0 → ∃ j, Zaa W (.bin n0 d) (.er j e1) ∧ t1 = psW W j) := by
  cases r0 with
  | ok x j =>
   obtain ⟨v, he, hv, h1⟩ := ha0
   have hadv := hr0.adv S.ends
   simp only [Adv, Qy.place, Qy.takes, Qy.asks] at hadv
   have hj := hadv (by omega)
   exact ⟨v, x, j, 0, 0, he, hv, h1, S.lt hj.2, fun _ => ⟨rfl, by omega, fun r hr => Zkw hr0 hr⟩, fun h => absurd rfl h⟩
  | er j c =>
   obtain ⟨v, x, i', he, hv, h1, hi', hc⟩ := ha0
   exact ⟨v, x, i', c, _, he, hv, h1, hi', fun h => absurd h hc, fun _ => ⟨j, Zno hr0, rfl⟩⟩
 clear ha0 hr0
 obtain ⟨rfl, hx, h1, hi1, hg1, hg2⟩ := hans
 obtain ⟨na, nc, ka, kc, _, rfl, _⟩ := NdV.parts hx
 go_wp2_with (refine Zb5 rfl rfl rfl 3 rfl rfl rfl (fun _ => rfl) (fun _ => rfl) ?_)
 intro q1 w2 E1 hq1 B2
 have hx2 : NdV (fun b => w.heap.size ≤ b ∧ b ≠ q1 ∧ b ≠ q2 ∧ b ≠ p) w2 x0 _ := hx.imp (fun b hb hA => ⟨⟨by omega, by omega, by omega, by omega⟩, B2.block b hb⟩) _ _
 have h2 := h1.bel B2
 have hZ : Zge w2 q2 := hZ0.keep (fun hl => B2.block _ hl)
 have F02 : Fr p w.heap.size w w2 := F01.thn zo (Fr.of_below B2)
 have hs2 : w2.heap.size ≤ w2.heap.size := Nat.le_refl _
 have hss := B2.size
 have hql := lt_of_block E1
 have hne : q1 ≠ q2 := by omega
 have hqp : q1 ≠ p := by omega
 replace hq1 : w.heap.size ≤ q1 := by omega
 have hq2b : q2 < w2.heap.size := by omega
 clear B2 hZ0 hx h1 F01
 go_wp2_with fail
 simp only [Act.put, List.setIfInBounds_toArray, List.set_cons_zero, List.set_cons_succ]
 go_loopw [] (fun wr => ∃ (i' : Nat) (x' : Nd) (ei : Int) (ti : Nat), EBox wr (fun b => w.heap.size ≤ b ∧ b ≠ q1 ∧ b ≠ q2 ∧ b ≠ p) q1 x' ∧ Zge wr q2 ∧ Pr wr p W i' d ei ti ∧ Fr p w.heap.size w wr ∧ i' < W.length ∧ w2.heap.size ≤ wr.heap.size ∧ Hid (ei = 0 → ti = 0 ∧ n0 < i' ∧ ∀ r, Zaa W (.binOf i' d x') r → Zaa W (.bin n0 d) r) ∧ Hid (ei ≠ 0 → ∃ j, Zaa W (.bin n0 d) (.er j ei) ∧ ti = psW W j)) (fun wr => Zi1 E wr p)
 case atStart => exact ⟨i1, x0, e1, t1, ⟨na, nc, ka, kc, E1, hx2⟩, hZ, h2, F02, hi1, hs2, hg1, hg2⟩
 clear E1 hx2 hZ h2 F02 hg1 hg2
 obtain ⟨i', x, ei, ti, ⟨na, nc, ka, kc, E1, hx2⟩, hZ, h2, F02, hi', hs2, hG, hD⟩ := hrel
 by_cases hei : ei = 0 ∧ kdW W i' = 3
 ·obtain ⟨rfl, hk⟩ := hei
  obtain ⟨rfl, hni, hGr0⟩ := hG.out rfl
  have hGr : Hid (∀ r, Zaa W (.binOf i' d x) r → Zaa W (.bin n0 d) r) := hGr0
  clear hG hGr0
  have hlt : i' < E := S.ends.lt (by rw [hk]; decide)
  have HM := HMA i' hni (by omega)
  go_wp2_with fail
  refine (Zad h2 hi' 3).mono ?_
  rintro e w3 ⟨rfl, B3⟩
  rw [show (kdW W i' == 3) = true by simp [hk]]
  replace E1 := (B3.block _ (lt_of_block E1)).trans E1
  replace hZ := hZ.keep (fun hl => B3.block _ hl)
  have hx3 : NdV (fun b => w.heap.size ≤ b ∧ b ≠ q1 ∧ b ≠ q2 ∧ b ≠ p) w3 x _ := hx2.imp (fun b hb hA => ⟨hA, B3.block b hb⟩) _ _
  replace F02 := F02.thn zo (Fr.of_below B3)
  have hat : Zi1 E wr p = _ := h2.mea
  have h3 := h2.bel B3
  have hs3 : w2.heap.size ≤ w3.heap.size := Nat.le_trans hs2 B3.size
  clear hx2 h2 B3 hD
  have hbs : ∀ b, w3.heap.size ≤ b → w.heap.size ≤ b ∧ b ≠ q1 ∧ b ≠ q2 ∧ b ≠ p := fun b h => ⟨by omega, by omega, by omega, by omega⟩
  have E1d : w3.drew.heap[q1]? = _ := E1
  have h3d : Pr w3.drew p W i' d 0 0 := h3.drewP
  go_wp2_with fail
  refine Zah fun A hA => ?_
  have hsz : A.tmps.size = 13 := by rw [hA]; rfl
  have s0 : A.tmps[0]? = some (.pointer (some ⟨p, 0, none⟩)) := by rw [hA]; rfl
  have s3 : A.tmps[3]? = some (.pointer (some ⟨q1, 0, none⟩)) := by rw [hA]; rfl
  refine zR1 (fun A D a w' => ∃ (l : List Value) (ma : Option Addr) (la : Option Addr) (oa : Option Addr) (pa : Option Addr) (mc : Nat) (lc : Nat) (oc : Nat) (pc : Nat) (z : Nd) (iz : Nat) (ez : Int) (tz : Nat), a = Zaj A 8 l ∧ l.length = 4 ∧ (∀ j, j < 4 → D j → l[j]? = some (dubV x z p na ka ma la oa pa nc kc mc lc oc pc j)) ∧ (D 4 ∨ w'.heap[q1]? = some (.cells #[.int .i64 x.kind, .string (strOfNums x.text), .int .i64 (x.pos : Int), .int .i64 (x.n : Int), .slice na x.names.length nc, .slice ka x.kids.length kc] 31)) ∧ (D 2 ∨ (Pr w' p W i' d 0 0 ∧ Below w3.heap.size w3 w')) ∧ (D 2 → Zo0 W i' d z iz ez tz ∧ z.kids.length ≤ 6000 ∧ iz < W.length) ∧ (D 4 → ∃ w6, NdV (fun b => w.heap.size ≤ b ∧ b ≠ q1 ∧ b ≠ q2 ∧ b ≠ p) w6 (Zat x z) (.agg #[.int .i64 7, .string (strOfNums z.text), .int .i64 (z.pos : Int), .int .i64 0, .slice oa (Zat x z).names.length oc, .slice pa (Zat x z).kids.length pc]) ∧ Pr w6 p W iz d ez tz ∧ Fr p w3.heap.size w3 w6 ∧ w'.heap[q1]? = some (.cells #[.int .i64 7, .string (strOfNums z.text), .int .i64 (z.pos : Int), .int .i64 0, .slice oa (Zat x z).names.length oc, .slice pa (Zat x z).kids.length pc] 31) ∧ St q1 w6 w') ∧ (D 2 → ¬ D 3 → NdV (fun b => w.heap.size ≤ b ∧ b ≠ q1 ∧ b ≠ q2 ∧ b ≠ p) w' z (.agg #[.int .i64 z.kind, .string (strOfNums z.text), .int .i64 (z.pos : Int), .int .i64 (z.n : Int), .slice ma z.names.length mc, .slice la z.kids.length lc]) ∧ Pr w' p W iz d ez tz ∧ Fr p w3.heap.size w3 w') ∧ (D 3 → ¬ D 4 → NdV (fun b => w.heap.size ≤ b ∧ b ≠ q1 ∧ b ≠ q2 ∧ b ≠ p) w' (Zat x z) (.agg #[.int .i64 7, .string (strOfNums z.text), .int .i64 (z.pos : Int), .int .i64 0, .slice oa (Zat x z).names.length oc, .slice pa (Zat x z).kids.length pc]) ∧ Pr w' p W iz d ez tz ∧ Fr p w3.heap.size w3 w')) ?start ?step ?done
  case start => exact ⟨_, none, none, none, none, 0, 0, 0, 0, zNd, 0, 0, 0, zS 8 4 hsz, zG 8 4 hsz, zK, .inr (E1d), .inr (⟨h3d, (Below.refl _ _).drew⟩), zf, zf, zF, zF⟩
  case step =>
   clear hA
   intro i o ho D a w' hI hn hcl hd
   obtain ⟨l, ma, la, oa, pa, mc, lc, oc, pc, z, iz, ez, tz, ha, Lh, hl, hE, hN, hM, hQ, hU, hS⟩ := hI
   match i, ho with
   | 0, ho =>
    cases zq ho
    have ev : a.tmps[3]? = some (.pointer (some ⟨q1, 0, none⟩)) := zu 3 ha Lh hsz s3
    have e1 := hE.resolve_left (fun h => hn (zc hcl 3 0 rfl (zc hcl 4 3 rfl h)))
    obtain ⟨z0, z1, z2, z3, z4, z5, _⟩ := Zac e1
    exact zx (.agg #[.int .i64 x.kind, .string (strOfNums x.text), .int .i64 (x.pos : Int), .int .i64 (x.n : Int), .slice na x.names.length nc, .slice ka x.kids.length kc]) (by simp [execOp, ev, go_sem, z0, z1, z2, z3, z4, z5]) ⟨_, ma, la, oa, pa, mc, lc, oc, pc, z, iz, ez, tz, zp 0 ha Lh hsz, zh Lh, zk Lh hl, zl hE, zl hN, zr hM, zr hQ, zs hU, zs hS⟩
   | 1, ho =>
    cases zq ho
    exact zm (zu 0 ha Lh hsz s0) ⟨_, ma, la, oa, pa, mc, lc, oc, pc, z, iz, ez, tz, zp 1 ha Lh hsz, zh Lh, zk Lh hl, zl hE, zl hN, zr hM, zr hQ, zs hU, zs hS⟩
   | 2, ho =>
    cases zq ho
    have ev : a.tmps[9]? = some (.pointer (some ⟨p, 0, none⟩)) := zv ha hsz Lh hl 1 hd
    have hN0 := hN.resolve_left hn
    have e1 := hE.resolve_left (fun h => hn (zc hcl 3 2 rfl (zc hcl 4 3 rfl h)))
    refine Zan (f := 104) (args := #[.pointer (some ⟨p, 0, none⟩)]) (by simp [execOp, ev, go_sem]) ?_
    refine (HM w' p hN0.1).mono ?_
    rintro e w6 ⟨z', u, iz', ez', tz', rfl, hu, hzk, h4, hiz, F4, hM4⟩
    refine ⟨_, rfl, ?_⟩
    obtain ⟨ma', mc', la', lc', _, rfl, _⟩ := NdV.parts hu
    exact ⟨_, ma', la', oa, pa, mc', lc', oc, pc, z', iz', ez', tz', zp 2 ha Lh hsz, zh Lh, Zai (val' := dubV x z' p na ka ma' la' oa pa nc kc mc' lc' oc pc) Lh (by decide) hl (fun j hj hne => match j, hj, hne with | 0, _, _ => rfl | 1, _, _ => rfl | 2, _, hne => absurd rfl hne | 3, hj, _ => absurd hj (fun h => hn (zc hcl 3 2 rfl h)) | j + 4, _, _ => rfl), .inr ((F4.block q1 (lt_of_block e1) hqp).trans e1), .inl (.inl rfl), fun _ => ⟨hM4, hzk, hiz⟩, za (fun h => hn (zc hcl 3 2 rfl (zc hcl 4 3 rfl h))), fun _ _ => ⟨hu.mono (fun b _ hb => hbs b (Nat.le_trans hN0.2.size hb)), h4, (Fr.of_below hN0.2).thn zo F4⟩, zb (fun h => hn (zc hcl 3 2 rfl h))⟩
   | 3, ho =>
    cases zq ho
    have ev : a.tmps[8]? = some (.agg #[.int .i64 x.kind, .string (strOfNums x.text), .int .i64 (x.pos : Int), .int .i64 (x.n : Int), .slice na x.names.length nc, .slice ka x.kids.length kc]) := zv ha hsz Lh hl 0 hd
    have ev' : a.tmps[10]? = some (.agg #[.int .i64 z.kind, .string (strOfNums z.text), .int .i64 (z.pos : Int), .int .i64 (z.n : Int), .slice ma z.names.length mc, .slice la z.kids.length lc]) := zv ha hsz Lh hl 2 hd
    have U3 := hU (zd hd 2) hn
    have e1 := hE.resolve_left (fun h => hn (zc hcl 4 3 rfl h))
    refine Zan (f := 121) (args := #[.agg #[.int .i64 x.kind, .string (strOfNums x.text), .int .i64 (x.pos : Int), .int .i64 (x.n : Int), .slice na x.names.length nc, .slice ka x.kids.length kc], .agg #[.int .i64 z.kind, .string (strOfNums z.text), .int .i64 (z.pos : Int), .int .i64 (z.n : Int), .slice ma z.names.length mc, .slice la z.kids.length lc]]) (by simp [execOp, ev, ev', go_sem]) ?_
    refine (Zhh (fun b h => hbs b (Nat.le_trans U3.2.2.size h)) (hx3.fr U3.2.2 (fun b hb hl => ⟨hl, hb.2.2.2⟩)) U3.1 (by have := (hM (zd hd 2)).2.1; omega)).mono ?_
    rintro e w6 ⟨u, rfl, hv, B5⟩
    refine ⟨_, rfl, ?_⟩
    obtain ⟨oa', oc', pa', pc', _, rfl, _⟩ := NdV.parts hv
    exact ⟨_, ma, la, oa', pa', mc, lc, oc', pc', z, iz, ez, tz, zp 3 ha Lh hsz, zh Lh, Zai (val' := dubV x z p na ka ma la oa' pa' nc kc mc lc oc' pc') Lh (by decide) hl (fun j hj hne => match j, hj, hne with | 0, _, _ => rfl | 1, _, _ => rfl | 2, _, _ => rfl | 3, _, hne => absurd rfl hne | j + 4, _, _ => rfl), .inr ((B5.block q1 (lt_of_block e1)).trans e1), .inl (.inr (zd hd 2)), zr hM, za (fun h => hn (zc hcl 4 3 rfl h)), zi, fun _ _ => ⟨hv, U3.2.1.bel B5, U3.2.2.thn zo (Fr.of_below B5)⟩⟩
   | 4, ho =>
    cases zq ho
    have ev : a.tmps[11]? = some (.agg #[.int .i64 7, .string (strOfNums z.text), .int .i64 (z.pos : Int), .int .i64 0, .slice oa (Zat x z).names.length oc, .slice pa (Zat x z).kids.length pc]) := zv ha hsz Lh hl 3 hd
    have S4 := hS (zd hd 3) hn
    have e1 := hE.resolve_left hn
    have e4 : a.tmps[3]? = some (.pointer (some ⟨q1, 0, none⟩)) := zu 3 ha Lh hsz s3
    refine wp_store_row (P := Tryz.prog) 31 (.tmp 3) (.tmp 11) rfl q1 #[.int .i64 7, .string (strOfNums z.text), .int .i64 (z.pos : Int), .int .i64 0, .slice oa (Zat x z).names.length oc, .slice pa (Zat x z).kids.length pc] (by simpa [Act.eval] using Zav e4) (by simpa [Act.eval] using Zav ev) 31 _ e1 (by kernel_rfl) rfl (by simp [Value.oneCell']) ?_
    exact ⟨l, ma, la, oa, pa, mc, lc, oc, pc, z, iz, ez, tz, ha, Lh, zJ hl, .inl (.inl rfl), .inl (.inr (zc hcl 3 2 rfl (zd hd 3))), zr hM, fun _ => ⟨w', S4.1, S4.2.1, S4.2.2, setRow_heap w' q1 _ _ _ _ e1, St.row w' q1 _⟩, zj (zd hd 3), zi⟩
   | i + 5, ho => simp at ho
  rintro D a w' ⟨l, ma, la, oa, pa, mc, lc, oc, pc, z, iz, ez, tz, ha, Lh, hl, hE, hN, hM, hQ, hU, hS⟩ hall
  obtain ⟨v0, v1, v2, v3, rfl⟩ := zL4 Lh
  obtain ⟨w6, Nq, Rq, Fq, Eq, Sq⟩ := hQ (hall 4 (by decide))
  obtain ⟨hM4, hzk, hiz⟩ := hM (hall 2 (by decide))
  subst hA
  have hfr : a = _ := ha
  rw [hfr]
  clear hfr ha
  simp only [Zaj, yA, yB, yC, yD, yE, yF, yG, yH]
  clear hl hE hN hU hS hQ hM hall
  have hw6 : w3.heap.size ≤ w6.heap.size := Fq.size
  have l6 : q1 < w6.heap.size := by omega
  have hZ6 : Zge w' q2 := hZ.keep (fun hl => (Sq.block q2 (fun e => hne e.symm)).trans (Fq.block q2 hl hqp2))
  have hN6 : NdV (fun b => w.heap.size ≤ b ∧ b ≠ q1 ∧ b ≠ q2 ∧ b ≠ p) w' (Zat x z) _ := Nq.imp (fun b _ hA => ⟨hA, Sq.block b hA.2.1⟩) _ _
  have h6 := Rq.same (fun b hb => Sq.block b (by have := h3.lt; omega)) (Sq.block p (fun e => hqp e.symm))
  have F6 : Fr p w.heap.size w w' := (F02.thn zo Fq).trans (Fr.of_below (Sq.below (B := w.heap.size) hq1)) zo
  have hs6 : w2.heap.size ≤ w'.heap.size := by rw [Sq.size]; omega
  clear Sq Nq Rq Fq hw6 l6
  go_wp2
  go_roundw
  case rel =>
   refine ⟨iz, Zat x z, ez, tz, ⟨oa, oc, pa, pc, Eq, hN6⟩, hZ6, h6, F6, hiz, hs6, ?_, ?_⟩
   ·intro he
    rcases hM4 with ⟨h1, h2, h3'⟩ | ⟨h1, _⟩
    ·rcases Zg7 h3' hk with ⟨a', j, e, ha'⟩ | ⟨j, c, e, _⟩
     ·simp only [Rs.ok.injEq] at e
      obtain ⟨rfl, rfl⟩ := e
      have hadv := ha'.adv S.ends
      simp only [Adv, Qy.place, Qy.takes, Qy.asks] at hadv
      exact ⟨h2, by have := hadv (by omega); omega, fun r hr => hGr.out r (Zj2 ha' hr hk)⟩
     cases e
    exact absurd he h1
   intro he
   rcases hM4 with ⟨h1, _⟩ | ⟨h1, j, h3', rfl⟩
   ·exact absurd h1 he
   rcases Zg7 h3' hk with ⟨a', j', e, _⟩ | ⟨j', c, e, ha'⟩
   ·cases e
   simp only [Rs.er.injEq] at e
   obtain ⟨rfl, rfl⟩ := e
   exact ⟨_, hGr.out _ (Zj3 ha' hk), rfl⟩
  rw [h6.mea, hat]
  rcases hM4 with ⟨h1, h2, h3'⟩ | ⟨h1, _⟩
  ·rcases Zg7 h3' hk with ⟨a', j, e, ha'⟩ | ⟨j, c, e, _⟩
   ·simp only [Rs.ok.injEq] at e
    obtain ⟨rfl, rfl⟩ := e
    have hadv := ha'.adv S.ends
    simp only [Adv, Qy.place, Qy.takes, Qy.asks] at hadv
    have := hadv (by omega)
    subst h1
    simp
    omega
   cases e
  simp [h1]
  omega
 have hex : ∃ b : Bool, b = false ∧ ∀ (u : World), Below wr.heap.size wr u → True := ⟨false, rfl, fun _ _ => trivial⟩
 clear hex
 have hfin : Hid (∃ r, Zaa W (.bin n0 d) r ∧ ((∃ j, r = .ok x i' ∧ ei = 0 ∧ ti = 0 ∧ j = i') ∨ ∃ j, r = .er j ei ∧ ei ≠ 0 ∧ ti = psW W j)) := by
  by_cases he : ei = 0
  ·obtain ⟨ht, _, hr⟩ := hG.out he
   exact ⟨_, hr _ (Zh8 (fun hk => hei ⟨he, hk⟩)), .inl ⟨_, rfl, he, ht, rfl⟩⟩
  obtain ⟨j, hj, ht⟩ := hD.out he
  exact ⟨_, hj, .inr ⟨j, rfl, he, ht⟩⟩
 have hcall : Calls Tryz.prog 45 #[.pointer (some ⟨p, 0, none⟩), .int .i64 3] wr fun e w' => e = .returned (.bool false) ∧ Below wr.heap.size wr w' := by
  by_cases he : ei = 0
  ·subst he
   have := Zad h2 hi' 3
   rwa [show (kdW W i' == 3) = false by simp only [beq_eq_false_iff_ne, ne_eq]; exact fun hk => hei ⟨rfl, hk⟩] at this
  exact Zax h2 hi' he 3
 go_wp2_with fail
 refine hcall.mono ?_
 rintro e w3 ⟨rfl, B3⟩
 replace E1 := (B3.block _ (lt_of_block E1)).trans E1
 replace hZ := hZ.keep (fun hl => B3.block _ hl)
 have hx3 : NdV (fun b => w.heap.size ≤ b ∧ b ≠ q1 ∧ b ≠ q2 ∧ b ≠ p) w3 x _ := hx2.imp (fun b hb hA => ⟨hA, B3.block b hb⟩) _ _
 replace F02 := F02.thn zo (Fr.of_below B3)
 have h3 := h2.bel B3
 clear hx2 h2 B3 hcall
 obtain ⟨z0, z1, z2, z3, z4, z5, _⟩ := Zac E1
 obtain ⟨u0, u1, u2, u3, u4, u5, E2⟩ := hZ
 have hq2l := lt_of_block E2
 go_wp2_with (refine Za8 rfl rfl rfl rfl rfl E2 ?_)
 intro w4 E4 S4
 go_wp2
 obtain ⟨r, hr, hrr⟩ := hfin.out
 have hxo := hx3.imp (A' := fun b => w.heap.size ≤ b) (w' := w4) (fun b hb hA => ⟨hA.1, S4.block b hA.2.2.1⟩) _ _
 have h4 := h3.st S4 (by omega)
 refine zT 2 (by rfl) (by rfl) (Zau E4) (by rfl) ⟨r, hr, ?_, F02.trans (Fr.of_below (S4.below (B := w.heap.size) hq2)) zo⟩
 rcases hrr with ⟨j, rfl, rfl, rfl, rfl⟩ | ⟨j, rfl, he, rfl⟩
 ·exact ⟨_, rfl, hxo, h4⟩
 exact ⟨_, _, _, rfl, hxo, h4, hi', he⟩
end
end Go.Proofs.YtncfmhlikmibaaaGreatDoor
