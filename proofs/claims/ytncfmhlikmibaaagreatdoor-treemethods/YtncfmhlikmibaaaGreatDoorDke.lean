/- The document's parser: keyed; what gave up goes on so. -/
import Derived.Test.YtncfmhlikmibaaaGreatDoorDub
namespace Go.Proofs.YtncfmhlikmibaaaGreatDoor
open Go.RowKit
set_option maxRecDepth 100000
set_option maxHeartbeats 16000000
section
def KeyR (W : List Tk) (i d : Nat) (y : Nd) (k : Nat) (ek : Int) (tk : Nat) : Prop :=
 (ek = 0 ∧ tk = 0 ∧ ∃ x j, Zaa W (.prim i d) (.ok x j) ∧ Zaa W (.keyOf j d x) (.ok y k)) ∨ (ek ≠ 0 ∧ ∃ m, tk = psW W m ∧ (Zaa W (.prim i d) (.er m ek) ∨ ∃ x j, Zaa W (.prim i d) (.ok x j) ∧ Zaa W (.keyOf j d x) (.er m ek)))
def ConKy (W : List Tk) (i d : Nat) : Prop :=
 ∀ w p, Pr w p W i d 0 0 → Calls Tryz.prog 102 #[.pointer (some ⟨p, 0, none⟩)] w fun e w' => ∃ y v k ek tk, e = .returned v ∧ NdV (fun b => w.heap.size ≤ b) w' y v ∧ Pr w' p W k d ek tk ∧ k < W.length ∧ Fr p w.heap.size w w' ∧ KeyR W i d y k ek tk
variable {W : List Tk} {d i : Nat} {r : Rs}
theorem Zpa (f : Nat) : ∀ {i d : Nat} {x : Nd} {r : Rs}, Zdt W f (.unaOf i d x) = some r → ∃ y j, r = .ok y j := by
 induction f with
 | zero => intro i d x r e; cases e
 | succ f ih =>
  intro i d x r e
  have e : Zam W (Zdt W f) (.unaOf i d x) = some r := e
  simp only [Zam] at e
  split at e
  ·exact ih e
  exact ⟨_, _, (Option.some.inj e).symm⟩
theorem Zo9 (h : Zaa W (.una i d) r) : (∃ m c, r = .er m c ∧ Zaa W (.prim i d) (.er m c)) ∨ ∃ x j y k, r = .ok y k ∧ Zaa W (.prim i d) (.ok x j) ∧ Zaa W (.unaOf j d x) (.ok y k) := by
 obtain ⟨f, hf⟩ := h.back
 simp only [Zam] at hf
 obtain ⟨x, hx, e⟩ := Zgd hf
 rcases rsE e with ⟨j, c, rfl, rfl⟩ | ⟨y, j, rfl, e⟩
 ·exact .inl ⟨j, c, rfl, ⟨f, hx⟩⟩
 obtain ⟨z, k, rfl⟩ := Zpa f e
 exact .inr ⟨y, j, z, k, rfl, ⟨f, hx⟩, ⟨f, e⟩⟩
theorem bin_inv (h : Zaa W (.bin i d) r) : (∃ m c, r = .er m c ∧ Zaa W (.una i d) (.er m c)) ∨ ∃ x j, Zaa W (.una i d) (.ok x j) ∧ Zaa W (.binOf j d x) r := by
 obtain ⟨f, hf⟩ := h.back
 simp only [Zam] at hf
 obtain ⟨x, hx, e⟩ := Zgd hf
 rcases rsE e with ⟨j, c, rfl, rfl⟩ | ⟨y, j, rfl, e⟩
 ·exact .inl ⟨j, c, rfl, ⟨f, hx⟩⟩
 exact .inr ⟨y, j, ⟨f, hx⟩, ⟨f, e⟩⟩
theorem Zqe (h : Zaa W (.msg i d) r) (hk : kdW W i = 2) : Zaa W (.keys i d (Zda [] (psW W i) [])) r := by
 obtain ⟨f, hf⟩ := h.back
 simp only [Zam] at hf
 rw [if_neg (by rw [hk]; decide), if_neg (by rw [hk]; decide), if_pos hk] at hf
 exact ⟨f, hf⟩
theorem Zlv (h : Zaa W (.bin i d) r) : (∃ m c, r = .er m c ∧ Zaa W (.prim i d) (.er m c)) ∨ ∃ x j y k, Zaa W (.prim i d) (.ok x j) ∧ Zaa W (.unaOf j d x) (.ok y k) ∧ Zaa W (.binOf k d y) r := by
 rcases bin_inv h with ⟨m, c, rfl, h1⟩ | ⟨x, j, h1, h2⟩
 ·rcases Zo9 h1 with ⟨m', c', e, h2⟩ | ⟨_, _, _, _, e, _⟩
  ·cases e
   exact .inl ⟨_, _, rfl, h2⟩
  cases e
 rcases Zo9 h1 with ⟨_, _, e, _⟩ | ⟨x', j', y, k, e, h3, h4⟩
 ·cases e
 cases e
 exact .inr ⟨x', j', _, _, h3, h4, h2⟩
theorem Zoj {E : Nat} (S : Src W E) {n0 : Nat} (hi : n0 ≤ E) (H1 : Zdk 120 W (.bin n0 d) n0 d) (HMA : ∀ j, n0 < j → j ≤ E → ConM W j d) : ConKy W n0 d := by
 intro w p h
 have hpw := h.lt
 go_enter Tryz.func102, Tryz.ntmps102
 go_wp2_with (refine Zdn _ rfl rfl ?_)
 intro q2 w0 E2 hq2 C1
 have l2 := lt_of_block E2
 have h0 := h.bel C1
 have hZ0 : Zge w0 q2 := ⟨_, _, _, _, _, _, E2⟩
 have hqp2 : q2 ≠ p := by omega
 have hs0 := C1.size
 clear E2 h
 go_wp2_with fail
 refine (H1 w0 p h0).mono ?_
 rintro e w1 ⟨r0, hr0, ha0, F1⟩
 replace hZ0 := hZ0.keep (fun hl => F1.block _ hl hqp2)
 have F01 := (Fr.of_below C1).thn zo F1
 have hs1 := F1.size
 clear C1 F1 h0
 obtain ⟨v0, x, i', e1, t1, hans⟩ : ∃ v0 x0 i1 e1 t1, e = .returned v0 ∧ NdV (fun b => w0.heap.size ≤ b) w1 x0 v0 ∧ Pr w1 p W i1 d e1 t1 ∧ i1 < W.length ∧ Hid (e1 = 0 → t1 = 0 ∧ n0 < i1 ∧ ∃ xx jj yy kk, Zaa W (.prim n0 d) (.ok xx jj) ∧ Zaa W (.unaOf jj d xx) (.ok yy kk) ∧ Zaa W (.binOf kk d yy) (.ok x0 i1)) ∧ Hid (e1 ≠ 0 → ∃ m, t1 = psW W m ∧ (Zaa W (.prim n0 d) (.er m e1) ∨ ∃ x j, Zaa W (.prim n0 d) (.ok x j) ∧ Zaa W (.keyOf j d x) (.er m e1))) := by
  cases r0 with
  | ok x j =>
   obtain ⟨v, he, hv, h1⟩ := ha0
   have hadv := hr0.adv S.ends
   simp only [Adv, Qy.place, Qy.takes, Qy.asks] at hadv
   have hj := hadv (by omega)
   rcases Zlv hr0 with ⟨_, _, e, _⟩ | ⟨xx, jj, yy, kk, r1, r2, r3⟩
   ·cases e
   exact ⟨v, x, j, 0, 0, he, hv, h1, S.lt hj.2, fun _ => ⟨rfl, by omega, xx, jj, yy, kk, r1, r2, r3⟩, fun h => absurd rfl h⟩
  | er j c =>
   obtain ⟨v, x, i', he, hv, h1, hi', hc⟩ := ha0
   refine ⟨v, x, i', c, _, he, hv, h1, hi', fun h => absurd h hc, fun _ => ⟨j, rfl, ?_⟩⟩
   rcases Zlv hr0 with ⟨m, c', e, r1⟩ | ⟨xx, jj, yy, kk, r1, r2, r3⟩
   ·cases e
    exact .inl r1
   exact .inr ⟨xx, jj, r1, Zh1 r2 r3⟩
 clear ha0 hr0
 obtain ⟨rfl, hx, h1, hi1, hg1, hg2⟩ := hans
 obtain ⟨na, nc, ka, kc, _, rfl, _⟩ := NdV.parts hx
 go_wp2_with (refine Zb5 rfl rfl rfl 3 rfl rfl rfl (fun _ => rfl) (fun _ => rfl) ?_)
 intro q1 w2 E1 hq1 B2
 have hx2 : NdV (fun b => w.heap.size ≤ b ∧ b ≠ q1 ∧ b ≠ q2 ∧ b ≠ p) w2 x _ := hx.imp (fun b hb hA => ⟨⟨by omega, by omega, by omega, by omega⟩, B2.block b hb⟩) _ _
 have h2 := h1.bel B2
 have hZ : Zge w2 q2 := hZ0.keep (fun hl => B2.block _ hl)
 have F02 : Fr p w.heap.size w w2 := F01.thn zo (Fr.of_below B2)
 have hss := B2.size
 have hql := lt_of_block E1
 have hne : q1 ≠ q2 := by omega
 have hqp : q1 ≠ p := by omega
 replace hq1 : w.heap.size ≤ q1 := by omega
 have hq2b : q2 < w2.heap.size := by omega
 clear B2 hZ0 hx h1 F01
 by_cases hei : e1 = 0 ∧ kdW W i' = 2
 ·obtain ⟨rfl, hk⟩ := hei
  obtain ⟨rfl, hni, hB0⟩ := hg1.out rfl
  have hB : Hid (∃ xx jj yy kk, Zaa W (.prim n0 d) (.ok xx jj) ∧ Zaa W (.unaOf jj d xx) (.ok yy kk) ∧ Zaa W (.binOf kk d yy) (.ok x i')) := hB0
  have hlt : i' < E := S.ends.lt (by rw [hk]; decide)
  have HM := HMA i' hni (by omega)
  clear hg1 hg2 hB0
  go_wp2_with fail
  refine (Zad h2 hi1 2).mono ?_
  rintro e w3 ⟨rfl, B3⟩
  rw [show (kdW W i' == 2) = true by simp [hk]]
  replace E1 := (B3.block _ (lt_of_block E1)).trans E1
  replace hZ := hZ.keep (fun hl => B3.block _ hl)
  have hx3 : NdV (fun b => w.heap.size ≤ b ∧ b ≠ q1 ∧ b ≠ q2 ∧ b ≠ p) w3 x _ := hx2.imp (fun b hb hA => ⟨hA, B3.block b hb⟩) _ _
  replace F02 := F02.thn zo (Fr.of_below B3)
  have h3 := h2.bel B3
  have hs3 : w2.heap.size ≤ w3.heap.size := B3.size
  clear hx2 h2 B3
  have hbs : ∀ b, w3.heap.size ≤ b → w.heap.size ≤ b ∧ b ≠ q1 ∧ b ≠ q2 ∧ b ≠ p := fun b h => ⟨by omega, by omega, by omega, by omega⟩
  have E1d : w3.drew.heap[q1]? = _ := E1
  have h3d : Pr w3.drew p W i' d 0 0 := h3.drewP
  go_wp2_with fail
  refine Zah fun A hA => ?_
  have hsz : A.tmps.size = 13 := by rw [hA]; rfl
  have s0 : A.tmps[0]? = some (.pointer (some ⟨p, 0, none⟩)) := by rw [hA]; rfl
  have s3 : A.tmps[3]? = some (.pointer (some ⟨q1, 0, none⟩)) := by rw [hA]; rfl
  refine zR1 (fun A D a w' => ∃ (l : List Value) (ma : Option Addr) (la : Option Addr) (oa : Option Addr) (pa : Option Addr) (mc : Nat) (lc : Nat) (oc : Nat) (pc : Nat) (z : Nd) (iz : Nat) (ez : Int) (tz : Nat), a = Zaj A 8 l ∧ l.length = 4 ∧ (∀ j, j < 4 → D j → l[j]? = some (dubV x z p na ka ma la oa pa nc kc mc lc oc pc j)) ∧ (D 4 ∨ w'.heap[q1]? = some (.cells #[.int .i64 x.kind, .string (strOfNums x.text), .int .i64 (x.pos : Int), .int .i64 (x.n : Int), .slice na x.names.length nc, .slice ka x.kids.length kc] 31)) ∧ (D 2 ∨ (Pr w' p W i' d 0 0 ∧ Below w3.heap.size w3 w')) ∧ (D 2 → Zo0 W i' d z iz ez tz ∧ z.kids.length ≤ 6000 ∧ iz < W.length) ∧ (D 4 → ∃ w6, NdV (fun b => w.heap.size ≤ b ∧ b ≠ q1 ∧ b ≠ q2 ∧ b ≠ p) w6 (Zat x z) (.agg #[.int .i64 7, .string (strOfNums z.text), .int .i64 (z.pos : Int), .int .i64 0, .slice oa (Zat x z).names.length oc, .slice pa (Zat x z).kids.length pc]) ∧ Pr w6 p W iz d ez tz ∧ Fr p w3.heap.size w3 w6 ∧ w'.heap[q1]? = some (.cells #[.int .i64 7, .string (strOfNums z.text), .int .i64 (z.pos : Int), .int .i64 0, .slice oa (Zat x z).names.length oc, .slice pa (Zat x z).kids.length pc] 31) ∧ St q1 w6 w') ∧ (D 2 → ¬ D 3 → NdV (fun b => w.heap.size ≤ b ∧ b ≠ q1 ∧ b ≠ q2 ∧ b ≠ p) w' z (.agg #[.int .i64 z.kind, .string (strOfNums z.text), .int .i64 (z.pos : Int), .int .i64 (z.n : Int), .slice ma z.names.length mc, .slice la z.kids.length lc]) ∧ Pr w' p W iz d ez tz ∧ Fr p w3.heap.size w3 w') ∧ (D 3 → ¬ D 4 → NdV (fun b => w.heap.size ≤ b ∧ b ≠ q1 ∧ b ≠ q2 ∧ b ≠ p) w' (Zat x z) (.agg #[.int .i64 7, .string (strOfNums z.text), .int .i64 (z.pos : Int), .int .i64 0, .slice oa (Zat x z).names.length oc, .slice pa (Zat x z).kids.length pc]) ∧ Pr w' p W iz d ez tz ∧ Fr p w3.heap.size w3 w')) ?start ?step ?done
  case start => exact ⟨_, none, none, none, none, 0, 0, 0, 0, zNd, 0, 0, 0, zS 8 4 hsz, zG 8 4 hsz, zK, .inr (E1d), .inr (⟨h3d, (Below.refl _ _).drew⟩), zf, zf, zF, zF⟩
  case step =>
   clear hA
   intro i o ho D a w' hI hn hcl hd
   obtain ⟨l, ma, la, oa, pa, mc, lc, oc, pc, z, iz, ez, tz, ha, Lh, hl, hE, hN, hM, hQ, hU, hS⟩ := hI
   match i, ho with
   | 0, ho =>
    cases zq ho
    have ev : a.tmps[3]? = some (.pointer (some ⟨q1, 0, none⟩)) := zu 3 ha Lh hsz s3
    have e1 := hE.resolve_left (fun h => hn (zc hcl 3 0 rfl (zc hcl 4 3 rfl h)))
    obtain ⟨z0, z1, z2, z3, z4, z5, _⟩ := Zac e1
    exact zx (.agg #[.int .i64 x.kind, .string (strOfNums x.text), .int .i64 (x.pos : Int), .int .i64 (x.n : Int), .slice na x.names.length nc, .slice ka x.kids.length kc]) (by simp [execOp, ev, go_sem, z0, z1, z2, z3, z4, z5]) ⟨_, ma, la, oa, pa, mc, lc, oc, pc, z, iz, ez, tz, zp 0 ha Lh hsz, zh Lh, zk Lh hl, zl hE, zl hN, zr hM, zr hQ, zs hU, zs hS⟩
   | 1, ho =>
    cases zq ho
    exact zm (zu 0 ha Lh hsz s0) ⟨_, ma, la, oa, pa, mc, lc, oc, pc, z, iz, ez, tz, zp 1 ha Lh hsz, zh Lh, zk Lh hl, zl hE, zl hN, zr hM, zr hQ, zs hU, zs hS⟩
   | 2, ho =>
    cases zq ho
    have ev : a.tmps[9]? = some (.pointer (some ⟨p, 0, none⟩)) := zv ha hsz Lh hl 1 hd
    have hN0 := hN.resolve_left hn
    have e1 := hE.resolve_left (fun h => hn (zc hcl 3 2 rfl (zc hcl 4 3 rfl h)))
    refine Zan (f := 104) (args := #[.pointer (some ⟨p, 0, none⟩)]) (by simp [execOp, ev, go_sem]) ?_
    refine (HM w' p hN0.1).mono ?_
    rintro e w6 ⟨z', u, iz', ez', tz', rfl, hu, hzk, h4, hiz, F4, hM4⟩
    refine ⟨_, rfl, ?_⟩
    obtain ⟨ma', mc', la', lc', _, rfl, _⟩ := NdV.parts hu
    exact ⟨_, ma', la', oa, pa, mc', lc', oc, pc, z', iz', ez', tz', zp 2 ha Lh hsz, zh Lh, Zai (val' := dubV x z' p na ka ma' la' oa pa nc kc mc' lc' oc pc) Lh (by decide) hl (fun j hj hne => match j, hj, hne with | 0, _, _ => rfl | 1, _, _ => rfl | 2, _, hne => absurd rfl hne | 3, hj, _ => absurd hj (fun h => hn (zc hcl 3 2 rfl h)) | j + 4, _, _ => rfl), .inr ((F4.block q1 (lt_of_block e1) hqp).trans e1), .inl (.inl rfl), fun _ => ⟨hM4, hzk, hiz⟩, za (fun h => hn (zc hcl 3 2 rfl (zc hcl 4 3 rfl h))), fun _ _ => ⟨hu.mono (fun b _ hb => hbs b (Nat.le_trans hN0.2.size hb)), h4, (Fr.of_below hN0.2).thn zo F4⟩, zb (fun h => hn (zc hcl 3 2 rfl h))⟩
   | 3, ho =>
    cases zq ho
    have ev : a.tmps[8]? = some (.agg #[.int .i64 x.kind, .string (strOfNums x.text), .int .i64 (x.pos : Int), .int .i64 (x.n : Int), .slice na x.names.length nc, .slice ka x.kids.length kc]) := zv ha hsz Lh hl 0 hd
    have ev' : a.tmps[10]? = some (.agg #[.int .i64 z.kind, .string (strOfNums z.text), .int .i64 (z.pos : Int), .int .i64 (z.n : Int), .slice ma z.names.length mc, .slice la z.kids.length lc]) := zv ha hsz Lh hl 2 hd
    have U3 := hU (zd hd 2) hn
    have e1 := hE.resolve_left (fun h => hn (zc hcl 4 3 rfl h))
    refine Zan (f := 121) (args := #[.agg #[.int .i64 x.kind, .string (strOfNums x.text), .int .i64 (x.pos : Int), .int .i64 (x.n : Int), .slice na x.names.length nc, .slice ka x.kids.length kc], .agg #[.int .i64 z.kind, .string (strOfNums z.text), .int .i64 (z.pos : Int), .int .i64 (z.n : Int), .slice ma z.names.length mc, .slice la z.kids.length lc]]) (by simp [execOp, ev, ev', go_sem]) ?_
    refine (Zhh (fun b h => hbs b (Nat.le_trans U3.2.2.size h)) (hx3.fr U3.2.2 (fun b hb hl => ⟨hl, hb.2.2.2⟩)) U3.1 (by have := (hM (zd hd 2)).2.1; omega)).mono ?_
    rintro e w6 ⟨u, rfl, hv, B5⟩
    refine ⟨_, rfl, ?_⟩
    obtain ⟨oa', oc', pa', pc', _, rfl, _⟩ := NdV.parts hv
    exact ⟨_, ma, la, oa', pa', mc, lc, oc', pc', z, iz, ez, tz, zp 3 ha Lh hsz, zh Lh, Zai (val' := dubV x z p na ka ma la oa' pa' nc kc mc lc oc' pc') Lh (by decide) hl (fun j hj hne => match j, hj, hne with | 0, _, _ => rfl | 1, _, _ => rfl | 2, _, _ => rfl | 3, _, hne => absurd rfl hne | j + 4, _, _ => rfl), .inr ((B5.block q1 (lt_of_block e1)).trans e1), .inl (.inr (zd hd 2)), zr hM, za (fun h => hn (zc hcl 4 3 rfl h)), zi, fun _ _ => ⟨hv, U3.2.1.bel B5, U3.2.2.thn zo (Fr.of_below B5)⟩⟩
   | 4, ho =>
    cases zq ho
    have ev : a.tmps[11]? = some (.agg #[.int .i64 7, .string (strOfNums z.text), .int .i64 (z.pos : Int), .int .i64 0, .slice oa (Zat x z).names.length oc, .slice pa (Zat x z).kids.length pc]) := zv ha hsz Lh hl 3 hd
    have S4 := hS (zd hd 3) hn
    have e1 := hE.resolve_left hn
    have e4 : a.tmps[3]? = some (.pointer (some ⟨q1, 0, none⟩)) := zu 3 ha Lh hsz s3
    refine wp_store_row (P := Tryz.prog) 31 (.tmp 3) (.tmp 11) rfl q1 #[.int .i64 7, .string (strOfNums z.text), .int .i64 (z.pos : Int), .int .i64 0, .slice oa (Zat x z).names.length oc, .slice pa (Zat x z).kids.length pc] (by simpa [Act.eval] using Zav e4) (by simpa [Act.eval] using Zav ev) 31 _ e1 (by kernel_rfl) rfl (by simp [Value.oneCell']) ?_
    exact ⟨l, ma, la, oa, pa, mc, lc, oc, pc, z, iz, ez, tz, ha, Lh, zJ hl, .inl (.inl rfl), .inl (.inr (zc hcl 3 2 rfl (zd hd 3))), zr hM, fun _ => ⟨w', S4.1, S4.2.1, S4.2.2, setRow_heap w' q1 _ _ _ _ e1, St.row w' q1 _⟩, zj (zd hd 3), zi⟩
   | i + 5, ho => simp at ho
  rintro D a w' ⟨l, ma, la, oa, pa, mc, lc, oc, pc, z, iz, ez, tz, ha, Lh, hl, hE, hN, hM, hQ, hU, hS⟩ hall
  obtain ⟨v0, v1, v2, v3, rfl⟩ := zL4 Lh
  obtain ⟨w6, Nq, Rq, Fq, Eq, Sq⟩ := hQ (hall 4 (by decide))
  obtain ⟨hM4, hzk, hiz⟩ := hM (hall 2 (by decide))
  subst hA
  have hfr : a = _ := ha
  rw [hfr]
  clear hfr ha
  simp only [Zaj, yA, yB, yC, yD, yE, yF, yG, yH]
  clear hl hE hN hU hS hQ hM hall
  have hw6 : w3.heap.size ≤ w6.heap.size := Fq.size
  have hZ6 : Zge w' q2 := hZ.keep (fun hl => (Sq.block q2 (fun e => hne e.symm)).trans (Fq.block q2 hl hqp2))
  have hN6 : NdV (fun b => w.heap.size ≤ b ∧ b ≠ q1 ∧ b ≠ q2 ∧ b ≠ p) w' (Zat x z) _ := Nq.imp (fun b _ hA => ⟨hA, Sq.block b hA.2.1⟩) _ _
  have h6 := Rq.same (fun b hb => Sq.block b (by have := h3.lt; omega)) (Sq.block p (fun e => hqp e.symm))
  have F6 : Fr p w.heap.size w w' := (F02.thn zo Fq).trans (Fr.of_below (Sq.below (B := w.heap.size) hq1)) zo
  clear Sq Nq Rq Fq hw6
  obtain ⟨z0, z1, z2, z3, z4, z5, _⟩ := Zac Eq
  obtain ⟨u0, u1, u2, u3, u4, u5, E2⟩ := hZ6
  go_wp2_with (refine Za8 rfl rfl rfl rfl rfl E2 ?_)
  intro w8 E8 S8
  go_wp2
  have hxo := hN6.imp (A' := fun b => w.heap.size ≤ b) (w' := w8) (fun b hb hA => ⟨hA.1, S8.block b hA.2.2.1⟩) _ _
  refine zT 2 (by rfl) (by rfl) (Zau E8) (by rfl) ⟨Zat x z, _, iz, ez, tz, rfl, hxo, h6.st S8 (by omega), hiz, F6.trans (Fr.of_below (S8.below (B := w.heap.size) hq2)) zo, ?_⟩
  obtain ⟨xx, jj, yy, kk, r1, r2, r3⟩ := hB.out
  rcases hM4 with ⟨g1, g2, g3⟩ | ⟨g1, m, g3, g4⟩
  ·exact .inl ⟨g1, g2, xx, jj, r1, Zjp r2 r3 (Zqe g3 hk) hk⟩
  exact .inr ⟨g1, m, g4, .inr ⟨xx, jj, r1, Zh0 r2 r3 (Zqe g3 hk) hk⟩⟩
 have hfin : Hid (KeyR W n0 d x i' e1 t1) := by
  by_cases he : e1 = 0
  ·obtain ⟨ht, _, xx, jj, yy, kk, r1, r2, r3⟩ := hg1.out he
   exact .inl ⟨he, ht, xx, jj, r1, Zjo r2 r3 (fun hk => hei ⟨he, hk⟩)⟩
  exact .inr ⟨he, hg2.out he⟩
 have hcall : Calls Tryz.prog 45 #[.pointer (some ⟨p, 0, none⟩), .int .i64 2] w2 fun e w' => e = .returned (.bool false) ∧ Below w2.heap.size w2 w' := by
  by_cases he : e1 = 0
  ·subst he
   have := Zad h2 hi1 2
   rwa [show (kdW W i' == 2) = false by simp only [beq_eq_false_iff_ne, ne_eq]; exact fun hk => hei ⟨rfl, hk⟩] at this
  exact Zax h2 hi1 he 2
 go_wp2_with fail
 refine hcall.mono ?_
 rintro e w3 ⟨rfl, B3⟩
 replace E1 := (B3.block _ (lt_of_block E1)).trans E1
 replace hZ := hZ.keep (fun hl => B3.block _ hl)
 have hx3 : NdV (fun b => w.heap.size ≤ b ∧ b ≠ q1 ∧ b ≠ q2 ∧ b ≠ p) w3 x _ := hx2.imp (fun b hb hA => ⟨hA, B3.block b hb⟩) _ _
 replace F02 := F02.thn zo (Fr.of_below B3)
 have h3 := h2.bel B3
 clear hx2 h2 B3 hcall
 obtain ⟨z0, z1, z2, z3, z4, z5, _⟩ := Zac E1
 obtain ⟨u0, u1, u2, u3, u4, u5, E2⟩ := hZ
 have hq2l := lt_of_block E2
 go_wp2_with (refine Za8 rfl rfl rfl rfl rfl E2 ?_)
 intro w4 E4 S4
 go_wp2
 have hxo := hx3.imp (A' := fun b => w.heap.size ≤ b) (w' := w4) (fun b hb hA => ⟨hA.1, S4.block b hA.2.2.1⟩) _ _
 exact zT 2 (by rfl) (by rfl) (Zau E4) (by rfl) ⟨x, _, i', e1, t1, rfl, hxo, h3.st S4 (by omega), hi1, F02.trans (Fr.of_below (S4.below (B := w.heap.size) hq2)) zo, hfin.out⟩
theorem Zml (HD : Zdj 137 W) : Zdj 123 W := by
 intro w p n0 d c t h hi hc
 have hpw := h.lt
 go_enter Tryz.func123, Tryz.ntmps123
 go_wp2_with (refine Zdn _ rfl rfl ?_)
 intro q2 w0 E2 hq2 C1
 have l2 := lt_of_block E2
 replace h := h.bel C1
 go_wp2_with fail
 refine (HD w0 p n0 d c t h hi hc).mono ?_
 rintro e w1 ⟨v, rfl, hv, B1⟩
 replace h := h.bel B1
 replace E2 := (B1.block _ (lt_of_block E2)).trans E2
 have C := Zab C1 zo B1
 have hs0 := C1.size
 have hs1 := B1.size
 have hl2 := lt_of_block E2
 clear C1 B1
 obtain ⟨na, nc, ka, kc, _, rfl, _⟩ := NdV.parts hv
 go_wp2_with (refine Zb5 rfl rfl rfl 3 rfl rfl rfl (fun _ => rfl) (fun _ => rfl) ?_)
 intro q1 w2 E1 hq1 B2
 replace h := h.bel B2
 replace E2 := (B2.block _ hl2).trans E2
 replace hv := hv.bel B2
 replace C := Zab C zo B2
 have hs2 := B2.size
 clear B2
 go_wp2_with fail
 simp only [Act.put, List.setIfInBounds_toArray, List.set_cons_zero, List.set_cons_succ]
 go_loopw [] (fun wr => wr = w2) (fun wr => 0)
 case atStart => rfl
 obtain rfl := hrel
 go_wp2_with fail
 refine (Zax h hi hc 1).mono ?_
 rintro e w3 ⟨rfl, B3⟩
 replace E1 := (B3.block _ (lt_of_block E1)).trans E1
 replace E2 := (B3.block _ (lt_of_block E2)).trans E2
 replace hv := hv.bel B3
 replace C := Zab C zo B3
 obtain ⟨z0, z1, z2, z3, z4, z5, _⟩ := Zac E1
 have hq2l := lt_of_block E2
 go_wp2_with (refine Za8 rfl rfl rfl rfl rfl E2 ?_)
 intro w4 E4 S4
 go_wp2
 exact zT 2 (by rfl) (by rfl) (Zau E4) (by rfl) ⟨_, rfl, NdV.out hv S4 (by omega) (by omega), C.trans (S4.below hq2)⟩
theorem Zlr (HD : Zdj 123 W) : Zdj 120 W := by
 intro w p n0 d c t h hi hc
 have hpw := h.lt
 go_enter Tryz.func120, Tryz.ntmps120
 go_wp2_with (refine Zdn _ rfl rfl ?_)
 intro q2 w0 E2 hq2 C1
 have l2 := lt_of_block E2
 replace h := h.bel C1
 go_wp2_with fail
 refine (HD w0 p n0 d c t h hi hc).mono ?_
 rintro e w1 ⟨v, rfl, hv, B1⟩
 replace h := h.bel B1
 replace E2 := (B1.block _ (lt_of_block E2)).trans E2
 have C := Zab C1 zo B1
 have hs0 := C1.size
 have hs1 := B1.size
 have hl2 := lt_of_block E2
 clear C1 B1
 obtain ⟨na, nc, ka, kc, _, rfl, _⟩ := NdV.parts hv
 go_wp2_with (refine Zb5 rfl rfl rfl 3 rfl rfl rfl (fun _ => rfl) (fun _ => rfl) ?_)
 intro q1 w2 E1 hq1 B2
 replace h := h.bel B2
 replace E2 := (B2.block _ hl2).trans E2
 replace hv := hv.bel B2
 replace C := Zab C zo B2
 have hs2 := B2.size
 clear B2
 go_wp2_with fail
 simp only [Act.put, List.setIfInBounds_toArray, List.set_cons_zero, List.set_cons_succ]
 go_loopw [] (fun wr => wr = w2) (fun wr => 0)
 case atStart => rfl
 obtain rfl := hrel
 go_wp2_with fail
 refine (Zax h hi hc 3).mono ?_
 rintro e w3 ⟨rfl, B3⟩
 replace E1 := (B3.block _ (lt_of_block E1)).trans E1
 replace E2 := (B3.block _ (lt_of_block E2)).trans E2
 replace hv := hv.bel B3
 replace C := Zab C zo B3
 obtain ⟨z0, z1, z2, z3, z4, z5, _⟩ := Zac E1
 have hq2l := lt_of_block E2
 go_wp2_with (refine Za8 rfl rfl rfl rfl rfl E2 ?_)
 intro w4 E4 S4
 go_wp2
 exact zT 2 (by rfl) (by rfl) (Zau E4) (by rfl) ⟨_, rfl, NdV.out hv S4 (by omega) (by omega), C.trans (S4.below hq2)⟩
theorem Zmn (HD : Zdj 120 W) : Zdj 102 W := by
 intro w p n0 d c t h hi hc
 have hpw := h.lt
 go_enter Tryz.func102, Tryz.ntmps102
 go_wp2_with (refine Zdn _ rfl rfl ?_)
 intro q2 w0 E2 hq2 C1
 have l2 := lt_of_block E2
 replace h := h.bel C1
 go_wp2_with fail
 refine (HD w0 p n0 d c t h hi hc).mono ?_
 rintro e w1 ⟨v, rfl, hv, B1⟩
 replace h := h.bel B1
 replace E2 := (B1.block _ (lt_of_block E2)).trans E2
 have C := Zab C1 zo B1
 have hs0 := C1.size
 have hs1 := B1.size
 have hl2 := lt_of_block E2
 clear C1 B1
 obtain ⟨na, nc, ka, kc, _, rfl, _⟩ := NdV.parts hv
 go_wp2_with (refine Zb5 rfl rfl rfl 3 rfl rfl rfl (fun _ => rfl) (fun _ => rfl) ?_)
 intro q1 w2 E1 hq1 B2
 replace h := h.bel B2
 replace E2 := (B2.block _ hl2).trans E2
 replace hv := hv.bel B2
 replace C := Zab C zo B2
 have hs2 := B2.size
 clear B2
 go_wp2_with fail
 refine (Zax h hi hc 2).mono ?_
 rintro e w3 ⟨rfl, B3⟩
 replace E1 := (B3.block _ (lt_of_block E1)).trans E1
 replace E2 := (B3.block _ (lt_of_block E2)).trans E2
 replace hv := hv.bel B3
 replace C := Zab C zo B3
 obtain ⟨z0, z1, z2, z3, z4, z5, _⟩ := Zac E1
 have hq2l := lt_of_block E2
 go_wp2_with (refine Za8 rfl rfl rfl rfl rfl E2 ?_)
 intro w4 E4 S4
 go_wp2
 exact zT 2 (by rfl) (by rfl) (Zau E4) (by rfl) ⟨_, rfl, NdV.out hv S4 (by omega) (by omega), C.trans (S4.below hq2)⟩
end
end Go.Proofs.YtncfmhlikmibaaaGreatDoor
