/- named, unaryOf. -/
import Derived.Test.YtncfmhlikmibaaaGreatDoorDpa
import Derived.Test.YtncfmhlikmibaaaGreatDoorAny
namespace Go.Proofs.YtncfmhlikmibaaaGreatDoor
open Go.RowKit
set_option maxRecDepth 100000
set_option maxHeartbeats 16000000
theorem Zav {a : Act} {t : Nat} {v : Value} (h : a.tmps[t]? = some v) : a.tmps[t]?.getD undef = v := by rw [h]; rfl
theorem lit_row {w : World} {A : Nat → Prop} {x : Nd} {v0 v1 v2 v3 v4 v5 : Value} (h : NdV A w x (.agg #[v0, v1, v2, v3, v4, v5])) (hB : A w.heap.size) : Zdm (w.alloc (.cells #[v0, v1, v2, v3, v4, v5] 25)) A (.slice (some ⟨w.heap.size, 0, none⟩) 1 1) [x] := by
 refine ⟨[v0, v1, v2, v3, v4, v5], ⟨rfl, .inr ⟨w.heap.size, 1, #[v0, v1, v2, v3, v4, v5], rfl, Nat.zero_le _, Zc0 w _, zo, by decide, rfl, rfl⟩⟩, fun g hg => ?_, KsF.one (h.imp (fun b hb hA => ⟨⟨hA, fun q hq => ?_⟩, Zbc.block b hb⟩) _ _)⟩
 ·simp [Value.ownBlock] at hg
  subst hg
  exact hB
 simp [Value.ownBlock] at hq
 omega
theorem bx25 {ops : Array Oper} {rest : List Oper} {o : Oper} {a : Act} {Q : Exit → Act → World → Prop} (w : World) (hgd : o.guard = none) (x : Operand) (ho : o.op = .box 25 x) (k : Int) (s : ByteArray) (p n : Int) (na : Option Addr) (nl nc : Nat) (ka : Option Addr) (kl kc : Nat) (hx : a.eval x = .agg #[.int .i64 k, .string s, .int .i64 p, .int .i64 n, .slice na nl nc, .slice ka kl kc])
  (h : ∀ q w', w'.heap[q]? = some (.cells #[.int .i64 k, .string s, .int .i64 p, .int .i64 n, .slice na nl nc, .slice ka kl kc] 25) → w.heap.size ≤ q → Below w.heap.size w w' → wpList Tryz.prog ops Q rest (a.put o.dst (.pointer (some ⟨q, 0, none⟩))) w') : wpList Tryz.prog ops Q (o :: rest) a w :=
 wpList_plain hgd fun _ hK => by
  unfold Oper.wp execOp
  simp only [ho, hx]
  simp [go_sem]
  exact hK _ _ (h w.heap.size _ (Zc0 w _) zo Zbc)
def sndV (x m : Nd) (q3 : Nat) (na ka la va : Option Addr) (nc kc lc vc g : Nat) (j : Nat) : Value :=
 ([.pointer (some ⟨q3, 1, none⟩),
  .string (strOfNums m.text),
  .pointer (some ⟨q3, 2, none⟩),
  .int .i64 (m.pos : Int),
  .agg #[.int .i64 x.kind, .string (strOfNums x.text), .int .i64 (x.pos : Int), .int .i64 (x.n : Int), .slice na x.names.length nc, .slice ka x.kids.length kc],
  .slice (some ⟨g, 0, none⟩) 1 1,
  .pointer (some ⟨q3, 5, none⟩),
  .slice la m.kids.length lc,
  .slice va (1 + m.kids.length) vc,
  .agg #[.int .i64 7, .string (strOfNums m.text), .int .i64 (m.pos : Int), .int .i64 0, .slice none 0 0, .slice va (1 + m.kids.length) vc]] : List Value).getD j undef
theorem Zgh {w : World} {A0 : Nat → Prop} {x m : Nd} {v u : Value} (hB : ∀ b, w.heap.size ≤ b → A0 b) (hx : NdV A0 w x v) (hm : NdV A0 w m u) (hk : m.kids.length ≤ 90000) :
  Calls Tryz.prog 153 #[v, u] w fun e w' => ∃ v', e = .returned v' ∧ NdV A0 w' (Zat x m) v' ∧ Below w.heap.size w w' := by
 obtain ⟨na, nc, ka, kc, fl, rfl, _, _, _, bx1, bx2, bx3⟩ := NdV.parts hx
 obtain ⟨ma, mc, la, lc, gl, rfl, _, _, _, bm1, bm2, bm3⟩ := NdV.parts hm
 go_enter Tryz.func153, Tryz.ntmps153
 go_wp2_with (refine bx25 _ rfl _ rfl _ _ _ _ _ _ _ _ _ _ rfl ?_)
 intro q2 u1 E2 hq2 C1
 go_wp2_with (refine bx25 _ rfl _ rfl _ _ _ _ _ _ _ _ _ _ rfl ?_)
 intro q3 u2 E3 hq3 C2
 go_wp2_with (refine Zdl _ rfl rfl ?_)
 intro q4 w1 E4 hq4 C3
 have l2 := lt_of_block E2
 have l3 := lt_of_block E3
 replace E2 := (C3.block _ (by have := C2.size; omega)).trans ((C2.block _ l2).trans E2)
 replace E3 := (C3.block _ l3).trans E3
 have hx1 : NdV (fun b => A0 b ∧ b ≠ q4) w1 x _ := hx.imp (fun b hb hA => ⟨⟨hA, by have := C1.size; have := C2.size; omega⟩, (C3.block b (by have := C1.size; have := C2.size; omega)).trans ((C2.block b (by have := C1.size; omega)).trans (C1.block b hb))⟩) _ _
 have hm1 : NdV (fun b => A0 b ∧ b ≠ q4) w1 m _ := hm.imp (fun b hb hA => ⟨⟨hA, by have := C1.size; have := C2.size; omega⟩, (C3.block b (by have := C1.size; have := C2.size; omega)).trans ((C2.block b (by have := C1.size; omega)).trans (C1.block b hb))⟩) _ _
 have Bw : Below w.heap.size w w1 := (C1.trans (C2.mono C1.size)).trans (C3.mono (Nat.le_trans C1.size C2.size))
 have hq4' : w.heap.size ≤ q4 := Nat.le_trans (Nat.le_trans C1.size C2.size) hq4
 clear C1 C2 C3 hx hm
 have hx := hx1
 clear hx1
 have hxa : NdV (fun b => A0 b ∧ b ≠ q4) w1 x _ := hx
 have hma : NdV (fun b => A0 b ∧ b ≠ q4) w1 m _ := hm1
 have hbs : ∀ b, w1.heap.size ≤ b → A0 b ∧ b ≠ q4 := fun b h => ⟨hB b (Nat.le_trans Bw.size h), by have := lt_of_block E4; omega⟩
 obtain ⟨ma', mc', la', lc', gl, e, _, sm2, km, _⟩ := NdV.parts hma
 simp only [Value.agg.injEq, Array.mk.injEq, List.cons.injEq, Value.slice.injEq, and_true, true_and] at e
 obtain ⟨⟨rfl, rfl⟩, rfl, rfl⟩ := e
 clear hm1 hq2 hq3 hq4 l2 l3
 go_wp2_with fail
 refine Zah fun A hA => ?_
 have hsz : A.tmps.size = 15 := by rw [hA]; rfl
 have s2 : A.tmps[2]? = some (.pointer (some ⟨q2, 0, none⟩)) := by rw [hA]; rfl
 have s3 : A.tmps[3]? = some (.pointer (some ⟨q3, 0, none⟩)) := by rw [hA]; rfl
 have s4 : A.tmps[4]? = some (.pointer (some ⟨q4, 0, none⟩)) := by rw [hA]; rfl
 refine zR1 (fun A D a w' => ∃ (l : List Value) (va : Option Addr) (vc : Nat) (g : Nat), a = Zaj A 5 l ∧ l.length = 10 ∧ (∀ j, j < 10 → D j → l[j]? = some (sndV x m q3 na ka la va nc kc lc vc g j)) ∧ (D 10 ∨ Below w1.heap.size w1 w') ∧ (D 10 → ∃ w6, w'.heap[q4]? = some (.cells #[.int .i64 7, .string (strOfNums m.text), .int .i64 (m.pos : Int), .int .i64 0, .slice none 0 0, .slice va (1 + m.kids.length) vc] 25) ∧ St q4 w6 w' ∧ Below w1.heap.size w1 w6 ∧ Zdm w6 (fun b => A0 b ∧ b ≠ q4) (.slice va (1 + m.kids.length) vc) ([x] ++ m.kids)) ∧ (D 5 → ¬ D 8 → Zdm w' (fun b => A0 b ∧ b ≠ q4) (.slice (some ⟨g, 0, none⟩) 1 1) [x] ∧ w1.heap.size ≤ g) ∧ (D 8 → ¬ D 10 → Zdm w' (fun b => A0 b ∧ b ≠ q4) (.slice va (1 + m.kids.length) vc) ([x] ++ m.kids))) ?start ?step ?done
 case start => exact ⟨_, none, 0, 0, zS 5 10 hsz, zG 5 10 hsz, zK, .inr ((Below.refl _ _).drew), zf, zF, zF⟩
 case step =>
  clear hA
  intro i o ho D a w' hI hn hcl hd
  obtain ⟨l, va, vc, g, ha, Lh, hl, hB, hQ, hG, hR⟩ := hI
  match i, ho with
  | 0, ho =>
   cases zq ho
   have ev : a.tmps[3]? = some (.pointer (some ⟨q3, 0, none⟩)) := zu 3 ha Lh hsz s3
   exact zx (.pointer (some ⟨q3, 1, none⟩)) (by simp [execOp, ev, go_sem]) ⟨_, va, vc, g, zp 0 ha Lh hsz, zh Lh, zk Lh hl, zl hB, zr hQ, zs hG, zs hR⟩
  | 1, ho =>
   cases zq ho
   have ev : a.tmps[5]? = some (.pointer (some ⟨q3, 1, none⟩)) := zv ha hsz Lh hl 0 hd
   have hb := hB.resolve_left (fun h => hn (zc hcl 9 1 rfl (zc hcl 10 9 rfl h)))
   obtain ⟨z0, z1, z2, z3, z4, z5, _⟩ := Zae ((hb.block _ (lt_of_block E3)).trans E3)
   exact zx (.string (strOfNums m.text)) (by simp [execOp, ev, go_sem, z1]) ⟨_, va, vc, g, zp 1 ha Lh hsz, zh Lh, zk Lh hl, zl hB, zr hQ, zs hG, zs hR⟩
  | 2, ho =>
   cases zq ho
   have ev : a.tmps[3]? = some (.pointer (some ⟨q3, 0, none⟩)) := zu 3 ha Lh hsz s3
   exact zx (.pointer (some ⟨q3, 2, none⟩)) (by simp [execOp, ev, go_sem]) ⟨_, va, vc, g, zp 2 ha Lh hsz, zh Lh, zk Lh hl, zl hB, zr hQ, zs hG, zs hR⟩
  | 3, ho =>
   cases zq ho
   have ev : a.tmps[7]? = some (.pointer (some ⟨q3, 2, none⟩)) := zv ha hsz Lh hl 2 hd
   have hb := hB.resolve_left (fun h => hn (zc hcl 9 3 rfl (zc hcl 10 9 rfl h)))
   obtain ⟨z0, z1, z2, z3, z4, z5, _⟩ := Zae ((hb.block _ (lt_of_block E3)).trans E3)
   exact zx (.int .i64 (m.pos : Int)) (by simp [execOp, ev, go_sem, z2]) ⟨_, va, vc, g, zp 3 ha Lh hsz, zh Lh, zk Lh hl, zl hB, zr hQ, zs hG, zs hR⟩
  | 4, ho =>
   cases zq ho
   have ev : a.tmps[2]? = some (.pointer (some ⟨q2, 0, none⟩)) := zu 2 ha Lh hsz s2
   have hb := hB.resolve_left (fun h => hn (zc hcl 5 4 rfl (zc hcl 8 5 rfl (zc hcl 9 8 rfl (zc hcl 10 9 rfl h)))))
   obtain ⟨z0, z1, z2, z3, z4, z5, _⟩ := Zae ((hb.block _ (lt_of_block E2)).trans E2)
   exact zx (.agg #[.int .i64 x.kind, .string (strOfNums x.text), .int .i64 (x.pos : Int), .int .i64 (x.n : Int), .slice na x.names.length nc, .slice ka x.kids.length kc]) (by simp [execOp, ev, go_sem, z0, z1, z2, z3, z4, z5]) ⟨_, va, vc, g, zp 4 ha Lh hsz, zh Lh, zk Lh hl, zl hB, zr hQ, zs hG, zs hR⟩
  | 5, ho =>
   cases zq ho
   have ev : a.tmps[9]? = some (.agg #[.int .i64 x.kind, .string (strOfNums x.text), .int .i64 (x.pos : Int), .int .i64 (x.n : Int), .slice na x.names.length nc, .slice ka x.kids.length kc]) := zv ha hsz Lh hl 4 hd
   have hb := hB.resolve_left (fun h => hn (zc hcl 8 5 rfl (zc hcl 9 8 rfl (zc hcl 10 9 rfl h))))
   refine Zba (w' := w'.alloc (.cells #[.int .i64 x.kind, .string (strOfNums x.text), .int .i64 (x.pos : Int), .int .i64 (x.n : Int), .slice na x.names.length nc, .slice ka x.kids.length kc] 25)) (v := .slice (some ⟨w'.heap.size, 0, none⟩) 1 1) (by simp [execOp, ev, go_sem]) ?_
   exact ⟨_, va, vc, w'.heap.size, zp 5 ha Lh hsz, zh Lh, Zai (val' := sndV x m q3 na ka la va nc kc lc vc w'.heap.size) Lh (by decide) hl (fun j hj hne => match j, hj, hne with | 0, _, _ => rfl | 1, _, _ => rfl | 2, _, _ => rfl | 3, _, _ => rfl | 4, _, _ => rfl | 5, _, hne => absurd rfl hne | 6, _, _ => rfl | 7, _, _ => rfl | 8, _, _ => rfl | 9, _, _ => rfl | j + 10, _, _ => rfl), hB.imp .inr (fun h => h.trans (Below.mono Zbc h.size)), za (fun h => hn (zc hcl 8 5 rfl (zc hcl 9 8 rfl (zc hcl 10 9 rfl h)))), fun _ _ => ⟨lit_row (hxa.imp (fun b hb' hA => ⟨hA, hb.block b hb'⟩) _ _) (hbs _ hb.size), hb.size⟩, zb (fun h => hn (zc hcl 8 5 rfl h))⟩
  | 6, ho =>
   cases zq ho
   have ev : a.tmps[3]? = some (.pointer (some ⟨q3, 0, none⟩)) := zu 3 ha Lh hsz s3
   exact zx (.pointer (some ⟨q3, 5, none⟩)) (by simp [execOp, ev, go_sem]) ⟨_, va, vc, g, zp 6 ha Lh hsz, zh Lh, zk Lh hl, zl hB, zr hQ, zs hG, zs hR⟩
  | 7, ho =>
   cases zq ho
   have ev : a.tmps[11]? = some (.pointer (some ⟨q3, 5, none⟩)) := zv ha hsz Lh hl 6 hd
   have hb := hB.resolve_left (fun h => hn (zc hcl 8 7 rfl (zc hcl 9 8 rfl (zc hcl 10 9 rfl h))))
   obtain ⟨z0, z1, z2, z3, z4, z5, _⟩ := Zae ((hb.block _ (lt_of_block E3)).trans E3)
   exact zx (.slice la m.kids.length lc) (by simp [execOp, ev, go_sem, z5]) ⟨_, va, vc, g, zp 7 ha Lh hsz, zh Lh, zk Lh hl, zl hB, zr hQ, zs hG, zs hR⟩
  | 8, ho =>
   cases zq ho
   have ev : a.tmps[10]? = some (.slice (some ⟨g, 0, none⟩) 1 1) := zv ha hsz Lh hl 5 hd
   have ev' : a.tmps[12]? = some (.slice la m.kids.length lc) := zv ha hsz Lh hl 7 hd
   have hb := hB.resolve_left (fun h => hn (zc hcl 9 8 rfl (zc hcl 10 9 rfl h)))
   have G5 := hG (zd hd 5) hn
   obtain ⟨v', w6, hr6, R6, K6, _⟩ := Zkv w' 23 G5.1 (sm2.imp (fun b hb' hA => ⟨⟨hA, fun q hq => by simp [Value.ownBlock] at hq; omega⟩, hb.block b hb'⟩)) (km.imp (fun b hb' hA => ⟨⟨hA, fun q hq => by simp [Value.ownBlock] at hq; omega⟩, hb.block b hb'⟩) _ _) (by simp only [List.length_singleton]; omega) (fun b h => hbs b (Nat.le_trans hb.size h))
   obtain ⟨va', vc', rfl⟩ := R6.shape
   have hle : ([x] ++ m.kids).length = 1 + m.kids.length := by simp; omega
   rw [hle] at hr6 R6
   refine Lib.wp_append_run w' (.tmp 10) (.tmp 12) 23 23 rfl _ _ (by simpa [Act.eval] using Zav ev) (by simpa [Act.eval] using Zav ev') _ w6 hr6 ?_
   exact ⟨_, va', vc', g, zp 8 ha Lh hsz, zh Lh, Zai (val' := sndV x m q3 na ka la va' nc kc lc vc' g) Lh (by decide) hl (fun j hj hne => match j, hj, hne with | 0, _, _ => rfl | 1, _, _ => rfl | 2, _, _ => rfl | 3, _, _ => rfl | 4, _, _ => rfl | 5, _, _ => rfl | 6, _, _ => rfl | 7, _, _ => rfl | 8, _, hne => absurd rfl hne | 9, hj, _ => absurd hj (fun h => hn (zc hcl 9 8 rfl h)) | j + 10, _, _ => rfl), hB.imp .inr (fun h => h.trans (K6.below h.size (fun q hq => by simp [Value.ownBlock] at hq; omega))), za (fun h => hn (zc hcl 9 8 rfl (zc hcl 10 9 rfl h))), zi, fun _ _ => R6⟩
  | 9, ho =>
   cases zq ho
   have ev : a.tmps[6]? = some (.string (strOfNums m.text)) := zv ha hsz Lh hl 1 hd
   have ev' : a.tmps[8]? = some (.int .i64 (m.pos : Int)) := zv ha hsz Lh hl 3 hd
   have ev'' : a.tmps[13]? = some (.slice va (1 + m.kids.length) vc) := zv ha hsz Lh hl 8 hd
   exact zx (.agg #[.int .i64 7, .string (strOfNums m.text), .int .i64 (m.pos : Int), .int .i64 0, .slice none 0 0, .slice va (1 + m.kids.length) vc]) (by simp [execOp, ev, ev', ev'', go_sem]) ⟨_, va, vc, g, zp 9 ha Lh hsz, zh Lh, zk Lh hl, zl hB, zr hQ, zs hG, zs hR⟩
  | 10, ho =>
   cases zq ho
   have ev : a.tmps[14]? = some (.agg #[.int .i64 7, .string (strOfNums m.text), .int .i64 (m.pos : Int), .int .i64 0, .slice none 0 0, .slice va (1 + m.kids.length) vc]) := zv ha hsz Lh hl 9 hd
   have hb := hB.resolve_left hn
   have R6 := hR (zc hcl 9 8 rfl (zd hd 9)) hn
   have e4 : a.tmps[4]? = some (.pointer (some ⟨q4, 0, none⟩)) := zu 4 ha Lh hsz s4
   have E4' := (hb.block _ (lt_of_block E4)).trans E4
   refine wp_store_row (P := Tryz.prog) 25 (.tmp 4) (.tmp 14) rfl q4 #[.int .i64 7, .string (strOfNums m.text), .int .i64 (m.pos : Int), .int .i64 0, .slice none 0 0, .slice va (1 + m.kids.length) vc] (by simpa [Act.eval] using Zav e4) (by simpa [Act.eval] using Zav ev) 25 _ E4' (by kernel_rfl) rfl (by simp [Value.oneCell']) ?_
   exact ⟨l, va, vc, g, ha, Lh, zJ hl, .inl (.inl rfl), fun _ => ⟨w', setRow_heap w' q4 _ _ _ _ E4', St.row w' q4 _, hb, R6⟩, zj (zc hcl 9 8 rfl (zd hd 9)), zi⟩
  | i + 11, ho => simp at ho
 rintro D a w' ⟨l, va, vc, g, ha, Lh, hl, hB, hQ, hG, hR⟩ hall
 obtain ⟨v0, v1, v2, v3, v4, v5, v6, v7, v8, v9, rfl⟩ := zL10 Lh
 obtain ⟨w6, Eq, Sq, Bq, Rq⟩ := hQ (hall 10 (by decide))
 subst hA
 have hfr : a = _ := ha
 rw [hfr]
 clear hfr ha
 simp only [Zaj, yA, yB, yC, yD, yE, yF, yG, yH]
 clear hl hB hQ hG hR hall
 go_wp2
 obtain ⟨_, fl', sl', kf'⟩ := Rq.sl
 refine bodyPost_ret (Zas (a := 4) (t := 25) (by rfl) (by rfl) (Zal Eq)) (by rfl) ⟨_, rfl, ?_, Bw.trans ((Bq.mono Bw.size).trans (Sq.below hq4'))⟩
 have hle : ([x] ++ m.kids).length = 1 + m.kids.length := by simp; omega
 have hN := NdV.mk_ (A := fun b => A0 b ∧ b ≠ q4) (k := 7) (t := m.text) (p := m.pos) (n := 0) (l := []) (kids := [x] ++ m.kids) (na := none) (nc := 0) (SlF.nil _ _) (by rw [hle]; exact sl') kf' (by decide) (by rw [hle]; omega) bm3
 rw [hle] at hN
 exact NdV.imp (fun b hb hA => ⟨hA.1, Sq.block b hA.2⟩) _ _ hN
section
variable {W : List Tk} {i p : Nat} {w : World}
theorem Zi0 {E : Nat} (S : Src W E) {d : Nat} {y : Int} (h : Rdw w p W i d y) (hi : i ≤ E) :
  Calls Tryz.prog 165 #[.pointer (some ⟨p, 0, none⟩)] w fun e w' => ∃ v, e = .returned v ∧ NdB w.heap.size w' (Zda (txW W i) (psW W i) []) v ∧ Rdw w' p W (i + 1) d y ∧ Fr p w.heap.size w w' := by
 have hp := h.lt
 have htx := S.txt i
 go_enter Tryz.func165, Tryz.ntmps165
 go_wp2_with (refine Zdl _ rfl rfl ?_)
 intro q w1 E1 hq B1
 go_wp2_with fail
 refine (Zch (h.fr B1) (S.lt hi)).mono ?_
 rintro e w2 ⟨rfl, h2, F2⟩
 have E2 : w2.heap[q]? = _ := (F2.block q (lt_of_block E1) (by omega)).trans E1
 have F02 := (Fr.of_below B1).thn zo F2
 clear E1 F2 B1 h
 go_wp2_with (refine al54 _ rfl rfl ?_)
 intro t w3 E3 ht B3
 go_wp2_with (refine st54 _ rfl _ _ rfl rfl _ _ _ _ rfl rfl E3 ?_)
 intro w4 E4 S4
 have B34 : Below w2.heap.size w2 w4 := B3.trans (S4.below ht)
 replace E2 := (B34.block q (lt_of_block E2)).trans E2
 replace h2 := h2.fr B34
 replace F02 := F02.thn zo (Fr.of_below B34)
 have hqs := lt_of_block E2
 clear E3 S4 B3 B34
 obtain ⟨z0, z1, z2, zf⟩ := Zbx E4
 go_wp2_with (refine Zar rfl rfl rfl rfl rfl E2 ?_)
 intro w5 E5 S5
 go_wp2
 refine bodyPost_ret (Zas (a := 2) (t := 25) (by rfl) (by rfl) (Zal E5)) (by rfl) ⟨_, rfl, NdV.leaf (by omega), h2.st S5 (by omega), F02.trans (Fr.of_below (S5.below hq)) zo⟩
def atOf (w : World) (p : Nat) : Nat := match w.cell? ⟨p, 1, none⟩ with
 | some (.int _ i) => i.toNat
 | _ => 0
theorem Rdw.atOf {d y : Int} (h : Rdw w p W i d y) : atOf w p = i := by
 have := h.own.1
 unfold Go.Proofs.YtncfmhlikmibaaaGreatDoor.atOf
 rw [this]
 simp
def NBox (w : World) (A : Nat → Prop) (q : Nat) (x : Nd) : Prop := ∃ na nc ka kc, w.heap[q]? = some (.cells #[.int .i64 x.kind, .string (strOfNums x.text), .int .i64 (x.pos : Int), .int .i64 (x.n : Int), .slice na x.names.length nc, .slice ka x.kids.length kc] 25) ∧ NdV A w x (.agg #[.int .i64 x.kind, .string (strOfNums x.text), .int .i64 (x.pos : Int), .int .i64 (x.n : Int), .slice na x.names.length nc, .slice ka x.kids.length kc])
def Zer (w : World) (q : Nat) : Prop := ∃ u0 u1 u2 u3 u4 u5, w.heap[q]? = some (.cells #[u0, u1, u2, u3, u4, u5] 25)
theorem Zer.keep {w' : World} {q : Nat} (h : Zer w q) (hk : q < w.heap.size → w'.heap[q]? = w.heap[q]?) : Zer w' q := by
 obtain ⟨u0, u1, u2, u3, u4, u5, h⟩ := h
 exact ⟨u0, u1, u2, u3, u4, u5, (hk (lt_of_block h)).trans h⟩
def unoV (x z : Nd) (p : Nat) (na ka ma la oa pa : Option Addr) (nc kc mc lc oc pc : Nat) (j : Nat) : Value :=
 ([.agg #[.int .i64 x.kind, .string (strOfNums x.text), .int .i64 (x.pos : Int), .int .i64 (x.n : Int), .slice na x.names.length nc, .slice ka x.kids.length kc],
  .pointer (some ⟨p, 0, none⟩),
  .agg #[.int .i64 z.kind, .string (strOfNums z.text), .int .i64 (z.pos : Int), .int .i64 (z.n : Int), .slice ma z.names.length mc, .slice la z.kids.length lc],
  .agg #[.int .i64 7, .string (strOfNums z.text), .int .i64 (z.pos : Int), .int .i64 0, .slice oa (Zat x z).names.length oc, .slice pa (Zat x z).kids.length pc]] : List Value).getD j undef
theorem Zgt {E : Nat} (S : Src W E) {d : Nat} {x0 : Nd} (hi : i ≤ E) {A0 : Nat → Prop} {v : Value} (h : Rdw w p W i (d : Int) 20) (hAp : ¬ A0 p) (hA0 : ∀ b, w.heap.size ≤ b → A0 b) (hx : NdV A0 w x0 v) :
  Calls Tryz.prog 151 #[.pointer (some ⟨p, 0, none⟩), v] w fun e w' => ∃ y j u, Zaa W (.unaOf i d x0) (.ok y j) ∧ j ≤ E ∧ e = .returned u ∧ NdV A0 w' y u ∧ Rdw w' p W j (d : Int) 20 ∧ Fr p w.heap.size w w' := by
 have hpw := h.lt
 obtain ⟨na, nc, ka, kc, fl, rfl, _, _, _, bx1, bx2, bx3⟩ := NdV.parts hx
 go_enter Tryz.func151, Tryz.ntmps151
 go_wp2_with (refine bx25 _ rfl _ rfl _ _ _ _ _ _ _ _ _ _ rfl ?_)
 intro q1 w1 E1 hq1 C1
 go_wp2_with (refine Zdl _ rfl rfl ?_)
 intro q2 w2 E2 hq2 C2
 have B02 : Below w.heap.size w w2 := C1.trans (C2.mono C1.size)
 have l1 := lt_of_block E1
 have l2 := lt_of_block E2
 have hq2' : w.heap.size ≤ q2 := Nat.le_trans C1.size hq2
 have hne : q1 ≠ q2 := by omega
 have hqp : q1 ≠ p := by omega
 have hqp2 : q2 ≠ p := by omega
 have hx2 : NdV (fun b => A0 b ∧ b ≠ q1 ∧ b ≠ q2 ∧ b ≠ p) w2 x0 _ := hx.imp (fun b hb hA => ⟨⟨hA, by omega, by omega, fun e => hAp (e ▸ hA)⟩, B02.block b hb⟩) _ _
 have h2 := (h.fr C1).fr C2
 replace E1 := (C2.block _ l1).trans E1
 have F02 : Fr p w.heap.size w w2 := Fr.of_below B02
 have hZ : Zer w2 q2 := ⟨_, _, _, _, _, _, E2⟩
 have hs2 : w2.heap.size ≤ w2.heap.size := Nat.le_refl _
 replace l1 := lt_of_block E1
 clear C1 C2 hq2 B02 hx h E2
 go_wp2_with fail
 go_loopw [] (fun wr => ∃ (i' : Nat) (x' : Nd), NBox wr (fun b => A0 b ∧ b ≠ q1 ∧ b ≠ q2 ∧ b ≠ p) q1 x' ∧ Zer wr q2 ∧ Rdw wr p W i' (d : Int) 20 ∧ Fr p w.heap.size w wr ∧ i ≤ i' ∧ i' ≤ E ∧ w2.heap.size ≤ wr.heap.size ∧ Hid (∀ r, Zaa W (.unaOf i' d x') r → Zaa W (.unaOf i d x0) r)) (fun wr => E - atOf wr p)
 case atStart => exact ⟨i, x0, ⟨na, nc, ka, kc, E1, hx2⟩, hZ, h2, F02, zo, hi, hs2, fun r hr => hr⟩
 clear E1 hx2 hZ h2 F02 bx1 bx2 bx3
 obtain ⟨i', x, ⟨na, nc, ka, kc, E1, hx2⟩, hZ, h2, F02, hii, hi', hs2, hR⟩ := hrel
 go_wp2_with fail
 refine (Zb8 h2 (S.lt hi') 1).mono ?_
 rintro e w3 ⟨rfl, B3⟩
 replace E1 := (B3.block _ (lt_of_block E1)).trans E1
 replace hZ := hZ.keep (fun hl => B3.block _ hl)
 have hx3 : NdV (fun b => A0 b ∧ b ≠ q1 ∧ b ≠ q2 ∧ b ≠ p) w3 x _ := hx2.imp (fun b hb hA => ⟨hA, B3.block b hb⟩) _ _
 replace F02 := F02.thn zo (Fr.of_below B3)
 have h3 := h2.fr B3
 have hat : atOf wr p = i' := h2.atOf
 have hs3 : w2.heap.size ≤ w3.heap.size := Nat.le_trans hs2 B3.size
 clear hx2 h2 B3
 by_cases hk : kdW W i' = 1
 ·rw [show (kdW W i' == 1) = true by simp [hk]]
  have hlt : i' < E := S.ends.lt (by rw [hk]; decide)
  have hbs : ∀ b, w3.heap.size ≤ b → A0 b ∧ b ≠ q1 ∧ b ≠ q2 ∧ b ≠ p := fun b h => ⟨hA0 b (by omega), by omega, by omega, by omega⟩
  have E1d : w3.drew.heap[q1]? = _ := E1
  have h3d : Rdw w3.drew p W i' (d : Int) 20 := h3.same (fun _ _ => rfl) rfl
  obtain ⟨z, hz⟩ : ∃ z, Hid (z = Zda (txW W i') (psW W i') []) := ⟨_, rfl⟩
  have hzk : z.kids.length ≤ 90000 := by rw [hz.out]; exact Nat.zero_le _
  go_wp2_with fail
  refine Zah fun A hA => ?_
  have hsz : A.tmps.size = 12 := by rw [hA]; rfl
  have s0 : A.tmps[0]? = some (.pointer (some ⟨p, 0, none⟩)) := by rw [hA]; rfl
  have s3 : A.tmps[3]? = some (.pointer (some ⟨q1, 0, none⟩)) := by rw [hA]; rfl
  refine zR1 (fun A D a w' => ∃ (l : List Value) (ma : Option Addr) (la : Option Addr) (oa : Option Addr) (pa : Option Addr) (mc : Nat) (lc : Nat) (oc : Nat) (pc : Nat), a = Zaj A 7 l ∧ l.length = 4 ∧ (∀ j, j < 4 → D j → l[j]? = some (unoV x z p na ka ma la oa pa nc kc mc lc oc pc j)) ∧ (D 4 ∨ w'.heap[q1]? = some (.cells #[.int .i64 x.kind, .string (strOfNums x.text), .int .i64 (x.pos : Int), .int .i64 (x.n : Int), .slice na x.names.length nc, .slice ka x.kids.length kc] 25)) ∧ (D 2 ∨ (Rdw w' p W i' (d : Int) 20 ∧ Below w3.heap.size w3 w')) ∧ (D 4 → ∃ w6, NdV (fun b => A0 b ∧ b ≠ q1 ∧ b ≠ q2 ∧ b ≠ p) w6 (Zat x z) (.agg #[.int .i64 7, .string (strOfNums z.text), .int .i64 (z.pos : Int), .int .i64 0, .slice oa (Zat x z).names.length oc, .slice pa (Zat x z).kids.length pc]) ∧ Rdw w6 p W (i' + 1) (d : Int) 20 ∧ Fr p w3.heap.size w3 w6 ∧ w'.heap[q1]? = some (.cells #[.int .i64 7, .string (strOfNums z.text), .int .i64 (z.pos : Int), .int .i64 0, .slice oa (Zat x z).names.length oc, .slice pa (Zat x z).kids.length pc] 25) ∧ St q1 w6 w') ∧ (D 2 → ¬ D 3 → NdV (fun b => A0 b ∧ b ≠ q1 ∧ b ≠ q2 ∧ b ≠ p) w' z (.agg #[.int .i64 z.kind, .string (strOfNums z.text), .int .i64 (z.pos : Int), .int .i64 (z.n : Int), .slice ma z.names.length mc, .slice la z.kids.length lc]) ∧ Rdw w' p W (i' + 1) (d : Int) 20 ∧ Fr p w3.heap.size w3 w') ∧ (D 3 → ¬ D 4 → NdV (fun b => A0 b ∧ b ≠ q1 ∧ b ≠ q2 ∧ b ≠ p) w' (Zat x z) (.agg #[.int .i64 7, .string (strOfNums z.text), .int .i64 (z.pos : Int), .int .i64 0, .slice oa (Zat x z).names.length oc, .slice pa (Zat x z).kids.length pc]) ∧ Rdw w' p W (i' + 1) (d : Int) 20 ∧ Fr p w3.heap.size w3 w')) ?start ?step ?done
  case start => exact ⟨_, none, none, none, none, 0, 0, 0, 0, zS 7 4 hsz, zG 7 4 hsz, zK, .inr (E1d), .inr (⟨h3d, (Below.refl _ _).drew⟩), zf, zF, zF⟩
  case step =>
   clear hA
   intro i o ho D a w' hI hn hcl hd
   obtain ⟨l, ma, la, oa, pa, mc, lc, oc, pc, ha, Lh, hl, hE, hN, hQ, hU, hS⟩ := hI
   match i, ho with
   | 0, ho =>
    cases zq ho
    have ev : a.tmps[3]? = some (.pointer (some ⟨q1, 0, none⟩)) := zu 3 ha Lh hsz s3
    have e1 := hE.resolve_left (fun h => hn (zc hcl 3 0 rfl (zc hcl 4 3 rfl h)))
    obtain ⟨z0, z1, z2, z3, z4, z5, _⟩ := Zae e1
    exact zx (.agg #[.int .i64 x.kind, .string (strOfNums x.text), .int .i64 (x.pos : Int), .int .i64 (x.n : Int), .slice na x.names.length nc, .slice ka x.kids.length kc]) (by simp [execOp, ev, go_sem, z0, z1, z2, z3, z4, z5]) ⟨_, ma, la, oa, pa, mc, lc, oc, pc, zp 0 ha Lh hsz, zh Lh, zk Lh hl, zl hE, zl hN, zr hQ, zs hU, zs hS⟩
   | 1, ho =>
    cases zq ho
    exact zm (zu 0 ha Lh hsz s0) ⟨_, ma, la, oa, pa, mc, lc, oc, pc, zp 1 ha Lh hsz, zh Lh, zk Lh hl, zl hE, zl hN, zr hQ, zs hU, zs hS⟩
   | 2, ho =>
    cases zq ho
    have ev : a.tmps[8]? = some (.pointer (some ⟨p, 0, none⟩)) := zv ha hsz Lh hl 1 hd
    have hN0 := hN.resolve_left hn
    have e1 := hE.resolve_left (fun h => hn (zc hcl 3 2 rfl (zc hcl 4 3 rfl h)))
    refine Zan (f := 165) (args := #[.pointer (some ⟨p, 0, none⟩)]) (by simp [execOp, ev, go_sem]) ?_
    refine (Zi0 S hN0.1 hi').mono ?_
    rintro e w6 ⟨u, rfl, hu, h4, F4⟩
    refine ⟨_, rfl, ?_⟩
    rw [← hz.out] at hu
    obtain ⟨ma', mc', la', lc', _, rfl, _⟩ := NdV.parts hu
    exact ⟨_, ma', la', oa, pa, mc', lc', oc, pc, zp 2 ha Lh hsz, zh Lh, Zai (val' := unoV x z p na ka ma' la' oa pa nc kc mc' lc' oc pc) Lh (by decide) hl (fun j hj hne => match j, hj, hne with | 0, _, _ => rfl | 1, _, _ => rfl | 2, _, hne => absurd rfl hne | 3, _, _ => rfl | j + 4, _, _ => rfl), .inr ((F4.block q1 (lt_of_block e1) hqp).trans e1), .inl (.inl rfl), za (fun h => hn (zc hcl 3 2 rfl (zc hcl 4 3 rfl h))), fun _ _ => ⟨hu.mono (fun b _ hb => hbs b (Nat.le_trans hN0.2.size hb)), h4, (Fr.of_below hN0.2).thn zo F4⟩, zb (fun h => hn (zc hcl 3 2 rfl h))⟩
   | 3, ho =>
    cases zq ho
    have ev : a.tmps[7]? = some (.agg #[.int .i64 x.kind, .string (strOfNums x.text), .int .i64 (x.pos : Int), .int .i64 (x.n : Int), .slice na x.names.length nc, .slice ka x.kids.length kc]) := zv ha hsz Lh hl 0 hd
    have ev' : a.tmps[9]? = some (.agg #[.int .i64 z.kind, .string (strOfNums z.text), .int .i64 (z.pos : Int), .int .i64 (z.n : Int), .slice ma z.names.length mc, .slice la z.kids.length lc]) := zv ha hsz Lh hl 2 hd
    have U3 := hU (zd hd 2) hn
    have e1 := hE.resolve_left (fun h => hn (zc hcl 4 3 rfl h))
    refine Zan (f := 153) (args := #[.agg #[.int .i64 x.kind, .string (strOfNums x.text), .int .i64 (x.pos : Int), .int .i64 (x.n : Int), .slice na x.names.length nc, .slice ka x.kids.length kc], .agg #[.int .i64 z.kind, .string (strOfNums z.text), .int .i64 (z.pos : Int), .int .i64 (z.n : Int), .slice ma z.names.length mc, .slice la z.kids.length lc]]) (by simp [execOp, ev, ev', go_sem]) ?_
    refine (Zgh (fun b h => hbs b (Nat.le_trans U3.2.2.size h)) (hx3.fr U3.2.2 (fun b hb hl => ⟨hl, hb.2.2.2⟩)) U3.1 hzk).mono ?_
    rintro e w6 ⟨u, rfl, hv, B5⟩
    refine ⟨_, rfl, ?_⟩
    obtain ⟨oa', oc', pa', pc', _, rfl, _⟩ := NdV.parts hv
    exact ⟨_, ma, la, oa', pa', mc, lc, oc', pc', zp 3 ha Lh hsz, zh Lh, Zai (val' := unoV x z p na ka ma la oa' pa' nc kc mc lc oc' pc') Lh (by decide) hl (fun j hj hne => match j, hj, hne with | 0, _, _ => rfl | 1, _, _ => rfl | 2, _, _ => rfl | 3, _, hne => absurd rfl hne | j + 4, _, _ => rfl), .inr ((B5.block q1 (lt_of_block e1)).trans e1), .inl (.inr (zd hd 2)), za (fun h => hn (zc hcl 4 3 rfl h)), zi, fun _ _ => ⟨hv, U3.2.1.fr B5, U3.2.2.thn zo (Fr.of_below B5)⟩⟩
   | 4, ho =>
    cases zq ho
    have ev : a.tmps[10]? = some (.agg #[.int .i64 7, .string (strOfNums z.text), .int .i64 (z.pos : Int), .int .i64 0, .slice oa (Zat x z).names.length oc, .slice pa (Zat x z).kids.length pc]) := zv ha hsz Lh hl 3 hd
    have S4 := hS (zd hd 3) hn
    have e1 := hE.resolve_left hn
    have e4 : a.tmps[3]? = some (.pointer (some ⟨q1, 0, none⟩)) := zu 3 ha Lh hsz s3
    refine wp_store_row (P := Tryz.prog) 25 (.tmp 3) (.tmp 10) rfl q1 #[.int .i64 7, .string (strOfNums z.text), .int .i64 (z.pos : Int), .int .i64 0, .slice oa (Zat x z).names.length oc, .slice pa (Zat x z).kids.length pc] (by simpa [Act.eval] using Zav e4) (by simpa [Act.eval] using Zav ev) 25 _ e1 (by kernel_rfl) rfl (by simp [Value.oneCell']) ?_
    exact ⟨l, ma, la, oa, pa, mc, lc, oc, pc, ha, Lh, zJ hl, .inl (.inl rfl), .inl (.inr (zc hcl 3 2 rfl (zd hd 3))), fun _ => ⟨w', S4.1, S4.2.1, S4.2.2, setRow_heap w' q1 _ _ _ _ e1, St.row w' q1 _⟩, zj (zd hd 3), zi⟩
   | i + 5, ho => simp at ho
  rintro D a w' ⟨l, ma, la, oa, pa, mc, lc, oc, pc, ha, Lh, hl, hE, hN, hQ, hU, hS⟩ hall
  obtain ⟨v0, v1, v2, v3, rfl⟩ := zL4 Lh
  obtain ⟨w6, Nq, Rq, Fq, Eq, Sq⟩ := hQ (hall 4 (by decide))
  subst hA
  have hfr : a = _ := ha
  rw [hfr]
  clear hfr ha
  simp only [Zaj, yA, yB, yC, yD, yE, yF, yG, yH]
  clear hl hE hN hU hS hQ hall
  have hw6 : w3.heap.size ≤ w6.heap.size := Fq.size
  have l6 : q1 < w6.heap.size := by omega
  have hZ6 : Zer w' q2 := hZ.keep (fun hl => (Sq.block q2 (fun e => hne e.symm)).trans (Fq.block q2 hl hqp2))
  have hN6 : NdV (fun b => A0 b ∧ b ≠ q1 ∧ b ≠ q2 ∧ b ≠ p) w' (Zat x z) _ := Nq.imp (fun b _ hA => ⟨hA, Sq.block b hA.2.1⟩) _ _
  have h6 := Rq.same (fun b hb => Sq.block b (by have := h3.lt; omega)) (Sq.block p (fun e => hqp e.symm))
  have F6 : Fr p w.heap.size w w' := (F02.thn zo Fq).trans (Fr.of_below (Sq.below (B := w.heap.size) hq1)) zo
  have hR' : Hid (∀ r, Zaa W (.unaOf (i' + 1) d (Zat x z)) r → Zaa W (.unaOf i d x0) r) := fun r hr => hR.out r (Zi9 (by rw [← hz.out]; exact hr) hk)
  have hs6 : w2.heap.size ≤ w'.heap.size := by rw [Sq.size]; omega
  clear Sq Nq Rq Fq hw6 l6 hz
  go_wp2
  go_roundw
  case rel => exact ⟨i' + 1, Zat x z, ⟨oa, oc, pa, pc, Eq, hN6⟩, hZ6, h6, F6, by omega, hlt, hs6, hR'⟩
  case measure => rw [h6.atOf, hat]; omega
 rw [show (kdW W i' == 1) = false by simp [hk]]
 obtain ⟨z0, z1, z2, z3, z4, z5, _⟩ := Zae E1
 obtain ⟨u0, u1, u2, u3, u4, u5, E2⟩ := hZ
 have hq2l := lt_of_block E2
 go_wp2_with (refine Zar rfl rfl rfl rfl rfl E2 ?_)
 intro w4 E4 S4
 go_wp2
 refine bodyPost_ret (Zas (a := 4) (t := 25) (by rfl) (by rfl) (Zal E4)) (by rfl) ⟨x, i', _, hR.out _ (Zhq hk), hi', rfl, hx3.imp (fun b hb hA => ⟨hA.1, S4.block b hA.2.2.1⟩) _ _, h3.st S4 (by omega), F02.trans (Fr.of_below (S4.below (B := w.heap.size) hq2')) zo⟩
end
end Go.Proofs.YtncfmhlikmibaaaGreatDoor
