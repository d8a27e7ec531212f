/- send: a message that goes to a receiver. -/
import Derived.Test.YtoghhjljmhdioaaCon
import Derived.Test.YtoghhjljmhdioaaAny
namespace Go.Proofs.Ytoghhjljmhdioaa
open Go.RowKit
set_option maxRecDepth 100000
theorem evalS {a : Act} {t : Nat} {v : Value} (h : a.tmps[t]? = some v) : a.tmps[t]?.getD undef = v := by rw [h]; rfl
theorem lit_row {w : World} {A : Nat → Prop} {x : Nd} {v0 v1 v2 v3 v4 v5 : Value} (h : NdV A w x (.agg #[v0, v1, v2, v3, v4, v5])) (hB : A w.heap.size) : RowN (w.alloc (.cells #[v0, v1, v2, v3, v4, v5] 36)) A (.slice (some ⟨w.heap.size, 0, none⟩) 1 1) [x] := by
  refine ⟨[v0, v1, v2, v3, v4, v5], ⟨rfl, .inr ⟨w.heap.size, 1, #[v0, v1, v2, v3, v4, v5], rfl, Nat.zero_le _, newO w _, Nat.le_refl _, by decide, rfl, rfl⟩⟩, fun g hg => ?_, KsF.one (h.imp (fun b hb hA => ⟨⟨hA, fun q hq => ?_⟩, boxO.block b hb⟩) _ _)⟩
  · simp [Value.ownBlock] at hg
    subst hg
    exact hB
  · simp [Value.ownBlock] at hq
    omega
theorem bx25 {ops : Array Oper} {rest : List Oper} {o : Oper} {a : Act} {Q : Exit → Act → World → Prop} (w : World) (hgd : o.guard = none) (x : Operand) (ho : o.op = .box 36 x) (k : Int) (s : ByteArray) (p n : Int) (na : Option Addr) (nl nc : Nat) (ka : Option Addr) (kl kc : Nat) (hx : a.eval x = .agg #[.int .i64 k, .string s, .int .i64 p, .int .i64 n, .slice na nl nc, .slice ka kl kc])
    (h : ∀ q w', w'.heap[q]? = some (.cells #[.int .i64 k, .string s, .int .i64 p, .int .i64 n, .slice na nl nc, .slice ka kl kc] 36) → w.heap.size ≤ q → Below w.heap.size w w' → wpList Try.prog ops Q rest (a.put o.dst (.pointer (some ⟨q, 0, none⟩))) w') : wpList Try.prog ops Q (o :: rest) a w :=
  wpList_plain hgd fun _ hK => by
    unfold Oper.wp execOp
    simp only [ho, hx]
    simp [go_sem]
    exact hK _ _ (h w.heap.size _ (newO w _) (Nat.le_refl _) boxO)
/-- What the operations yield. -/
def sndV (x m : Nd) (q3 : Nat) (na ka la va : Option Addr) (nc kc lc vc g : Nat) (j : Nat) : Value :=
  ([.pointer (some ⟨q3, 1, none⟩),
    .string (strOfNums m.text),
    .pointer (some ⟨q3, 2, none⟩),
    .int .i64 (m.pos : Int),
    .agg #[.int .i64 x.kind, .string (strOfNums x.text), .int .i64 (x.pos : Int), .int .i64 (x.n : Int), .slice na x.names.length nc, .slice ka x.kids.length kc],
    .slice (some ⟨g, 0, none⟩) 1 1,
    .pointer (some ⟨q3, 5, none⟩),
    .slice la m.kids.length lc,
    .slice va (1 + m.kids.length) vc,
    .agg #[.int .i64 7, .string (strOfNums m.text), .int .i64 (m.pos : Int), .int .i64 0, .slice none 0 0, .slice va (1 + m.kids.length) vc]] : List Value).getD j undef
theorem sndV_list {l : List Value} (hh : l.length = 10) : ∃ v0 v1 v2 v3 v4 v5 v6 v7 v8 v9, l = [v0, v1, v2, v3, v4, v5, v6, v7, v8, v9] := by
  obtain ⟨v0, t0, rfl, h0⟩ := cons_of hh
  obtain ⟨v1, t1, rfl, h1⟩ := cons_of h0
  obtain ⟨v2, t2, rfl, h2⟩ := cons_of h1
  obtain ⟨v3, t3, rfl, h3⟩ := cons_of h2
  obtain ⟨v4, t4, rfl, h4⟩ := cons_of h3
  obtain ⟨v5, t5, rfl, h5⟩ := cons_of h4
  obtain ⟨v6, t6, rfl, h6⟩ := cons_of h5
  obtain ⟨v7, t7, rfl, h7⟩ := cons_of h6
  obtain ⟨v8, t8, rfl, h8⟩ := cons_of h7
  obtain ⟨v9, t9, rfl, h9⟩ := cons_of h8
  obtain rfl := List.eq_nil_of_length_eq_zero h9
  exact ⟨_, _, _, _, _, _, _, _, _, _, rfl⟩
set_option maxHeartbeats 8000000 in
theorem send_any {w : World} {A0 : Nat → Prop} {x m : Nd} {v u : Value} (hB : ∀ b, w.heap.size ≤ b → A0 b) (hx : NdV A0 w x v) (hm : NdV A0 w m u) (hk : m.kids.length ≤ 90000) :
    Calls Try.prog 87 #[v, u] w fun e w' => ∃ v', e = .returned v' ∧ NdV A0 w' (sentN x m) v' ∧ Below w.heap.size w w' := by
  obtain ⟨na, nc, ka, kc, fl, rfl, _, _, _, bx1, bx2, bx3⟩ := NdV.parts hx
  obtain ⟨ma, mc, la, lc, gl, rfl, _, _, _, bm1, bm2, bm3⟩ := NdV.parts hm
  go_enter Try.func87, Try.ntmps87
  go_wp2_with (refine bx25 _ rfl _ rfl _ _ _ _ _ _ _ _ _ _ rfl ?_)
  intro q2 u1 E2 hq2 C1
  go_wp2_with (refine bx25 _ rfl _ rfl _ _ _ _ _ _ _ _ _ _ rfl ?_)
  intro q3 u2 E3 hq3 C2
  go_wp2_with (refine al25 _ rfl rfl ?_)
  intro q4 w1 E4 hq4 C3
  have l2 := lt_of_block E2
  have l3 := lt_of_block E3
  replace E2 := (C3.block _ (by have := C2.size; omega)).trans ((C2.block _ l2).trans E2)
  replace E3 := (C3.block _ l3).trans E3
  have hx1 : NdV (fun b => A0 b ∧ b ≠ q4) w1 x _ := hx.imp (fun b hb hA => ⟨⟨hA, by have := C1.size; have := C2.size; omega⟩, (C3.block b (by have := C1.size; have := C2.size; omega)).trans ((C2.block b (by have := C1.size; omega)).trans (C1.block b hb))⟩) _ _
  have hm1 : NdV (fun b => A0 b ∧ b ≠ q4) w1 m _ := hm.imp (fun b hb hA => ⟨⟨hA, by have := C1.size; have := C2.size; omega⟩, (C3.block b (by have := C1.size; have := C2.size; omega)).trans ((C2.block b (by have := C1.size; omega)).trans (C1.block b hb))⟩) _ _
  have Bw : Below w.heap.size w w1 := (C1.trans (C2.mono C1.size)).trans (C3.mono (Nat.le_trans C1.size C2.size))
  have hq4' : w.heap.size ≤ q4 := Nat.le_trans (Nat.le_trans C1.size C2.size) hq4
  clear C1 C2 C3 hx hm
  have hx := hx1
  clear hx1
  have hxa : NdV (fun b => A0 b ∧ b ≠ q4) w1 x _ := hx
  have hma : NdV (fun b => A0 b ∧ b ≠ q4) w1 m _ := hm1
  have hbs : ∀ b, w1.heap.size ≤ b → A0 b ∧ b ≠ q4 := fun b h => ⟨hB b (Nat.le_trans Bw.size h), by have := lt_of_block E4; omega⟩
  obtain ⟨ma', mc', la', lc', gl, e, _, sm2, km, _⟩ := NdV.parts hma
  simp only [Value.agg.injEq, Array.mk.injEq, List.cons.injEq, Value.slice.injEq, and_true, true_and] at e
  obtain ⟨⟨rfl, rfl⟩, rfl, rfl⟩ := e
  clear hm1 hq2 hq3 hq4 l2 l3
  go_wp2_with fail
  refine abstract_act fun A hA => ?_
  have hsz : A.tmps.size = 15 := by rw [hA]; rfl
  have s2 : A.tmps[2]? = some (.pointer (some ⟨q2, 0, none⟩)) := by rw [hA]; rfl
  have s3 : A.tmps[3]? = some (.pointer (some ⟨q3, 0, none⟩)) := by rw [hA]; rfl
  have s4 : A.tmps[4]? = some (.pointer (some ⟨q4, 0, none⟩)) := by rw [hA]; rfl
  refine wp_region_inv' (fun A D a w' => ∃ (l : List Value) (va : Option Addr) (vc : Nat) (g : Nat), a = putAll A 5 l ∧ l.length = 10 ∧ (∀ j, j < 10 → D j → l[j]? = some (sndV x m q3 na ka la va nc kc lc vc g j)) ∧ (D 10 ∨ Below w1.heap.size w1 w') ∧ (D 10 → ∃ w6, w'.heap[q4]? = some (.cells #[.int .i64 7, .string (strOfNums m.text), .int .i64 (m.pos : Int), .int .i64 0, .slice none 0 0, .slice va (1 + m.kids.length) vc] 36) ∧ St q4 w6 w' ∧ Below w1.heap.size w1 w6 ∧ RowN w6 (fun b => A0 b ∧ b ≠ q4) (.slice va (1 + m.kids.length) vc) ([x] ++ m.kids)) ∧ (D 5 → ¬ D 8 → RowN w' (fun b => A0 b ∧ b ≠ q4) (.slice (some ⟨g, 0, none⟩) 1 1) [x] ∧ w1.heap.size ≤ g) ∧ (D 8 → ¬ D 10 → RowN w' (fun b => A0 b ∧ b ≠ q4) (.slice va (1 + m.kids.length) vc) ([x] ++ m.kids))) (by kernel_rfl) (by kernel_rfl) ?mono ?start ?step ?done
  case mono =>
    rintro D D' a w' hD ⟨l, va, vc, g, ha, hlen, hl, hB, hQ, hG, hR⟩
    exact ⟨l, va, vc, g, ha, hlen, fun j hj h => hl j hj ((hD j).2 h), hB.imp_left (hD 10).1, fun h => hQ ((hD 10).2 h), fun h h' => hG ((hD 5).2 h) (fun k => h' ((hD 8).1 k)), fun h h' => hR ((hD 8).2 h) (fun k => h' ((hD 10).1 k))⟩
  case start => exact ⟨_, none, 0, 0, (putAll_start A 5 10 (by omega)).1, (putAll_start A 5 10 (by omega)).2, fun _ _ h => h.elim, .inr ((Below.refl _ _).drew), fun h => h.elim, fun h _ => h.elim, fun h _ => h.elim⟩
  case step =>
    clear hA
    intro i o ho D a w' hI hn hcl hd
    obtain ⟨l, va, vc, g, ha, hlen, hl, hB, hQ, hG, hR⟩ := hI
    match i, ho with
    | 0, ho =>
      cases Option.some.inj ho
      have ev : a.tmps[3]? = some (.pointer (some ⟨q3, 0, none⟩)) := by rw [ha, putAll_low A 5 3 l (by omega) (by decide)]; exact s3
      refine wp_value (w' := w') (v := .pointer (some ⟨q3, 1, none⟩)) (by simp [execOp, ev, go_sem]) ?_
      exact ⟨_, va, vc, g, by rw [ha]; exact putAll_put A 5 0 l _ (by omega) (by omega), by rw [List.length_set]; exact hlen, set_known hlen (by decide) hl, hB.imp_left .inr, fun h => hQ (h.resolve_left (by decide)), fun h h' => hG (h.resolve_left (by decide)) (fun k => h' (.inr k)), fun h h' => hR (h.resolve_left (by decide)) (fun k => h' (.inr k))⟩
    | 1, ho =>
      cases Option.some.inj ho
      have ev : a.tmps[5]? = some (.pointer (some ⟨q3, 1, none⟩)) := known_at ha hsz hlen hl 0 (by decide) (hd ⟨0, .data⟩ (by simp) rfl)
      have hb := hB.resolve_left (fun h => (fun h => hn (hcl 9 _ rfl h ⟨1, .data⟩ (by simp) rfl)) (hcl 10 _ rfl h ⟨9, .data⟩ (by simp) rfl))
      obtain ⟨z0, z1, z2, z3, z4, z5, _⟩ := nd_cells ((hb.block _ (lt_of_block E3)).trans E3)
      refine wp_value (w' := w') (v := .string (strOfNums m.text)) (by simp [execOp, ev, go_sem, z1]) ?_
      exact ⟨_, va, vc, g, by rw [ha]; exact putAll_put A 5 1 l _ (by omega) (by omega), by rw [List.length_set]; exact hlen, set_known hlen (by decide) hl, hB.imp_left .inr, fun h => hQ (h.resolve_left (by decide)), fun h h' => hG (h.resolve_left (by decide)) (fun k => h' (.inr k)), fun h h' => hR (h.resolve_left (by decide)) (fun k => h' (.inr k))⟩
    | 2, ho =>
      cases Option.some.inj ho
      have ev : a.tmps[3]? = some (.pointer (some ⟨q3, 0, none⟩)) := by rw [ha, putAll_low A 5 3 l (by omega) (by decide)]; exact s3
      refine wp_value (w' := w') (v := .pointer (some ⟨q3, 2, none⟩)) (by simp [execOp, ev, go_sem]) ?_
      exact ⟨_, va, vc, g, by rw [ha]; exact putAll_put A 5 2 l _ (by omega) (by omega), by rw [List.length_set]; exact hlen, set_known hlen (by decide) hl, hB.imp_left .inr, fun h => hQ (h.resolve_left (by decide)), fun h h' => hG (h.resolve_left (by decide)) (fun k => h' (.inr k)), fun h h' => hR (h.resolve_left (by decide)) (fun k => h' (.inr k))⟩
    | 3, ho =>
      cases Option.some.inj ho
      have ev : a.tmps[7]? = some (.pointer (some ⟨q3, 2, none⟩)) := known_at ha hsz hlen hl 2 (by decide) (hd ⟨2, .data⟩ (by simp) rfl)
      have hb := hB.resolve_left (fun h => (fun h => hn (hcl 9 _ rfl h ⟨3, .data⟩ (by simp) rfl)) (hcl 10 _ rfl h ⟨9, .data⟩ (by simp) rfl))
      obtain ⟨z0, z1, z2, z3, z4, z5, _⟩ := nd_cells ((hb.block _ (lt_of_block E3)).trans E3)
      refine wp_value (w' := w') (v := .int .i64 (m.pos : Int)) (by simp [execOp, ev, go_sem, z2]) ?_
      exact ⟨_, va, vc, g, by rw [ha]; exact putAll_put A 5 3 l _ (by omega) (by omega), by rw [List.length_set]; exact hlen, set_known hlen (by decide) hl, hB.imp_left .inr, fun h => hQ (h.resolve_left (by decide)), fun h h' => hG (h.resolve_left (by decide)) (fun k => h' (.inr k)), fun h h' => hR (h.resolve_left (by decide)) (fun k => h' (.inr k))⟩
    | 4, ho =>
      cases Option.some.inj ho
      have ev : a.tmps[2]? = some (.pointer (some ⟨q2, 0, none⟩)) := by rw [ha, putAll_low A 5 2 l (by omega) (by decide)]; exact s2
      have hb := hB.resolve_left (fun h => (fun h => (fun h => (fun h => hn (hcl 5 _ rfl h ⟨4, .data⟩ (by simp) rfl)) (hcl 8 _ rfl h ⟨5, .data⟩ (by simp) rfl)) (hcl 9 _ rfl h ⟨8, .data⟩ (by simp) rfl)) (hcl 10 _ rfl h ⟨9, .data⟩ (by simp) rfl))
      obtain ⟨z0, z1, z2, z3, z4, z5, _⟩ := nd_cells ((hb.block _ (lt_of_block E2)).trans E2)
      refine wp_value (w' := w') (v := .agg #[.int .i64 x.kind, .string (strOfNums x.text), .int .i64 (x.pos : Int), .int .i64 (x.n : Int), .slice na x.names.length nc, .slice ka x.kids.length kc]) (by simp [execOp, ev, go_sem, z0, z1, z2, z3, z4, z5]) ?_
      exact ⟨_, va, vc, g, by rw [ha]; exact putAll_put A 5 4 l _ (by omega) (by omega), by rw [List.length_set]; exact hlen, set_known hlen (by decide) hl, hB.imp_left .inr, fun h => hQ (h.resolve_left (by decide)), fun h h' => hG (h.resolve_left (by decide)) (fun k => h' (.inr k)), fun h h' => hR (h.resolve_left (by decide)) (fun k => h' (.inr k))⟩
    | 5, ho =>
      cases Option.some.inj ho
      have ev : a.tmps[9]? = some (.agg #[.int .i64 x.kind, .string (strOfNums x.text), .int .i64 (x.pos : Int), .int .i64 (x.n : Int), .slice na x.names.length nc, .slice ka x.kids.length kc]) := known_at ha hsz hlen hl 4 (by decide) (hd ⟨4, .data⟩ (by simp) rfl)
      have hb := hB.resolve_left (fun h => (fun h => (fun h => hn (hcl 8 _ rfl h ⟨5, .data⟩ (by simp) rfl)) (hcl 9 _ rfl h ⟨8, .data⟩ (by simp) rfl)) (hcl 10 _ rfl h ⟨9, .data⟩ (by simp) rfl))
      refine wp_value (w' := w'.alloc (.cells #[.int .i64 x.kind, .string (strOfNums x.text), .int .i64 (x.pos : Int), .int .i64 (x.n : Int), .slice na x.names.length nc, .slice ka x.kids.length kc] 36)) (v := .slice (some ⟨w'.heap.size, 0, none⟩) 1 1) (by simp [execOp, ev, go_sem]) ?_
      exact ⟨_, va, vc, w'.heap.size, by rw [ha]; exact putAll_put A 5 5 l _ (by omega) (by omega), by rw [List.length_set]; exact hlen, set_known' (val' := sndV x m q3 na ka la va nc kc lc vc w'.heap.size) hlen (by decide) hl (fun j hj hne => match j, hj, hne with | 0, _, _ => rfl | 1, _, _ => rfl | 2, _, _ => rfl | 3, _, _ => rfl | 4, _, _ => rfl | 5, _, hne => absurd rfl hne | 6, _, _ => rfl | 7, _, _ => rfl | 8, _, _ => rfl | 9, _, _ => rfl | j + 10, _, _ => rfl), hB.imp .inr (fun h => h.trans (Below.mono boxO h.size)), fun h => absurd (h.resolve_left (by decide)) (fun h => (fun h => (fun h => hn (hcl 8 _ rfl h ⟨5, .data⟩ (by simp) rfl)) (hcl 9 _ rfl h ⟨8, .data⟩ (by simp) rfl)) (hcl 10 _ rfl h ⟨9, .data⟩ (by simp) rfl)), fun _ _ => ⟨lit_row (hxa.imp (fun b hb' hA => ⟨hA, hb.block b hb'⟩) _ _) (hbs _ hb.size), hb.size⟩, fun h _ => absurd (h.resolve_left (by decide)) (fun h => hn (hcl 8 _ rfl h ⟨5, .data⟩ (by simp) rfl))⟩
    | 6, ho =>
      cases Option.some.inj ho
      have ev : a.tmps[3]? = some (.pointer (some ⟨q3, 0, none⟩)) := by rw [ha, putAll_low A 5 3 l (by omega) (by decide)]; exact s3
      refine wp_value (w' := w') (v := .pointer (some ⟨q3, 5, none⟩)) (by simp [execOp, ev, go_sem]) ?_
      exact ⟨_, va, vc, g, by rw [ha]; exact putAll_put A 5 6 l _ (by omega) (by omega), by rw [List.length_set]; exact hlen, set_known hlen (by decide) hl, hB.imp_left .inr, fun h => hQ (h.resolve_left (by decide)), fun h h' => hG (h.resolve_left (by decide)) (fun k => h' (.inr k)), fun h h' => hR (h.resolve_left (by decide)) (fun k => h' (.inr k))⟩
    | 7, ho =>
      cases Option.some.inj ho
      have ev : a.tmps[11]? = some (.pointer (some ⟨q3, 5, none⟩)) := known_at ha hsz hlen hl 6 (by decide) (hd ⟨6, .data⟩ (by simp) rfl)
      have hb := hB.resolve_left (fun h => (fun h => (fun h => hn (hcl 8 _ rfl h ⟨7, .data⟩ (by simp) rfl)) (hcl 9 _ rfl h ⟨8, .data⟩ (by simp) rfl)) (hcl 10 _ rfl h ⟨9, .data⟩ (by simp) rfl))
      obtain ⟨z0, z1, z2, z3, z4, z5, _⟩ := nd_cells ((hb.block _ (lt_of_block E3)).trans E3)
      refine wp_value (w' := w') (v := .slice la m.kids.length lc) (by simp [execOp, ev, go_sem, z5]) ?_
      exact ⟨_, va, vc, g, by rw [ha]; exact putAll_put A 5 7 l _ (by omega) (by omega), by rw [List.length_set]; exact hlen, set_known hlen (by decide) hl, hB.imp_left .inr, fun h => hQ (h.resolve_left (by decide)), fun h h' => hG (h.resolve_left (by decide)) (fun k => h' (.inr k)), fun h h' => hR (h.resolve_left (by decide)) (fun k => h' (.inr k))⟩
    | 8, ho =>
      cases Option.some.inj ho
      have ev : a.tmps[10]? = some (.slice (some ⟨g, 0, none⟩) 1 1) := known_at ha hsz hlen hl 5 (by decide) (hd ⟨5, .data⟩ (by simp) rfl)
      have ev' : a.tmps[12]? = some (.slice la m.kids.length lc) := known_at ha hsz hlen hl 7 (by decide) (hd ⟨7, .data⟩ (by simp) rfl)
      have hb := hB.resolve_left (fun h => (fun h => hn (hcl 9 _ rfl h ⟨8, .data⟩ (by simp) rfl)) (hcl 10 _ rfl h ⟨9, .data⟩ (by simp) rfl))
      have G5 := hG (hd ⟨5, .data⟩ (by simp) rfl) hn
      obtain ⟨v', w6, hr6, R6, K6, _⟩ := app_nds w' 34 G5.1 (sm2.imp (fun b hb' hA => ⟨⟨hA, fun q hq => by simp [Value.ownBlock] at hq; omega⟩, hb.block b hb'⟩)) (km.imp (fun b hb' hA => ⟨⟨hA, fun q hq => by simp [Value.ownBlock] at hq; omega⟩, hb.block b hb'⟩) _ _) (by simp only [List.length_singleton]; omega) (fun b h => hbs b (Nat.le_trans hb.size h))
      obtain ⟨va', vc', rfl⟩ := R6.shape
      have hle : ([x] ++ m.kids).length = 1 + m.kids.length := by simp; omega
      rw [hle] at hr6 R6
      refine Lib.wp_append_run w' (.tmp 10) (.tmp 12) 34 34 rfl _ _ (by simpa [Act.eval] using evalS ev) (by simpa [Act.eval] using evalS ev') _ w6 hr6 ?_
      exact ⟨_, va', vc', g, by rw [ha]; exact putAll_put A 5 8 l _ (by omega) (by omega), by rw [List.length_set]; exact hlen, set_known' (val' := sndV x m q3 na ka la va' nc kc lc vc' g) hlen (by decide) hl (fun j hj hne => match j, hj, hne with | 0, _, _ => rfl | 1, _, _ => rfl | 2, _, _ => rfl | 3, _, _ => rfl | 4, _, _ => rfl | 5, _, _ => rfl | 6, _, _ => rfl | 7, _, _ => rfl | 8, _, hne => absurd rfl hne | 9, hj, _ => absurd hj (fun h => hn (hcl 9 _ rfl h ⟨8, .data⟩ (by simp) rfl)) | j + 10, _, _ => rfl), hB.imp .inr (fun h => h.trans (K6.below h.size (fun q hq => by simp [Value.ownBlock] at hq; omega))), fun h => absurd (h.resolve_left (by decide)) (fun h => (fun h => hn (hcl 9 _ rfl h ⟨8, .data⟩ (by simp) rfl)) (hcl 10 _ rfl h ⟨9, .data⟩ (by simp) rfl)), fun _ h' => absurd (.inl rfl) h', fun _ _ => R6⟩
    | 9, ho =>
      cases Option.some.inj ho
      have ev : a.tmps[6]? = some (.string (strOfNums m.text)) := known_at ha hsz hlen hl 1 (by decide) (hd ⟨1, .data⟩ (by simp) rfl)
      have ev' : a.tmps[8]? = some (.int .i64 (m.pos : Int)) := known_at ha hsz hlen hl 3 (by decide) (hd ⟨3, .data⟩ (by simp) rfl)
      have ev'' : a.tmps[13]? = some (.slice va (1 + m.kids.length) vc) := known_at ha hsz hlen hl 8 (by decide) (hd ⟨8, .data⟩ (by simp) rfl)
      refine wp_value (w' := w') (v := .agg #[.int .i64 7, .string (strOfNums m.text), .int .i64 (m.pos : Int), .int .i64 0, .slice none 0 0, .slice va (1 + m.kids.length) vc]) (by simp [execOp, ev, ev', ev'', go_sem]) ?_
      exact ⟨_, va, vc, g, by rw [ha]; exact putAll_put A 5 9 l _ (by omega) (by omega), by rw [List.length_set]; exact hlen, set_known hlen (by decide) hl, hB.imp_left .inr, fun h => hQ (h.resolve_left (by decide)), fun h h' => hG (h.resolve_left (by decide)) (fun k => h' (.inr k)), fun h h' => hR (h.resolve_left (by decide)) (fun k => h' (.inr k))⟩
    | 10, ho =>
      cases Option.some.inj ho
      have ev : a.tmps[14]? = some (.agg #[.int .i64 7, .string (strOfNums m.text), .int .i64 (m.pos : Int), .int .i64 0, .slice none 0 0, .slice va (1 + m.kids.length) vc]) := known_at ha hsz hlen hl 9 (by decide) (hd ⟨9, .data⟩ (by simp) rfl)
      have hb := hB.resolve_left hn
      have R6 := hR (hcl 9 _ rfl (hd ⟨9, .data⟩ (by simp) rfl) ⟨8, .data⟩ (by simp) rfl) hn
      have e4 : a.tmps[4]? = some (.pointer (some ⟨q4, 0, none⟩)) := by rw [ha, putAll_low A 5 4 l (by omega) (by decide)]; exact s4
      have E4' := (hb.block _ (lt_of_block E4)).trans E4
      refine wp_store_row (P := Try.prog) 36 (.tmp 4) (.tmp 14) rfl q4 #[.int .i64 7, .string (strOfNums m.text), .int .i64 (m.pos : Int), .int .i64 0, .slice none 0 0, .slice va (1 + m.kids.length) vc] (by simpa [Act.eval] using evalS e4) (by simpa [Act.eval] using evalS ev) 36 _ E4' (by kernel_rfl) rfl (by simp [Value.oneCell']) ?_
      exact ⟨l, va, vc, g, ha, hlen, fun j hj h => hl j hj (h.resolve_left (by omega)), .inl (.inl rfl), fun _ => ⟨w', setRow_heap w' q4 _ _ _ _ E4', St.row w' q4 _, hb, R6⟩, fun _ h' => absurd (Or.inr (hcl 9 _ rfl (hd ⟨9, .data⟩ (by simp) rfl) ⟨8, .data⟩ (by simp) rfl)) h', fun _ h' => absurd (.inl rfl) h'⟩
    | i + 11, ho => simp at ho
  case done =>
    rintro D a w' ⟨l, va, vc, g, ha, hlen, hl, hB, hQ, hG, hR⟩ hall
    obtain ⟨v0, v1, v2, v3, v4, v5, v6, v7, v8, v9, rfl⟩ := sndV_list hlen
    obtain ⟨w6, Eq, Sq, Bq, Rq⟩ := hQ (hall 10 (by decide))
    subst hA
    have hfr : a = _ := ha
    rw [hfr]
    clear hfr ha
    simp only [putAll, List.take_succ_cons, List.take_zero, List.drop_succ_cons, List.drop_zero, List.cons_append, List.nil_append, List.length_cons, List.length_nil]
    clear hl hB hQ hG hR hall
    go_wp2
    obtain ⟨_, fl', sl', kf'⟩ := Rq.sl
    refine bodyPost_ret (results_cellT (a := 4) (t := 36) (by rfl) (by rfl) (load25 Eq)) (by rfl) ⟨_, rfl, ?_, Bw.trans ((Bq.mono Bw.size).trans (Sq.below hq4'))⟩
    have hle : ([x] ++ m.kids).length = 1 + m.kids.length := by simp; omega
    have hN := NdV.mk_ (A := fun b => A0 b ∧ b ≠ q4) (k := 7) (t := m.text) (p := m.pos) (n := 0) (l := []) (kids := [x] ++ m.kids) (na := none) (nc := 0) (SlF.nil _ _) (by rw [hle]; exact sl') kf' (by decide) (by rw [hle]; omega) bm3
    rw [hle] at hN
    exact NdV.imp (fun b hb hA => ⟨hA.1, Sq.block b hA.2⟩) _ _ hN
end Go.Proofs.Ytoghhjljmhdioaa
