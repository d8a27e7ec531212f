/- others. -/
import Derived.Test.YtoghhjljmhdioaaKbx
import Derived.Test.YtoghhjljmhdioaaPri
import Derived.Test.YtoghhjljmhdioaaAnyS
namespace Go.Proofs.Ytoghhjljmhdioaa
open Go.RowKit
set_option maxRecDepth 100000
/-- A part's own row lies above a place. -/
def OwnHi (w : World) (q m : Nat) : Prop := ∀ ka kl kc, w.cell? ⟨q, 5, none⟩ = some (.slice ka kl kc) → ∀ g, (Value.slice ka kl kc).ownBlock = some g → m < g
theorem OwnHi.keep {w w' : World} {q m : Nat} (h : OwnHi w q m) (hk : w'.heap[q]? = w.heap[q]?) : OwnHi w' q m := fun ka kl kc hc => h ka kl kc ((World.cell?_of_block (a := ⟨q, 5, none⟩) hk).symm.trans hc)
theorem OwnHi.put {w : World} {q m : Nat} {va : Option Addr} {vn vc : Nat} {u0 u1 u2 u3 u4 u5 : Value} (E : w.heap[q]? = some (.cells #[u0, u1, u2, u3, u4, u5] 36)) (h : ∀ g, (Value.slice va vn vc).ownBlock = some g → m < g) : OwnHi (w.setCell ⟨q, 5, none⟩ (.slice va vn vc)) q m := by
  intro ka kl kc hc
  have e1 := heap_setCell_same w q 5 _ _ (.slice va vn vc) E
  have h5 : (w.setCell ⟨q, 5, none⟩ (.slice va vn vc)).cell? ⟨q, 5, none⟩ = some (.slice va vn vc) := by simp [World.cell?, e1]
  rw [h5] at hc
  simp only [Option.some.injEq, Value.slice.injEq] at hc
  obtain ⟨rfl, rfl, rfl⟩ := hc
  exact h
theorem put_same (a : Act) (t : Nat) (v : Value) (h : t < a.tmps.size) : (a.put (some t) v).tmps[t]? = some v := by
  simp [Act.put, h]
theorem putAll_size (A : Act) (s : Nat) (l : List Value) (h : s + l.length ≤ A.tmps.size) : (putAll A s l).tmps.size = A.tmps.size := by
  simp [putAll]
  omega
def winN (b off kc : Nat) : Option Addr := if kc = 1 then some ⟨b, off, none⟩ else some ⟨b, off + 6, none⟩
theorem run_from1 (b off m kc : Nat) (w : World) : (Instr.slice 34 (.slice (some ⟨b, off, none⟩) (m + 1) kc) (some (.int .i64 1)) none none).run Try.prog w = .ok (.slice (winN b off kc) m (kc - 1)) w := by
  have ht : Try.prog.underlying 34 = some (.slice (Try.prog.elem 34)) := by simp [Program.elem, Try.underlying34]
  have he : Try.prog.elem 34 = 36 := by simp [Program.elem, Try.underlying34]
  have hz : (sizeOf 36).run Try.prog w = .ok 6 w := by
    obtain ⟨i0, hi, hz0, hz1, hz2⟩ := info_pts info25
    simp [sizeOf, typeInfo, hi, hz1]
  rw [run_slice_l w 34 _ _ _ ht .i64 _ (by omega) (by omega), he, hz]
  simp only [Result.andThen, sliced, winN]
  by_cases h : kc = 1
  · subst h
    simp
  · simp [h, addrAdd]
/-- What the operations yield. -/
def othV (s : Nd) (q1 b0 off kl kc m vc g : Nat) (va : Option Addr) (x0 x1 x2 x3 x4 x5 : Value) (j : Nat) : Value :=
  ([.pointer (some ⟨q1, 2, none⟩),
    .int .i64 (s.pos : Int),
    .pointer (some ⟨q1, 5, none⟩),
    .slice (some ⟨b0, off, none⟩) kl kc,
    .pointer (some ⟨b0, off, none⟩),
    .agg #[x0, x1, x2, x3, x4, x5],
    .pointer (some ⟨q1, 1, none⟩),
    .string (strOfNums s.text),
    .pointer (some ⟨q1, 2, none⟩),
    .int .i64 (s.pos : Int),
    .slice va m vc,
    .agg #[.int .i64 9, .string (strOfNums s.text), .int .i64 (s.pos : Int), .int .i64 0, .slice none 0 0, .slice va m vc],
    .slice (some ⟨g, 0, none⟩) 2 2,
    .agg #[.int .i64 8, .string ⟨#[]⟩, .int .i64 (s.pos : Int), .int .i64 0, .slice none 0 0, .slice (some ⟨g, 0, none⟩) 2 2]] : List Value).getD j undef
theorem othV_list {l : List Value} (hh : l.length = 14) : ∃ v0 v1 v2 v3 v4 v5 v6 v7 v8 v9 v10 v11 v12 v13, l = [v0, v1, v2, v3, v4, v5, v6, v7, v8, v9, v10, v11, v12, v13] := by
  obtain ⟨v0, t0, rfl, h0⟩ := cons_of hh
  obtain ⟨v1, t1, rfl, h1⟩ := cons_of h0
  obtain ⟨v2, t2, rfl, h2⟩ := cons_of h1
  obtain ⟨v3, t3, rfl, h3⟩ := cons_of h2
  obtain ⟨v4, t4, rfl, h4⟩ := cons_of h3
  obtain ⟨v5, t5, rfl, h5⟩ := cons_of h4
  obtain ⟨v6, t6, rfl, h6⟩ := cons_of h5
  obtain ⟨v7, t7, rfl, h7⟩ := cons_of h6
  obtain ⟨v8, t8, rfl, h8⟩ := cons_of h7
  obtain ⟨v9, t9, rfl, h9⟩ := cons_of h8
  obtain ⟨v10, t10, rfl, h10⟩ := cons_of h9
  obtain ⟨v11, t11, rfl, h11⟩ := cons_of h10
  obtain ⟨v12, t12, rfl, h12⟩ := cons_of h11
  obtain ⟨v13, t13, rfl, h13⟩ := cons_of h12
  obtain rfl := List.eq_nil_of_length_eq_zero h13
  exact ⟨_, _, _, _, _, _, _, _, _, _, _, _, _, _, rfl⟩
set_option maxHeartbeats 4000000 in
theorem others_con {W : List Tk} {E : Nat} (S : Src W E) {n0 d : Nat} {s : Nd} (hi : n0 ≤ E) (hs : s.kids ≠ []) (H : ∀ j, n0 < j → j ≤ E → Con0 88 W (.msg j d) j d) : Con1 76 W (.others n0 d (cascN s)) s n0 d := by
  intro w p Z v h hAp hA0 hx
  have hpw := h.lt
  obtain ⟨na, nc, ka, kc, _, rfl, _⟩ := NdV.parts hx
  go_enter Try.func76, Try.ntmps76
  go_wp2_with (refine bx25 _ rfl _ rfl _ _ _ _ _ _ _ _ _ _ rfl ?_)
  intro q1 w1 E1 hq1 C1
  go_wp2_with (refine al25 _ rfl rfl ?_)
  intro q2 w2 E2 hq2 C2
  have B02 : Below w.heap.size w w2 := C1.trans (C2.mono C1.size)
  have l1 := lt_of_block E1
  have l2 := lt_of_block E2
  have hs12 : w1.heap.size ≤ w2.heap.size := C2.size
  have hq2' : w.heap.size ≤ q2 := Nat.le_trans C1.size hq2
  have hne : q1 ≠ q2 := by omega
  have hqp : q1 ≠ p := by omega
  have hqp2 : q2 ≠ p := by omega
  have hx2 : NdV (fun b => Z b ∧ b < w.heap.size) w2 s _ := hx.imp (fun b hb hA => ⟨⟨hA, hb⟩, B02.block b hb⟩) _ _
  have X : Sx w p q2 w2 W n0 (d : Int) 20 := ⟨Fr.of_below B02, ⟨_, _, _, _, _, _, E2⟩, (h.fr C1).fr C2, hq2', hpw⟩
  replace E1 := (C2.block _ l1).trans E1
  have hs02 : w.heap.size ≤ w2.heap.size := B02.size
  clear C1 C2 hq2 B02 hx h E2
  obtain ⟨k0, kt, hkt⟩ : ∃ k0 kt, s.kids = k0 :: kt := by
    cases hh : s.kids with
    | nil => exact absurd hh hs
    | cons a b => exact ⟨a, b, rfl⟩
  obtain ⟨_, _, ka', kc', fl, e, _, sk, kf, _, hkl, htl⟩ := NdV.parts hx2
  simp only [Value.agg.injEq, Array.mk.injEq, List.cons.injEq, Value.slice.injEq, and_true, true_and] at e
  obtain ⟨⟨rfl, rfl⟩, rfl, rfl⟩ := e
  have hlen0 := kf.len
  obtain ⟨x0, x1, x2, x3, x4, x5, hN0, hf0, hf1, hf2, hf3, hf4, hf5⟩ := kf.at_ 0 k0 (by rw [hkt]; rfl)
  obtain ⟨b0, off, rfl, hAb, hcell⟩ := sk.cells (by rw [hlen0, hkt, List.length_cons]; omega)
  have hrm := sk.room
  have hmst := sk.most
  obtain ⟨m, hm⟩ : ∃ m, Hid (s.kids.length = m + 1 ∧ kt.length = m) := ⟨kt.length, by rw [hkt]; rfl, rfl⟩
  have hfl6 : fl.drop 6 = fl.drop 6 := rfl
  rw [hm.out.1] at E1 hrm hx2 sk hkl
  have hsl : SlF (fun b => Z b ∧ b < w.heap.size) w2 (winN b0 off kc) m (kc - 1) (fl.drop 6) := by
    refine ⟨by omega, by omega, fun e => ?_, fun h0 => ?_⟩
    · unfold winN at e
      split at e <;> simp at e
    · have hl6 : fl.length = (m + 1) * 6 := by rw [hlen0, hm.out.1]
      rw [List.length_drop] at h0
      have hne1 : ¬ kc = 1 := by omega
      refine ⟨b0, off + 6, by unfold winN; rw [if_neg hne1], hAb, fun j u hj => ?_⟩
      rw [List.getElem?_drop] at hj
      have := hcell (6 + j) u hj
      rwa [← Nat.add_assoc] at this
  have hkt' : KsF (fun b => Z b ∧ b < w.heap.size) w2 kt (fl.drop 6) := by
    rw [hkt] at kf
    simp only [KsF] at kf
    obtain ⟨_, _, _, _, _, _, r, rfl, _, h2⟩ := kf
    exact h2
  have hk0 := hcell 0 _ hf0
  have hk1 := hcell 1 _ hf1
  have hk2 := hcell 2 _ hf2
  have hk3 := hcell 3 _ hf3
  have hk4 := hcell 4 _ hf4
  have hk5 := hcell 5 _ hf5
  have hrun := run_from1 b0 off m kc
  obtain ⟨z0, z1, z2, z3, z4, z5, _⟩ := nd_cells E1
  have hmk : m ≤ 100000 := by omega
  rw [show m = kt.length from hm.out.2.symm] at hsl
  clear hcell hx2 hfl6 sk
  go_wp2_with (at_builtin; refine ap25 _ rfl _ _ rfl (A := fun b => Z b ∧ b ≠ q1 ∧ b ≠ q2 ∧ b ≠ p) rfl (RowN.nil _ _) rfl (m := m) hm.out.2.symm (hsl.imp ?s1) (KsF.imp ?s2 _ _ hkt') ?hn ?hb ?_)
  case s1 =>
    intro b _ hA hA2
    exact ⟨⟨hA, by omega, by omega, fun e => hAp (e ▸ hA)⟩, fun g hg => by simp [Value.ownBlock] at hg⟩
  case s2 =>
    intro b _ hA hA2
    exact ⟨⟨hA, by omega, by omega, fun e => hAp (e ▸ hA)⟩, fun g hg => by simp [Value.ownBlock] at hg⟩
  case hn => have := hm.out.2; simp; omega
  case hb => exact fun b hb => ⟨hA0 b (by omega), by omega, by omega, by omega⟩
  intro va vc w3 R3 K3
  rw [hm.out.2] at R3 ⊢
  have B3 : Below w2.heap.size w2 w3 := K3.below (Nat.le_refl _) (fun g hg => by simp [Value.ownBlock] at hg)
  have hs23 : w2.heap.size ≤ w3.heap.size := B3.size
  replace X := X.bel B3
  replace E1 := (B3.block _ (lt_of_block E1)).trans E1
  have hN3 : NdV (fun b => Z b ∧ b ≠ q1 ∧ b ≠ q2 ∧ b ≠ p) w3 k0 _ := hN0.imp (fun b hb hA => ⟨⟨hA.1, by omega, by omega, fun e => hAp (e ▸ hA.1)⟩, B3.block b hb⟩) _ _
  replace hk0 := (B3.cell (p := ⟨b0, off + 0, none⟩) (block_lt_of_cell hk0)).trans hk0
  replace hk1 := (B3.cell (p := ⟨b0, off + 1, none⟩) (block_lt_of_cell hk1)).trans hk1
  replace hk2 := (B3.cell (p := ⟨b0, off + 2, none⟩) (block_lt_of_cell hk2)).trans hk2
  replace hk3 := (B3.cell (p := ⟨b0, off + 3, none⟩) (block_lt_of_cell hk3)).trans hk3
  replace hk4 := (B3.cell (p := ⟨b0, off + 4, none⟩) (block_lt_of_cell hk4)).trans hk4
  replace hk5 := (B3.cell (p := ⟨b0, off + 5, none⟩) (block_lt_of_cell hk5)).trans hk5
  obtain ⟨kl, hkl'⟩ : ∃ kl, Hid (m + 1 = kl) := ⟨_, rfl⟩
  rw [hkl'.out] at E1
  have hkl0 : (0 : Int) < (kl : Int) := by have := hkl'.out; omega
  have hklne : ¬ kl = 0 := by omega
  clear K3 B3 z0 z1 z2 z3 z4 z5 hrun hsl hkt' hN0 hf0 hf1 hf2 hf3 hf4 hf5
  go_wp2_with fail
  refine abstract_act fun A hA => ?_
  have hsz : A.tmps.size = 46 := by rw [hA]; rfl
  have st : A.tmps[7]? = some (undef) := by rw [hA]; rfl
  have s3 : A.tmps[3]? = some (.pointer (some ⟨q1, 0, none⟩)) := by rw [hA]; rfl
  have s6 : A.tmps[6]? = some (.slice va m vc) := by rw [hA]; rfl
  refine wp_region_inv' (fun A D a w' => ∃ (l : List Value) (vt : Value) (g : Nat) (q4 : Nat), a = (putAll A 15 l).put (some 7) vt ∧ l.length = 14 ∧ (∀ j, j < 14 → D j → l[j]? = some (othV s q1 b0 off kl kc m vc g va x0 x1 x2 x3 x4 x5 j)) ∧ (D 14 → vt = .pointer (some ⟨q4, 0, none⟩)) ∧ (D 15 ∨ Below w3.heap.size w3 w') ∧ (D 15 → ∃ w9, Below w3.heap.size w3 w9 ∧ (w9.heap[g]? = some (.cells #[x0, x1, x2, x3, x4, x5, .int .i64 9, .string (strOfNums s.text), .int .i64 (s.pos : Int), .int .i64 0, .slice none 0 0, .slice va m vc] 36) ∧ w3.heap.size ≤ g) ∧ w3.heap.size ≤ q4 ∧ q4 < w9.heap.size ∧ g ≠ q4 ∧ w'.heap[q4]? = some (.cells #[.int .i64 8, .string ⟨#[]⟩, .int .i64 (s.pos : Int), .int .i64 0, .slice none 0 0, .slice (some ⟨g, 0, none⟩) 2 2] 36) ∧ St q4 w9 w') ∧ (D 12 → ¬ D 15 → (w'.heap[g]? = some (.cells #[x0, x1, x2, x3, x4, x5, .int .i64 9, .string (strOfNums s.text), .int .i64 (s.pos : Int), .int .i64 0, .slice none 0 0, .slice va m vc] 36) ∧ w3.heap.size ≤ g)) ∧ (D 14 → ¬ D 15 → (w'.heap[q4]? = some (.cells #[.int .i64 0, .string ⟨#[]⟩, .int .i64 0, .int .i64 0, .slice none 0 0, .slice none 0 0] 36) ∧ w3.heap.size ≤ q4))) (by kernel_rfl) (by kernel_rfl) ?mono ?start ?step ?done
  case mono =>
    rintro D D' a w' hD ⟨l, vt, g, q4, ha, hlen, hl, hvt, hB, hQ, hG, hZ⟩
    exact ⟨l, vt, g, q4, ha, hlen, fun j hj h => hl j hj ((hD j).2 h), fun h => hvt ((hD 14).2 h), hB.imp_left (hD 15).1, fun h => hQ ((hD 15).2 h), fun h h' => hG ((hD 12).2 h) (fun k => h' ((hD 15).1 k)), fun h h' => hZ ((hD 14).2 h) (fun k => h' ((hD 15).1 k))⟩
  case start => exact ⟨_, _, 0, 0, putT_start A 15 14 7 _ (by omega) (by decide) st, (putAll_start A 15 14 (by omega)).2, fun _ _ h => h.elim, fun h => h.elim, .inr ((Below.refl _ _).drew), fun h => h.elim, fun h _ => h.elim, fun h _ => h.elim⟩
  case step =>
    clear hA
    intro i o ho D a w' hI hn hcl hd
    obtain ⟨l, vt, g, q4, ha, hlen, hl, hvt, hB, hQ, hG, hZ⟩ := hI
    match i, ho with
    | 0, ho =>
      cases Option.some.inj ho
      have ev : a.tmps[3]? = some (.pointer (some ⟨q1, 0, none⟩)) := by rw [ha, putT_other _ _ _ _ (by decide), putAll_low A 15 3 l (by omega) (by decide)]; exact s3
      refine wp_value (w' := w') (v := .pointer (some ⟨q1, 2, none⟩)) (by simp [execOp, ev, go_sem]) ?_
      exact ⟨_, vt, g, q4, by rw [ha]; exact putT_put A 15 0 7 l _ _ (by omega) (by omega) (by decide), by rw [List.length_set]; exact hlen, set_known hlen (by decide) hl, fun h => hvt (h.resolve_left (by decide)), hB.imp_left .inr, fun h => hQ (h.resolve_left (by decide)), fun h h' => hG (h.resolve_left (by decide)) (fun k => h' (.inr k)), fun h h' => hZ (h.resolve_left (by decide)) (fun k => h' (.inr k))⟩
    | 1, ho =>
      cases Option.some.inj ho
      have ev : a.tmps[15]? = some (.pointer (some ⟨q1, 2, none⟩)) := known_atT ha hsz hlen hl 0 (by decide) (hd ⟨0, .data⟩ (by simp) rfl)
      have hb := hB.resolve_left (fun h => (fun h => hn (hcl 13 _ rfl h ⟨1, .data⟩ (by simp) rfl)) (hcl 15 _ rfl h ⟨13, .data⟩ (by simp) rfl))
      obtain ⟨z0, z1, z2, z3, z4, z5, _⟩ := nd_cells ((hb.block _ (lt_of_block E1)).trans E1)
      refine wp_value (w' := w') (v := .int .i64 (s.pos : Int)) (by simp [execOp, ev, go_sem, z2]) ?_
      exact ⟨_, vt, g, q4, by rw [ha]; exact putT_put A 15 1 7 l _ _ (by omega) (by omega) (by decide), by rw [List.length_set]; exact hlen, set_known hlen (by decide) hl, fun h => hvt (h.resolve_left (by decide)), hB.imp_left .inr, fun h => hQ (h.resolve_left (by decide)), fun h h' => hG (h.resolve_left (by decide)) (fun k => h' (.inr k)), fun h h' => hZ (h.resolve_left (by decide)) (fun k => h' (.inr k))⟩
    | 2, ho =>
      cases Option.some.inj ho
      have ev : a.tmps[3]? = some (.pointer (some ⟨q1, 0, none⟩)) := by rw [ha, putT_other _ _ _ _ (by decide), putAll_low A 15 3 l (by omega) (by decide)]; exact s3
      refine wp_value (w' := w') (v := .pointer (some ⟨q1, 5, none⟩)) (by simp [execOp, ev, go_sem]) ?_
      exact ⟨_, vt, g, q4, by rw [ha]; exact putT_put A 15 2 7 l _ _ (by omega) (by omega) (by decide), by rw [List.length_set]; exact hlen, set_known hlen (by decide) hl, fun h => hvt (h.resolve_left (by decide)), hB.imp_left .inr, fun h => hQ (h.resolve_left (by decide)), fun h h' => hG (h.resolve_left (by decide)) (fun k => h' (.inr k)), fun h h' => hZ (h.resolve_left (by decide)) (fun k => h' (.inr k))⟩
    | 3, ho =>
      cases Option.some.inj ho
      have ev : a.tmps[17]? = some (.pointer (some ⟨q1, 5, none⟩)) := known_atT ha hsz hlen hl 2 (by decide) (hd ⟨2, .data⟩ (by simp) rfl)
      have hb := hB.resolve_left (fun h => (fun h => (fun h => (fun h => (fun h => hn (hcl 4 _ rfl h ⟨3, .data⟩ (by simp) rfl)) (hcl 5 _ rfl h ⟨4, .data⟩ (by simp) rfl)) (hcl 12 _ rfl h ⟨5, .data⟩ (by simp) rfl)) (hcl 13 _ rfl h ⟨12, .data⟩ (by simp) rfl)) (hcl 15 _ rfl h ⟨13, .data⟩ (by simp) rfl))
      obtain ⟨z0, z1, z2, z3, z4, z5, _⟩ := nd_cells ((hb.block _ (lt_of_block E1)).trans E1)
      refine wp_value (w' := w') (v := .slice (some ⟨b0, off, none⟩) kl kc) (by simp [execOp, ev, go_sem, z5]) ?_
      exact ⟨_, vt, g, q4, by rw [ha]; exact putT_put A 15 3 7 l _ _ (by omega) (by omega) (by decide), by rw [List.length_set]; exact hlen, set_known hlen (by decide) hl, fun h => hvt (h.resolve_left (by decide)), hB.imp_left .inr, fun h => hQ (h.resolve_left (by decide)), fun h h' => hG (h.resolve_left (by decide)) (fun k => h' (.inr k)), fun h h' => hZ (h.resolve_left (by decide)) (fun k => h' (.inr k))⟩
    | 4, ho =>
      cases Option.some.inj ho
      have ev : a.tmps[18]? = some (.slice (some ⟨b0, off, none⟩) kl kc) := known_atT ha hsz hlen hl 3 (by decide) (hd ⟨3, .data⟩ (by simp) rfl)
      refine wp_value (w' := w') (v := .pointer (some ⟨b0, off, none⟩)) (by simp [execOp, ev, go_sem, hklne, addrAdd]) ?_
      exact ⟨_, vt, g, q4, by rw [ha]; exact putT_put A 15 4 7 l _ _ (by omega) (by omega) (by decide), by rw [List.length_set]; exact hlen, set_known hlen (by decide) hl, fun h => hvt (h.resolve_left (by decide)), hB.imp_left .inr, fun h => hQ (h.resolve_left (by decide)), fun h h' => hG (h.resolve_left (by decide)) (fun k => h' (.inr k)), fun h h' => hZ (h.resolve_left (by decide)) (fun k => h' (.inr k))⟩
    | 5, ho =>
      cases Option.some.inj ho
      have ev : a.tmps[19]? = some (.pointer (some ⟨b0, off, none⟩)) := known_atT ha hsz hlen hl 4 (by decide) (hd ⟨4, .data⟩ (by simp) rfl)
      have hb := hB.resolve_left (fun h => (fun h => (fun h => hn (hcl 12 _ rfl h ⟨5, .data⟩ (by simp) rfl)) (hcl 13 _ rfl h ⟨12, .data⟩ (by simp) rfl)) (hcl 15 _ rfl h ⟨13, .data⟩ (by simp) rfl))
      have c0 := (hb.cell (p := ⟨b0, off + 0, none⟩) (block_lt_of_cell hk0)).trans hk0
      have c1 := (hb.cell (p := ⟨b0, off + 1, none⟩) (block_lt_of_cell hk1)).trans hk1
      have c2 := (hb.cell (p := ⟨b0, off + 2, none⟩) (block_lt_of_cell hk2)).trans hk2
      have c3 := (hb.cell (p := ⟨b0, off + 3, none⟩) (block_lt_of_cell hk3)).trans hk3
      have c4 := (hb.cell (p := ⟨b0, off + 4, none⟩) (block_lt_of_cell hk4)).trans hk4
      have c5 := (hb.cell (p := ⟨b0, off + 5, none⟩) (block_lt_of_cell hk5)).trans hk5
      rw [Nat.add_zero] at c0
      refine wp_value (w' := w') (v := .agg #[x0, x1, x2, x3, x4, x5]) (by simp [execOp, ev, go_sem, c0, c1, c2, c3, c4, c5]) ?_
      exact ⟨_, vt, g, q4, by rw [ha]; exact putT_put A 15 5 7 l _ _ (by omega) (by omega) (by decide), by rw [List.length_set]; exact hlen, set_known hlen (by decide) hl, fun h => hvt (h.resolve_left (by decide)), hB.imp_left .inr, fun h => hQ (h.resolve_left (by decide)), fun h h' => hG (h.resolve_left (by decide)) (fun k => h' (.inr k)), fun h h' => hZ (h.resolve_left (by decide)) (fun k => h' (.inr k))⟩
    | 6, ho =>
      cases Option.some.inj ho
      have ev : a.tmps[3]? = some (.pointer (some ⟨q1, 0, none⟩)) := by rw [ha, putT_other _ _ _ _ (by decide), putAll_low A 15 3 l (by omega) (by decide)]; exact s3
      refine wp_value (w' := w') (v := .pointer (some ⟨q1, 1, none⟩)) (by simp [execOp, ev, go_sem]) ?_
      exact ⟨_, vt, g, q4, by rw [ha]; exact putT_put A 15 6 7 l _ _ (by omega) (by omega) (by decide), by rw [List.length_set]; exact hlen, set_known hlen (by decide) hl, fun h => hvt (h.resolve_left (by decide)), hB.imp_left .inr, fun h => hQ (h.resolve_left (by decide)), fun h h' => hG (h.resolve_left (by decide)) (fun k => h' (.inr k)), fun h h' => hZ (h.resolve_left (by decide)) (fun k => h' (.inr k))⟩
    | 7, ho =>
      cases Option.some.inj ho
      have ev : a.tmps[21]? = some (.pointer (some ⟨q1, 1, none⟩)) := known_atT ha hsz hlen hl 6 (by decide) (hd ⟨6, .data⟩ (by simp) rfl)
      have hb := hB.resolve_left (fun h => (fun h => (fun h => (fun h => hn (hcl 11 _ rfl h ⟨7, .data⟩ (by simp) rfl)) (hcl 12 _ rfl h ⟨11, .data⟩ (by simp) rfl)) (hcl 13 _ rfl h ⟨12, .data⟩ (by simp) rfl)) (hcl 15 _ rfl h ⟨13, .data⟩ (by simp) rfl))
      obtain ⟨z0, z1, z2, z3, z4, z5, _⟩ := nd_cells ((hb.block _ (lt_of_block E1)).trans E1)
      refine wp_value (w' := w') (v := .string (strOfNums s.text)) (by simp [execOp, ev, go_sem, z1]) ?_
      exact ⟨_, vt, g, q4, by rw [ha]; exact putT_put A 15 7 7 l _ _ (by omega) (by omega) (by decide), by rw [List.length_set]; exact hlen, set_known hlen (by decide) hl, fun h => hvt (h.resolve_left (by decide)), hB.imp_left .inr, fun h => hQ (h.resolve_left (by decide)), fun h h' => hG (h.resolve_left (by decide)) (fun k => h' (.inr k)), fun h h' => hZ (h.resolve_left (by decide)) (fun k => h' (.inr k))⟩
    | 8, ho =>
      cases Option.some.inj ho
      have ev : a.tmps[3]? = some (.pointer (some ⟨q1, 0, none⟩)) := by rw [ha, putT_other _ _ _ _ (by decide), putAll_low A 15 3 l (by omega) (by decide)]; exact s3
      refine wp_value (w' := w') (v := .pointer (some ⟨q1, 2, none⟩)) (by simp [execOp, ev, go_sem]) ?_
      exact ⟨_, vt, g, q4, by rw [ha]; exact putT_put A 15 8 7 l _ _ (by omega) (by omega) (by decide), by rw [List.length_set]; exact hlen, set_known hlen (by decide) hl, fun h => hvt (h.resolve_left (by decide)), hB.imp_left .inr, fun h => hQ (h.resolve_left (by decide)), fun h h' => hG (h.resolve_left (by decide)) (fun k => h' (.inr k)), fun h h' => hZ (h.resolve_left (by decide)) (fun k => h' (.inr k))⟩
    | 9, ho =>
      cases Option.some.inj ho
      have ev : a.tmps[23]? = some (.pointer (some ⟨q1, 2, none⟩)) := known_atT ha hsz hlen hl 8 (by decide) (hd ⟨8, .data⟩ (by simp) rfl)
      have hb := hB.resolve_left (fun h => (fun h => (fun h => (fun h => hn (hcl 11 _ rfl h ⟨9, .data⟩ (by simp) rfl)) (hcl 12 _ rfl h ⟨11, .data⟩ (by simp) rfl)) (hcl 13 _ rfl h ⟨12, .data⟩ (by simp) rfl)) (hcl 15 _ rfl h ⟨13, .data⟩ (by simp) rfl))
      obtain ⟨z0, z1, z2, z3, z4, z5, _⟩ := nd_cells ((hb.block _ (lt_of_block E1)).trans E1)
      refine wp_value (w' := w') (v := .int .i64 (s.pos : Int)) (by simp [execOp, ev, go_sem, z2]) ?_
      exact ⟨_, vt, g, q4, by rw [ha]; exact putT_put A 15 9 7 l _ _ (by omega) (by omega) (by decide), by rw [List.length_set]; exact hlen, set_known hlen (by decide) hl, fun h => hvt (h.resolve_left (by decide)), hB.imp_left .inr, fun h => hQ (h.resolve_left (by decide)), fun h h' => hG (h.resolve_left (by decide)) (fun k => h' (.inr k)), fun h h' => hZ (h.resolve_left (by decide)) (fun k => h' (.inr k))⟩
    | 10, ho =>
      cases Option.some.inj ho
      have ev : a.tmps[6]? = some (.slice va m vc) := by rw [ha, putT_other _ _ _ _ (by decide), putAll_low A 15 6 l (by omega) (by decide)]; exact s6
      refine wp_value (w' := w') (v := .slice va m vc) (by simp [execOp, ev, go_sem]) ?_
      exact ⟨_, vt, g, q4, by rw [ha]; exact putT_put A 15 10 7 l _ _ (by omega) (by omega) (by decide), by rw [List.length_set]; exact hlen, set_known hlen (by decide) hl, fun h => hvt (h.resolve_left (by decide)), hB.imp_left .inr, fun h => hQ (h.resolve_left (by decide)), fun h h' => hG (h.resolve_left (by decide)) (fun k => h' (.inr k)), fun h h' => hZ (h.resolve_left (by decide)) (fun k => h' (.inr k))⟩
    | 11, ho =>
      cases Option.some.inj ho
      have ev : a.tmps[22]? = some (.string (strOfNums s.text)) := known_atT ha hsz hlen hl 7 (by decide) (hd ⟨7, .data⟩ (by simp) rfl)
      have ev' : a.tmps[24]? = some (.int .i64 (s.pos : Int)) := known_atT ha hsz hlen hl 9 (by decide) (hd ⟨9, .data⟩ (by simp) rfl)
      have ev'' : a.tmps[25]? = some (.slice va m vc) := known_atT ha hsz hlen hl 10 (by decide) (hd ⟨10, .data⟩ (by simp) rfl)
      refine wp_value (w' := w') (v := .agg #[.int .i64 9, .string (strOfNums s.text), .int .i64 (s.pos : Int), .int .i64 0, .slice none 0 0, .slice va m vc]) (by simp [execOp, ev, ev', ev'', go_sem]) ?_
      exact ⟨_, vt, g, q4, by rw [ha]; exact putT_put A 15 11 7 l _ _ (by omega) (by omega) (by decide), by rw [List.length_set]; exact hlen, set_known hlen (by decide) hl, fun h => hvt (h.resolve_left (by decide)), hB.imp_left .inr, fun h => hQ (h.resolve_left (by decide)), fun h h' => hG (h.resolve_left (by decide)) (fun k => h' (.inr k)), fun h h' => hZ (h.resolve_left (by decide)) (fun k => h' (.inr k))⟩
    | 12, ho =>
      cases Option.some.inj ho
      have ev : a.tmps[20]? = some (.agg #[x0, x1, x2, x3, x4, x5]) := known_atT ha hsz hlen hl 5 (by decide) (hd ⟨5, .data⟩ (by simp) rfl)
      have ev' : a.tmps[26]? = some (.agg #[.int .i64 9, .string (strOfNums s.text), .int .i64 (s.pos : Int), .int .i64 0, .slice none 0 0, .slice va m vc]) := known_atT ha hsz hlen hl 11 (by decide) (hd ⟨11, .data⟩ (by simp) rfl)
      have hb := hB.resolve_left (fun h => (fun h => hn (hcl 13 _ rfl h ⟨12, .data⟩ (by simp) rfl)) (hcl 15 _ rfl h ⟨13, .data⟩ (by simp) rfl))
      refine wp_value (w' := w'.alloc (.cells #[x0, x1, x2, x3, x4, x5, .int .i64 9, .string (strOfNums s.text), .int .i64 (s.pos : Int), .int .i64 0, .slice none 0 0, .slice va m vc] 36)) (v := .slice (some ⟨w'.heap.size, 0, none⟩) 2 2) (by simp [execOp, ev, ev', go_sem]) ?_
      exact ⟨_, vt, w'.heap.size, q4, by rw [ha]; exact putT_put A 15 12 7 l _ _ (by omega) (by omega) (by decide), by rw [List.length_set]; exact hlen, set_known' (val' := othV s q1 b0 off kl kc m vc w'.heap.size va x0 x1 x2 x3 x4 x5) hlen (by decide) hl (fun j hj hne => match j, hj, hne with | 0, _, _ => rfl | 1, _, _ => rfl | 2, _, _ => rfl | 3, _, _ => rfl | 4, _, _ => rfl | 5, _, _ => rfl | 6, _, _ => rfl | 7, _, _ => rfl | 8, _, _ => rfl | 9, _, _ => rfl | 10, _, _ => rfl | 11, _, _ => rfl | 12, _, hne => absurd rfl hne | 13, hj, _ => absurd hj (fun h => hn (hcl 13 _ rfl h ⟨12, .data⟩ (by simp) rfl)) | j + 14, _, _ => rfl), fun h => hvt (h.resolve_left (by decide)), .inr (hb.trans (Below.mono boxO hb.size)), fun h => absurd (h.resolve_left (by decide)) (fun h => (fun h => hn (hcl 13 _ rfl h ⟨12, .data⟩ (by simp) rfl)) (hcl 15 _ rfl h ⟨13, .data⟩ (by simp) rfl)), fun _ _ => ⟨newO w' _, hb.size⟩, fun h h' => ⟨(boxO.block q4 (lt_of_block (hZ (h.resolve_left (by decide)) (fun k => h' (.inr k))).1)).trans (hZ (h.resolve_left (by decide)) (fun k => h' (.inr k))).1, (hZ (h.resolve_left (by decide)) (fun k => h' (.inr k))).2⟩⟩
    | 13, ho =>
      cases Option.some.inj ho
      have ev : a.tmps[16]? = some (.int .i64 (s.pos : Int)) := known_atT ha hsz hlen hl 1 (by decide) (hd ⟨1, .data⟩ (by simp) rfl)
      have ev' : a.tmps[27]? = some (.slice (some ⟨g, 0, none⟩) 2 2) := known_atT ha hsz hlen hl 12 (by decide) (hd ⟨12, .data⟩ (by simp) rfl)
      refine wp_value (w' := w') (v := .agg #[.int .i64 8, .string ⟨#[]⟩, .int .i64 (s.pos : Int), .int .i64 0, .slice none 0 0, .slice (some ⟨g, 0, none⟩) 2 2]) (by simp [execOp, ev, ev', go_sem]) ?_
      exact ⟨_, vt, g, q4, by rw [ha]; exact putT_put A 15 13 7 l _ _ (by omega) (by omega) (by decide), by rw [List.length_set]; exact hlen, set_known hlen (by decide) hl, fun h => hvt (h.resolve_left (by decide)), hB.imp_left .inr, fun h => hQ (h.resolve_left (by decide)), fun h h' => hG (h.resolve_left (by decide)) (fun k => h' (.inr k)), fun h h' => hZ (h.resolve_left (by decide)) (fun k => h' (.inr k))⟩
    | 14, ho =>
      cases Option.some.inj ho
      have hb := hB.resolve_left (fun h => hn (hcl 15 _ rfl h ⟨14, .data⟩ (by simp) rfl))
      refine wp_value (w' := w'.alloc (.cells #[.int .i64 0, .string ⟨#[]⟩, .int .i64 0, .int .i64 0, .slice none 0 0, .slice none 0 0] 36)) (v := .pointer (some ⟨w'.heap.size, 0, none⟩)) (by simp [execOp, go_sem]) ?_
      exact ⟨l, (.pointer (some ⟨w'.heap.size, 0, none⟩)), g, w'.heap.size, by rw [ha]; exact putT_again _ _ _ _, hlen, fun j hj h => hl j hj (h.resolve_left (by omega)), fun _ => rfl, .inr (hb.trans (Below.mono boxO hb.size)), fun h => absurd (h.resolve_left (by decide)) (fun h => hn (hcl 15 _ rfl h ⟨14, .data⟩ (by simp) rfl)), fun h h' => ⟨(boxO.block g (lt_of_block (hG (h.resolve_left (by decide)) (fun k => h' (.inr k))).1)).trans (hG (h.resolve_left (by decide)) (fun k => h' (.inr k))).1, (hG (h.resolve_left (by decide)) (fun k => h' (.inr k))).2⟩, fun _ _ => ⟨newO w' _, hb.size⟩⟩
    | 15, ho =>
      cases Option.some.inj ho
      have ev : a.tmps[28]? = some (.agg #[.int .i64 8, .string ⟨#[]⟩, .int .i64 (s.pos : Int), .int .i64 0, .slice none 0 0, .slice (some ⟨g, 0, none⟩) 2 2]) := known_atT ha hsz hlen hl 13 (by decide) (hd ⟨13, .data⟩ (by simp) rfl)
      have hb := hB.resolve_left hn
      have Zq := hZ (hd ⟨14, .data⟩ (by simp) rfl) hn
      have Gq := hG (hcl 13 _ rfl (hd ⟨13, .data⟩ (by simp) rfl) ⟨12, .data⟩ (by simp) rfl) hn
      have e4 : a.tmps[7]? = some (.pointer (some ⟨q4, 0, none⟩)) := by rw [ha, hvt (hd ⟨14, .data⟩ (by simp) rfl)]; exact put_same _ 7 _ (by rw [putAll_size _ _ _ (by omega)]; omega)
      have hgq : g ≠ q4 := fun e => by have h1 := Gq.1; rw [e, Zq.1] at h1; simp at h1
      refine wp_store_row (P := Try.prog) 36 (.tmp 7) (.tmp 28) rfl q4 #[.int .i64 8, .string ⟨#[]⟩, .int .i64 (s.pos : Int), .int .i64 0, .slice none 0 0, .slice (some ⟨g, 0, none⟩) 2 2] (by simpa [Act.eval] using evalS e4) (by simpa [Act.eval] using evalS ev) 36 _ Zq.1 (by kernel_rfl) rfl (by simp [Value.oneCell']) ?_
      exact ⟨l, vt, g, q4, ha, hlen, fun j hj h => hl j hj (h.resolve_left (by omega)), fun h => hvt (h.resolve_left (by decide)), .inl (.inl rfl), fun _ => ⟨w', hb, Gq, Zq.2, lt_of_block Zq.1, hgq, setRow_heap w' q4 _ _ _ _ Zq.1, St.row w' q4 _⟩, fun _ h' => absurd (.inl rfl) h', fun _ h' => absurd (.inl rfl) h'⟩
    | i + 16, ho => simp at ho
  case done =>
    rintro D a w' ⟨l, vt, g, q4, ha, hlen, hl, hvt, hB, hQ, hG, hZ⟩ hall
    obtain rfl := hvt (hall 14 (by decide))
    obtain ⟨v0, v1, v2, v3, v4, v5, v6, v7, v8, v9, v10, v11, v12, v13, rfl⟩ := othV_list hlen
    obtain ⟨w9, B9, ⟨Eg, hg3⟩, hq3, hq9, hgq, Eq4, S9⟩ := hQ (hall 15 (by decide))
    subst hA
    have hfr : a = _ := ha
    rw [hfr]
    clear hfr ha
    simp only [putAll, List.take_succ_cons, List.take_zero, List.drop_succ_cons, List.drop_zero, List.cons_append, List.nil_append, List.length_cons, List.length_nil]
    clear hl hB hG hZ hQ hall
    have hs39 : w3.heap.size ≤ w9.heap.size := B9.size
    have hs9' := S9.size
    have hqp4 : q4 ≠ p := by omega
    have X9 : Sx w p q2 w' W n0 (d : Int) 20 := (X.bel B9).st S9 (by omega)
    have hA9 : ¬ (Z p ∧ p ≠ q1 ∧ p ≠ q2 ∧ p ≠ p ∧ p ≠ q4) := fun h => h.2.2.2.1 rfl
    have hap9 : ∀ b, (Z b ∧ b ≠ q1 ∧ b ≠ q2 ∧ b ≠ p ∧ b ≠ q4) → b ≠ p := fun b h => h.2.2.2.1
    have K : KBox w' (fun b => Z b ∧ b ≠ q1 ∧ b ≠ q2 ∧ b ≠ p ∧ b ≠ q4) q4 (cascN s) := by
      obtain ⟨_, fl3, sl3, kf3⟩ := R3.sl
      have hM := NdV.mk_ (A := fun b => Z b ∧ b ≠ q1 ∧ b ≠ q2 ∧ b ≠ p) (w := w3) (k := 9) (t := s.text) (p := s.pos) (n := 0) (l := []) (kids := kt) (na := none) (nc := 0) (SlF.nil _ _) (by rw [hm.out.2]; exact sl3) kf3 (by simp) (by rw [hm.out.2]; omega) htl
      rw [hm.out.2] at hM
      have tr3 : ∀ b, b < w3.heap.size → (Z b ∧ b ≠ q1 ∧ b ≠ q2 ∧ b ≠ p) → ((Z b ∧ b ≠ q1 ∧ b ≠ q2 ∧ b ≠ p ∧ b ≠ q4) ∧ ∀ g', (Value.slice (some ⟨g, 0, none⟩) 2 2).ownBlock = some g' → b ≠ g') ∧ w'.heap[b]? = w3.heap[b]? := fun b hb hA => ⟨⟨⟨hA.1, hA.2.1, hA.2.2.1, hA.2.2.2, by omega⟩, fun g' hg' => by simp [Value.ownBlock] at hg'; omega⟩, (S9.block b (by omega)).trans (B9.block b hb)⟩
      have h1 := NdV.imp tr3 _ _ hN3
      have h2 := NdV.imp tr3 _ _ hM
      have hck : (cascN s).kids = [k0, .mk 9 s.text s.pos 0 [] kt] := by show [s.kids.headD _, msgN s.text s.pos s.kids.tail] = _; rw [hkt]; rfl
      have hrow : RowN w' (fun b => Z b ∧ b ≠ q1 ∧ b ≠ q2 ∧ b ≠ p ∧ b ≠ q4) (.slice (some ⟨g, 0, none⟩) 2 2) [k0, .mk 9 s.text s.pos 0 [] kt] := by
        refine ⟨[x0, x1, x2, x3, x4, x5, .int .i64 9, .string (strOfNums s.text), .int .i64 (s.pos : Int), .int .i64 0, .slice none 0 0, .slice va m vc], ⟨rfl, .inr ⟨g, 2, _, rfl, Nat.zero_le _, (S9.block g hgq).trans Eg, Nat.le_refl _, by decide, rfl, rfl⟩⟩, fun g' hg' => ?_, KsF.app (KsF.one h1) (KsF.one h2)⟩
        simp [Value.ownBlock] at hg'
        subst hg'
        exact ⟨hA0 _ (by omega), by omega, by omega, by omega, hgq⟩
      rw [← hck] at hrow
      have hcl : (cascN s).kids.length = 2 := by rw [hck]; rfl
      refine ⟨none, 0, some ⟨g, 0, none⟩, 2, ?_, SlF.nil _ _, by rw [hcl]; exact hrow⟩
      rw [hcl]
      exact Eq4
    have hO9 : Hid (OwnHi w' q4 q2) := by
      intro ka kl' kc' hc' g' hg'
      obtain ⟨_, _, _, _, _, y5, _⟩ := nd_cells Eq4
      rw [y5] at hc'
      simp only [Option.some.injEq, Value.slice.injEq] at hc'
      obtain ⟨rfl, rfl, rfl⟩ := hc'
      simp [Value.ownBlock] at hg'
      omega
    have hck2 : (cascN s).kids.length ≤ 2 := by show ([_, _] : List Nd).length ≤ 2; exact Nat.le_refl _
    have hcn : Hid ((cascN s).names = [] ∧ (cascN s).text = []) := ⟨rfl, rfl⟩
    clear Eg Eq4 S9 B9 R3 hN3 E1
    go_wp2_with fail
    go_loopw [] (fun wr => ∃ (i' : Nat) (x' : Nd), KBox wr (fun b => Z b ∧ b ≠ q1 ∧ b ≠ q2 ∧ b ≠ p ∧ b ≠ q4) q4 x' ∧ Sx w p q2 wr W i' (d : Int) 20 ∧ n0 ≤ i' ∧ i' ≤ E ∧ w'.heap.size ≤ wr.heap.size ∧ x'.kids.length ≤ i' + 2 ∧ Hid (OwnHi wr q4 q2) ∧ Hid (x'.names = [] ∧ x'.text = []) ∧ Hid (∀ r, Reads W (.others i' d x') r → Reads W (.others n0 d (cascN s)) r)) (fun wr => E - atOf wr p)
    case atStart => exact ⟨n0, (cascN s), K, X9, Nat.le_refl _, hi, Nat.le_refl _, by omega, hO9, hcn, fun r hr => hr⟩
    case round =>
      clear K X9 hck2 hcn hO9
      obtain ⟨i', x, K, X, hii, hi', hs5, hxl, hOw, hxn, hR⟩ := hrel
      have hat : atOf wr p = i' := X.rd.atOf
      have hE5 := S.small
      by_cases hk : kdW W i' = 15
      · have hlt : i' < E := S.ends.lt (by rw [hk]; decide)
        go_wp2_with fail
        refine (skip_yes X.rd (S.lt hi') 15 hk).mono ?_
        rintro e w6 ⟨rfl, h6, F6⟩
        have hs56 : wr.heap.size ≤ w6.heap.size := F6.size
        have hOw6 : Hid (OwnHi w6 q4 q2) := OwnHi.keep hOw.out (F6.block q4 K.lt hqp4)
        replace K := K.fr F6 hqp4 hA9
        replace X := X.go F6 h6
        clear F6 h6
        go_wp2_with fail
        refine (H (i' + 1) (by omega) (by omega) w6 p X.rd).mono ?_
        rintro e w7 ⟨r, hr, ha, F7⟩
        have hs67 : w6.heap.size ≤ w7.heap.size := F7.size
        obtain ⟨oa, oc, pa, pc, Ek, sn, rk⟩ := K
        have hko : ∀ b, (Value.slice pa x.kids.length pc).ownBlock = some b → (Z b ∧ b ≠ q1 ∧ b ≠ q2 ∧ b ≠ p ∧ b ≠ q4) ∧ b < w6.heap.size := fun b hb => rk.own hb
        have hko2 : ∀ b, (Value.slice pa x.kids.length pc).ownBlock = some b → b ≠ q1 ∧ b ≠ q2 ∧ b ≠ p ∧ b ≠ q4 := fun b hb => (hko b hb).1.2
        have hko3 : ∀ b, (Value.slice pa x.kids.length pc).ownBlock = some b → q2 < b := hOw6.out _ _ _ (nd_cells Ek).2.2.2.2.2.1
        replace Ek := (F7.block _ (lt_of_block Ek) hqp4).trans Ek
        replace sn := sn.imp (fun b hb hA => ⟨hA, F7.block b hb (hap9 b hA.1)⟩)
        replace rk := rk.keep (fun b hA hb => F7.block b hb (hap9 b hA))
        cases r with
        | er j c =>
          obtain ⟨v, y, d', rfl, hv, h7⟩ := ha
          obtain ⟨na', nc', ka', kc', _, rfl, _⟩ := NdV.parts hv
          have X7 := X.go F7 h7
          go_wp2_with (refine as25 _ rfl rfl rfl 8 rfl _ rfl rfl _ _ _ _ _ _ _ _ _ _ (fun _ => rfl) (fun _ => rfl) ?_)
          intro q5 w8 E8 _ B8
          replace X7 := X7.bel B8
          obtain ⟨u0, u1, u2, u3, u4, u5, Eq⟩ := X7.z
          go_wp2_with (refine st25 _ rfl _ _ rfl rfl _ _ _ _ _ _ _ _ _ _ _ rfl rfl Eq ?_)
          intro wz Ez Sz
          go_wp2
          exact bodyPost_ret (results_cellb (a := 4) (t := 36) (b := 5) (by rfl) (by rfl) (by rfl) (load25 Ez)) (by rfl) ⟨_, hR.out _ (R_others_er hr hk), ⟨_, _, _, rfl, NdV.zero, (X7.fin Sz).2⟩, (X7.fin Sz).1⟩
        | ok y j =>
          obtain ⟨v, rfl, hv, h7⟩ := ha
          have hj : i' + 1 ≤ j ∧ j ≤ E := hr.adv S.ends (by show i' + 1 + 0 ≤ E; omega)
          obtain ⟨na', nc', ka', kc', _, rfl, _⟩ := NdV.parts hv
          have X7 := X.go F7 h7
          clear X F7 h7
          go_wp2_with (refine as25 _ rfl rfl rfl 8 rfl _ rfl rfl _ _ _ _ _ _ _ _ _ _ (fun _ => rfl) (fun _ => rfl) ?_)
          intro q5 w8 E8 _ B8
          replace X7 := X7.bel B8
          replace Ek := (B8.block _ (lt_of_block Ek)).trans Ek
          replace sn := sn.imp (fun b hb hA => ⟨hA, B8.block b hb⟩)
          replace rk := rk.keep (fun b _ hb => B8.block b hb)
          replace hv := hv.bel B8
          have hs78 : w7.heap.size ≤ w8.heap.size := B8.size
          clear B8
          obtain ⟨y0, y1, y2, y3, y4, y5, _⟩ := nd_cells Ek
          obtain ⟨z0, z1, z2, z3, z4, z5, _⟩ := nd_cells E8
          go_wp2_with (refine bs25 _ rfl _ rfl _ _ _ _ _ _ _ _ _ _ rfl ?_)
          intro g w9 E9 hg B9
          replace Ek := (B9.block _ (lt_of_block Ek)).trans Ek
          have hs89 : w8.heap.size ≤ w9.heap.size := B9.size
          replace sn := sn.imp (fun b hb hA => ⟨hA, B9.block b hb⟩)
          replace rk := rk.keep (fun b _ hb => B9.block b hb)
          replace hv := hv.bel B9
          replace X7 := X7.bel B9
          clear y0 y1 y2 y3 y4 y5 z0 z1 z2 z3 z4 z5 B9 E8
          go_wp2_with (at_builtin; refine ap25p _ rfl _ _ rfl rfl rk rfl E9 hv ?hA ?hn ?hb ?_)
          case hA =>
            intro b hb hh
            refine ⟨⟨hA0 b (by omega), by omega, by omega, by omega, by omega⟩, fun g' hg' => ?_⟩
            have := hko g' hg'
            omega
          case hn => have := S.small; omega
          case hb => intro b hb; exact ⟨hA0 b (by omega), by omega, by omega, by omega, by omega⟩
          intro va vc w10 R10 K10 pl10
          obtain ⟨K11, S11⟩ := KBox.put Ek sn R10 K10 pl10 (fun h => h.2.2.2.2 rfl) (fun e => (hko2 _ e).2.2.2 rfl)
          replace X7 := (X7.kp K10 hko3).st S11 (by omega)
          have hs10 : w9.heap.size ≤ w10.heap.size := K10.size
          have hs11 := S11.size
          have hO11 : Hid (OwnHi (w10.setCell ⟨q4, 5, none⟩ (.slice va (x.kids.length + 1) vc)) q4 q2) := OwnHi.put ((K10.block q4 (lt_of_block Ek) (fun e => (hko2 _ e).2.2.2 rfl)).trans Ek) (fun g' hg' => (pl10 g' hg').elim (hko3 g') (fun h => by omega))
          obtain ⟨y0, y1, y2, y3, y4, y5, zf⟩ := nd_cells ((K10.block q4 (lt_of_block Ek) (fun e => (hko2 _ e).2.2.2 rfl)).trans Ek)
          have zf5 := zf 5
          clear S11 K10 R10 pl10 sn rk hv E9
          go_wp2
          go_roundw
          case rel => exact ⟨j, x.kid y, K11, X7, by omega, hj.2, by omega, by simp only [Nd.kid, Nd.kids, List.length_append, List.length_singleton]; show x.kids.length + 1 ≤ j + 2; omega, hO11, ⟨hxn.out.1, hxn.out.2⟩, fun r hr' => hR.out r (R_others_go hr hr' hk)⟩
          case measure => rw [X7.rd.atOf, hat]; omega
      · go_wp2_with fail
        refine (skip_no X.rd (S.lt hi') 15 hk).mono ?_
        rintro e w6 ⟨rfl, h6, F6⟩
        replace K := K.fr F6 hqp4 hA9
        replace X := X.go F6 h6
        clear F6 h6
        have hN := K.nd (by rw [hxn.out.1]; exact Nat.zero_le _) (by omega) (by rw [hxn.out.2]; exact Nat.zero_le _)
        obtain ⟨na', nc', ka', kc', Ek, hv⟩ := hN
        obtain ⟨y0, y1, y2, y3, y4, y5, _⟩ := nd_cells Ek
        obtain ⟨u0, u1, u2, u3, u4, u5, Eq⟩ := X.z
        go_wp2_with (refine st25 _ rfl _ _ rfl rfl _ _ _ _ _ _ _ _ _ _ _ rfl rfl Eq ?_)
        intro wz Ez Sz
        go_wp2
        exact bodyPost_ret (results_cellb (a := 4) (t := 36) (b := 5) (by rfl) (by rfl) (by rfl) (load25 Ez)) (by rfl) ⟨_, hR.out _ (R_others_end hk), ⟨_, rfl, hv.imp (fun b _ hA => ⟨hA.1, Sz.block b hA.2.2.1⟩) _ _, (X.fin Sz).2⟩, (X.fin Sz).1⟩
end Go.Proofs.Ytoghhjljmhdioaa
