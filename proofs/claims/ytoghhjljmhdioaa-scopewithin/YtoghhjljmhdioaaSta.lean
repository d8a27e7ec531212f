/- named, unaryOf. -/
import Derived.Test.YtoghhjljmhdioaaSnd
namespace Go.Proofs.Ytoghhjljmhdioaa
open Go.RowKit
set_option maxRecDepth 100000
/-- A message without arguments. -/
theorem namedR_any {W : List Tk} {E : Nat} (S : Src W E) {w : World} {p i d : Nat} {y : Int} (h : Rdw w p W i d y) (hi : i ≤ E) :
    Calls Try.prog 93 #[.pointer (some ⟨p, 0, none⟩)] w fun e w' => ∃ v, e = .returned v ∧ NdB w.heap.size w' (msgN (txW W i) (psW W i) []) v ∧ Rdw w' p W (i + 1) d y ∧ Fr p w.heap.size w w' := by
  have hp := h.lt
  have htx := S.txt i
  go_enter Try.func93, Try.ntmps93
  go_wp2_with (refine al25 _ rfl rfl ?_)
  intro q w1 E1 hq B1
  go_wp2_with fail
  refine (next_any (h.fr B1) (S.lt hi)).mono ?_
  rintro e w2 ⟨rfl, h2, F2⟩
  have E2 : w2.heap[q]? = _ := (F2.block q (lt_of_block E1) (by omega)).trans E1
  have F02 := (Fr.of_below B1).thn (Nat.le_refl _) F2
  clear E1 F2 B1 h
  go_wp2_with (refine al54 _ rfl rfl ?_)
  intro t w3 E3 ht B3
  go_wp2_with (refine st54 _ rfl _ _ rfl rfl _ _ _ _ rfl rfl E3 ?_)
  intro w4 E4 S4
  have B34 : Below w2.heap.size w2 w4 := B3.trans (S4.below ht)
  replace E2 := (B34.block q (lt_of_block E2)).trans E2
  replace h2 := h2.fr B34
  replace F02 := F02.thn (Nat.le_refl _) (Fr.of_below B34)
  have hqs := lt_of_block E2
  clear E3 S4 B3 B34
  obtain ⟨z0, z1, z2, zf⟩ := tok_cells E4
  go_wp2_with (refine st25 _ rfl _ _ rfl rfl _ _ _ _ _ _ _ _ _ _ _ rfl rfl E2 ?_)
  intro w5 E5 S5
  go_wp2
  refine bodyPost_ret (results_cellT (a := 2) (t := 36) (by rfl) (by rfl) (load25 E5)) (by rfl) ⟨_, rfl, NdV.leaf (by omega), h2.st S5 (by omega), F02.trans (Fr.of_below (S5.below hq)) (Nat.le_refl _)⟩
/-- Where a reader stands. -/
def atOf (w : World) (p : Nat) : Nat := match w.cell? ⟨p, 1, none⟩ with
  | some (.int _ i) => i.toNat
  | _ => 0
theorem Rdw.atOf {w : World} {p : Nat} {W : List Tk} {i : Nat} {d y : Int} (h : Rdw w p W i d y) : atOf w p = i := by
  have := h.own.1
  unfold Go.Proofs.Ytoghhjljmhdioaa.atOf
  rw [this]
  simp
/-- A part in a box. -/
def NBox (w : World) (A : Nat → Prop) (q : Nat) (x : Nd) : Prop := ∃ na nc ka kc, w.heap[q]? = some (.cells #[.int .i64 x.kind, .string (strOfNums x.text), .int .i64 (x.pos : Int), .int .i64 (x.n : Int), .slice na x.names.length nc, .slice ka x.kids.length kc] 36) ∧ NdV A w x (.agg #[.int .i64 x.kind, .string (strOfNums x.text), .int .i64 (x.pos : Int), .int .i64 (x.n : Int), .slice na x.names.length nc, .slice ka x.kids.length kc])
/-- A box that will hold a part. -/
def ZBox (w : World) (q : Nat) : Prop := ∃ u0 u1 u2 u3 u4 u5, w.heap[q]? = some (.cells #[u0, u1, u2, u3, u4, u5] 36)
theorem ZBox.keep {w w' : World} {q : Nat} (h : ZBox w q) (hk : q < w.heap.size → w'.heap[q]? = w.heap[q]?) : ZBox w' q := by
  obtain ⟨u0, u1, u2, u3, u4, u5, h⟩ := h
  exact ⟨u0, u1, u2, u3, u4, u5, (hk (lt_of_block h)).trans h⟩
/-- What the operations yield. -/
def unoV (x z : Nd) (p : Nat) (na ka ma la oa pa : Option Addr) (nc kc mc lc oc pc : Nat) (j : Nat) : Value :=
  ([.agg #[.int .i64 x.kind, .string (strOfNums x.text), .int .i64 (x.pos : Int), .int .i64 (x.n : Int), .slice na x.names.length nc, .slice ka x.kids.length kc],
    .pointer (some ⟨p, 0, none⟩),
    .agg #[.int .i64 z.kind, .string (strOfNums z.text), .int .i64 (z.pos : Int), .int .i64 (z.n : Int), .slice ma z.names.length mc, .slice la z.kids.length lc],
    .agg #[.int .i64 7, .string (strOfNums z.text), .int .i64 (z.pos : Int), .int .i64 0, .slice oa (sentN x z).names.length oc, .slice pa (sentN x z).kids.length pc]] : List Value).getD j undef
theorem unoV_list {l : List Value} (hh : l.length = 4) : ∃ v0 v1 v2 v3, l = [v0, v1, v2, v3] := by
  obtain ⟨v0, t0, rfl, h0⟩ := cons_of hh
  obtain ⟨v1, t1, rfl, h1⟩ := cons_of h0
  obtain ⟨v2, t2, rfl, h2⟩ := cons_of h1
  obtain ⟨v3, t3, rfl, h3⟩ := cons_of h2
  obtain rfl := List.eq_nil_of_length_eq_zero h3
  exact ⟨_, _, _, _, rfl⟩
/-- The unary messages to a receiver. -/
theorem unaryOf_any {W : List Tk} {E : Nat} (S : Src W E) {i d : Nat} {x0 : Nd} (hi : i ≤ E) {w : World} {p : Nat} {A0 : Nat → Prop} {v : Value} (h : Rdw w p W i (d : Int) 20) (hAp : ¬ A0 p) (hA0 : ∀ b, w.heap.size ≤ b → A0 b) (hx : NdV A0 w x0 v) :
    Calls Try.prog 85 #[.pointer (some ⟨p, 0, none⟩), v] w fun e w' => ∃ y j u, Reads W (.unaOf i d x0) (.ok y j) ∧ j ≤ E ∧ e = .returned u ∧ NdV A0 w' y u ∧ Rdw w' p W j (d : Int) 20 ∧ Fr p w.heap.size w w' := by
  have hpw := h.lt
  obtain ⟨na, nc, ka, kc, fl, rfl, _, _, _, bx1, bx2, bx3⟩ := NdV.parts hx
  go_enter Try.func85, Try.ntmps85
  go_wp2_with (refine bx25 _ rfl _ rfl _ _ _ _ _ _ _ _ _ _ rfl ?_)
  intro q1 w1 E1 hq1 C1
  go_wp2_with (refine al25 _ rfl rfl ?_)
  intro q2 w2 E2 hq2 C2
  have B02 : Below w.heap.size w w2 := C1.trans (C2.mono C1.size)
  have l1 := lt_of_block E1
  have l2 := lt_of_block E2
  have hq2' : w.heap.size ≤ q2 := Nat.le_trans C1.size hq2
  have hne : q1 ≠ q2 := by omega
  have hqp : q1 ≠ p := by omega
  have hqp2 : q2 ≠ p := by omega
  have hx2 : NdV (fun b => A0 b ∧ b ≠ q1 ∧ b ≠ q2 ∧ b ≠ p) w2 x0 _ := hx.imp (fun b hb hA => ⟨⟨hA, by omega, by omega, fun e => hAp (e ▸ hA)⟩, B02.block b hb⟩) _ _
  have h2 := (h.fr C1).fr C2
  replace E1 := (C2.block _ l1).trans E1
  have F02 : Fr p w.heap.size w w2 := Fr.of_below B02
  have hZ : ZBox w2 q2 := ⟨_, _, _, _, _, _, E2⟩
  have hs2 : w2.heap.size ≤ w2.heap.size := Nat.le_refl _
  replace l1 := lt_of_block E1
  clear C1 C2 hq2 B02 hx h E2
  go_wp2_with fail
  go_loopw [] (fun wr => ∃ (i' : Nat) (x' : Nd), NBox wr (fun b => A0 b ∧ b ≠ q1 ∧ b ≠ q2 ∧ b ≠ p) q1 x' ∧ ZBox wr q2 ∧ Rdw wr p W i' (d : Int) 20 ∧ Fr p w.heap.size w wr ∧ i ≤ i' ∧ i' ≤ E ∧ w2.heap.size ≤ wr.heap.size ∧ Hid (∀ r, Reads W (.unaOf i' d x') r → Reads W (.unaOf i d x0) r)) (fun wr => E - atOf wr p)
  case atStart => exact ⟨i, x0, ⟨na, nc, ka, kc, E1, hx2⟩, hZ, h2, F02, Nat.le_refl _, hi, hs2, fun r hr => hr⟩
  case round =>
    clear E1 hx2 hZ h2 F02 bx1 bx2 bx3
    obtain ⟨i', x, ⟨na, nc, ka, kc, E1, hx2⟩, hZ, h2, F02, hii, hi', hs2, hR⟩ := hrel
    go_wp2_with fail
    refine (is_any h2 (S.lt hi') 1).mono ?_
    rintro e w3 ⟨rfl, B3⟩
    replace E1 := (B3.block _ (lt_of_block E1)).trans E1
    replace hZ := hZ.keep (fun hl => B3.block _ hl)
    have hx3 : NdV (fun b => A0 b ∧ b ≠ q1 ∧ b ≠ q2 ∧ b ≠ p) w3 x _ := hx2.imp (fun b hb hA => ⟨hA, B3.block b hb⟩) _ _
    replace F02 := F02.thn (Nat.le_refl _) (Fr.of_below B3)
    have h3 := h2.fr B3
    have hat : atOf wr p = i' := h2.atOf
    have hs3 : w2.heap.size ≤ w3.heap.size := Nat.le_trans hs2 B3.size
    clear hx2 h2 B3
    by_cases hk : kdW W i' = 1
    · rw [show (kdW W i' == 1) = true by simp [hk]]
      have hlt : i' < E := S.ends.lt (by rw [hk]; decide)
      have hbs : ∀ b, w3.heap.size ≤ b → A0 b ∧ b ≠ q1 ∧ b ≠ q2 ∧ b ≠ p := fun b h => ⟨hA0 b (by omega), by omega, by omega, by omega⟩
      have E1d : w3.drew.heap[q1]? = _ := E1
      have h3d : Rdw w3.drew p W i' (d : Int) 20 := h3.same (fun _ _ => rfl) rfl
      obtain ⟨z, hz⟩ : ∃ z, Hid (z = msgN (txW W i') (psW W i') []) := ⟨_, rfl⟩
      have hzk : z.kids.length ≤ 90000 := by rw [hz.out]; exact Nat.zero_le _
      go_wp2_with fail
      refine abstract_act fun A hA => ?_
      have hsz : A.tmps.size = 12 := by rw [hA]; rfl
      have s0 : A.tmps[0]? = some (.pointer (some ⟨p, 0, none⟩)) := by rw [hA]; rfl
      have s3 : A.tmps[3]? = some (.pointer (some ⟨q1, 0, none⟩)) := by rw [hA]; rfl
      refine wp_region_inv' (fun A D a w' => ∃ (l : List Value) (ma : Option Addr) (la : Option Addr) (oa : Option Addr) (pa : Option Addr) (mc : Nat) (lc : Nat) (oc : Nat) (pc : Nat), a = putAll A 7 l ∧ l.length = 4 ∧ (∀ j, j < 4 → D j → l[j]? = some (unoV x z p na ka ma la oa pa nc kc mc lc oc pc j)) ∧ (D 4 ∨ w'.heap[q1]? = some (.cells #[.int .i64 x.kind, .string (strOfNums x.text), .int .i64 (x.pos : Int), .int .i64 (x.n : Int), .slice na x.names.length nc, .slice ka x.kids.length kc] 36)) ∧ (D 2 ∨ (Rdw w' p W i' (d : Int) 20 ∧ Below w3.heap.size w3 w')) ∧ (D 4 → ∃ w6, NdV (fun b => A0 b ∧ b ≠ q1 ∧ b ≠ q2 ∧ b ≠ p) w6 (sentN x z) (.agg #[.int .i64 7, .string (strOfNums z.text), .int .i64 (z.pos : Int), .int .i64 0, .slice oa (sentN x z).names.length oc, .slice pa (sentN x z).kids.length pc]) ∧ Rdw w6 p W (i' + 1) (d : Int) 20 ∧ Fr p w3.heap.size w3 w6 ∧ w'.heap[q1]? = some (.cells #[.int .i64 7, .string (strOfNums z.text), .int .i64 (z.pos : Int), .int .i64 0, .slice oa (sentN x z).names.length oc, .slice pa (sentN x z).kids.length pc] 36) ∧ St q1 w6 w') ∧ (D 2 → ¬ D 3 → NdV (fun b => A0 b ∧ b ≠ q1 ∧ b ≠ q2 ∧ b ≠ p) w' z (.agg #[.int .i64 z.kind, .string (strOfNums z.text), .int .i64 (z.pos : Int), .int .i64 (z.n : Int), .slice ma z.names.length mc, .slice la z.kids.length lc]) ∧ Rdw w' p W (i' + 1) (d : Int) 20 ∧ Fr p w3.heap.size w3 w') ∧ (D 3 → ¬ D 4 → NdV (fun b => A0 b ∧ b ≠ q1 ∧ b ≠ q2 ∧ b ≠ p) w' (sentN x z) (.agg #[.int .i64 7, .string (strOfNums z.text), .int .i64 (z.pos : Int), .int .i64 0, .slice oa (sentN x z).names.length oc, .slice pa (sentN x z).kids.length pc]) ∧ Rdw w' p W (i' + 1) (d : Int) 20 ∧ Fr p w3.heap.size w3 w')) (by kernel_rfl) (by kernel_rfl) ?mono ?start ?step ?done
      case mono =>
        rintro D D' a w' hD ⟨l, ma, la, oa, pa, mc, lc, oc, pc, ha, hlen, hl, hE, hN, hQ, hU, hS⟩
        exact ⟨l, ma, la, oa, pa, mc, lc, oc, pc, ha, hlen, fun j hj h => hl j hj ((hD j).2 h), hE.imp_left (hD 4).1, hN.imp_left (hD 2).1, fun h => hQ ((hD 4).2 h), fun h h' => hU ((hD 2).2 h) (fun k => h' ((hD 3).1 k)), fun h h' => hS ((hD 3).2 h) (fun k => h' ((hD 4).1 k))⟩
      case start => exact ⟨_, none, none, none, none, 0, 0, 0, 0, (putAll_start A 7 4 (by omega)).1, (putAll_start A 7 4 (by omega)).2, fun _ _ h => h.elim, .inr (E1d), .inr (⟨h3d, (Below.refl _ _).drew⟩), fun h => h.elim, fun h _ => h.elim, fun h _ => h.elim⟩
      case step =>
        clear hA
        intro i o ho D a w' hI hn hcl hd
        obtain ⟨l, ma, la, oa, pa, mc, lc, oc, pc, ha, hlen, hl, hE, hN, hQ, hU, hS⟩ := hI
        match i, ho with
        | 0, ho =>
          cases Option.some.inj ho
          have ev : a.tmps[3]? = some (.pointer (some ⟨q1, 0, none⟩)) := by rw [ha, putAll_low A 7 3 l (by omega) (by decide)]; exact s3
          have e1 := hE.resolve_left (fun h => (fun h => hn (hcl 3 _ rfl h ⟨0, .data⟩ (by simp) rfl)) (hcl 4 _ rfl h ⟨3, .data⟩ (by simp) rfl))
          obtain ⟨z0, z1, z2, z3, z4, z5, _⟩ := nd_cells e1
          refine wp_value (w' := w') (v := .agg #[.int .i64 x.kind, .string (strOfNums x.text), .int .i64 (x.pos : Int), .int .i64 (x.n : Int), .slice na x.names.length nc, .slice ka x.kids.length kc]) (by simp [execOp, ev, go_sem, z0, z1, z2, z3, z4, z5]) ?_
          exact ⟨_, ma, la, oa, pa, mc, lc, oc, pc, by rw [ha]; exact putAll_put A 7 0 l _ (by omega) (by omega), by rw [List.length_set]; exact hlen, set_known hlen (by decide) hl, hE.imp_left .inr, hN.imp_left .inr, fun h => hQ (h.resolve_left (by decide)), fun h h' => hU (h.resolve_left (by decide)) (fun k => h' (.inr k)), fun h h' => hS (h.resolve_left (by decide)) (fun k => h' (.inr k))⟩
        | 1, ho =>
          cases Option.some.inj ho
          have ev : a.tmps[0]? = some (.pointer (some ⟨p, 0, none⟩)) := by rw [ha, putAll_low A 7 0 l (by omega) (by decide)]; exact s0
          refine wp_value (w' := w') (v := .pointer (some ⟨p, 0, none⟩)) (by simp [execOp, ev, go_sem]) ?_
          exact ⟨_, ma, la, oa, pa, mc, lc, oc, pc, by rw [ha]; exact putAll_put A 7 1 l _ (by omega) (by omega), by rw [List.length_set]; exact hlen, set_known hlen (by decide) hl, hE.imp_left .inr, hN.imp_left .inr, fun h => hQ (h.resolve_left (by decide)), fun h h' => hU (h.resolve_left (by decide)) (fun k => h' (.inr k)), fun h h' => hS (h.resolve_left (by decide)) (fun k => h' (.inr k))⟩
        | 2, ho =>
          cases Option.some.inj ho
          have ev : a.tmps[8]? = some (.pointer (some ⟨p, 0, none⟩)) := known_at ha hsz hlen hl 1 (by decide) (hd ⟨1, .data⟩ (by simp) rfl)
          have hN0 := hN.resolve_left hn
          have e1 := hE.resolve_left (fun h => (fun h => hn (hcl 3 _ rfl h ⟨2, .data⟩ (by simp) rfl)) (hcl 4 _ rfl h ⟨3, .data⟩ (by simp) rfl))
          refine wp_enter (f := 93) (args := #[.pointer (some ⟨p, 0, none⟩)]) (by simp [execOp, ev, go_sem]) ?_
          refine (namedR_any S hN0.1 hi').mono ?_
          rintro e w6 ⟨u, rfl, hu, h4, F4⟩
          refine ⟨_, rfl, ?_⟩
          rw [← hz.out] at hu
          obtain ⟨ma', mc', la', lc', _, rfl, _⟩ := NdV.parts hu
          exact ⟨_, ma', la', oa, pa, mc', lc', oc, pc, by rw [ha]; exact putAll_put A 7 2 l _ (by omega) (by omega), by rw [List.length_set]; exact hlen, set_known' (val' := unoV x z p na ka ma' la' oa pa nc kc mc' lc' oc pc) hlen (by decide) hl (fun j hj hne => match j, hj, hne with | 0, _, _ => rfl | 1, _, _ => rfl | 2, _, hne => absurd rfl hne | 3, _, _ => rfl | j + 4, _, _ => rfl), .inr ((F4.block q1 (lt_of_block e1) hqp).trans e1), .inl (.inl rfl), fun h => absurd (h.resolve_left (by decide)) (fun h => (fun h => hn (hcl 3 _ rfl h ⟨2, .data⟩ (by simp) rfl)) (hcl 4 _ rfl h ⟨3, .data⟩ (by simp) rfl)), fun _ _ => ⟨hu.mono (fun b _ hb => hbs b (Nat.le_trans hN0.2.size hb)), h4, (Fr.of_below hN0.2).thn (Nat.le_refl _) F4⟩, fun h _ => absurd (h.resolve_left (by decide)) (fun h => hn (hcl 3 _ rfl h ⟨2, .data⟩ (by simp) rfl))⟩
        | 3, ho =>
          cases Option.some.inj ho
          have ev : a.tmps[7]? = some (.agg #[.int .i64 x.kind, .string (strOfNums x.text), .int .i64 (x.pos : Int), .int .i64 (x.n : Int), .slice na x.names.length nc, .slice ka x.kids.length kc]) := known_at ha hsz hlen hl 0 (by decide) (hd ⟨0, .data⟩ (by simp) rfl)
          have ev' : a.tmps[9]? = some (.agg #[.int .i64 z.kind, .string (strOfNums z.text), .int .i64 (z.pos : Int), .int .i64 (z.n : Int), .slice ma z.names.length mc, .slice la z.kids.length lc]) := known_at ha hsz hlen hl 2 (by decide) (hd ⟨2, .data⟩ (by simp) rfl)
          have U3 := hU (hd ⟨2, .data⟩ (by simp) rfl) hn
          have e1 := hE.resolve_left (fun h => hn (hcl 4 _ rfl h ⟨3, .data⟩ (by simp) rfl))
          refine wp_enter (f := 87) (args := #[.agg #[.int .i64 x.kind, .string (strOfNums x.text), .int .i64 (x.pos : Int), .int .i64 (x.n : Int), .slice na x.names.length nc, .slice ka x.kids.length kc], .agg #[.int .i64 z.kind, .string (strOfNums z.text), .int .i64 (z.pos : Int), .int .i64 (z.n : Int), .slice ma z.names.length mc, .slice la z.kids.length lc]]) (by simp [execOp, ev, ev', go_sem]) ?_
          refine (send_any (fun b h => hbs b (Nat.le_trans U3.2.2.size h)) (hx3.fr U3.2.2 (fun b hb hl => ⟨hl, hb.2.2.2⟩)) U3.1 hzk).mono ?_
          rintro e w6 ⟨u, rfl, hv, B5⟩
          refine ⟨_, rfl, ?_⟩
          obtain ⟨oa', oc', pa', pc', _, rfl, _⟩ := NdV.parts hv
          exact ⟨_, ma, la, oa', pa', mc, lc, oc', pc', by rw [ha]; exact putAll_put A 7 3 l _ (by omega) (by omega), by rw [List.length_set]; exact hlen, set_known' (val' := unoV x z p na ka ma la oa' pa' nc kc mc lc oc' pc') hlen (by decide) hl (fun j hj hne => match j, hj, hne with | 0, _, _ => rfl | 1, _, _ => rfl | 2, _, _ => rfl | 3, _, hne => absurd rfl hne | j + 4, _, _ => rfl), .inr ((B5.block q1 (lt_of_block e1)).trans e1), .inl (.inr (hd ⟨2, .data⟩ (by simp) rfl)), fun h => absurd (h.resolve_left (by decide)) (fun h => hn (hcl 4 _ rfl h ⟨3, .data⟩ (by simp) rfl)), fun _ h' => absurd (.inl rfl) h', fun _ _ => ⟨hv, U3.2.1.fr B5, U3.2.2.thn (Nat.le_refl _) (Fr.of_below B5)⟩⟩
        | 4, ho =>
          cases Option.some.inj ho
          have ev : a.tmps[10]? = some (.agg #[.int .i64 7, .string (strOfNums z.text), .int .i64 (z.pos : Int), .int .i64 0, .slice oa (sentN x z).names.length oc, .slice pa (sentN x z).kids.length pc]) := known_at ha hsz hlen hl 3 (by decide) (hd ⟨3, .data⟩ (by simp) rfl)
          have S4 := hS (hd ⟨3, .data⟩ (by simp) rfl) hn
          have e1 := hE.resolve_left hn
          have e4 : a.tmps[3]? = some (.pointer (some ⟨q1, 0, none⟩)) := by rw [ha, putAll_low A 7 3 l (by omega) (by decide)]; exact s3
          refine wp_store_row (P := Try.prog) 36 (.tmp 3) (.tmp 10) rfl q1 #[.int .i64 7, .string (strOfNums z.text), .int .i64 (z.pos : Int), .int .i64 0, .slice oa (sentN x z).names.length oc, .slice pa (sentN x z).kids.length pc] (by simpa [Act.eval] using evalS e4) (by simpa [Act.eval] using evalS ev) 36 _ e1 (by kernel_rfl) rfl (by simp [Value.oneCell']) ?_
          exact ⟨l, ma, la, oa, pa, mc, lc, oc, pc, ha, hlen, fun j hj h => hl j hj (h.resolve_left (by omega)), .inl (.inl rfl), .inl (.inr (hcl 3 _ rfl (hd ⟨3, .data⟩ (by simp) rfl) ⟨2, .data⟩ (by simp) rfl)), fun _ => ⟨w', S4.1, S4.2.1, S4.2.2, setRow_heap w' q1 _ _ _ _ e1, St.row w' q1 _⟩, fun _ h' => absurd (Or.inr (hd ⟨3, .data⟩ (by simp) rfl)) h', fun _ h' => absurd (.inl rfl) h'⟩
        | i + 5, ho => simp at ho
      case done =>
        rintro D a w' ⟨l, ma, la, oa, pa, mc, lc, oc, pc, ha, hlen, hl, hE, hN, hQ, hU, hS⟩ hall
        obtain ⟨v0, v1, v2, v3, rfl⟩ := unoV_list hlen
        obtain ⟨w6, Nq, Rq, Fq, Eq, Sq⟩ := hQ (hall 4 (by decide))
        subst hA
        have hfr : a = _ := ha
        rw [hfr]
        clear hfr ha
        simp only [putAll, List.take_succ_cons, List.take_zero, List.drop_succ_cons, List.drop_zero, List.cons_append, List.nil_append, List.length_cons, List.length_nil]
        clear hl hE hN hU hS hQ hall
        have hw6 : w3.heap.size ≤ w6.heap.size := Fq.size
        have l6 : q1 < w6.heap.size := by omega
        have hZ6 : ZBox w' q2 := hZ.keep (fun hl => (Sq.block q2 (fun e => hne e.symm)).trans (Fq.block q2 hl hqp2))
        have hN6 : NdV (fun b => A0 b ∧ b ≠ q1 ∧ b ≠ q2 ∧ b ≠ p) w' (sentN x z) _ := Nq.imp (fun b _ hA => ⟨hA, Sq.block b hA.2.1⟩) _ _
        have h6 := Rq.same (fun b hb => Sq.block b (by have := h3.lt; omega)) (Sq.block p (fun e => hqp e.symm))
        have F6 : Fr p w.heap.size w w' := (F02.thn (Nat.le_refl _) Fq).trans (Fr.of_below (Sq.below (B := w.heap.size) hq1)) (Nat.le_refl _)
        have hR' : Hid (∀ r, Reads W (.unaOf (i' + 1) d (sentN x z)) r → Reads W (.unaOf i d x0) r) := fun r hr => hR.out r (R_unaOf_go (by rw [← hz.out]; exact hr) hk)
        have hs6 : w2.heap.size ≤ w'.heap.size := by rw [Sq.size]; omega
        clear Sq Nq Rq Fq hw6 l6 hz
        go_wp2
        go_roundw
        case rel => exact ⟨i' + 1, sentN x z, ⟨oa, oc, pa, pc, Eq, hN6⟩, hZ6, h6, F6, by omega, hlt, hs6, hR'⟩
        case measure => rw [h6.atOf, hat]; omega
    · rw [show (kdW W i' == 1) = false by simp [hk]]
      obtain ⟨z0, z1, z2, z3, z4, z5, _⟩ := nd_cells E1
      obtain ⟨u0, u1, u2, u3, u4, u5, E2⟩ := hZ
      have hq2l := lt_of_block E2
      go_wp2_with (refine st25 _ rfl _ _ rfl rfl _ _ _ _ _ _ _ _ _ _ _ rfl rfl E2 ?_)
      intro w4 E4 S4
      go_wp2
      refine bodyPost_ret (results_cellT (a := 4) (t := 36) (by rfl) (by rfl) (load25 E4)) (by rfl) ⟨x, i', _, hR.out _ (R_unaOf_end hk), hi', rfl, hx3.imp (fun b hb hA => ⟨hA.1, S4.block b hA.2.2.1⟩) _ _, h3.st S4 (by omega), F02.trans (Fr.of_below (S4.below (B := w.heap.size) hq2')) (Nat.le_refl _)⟩
end Go.Proofs.Ytoghhjljmhdioaa
namespace Go.Proofs.Ytoghhjljmhdioaa
open Go.RowKit
set_option maxRecDepth 100000
structure Sx (w0 : World) (p q : Nat) (w : World) (W : List Tk) (i : Nat) (d y : Int) : Prop where
  fr : Fr p w0.heap.size w0 w
  z : ZBox w q
  rd : Rdw w p W i d y
  hq : w0.heap.size ≤ q
  hp : p < w0.heap.size
theorem ZBox.lt {w : World} {q : Nat} (h : ZBox w q) : q < w.heap.size := by
  obtain ⟨_, _, _, _, _, _, h⟩ := h
  exact lt_of_block h
theorem Sx.start {w w1 : World} {p q : Nat} {W : List Tk} {i : Nat} {d y : Int} (h : Rdw w p W i d y) (hz : ZBox w1 q) (hq : w.heap.size ≤ q) (hB : Below w.heap.size w w1) : Sx w p q w1 W i d y :=
  ⟨Fr.of_below hB, hz, h.fr hB, hq, h.lt⟩
theorem Sx.go {w0 w w' : World} {p q : Nat} {W : List Tk} {i i' : Nat} {d y d' y' : Int} (h : Sx w0 p q w W i d y) (F : Fr p w.heap.size w w') (hr : Rdw w' p W i' d' y') : Sx w0 p q w' W i' d' y' :=
  ⟨h.fr.thn (Nat.le_refl _) F, h.z.keep (fun hl => F.block q hl (by have := h.hq; have := h.hp; omega)), hr, h.hq, h.hp⟩
theorem Sx.bel {w0 w w' : World} {p q : Nat} {W : List Tk} {i : Nat} {d y : Int} (h : Sx w0 p q w W i d y) (B : Below w.heap.size w w') : Sx w0 p q w' W i d y := h.go (Fr.of_below B) (h.rd.fr B)
theorem Sx.fin {w0 w w' : World} {p q : Nat} {W : List Tk} {i : Nat} {d y : Int} (h : Sx w0 p q w W i d y) (S : St q w w') : Fr p w0.heap.size w0 w' ∧ Rdw w' p W i d y :=
  ⟨h.fr.trans (Fr.of_below (S.below h.hq)) (Nat.le_refl _), h.rd.st S (by have := h.hq; have := h.hp; omega)⟩
theorem Sx.size {w0 w : World} {p q : Nat} {W : List Tk} {i : Nat} {d y : Int} (h : Sx w0 p q w W i d y) : w0.heap.size ≤ w.heap.size := h.fr.size
theorem NdV.out {B B0 q : Nat} {w w' : World} {x : Nd} {v : Value} (h : NdV (fun b => B ≤ b) w x v) (S : St q w w') (hq : q < B) (hB : B0 ≤ B) : NdV (fun b => B0 ≤ b) w' x v :=
  h.imp (fun b _ hA => ⟨Nat.le_trans hB hA, S.block b (by omega)⟩) _ _
theorem NdV.bel {A : Nat → Prop} {w w' : World} {x : Nd} {v : Value} (h : NdV A w x v) (B : Below w.heap.size w w') : NdV A w' x v :=
  h.imp (fun b hb hA => ⟨hA, B.block b hb⟩) _ _
section
variable {ops : Array Oper} {rest : List Oper} {o o2 : Oper} {a : Act} {Q : Exit → Act → World → Prop}
/-- A variable that is made and written. -/
theorem as25 (w : World) (hgd : o.guard = none) (ho : o.op = .alloc 36) (hgd2 : o2.guard = none) (t : Nat) (hd : o.dst = some t) (y : Operand) (ho2 : o2.op = .store 36 (.tmp t) y) (hd2 : o2.dst = none) (k : Int) (s : ByteArray) (p n : Int) (na : Option Addr) (nl nc : Nat) (ka : Option Addr) (kl kc : Nat)
    (hx : ∀ q : Nat, (a.put (some t) (.pointer (some ⟨q, 0, none⟩))).eval (.tmp t) = .pointer (some ⟨q, 0, none⟩)) (hy : ∀ q : Nat, (a.put (some t) (.pointer (some ⟨q, 0, none⟩))).eval y = .agg #[.int .i64 k, .string s, .int .i64 p, .int .i64 n, .slice na nl nc, .slice ka kl kc])
    (h : ∀ q w', w'.heap[q]? = some (.cells #[.int .i64 k, .string s, .int .i64 p, .int .i64 n, .slice na nl nc, .slice ka kl kc] 36) → w.heap.size ≤ q → Below w.heap.size w w' → wpList Try.prog ops Q rest (a.put (some t) (.pointer (some ⟨q, 0, none⟩))) w') : wpList Try.prog ops Q (o :: o2 :: rest) a w := by
  refine al25 w hgd ho ?_
  intro q w1 E1 hq B1
  rw [hd]
  refine st25 w1 hgd2 _ y ho2 hd2 q k s p n na nl nc ka kl kc (hx q) (hy q) E1 ?_
  intro w2 E2 S2
  exact h q w2 E2 hq (B1.trans (S2.below hq))
end
theorem unary_con {W : List Tk} {E : Nat} (S : Src W E) {i d : Nat} (hi : i ≤ E) (H : Con0 74 W (.prim i d) i d) : Con0 96 W (.una i d) i d := by
  intro w p h
  go_enter Try.func96, Try.ntmps96
  go_wp2_with (refine al25 _ rfl rfl ?_)
  intro q w1 E1 hq B1
  have X := Sx.start h ⟨_, _, _, _, _, _, E1⟩ hq B1
  clear E1 hq B1 h
  go_wp2_with fail
  refine (H w1 p X.rd).mono ?_
  rintro e w2 ⟨r, hr, ha, F2⟩
  cases r with
  | er j c =>
    obtain ⟨v, x, d', rfl, hv, h2⟩ := ha
    obtain ⟨na, nc, ka, kc, _, rfl, _⟩ := NdV.parts hv
    have X2 := X.go F2 h2
    clear X F2
    go_wp2_with (refine as25 _ rfl rfl rfl 4 rfl _ rfl rfl _ _ _ _ _ _ _ _ _ _ (fun _ => rfl) (fun _ => rfl) ?_)
    intro q4 w3 E3 hq3 B3
    replace X2 := X2.bel B3
    obtain ⟨u0, u1, u2, u3, u4, u5, Eq⟩ := X2.z
    go_wp2_with (refine st25 _ rfl _ _ rfl rfl _ _ _ _ _ _ _ _ _ _ _ rfl rfl Eq ?_)
    intro wz Ez Sz
    go_wp2
    exact bodyPost_ret (results_cellb (a := 2) (t := 36) (b := 3) (by rfl) (by rfl) (by rfl) (load25 Ez)) (by rfl) ⟨_, R_una_er hr, ⟨_, zNd, _, rfl, NdV.zero, (X2.fin Sz).2⟩, (X2.fin Sz).1⟩
  | ok x j =>
    obtain ⟨v, rfl, hv, h2⟩ := ha
    obtain ⟨na, nc, ka, kc, _, rfl, _⟩ := NdV.parts hv
    have X2 := X.go F2 h2
    have hj := hr.adv S.ends hi
    have hq1 := X.z.lt
    have hs1 := X.size
    have hs12 : w1.heap.size ≤ w2.heap.size := F2.size
    clear X F2
    go_wp2_with (refine as25 _ rfl rfl rfl 4 rfl _ rfl rfl _ _ _ _ _ _ _ _ _ _ (fun _ => rfl) (fun _ => rfl) ?_)
    intro q4 w3 E3 hq3 B3
    replace X2 := X2.bel B3
    replace hv := hv.bel B3
    obtain ⟨z0, z1, z2, z3, z4, z5, _⟩ := nd_cells E3
    go_wp2_with fail
    refine (unaryOf_any S hj.2 X2.rd (A0 := fun b => w1.heap.size ≤ b) (by have := X2.hp; omega) (fun b hb => Nat.le_trans (Nat.le_trans hs12 B3.size) hb) hv).mono ?_
    rintro e w4 ⟨y, k, u, hy, hk, rfl, hu, h4, F4⟩
    obtain ⟨ma, mc, la, lc, _, rfl, _⟩ := NdV.parts hu
    replace X2 := X2.go F4 h4
    obtain ⟨u0, u1, u2, u3, u4, u5, Eq⟩ := X2.z
    go_wp2_with (refine st25 _ rfl _ _ rfl rfl _ _ _ _ _ _ _ _ _ _ _ rfl rfl Eq ?_)
    intro wz Ez Sz
    go_wp2
    exact bodyPost_ret (results_cellb (a := 2) (t := 36) (b := 3) (by rfl) (by rfl) (by rfl) (load25 Ez)) (by rfl) ⟨_, R_una_go hr hy, ⟨_, rfl, hu.out Sz hq1 hs1, (X2.fin Sz).2⟩, (X2.fin Sz).1⟩
end Go.Proofs.Ytoghhjljmhdioaa
