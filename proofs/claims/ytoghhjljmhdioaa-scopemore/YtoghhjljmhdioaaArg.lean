/- name, argument. -/
import Derived.Test.YtoghhjljmhdioaaKey
namespace Go.Proofs.Ytoghhjljmhdioaa
open Go.RowKit
set_option maxRecDepth 100000
theorem own_keep {w w' : World} {e sz n : Nat} {v : Value} {xs : List Value} (h : w.ownsRow 0 e sz v n xs) (hk : ∀ g, v.ownBlock = some g → g < w.heap.size → w'.heap[g]? = w.heap[g]?) : w'.ownsRow 0 e sz v n xs := by
  refine ⟨h.1, ?_⟩
  rcases h.2 with h | ⟨g, cap, cur, e, hB, hg, rest⟩
  · exact .inl h
  · exact .inr ⟨g, cap, cur, e, hB, (hk g (by rw [e]; rfl) (lt_of_block hg)).trans hg, rest⟩
theorem rd_kp {w w' : World} {p : Nat} {W : List Tk} {i : Nat} {d y : Int} {v : Value} (h : Rdw w p W i d y) (K : Kp v w w') (hv : ∀ g, v.ownBlock = some g → p < g) : Rdw w' p W i d y :=
  h.same (fun b hb => K.block b (by have := h.lt; omega) (fun e => by have := hv b e; omega)) (K.block p h.lt (fun e => by have := hv p e; omega))
theorem fr_kp {w0 w w' : World} {p B : Nat} {v : Value} (h : Fr p w0.heap.size w0 w) (K : Kp v w w') (hv : ∀ g, v.ownBlock = some g → B ≤ g) (hB : B ≤ w0.heap.size := by assumption) : Fr p B w0 w' :=
  (h.low hB).trans (Fr.of_below (K.below (Nat.le_trans hB h.size) hv)) (Nat.le_refl _)
/-- A part whose names are being made. -/
structure MBox (w : World) (A : Nat → Prop) (q : Nat) (x : Nd) : Prop where
  kids : x.kids = []
  ex : ∃ na nc, w.heap[q]? = some (.cells #[.int .i64 x.kind, .string (strOfNums x.text), .int .i64 (x.pos : Int), .int .i64 (x.n : Int), .slice na x.names.length nc, .slice none 0 0] 36) ∧ w.ownsRow 0 9 1 (.slice na x.names.length nc) x.names.length (x.names.map strV) ∧ ∀ g, (Value.slice na x.names.length nc).ownBlock = some g → A g
theorem MBox.keep {w w' : World} {A : Nat → Prop} {q : Nat} {x : Nd} (h : MBox w A q x) (hq : q < w.heap.size → w'.heap[q]? = w.heap[q]?) (hk : ∀ b, A b → b < w.heap.size → w'.heap[b]? = w.heap[b]?) : MBox w' A q x := by
  obtain ⟨na, nc, E, o, hA⟩ := h.ex
  exact ⟨h.kids, na, nc, (hq (lt_of_block E)).trans E, own_keep o (fun g hg hl => hk g (hA g hg) hl), hA⟩
theorem MBox.bel {w w' : World} {A : Nat → Prop} {q : Nat} {x : Nd} (h : MBox w A q x) (B : Below w.heap.size w w') : MBox w' A q x := h.keep (fun hl => B.block q hl) (fun b _ hb => B.block b hb)
theorem MBox.fr {w w' : World} {p : Nat} {A : Nat → Prop} {q : Nat} {x : Nd} (h : MBox w A q x) (F : Fr p w.heap.size w w') (hq : q ≠ p) (hA : ¬ A p) : MBox w' A q x :=
  h.keep (fun hl => F.block q hl hq) (fun b hb hl => F.block b hl (fun e => hA (e ▸ hb)))
theorem MBox.lt {w : World} {A : Nat → Prop} {q : Nat} {x : Nd} (h : MBox w A q x) : q < w.heap.size := by
  obtain ⟨_, _, E, _⟩ := h.ex
  exact lt_of_block E
/-- What a call on the reader and a part finds. -/
structure Gd (p B q : Nat) (A : Nat → Prop) (w : World) : Prop where
  hp : p < B
  hB : B ≤ w.heap.size
  hq : B ≤ q
  lo : ∀ b, A b → B ≤ b
  nq : ¬ A q
  new : ∀ b, w.heap.size ≤ b → A b
theorem Gd.up {p B q : Nat} {A : Nat → Prop} {w w' : World} (h : Gd p B q A w) (hs : w.heap.size ≤ w'.heap.size) : Gd p B q A w' := ⟨h.hp, Nat.le_trans h.hB hs, h.hq, h.lo, h.nq, fun b hb => h.new b (Nat.le_trans hs hb)⟩
theorem name_no {W : List Tk} {E : Nat} (S : Src W E) {i : Nat} {d : Int} (hi : i ≤ E) (hk : kdW W i ≠ 1) {w : World} {p q : Nat} (h : Rdw w p W i d 20) :
    Calls Try.prog 28 #[.pointer (some ⟨p, 0, none⟩), .pointer (some ⟨q, 0, none⟩)] w fun e w' => e = .returned (.bool false) ∧ Below w.heap.size w w' := by
  go_enter Try.func28, Try.ntmps28
  go_wp2_with fail
  refine (is_any h (S.lt hi) 1).mono ?_
  rintro e w1 ⟨rfl, B1⟩
  rw [show (kdW W i == 1) = false by simp [hk]]
  go_wp2
  go_ret
  exact ⟨rfl, B1⟩
/-- What the operations yield. -/
def nmeV (x : Nd) (p q i' g : Nat) (W : List Tk) (na va : Option Addr) (nc vc : Nat) (j : Nat) : Value :=
  ([.pointer (some ⟨q, 0, none⟩),
    .pointer (some ⟨q, 0, none⟩),
    .pointer (some ⟨q, 0, none⟩),
    .pointer (some ⟨q, 4, none⟩),
    .slice na x.names.length nc,
    .pointer (some ⟨p, 0, none⟩),
    .agg #[.int .i64 (kdW W i'), .string (strOfNums (txW W i')), .int .i64 (psW W i' : Int)],
    (.string (strOfNums (txW W i'))),
    .slice (some ⟨g, 0, none⟩) 1 1,
    .slice va (x.names.length + 1) vc,
    .pointer (some ⟨q, 0, none⟩),
    .pointer (some ⟨q, 4, none⟩)] : List Value).getD j undef
theorem nmeV_list {l : List Value} (hh : l.length = 12) : ∃ v0 v1 v2 v3 v4 v5 v6 v7 v8 v9 v10 v11, l = [v0, v1, v2, v3, v4, v5, v6, v7, v8, v9, v10, v11] := by
  obtain ⟨v0, t0, rfl, h0⟩ := cons_of hh
  obtain ⟨v1, t1, rfl, h1⟩ := cons_of h0
  obtain ⟨v2, t2, rfl, h2⟩ := cons_of h1
  obtain ⟨v3, t3, rfl, h3⟩ := cons_of h2
  obtain ⟨v4, t4, rfl, h4⟩ := cons_of h3
  obtain ⟨v5, t5, rfl, h5⟩ := cons_of h4
  obtain ⟨v6, t6, rfl, h6⟩ := cons_of h5
  obtain ⟨v7, t7, rfl, h7⟩ := cons_of h6
  obtain ⟨v8, t8, rfl, h8⟩ := cons_of h7
  obtain ⟨v9, t9, rfl, h9⟩ := cons_of h8
  obtain ⟨v10, t10, rfl, h10⟩ := cons_of h9
  obtain ⟨v11, t11, rfl, h11⟩ := cons_of h10
  obtain rfl := List.eq_nil_of_length_eq_zero h11
  exact ⟨_, _, _, _, _, _, _, _, _, _, _, _, rfl⟩
set_option maxHeartbeats 2000000 in
theorem name_yes {W : List Tk} {E : Nat} (S : Src W E) {i' : Nat} {d : Int} (hi : i' ≤ E) (hk : kdW W i' = 1) {w : World} {p q B : Nat} {Z : Nat → Prop} {x : Nd} (G : Gd p B q Z w) (M : MBox w Z q x) (hxl : x.names.length ≤ 90000) (h : Rdw w p W i' d 20) :
    Calls Try.prog 28 #[.pointer (some ⟨p, 0, none⟩), .pointer (some ⟨q, 0, none⟩)] w fun e w' => e = .returned (.bool true) ∧ MBox w' Z q (x.tmp (txW W i')) ∧ Rdw w' p W (i' + 1) d 20 ∧ Fr p B w w' := by
  go_enter Try.func28, Try.ntmps28
  go_wp2_with fail
  refine (is_any h (S.lt hi) 1).mono ?_
  rintro e w6 ⟨rfl, B1⟩
  rw [show (kdW W i' == 1) = true by simp [hk]]
  replace M := M.bel B1
  replace h := h.fr B1
  have G6 := G.up B1.size
  have hBl : B ≤ w6.heap.size := G6.hB
  have hqp : q ≠ p := by have := G.hp; have := G.hq; omega
  have hAp : ¬ Z p := fun e => by have := G.lo p e; have := G.hp; omega
  have hAq : ¬ Z q := G.nq
  have hnw := G6.new
  have hAB := G.lo
  have hAlo : ∀ b, Z b → p < b := fun b hb => by have := G.lo b hb; have := G.hp; omega
  have hkd := M.kids
  obtain ⟨na, nc, Ek, hO6, hoA⟩ := M.ex
  have Ekd : w6.drew.heap[q]? = _ := Ek
  have hOd : w6.drew.ownsRow 0 9 1 _ _ _ := hO6
  have h6d : Rdw w6.drew p W i' d 20 ∧ Fr p w6.heap.size w6 w6.drew := ⟨h.same (fun _ _ => rfl) rfl, Fr.of_below (Below.refl _ _).drew⟩
  clear M G6
  go_wp2_with fail
  refine abstract_act fun A hA => ?_
  have hsz : A.tmps.size = 20 := by rw [hA]; rfl
  have s0 : A.tmps[0]? = some (.pointer (some ⟨p, 0, none⟩)) := by rw [hA]; rfl
  have s1 : A.tmps[1]? = some (.pointer (some ⟨q, 0, none⟩)) := by rw [hA]; rfl
  refine wp_region_inv' (fun A D a w' => ∃ (l : List Value) (va : Option Addr) (vc : Nat) (g : Nat), a = putAll A 8 l ∧ l.length = 12 ∧ (∀ j, j < 12 → D j → l[j]? = some (nmeV x p q i' g W na va nc vc j)) ∧ (D 12 ∨ w'.heap[q]? = some (.cells #[.int .i64 x.kind, .string (strOfNums x.text), .int .i64 (x.pos : Int), .int .i64 (x.n : Int), .slice na x.names.length nc, .slice none 0 0] 36)) ∧ (D 6 ∨ (Rdw w' p W i' d 20 ∧ Fr p w6.heap.size w6 w')) ∧ (D 9 ∨ w'.ownsRow 0 9 1 (.slice na x.names.length nc) x.names.length (x.names.map strV)) ∧ (D 12 → ∃ w9, (Rdw w9 p W (i' + 1) d 20 ∧ Fr p B w6 w9 ∧ w9.ownsRow 0 9 1 (.slice va (x.names.length + 1) vc) (x.names.length + 1) ((x.names ++ [txW W i']).map strV) ∧ ∀ g', (Value.slice va (x.names.length + 1) vc).ownBlock = some g' → Z g') ∧ w' = w9.setCell ⟨q, 4, none⟩ (.slice va (x.names.length + 1) vc) ∧ w9.heap[q]? = some (.cells #[.int .i64 x.kind, .string (strOfNums x.text), .int .i64 (x.pos : Int), .int .i64 (x.n : Int), .slice na x.names.length nc, .slice none 0 0] 36)) ∧ (D 6 → ¬ D 8 → (Rdw w' p W (i' + 1) d 20 ∧ Fr p w6.heap.size w6 w')) ∧ (D 8 → ¬ D 9 → (Rdw w' p W (i' + 1) d 20 ∧ Fr p w6.heap.size w6 w' ∧ w'.heap[g]? = some (.cells #[.string (strOfNums (txW W i'))] 9) ∧ w6.heap.size ≤ g)) ∧ (D 9 → ¬ D 12 → (Rdw w' p W (i' + 1) d 20 ∧ Fr p B w6 w' ∧ w'.ownsRow 0 9 1 (.slice va (x.names.length + 1) vc) (x.names.length + 1) ((x.names ++ [txW W i']).map strV) ∧ ∀ g', (Value.slice va (x.names.length + 1) vc).ownBlock = some g' → Z g'))) (by kernel_rfl) (by kernel_rfl) ?mono ?start ?step ?done
  case mono =>
    rintro D D' a w' hD ⟨l, va, vc, g, ha, hlen, hl, hE, hN, hO, hQ, hL, hM, hR⟩
    exact ⟨l, va, vc, g, ha, hlen, fun j hj h => hl j hj ((hD j).2 h), hE.imp_left (hD 12).1, hN.imp_left (hD 6).1, hO.imp_left (hD 9).1, fun h => hQ ((hD 12).2 h), fun h h' => hL ((hD 6).2 h) (fun k => h' ((hD 8).1 k)), fun h h' => hM ((hD 8).2 h) (fun k => h' ((hD 9).1 k)), fun h h' => hR ((hD 9).2 h) (fun k => h' ((hD 12).1 k))⟩
  case start => exact ⟨_, none, 0, 0, (putAll_start A 8 12 (by omega)).1, (putAll_start A 8 12 (by omega)).2, fun _ _ h => h.elim, .inr (Ekd), .inr (h6d), .inr (hOd), fun h => h.elim, fun h _ => h.elim, fun h _ => h.elim, fun h _ => h.elim⟩
  case step =>
    clear hA
    intro i o ho D a w' hI hn hcl hd
    obtain ⟨l, va, vc, g, ha, hlen, hl, hE, hN, hO, hQ, hL, hM, hR⟩ := hI
    match i, ho with
    | 0, ho =>
      cases Option.some.inj ho
      have ev : a.tmps[1]? = some (.pointer (some ⟨q, 0, none⟩)) := by rw [ha, putAll_low A 8 1 l (by omega) (by decide)]; exact s1
      refine wp_value (w' := w') (v := .pointer (some ⟨q, 0, none⟩)) (by simp [execOp, ev, go_sem]) ?_
      exact ⟨_, va, vc, g, by rw [ha]; exact putAll_put A 8 0 l _ (by omega) (by omega), by rw [List.length_set]; exact hlen, set_known hlen (by decide) hl, hE.imp_left .inr, hN.imp_left .inr, hO.imp_left .inr, fun h => hQ (h.resolve_left (by decide)), fun h h' => hL (h.resolve_left (by decide)) (fun k => h' (.inr k)), fun h h' => hM (h.resolve_left (by decide)) (fun k => h' (.inr k)), fun h h' => hR (h.resolve_left (by decide)) (fun k => h' (.inr k))⟩
    | 1, ho =>
      cases Option.some.inj ho
      have ev : a.tmps[1]? = some (.pointer (some ⟨q, 0, none⟩)) := by rw [ha, putAll_low A 8 1 l (by omega) (by decide)]; exact s1
      refine wp_value (w' := w') (v := .pointer (some ⟨q, 0, none⟩)) (by simp [execOp, ev, go_sem]) ?_
      exact ⟨_, va, vc, g, by rw [ha]; exact putAll_put A 8 1 l _ (by omega) (by omega), by rw [List.length_set]; exact hlen, set_known hlen (by decide) hl, hE.imp_left .inr, hN.imp_left .inr, hO.imp_left .inr, fun h => hQ (h.resolve_left (by decide)), fun h h' => hL (h.resolve_left (by decide)) (fun k => h' (.inr k)), fun h h' => hM (h.resolve_left (by decide)) (fun k => h' (.inr k)), fun h h' => hR (h.resolve_left (by decide)) (fun k => h' (.inr k))⟩
    | 2, ho =>
      cases Option.some.inj ho
      have ev : a.tmps[9]? = some (.pointer (some ⟨q, 0, none⟩)) := known_at ha hsz hlen hl 1 (by decide) (hd ⟨1, .data⟩ (by simp) rfl)
      refine wp_value (w' := w') (v := .pointer (some ⟨q, 0, none⟩)) (by simp [execOp, ev, go_sem]) ?_
      exact ⟨_, va, vc, g, by rw [ha]; exact putAll_put A 8 2 l _ (by omega) (by omega), by rw [List.length_set]; exact hlen, set_known hlen (by decide) hl, hE.imp_left .inr, hN.imp_left .inr, hO.imp_left .inr, fun h => hQ (h.resolve_left (by decide)), fun h h' => hL (h.resolve_left (by decide)) (fun k => h' (.inr k)), fun h h' => hM (h.resolve_left (by decide)) (fun k => h' (.inr k)), fun h h' => hR (h.resolve_left (by decide)) (fun k => h' (.inr k))⟩
    | 3, ho =>
      cases Option.some.inj ho
      have ev : a.tmps[10]? = some (.pointer (some ⟨q, 0, none⟩)) := known_at ha hsz hlen hl 2 (by decide) (hd ⟨2, .data⟩ (by simp) rfl)
      refine wp_value (w' := w') (v := .pointer (some ⟨q, 4, none⟩)) (by simp [execOp, ev, go_sem]) ?_
      exact ⟨_, va, vc, g, by rw [ha]; exact putAll_put A 8 3 l _ (by omega) (by omega), by rw [List.length_set]; exact hlen, set_known hlen (by decide) hl, hE.imp_left .inr, hN.imp_left .inr, hO.imp_left .inr, fun h => hQ (h.resolve_left (by decide)), fun h h' => hL (h.resolve_left (by decide)) (fun k => h' (.inr k)), fun h h' => hM (h.resolve_left (by decide)) (fun k => h' (.inr k)), fun h h' => hR (h.resolve_left (by decide)) (fun k => h' (.inr k))⟩
    | 4, ho =>
      cases Option.some.inj ho
      have ev : a.tmps[11]? = some (.pointer (some ⟨q, 4, none⟩)) := known_at ha hsz hlen hl 3 (by decide) (hd ⟨3, .data⟩ (by simp) rfl)
      have e1 := hE.resolve_left (fun h => (fun h => hn (hcl 9 _ rfl h ⟨4, .data⟩ (by simp) rfl)) (hcl 12 _ rfl h ⟨9, .data⟩ (by simp) rfl))
      obtain ⟨z0, z1, z2, z3, z4, z5, _⟩ := nd_cells e1
      refine wp_value (w' := w') (v := .slice na x.names.length nc) (by simp [execOp, ev, go_sem, z4]) ?_
      exact ⟨_, va, vc, g, by rw [ha]; exact putAll_put A 8 4 l _ (by omega) (by omega), by rw [List.length_set]; exact hlen, set_known hlen (by decide) hl, hE.imp_left .inr, hN.imp_left .inr, hO.imp_left .inr, fun h => hQ (h.resolve_left (by decide)), fun h h' => hL (h.resolve_left (by decide)) (fun k => h' (.inr k)), fun h h' => hM (h.resolve_left (by decide)) (fun k => h' (.inr k)), fun h h' => hR (h.resolve_left (by decide)) (fun k => h' (.inr k))⟩
    | 5, ho =>
      cases Option.some.inj ho
      have ev : a.tmps[0]? = some (.pointer (some ⟨p, 0, none⟩)) := by rw [ha, putAll_low A 8 0 l (by omega) (by decide)]; exact s0
      refine wp_value (w' := w') (v := .pointer (some ⟨p, 0, none⟩)) (by simp [execOp, ev, go_sem]) ?_
      exact ⟨_, va, vc, g, by rw [ha]; exact putAll_put A 8 5 l _ (by omega) (by omega), by rw [List.length_set]; exact hlen, set_known hlen (by decide) hl, hE.imp_left .inr, hN.imp_left .inr, hO.imp_left .inr, fun h => hQ (h.resolve_left (by decide)), fun h h' => hL (h.resolve_left (by decide)) (fun k => h' (.inr k)), fun h h' => hM (h.resolve_left (by decide)) (fun k => h' (.inr k)), fun h h' => hR (h.resolve_left (by decide)) (fun k => h' (.inr k))⟩
    | 6, ho =>
      cases Option.some.inj ho
      have ev : a.tmps[13]? = some (.pointer (some ⟨p, 0, none⟩)) := known_at ha hsz hlen hl 5 (by decide) (hd ⟨5, .data⟩ (by simp) rfl)
      have h6 := hN.resolve_left hn
      have e1 := hE.resolve_left (fun h => (fun h => (fun h => (fun h => hn (hcl 7 _ rfl h ⟨6, .data⟩ (by simp) rfl)) (hcl 8 _ rfl h ⟨7, .data⟩ (by simp) rfl)) (hcl 9 _ rfl h ⟨8, .data⟩ (by simp) rfl)) (hcl 12 _ rfl h ⟨9, .data⟩ (by simp) rfl))
      have o1 := hO.resolve_left (fun h => (fun h => (fun h => hn (hcl 7 _ rfl h ⟨6, .data⟩ (by simp) rfl)) (hcl 8 _ rfl h ⟨7, .data⟩ (by simp) rfl)) (hcl 9 _ rfl h ⟨8, .data⟩ (by simp) rfl))
      refine wp_enter (f := 25) (args := #[.pointer (some ⟨p, 0, none⟩)]) (by simp [execOp, ev, go_sem]) ?_
      refine (next_any h6.1 (S.lt hi)).mono ?_
      rintro e w6 ⟨rfl, h9, F9⟩
      refine ⟨_, rfl, ?_⟩
      exact ⟨_, va, vc, g, by rw [ha]; exact putAll_put A 8 6 l _ (by omega) (by omega), by rw [List.length_set]; exact hlen, set_known hlen (by decide) hl, .inr ((F9.block q (lt_of_block e1) hqp).trans e1), .inl (.inl rfl), .inr (own_keep o1 (fun g' hg' hl => F9.block g' hl (fun e => hAp (e ▸ hoA g' hg')))), fun h => absurd (h.resolve_left (by decide)) (fun h => (fun h => (fun h => (fun h => hn (hcl 7 _ rfl h ⟨6, .data⟩ (by simp) rfl)) (hcl 8 _ rfl h ⟨7, .data⟩ (by simp) rfl)) (hcl 9 _ rfl h ⟨8, .data⟩ (by simp) rfl)) (hcl 12 _ rfl h ⟨9, .data⟩ (by simp) rfl)), fun _ _ => ⟨h9, h6.2.trans F9 h6.2.size⟩, fun h _ => absurd (h.resolve_left (by decide)) (fun h => (fun h => hn (hcl 7 _ rfl h ⟨6, .data⟩ (by simp) rfl)) (hcl 8 _ rfl h ⟨7, .data⟩ (by simp) rfl)), fun h _ => absurd (h.resolve_left (by decide)) (fun h => (fun h => (fun h => hn (hcl 7 _ rfl h ⟨6, .data⟩ (by simp) rfl)) (hcl 8 _ rfl h ⟨7, .data⟩ (by simp) rfl)) (hcl 9 _ rfl h ⟨8, .data⟩ (by simp) rfl))⟩
    | 7, ho =>
      cases Option.some.inj ho
      have ev : a.tmps[14]? = some (.agg #[.int .i64 (kdW W i'), .string (strOfNums (txW W i')), .int .i64 (psW W i' : Int)]) := known_at ha hsz hlen hl 6 (by decide) (hd ⟨6, .data⟩ (by simp) rfl)
      refine wp_value (w' := w') (v := (.string (strOfNums (txW W i')))) (by simp [execOp, ev, go_sem, fld1]) ?_
      exact ⟨_, va, vc, g, by rw [ha]; exact putAll_put A 8 7 l _ (by omega) (by omega), by rw [List.length_set]; exact hlen, set_known hlen (by decide) hl, hE.imp_left .inr, hN.imp_left .inr, hO.imp_left .inr, fun h => hQ (h.resolve_left (by decide)), fun h h' => hL (h.resolve_left (by decide)) (fun k => h' (.inr k)), fun h h' => hM (h.resolve_left (by decide)) (fun k => h' (.inr k)), fun h h' => hR (h.resolve_left (by decide)) (fun k => h' (.inr k))⟩
    | 8, ho =>
      cases Option.some.inj ho
      have ev : a.tmps[15]? = some ((.string (strOfNums (txW W i')))) := known_at ha hsz hlen hl 7 (by decide) (hd ⟨7, .data⟩ (by simp) rfl)
      have L := hL (hcl 7 _ rfl (hd ⟨7, .data⟩ (by simp) rfl) ⟨6, .data⟩ (by simp) rfl) hn
      have e1 := hE.resolve_left (fun h => (fun h => hn (hcl 9 _ rfl h ⟨8, .data⟩ (by simp) rfl)) (hcl 12 _ rfl h ⟨9, .data⟩ (by simp) rfl))
      have o1 := hO.resolve_left (fun h => hn (hcl 9 _ rfl h ⟨8, .data⟩ (by simp) rfl))
      refine wp_value (w' := w'.alloc (.cells #[.string (strOfNums (txW W i'))] 9)) (v := .slice (some ⟨w'.heap.size, 0, none⟩) 1 1) (by simp [execOp, ev, go_sem]) ?_
      exact ⟨_, va, vc, w'.heap.size, by rw [ha]; exact putAll_put A 8 8 l _ (by omega) (by omega), by rw [List.length_set]; exact hlen, set_known' (val' := nmeV x p q i' w'.heap.size W na va nc vc) hlen (by decide) hl (fun j hj hne => match j, hj, hne with | 0, _, _ => rfl | 1, _, _ => rfl | 2, _, _ => rfl | 3, _, _ => rfl | 4, _, _ => rfl | 5, _, _ => rfl | 6, _, _ => rfl | 7, _, _ => rfl | 8, _, hne => absurd rfl hne | 9, _, _ => rfl | 10, _, _ => rfl | 11, _, _ => rfl | j + 12, _, _ => rfl), .inr ((boxO.block q (lt_of_block e1)).trans e1), .inl (.inr (hcl 7 _ rfl (hd ⟨7, .data⟩ (by simp) rfl) ⟨6, .data⟩ (by simp) rfl)), .inr (own_keep o1 (fun g' hg' hl => boxO.block g' hl)), fun h => absurd (h.resolve_left (by decide)) (fun h => (fun h => hn (hcl 9 _ rfl h ⟨8, .data⟩ (by simp) rfl)) (hcl 12 _ rfl h ⟨9, .data⟩ (by simp) rfl)), fun _ h' => absurd (.inl rfl) h', fun _ _ => ⟨L.1.fr boxO, L.2.thn (Nat.le_refl _) (Fr.of_below boxO), newO w' _, L.2.size⟩, fun h _ => absurd (h.resolve_left (by decide)) (fun h => hn (hcl 9 _ rfl h ⟨8, .data⟩ (by simp) rfl))⟩
    | 9, ho =>
      cases Option.some.inj ho
      have ev : a.tmps[12]? = some (.slice na x.names.length nc) := known_at ha hsz hlen hl 4 (by decide) (hd ⟨4, .data⟩ (by simp) rfl)
      have ev' : a.tmps[16]? = some (.slice (some ⟨g, 0, none⟩) 1 1) := known_at ha hsz hlen hl 8 (by decide) (hd ⟨8, .data⟩ (by simp) rfl)
      have M := hM (hd ⟨8, .data⟩ (by simp) rfl) hn
      have e1 := hE.resolve_left (fun h => hn (hcl 12 _ rfl h ⟨9, .data⟩ (by simp) rfl))
      have o1 := hO.resolve_left hn
      obtain ⟨i9, hi9, hz9, hs9, hb9⟩ := info_pts info9
      obtain ⟨v', w7, hr7, o7, g7, p7⟩ := app_gen w' 22 22 9 Try.underlying22 hi9 hz9 hs9 hb9 rfl (by decide) (by decide) o1 ⟨g, 0, none⟩ 1 1 [.string (strOfNums (txW W i'))] rfl (fun j u hj => by match j, hj with | 0, hj => simp at hj; subst hj; rw [addrAdd]; simp [World.cell?, M.2.2.1]) (by simp [Value.oneCell']) (by omega) (Nat.zero_le _)
      have o7' : w7.ownsRow 0 9 1 v' (x.names.length + 1) ((x.names ++ [txW W i']).map strV) := by rw [List.map_append]; exact o7
      obtain ⟨va', vc', rfl⟩ : ∃ a c, v' = .slice a (x.names.length + 1) c := by
          rcases o7'.2 with ⟨rfl, h0⟩ | ⟨g', cap, cur, rfl, _⟩
          · exact absurd h0 (by omega)
          · exact ⟨_, _, rfl⟩
      have k7 : Kp (.slice na x.names.length nc) w' w7 := ⟨g7.os, g7.tape, g7.output, g7.size, fun b hb hne => g7.block b hb (fun e => hne e.symm)⟩
      have hA7 : ∀ g', (Value.slice va' (x.names.length + 1) vc').ownBlock = some g' → Z g' := fun g' hg' => (p7 g' hg').elim (hoA g') (fun h => hnw g' (Nat.le_trans M.2.1.size h))
      refine Lib.wp_append_run w' (.tmp 12) (.tmp 16) 22 22 rfl _ _ (by simpa [Act.eval] using evalS ev) (by simpa [Act.eval] using evalS ev') _ w7 hr7 ?_
      exact ⟨_, va', vc', g, by rw [ha]; exact putAll_put A 8 9 l _ (by omega) (by omega), by rw [List.length_set]; exact hlen, set_known' (val' := nmeV x p q i' g W na va' nc vc') hlen (by decide) hl (fun j hj hne => match j, hj, hne with | 0, _, _ => rfl | 1, _, _ => rfl | 2, _, _ => rfl | 3, _, _ => rfl | 4, _, _ => rfl | 5, _, _ => rfl | 6, _, _ => rfl | 7, _, _ => rfl | 8, _, _ => rfl | 9, _, hne => absurd rfl hne | 10, _, _ => rfl | 11, _, _ => rfl | j + 12, _, _ => rfl), .inr ((k7.block q (lt_of_block e1) (fun e => hAq (hoA q e))).trans e1), .inl (.inr (hcl 7 _ rfl (hcl 8 _ rfl (hd ⟨8, .data⟩ (by simp) rfl) ⟨7, .data⟩ (by simp) rfl) ⟨6, .data⟩ (by simp) rfl)), .inl (.inl rfl), fun h => absurd (h.resolve_left (by decide)) (fun h => hn (hcl 12 _ rfl h ⟨9, .data⟩ (by simp) rfl)), fun _ h' => absurd (Or.inr (hd ⟨8, .data⟩ (by simp) rfl)) h', fun _ h' => absurd (.inl rfl) h', fun _ _ => ⟨rd_kp M.1 k7 (fun g' hg' => hAlo g' (hoA g' hg')) , fr_kp M.2.1 k7 (fun g' hg' => hAB g' (hoA g' hg')), o7', hA7⟩⟩
    | 10, ho =>
      cases Option.some.inj ho
      have ev : a.tmps[8]? = some (.pointer (some ⟨q, 0, none⟩)) := known_at ha hsz hlen hl 0 (by decide) (hd ⟨0, .data⟩ (by simp) rfl)
      refine wp_value (w' := w') (v := .pointer (some ⟨q, 0, none⟩)) (by simp [execOp, ev, go_sem]) ?_
      exact ⟨_, va, vc, g, by rw [ha]; exact putAll_put A 8 10 l _ (by omega) (by omega), by rw [List.length_set]; exact hlen, set_known hlen (by decide) hl, hE.imp_left .inr, hN.imp_left .inr, hO.imp_left .inr, fun h => hQ (h.resolve_left (by decide)), fun h h' => hL (h.resolve_left (by decide)) (fun k => h' (.inr k)), fun h h' => hM (h.resolve_left (by decide)) (fun k => h' (.inr k)), fun h h' => hR (h.resolve_left (by decide)) (fun k => h' (.inr k))⟩
    | 11, ho =>
      cases Option.some.inj ho
      have ev : a.tmps[18]? = some (.pointer (some ⟨q, 0, none⟩)) := known_at ha hsz hlen hl 10 (by decide) (hd ⟨10, .data⟩ (by simp) rfl)
      refine wp_value (w' := w') (v := .pointer (some ⟨q, 4, none⟩)) (by simp [execOp, ev, go_sem]) ?_
      exact ⟨_, va, vc, g, by rw [ha]; exact putAll_put A 8 11 l _ (by omega) (by omega), by rw [List.length_set]; exact hlen, set_known hlen (by decide) hl, hE.imp_left .inr, hN.imp_left .inr, hO.imp_left .inr, fun h => hQ (h.resolve_left (by decide)), fun h h' => hL (h.resolve_left (by decide)) (fun k => h' (.inr k)), fun h h' => hM (h.resolve_left (by decide)) (fun k => h' (.inr k)), fun h h' => hR (h.resolve_left (by decide)) (fun k => h' (.inr k))⟩
    | 12, ho =>
      cases Option.some.inj ho
      have ev : a.tmps[19]? = some (.pointer (some ⟨q, 4, none⟩)) := known_at ha hsz hlen hl 11 (by decide) (hd ⟨11, .data⟩ (by simp) rfl)
      have ev' : a.tmps[17]? = some (.slice va (x.names.length + 1) vc) := known_at ha hsz hlen hl 9 (by decide) (hd ⟨9, .data⟩ (by simp) rfl)
      have e1 := hE.resolve_left hn
      obtain ⟨z0, z1, z2, z3, z4, z5, zf⟩ := nd_cells e1
      have zf4 := zf 4
      have M := hR (hd ⟨9, .data⟩ (by simp) rfl) hn
      refine wp_skipR (w' := w'.setCell ⟨q, 4, none⟩ (.slice va (x.names.length + 1) vc)) (by simp [execOp, Act.eval, ev, ev', go_sem, z4, zf4]) ?_
      exact ⟨l, va, vc, g, ha, hlen, fun j hj h => hl j hj (h.resolve_left (by omega)), .inl (.inl rfl), .inl (.inr (hcl 7 _ rfl (hcl 8 _ rfl (hcl 9 _ rfl (hd ⟨9, .data⟩ (by simp) rfl) ⟨8, .data⟩ (by simp) rfl) ⟨7, .data⟩ (by simp) rfl) ⟨6, .data⟩ (by simp) rfl)), .inl (.inr (hd ⟨9, .data⟩ (by simp) rfl)), fun _ => ⟨w', M, rfl, e1⟩, fun _ h' => absurd (Or.inr (hcl 9 _ rfl (hd ⟨9, .data⟩ (by simp) rfl) ⟨8, .data⟩ (by simp) rfl)) h', fun _ h' => absurd (Or.inr (hd ⟨9, .data⟩ (by simp) rfl)) h', fun _ h' => absurd (.inl rfl) h'⟩
    | i + 13, ho => simp at ho
  case done =>
    rintro D a w' ⟨l, va, vc, g, ha, hlen, hl, hE, hN, hO, hQ, hL, hM, hR⟩ hall
    obtain ⟨v0, v1, v2, v3, v4, v5, v6, v7, v8, v9, v10, v11, rfl⟩ := nmeV_list hlen
    obtain ⟨w9, ⟨L9, F9, O9, A9⟩, ew, E9⟩ := hQ (hall 12 (by decide))
    subst hA
    have hfr : a = _ := ha
    rw [hfr]
    clear hfr ha
    simp only [putAll, List.take_succ_cons, List.take_zero, List.drop_succ_cons, List.drop_zero, List.cons_append, List.nil_append, List.length_cons, List.length_nil]
    clear hl hE hN hO hL hM hR hQ hall
    subst ew
    go_wp2
    have S9 := St.cell w9 q 4 (.slice va (x.names.length + 1) vc)
    refine bodyPost_ret (v := .bool true) (by simp [results, go_sem]) rfl ⟨rfl, ⟨hkd, va, vc, ?_, ?_, ?_⟩, L9.st S9 (by have := G.hp; have := G.hq; omega), ((Fr.of_below B1).low G.hB).trans (F9.trans (Fr.of_below (S9.below G.hq)) (Nat.le_refl _)) (Nat.le_refl _)⟩
    · rw [heap_setCell_same w9 q 4 _ _ _ E9]
      simp [Nd.tmp, Nd.kind, Nd.text, Nd.pos, Nd.n, Nd.names]
    · have hl1 : (x.tmp (txW W i')).names.length = x.names.length + 1 := by simp [Nd.tmp, Nd.names]
      rw [hl1]
      exact own_keep O9 (fun g hg _ => S9.block g (fun e => hAq (e ▸ A9 g hg)))
    · have hl1 : (x.tmp (txW W i')).names.length = x.names.length + 1 := by simp [Nd.tmp, Nd.names]
      rw [hl1]
      exact A9
theorem argument_no {W : List Tk} {E : Nat} (S : Src W E) {i : Nat} {d : Int} (hi : i ≤ E) (hk : kdW W i ≠ 1) {w : World} {p q : Nat} (h : Rdw w p W i d 20) :
    Calls Try.prog 26 #[.pointer (some ⟨p, 0, none⟩), .pointer (some ⟨q, 0, none⟩)] w fun e w' => e = .returned (.bool false) ∧ Below w.heap.size w w' := by
  go_enter Try.func26, Try.ntmps26
  go_wp2_with fail
  refine (name_no S hi hk h).mono ?_
  rintro e w1 ⟨rfl, B1⟩
  go_wp2
  go_ret
  exact ⟨rfl, B1⟩
theorem argument_yes {W : List Tk} {E : Nat} (S : Src W E) {i : Nat} {d : Int} (hi : i ≤ E) (hk : kdW W i = 1) {w : World} {p q B : Nat} {A : Nat → Prop} {x : Nd} (G : Gd p B q A w) (M : MBox w A q x) (hxl : x.names.length ≤ 90000) (hxn : x.n ≤ 90000) (h : Rdw w p W i d 20) :
    Calls Try.prog 26 #[.pointer (some ⟨p, 0, none⟩), .pointer (some ⟨q, 0, none⟩)] w fun e w' => e = .returned (.bool true) ∧ MBox w' A q (x.arg (txW W i)) ∧ Rdw w' p W (i + 1) d 20 ∧ Fr p B w w' := by
  have hw : IntKind.i64.wrap ((x.n : Int) + 1) = (x.n : Int) + 1 := by rw [IntKind.wrap_i64]; omega
  go_enter Try.func26, Try.ntmps26
  go_wp2_with fail
  refine (name_yes S hi hk G M hxl h).mono ?_
  rintro e w1 ⟨rfl, M1, h1, F1⟩
  have hkd := M1.kids
  obtain ⟨na, nc, Ek, hO, hoA⟩ := M1.ex
  have hn1 : (x.tmp (txW W i)).n = x.n := rfl
  rw [hn1] at Ek
  obtain ⟨z0, z1, z2, z3, z4, z5, zf⟩ := nd_cells Ek
  have zf3 := zf 3
  clear hn1
  go_wp2
  have S1 := St.cell w1 q 3 (.int .i64 ((x.n : Int) + 1))
  refine bodyPost_ret (v := .bool true) (by simp [results, go_sem]) rfl ⟨rfl, ⟨hkd, na, nc, ?_, own_keep hO (fun g hg _ => S1.block g (fun e => G.nq (e ▸ hoA g hg))), hoA⟩, h1.st S1 (by have := G.hp; have := G.hq; omega), F1.trans (Fr.of_below (S1.below G.hq)) (Nat.le_refl _)⟩
  rw [heap_setCell_same w1 q 3 _ _ _ Ek]
  simp [Nd.tmp, Nd.arg, Nd.kind, Nd.text, Nd.pos, Nd.n, Nd.names]
end Go.Proofs.Ytoghhjljmhdioaa
namespace Go.Proofs.Ytoghhjljmhdioaa
open Go.RowKit
set_option maxRecDepth 100000
/-- What a function of the reader and a part that is being made answers. -/
def AnsM (A : Nat → Prop) (p q : Nat) (W : List Tk) (d : Nat) (e : Ending) (w' : World) : Rs → Prop
  | .ok y j => e = .returned (.bool true) ∧ MBox w' A q y ∧ Rdw w' p W j (d : Int) 20 ∧ y.names.length ≤ j ∧ y.n ≤ j ∧ y.text.length ≤ 50000000
  | .er j c => e = .returned (.bool false) ∧ ∃ d', Rdw w' p W j d' c
theorem arguments_con {W : List Tk} {E : Nat} (S : Src W E) {i d : Nat} (hi : i ≤ E) {w : World} {p q B : Nat} {A : Nat → Prop} {x0 : Nd} (G : Gd p B q A w) (M : MBox w A q x0) (h1 : x0.names.length ≤ i) (h2 : x0.n ≤ i) (h3 : x0.text.length ≤ 50000000) (h : Rdw w p W i (d : Int) 20) :
    Calls Try.prog 90 #[.pointer (some ⟨p, 0, none⟩), .pointer (some ⟨q, 0, none⟩)] w fun e w' => ∃ r, Reads W (.args i d x0) r ∧ AnsM A p q W d e w' r ∧ Fr p B w w' := by
  have hqp : q ≠ p := by have := G.hp; have := G.hq; omega
  have hAp : ¬ A p := fun e => by have := G.lo p e; have := G.hp; omega
  go_enter Try.func90, Try.ntmps90
  go_wp2_with fail
  go_loopw [] (fun wr => ∃ (i' : Nat) (x' : Nd), MBox wr A q x' ∧ Rdw wr p W i' (d : Int) 20 ∧ Fr p B w wr ∧ i ≤ i' ∧ i' ≤ E ∧ x'.names.length ≤ i' ∧ x'.n ≤ i' ∧ x'.text.length ≤ 50000000 ∧ Hid (∀ r, Reads W (.args i' d x') r → Reads W (.args i d x0) r)) (fun wr => E - atOf wr p)
  case atStart => exact ⟨i, x0, M, h, Fr.refl _ _ _, Nat.le_refl _, hi, h1, h2, h3, fun r hr => hr⟩
  case round =>
    clear M h h1 h2 h3
    obtain ⟨i', x, M, h, F, hii, hi', h1, h2, h3, hR⟩ := hrel
    have hat : atOf wr p = i' := h.atOf
    have G1 := G.up F.size
    have hE5 := S.small
    by_cases hk : kdW W i' = 16
    · have hlt : i' < E := S.ends.lt (by rw [hk]; decide)
      go_wp2_with fail
      refine (skip_yes h (S.lt hi') 16 hk).mono ?_
      rintro e w1 ⟨rfl, hr1, F1⟩
      have M1 := M.fr F1 hqp hAp
      have G2 := G1.up F1.size
      have F01 := F.trans (F1.low G1.hB) (Nat.le_refl _)
      by_cases hk1 : kdW W (i' + 1) = 1
      · have hlt1 : i' + 1 < E := S.ends.lt (by rw [hk1]; decide)
        go_wp2_with fail
        refine (argument_yes S (by omega) hk1 G2 M1 (by omega) (by omega) hr1).mono ?_
        rintro e w2 ⟨rfl, M2, hr2, F2⟩
        have F02 := F01.trans F2 (Nat.le_refl _)
        go_wp2
        go_roundw
        case rel => exact ⟨i' + 2, _, M2, hr2, F02, by omega, by omega, by show (x.names ++ [_]).length ≤ _; rw [List.length_append, List.length_singleton]; omega, by show x.n + 1 ≤ i' + 2; omega, h3, fun r hr => hR.out r (R_args_go hr hk hk1)⟩
        case measure => rw [hr2.atOf, hat]; omega
      · go_wp2_with fail
        refine (argument_no S (by omega) hk1 hr1).mono ?_
        rintro e w2 ⟨rfl, B2⟩
        go_wp2
        go_ret
        exact ⟨_, hR.out _ (R_args_bad hk hk1), ⟨rfl, _, hr1.fr B2⟩, F01.trans ((Fr.of_below B2).low G2.hB) (Nat.le_refl _)⟩
    · go_wp2_with fail
      refine (skip_no h (S.lt hi') 16 hk).mono ?_
      rintro e w1 ⟨rfl, hr1, F1⟩
      have M1 := M.fr F1 hqp hAp
      have F01 := F.trans (F1.low G1.hB) (Nat.le_refl _)
      have G2 := G1.up F1.size
      clear M h F F1
      have hkd := M1.kids
      obtain ⟨na, nc, Ek, hO, hoA⟩ := M1.ex
      obtain ⟨z0, z1, z2, z3, z4, z5, _⟩ := nd_cells Ek
      by_cases hn : x.n = 0
      · have hnb : ((x.n : Int) == 0) = true := by simp [hn]
        go_wp2
        refine bodyPost_ret (v := .bool true) (by simp [results, go_sem]) rfl ⟨_, hR.out _ (R_args_none hk hn), ⟨rfl, M1, hr1, h1, h2, h3⟩, F01⟩
      · have hnb : ((x.n : Int) == 0) = false := by simp; omega
        by_cases hk11 : kdW W i' = 11
        · go_wp2_with fail
          refine (is_any hr1 (S.lt hi') 11).mono ?_
          rintro e w2 ⟨rfl, B2⟩
          rw [show (kdW W i' == 11) = true by simp [hk11]]
          replace M1 := M1.bel B2
          go_wp2
          refine bodyPost_ret (v := .bool true) (by simp [results, go_sem]) rfl ⟨_, hR.out _ (R_args_fin hk11), ⟨rfl, M1, hr1.fr B2, h1, h2, h3⟩, F01.trans ((Fr.of_below B2).low G2.hB) (Nat.le_refl _)⟩
        · go_wp2_with fail
          refine (is_any hr1 (S.lt hi') 11).mono ?_
          rintro e w2 ⟨rfl, B2⟩
          rw [show (kdW W i' == 11) = false by simp [hk11]]
          replace M1 := M1.bel B2
          replace F01 := F01.trans ((Fr.of_below B2).low G2.hB) (Nat.le_refl _)
          have G3 := G2.up B2.size
          by_cases hk12 : kdW W i' = 12
          · have hlt : i' < E := S.ends.lt (by rw [hk12]; decide)
            go_wp2_with fail
            refine (skip_yes (hr1.fr B2) (S.lt hi') 12 hk12).mono ?_
            rintro e w3 ⟨rfl, hr3, F3⟩
            go_wp2
            refine bodyPost_ret (v := .bool true) (by simp [results, go_sem]) rfl ⟨_, hR.out _ (R_args_bar hn hk12), ⟨rfl, M1.fr F3 hqp hAp, hr3, by omega, by omega, h3⟩, F01.trans (F3.low G3.hB) (Nat.le_refl _)⟩
          · go_wp2_with fail
            refine (skip_no (hr1.fr B2) (S.lt hi') 12 hk12).mono ?_
            rintro e w3 ⟨rfl, hr3, F3⟩
            go_wp2
            refine bodyPost_ret (v := .bool false) (by simp [results, go_sem]) rfl ⟨_, hR.out _ (R_args_no hk hn hk11 hk12), ⟨rfl, _, hr3⟩, F01.trans (F3.low G3.hB) (Nat.le_refl _)⟩
/-- What a function that makes a part's parts answers. -/
def AnsN (A : Nat → Prop) (p q : Nat) (W : List Tk) (d : Nat) (e : Ending) (w' : World) : Rs → Prop
  | .ok y j => e = .returned (.bool true) ∧ NBox w' A q y ∧ Rdw w' p W j (d : Int) 20
  | .er j c => e = .returned (.bool false) ∧ ZBox w' q ∧ ∃ d', Rdw w' p W j d' c
/-- statements, body: a part whose names are there. -/
def ConN (f : Nat) (W : List Tk) (q0 : Nd → Qy) (i d : Nat) : Prop :=
  ∀ w p q B (A : Nat → Prop) x, Gd p B q A w → MBox w A q x → x.names.length ≤ i → x.text.length ≤ 50000000 → Rdw w p W i (d : Int) 20 → Calls Try.prog f #[.pointer (some ⟨p, 0, none⟩), .pointer (some ⟨q, 0, none⟩)] w fun e w' => ∃ r, Reads W (q0 x) r ∧ AnsN A p q W d e w' r ∧ Fr p B w w'
theorem MBox.z {w : World} {A : Nat → Prop} {q : Nat} {x : Nd} (h : MBox w A q x) : ZBox w q := by
  obtain ⟨_, _, E, _⟩ := h.ex
  exact ⟨_, _, _, _, _, _, E⟩
theorem body_con {W : List Tk} {E : Nat} (S : Src W E) {i d : Nat} (hi : i ≤ E) (H : ∀ j, i ≤ j → j ≤ E → ConN 29 W (fun x => .stmts j d x) j d) : ConN 17 W (fun x => .body i d x) i d := by
  intro w p q B A x0 G M h1 h3 h
  have hqp : q ≠ p := by have := G.hp; have := G.hq; omega
  have hAp : ¬ A p := fun e => by have := G.lo p e; have := G.hp; omega
  go_enter Try.func17, Try.ntmps17
  by_cases hk : kdW W i = 12
  · have hlt : i < E := S.ends.lt (by rw [hk]; decide)
    go_wp2_with fail
    refine (skip_yes h (S.lt hi) 12 hk).mono ?_
    rintro e w1 ⟨rfl, hr1, F1⟩
    replace M := M.fr F1 hqp hAp
    have G1 := G.up F1.size
    have F01 := F1.low G.hB
    clear h F1
    go_wp2_with fail
    go_loopw [] (fun wr => ∃ (i' : Nat) (x' : Nd), MBox wr A q x' ∧ Rdw wr p W i' (d : Int) 20 ∧ Fr p B w wr ∧ i + 1 ≤ i' ∧ i' ≤ E ∧ x'.names.length ≤ i' ∧ x'.text.length ≤ 50000000 ∧ Hid (∀ r, Reads W (.temps i' d x') r → Reads W (.temps (i + 1) d x0) r)) (fun wr => E - atOf wr p)
    case atStart => exact ⟨i + 1, x0, M, hr1, F01, Nat.le_refl _, hlt, by omega, h3, fun r hr => hr⟩
    case round =>
      clear M hr1 F01 h1 h3 G1
      obtain ⟨i', x, M, h, F, hii, hi', h1, h3, hR⟩ := hrel
      have hat : atOf wr p = i' := h.atOf
      have G1 := G.up F.size
      have hE5 := S.small
      by_cases hk1 : kdW W i' = 1
      · have hlt1 : i' < E := S.ends.lt (by rw [hk1]; decide)
        go_wp2_with fail
        refine (name_yes S hi' hk1 G1 M (by omega) h).mono ?_
        rintro e w2 ⟨rfl, M2, hr2, F2⟩
        have F02 := F.trans F2 (Nat.le_refl _)
        go_wp2
        go_roundw
        case rel => exact ⟨i' + 1, _, M2, hr2, F02, by omega, by omega, by show (x.names ++ [_]).length ≤ _; rw [List.length_append, List.length_singleton]; omega, h3, fun r hr => hR.out r (R_temps_go hr hk1)⟩
        case measure => rw [hr2.atOf, hat]; omega
      · go_wp2_with fail
        refine (name_no S hi' hk1 h).mono ?_
        rintro e w2 ⟨rfl, B2⟩
        have M2 := M.bel B2
        have hr2 := h.fr B2
        have G2 := G1.up B2.size
        have F02 := F.trans ((Fr.of_below B2).low G1.hB) (Nat.le_refl _)
        clear M h F B2
        by_cases hk2 : kdW W i' = 12
        · have hlt2 : i' < E := S.ends.lt (by rw [hk2]; decide)
          go_wp2_with fail
          refine (skip_yes hr2 (S.lt hi') 12 hk2).mono ?_
          rintro e w3 ⟨rfl, hr3, F3⟩
          have M3 := M2.fr F3 hqp hAp
          have G3 := G2.up F3.size
          have F03 := F02.trans (F3.low G2.hB) (Nat.le_refl _)
          go_wp2_with fail
          refine (H (i' + 1) (by omega) hlt2 w3 p q B A x G3 M3 (by omega) h3 hr3).mono ?_
          rintro e w4 ⟨r, hr, ha, F4⟩
          have hb := R_body_go (hR.out _ (R_temps_end hk2)) hr hk
          have F04 := F03.trans F4 (Nat.le_refl _)
          cases r with
          | er j c =>
            obtain ⟨rfl, hz, d', h4⟩ := ha
            go_wp2
            refine bodyPost_ret (v := .bool false) (by simp [results, go_sem]) rfl ⟨_, hb, ⟨rfl, hz, d', h4⟩, F04⟩
          | ok y j =>
            obtain ⟨rfl, hz, h4⟩ := ha
            go_wp2
            refine bodyPost_ret (v := .bool true) (by simp [results, go_sem]) rfl ⟨_, hb, ⟨rfl, hz, h4⟩, F04⟩
        · go_wp2_with fail
          refine (skip_no hr2 (S.lt hi') 12 hk2).mono ?_
          rintro e w3 ⟨rfl, hr3, F3⟩
          go_wp2
          refine bodyPost_ret (v := .bool false) (by simp [results, go_sem]) rfl ⟨_, R_body_er (hR.out _ (R_temps_bad hk1 hk2)) hk, ⟨rfl, (M2.fr F3 hqp hAp).z, _, hr3⟩, F02.trans (F3.low G2.hB) (Nat.le_refl _)⟩
  · go_wp2_with fail
    refine (skip_no h (S.lt hi) 12 hk).mono ?_
    rintro e w1 ⟨rfl, hr1, F1⟩
    replace M := M.fr F1 hqp hAp
    have G1 := G.up F1.size
    have F01 := F1.low G.hB
    clear h F1
    go_wp2_with fail
    refine (H i (Nat.le_refl _) hi w1 p q B A x0 G1 M h1 h3 hr1).mono ?_
    rintro e w4 ⟨r, hr, ha, F4⟩
    have hb := R_body_plain hr hk
    have F04 := F01.trans F4 (Nat.le_refl _)
    cases r with
    | er j c =>
      obtain ⟨rfl, hz, d', h4⟩ := ha
      go_wp2
      refine bodyPost_ret (v := .bool false) (by simp [results, go_sem]) rfl ⟨_, hb, ⟨rfl, hz, d', h4⟩, F04⟩
    | ok y j =>
      obtain ⟨rfl, hz, h4⟩ := ha
      go_wp2
      refine bodyPost_ret (v := .bool true) (by simp [results, go_sem]) rfl ⟨_, hb, ⟨rfl, hz, h4⟩, F04⟩

end Go.Proofs.Ytoghhjljmhdioaa
