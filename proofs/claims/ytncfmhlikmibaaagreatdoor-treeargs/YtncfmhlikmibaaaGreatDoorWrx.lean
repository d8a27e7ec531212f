/- The writer: a send. -/
import Derived.Test.YtncfmhlikmibaaaGreatDoorWrs
import Derived.Test.YtncfmhlikmibaaaGreatDoorOth
namespace Go.Proofs.YtncfmhlikmibaaaGreatDoor
open Go.RowKit
set_option maxRecDepth 100000
theorem SlF.from1 {A : Nat → Prop} {w : World} {b off m kc : Nat} {fl : List Value} {x : Nd} {xs : List Nd} (hm : m = xs.length) (sl : SlF A w (some ⟨b, off, none⟩) (m + 1) kc fl) (kf : KsF A w (x :: xs) fl) : SlF A w (winN b off kc) m (kc - 1) (fl.drop 6) ∧ KsF A w xs (fl.drop 6) := by
  have hlen := kf.len
  have hrm := sl.room
  have hmst := sl.most
  constructor
  · refine ⟨by omega, by omega, fun e => ?_, fun h0 => ?_⟩
    · unfold winN at e
      split at e <;> simp at e
    · rw [List.length_drop] at h0
      rw [List.length_cons] at hlen
      have hne1 : ¬ kc = 1 := by omega
      obtain ⟨b', off', e, hA, hc⟩ := sl.cells (by omega)
      simp only [Option.some.injEq, Addr.mk.injEq, and_true] at e
      obtain ⟨rfl, rfl⟩ := e
      refine ⟨b, off + 6, by unfold winN; rw [if_neg hne1], hA, fun j u hj => ?_⟩
      rw [List.getElem?_drop] at hj
      have := hc (6 + j) u hj
      rwa [← Nat.add_assoc] at this
  · simp only [KsF] at kf
    obtain ⟨_, _, _, _, _, _, r, rfl, _, h2⟩ := kf
    exact h2
theorem fld25 (k : Int) (s : ByteArray) (p n : Int) (a b : Value) (w : World) : (Instr.field 25 (.agg #[.int .i64 k, .string s, .int .i64 p, .int .i64 n, a, b]) 1).run Tryz.prog w = .ok (.string s) w := by
  simp [Instr.field, asAgg, go_sem]
theorem part_row {w : World} {g : Nat} {k : Int} {s : ByteArray} {p n : Int} {na : Option Addr} {nl nc : Nat} {ka : Option Addr} {kl kc : Nat} (h : w.heap[g]? = some (.cells #[.int .i64 k, .string s, .int .i64 p, .int .i64 n, .slice na nl nc, .slice ka kl kc] 25)) :
    Calls Tryz.prog 87 #[.slice (some ⟨g, 0, none⟩) 1 1, .int .i64 0] w fun e w' => e = .returned (.agg #[.int .i64 k, .string s, .int .i64 p, .int .i64 n, .slice na nl nc, .slice ka kl kc]) ∧ Below w.heap.size w w' := by
  go_enter Tryz.func87, Tryz.ntmps87
  go_wp2_with (refine al25 _ rfl rfl ?_)
  intro q4 w1 E1 hq4 B1
  have h1 := (B1.block g (lt_of_block h)).trans h
  obtain ⟨z0, z1, z2, z3, z4, z5, _⟩ := nd_cells h1
  go_wp2_with (refine st25 _ rfl _ _ rfl rfl _ _ _ _ _ _ _ _ _ _ _ rfl rfl E1 ?_)
  intro wz Ez Sz
  go_wp2
  exact bodyPost_ret (results_cellT (a := 4) (t := 25) (by rfl) (by rfl) (load25 Ez)) (by rfl) ⟨rfl, B1.trans (Sz.below hq4)⟩
/-- What the operations yield. -/
def sntV (q g b0 m n kc wc : Nat) (tx : List Int) (ka wa : Option Addr) (j : Nat) : Value :=
  ([.pointer (some ⟨q, 0, none⟩),
    .pointer (some ⟨b0, 5, none⟩),
    .slice ka n kc,
    .slice (some ⟨g, 0, none⟩) 1 1,
    .agg #[.int .i64 9, .string (strOfNums tx), .int .i64 0, .int .i64 0, .slice none 0 0, .slice wa m wc],
    .string (strOfNums tx),
    .int .i64 (argsL tx : Int),
    .bool (decide (argsL tx = 0)),
    .tuple #[]] : List Value).getD j undef
theorem sntV_list {l : List Value} (hh : l.length = 9) : ∃ v0 v1 v2 v3 v4 v5 v6 v7 v8, l = [v0, v1, v2, v3, v4, v5, v6, v7, v8] := by
  obtain ⟨v0, t0, rfl, h0⟩ := cons_of hh
  obtain ⟨v1, t1, rfl, h1⟩ := cons_of h0
  obtain ⟨v2, t2, rfl, h2⟩ := cons_of h1
  obtain ⟨v3, t3, rfl, h3⟩ := cons_of h2
  obtain ⟨v4, t4, rfl, h4⟩ := cons_of h3
  obtain ⟨v5, t5, rfl, h5⟩ := cons_of h4
  obtain ⟨v6, t6, rfl, h6⟩ := cons_of h5
  obtain ⟨v7, t7, rfl, h7⟩ := cons_of h6
  obtain ⟨v8, t8, rfl, h8⟩ := cons_of h7
  obtain rfl := List.eq_nil_of_length_eq_zero h8
  exact ⟨_, _, _, _, _, _, _, _, _, rfl⟩
set_option maxHeartbeats 4000000 in
theorem sent_con {tx : List Int} {r : Nd} {xs : List Nd} {sr s : List Int} (p : Nat) (hb : ∀ y ∈ tx, 0 ≤ y ∧ y < 256) (H : NodeC r sr) (hi : inB r (decide (argsL tx = 0)) = false) (hbr : ∀ y ∈ r.text, 0 ≤ y ∧ y < 256) (M : MsgC tx xs s) (q : Nat) (t : List Int) (w : World) (v : Value) (hW : Wr q t w) (hN : NdV (Nb q w) w (.mk 7 tx p 0 [] (r :: xs)) v) (hl : t.length + (sr.length + s.length) ≤ 1000000) :
    Calls Tryz.prog 55 #[.pointer (some ⟨q, 0, none⟩), v] w fun e w' => e = .returned (.tuple #[]) ∧ Wr q (t ++ (sr ++ s)) w' ∧ Wf q w w' := by
  obtain ⟨na, nc, ka, kc, fl, rfl, _, sl, kf, _, hlk, hlt⟩ := hN.parts
  simp only [Nd.kind, Nd.text, Nd.pos, Nd.n, Nd.names, Nd.kids] at *
  have hq := hW.lt
  have hargs := fun w => args_is tx w hb (by omega)
  have hdb : ((argsL tx : Int) == 0) = decide (argsL tx = 0) := by
    by_cases h : argsL tx = 0 <;> simp [h]
  obtain ⟨m, hm⟩ : ∃ m, Hid (m = xs.length) := ⟨xs.length, show _ = _ from rfl⟩
  have hn1 : (r :: xs).length = m + 1 := by rw [List.length_cons, hm.out]
  have hfl := kf.len
  obtain ⟨b, off, rfl, _, _⟩ := sl.cells (by rw [hfl, List.length_cons]; omega)
  rw [hn1] at sl hlk ⊢
  obtain ⟨sl1, kf1⟩ := SlF.from1 hm.out sl kf
  have hmin : (min (1 : Int) ((m : Int) + 1)).toNat = 1 := by omega
  have hwin : (if kc = 1 then some (⟨b, off, none⟩ : Addr) else some ⟨b, off + 6, none⟩) = winN b off kc := rfl
  have h1m : (1 : Int) ≤ ((m + 1 : Nat) : Int) := by omega
  go_enter Tryz.func55, Tryz.ntmps55
  go_upto_region 4 with fail
  generalize (winN b off kc) = wa at *
  generalize kc - 1 = wc at *
  have B2 : Below w.heap.size w ((w.alloc (.cells #[.int .i64 7, .string (strOfNums tx), .int .i64 (p : Int), .int .i64 0, .slice na 0 nc, .slice (some ⟨b, off, none⟩) (m + 1) kc] 25)).alloc (.cells #[.int .i64 9, .string (strOfNums tx), .int .i64 0, .int .i64 0, .slice none 0 0, .slice wa m wc] 25)) := two_below
  have Eg := two_new w (.cells #[.int .i64 7, .string (strOfNums tx), .int .i64 (p : Int), .int .i64 0, .slice na 0 nc, .slice (some ⟨b, off, none⟩) (m + 1) kc] 25) (.cells #[.int .i64 9, .string (strOfNums tx), .int .i64 0, .int .i64 0, .slice none 0 0, .slice wa m wc] 25)
  have E0 : ((w.alloc (.cells #[.int .i64 7, .string (strOfNums tx), .int .i64 (p : Int), .int .i64 0, .slice na 0 nc, .slice (some ⟨b, off, none⟩) (m + 1) kc] 25)).alloc (.cells #[.int .i64 9, .string (strOfNums tx), .int .i64 0, .int .i64 0, .slice none 0 0, .slice wa m wc] 25)).heap[w.heap.size]? = _ := (boxO.block _ (by simp)).trans (newO w (.cells #[.int .i64 7, .string (strOfNums tx), .int .i64 (p : Int), .int .i64 0, .slice na 0 nc, .slice (some ⟨b, off, none⟩) (m + 1) kc] 25))
  generalize (w.alloc (.cells #[.int .i64 7, .string (strOfNums tx), .int .i64 (p : Int), .int .i64 0, .slice na 0 nc, .slice (some ⟨b, off, none⟩) (m + 1) kc] 25)).alloc (.cells #[.int .i64 9, .string (strOfNums tx), .int .i64 0, .int .i64 0, .slice none 0 0, .slice wa m wc] 25) = w2 at *
  have hbq : w.heap.size ≠ q := by omega
  have hgq : w.heap.size + 1 ≠ q := by omega
  generalize w.heap.size + 1 = g at *
  have F2 := Wf.of_below B2 hq
  have hW2 := hW.bel B2
  have hq2 := hW2.lt
  generalize w.heap.size = b0 at *
  generalize hka : some (⟨b, off, none⟩ : Addr) = ka at *
  generalize hnm : m + 1 = n at *
  have cellg : ∀ w', Below w2.heap.size w2 w' → w'.heap[g]? = _ := fun w' B => (B.block g (lt_of_block Eg)).trans Eg
  have cell5 : ∀ w', Below w2.heap.size w2 w' → w'.cell? ⟨b0, 5, none⟩ = some (.slice ka n kc) := fun w' B => (nd_cells ((B.block b0 (lt_of_block E0)).trans E0)).2.2.2.2.2.1
  have hop := fun w' (B : Below w2.heap.size w2 w') => operand_first H (decide (argsL tx = 0)) hi hbr q t w' (hW2.bel B) (by rw [hn1]) (sl.wf (F2.trans (Wf.of_below B hq2))) (kf.wf (F2.trans (Wf.of_below B hq2))) (by omega)
  have hpa : ∀ w', Wr q (t ++ sr) w' → Wf q w2 w' → Calls Tryz.prog 53 #[.pointer (some ⟨q, 0, none⟩), .slice (some ⟨g, 0, none⟩) 1 1, .string ⟨#[59]⟩] w' fun e w'' => e = .returned (.tuple #[]) ∧ Wr q (t ++ sr ++ s) w'' ∧ Wf q w' w'' := by
    intro w' h F
    have Eg' := F.row Eg (by decide) hgq
    have Fw := F2.trans F
    have hN' : NdV (Nb q w') w' (.mk 9 tx 0 0 [] xs) (.agg #[.int .i64 9, .string (strOfNums tx), .int .i64 0, .int .i64 0, .slice none 0 0, .slice wa m wc]) := by
      have := NdV.mk_ (A := Nb q w') (w := w') (k := 9) (t := tx) (p := 0) (n := 0) (l := []) (kids := xs) (SlF.nil _ _) (by have := sl1.wf Fw; rw [hm.out] at this; exact this) (kf1.wf Fw) (by decide) (by have := hm.out; omega) hlt
      rw [← hm.out] at this
      exact this
    exact parts_one (node_msg 0 M) q (t ++ sr) w' h (lit_sl Eg' (.inr ⟨hgq, _, Eg'⟩)) (KsF.one hN') (by simp; omega) _
  clear hwin hmin Eg E0 B2 hW2 hN sl sl1 kf kf1
  refine abstract_act fun A hA => ?_
  have hsz : A.tmps.size = 32 := by rw [hA]; rfl
  have s0 : A.tmps[0]? = some (.pointer (some ⟨q, 0, none⟩)) := by rw [hA]; rfl
  have s3 : A.tmps[3]? = some (.pointer (some ⟨b0, 0, none⟩)) := by rw [hA]; rfl
  have s4 : A.tmps[4]? = some (.slice (some ⟨g, 0, none⟩) 1 1) := by rw [hA]; rfl
  refine wp_region_inv' (fun A D a w' => ∃ (l : List Value), a = putAll A 20 l ∧ l.length = 9 ∧ (∀ j, j < 9 → D j → l[j]? = some (sntV q g b0 m n kc wc tx ka wa j)) ∧ (D 8 ∨ Below w2.heap.size w2 w') ∧ (D 8 → (Wr q (t ++ sr) w' ∧ Wf q w2 w'))) (by kernel_rfl) (by kernel_rfl) ?mono ?start ?step ?done
  case mono =>
    rintro D D' a w' hD ⟨l, ha, hlen, hl, hN, hL⟩
    exact ⟨l, ha, hlen, fun j hj h => hl j hj ((hD j).2 h), hN.imp_left (hD 8).1, fun h => hL ((hD 8).2 h)⟩
  case start => exact ⟨_, (putAll_start A 20 9 (by omega)).1, (putAll_start A 20 9 (by omega)).2, fun _ _ h => h.elim, .inr ((Below.refl _ w2).drew), fun h => h.elim⟩
  case step =>
    clear hA
    intro i o ho D a w' hI hn hcl hd
    obtain ⟨l, ha, hlen, hl, hN, hL⟩ := hI
    match i, ho with
    | 0, ho =>
      cases Option.some.inj ho
      have ev : a.tmps[0]? = some (.pointer (some ⟨q, 0, none⟩)) := by rw [ha, putAll_low A 20 0 l (by omega) (by decide)]; exact s0
      refine wp_value (w' := w') (v := .pointer (some ⟨q, 0, none⟩)) (by simp [execOp, ev, go_sem]) ?_
      exact ⟨_, by rw [ha]; exact putAll_put A 20 0 l _ (by omega) (by omega), by rw [List.length_set]; exact hlen, set_known hlen (by decide) hl, hN.imp_left .inr, fun h => hL (h.resolve_left (by decide))⟩
    | 1, ho =>
      cases Option.some.inj ho
      have ev : a.tmps[3]? = some (.pointer (some ⟨b0, 0, none⟩)) := by rw [ha, putAll_low A 20 3 l (by omega) (by decide)]; exact s3
      refine wp_value (w' := w') (v := .pointer (some ⟨b0, 5, none⟩)) (by simp [execOp, ev, go_sem]) ?_
      exact ⟨_, by rw [ha]; exact putAll_put A 20 1 l _ (by omega) (by omega), by rw [List.length_set]; exact hlen, set_known hlen (by decide) hl, hN.imp_left .inr, fun h => hL (h.resolve_left (by decide))⟩
    | 2, ho =>
      cases Option.some.inj ho
      have ev : a.tmps[21]? = some (.pointer (some ⟨b0, 5, none⟩)) := known_at ha hsz hlen hl 1 (by decide) (hd ⟨1, .data⟩ (by simp) rfl)
      have hN6 := hN.resolve_left (fun h => hn (hcl 8 _ rfl h ⟨2, .data⟩ (by simp) rfl))
      have c5 := cell5 w' hN6
      refine wp_value (w' := w') (v := .slice ka n kc) (by simp [execOp, ev, go_sem, c5]) ?_
      exact ⟨_, by rw [ha]; exact putAll_put A 20 2 l _ (by omega) (by omega), by rw [List.length_set]; exact hlen, set_known hlen (by decide) hl, hN.imp_left .inr, fun h => hL (h.resolve_left (by decide))⟩
    | 3, ho =>
      cases Option.some.inj ho
      have ev : a.tmps[4]? = some (.slice (some ⟨g, 0, none⟩) 1 1) := by rw [ha, putAll_low A 20 4 l (by omega) (by decide)]; exact s4
      refine wp_value (w' := w') (v := .slice (some ⟨g, 0, none⟩) 1 1) (by simp [execOp, ev, go_sem]) ?_
      exact ⟨_, by rw [ha]; exact putAll_put A 20 3 l _ (by omega) (by omega), by rw [List.length_set]; exact hlen, set_known hlen (by decide) hl, hN.imp_left .inr, fun h => hL (h.resolve_left (by decide))⟩
    | 4, ho =>
      cases Option.some.inj ho
      have ev : a.tmps[23]? = some (.slice (some ⟨g, 0, none⟩) 1 1) := known_at ha hsz hlen hl 3 (by decide) (hd ⟨3, .data⟩ (by simp) rfl)
      have hN6 := hN.resolve_left (fun h => (fun h => (fun h => (fun h => hn (hcl 5 _ rfl h ⟨4, .data⟩ (by simp) rfl)) (hcl 6 _ rfl h ⟨5, .data⟩ (by simp) rfl)) (hcl 7 _ rfl h ⟨6, .data⟩ (by simp) rfl)) (hcl 8 _ rfl h ⟨7, .data⟩ (by simp) rfl))
      refine wp_enter (f := 87) (args := #[.slice (some ⟨g, 0, none⟩) 1 1, .int .i64 0]) (by simp [execOp, ev, go_sem]) ?_
      refine (part_row (cellg w' hN6)).mono ?_
      rintro e w6 ⟨rfl, B9⟩
      refine ⟨_, rfl, ?_⟩
      exact ⟨_, by rw [ha]; exact putAll_put A 20 4 l _ (by omega) (by omega), by rw [List.length_set]; exact hlen, set_known hlen (by decide) hl, .inr (hN6.trans (B9.mono hN6.size)), fun h => absurd (h.resolve_left (by decide)) (fun h => (fun h => (fun h => (fun h => hn (hcl 5 _ rfl h ⟨4, .data⟩ (by simp) rfl)) (hcl 6 _ rfl h ⟨5, .data⟩ (by simp) rfl)) (hcl 7 _ rfl h ⟨6, .data⟩ (by simp) rfl)) (hcl 8 _ rfl h ⟨7, .data⟩ (by simp) rfl))⟩
    | 5, ho =>
      cases Option.some.inj ho
      have ev : a.tmps[24]? = some (.agg #[.int .i64 9, .string (strOfNums tx), .int .i64 0, .int .i64 0, .slice none 0 0, .slice wa m wc]) := known_at ha hsz hlen hl 4 (by decide) (hd ⟨4, .data⟩ (by simp) rfl)
      refine wp_value (w' := w') (v := .string (strOfNums tx)) (by simp [execOp, ev, go_sem, fld25]) ?_
      exact ⟨_, by rw [ha]; exact putAll_put A 20 5 l _ (by omega) (by omega), by rw [List.length_set]; exact hlen, set_known hlen (by decide) hl, hN.imp_left .inr, fun h => hL (h.resolve_left (by decide))⟩
    | 6, ho =>
      cases Option.some.inj ho
      have ev : a.tmps[25]? = some (.string (strOfNums tx)) := known_at ha hsz hlen hl 5 (by decide) (hd ⟨5, .data⟩ (by simp) rfl)
      have hN6 := hN.resolve_left (fun h => (fun h => hn (hcl 7 _ rfl h ⟨6, .data⟩ (by simp) rfl)) (hcl 8 _ rfl h ⟨7, .data⟩ (by simp) rfl))
      refine wp_enter (f := 15) (args := #[.string (strOfNums tx)]) (by simp [execOp, ev, go_sem]) ?_
      refine (hargs w').mono ?_
      rintro e w6 ⟨rfl, B9⟩
      refine ⟨_, rfl, ?_⟩
      exact ⟨_, by rw [ha]; exact putAll_put A 20 6 l _ (by omega) (by omega), by rw [List.length_set]; exact hlen, set_known hlen (by decide) hl, .inr (hN6.trans (B9.mono hN6.size)), fun h => absurd (h.resolve_left (by decide)) (fun h => (fun h => hn (hcl 7 _ rfl h ⟨6, .data⟩ (by simp) rfl)) (hcl 8 _ rfl h ⟨7, .data⟩ (by simp) rfl))⟩
    | 7, ho =>
      cases Option.some.inj ho
      have ev : a.tmps[26]? = some (.int .i64 (argsL tx : Int)) := known_at ha hsz hlen hl 6 (by decide) (hd ⟨6, .data⟩ (by simp) rfl)
      refine wp_value (w' := w') (v := .bool (decide (argsL tx = 0))) (by simp [execOp, ev, go_sem, hdb]) ?_
      exact ⟨_, by rw [ha]; exact putAll_put A 20 7 l _ (by omega) (by omega), by rw [List.length_set]; exact hlen, set_known hlen (by decide) hl, hN.imp_left .inr, fun h => hL (h.resolve_left (by decide))⟩
    | 8, ho =>
      cases Option.some.inj ho
      have ev : a.tmps[20]? = some (.pointer (some ⟨q, 0, none⟩)) := known_at ha hsz hlen hl 0 (by decide) (hd ⟨0, .data⟩ (by simp) rfl)
      have ev' : a.tmps[22]? = some (.slice ka n kc) := known_at ha hsz hlen hl 2 (by decide) (hd ⟨2, .data⟩ (by simp) rfl)
      have ev'' : a.tmps[27]? = some (.bool (decide (argsL tx = 0))) := known_at ha hsz hlen hl 7 (by decide) (hd ⟨7, .data⟩ (by simp) rfl)
      have hN6 := hN.resolve_left hn
      refine wp_enter (f := 85) (args := #[.pointer (some ⟨q, 0, none⟩), .slice ka n kc, .int .i64 0, .bool (decide (argsL tx = 0))]) (by simp [execOp, ev, ev', ev'', go_sem]) ?_
      refine (hop w' hN6).mono ?_
      rintro e w6 ⟨rfl, h9, F9⟩
      refine ⟨_, rfl, ?_⟩
      exact ⟨_, by rw [ha]; exact putAll_put A 20 8 l _ (by omega) (by omega), by rw [List.length_set]; exact hlen, set_known hlen (by decide) hl, .inl (.inl rfl), fun _ => ⟨h9, (Wf.of_below hN6 hq2).trans F9⟩⟩
    | i + 9, ho => simp at ho
  case done =>
    rintro D a w' ⟨l, ha, hlen, hl, hN, hL⟩ hall
    obtain ⟨v0, v1, v2, v3, v4, v5, v6, v7, v8, rfl⟩ := sntV_list hlen
    obtain ⟨h4, F4⟩ := hL (hall 8 (by decide))
    have hz := hl 8 (by decide) (hall 8 (by decide))
    simp only [List.getElem?_cons_succ, List.getElem?_cons_zero, Option.some.injEq] at hz
    have hz' : v8 = .tuple #[] := hz
    subst hz'
    subst hA
    have hfr : a = _ := ha
    rw [hfr]
    clear hfr ha
    simp only [putAll, List.take_succ_cons, List.take_zero, List.drop_succ_cons, List.drop_zero, List.cons_append, List.nil_append, List.length_cons, List.length_nil]
    clear hl hN hL hall
    go_wp2_with fail
    refine (hpa w' h4 F4).mono ?_
    rintro e w5 ⟨rfl, h5, F5⟩
    go_wp2
    go_end0
    exact ⟨rfl, by simpa [List.append_assoc] using h5, F2.trans (F4.trans F5)⟩
end Go.Proofs.YtncfmhlikmibaaaGreatDoor
