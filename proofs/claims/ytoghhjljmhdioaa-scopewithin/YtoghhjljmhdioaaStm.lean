/- statements. -/
import Derived.Test.YtoghhjljmhdioaaArg
import Derived.Test.YtoghhjljmhdioaaKbx
import Derived.Test.YtoghhjljmhdioaaSet
import Derived.Test.YtoghhjljmhdioaaStq
namespace Go.Proofs.Ytoghhjljmhdioaa
open Go.RowKit
set_option maxRecDepth 100000
def stmV (x y : Nd) (q z g vc : Nat) (pa : Option Addr) (pc : Nat) (ma : Option Addr) (mc : Nat) (ka : Option Addr) (kc : Nat) (j : Nat) : Value :=
  ([.pointer (some ⟨q, 0, none⟩),
    .pointer (some ⟨q, 0, none⟩),
    .pointer (some ⟨q, 5, none⟩),
    .slice pa x.kids.length pc,
    .agg #[.int .i64 y.kind, .string (strOfNums y.text), .int .i64 (y.pos : Int), .int .i64 (y.n : Int), .slice ma y.names.length mc, .slice ka y.kids.length kc],
    .int .i64 (x.kids.length : Int),
    .slice (some ⟨z, 0, none⟩) 1 1,
    .slice (some ⟨g, 0, none⟩) (x.kids.length + 1) vc,
    .pointer (some ⟨g, x.kids.length * 6, none⟩),
    .pointer (some ⟨q, 0, none⟩),
    .pointer (some ⟨q, 5, none⟩)] : List Value).getD j undef
theorem stmV_list {l : List Value} (hh : l.length = 11) : ∃ v0 v1 v2 v3 v4 v5 v6 v7 v8 v9 v10, l = [v0, v1, v2, v3, v4, v5, v6, v7, v8, v9, v10] := by
  obtain ⟨v0, t0, rfl, h0⟩ := cons_of hh
  obtain ⟨v1, t1, rfl, h1⟩ := cons_of h0
  obtain ⟨v2, t2, rfl, h2⟩ := cons_of h1
  obtain ⟨v3, t3, rfl, h3⟩ := cons_of h2
  obtain ⟨v4, t4, rfl, h4⟩ := cons_of h3
  obtain ⟨v5, t5, rfl, h5⟩ := cons_of h4
  obtain ⟨v6, t6, rfl, h6⟩ := cons_of h5
  obtain ⟨v7, t7, rfl, h7⟩ := cons_of h6
  obtain ⟨v8, t8, rfl, h8⟩ := cons_of h7
  obtain ⟨v9, t9, rfl, h9⟩ := cons_of h8
  obtain ⟨v10, t10, rfl, h10⟩ := cons_of h9
  obtain rfl := List.eq_nil_of_length_eq_zero h10
  exact ⟨_, _, _, _, _, _, _, _, _, _, _, rfl⟩
def opO (j : Nat) : Nat := if j < 9 then j else j + 1
theorem opO_inj {j k : Nat} (h : opO j = opO k) : j = k := by unfold opO at h; split at h <;> split at h <;> omega
theorem opO_9 (j : Nat) : opO j ≠ 9 := by unfold opO; split <;> omega
theorem opO_12 {j : Nat} (hj : j < 11) : opO j ≠ 12 := by unfold opO; split <;> omega
/-- What stays through the append. -/
structure Sf (W : List Tk) (p q q5 B j d b7 : Nat) (A : Nat → Prop) (w9 : World) (x y : Nd) (pa : Option Addr) (pc : Nat) (na : Option Addr) (nc : Nat) (ma : Option Addr) (mc : Nat) (ka : Option Addr) (kc : Nat) (w' : World) : Prop where
  five : w'.heap[q5]? = some (.cells #[.int .i64 y.kind, .string (strOfNums y.text), .int .i64 (y.pos : Int), .int .i64 (y.n : Int), .slice ma y.names.length mc, .slice ka y.kids.length kc] 36)
  rd : Rdw w' p W j (d : Int) 20
  fr : Fr p B w9 w'
  sn : SlF (fun b => (A b ∧ ∀ g, (Value.slice pa x.kids.length pc).ownBlock = some g → b ≠ g) ∧ b < w9.heap.size) w' na x.names.length nc (x.names.map strV)
  hv : NdV (fun b => b7 ≤ b ∧ b < w9.heap.size) w' y (.agg #[.int .i64 y.kind, .string (strOfNums y.text), .int .i64 (y.pos : Int), .int .i64 (y.n : Int), .slice ma y.names.length mc, .slice ka y.kids.length kc])
structure Kq (q n : Nat) (v : Value) (w w' : World) : Prop where
  os : w'.os = w.os
  tape : w'.tape = w.tape
  output : w'.output = w.output
  size : w.heap.size ≤ w'.heap.size
  block : ∀ b, b < n → b ≠ q → v.ownBlock ≠ some b → w'.heap[b]? = w.heap[b]?
theorem Kq.of_below {q n : Nat} {v : Value} {w w' : World} (h : Below n w w') : Kq q n v w w' := ⟨h.os, h.tape, h.output, h.size, fun b hb _ _ => h.block b hb⟩
theorem Kq.of_kp {q n : Nat} {v : Value} {w w' : World} (h : Kp v w w') (hn : n ≤ w.heap.size) : Kq q n v w w' := ⟨h.os, h.tape, h.output, h.size, fun b hb _ hv => h.block b (by omega) hv⟩
theorem Kq.of_st {q n g : Nat} {v : Value} {w w' : World} (h : St g w w') (hg : g = q ∨ v.ownBlock = some g ∨ n ≤ g) : Kq q n v w w' :=
  ⟨h.os, h.tape, h.output, Nat.le_of_eq h.size.symm, fun b hb hq hv => h.block b (fun e => by subst e; rcases hg with h | h | h <;> first | exact hq h | exact hv h | omega)⟩
/-- What the walk knows at its beginning. -/
structure Sg (p q q5 B b7 : Nat) (A : Nat → Prop) (w9 : World) (x : Nd) (pa : Option Addr) (pc : Nat) : Prop where
  hp : p < B
  hB : B ≤ b7
  h79 : b7 ≤ w9.heap.size
  hq : B ≤ q
  hq7 : q < b7
  nq : ¬ A q
  lo : ∀ b, A b → B ≤ b
  new : ∀ b, b7 ≤ b → A b
  own : ∀ b, (Value.slice pa x.kids.length pc).ownBlock = some b → A b ∧ b < b7
  h5 : b7 ≤ q5
  h59 : q5 < w9.heap.size
theorem Sf.step {W : List Tk} {p q q5 B j d b7 : Nat} {A : Nat → Prop} {w9 w w' : World} {x y : Nd} {pa : Option Addr} {pc : Nat} {na : Option Addr} {nc : Nat} {ma : Option Addr} {mc : Nat} {ka : Option Addr} {kc : Nat} (h : Sf W p q q5 B j d b7 A w9 x y pa pc na nc ma mc ka kc w) (G : Sg p q q5 B b7 A w9 x pa pc) (k : Kq q w9.heap.size (.slice pa x.kids.length pc) w w') : Sf W p q q5 B j d b7 A w9 x y pa pc na nc ma mc ka kc w' := by
  have g1 := G.hp
  have g2 := G.hB
  have g3 := G.h79
  have g4 := G.hq
  have g5 := G.hq7
  have g6 := G.h5
  have g7 := G.h59
  have low : ∀ b, b < B → w'.heap[b]? = w.heap[b]? := fun b hb => k.block b (by omega) (by omega) (fun e => by have := G.lo b (G.own b e).1; omega)
  refine ⟨(k.block q5 g7 (by omega) (fun e => by have := (G.own q5 e).2; omega)).trans h.five, h.rd.same (fun b hb => low b (by omega)) (low p g1), ?_, h.sn.imp (fun b _ hA => ⟨hA, k.block b hA.2 (fun e => G.nq (e ▸ hA.1.1)) (fun e => hA.1.2 b e rfl)⟩), h.hv.imp (fun b _ hA => ⟨hA, k.block b hA.2 (by omega) (fun e => by have := (G.own b e).2; omega)⟩) _ _⟩
  exact ⟨k.os.trans h.fr.os, k.tape.trans h.fr.tape, k.output.trans h.fr.output, Nat.le_trans h.fr.size k.size, fun b hb hn => (low b hb).trans (h.fr.block b hb hn)⟩
theorem RowN.some_ {w : World} {A : Nat → Prop} {v : Value} {xs : List Nd} {z : Nd} (h : RowN w A v (xs ++ [z])) : ∃ g c, v = .slice (some ⟨g, 0, none⟩) (xs.length + 1) c ∧ A g := by
  obtain ⟨g, c, h1, h2, _⟩ := h.put (y := zNd) (A0 := fun _ => False) NdV.zero (fun _ _ h => h.elim)
  exact ⟨g, c, h1, h2⟩
theorem own_sl {A : Nat → Prop} {w : World} {a : Option Addr} {n c : Nat} {fl : List Value} (o : w.ownsRow 0 9 1 (.slice a n c) n fl) (hA : ∀ g, (Value.slice a n c).ownBlock = some g → A g) : SlF A w a n c fl := by
  have hs := o.1
  rcases o.2 with ⟨e, h0⟩ | ⟨g, cap, cur, e, _, hg, hn, hm, hc, ht⟩
  · simp only [Value.slice.injEq] at e
    obtain ⟨rfl, rfl, rfl⟩ := e
    have : fl = [] := List.eq_nil_of_length_eq_zero (by omega)
    subst this
    exact SlF.nil _ _
  · simp only [Value.slice.injEq] at e
    obtain ⟨rfl, _, rfl⟩ := e
    refine ⟨hn, hm, by simp, fun _ => ⟨g, 0, rfl, hA g rfl, fun j u hj => ?_⟩⟩
    have := o.cells (g := g) rfl j u hj
    rw [addrAdd] at this
    exact this
theorem KBox.ofM {w : World} {A : Nat → Prop} {q : Nat} {x : Nd} (M : MBox w A q x) : KBox w A q x := by
  obtain ⟨na, nc, E, o, hA⟩ := M.ex
  have hk := M.kids
  refine ⟨na, nc, none, 0, ?_, ?_, ?_⟩
  · rw [hk]; exact E
  · rw [hk]; exact own_sl o fun g hg => ⟨hA g hg, fun g' h => by simp [Value.ownBlock] at h⟩
  · rw [hk]; exact RowN.nil w A
theorem KBox.z {w : World} {A : Nat → Prop} {q : Nat} {x : Nd} (h : KBox w A q x) : ZBox w q := by
  obtain ⟨_, _, _, _, E, _⟩ := h
  exact ⟨_, _, _, _, _, _, E⟩
set_option maxHeartbeats 4000000 in
theorem statements_con {W : List Tk} {E : Nat} (S : Src W E) {i d : Nat} (hi : i ≤ E) (H : ∀ j, i ≤ j → j ≤ E → Con0 44 W (.stmt j d) j d) : ConN 29 W (fun x => .stmts i d x) i d := by
  intro w p q B A x0 G M h1 h3 h
  have hqp : q ≠ p := by have := G.hp; have := G.hq; omega
  have hAp : ¬ A p := fun e => by have := G.lo p e; have := G.hp; omega
  have hpw : p < w.heap.size := by have := G.hp; have := G.hB; omega
  have K := KBox.ofM M
  have hk0 : x0.kids.length ≤ i := by rw [M.kids]; exact Nat.zero_le _
  clear M
  go_enter Try.func29, Try.ntmps29
  go_wp2_with fail
  go_loopw [] (fun wr => ∃ (i' : Nat) (x' : Nd), KBox wr A q x' ∧ Rdw wr p W i' (d : Int) 20 ∧ Fr p B w wr ∧ i ≤ i' ∧ i' ≤ E ∧ x'.kids.length ≤ i' ∧ Hid (x'.names.length ≤ i ∧ x'.text.length ≤ 50000000) ∧ Hid (∀ r, Reads W (.stmts i' d x') r → Reads W (.stmts i d x0) r)) (fun wr => E - atOf wr p)
  case atStart => exact ⟨i, x0, K, h, Fr.refl _ _ _, Nat.le_refl _, hi, hk0, ⟨h1, h3⟩, fun r hr => hr⟩
  case round =>
    clear K h h1 h3 hk0
    obtain ⟨i', x, K, h, F, hii, hi', hxl, hxn, hR⟩ := hrel
    have hat : atOf wr p = i' := h.atOf
    have hE5 := S.small
    have G1 := G.up F.size
    have hsw : w.heap.size ≤ wr.heap.size := F.size
    have hBw : B ≤ wr.heap.size := by have := G.hB; omega
    go_wp2_with fail
    refine (is_any h (S.lt hi') 0).mono ?_
    rintro e w6 ⟨rfl, B6⟩
    replace K := K.bel B6
    replace h := h.fr B6
    have hs6 := B6.size
    replace F := F.trans (Fr.of_below B6) hBw
    clear B6
    by_cases hk : kdW W i' = 0
    · rw [show (kdW W i' == 0) = true by simp [hk]]
      go_wp2
      exact bodyPost_ret (v := .bool true) (by simp [results, go_sem]) rfl ⟨_, hR.out _ (R_stmts_end hk), ⟨rfl, K.nd (by have := hxn.out.1; omega) (by omega) (by have := hxn.out.2; omega), h⟩, F⟩
    · rw [show (kdW W i' == 0) = false by simp [hk]]
      go_wp2_with fail
      refine (is_any h (S.lt hi') 11).mono ?_
      rintro e w7 ⟨rfl, B7⟩
      replace K := K.bel B7
      replace h := h.fr B7
      have hs7 := B7.size
      replace F := F.trans (Fr.of_below B7) (by omega)
      clear B7
      by_cases hk1 : kdW W i' = 11
      · rw [show (kdW W i' == 11) = true by simp [hk1]]
        go_wp2
        exact bodyPost_ret (v := .bool true) (by simp [results, go_sem]) rfl ⟨_, hR.out _ (R_stmts_fin hk1), ⟨rfl, K.nd (by have := hxn.out.1; omega) (by omega) (by have := hxn.out.2; omega), h⟩, F⟩
      · rw [show (kdW W i' == 11) = false by simp [hk1]]
        go_wp2_with fail
        refine (H i' hii hi' w7 p h).mono ?_
        rintro e w8 ⟨r, hr, ha, F8⟩
        have hs8 := F8.size
        obtain ⟨oa, oc, pa, pc, Ek, sn, rk⟩ := K
        have hq7 : q < w7.heap.size := lt_of_block Ek
        have hko : ∀ b, (Value.slice pa x.kids.length pc).ownBlock = some b → A b ∧ b < w7.heap.size := fun b hb => rk.own hb
        replace Ek := (F8.block _ (lt_of_block Ek) hqp).trans Ek
        replace sn := sn.imp (fun b hb hA => ⟨hA, F8.block b hb (fun e => hAp (e ▸ hA.1))⟩)
        replace rk := rk.keep (fun b hA hb => F8.block b hb (fun e => hAp (e ▸ hA)))
        replace F := F.trans F8 (by omega)
        clear h F8
        cases r with
        | er j c =>
          obtain ⟨v, y, d', rfl, hv, h⟩ := ha
          obtain ⟨na, nc, ka, kc, _, rfl, _⟩ := NdV.parts hv
          go_wp2_with (refine as25 _ rfl rfl rfl 5 rfl _ rfl rfl _ _ _ _ _ _ _ _ _ _ (fun _ => rfl) (fun _ => rfl) ?_)
          intro q5 w9 E9 _ B9
          replace Ek := (B9.block _ (lt_of_block Ek)).trans Ek
          replace h := h.fr B9
          replace F := F.trans (Fr.of_below B9) (by omega)
          go_wp2
          exact bodyPost_ret (v := .bool false) (by simp [results, go_sem]) rfl ⟨_, hR.out _ (R_stmts_er hr hk hk1), ⟨rfl, ⟨_, _, _, _, _, _, Ek⟩, _, h⟩, F⟩
        | ok y j =>
          obtain ⟨v, rfl, hv, h⟩ := ha
          have hj : i' + 1 ≤ j ∧ j ≤ E := hr.adv S.ends hi'
          obtain ⟨na, nc, ka, kc, _, rfl, _⟩ := NdV.parts hv
          go_wp2_with (refine as25 _ rfl rfl rfl 5 rfl _ rfl rfl _ _ _ _ _ _ _ _ _ _ (fun _ => rfl) (fun _ => rfl) ?_)
          intro q5 w9 E9 hq5 B9
          replace Ek := (B9.block _ (lt_of_block Ek)).trans Ek
          replace sn := sn.imp (fun b hb hA => ⟨hA, B9.block b hb⟩)
          replace rk := rk.keep (fun b _ hb => B9.block b hb)
          replace h := h.fr B9
          replace hv := hv.bel B9
          replace F := F.trans (Fr.of_below B9) (by omega)
          have hs9 := B9.size
          clear B9
          go_wp2_with fail
          have G9 : Sg p q q5 B w7.heap.size A w9 x pa pc := ⟨G.hp, by omega, by omega, G.hq, hq7, G.nq, G.lo, fun b hb => G.new b (by omega), hko, by omega, lt_of_block E9⟩
          have hSd : Sf W p q q5 B j d w7.heap.size A w9 x y pa pc oa oc na nc ka kc w9.drew := ⟨E9, h.same (fun _ _ => rfl) rfl, Fr.of_below (Below.refl _ w9).drew, sn.imp (fun b hb hA => ⟨⟨hA, hb⟩, rfl⟩), NdV.imp (w := w9) (w' := w9.drew) (A := fun b => w7.heap.size ≤ b) (A' := fun b => w7.heap.size ≤ b ∧ b < w9.heap.size) (fun b hb hA => ⟨⟨hA, hb⟩, rfl⟩) _ _ hv⟩
          have Ekd : w9.drew.heap[q]? = _ := Ek
          have rkd : RowN w9.drew A (.slice pa x.kids.length pc) x.kids := rk.keep (fun b _ hb => rfl)
          have hix : (0 : Int) ≤ (x.kids.length : Int) := by omega
          have hix2 : ((x.kids.length : Int)).toNat = x.kids.length := by omega
          have hix3 : (x.kids.length : Int) < ((x.kids.length + 1 : Nat) : Int) := by omega
          clear E9 sn hv rk
          refine abstract_act fun AA hA => ?_
          have hsz : AA.tmps.size = 41 := by rw [hA]; rfl
          have s1 : AA.tmps[1]? = some (.pointer (some ⟨q, 0, none⟩)) := by rw [hA]; rfl
          have s5 : AA.tmps[5]? = some (.pointer (some ⟨q5, 0, none⟩)) := by rw [hA]; rfl
          refine wp_region_inv' (fun AA D a w' => ∃ (l : List Value) (z : Nat) (g : Nat) (vc : Nat), a = putAll AA 22 l ∧ l.length = 11 ∧ (∀ j, j < 11 → D (opO j) → l[j]? = some (stmV x y q z g vc pa pc na nc ka kc j)) ∧ (D 12 ∨ w'.heap[q]? = some (.cells #[.int .i64 x.kind, .string (strOfNums x.text), .int .i64 (x.pos : Int), .int .i64 (x.n : Int), .slice oa x.names.length oc, .slice pa x.kids.length pc] 36)) ∧ (Sf W p q q5 B j d w7.heap.size A w9 x y pa pc oa oc na nc ka kc w') ∧ (D 7 ∨ RowN w' A (.slice pa x.kids.length pc) x.kids) ∧ (D 6 → ¬ D 7 → (w'.heap[z]? = some (.cells #[.int .i64 0, .string ⟨#[]⟩, .int .i64 0, .int .i64 0, .slice none 0 0, .slice none 0 0] 36) ∧ w9.heap.size ≤ z)) ∧ (D 7 → ¬ D 9 → RowN w' A (.slice (some ⟨g, 0, none⟩) (x.kids.length + 1) vc) (x.kids ++ [zNd])) ∧ (D 9 → RowN w' A (.slice (some ⟨g, 0, none⟩) (x.kids.length + 1) vc) (x.kids ++ [y])) ∧ (D 7 → (∀ h, (Value.slice (some ⟨g, 0, none⟩) (x.kids.length + 1) vc).ownBlock = some h → (Value.slice pa x.kids.length pc).ownBlock = some h ∨ w9.heap.size ≤ h)) ∧ (D 12 → w'.heap[q]? = some (.cells #[.int .i64 x.kind, .string (strOfNums x.text), .int .i64 (x.pos : Int), .int .i64 (x.n : Int), .slice oa x.names.length oc, .slice (some ⟨g, 0, none⟩) (x.kids.length + 1) vc] 36))) (by kernel_rfl) (by kernel_rfl) ?mono ?start ?step ?done
          case mono =>
            rintro D D' a w' hD ⟨l, z, g, vc, ha, hlen, hl, hK, hS, hR0, hZ, hR1, hR2, hP, hQ⟩
            exact ⟨l, z, g, vc, ha, hlen, fun j hj h => hl j hj ((hD _).2 h), hK.imp_left (hD 12).1, hS, hR0.imp_left (hD 7).1, fun h h' => hZ ((hD 6).2 h) (fun k => h' ((hD 7).1 k)), fun h h' => hR1 ((hD 7).2 h) (fun k => h' ((hD 9).1 k)), fun h => hR2 ((hD 9).2 h), fun h => hP ((hD 7).2 h), fun h => hQ ((hD 12).2 h)⟩
          case start => exact ⟨_, 0, 0, 0, (putAll_start AA 22 11 (by omega)).1, (putAll_start AA 22 11 (by omega)).2, fun _ _ h => h.elim, .inr Ekd, hSd, .inr rkd, fun h _ => h.elim, fun h _ => h.elim, fun h => h.elim, fun h => h.elim, fun h => h.elim⟩
          case step =>
            clear hA
            intro i o ho D a w' hI hn hcl hd
            obtain ⟨l, z, g, vc, ha, hlen, hl, hK, hS, hR0, hZ, hR1, hR2, hP, hQ⟩ := hI
            match i, ho with
            | 0, ho =>
              cases Option.some.inj ho
              have ev : a.tmps[1]? = some (.pointer (some ⟨q, 0, none⟩)) := by rw [ha, putAll_low AA 22 1 l (by omega) (by decide)]; exact s1
              refine wp_value (w' := w') (v := .pointer (some ⟨q, 0, none⟩)) (by simp [execOp, ev, go_sem]) ?_
              exact ⟨_, z, g, vc, by rw [ha]; exact putAll_put AA 22 0 l _ (by omega) (by omega), by rw [List.length_set]; exact hlen, fun j hj h => set_known (D := fun j => D (opO j)) hlen (by decide) hl j hj (h.imp_left (fun e => opO_inj (k := 0) e)), hK.imp_left .inr, hS, hR0.imp_left .inr, fun h h' => hZ (h.resolve_left (by decide)) (fun k => h' (.inr k)), fun h h' => hR1 (h.resolve_left (by decide)) (fun k => h' (.inr k)), fun h => hR2 (h.resolve_left (by decide)), fun h => hP (h.resolve_left (by decide)), fun h => hQ (h.resolve_left (by decide))⟩
            | 1, ho =>
              cases Option.some.inj ho
              have ev : a.tmps[22]? = some (.pointer (some ⟨q, 0, none⟩)) := known_at (D := fun j => D (opO j)) ha hsz hlen hl 0 (by decide) (hd ⟨0, .data⟩ (by simp) rfl)
              refine wp_value (w' := w') (v := .pointer (some ⟨q, 0, none⟩)) (by simp [execOp, ev, go_sem]) ?_
              exact ⟨_, z, g, vc, by rw [ha]; exact putAll_put AA 22 1 l _ (by omega) (by omega), by rw [List.length_set]; exact hlen, fun j hj h => set_known (D := fun j => D (opO j)) hlen (by decide) hl j hj (h.imp_left (fun e => opO_inj (k := 1) e)), hK.imp_left .inr, hS, hR0.imp_left .inr, fun h h' => hZ (h.resolve_left (by decide)) (fun k => h' (.inr k)), fun h h' => hR1 (h.resolve_left (by decide)) (fun k => h' (.inr k)), fun h => hR2 (h.resolve_left (by decide)), fun h => hP (h.resolve_left (by decide)), fun h => hQ (h.resolve_left (by decide))⟩
            | 2, ho =>
              cases Option.some.inj ho
              have ev : a.tmps[23]? = some (.pointer (some ⟨q, 0, none⟩)) := known_at (D := fun j => D (opO j)) ha hsz hlen hl 1 (by decide) (hd ⟨1, .data⟩ (by simp) rfl)
              refine wp_value (w' := w') (v := .pointer (some ⟨q, 5, none⟩)) (by simp [execOp, ev, go_sem]) ?_
              exact ⟨_, z, g, vc, by rw [ha]; exact putAll_put AA 22 2 l _ (by omega) (by omega), by rw [List.length_set]; exact hlen, fun j hj h => set_known (D := fun j => D (opO j)) hlen (by decide) hl j hj (h.imp_left (fun e => opO_inj (k := 2) e)), hK.imp_left .inr, hS, hR0.imp_left .inr, fun h h' => hZ (h.resolve_left (by decide)) (fun k => h' (.inr k)), fun h h' => hR1 (h.resolve_left (by decide)) (fun k => h' (.inr k)), fun h => hR2 (h.resolve_left (by decide)), fun h => hP (h.resolve_left (by decide)), fun h => hQ (h.resolve_left (by decide))⟩
            | 3, ho =>
              cases Option.some.inj ho
              have ev : a.tmps[24]? = some (.pointer (some ⟨q, 5, none⟩)) := known_at (D := fun j => D (opO j)) ha hsz hlen hl 2 (by decide) (hd ⟨2, .data⟩ (by simp) rfl)
              have e1 := hK.resolve_left (fun h => (fun h => hn (hcl 7 _ rfl h ⟨3, .data⟩ (by simp) rfl)) (hcl 12 _ rfl h ⟨7, .data⟩ (by simp) rfl))
              obtain ⟨z0, z1, z2, z3, z4, z5, _⟩ := nd_cells e1
              refine wp_value (w' := w') (v := .slice pa x.kids.length pc) (by simp [execOp, ev, go_sem, z5]) ?_
              exact ⟨_, z, g, vc, by rw [ha]; exact putAll_put AA 22 3 l _ (by omega) (by omega), by rw [List.length_set]; exact hlen, fun j hj h => set_known (D := fun j => D (opO j)) hlen (by decide) hl j hj (h.imp_left (fun e => opO_inj (k := 3) e)), hK.imp_left .inr, hS, hR0.imp_left .inr, fun h h' => hZ (h.resolve_left (by decide)) (fun k => h' (.inr k)), fun h h' => hR1 (h.resolve_left (by decide)) (fun k => h' (.inr k)), fun h => hR2 (h.resolve_left (by decide)), fun h => hP (h.resolve_left (by decide)), fun h => hQ (h.resolve_left (by decide))⟩
            | 4, ho =>
              cases Option.some.inj ho
              have ev : a.tmps[5]? = some (.pointer (some ⟨q5, 0, none⟩)) := by rw [ha, putAll_low AA 22 5 l (by omega) (by decide)]; exact s5
              obtain ⟨z0, z1, z2, z3, z4, z5, _⟩ := nd_cells hS.five
              refine wp_value (w' := w') (v := .agg #[.int .i64 y.kind, .string (strOfNums y.text), .int .i64 (y.pos : Int), .int .i64 (y.n : Int), .slice na y.names.length nc, .slice ka y.kids.length kc]) (by simp [execOp, ev, go_sem, z0, z1, z2, z3, z4, z5]) ?_
              exact ⟨_, z, g, vc, by rw [ha]; exact putAll_put AA 22 4 l _ (by omega) (by omega), by rw [List.length_set]; exact hlen, fun j hj h => set_known (D := fun j => D (opO j)) hlen (by decide) hl j hj (h.imp_left (fun e => opO_inj (k := 4) e)), hK.imp_left .inr, hS, hR0.imp_left .inr, fun h h' => hZ (h.resolve_left (by decide)) (fun k => h' (.inr k)), fun h h' => hR1 (h.resolve_left (by decide)) (fun k => h' (.inr k)), fun h => hR2 (h.resolve_left (by decide)), fun h => hP (h.resolve_left (by decide)), fun h => hQ (h.resolve_left (by decide))⟩
            | 5, ho =>
              cases Option.some.inj ho
              have ev : a.tmps[25]? = some (.slice pa x.kids.length pc) := known_at (D := fun j => D (opO j)) ha hsz hlen hl 3 (by decide) (hd ⟨3, .data⟩ (by simp) rfl)
              refine wp_value (w' := w') (v := .int .i64 (x.kids.length : Int)) (by simp [execOp, ev, go_sem]) ?_
              exact ⟨_, z, g, vc, by rw [ha]; exact putAll_put AA 22 5 l _ (by omega) (by omega), by rw [List.length_set]; exact hlen, fun j hj h => set_known (D := fun j => D (opO j)) hlen (by decide) hl j hj (h.imp_left (fun e => opO_inj (k := 5) e)), hK.imp_left .inr, hS, hR0.imp_left .inr, fun h h' => hZ (h.resolve_left (by decide)) (fun k => h' (.inr k)), fun h h' => hR1 (h.resolve_left (by decide)) (fun k => h' (.inr k)), fun h => hR2 (h.resolve_left (by decide)), fun h => hP (h.resolve_left (by decide)), fun h => hQ (h.resolve_left (by decide))⟩
            | 6, ho =>
              cases Option.some.inj ho
              have e0 := hR0.resolve_left (fun h => hn (hcl 7 _ rfl h ⟨6, .data⟩ (by simp) rfl))
              refine wp_value (w' := (w'.alloc (.cells #[.int .i64 0, .string ⟨#[]⟩, .int .i64 0, .int .i64 0, .slice none 0 0, .slice none 0 0] 36))) (v := .slice (some ⟨w'.heap.size, 0, none⟩) 1 1) (by simp [execOp, go_sem]) ?_
              exact ⟨_, w'.heap.size, g, vc, by rw [ha]; exact putAll_put AA 22 6 l _ (by omega) (by omega), by rw [List.length_set]; exact hlen, fun j hj h => set_known' (D := fun j => D (opO j)) (val' := stmV x y q w'.heap.size g vc pa pc na nc ka kc) hlen (by decide) hl (fun j hj hne => match j, hj, hne with | 0, _, _ => rfl | 1, _, _ => rfl | 2, _, _ => rfl | 3, _, _ => rfl | 4, _, _ => rfl | 5, _, _ => rfl | 6, _, hne => absurd rfl hne | 7, _, _ => rfl | 8, _, _ => rfl | 9, _, _ => rfl | 10, _, _ => rfl | j + 11, _, _ => rfl) j hj (h.imp_left (fun e => opO_inj (k := 6) e)), hK.imp .inr (fun h => (boxO.block q (lt_of_block h)).trans h), hS.step G9 (Kq.of_below (boxO.mono hS.fr.size)), .inr (e0.keep (fun b _ hb => boxO.block b hb)), fun _ _ => ⟨newO w' _, hS.fr.size⟩, fun h _ => absurd (h.resolve_left (by decide)) (fun h => hn (hcl 7 _ rfl h ⟨6, .data⟩ (by simp) rfl)), fun h => absurd (h.resolve_left (by decide)) (fun h => (fun h => (fun h => hn (hcl 7 _ rfl h ⟨6, .data⟩ (by simp) rfl)) (hcl 8 _ rfl h ⟨7, .data⟩ (by simp) rfl)) (hcl 9 _ rfl h ⟨8, .data⟩ (by simp) rfl)), fun h => absurd (h.resolve_left (by decide)) (fun h => hn (hcl 7 _ rfl h ⟨6, .data⟩ (by simp) rfl)), fun h => absurd (h.resolve_left (by decide)) (fun h => (fun h => hn (hcl 7 _ rfl h ⟨6, .data⟩ (by simp) rfl)) (hcl 12 _ rfl h ⟨7, .data⟩ (by simp) rfl))⟩
            | 7, ho =>
              cases Option.some.inj ho
              have ev : a.tmps[25]? = some (.slice pa x.kids.length pc) := known_at (D := fun j => D (opO j)) ha hsz hlen hl 3 (by decide) (hd ⟨3, .data⟩ (by simp) rfl)
              have ev' : a.tmps[28]? = some (.slice (some ⟨z, 0, none⟩) 1 1) := known_at (D := fun j => D (opO j)) ha hsz hlen hl 6 (by decide) (hd ⟨6, .data⟩ (by simp) rfl)
              have e0 := hR0.resolve_left hn
              have eZ := hZ (hd ⟨6, .data⟩ (by simp) rfl) hn
              have hzo : ∀ b, (Value.slice pa x.kids.length pc).ownBlock = some b → z ≠ b := fun b hb e => by have := (G9.own b hb).2; have := G9.h79; omega
              refine opz w' (.tmp 25) (.tmp 28) rfl (by simpa [Act.eval] using evalS ev) (by simpa [Act.eval] using evalS ev') e0 eZ.1 ⟨G9.new z (by have := G9.h79; omega), hzo⟩ (by omega) (fun b hb => G9.new b (by have := G9.h79; have := hS.fr.size; omega)) ?_
              intro va vc0 w7 R7 K7 pl7
              obtain ⟨g', vc', e7, hAg⟩ := R7.some_
              simp only [Value.slice.injEq] at e7
              obtain ⟨rfl, _, rfl⟩ := e7
              exact ⟨_, z, g', vc0, by rw [ha]; exact putAll_put AA 22 7 l _ (by omega) (by omega), by rw [List.length_set]; exact hlen, fun j hj h => set_known' (D := fun j => D (opO j)) (val' := stmV x y q z g' vc0 pa pc na nc ka kc) hlen (by decide) hl (fun j hj hne => match j, hj, hne with | 0, _, _ => rfl | 1, _, _ => rfl | 2, _, _ => rfl | 3, _, _ => rfl | 4, _, _ => rfl | 5, _, _ => rfl | 6, _, _ => rfl | 7, _, hne => absurd rfl hne | 8, hj, _ => absurd hj (fun h => hn (hcl 8 _ rfl h ⟨7, .data⟩ (by simp) rfl)) | 9, _, _ => rfl | 10, _, _ => rfl | j + 11, _, _ => rfl) j hj (h.imp_left (fun e => opO_inj (k := 7) e)), hK.imp .inr (fun h => (K7.block q (lt_of_block h) (fun e => G9.nq (G9.own q e).1)).trans h), hS.step G9 (Kq.of_kp K7 hS.fr.size), .inl (.inl rfl), fun _ h' => absurd (.inl rfl) h', fun _ _ => R7, fun h => absurd (h.resolve_left (by decide)) (fun h => (fun h => hn (hcl 8 _ rfl h ⟨7, .data⟩ (by simp) rfl)) (hcl 9 _ rfl h ⟨8, .data⟩ (by simp) rfl)), fun _ h hh => (pl7 h hh).imp id (fun k => Nat.le_trans hS.fr.size k), fun h => absurd (h.resolve_left (by decide)) (fun h => hn (hcl 12 _ rfl h ⟨7, .data⟩ (by simp) rfl))⟩
            | 8, ho =>
              cases Option.some.inj ho
              have ev : a.tmps[29]? = some (.slice (some ⟨g, 0, none⟩) (x.kids.length + 1) vc) := known_at (D := fun j => D (opO j)) ha hsz hlen hl 7 (by decide) (hd ⟨7, .data⟩ (by simp) rfl)
              have ev' : a.tmps[27]? = some (.int .i64 (x.kids.length : Int)) := known_at (D := fun j => D (opO j)) ha hsz hlen hl 5 (by decide) (hd ⟨5, .data⟩ (by simp) rfl)
              refine wp_value (w' := w') (v := .pointer (some ⟨g, x.kids.length * 6, none⟩)) ?_ ?_
              · simp [execOp, ev, ev', go_sem, hix, hix2]
                intro hh
                exact absurd hh (by omega)
              exact ⟨_, z, g, vc, by rw [ha]; exact putAll_put AA 22 8 l _ (by omega) (by omega), by rw [List.length_set]; exact hlen, fun j hj h => set_known (D := fun j => D (opO j)) hlen (by decide) hl j hj (h.imp_left (fun e => opO_inj (k := 8) e)), hK.imp_left .inr, hS, hR0.imp_left .inr, fun h h' => hZ (h.resolve_left (by decide)) (fun k => h' (.inr k)), fun h h' => hR1 (h.resolve_left (by decide)) (fun k => h' (.inr k)), fun h => hR2 (h.resolve_left (by decide)), fun h => hP (h.resolve_left (by decide)), fun h => hQ (h.resolve_left (by decide))⟩
            | 9, ho =>
              cases Option.some.inj ho
              have ev : a.tmps[30]? = some (.pointer (some ⟨g, x.kids.length * 6, none⟩)) := known_at (D := fun j => D (opO j)) ha hsz hlen hl 8 (by decide) (hd ⟨8, .data⟩ (by simp) rfl)
              have ev' : a.tmps[26]? = some (.agg #[.int .i64 y.kind, .string (strOfNums y.text), .int .i64 (y.pos : Int), .int .i64 (y.n : Int), .slice na y.names.length nc, .slice ka y.kids.length kc]) := known_at (D := fun j => D (opO j)) ha hsz hlen hl 4 (by decide) (hd ⟨4, .data⟩ (by simp) rfl)
              have e1 := hR1 (hcl 8 _ rfl (hd ⟨8, .data⟩ (by simp) rfl) ⟨7, .data⟩ (by simp) rfl) hn
              obtain ⟨g2, c2, e2, hAg, hgl, hc6, fz, R6⟩ := e1.put hS.hv (fun b _ hb => ⟨G9.new b hb.1, fun h hh => by rcases hP (hcl 8 _ rfl (hd ⟨8, .data⟩ (by simp) rfl) ⟨7, .data⟩ (by simp) rfl) h hh with k | k <;> first | (have := (G9.own h k).2; omega) | omega⟩)
              simp only [Value.slice.injEq, Option.some.injEq, Addr.mk.injEq, and_true, true_and] at e2
              obtain ⟨rfl, rfl⟩ := e2
              have hc7 := hc6
              have S6 := six_st w' g (x.kids.length * 6) (.int .i64 y.kind) (.string (strOfNums y.text)) (.int .i64 (y.pos : Int)) (.int .i64 (y.n : Int)) (.slice na y.names.length nc) (.slice ka y.kids.length kc)
              have hqg : q ≠ g := fun e => G9.nq (e ▸ hAg)
              obtain ⟨u0, u1, u2, u3, u4, u5, s0, s1, s2, s3, s4, s5⟩ := hc7
              refine st6 w' 30 26 rfl rfl g (x.kids.length * 6) _ _ _ _ _ _ _ _ _ _ (evalS ev) (evalS ev') ⟨_, _, _, _, _, _, s0, s1, s2, s3, s4, s5⟩ fz ?_
              exact ⟨l, z, g, vc, ha, hlen, fun j hj h => hl j hj (h.resolve_left (opO_9 j)), hK.imp .inr (fun h => (S6.block q hqg).trans h), hS.step G9 (Kq.of_st S6 ((hP (hcl 8 _ rfl (hd ⟨8, .data⟩ (by simp) rfl) ⟨7, .data⟩ (by simp) rfl) g rfl).elim (fun h => .inr (.inl h)) (fun h => .inr (.inr h)))), .inl (.inr (hcl 8 _ rfl (hd ⟨8, .data⟩ (by simp) rfl) ⟨7, .data⟩ (by simp) rfl)), fun _ h' => absurd (Or.inr (hcl 8 _ rfl (hd ⟨8, .data⟩ (by simp) rfl) ⟨7, .data⟩ (by simp) rfl)) h', fun _ h' => absurd (.inl rfl) h', fun _ => R6, fun h => hP (h.resolve_left (by decide)), fun h => (S6.block q hqg).trans (hQ (h.resolve_left (by decide)))⟩
            | 10, ho =>
              cases Option.some.inj ho
              have ev : a.tmps[22]? = some (.pointer (some ⟨q, 0, none⟩)) := known_at (D := fun j => D (opO j)) ha hsz hlen hl 0 (by decide) (hd ⟨0, .data⟩ (by simp) rfl)
              refine wp_value (w' := w') (v := .pointer (some ⟨q, 0, none⟩)) (by simp [execOp, ev, go_sem]) ?_
              exact ⟨_, z, g, vc, by rw [ha]; exact putAll_put AA 22 9 l _ (by omega) (by omega), by rw [List.length_set]; exact hlen, fun j hj h => set_known (D := fun j => D (opO j)) hlen (by decide) hl j hj (h.imp_left (fun e => opO_inj (k := 9) e)), hK.imp_left .inr, hS, hR0.imp_left .inr, fun h h' => hZ (h.resolve_left (by decide)) (fun k => h' (.inr k)), fun h h' => hR1 (h.resolve_left (by decide)) (fun k => h' (.inr k)), fun h => hR2 (h.resolve_left (by decide)), fun h => hP (h.resolve_left (by decide)), fun h => hQ (h.resolve_left (by decide))⟩
            | 11, ho =>
              cases Option.some.inj ho
              have ev : a.tmps[31]? = some (.pointer (some ⟨q, 0, none⟩)) := known_at (D := fun j => D (opO j)) ha hsz hlen hl 9 (by decide) (hd ⟨10, .data⟩ (by simp) rfl)
              refine wp_value (w' := w') (v := .pointer (some ⟨q, 5, none⟩)) (by simp [execOp, ev, go_sem]) ?_
              exact ⟨_, z, g, vc, by rw [ha]; exact putAll_put AA 22 10 l _ (by omega) (by omega), by rw [List.length_set]; exact hlen, fun j hj h => set_known (D := fun j => D (opO j)) hlen (by decide) hl j hj (h.imp_left (fun e => opO_inj (k := 10) e)), hK.imp_left .inr, hS, hR0.imp_left .inr, fun h h' => hZ (h.resolve_left (by decide)) (fun k => h' (.inr k)), fun h h' => hR1 (h.resolve_left (by decide)) (fun k => h' (.inr k)), fun h => hR2 (h.resolve_left (by decide)), fun h => hP (h.resolve_left (by decide)), fun h => hQ (h.resolve_left (by decide))⟩
            | 12, ho =>
              cases Option.some.inj ho
              have ev : a.tmps[32]? = some (.pointer (some ⟨q, 5, none⟩)) := known_at (D := fun j => D (opO j)) ha hsz hlen hl 10 (by decide) (hd ⟨11, .data⟩ (by simp) rfl)
              have ev' : a.tmps[29]? = some (.slice (some ⟨g, 0, none⟩) (x.kids.length + 1) vc) := known_at (D := fun j => D (opO j)) ha hsz hlen hl 7 (by decide) (hd ⟨7, .data⟩ (by simp) rfl)
              have e1 := hK.resolve_left hn
              obtain ⟨z0, z1, z2, z3, z4, z5, zf⟩ := nd_cells e1
              have S5 := St.cell w' q 5 (.slice (some ⟨g, 0, none⟩) (x.kids.length + 1) vc)
              refine stq w' 32 29 rfl rfl q 5 _ _ _ (evalS ev) (evalS ev') z5 (zf 5) ?_
              have E5 : (w'.setCell ⟨q, 5, none⟩ (.slice (some ⟨g, 0, none⟩) (x.kids.length + 1) vc)).heap[q]? = some (.cells #[.int .i64 x.kind, .string (strOfNums x.text), .int .i64 (x.pos : Int), .int .i64 (x.n : Int), .slice oa x.names.length oc, .slice (some ⟨g, 0, none⟩) (x.kids.length + 1) vc] 36) := by
                    rw [heap_setCell_same w' q 5 _ _ _ e1]
                    simp
              exact ⟨l, z, g, vc, ha, hlen, fun j hj h => hl j hj (h.resolve_left (opO_12 hj)), .inl (.inl rfl), hS.step G9 (Kq.of_st S5 (.inl rfl)), .inl (.inr (hd ⟨7, .data⟩ (by simp) rfl)), fun _ h' => absurd (Or.inr (hd ⟨7, .data⟩ (by simp) rfl)) h', fun h h' => (hR1 (h.resolve_left (by decide)) (fun k => h' (.inr k))).keep (fun b hb _ => S5.block b (fun e => G9.nq (e ▸ hb))), fun h => (hR2 (h.resolve_left (by decide))).keep (fun b hb _ => S5.block b (fun e => G9.nq (e ▸ hb))), fun h => hP (h.resolve_left (by decide)), fun _ => E5⟩
            | i + 13, ho => simp at ho
          case done =>
            rintro D a w' ⟨l, z, g, vc, ha, hlen, hl, hK, hS, hR0, hZ, hR1, hR2, hP, hQ⟩ hall
            have R2 := hR2 (hall 9 (by decide))
            have P2 := hP (hall 7 (by decide))
            have Q2 := hQ (hall 12 (by decide))
            obtain ⟨v0, v1, v2, v3, v4, v5, v6, v7, v8, v9, v10, rfl⟩ := stmV_list hlen
            subst hA
            have hfr : a = _ := ha
            rw [hfr]
            clear hfr ha
            simp only [putAll, List.take_succ_cons, List.take_zero, List.drop_succ_cons, List.drop_zero, List.cons_append, List.nil_append, List.length_cons, List.length_nil]
            clear hl hlen hK hR0 hZ hR1 hR2 hP hQ hall
            clear hsz s1 s5
            have KZ : KBox w' A q (x.kid y) := by
              have hkl : (x.kid y).kids.length = x.kids.length + 1 := by simp [Nd.kid, Nd.kids]
              refine ⟨oa, oc, some ⟨g, 0, none⟩, vc, ?_, ?_, ?_⟩
              · rw [Q2]; simp [Nd.kid, Nd.kind, Nd.text, Nd.pos, Nd.n, Nd.names, Nd.kids]
              · rw [hkl]; exact hS.sn.imp (fun b hb hh => ⟨⟨hh.1.1, fun h hg => (P2 h hg).elim (hh.1.2 h) (fun k => by have := hh.2; omega)⟩, rfl⟩)
              · rw [hkl]; exact R2
            obtain ⟨E5, hrd, hfr, _, _⟩ := hS
            have F9 := F.trans hfr (Nat.le_refl _)
            have hB9 : B ≤ w'.heap.size := by have := hfr.size; omega
            have hkl : (x.kid y).kids.length = x.kids.length + 1 := by simp [Nd.kid, Nd.kids]
            have hkn : (x.kid y).names.length ≤ i := hxn.out.1
            have hkt : (x.kid y).text.length ≤ 50000000 := hxn.out.2
            have hq5p : q5 ≠ p := by have := G.hp; omega
            clear R2 P2 Q2 Ek Ekd rkd hSd G9 h F
            by_cases hk14 : kdW W j = 14
            · go_wp2_with fail
              refine (skip_yes hrd (S.lt hj.2) 14 hk14).mono ?_
              rintro e w3 ⟨rfl, hr3, F3⟩
              have hjE : j < E := S.ends.lt (by rw [hk14]; decide)
              replace E5 := (F3.block q5 (lt_of_block E5) hq5p).trans E5
              obtain ⟨z0, z1, z2, z3, z4, z5, zf⟩ := nd_cells E5
              replace KZ := KZ.fr F3 hqp hAp
              replace F9 := F9.trans F3 hB9
              clear E5 F3 hrd
              by_cases hkr : y.kind = 11
              · have hkb : (y.kind == 11) = true := by simp [hkr]
                go_wp2
                exact bodyPost_ret (v := .bool true) (by simp [results, go_sem]) rfl ⟨_, hR.out _ (R_stmts_ret hr hk hk1 hk14 hkr), ⟨rfl, KZ.nd (by omega) (by omega) (by omega), hr3⟩, F9⟩
              · have hkb : (y.kind == 11) = false := by simp [hkr]
                go_wp2
                go_roundw
                case rel => exact ⟨j + 1, x.kid y, KZ, hr3, F9, by omega, by omega, by omega, ⟨hkn, hkt⟩, fun r hr2 => hR.out r (R_stmts_go hr hr2 hk hk1 hk14 hkr)⟩
                case measure => rw [hr3.atOf, hat]; omega
            · go_wp2_with fail
              refine (skip_no hrd (S.lt hj.2) 14 hk14).mono ?_
              rintro e w3 ⟨rfl, hr3, F3⟩
              replace KZ := KZ.fr F3 hqp hAp
              replace F9 := F9.trans F3 hB9
              go_wp2
              exact bodyPost_ret (v := .bool true) (by simp [results, go_sem]) rfl ⟨_, hR.out _ (R_stmts_last hr hk hk1 hk14), ⟨rfl, KZ.nd (by omega) (by omega) (by omega), hr3⟩, F9⟩
end Go.Proofs.Ytoghhjljmhdioaa
