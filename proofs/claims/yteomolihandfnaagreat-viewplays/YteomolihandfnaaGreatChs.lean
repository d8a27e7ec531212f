/- Two lists of numbers, two lists of changes that are alike. -/
import Derived.Test.YteomolihandfnaaGreatVch
namespace Go.Proofs.YteomolihandfnaaGreat
open Go.RowKit
set_option maxRecDepth 100000
theorem own_i64 {w : World} {base n c : Nat} {a : Option Addr} {xs : List Int} (h : w.ownsRow base 2 1 (.slice a n c) n (xs.map (Value.int .i64))) (hn : n = xs.length) (k : Nat) (hk : k < n) : ∃ g x, a = some ⟨g, 0, none⟩ ∧ g < w.heap.size ∧ w.cell? ⟨g, k, none⟩ = some (.int .i64 x) ∧ Hid (xs[k]? = some x) := by
  rcases h.2 with ⟨_, h0⟩ | ⟨g0, cap, cur, e, hbg, hgh, hnc, hcm, hcs, htake⟩
  · omega
  · cases e
    have hx : (xs.map (Value.int .i64))[k]? = some (.int .i64 (xs[k]'(by omega))) := by simp [List.getElem?_eq_getElem (show k < xs.length by omega)]
    have hc := World.ownsRow.cells h (g := g0) rfl k _ hx
    rw [Addr.add_lit, Nat.zero_add] at hc
    exact ⟨g0, _, rfl, lt_of_cell hc, hc, List.getElem?_eq_getElem (by omega)⟩
set_option maxHeartbeats 4000000 in
theorem lsame_yes {w : World} {base1 base2 n c1 c2 : Nat} {a1 a2 : Option Addr} {xs : List Int} (h1 : w.ownsRow base1 2 1 (.slice a1 n c1) n (xs.map (Value.int .i64))) (h2 : w.ownsRow base2 2 1 (.slice a2 n c2) n (xs.map (Value.int .i64))) (hn : n = xs.length) (h4 : n ≤ 8192) :
    Calls Tryz.prog 25 #[.slice a1 n c1, .slice a2 n c2] w fun e w' => e = .returned (.bool true) ∧ Below w.heap.size w w' := by
  replace hn : Hid (n = xs.length) := hn
  go_enter Tryz.func25, Tryz.ntmps25
  go_wp2
  go_loopw [5] (fun iv wr => ∃ (k q : Nat), k ≤ n ∧ iv = .int .i64 (k : Int) ∧ wr = w.drewN q) (fun iv _ => n - (intOf iv).toNat)
  case atStart => exact ⟨0, 0, by omega, rfl, rfl⟩
  case round =>
    obtain ⟨k, q, hk, rfl, rfl⟩ := hrel
    by_cases hlt : k < n
    · obtain ⟨g1, x1, rfl, hb1, d1, e1⟩ := own_i64 h1 hn.out k hlt
      obtain ⟨g2, x2, rfl, hb2, d2, e2⟩ := own_i64 h2 hn.out k hlt
      obtain rfl : x1 = x2 := Option.some.inj (e1.out.symm.trans e2.out)
      have hki : (k : Int) < (n : Int) := by omega
      go_wp2_with fail
      go_quiet (fail)
      go_wp2
      go_roundw
      case rel => exact ⟨k + 1, _, by omega, by go_num, rfl⟩
      case measure => simp [intOf]; omega
    · go_wp2
      go_ret
      exact ⟨rfl, below_drewN' (Below.refl _ _) _⟩
theorem rowC_at {w : World} {b e n c : Nat} {a : Option Addr} {ss : List Cs} (h : w.ownsRow b e 5 (.slice a n c) ss.length (flatC ss)) {k : Nat} {s : Cs} (hs : ss[k]? = some s) : ∃ g, a = some ⟨g, 0, none⟩ ∧ (∃ cur, w.heap[g]? = some (.cells cur e (0, 0))) ∧ ∀ i v, s.cells[i]? = some v → w.cell? ⟨g, k * 5 + i, none⟩ = some v := by
  have hk := (List.getElem?_eq_some_iff.1 hs).1
  rcases h.2 with ⟨_, h0⟩ | ⟨g, cap, cur, e, hbg, hgh, _⟩
  · omega
  · cases e
    refine ⟨g, rfl, ⟨cur, hgh⟩, fun i v hv => ?_⟩
    have hi : i < 5 := by have := (List.getElem?_eq_some_iff.1 hv).1; simpa [Cs.cells] using this
    have f0 := flatC_at ss k s hs i hi
    rw [hv] at f0
    have c0 := World.ownsRow.cells h (g := g) rfl _ _ f0
    rw [Addr.add_lit, Nat.zero_add] at c0
    exact c0
/-- What the operations yield. -/
def chsV (jx oo : Int) (gn : Bool) (cl : Int) (g1 g2 i5 n c1 c2 : Nat) (sa ba ta ea : Option Addr) (sn sc bn bc tn tc en ec : Nat) (j : Nat) : Value :=
  ([.slice (some ⟨g1, 0, none⟩) n c1,
    .int .i64 jx,
    .pointer (some ⟨g1, i5, none⟩),
    .pointer (some ⟨g1, i5, none⟩),
    .int .i64 oo,
    .slice (some ⟨g2, 0, none⟩) n c2,
    .int .i64 jx,
    .pointer (some ⟨g2, i5, none⟩),
    .pointer (some ⟨g2, i5, none⟩),
    .int .i64 oo,
    .bool false,
    .bool false,
    .slice (some ⟨g1, 0, none⟩) n c1,
    .int .i64 jx,
    .pointer (some ⟨g1, i5, none⟩),
    .pointer (some ⟨g1, i5 + 1, none⟩),
    .bool gn,
    .slice (some ⟨g2, 0, none⟩) n c2,
    .int .i64 jx,
    .pointer (some ⟨g2, i5, none⟩),
    .pointer (some ⟨g2, i5 + 1, none⟩),
    .bool gn,
    .bool false,
    .bool false,
    .bool false,
    .slice (some ⟨g1, 0, none⟩) n c1,
    .int .i64 jx,
    .pointer (some ⟨g1, i5, none⟩),
    .pointer (some ⟨g1, i5 + 2, none⟩),
    .agg #[.int .i64 cl, .slice sa sn sc, .slice ba bn bc],
    .slice (some ⟨g2, 0, none⟩) n c2,
    .int .i64 jx,
    .pointer (some ⟨g2, i5, none⟩),
    .pointer (some ⟨g2, i5 + 2, none⟩),
    .agg #[.int .i64 cl, .slice ta tn tc, .slice ea en ec],
    .bool true,
    .bool false,
    .bool false] : List Value).getD j undef
theorem chsV_list {l : List Value} (hh : l.length = 38) : ∃ v0 v1 v2 v3 v4 v5 v6 v7 v8 v9 v10 v11 v12 v13 v14 v15 v16 v17 v18 v19 v20 v21 v22 v23 v24 v25 v26 v27 v28 v29 v30 v31 v32 v33 v34 v35 v36 v37, l = [v0, v1, v2, v3, v4, v5, v6, v7, v8, v9, v10, v11, v12, v13, v14, v15, v16, v17, v18, v19, v20, v21, v22, v23, v24, v25, v26, v27, v28, v29, v30, v31, v32, v33, v34, v35, v36, v37] := by
  obtain ⟨v0, t0, rfl, h0⟩ := cons_of hh
  obtain ⟨v1, t1, rfl, h1⟩ := cons_of h0
  obtain ⟨v2, t2, rfl, h2⟩ := cons_of h1
  obtain ⟨v3, t3, rfl, h3⟩ := cons_of h2
  obtain ⟨v4, t4, rfl, h4⟩ := cons_of h3
  obtain ⟨v5, t5, rfl, h5⟩ := cons_of h4
  obtain ⟨v6, t6, rfl, h6⟩ := cons_of h5
  obtain ⟨v7, t7, rfl, h7⟩ := cons_of h6
  obtain ⟨v8, t8, rfl, h8⟩ := cons_of h7
  obtain ⟨v9, t9, rfl, h9⟩ := cons_of h8
  obtain ⟨v10, t10, rfl, h10⟩ := cons_of h9
  obtain ⟨v11, t11, rfl, h11⟩ := cons_of h10
  obtain ⟨v12, t12, rfl, h12⟩ := cons_of h11
  obtain ⟨v13, t13, rfl, h13⟩ := cons_of h12
  obtain ⟨v14, t14, rfl, h14⟩ := cons_of h13
  obtain ⟨v15, t15, rfl, h15⟩ := cons_of h14
  obtain ⟨v16, t16, rfl, h16⟩ := cons_of h15
  obtain ⟨v17, t17, rfl, h17⟩ := cons_of h16
  obtain ⟨v18, t18, rfl, h18⟩ := cons_of h17
  obtain ⟨v19, t19, rfl, h19⟩ := cons_of h18
  obtain ⟨v20, t20, rfl, h20⟩ := cons_of h19
  obtain ⟨v21, t21, rfl, h21⟩ := cons_of h20
  obtain ⟨v22, t22, rfl, h22⟩ := cons_of h21
  obtain ⟨v23, t23, rfl, h23⟩ := cons_of h22
  obtain ⟨v24, t24, rfl, h24⟩ := cons_of h23
  obtain ⟨v25, t25, rfl, h25⟩ := cons_of h24
  obtain ⟨v26, t26, rfl, h26⟩ := cons_of h25
  obtain ⟨v27, t27, rfl, h27⟩ := cons_of h26
  obtain ⟨v28, t28, rfl, h28⟩ := cons_of h27
  obtain ⟨v29, t29, rfl, h29⟩ := cons_of h28
  obtain ⟨v30, t30, rfl, h30⟩ := cons_of h29
  obtain ⟨v31, t31, rfl, h31⟩ := cons_of h30
  obtain ⟨v32, t32, rfl, h32⟩ := cons_of h31
  obtain ⟨v33, t33, rfl, h33⟩ := cons_of h32
  obtain ⟨v34, t34, rfl, h34⟩ := cons_of h33
  obtain ⟨v35, t35, rfl, h35⟩ := cons_of h34
  obtain ⟨v36, t36, rfl, h36⟩ := cons_of h35
  obtain ⟨v37, t37, rfl, h37⟩ := cons_of h36
  obtain rfl := List.eq_nil_of_length_eq_zero h37
  exact ⟨_, _, _, _, _, _, _, _, _, _, _, _, _, _, _, _, _, _, _, _, _, _, _, _, _, _, _, _, _, _, _, _, _, _, _, _, _, _, rfl⟩
/-- What holds while the changes are gone through. -/
structure ChI (w : World) (base : Nat) (ss : List Cs) (j : Nat) (wr : World) : Prop where
  el : ∀ i s, j ≤ i → ss[i]? = some s → ElO wr base s
  fr : Fr (fun g => ∃ s ∈ ss, Rws s g) w wr
theorem ChI.next {w wr w' w3 : World} {base j : Nat} {ss : List Cs} {s : Cs} (h : ChI w base ss j wr) (hp : ss.Pairwise Apt) (hs : ss[j]? = some s) (hB : Below wr.heap.size wr w') (hF : Fr (fun g => (Value.slice s.sa s.sn s.sc).ownBlock = some g ∨ (Value.slice s.ba s.bn s.bc).ownBlock = some g) w' w3) : ChI w base ss (j + 1) w3 := by
  refine ⟨fun i t hi ht => ?_, (h.fr.trans (Fr.of_below (S := fun g => ∃ s ∈ ss, Rws s g) hB) (fun b _ q => q)).trans hF (fun b _ q => ⟨s, List.mem_of_getElem? hs, q⟩)⟩
  have e0 := h.el i t (by omega) ht
  have e1 : ElO w' base t := e0.same (fun g hg => by obtain ⟨_, cur, e, hh, _⟩ := e0.rows hg; exact hB.block g (lt_of_block' hh))
  refine e1.same (fun g hg => hF.block g (by obtain ⟨_, cur, e, hh, _⟩ := e1.rows hg; exact lt_of_block' hh) (fun q => ?_))
  obtain ⟨hj, ej⟩ := List.getElem?_eq_some_iff.1 hs
  obtain ⟨hi', ei⟩ := List.getElem?_eq_some_iff.1 ht
  have := List.pairwise_iff_getElem.1 hp j i hj hi' (by omega)
  rw [ej, ei] at this
  exact this g q hg
set_option maxHeartbeats 16000000 in
theorem changes_yes {w : World} {base b1 b2 n c1 c2 : Nat} {a1 a2 : Option Addr} {ss tt : List Cs} (r1 : w.ownsRow b1 96 5 (.slice a1 n c1) ss.length (flatC ss)) (r2 : w.ownsRow b2 86 5 (.slice a2 n c2) tt.length (flatC tt)) (hx : ss.map Cs.x = tt.map Cs.x) (e1 : ∀ s ∈ ss, ElO w base s) (e2 : ∀ t ∈ tt, El w t) (hp : ss.Pairwise Apt) (hap : ∀ s ∈ ss, ∀ t ∈ tt, Apt s t) (hn0 : n = ss.length) (few : n ≤ 8192) :
    Calls Tryz.prog 32 #[.slice a1 n c1, .slice a2 n c2] w fun e w' => e = .returned (.bool true) ∧ Fr (fun g => base ≤ g) w w' := by
  have hn : Hid (n = ss.length) := hn0
  have hlen : Hid (ss.length = tt.length) := by show _ = _; have := congrArg List.length hx; simpa using this
  replace hx : Hid _ := hx
  clear hn0
  have I0 : ChI w base ss 0 w := ⟨fun i s _ hs => e1 s (List.mem_of_getElem? hs), Fr.refl _ _⟩
  have t1 : ∀ (g : Nat) (cur : Array Value), w.heap[g]? = some (Obj.cells cur 96 (0, 0)) → ¬ ∃ s ∈ ss, Rws s g := fun g cur hg ⟨s, hs, hr⟩ => by
    obtain ⟨_, cur', e, hh, he⟩ := (e1 s hs).rows hr
    rw [hg] at hh
    cases hh
    exact he rfl
  have t2 : ∀ (g : Nat) (cur : Array Value), w.heap[g]? = some (Obj.cells cur 86 (0, 0)) → ¬ ∃ s ∈ ss, Rws s g := fun g cur hg ⟨s, hs, hr⟩ => by
    rcases hr with hr | hr
    · obtain ⟨_, cur', hh⟩ := own_block (e1 s hs).v.1 hr
      rw [hg] at hh
      cases hh
    · obtain ⟨_, cur', hh⟩ := own_block (e1 s hs).b.1 hr
      rw [hg] at hh
      cases hh
  go_enter Tryz.func32, Tryz.ntmps32
  go_wp2
  go_loopw [5] (fun iv wr => ∃ (j : Nat), j ≤ n ∧ iv = .int .i64 (j : Int) ∧ ChI w base ss j wr) (fun iv _ => n - (intOf iv).toNat)
  case atStart => exact ⟨0, by omega, rfl, I0⟩
  case round =>
    obtain ⟨jx, hj, rfl, hI⟩ := hrel
    by_cases hlt : jx < n
    · have j_lt : (jx : Int) < (n : Int) := by omega
      obtain ⟨s, hs0⟩ : ∃ s, ss[jx]? = some s := ⟨_, List.getElem?_eq_getElem (by have := hn.out; omega)⟩
      obtain ⟨t, ht0⟩ : ∃ t, tt[jx]? = some t := ⟨_, List.getElem?_eq_getElem (by have := hn.out; have := hlen.out; omega)⟩
      have hst0 : s.x = t.x := by
        have h1 : (ss.map Cs.x)[jx]? = some s.x := by rw [List.getElem?_map, hs0]; rfl
        have h2 : (tt.map Cs.x)[jx]? = some t.x := by rw [List.getElem?_map, ht0]; rfl
        rw [hx.out, h2] at h1
        exact (Option.some.inj h1).symm
      obtain ⟨g1, rfl, ⟨cur1, k1⟩, q1⟩ := rowC_at r1 hs0
      obtain ⟨g2, rfl, ⟨cur2, k2⟩, q2⟩ := rowC_at r2 ht0
      have K1 : wr.heap[g1]? = w.heap[g1]? := hI.fr.block g1 (lt_of_block' k1) (t1 g1 cur1 k1)
      have K2 : wr.heap[g2]? = w.heap[g2]? := hI.fr.block g2 (lt_of_block' k2) (t2 g2 cur2 k2)
      have lg1 : g1 < wr.heap.size := lt_of_block' (K1.trans k1)
      have lg2 : g2 < wr.heap.size := lt_of_block' (K2.trans k2)
      have cc : ∀ (g i : Nat), wr.heap[g]? = w.heap[g]? → wr.cell? ⟨g, i, none⟩ = w.cell? ⟨g, i, none⟩ := fun g i e => by unfold World.cell?; rw [e]
      have x0 : wr.cell? ⟨g1, jx * 5, none⟩ = some (.int .i64 s.x.oop) := (cc _ _ K1).trans (q1 0 _ rfl)
      have x1 : wr.cell? ⟨g1, jx * 5 + 1, none⟩ = some (.bool s.x.gone) := (cc _ _ K1).trans (q1 1 _ rfl)
      have x2 : wr.cell? ⟨g1, jx * 5 + 2, none⟩ = some (.int .i64 s.x.cls) := (cc _ _ K1).trans (q1 2 _ rfl)
      have x3 : wr.cell? ⟨g1, jx * 5 + 3, none⟩ = some (.slice s.sa s.sn s.sc) := (cc _ _ K1).trans (q1 3 _ rfl)
      have x4 : wr.cell? ⟨g1, jx * 5 + 4, none⟩ = some (.slice s.ba s.bn s.bc) := (cc _ _ K1).trans (q1 4 _ rfl)
      have y0 : wr.cell? ⟨g2, jx * 5, none⟩ = some (.int .i64 s.x.oop) := by rw [hst0]; exact (cc _ _ K2).trans (q2 0 _ rfl)
      have y1 : wr.cell? ⟨g2, jx * 5 + 1, none⟩ = some (.bool s.x.gone) := by rw [hst0]; exact (cc _ _ K2).trans (q2 1 _ rfl)
      have y2 : wr.cell? ⟨g2, jx * 5 + 2, none⟩ = some (.int .i64 s.x.cls) := by rw [hst0]; exact (cc _ _ K2).trans (q2 2 _ rfl)
      have y3 : wr.cell? ⟨g2, jx * 5 + 3, none⟩ = some (.slice t.sa t.sn t.sc) := (cc _ _ K2).trans (q2 3 _ rfl)
      have y4 : wr.cell? ⟨g2, jx * 5 + 4, none⟩ = some (.slice t.ba t.bn t.bc) := (cc _ _ K2).trans (q2 4 _ rfl)
      have eo := hI.el jx s (Nat.le_refl _) hs0
      have io1 : IsO wr s.x.cls s.sa s.sn s.sc s.ba s.bn s.bc s.x.vs s.x.bs := ⟨eo.cls, eo.v.isV, eo.b.isB⟩
      have io2 : IsO wr s.x.cls t.sa t.sn t.sc t.ba t.bn t.bc s.x.vs s.x.bs := by
        have hm := List.mem_of_getElem? ht0
        have e0 := e2 t hm
        have e3 : El wr t := e0.same' (fun g hg => hI.fr.block g (e0.lt.1 g hg).1 (fun ⟨s', hs', hr⟩ => hap s' hs' t hm g hr (.inl hg))) (fun g hg => hI.fr.block g (e0.lt.2 g hg).1 (fun ⟨s', hs', hr⟩ => hap s' hs' t hm g hr (.inr hg)))
        rw [hst0]
        exact e3.isO
      have hs : Hid (ss[jx]? = some s) := hs0
      clear hs0 ht0 hst0 q1 q2 K1 K2 cc k1 k2
      go_upto_region 6 with fail
      refine abstract_act fun A hA => ?_
      have hsz : A.tmps.size = 61 := by rw [hA]; rfl
      have s0 : A.tmps[0]? = some (.slice (some ⟨g1, 0, none⟩) n c1) := by rw [hA]; rfl
      have s1 : A.tmps[1]? = some (.slice (some ⟨g2, 0, none⟩) n c2) := by rw [hA]; rfl
      have s5 : A.tmps[5]? = some (.int .i64 (jx : Int)) := by rw [hA]; rfl
      refine wp_region_inv2' (fun A D a w' => ∃ (l : List Value), a = putAll A 17 l ∧ l.length = 38 ∧ Below wr.heap.size wr w' ∧ (∀ j, j < 38 → D j → l[j]? = some (chsV (jx : Int) s.x.oop s.x.gone s.x.cls g1 g2 (jx * 5) n c1 c2 s.sa s.ba t.sa t.ba s.sn s.sc s.bn s.bc t.sn t.sc t.bn t.bc j))) (by kernel_rfl) (by kernel_rfl) ?mono ?start ?step ?done
      case mono =>
        rintro D D' a w' hD ⟨l, ha, hlen, hB, hl⟩
        exact ⟨l, ha, hlen, hB, fun j hj h => hl j hj ((hD j).2 h)⟩
      case start => exact ⟨_, (putAll_start A 17 38 (by omega)).1, (putAll_start A 17 38 (by omega)).2, (Below.refl _ _).drew, fun _ _ h => h.elim⟩
      case step =>
        clear hA
        intro i o ho D a w' hI hn hcl hd
        obtain ⟨l, ha, hlen, hB, hl⟩ := hI
        match i, ho with
        | 0, ho =>
          cases Option.some.inj ho
          refine ⟨rfl, ?_⟩
          have ev : a.tmps[0]? = some (.slice (some ⟨g1, 0, none⟩) n c1) := by rw [ha, putAll_low A 17 0 l (by omega) (by decide)]; exact s0
          refine wp_value (w' := w') (v := .slice (some ⟨g1, 0, none⟩) n c1) (by simp [execOp, ev, go_sem]) ?_
          exact ⟨_, by rw [ha]; exact putAll_put A 17 0 l _ (by omega) (by omega), by rw [List.length_set]; exact hlen, hB, set_known hlen (by decide) hl⟩
        | 1, ho =>
          cases Option.some.inj ho
          refine ⟨rfl, ?_⟩
          have ev : a.tmps[5]? = some (.int .i64 (jx : Int)) := by rw [ha, putAll_low A 17 5 l (by omega) (by decide)]; exact s5
          refine wp_value (w' := w') (v := .int .i64 (jx : Int)) (by simp [execOp, ev, go_sem]) ?_
          exact ⟨_, by rw [ha]; exact putAll_put A 17 1 l _ (by omega) (by omega), by rw [List.length_set]; exact hlen, hB, set_known hlen (by decide) hl⟩
        | 2, ho =>
          cases Option.some.inj ho
          refine ⟨rfl, ?_⟩
          have ev : a.tmps[17]? = some (.slice (some ⟨g1, 0, none⟩) n c1) := known_at ha hsz hlen hl 0 (by decide) (hd ⟨0, .data⟩ (by simp) rfl)
          have ev' : a.tmps[18]? = some (.int .i64 (jx : Int)) := known_at ha hsz hlen hl 1 (by decide) (hd ⟨1, .data⟩ (by simp) rfl)
          refine wp_value (w' := w') (v := .pointer (some ⟨g1, jx * 5, none⟩)) (by simp [execOp, ev, ev', go_sem, j_lt]) ?_
          exact ⟨_, by rw [ha]; exact putAll_put A 17 2 l _ (by omega) (by omega), by rw [List.length_set]; exact hlen, hB, set_known hlen (by decide) hl⟩
        | 3, ho =>
          cases Option.some.inj ho
          refine ⟨rfl, ?_⟩
          have ev : a.tmps[19]? = some (.pointer (some ⟨g1, jx * 5, none⟩)) := known_at ha hsz hlen hl 2 (by decide) (hd ⟨2, .data⟩ (by simp) rfl)
          refine wp_value (w' := w') (v := .pointer (some ⟨g1, jx * 5, none⟩)) (by simp [execOp, ev, go_sem]) ?_
          exact ⟨_, by rw [ha]; exact putAll_put A 17 3 l _ (by omega) (by omega), by rw [List.length_set]; exact hlen, hB, set_known hlen (by decide) hl⟩
        | 4, ho =>
          cases Option.some.inj ho
          refine ⟨rfl, ?_⟩
          have ev : a.tmps[20]? = some (.pointer (some ⟨g1, jx * 5, none⟩)) := known_at ha hsz hlen hl 3 (by decide) (hd ⟨3, .data⟩ (by simp) rfl)
          have hc := (hB.cell (p := ⟨g1, jx * 5, none⟩) lg1).trans x0
          refine wp_value (w' := w') (v := .int .i64 s.x.oop) (by simp [execOp, ev, go_sem, hc]) ?_
          exact ⟨_, by rw [ha]; exact putAll_put A 17 4 l _ (by omega) (by omega), by rw [List.length_set]; exact hlen, hB, set_known hlen (by decide) hl⟩
        | 5, ho =>
          cases Option.some.inj ho
          refine ⟨rfl, ?_⟩
          have ev : a.tmps[1]? = some (.slice (some ⟨g2, 0, none⟩) n c2) := by rw [ha, putAll_low A 17 1 l (by omega) (by decide)]; exact s1
          refine wp_value (w' := w') (v := .slice (some ⟨g2, 0, none⟩) n c2) (by simp [execOp, ev, go_sem]) ?_
          exact ⟨_, by rw [ha]; exact putAll_put A 17 5 l _ (by omega) (by omega), by rw [List.length_set]; exact hlen, hB, set_known hlen (by decide) hl⟩
        | 6, ho =>
          cases Option.some.inj ho
          refine ⟨rfl, ?_⟩
          have ev : a.tmps[5]? = some (.int .i64 (jx : Int)) := by rw [ha, putAll_low A 17 5 l (by omega) (by decide)]; exact s5
          refine wp_value (w' := w') (v := .int .i64 (jx : Int)) (by simp [execOp, ev, go_sem]) ?_
          exact ⟨_, by rw [ha]; exact putAll_put A 17 6 l _ (by omega) (by omega), by rw [List.length_set]; exact hlen, hB, set_known hlen (by decide) hl⟩
        | 7, ho =>
          cases Option.some.inj ho
          refine ⟨rfl, ?_⟩
          have ev : a.tmps[22]? = some (.slice (some ⟨g2, 0, none⟩) n c2) := known_at ha hsz hlen hl 5 (by decide) (hd ⟨5, .data⟩ (by simp) rfl)
          have ev' : a.tmps[23]? = some (.int .i64 (jx : Int)) := known_at ha hsz hlen hl 6 (by decide) (hd ⟨6, .data⟩ (by simp) rfl)
          refine wp_value (w' := w') (v := .pointer (some ⟨g2, jx * 5, none⟩)) (by simp [execOp, ev, ev', go_sem, j_lt]) ?_
          exact ⟨_, by rw [ha]; exact putAll_put A 17 7 l _ (by omega) (by omega), by rw [List.length_set]; exact hlen, hB, set_known hlen (by decide) hl⟩
        | 8, ho =>
          cases Option.some.inj ho
          refine ⟨rfl, ?_⟩
          have ev : a.tmps[24]? = some (.pointer (some ⟨g2, jx * 5, none⟩)) := known_at ha hsz hlen hl 7 (by decide) (hd ⟨7, .data⟩ (by simp) rfl)
          refine wp_value (w' := w') (v := .pointer (some ⟨g2, jx * 5, none⟩)) (by simp [execOp, ev, go_sem]) ?_
          exact ⟨_, by rw [ha]; exact putAll_put A 17 8 l _ (by omega) (by omega), by rw [List.length_set]; exact hlen, hB, set_known hlen (by decide) hl⟩
        | 9, ho =>
          cases Option.some.inj ho
          refine ⟨rfl, ?_⟩
          have ev : a.tmps[25]? = some (.pointer (some ⟨g2, jx * 5, none⟩)) := known_at ha hsz hlen hl 8 (by decide) (hd ⟨8, .data⟩ (by simp) rfl)
          have hc := (hB.cell (p := ⟨g2, jx * 5, none⟩) lg2).trans y0
          refine wp_value (w' := w') (v := .int .i64 s.x.oop) (by simp [execOp, ev, go_sem, hc]) ?_
          exact ⟨_, by rw [ha]; exact putAll_put A 17 9 l _ (by omega) (by omega), by rw [List.length_set]; exact hlen, hB, set_known hlen (by decide) hl⟩
        | 10, ho =>
          cases Option.some.inj ho
          refine ⟨rfl, ?_⟩
          have ev : a.tmps[21]? = some (.int .i64 s.x.oop) := known_at ha hsz hlen hl 4 (by decide) (hd ⟨4, .data⟩ (by simp) rfl)
          have ev' : a.tmps[26]? = some (.int .i64 s.x.oop) := known_at ha hsz hlen hl 9 (by decide) (hd ⟨9, .data⟩ (by simp) rfl)
          refine wp_value (w' := w') (v := .bool false) (by simp [execOp, ev, ev', go_sem]) ?_
          exact ⟨_, by rw [ha]; exact putAll_put A 17 10 l _ (by omega) (by omega), by rw [List.length_set]; exact hlen, hB, set_known hlen (by decide) hl⟩
        | 11, ho =>
          cases Option.some.inj ho
          refine ⟨rfl, ?_⟩
          have ev : a.tmps[27]? = some (.bool false) := known_at ha hsz hlen hl 10 (by decide) (hd ⟨10, .data⟩ (by simp) rfl)
          refine wp_value (w' := w') (v := .bool false) (by simp [execOp, ev, go_sem]) ?_
          exact ⟨_, by rw [ha]; exact putAll_put A 17 11 l _ (by omega) (by omega), by rw [List.length_set]; exact hlen, hB, set_known hlen (by decide) hl⟩
        | 12, ho =>
          cases Option.some.inj ho
          refine ⟨wanted_of (k := 28) rfl rfl rfl (known_at ha hsz hlen hl 11 (by decide) (hd ⟨11, .guard⟩ (by simp) rfl)), ?_⟩
          have ev : a.tmps[0]? = some (.slice (some ⟨g1, 0, none⟩) n c1) := by rw [ha, putAll_low A 17 0 l (by omega) (by decide)]; exact s0
          refine wp_value (w' := w') (v := .slice (some ⟨g1, 0, none⟩) n c1) (by simp [execOp, ev, go_sem]) ?_
          exact ⟨_, by rw [ha]; exact putAll_put A 17 12 l _ (by omega) (by omega), by rw [List.length_set]; exact hlen, hB, set_known hlen (by decide) hl⟩
        | 13, ho =>
          cases Option.some.inj ho
          refine ⟨wanted_of (k := 28) rfl rfl rfl (known_at ha hsz hlen hl 11 (by decide) (hd ⟨11, .guard⟩ (by simp) rfl)), ?_⟩
          have ev : a.tmps[5]? = some (.int .i64 (jx : Int)) := by rw [ha, putAll_low A 17 5 l (by omega) (by decide)]; exact s5
          refine wp_value (w' := w') (v := .int .i64 (jx : Int)) (by simp [execOp, ev, go_sem]) ?_
          exact ⟨_, by rw [ha]; exact putAll_put A 17 13 l _ (by omega) (by omega), by rw [List.length_set]; exact hlen, hB, set_known hlen (by decide) hl⟩
        | 14, ho =>
          cases Option.some.inj ho
          refine ⟨wanted_of (k := 28) rfl rfl rfl (known_at ha hsz hlen hl 11 (by decide) (hd ⟨11, .guard⟩ (by simp) rfl)), ?_⟩
          have ev : a.tmps[29]? = some (.slice (some ⟨g1, 0, none⟩) n c1) := known_at ha hsz hlen hl 12 (by decide) (hd ⟨12, .data⟩ (by simp) rfl)
          have ev' : a.tmps[30]? = some (.int .i64 (jx : Int)) := known_at ha hsz hlen hl 13 (by decide) (hd ⟨13, .data⟩ (by simp) rfl)
          refine wp_value (w' := w') (v := .pointer (some ⟨g1, jx * 5, none⟩)) (by simp [execOp, ev, ev', go_sem, j_lt]) ?_
          exact ⟨_, by rw [ha]; exact putAll_put A 17 14 l _ (by omega) (by omega), by rw [List.length_set]; exact hlen, hB, set_known hlen (by decide) hl⟩
        | 15, ho =>
          cases Option.some.inj ho
          refine ⟨wanted_of (k := 28) rfl rfl rfl (known_at ha hsz hlen hl 11 (by decide) (hd ⟨11, .guard⟩ (by simp) rfl)), ?_⟩
          have ev : a.tmps[31]? = some (.pointer (some ⟨g1, jx * 5, none⟩)) := known_at ha hsz hlen hl 14 (by decide) (hd ⟨14, .data⟩ (by simp) rfl)
          refine wp_value (w' := w') (v := .pointer (some ⟨g1, jx * 5 + 1, none⟩)) (by simp [execOp, ev, go_sem]) ?_
          exact ⟨_, by rw [ha]; exact putAll_put A 17 15 l _ (by omega) (by omega), by rw [List.length_set]; exact hlen, hB, set_known hlen (by decide) hl⟩
        | 16, ho =>
          cases Option.some.inj ho
          refine ⟨wanted_of (k := 28) rfl rfl rfl (known_at ha hsz hlen hl 11 (by decide) (hd ⟨11, .guard⟩ (by simp) rfl)), ?_⟩
          have ev : a.tmps[32]? = some (.pointer (some ⟨g1, jx * 5 + 1, none⟩)) := known_at ha hsz hlen hl 15 (by decide) (hd ⟨15, .data⟩ (by simp) rfl)
          have hc := (hB.cell (p := ⟨g1, jx * 5 + 1, none⟩) lg1).trans x1
          refine wp_value (w' := w') (v := .bool s.x.gone) (by simp [execOp, ev, go_sem, hc]) ?_
          exact ⟨_, by rw [ha]; exact putAll_put A 17 16 l _ (by omega) (by omega), by rw [List.length_set]; exact hlen, hB, set_known hlen (by decide) hl⟩
        | 17, ho =>
          cases Option.some.inj ho
          refine ⟨wanted_of (k := 28) rfl rfl rfl (known_at ha hsz hlen hl 11 (by decide) (hd ⟨11, .guard⟩ (by simp) rfl)), ?_⟩
          have ev : a.tmps[1]? = some (.slice (some ⟨g2, 0, none⟩) n c2) := by rw [ha, putAll_low A 17 1 l (by omega) (by decide)]; exact s1
          refine wp_value (w' := w') (v := .slice (some ⟨g2, 0, none⟩) n c2) (by simp [execOp, ev, go_sem]) ?_
          exact ⟨_, by rw [ha]; exact putAll_put A 17 17 l _ (by omega) (by omega), by rw [List.length_set]; exact hlen, hB, set_known hlen (by decide) hl⟩
        | 18, ho =>
          cases Option.some.inj ho
          refine ⟨wanted_of (k := 28) rfl rfl rfl (known_at ha hsz hlen hl 11 (by decide) (hd ⟨11, .guard⟩ (by simp) rfl)), ?_⟩
          have ev : a.tmps[5]? = some (.int .i64 (jx : Int)) := by rw [ha, putAll_low A 17 5 l (by omega) (by decide)]; exact s5
          refine wp_value (w' := w') (v := .int .i64 (jx : Int)) (by simp [execOp, ev, go_sem]) ?_
          exact ⟨_, by rw [ha]; exact putAll_put A 17 18 l _ (by omega) (by omega), by rw [List.length_set]; exact hlen, hB, set_known hlen (by decide) hl⟩
        | 19, ho =>
          cases Option.some.inj ho
          refine ⟨wanted_of (k := 28) rfl rfl rfl (known_at ha hsz hlen hl 11 (by decide) (hd ⟨11, .guard⟩ (by simp) rfl)), ?_⟩
          have ev : a.tmps[34]? = some (.slice (some ⟨g2, 0, none⟩) n c2) := known_at ha hsz hlen hl 17 (by decide) (hd ⟨17, .data⟩ (by simp) rfl)
          have ev' : a.tmps[35]? = some (.int .i64 (jx : Int)) := known_at ha hsz hlen hl 18 (by decide) (hd ⟨18, .data⟩ (by simp) rfl)
          refine wp_value (w' := w') (v := .pointer (some ⟨g2, jx * 5, none⟩)) (by simp [execOp, ev, ev', go_sem, j_lt]) ?_
          exact ⟨_, by rw [ha]; exact putAll_put A 17 19 l _ (by omega) (by omega), by rw [List.length_set]; exact hlen, hB, set_known hlen (by decide) hl⟩
        | 20, ho =>
          cases Option.some.inj ho
          refine ⟨wanted_of (k := 28) rfl rfl rfl (known_at ha hsz hlen hl 11 (by decide) (hd ⟨11, .guard⟩ (by simp) rfl)), ?_⟩
          have ev : a.tmps[36]? = some (.pointer (some ⟨g2, jx * 5, none⟩)) := known_at ha hsz hlen hl 19 (by decide) (hd ⟨19, .data⟩ (by simp) rfl)
          refine wp_value (w' := w') (v := .pointer (some ⟨g2, jx * 5 + 1, none⟩)) (by simp [execOp, ev, go_sem]) ?_
          exact ⟨_, by rw [ha]; exact putAll_put A 17 20 l _ (by omega) (by omega), by rw [List.length_set]; exact hlen, hB, set_known hlen (by decide) hl⟩
        | 21, ho =>
          cases Option.some.inj ho
          refine ⟨wanted_of (k := 28) rfl rfl rfl (known_at ha hsz hlen hl 11 (by decide) (hd ⟨11, .guard⟩ (by simp) rfl)), ?_⟩
          have ev : a.tmps[37]? = some (.pointer (some ⟨g2, jx * 5 + 1, none⟩)) := known_at ha hsz hlen hl 20 (by decide) (hd ⟨20, .data⟩ (by simp) rfl)
          have hc := (hB.cell (p := ⟨g2, jx * 5 + 1, none⟩) lg2).trans y1
          refine wp_value (w' := w') (v := .bool s.x.gone) (by simp [execOp, ev, go_sem, hc]) ?_
          exact ⟨_, by rw [ha]; exact putAll_put A 17 21 l _ (by omega) (by omega), by rw [List.length_set]; exact hlen, hB, set_known hlen (by decide) hl⟩
        | 22, ho =>
          cases Option.some.inj ho
          refine ⟨wanted_of (k := 28) rfl rfl rfl (known_at ha hsz hlen hl 11 (by decide) (hd ⟨11, .guard⟩ (by simp) rfl)), ?_⟩
          have ev : a.tmps[33]? = some (.bool s.x.gone) := known_at ha hsz hlen hl 16 (by decide) (hd ⟨16, .data⟩ (by simp) rfl)
          have ev' : a.tmps[38]? = some (.bool s.x.gone) := known_at ha hsz hlen hl 21 (by decide) (hd ⟨21, .data⟩ (by simp) rfl)
          refine wp_value (w' := w') (v := .bool false) (by simp [execOp, ev, ev', go_sem]) ?_
          exact ⟨_, by rw [ha]; exact putAll_put A 17 22 l _ (by omega) (by omega), by rw [List.length_set]; exact hlen, hB, set_known hlen (by decide) hl⟩
        | 23, ho =>
          cases Option.some.inj ho
          refine ⟨rfl, ?_⟩
          have ev : a.tmps[28]? = some (.bool false) := known_at ha hsz hlen hl 11 (by decide) (hd ⟨11, .data⟩ (by simp) rfl)
          have ev' : a.tmps[39]? = some (.bool false) := known_at ha hsz hlen hl 22 (by decide) (hd ⟨22, .data⟩ (by simp) rfl)
          refine wp_value (w' := w') (v := .bool false) (by simp [execOp, ev, ev', go_sem]) ?_
          exact ⟨_, by rw [ha]; exact putAll_put A 17 23 l _ (by omega) (by omega), by rw [List.length_set]; exact hlen, hB, set_known hlen (by decide) hl⟩
        | 24, ho =>
          cases Option.some.inj ho
          refine ⟨rfl, ?_⟩
          have ev : a.tmps[40]? = some (.bool false) := known_at ha hsz hlen hl 23 (by decide) (hd ⟨23, .data⟩ (by simp) rfl)
          refine wp_value (w' := w') (v := .bool false) (by simp [execOp, ev, go_sem]) ?_
          exact ⟨_, by rw [ha]; exact putAll_put A 17 24 l _ (by omega) (by omega), by rw [List.length_set]; exact hlen, hB, set_known hlen (by decide) hl⟩
        | 25, ho =>
          cases Option.some.inj ho
          refine ⟨wanted_of (k := 41) rfl rfl rfl (known_at ha hsz hlen hl 24 (by decide) (hd ⟨24, .guard⟩ (by simp) rfl)), ?_⟩
          have ev : a.tmps[0]? = some (.slice (some ⟨g1, 0, none⟩) n c1) := by rw [ha, putAll_low A 17 0 l (by omega) (by decide)]; exact s0
          refine wp_value (w' := w') (v := .slice (some ⟨g1, 0, none⟩) n c1) (by simp [execOp, ev, go_sem]) ?_
          exact ⟨_, by rw [ha]; exact putAll_put A 17 25 l _ (by omega) (by omega), by rw [List.length_set]; exact hlen, hB, set_known hlen (by decide) hl⟩
        | 26, ho =>
          cases Option.some.inj ho
          refine ⟨wanted_of (k := 41) rfl rfl rfl (known_at ha hsz hlen hl 24 (by decide) (hd ⟨24, .guard⟩ (by simp) rfl)), ?_⟩
          have ev : a.tmps[5]? = some (.int .i64 (jx : Int)) := by rw [ha, putAll_low A 17 5 l (by omega) (by decide)]; exact s5
          refine wp_value (w' := w') (v := .int .i64 (jx : Int)) (by simp [execOp, ev, go_sem]) ?_
          exact ⟨_, by rw [ha]; exact putAll_put A 17 26 l _ (by omega) (by omega), by rw [List.length_set]; exact hlen, hB, set_known hlen (by decide) hl⟩
        | 27, ho =>
          cases Option.some.inj ho
          refine ⟨wanted_of (k := 41) rfl rfl rfl (known_at ha hsz hlen hl 24 (by decide) (hd ⟨24, .guard⟩ (by simp) rfl)), ?_⟩
          have ev : a.tmps[42]? = some (.slice (some ⟨g1, 0, none⟩) n c1) := known_at ha hsz hlen hl 25 (by decide) (hd ⟨25, .data⟩ (by simp) rfl)
          have ev' : a.tmps[43]? = some (.int .i64 (jx : Int)) := known_at ha hsz hlen hl 26 (by decide) (hd ⟨26, .data⟩ (by simp) rfl)
          refine wp_value (w' := w') (v := .pointer (some ⟨g1, jx * 5, none⟩)) (by simp [execOp, ev, ev', go_sem, j_lt]) ?_
          exact ⟨_, by rw [ha]; exact putAll_put A 17 27 l _ (by omega) (by omega), by rw [List.length_set]; exact hlen, hB, set_known hlen (by decide) hl⟩
        | 28, ho =>
          cases Option.some.inj ho
          refine ⟨wanted_of (k := 41) rfl rfl rfl (known_at ha hsz hlen hl 24 (by decide) (hd ⟨24, .guard⟩ (by simp) rfl)), ?_⟩
          have ev : a.tmps[44]? = some (.pointer (some ⟨g1, jx * 5, none⟩)) := known_at ha hsz hlen hl 27 (by decide) (hd ⟨27, .data⟩ (by simp) rfl)
          refine wp_value (w' := w') (v := .pointer (some ⟨g1, jx * 5 + 2, none⟩)) (by simp [execOp, ev, go_sem]) ?_
          exact ⟨_, by rw [ha]; exact putAll_put A 17 28 l _ (by omega) (by omega), by rw [List.length_set]; exact hlen, hB, set_known hlen (by decide) hl⟩
        | 29, ho =>
          cases Option.some.inj ho
          refine ⟨wanted_of (k := 41) rfl rfl rfl (known_at ha hsz hlen hl 24 (by decide) (hd ⟨24, .guard⟩ (by simp) rfl)), ?_⟩
          have ev : a.tmps[45]? = some (.pointer (some ⟨g1, jx * 5 + 2, none⟩)) := known_at ha hsz hlen hl 28 (by decide) (hd ⟨28, .data⟩ (by simp) rfl)
          have hc2 := (hB.cell (p := ⟨g1, jx * 5 + 2, none⟩) lg1).trans x2
          have hc3 := (hB.cell (p := ⟨g1, jx * 5 + 3, none⟩) lg1).trans x3
          have hc4 := (hB.cell (p := ⟨g1, jx * 5 + 4, none⟩) lg1).trans x4
          refine wp_value (w' := w') (v := .agg #[.int .i64 s.x.cls, .slice s.sa s.sn s.sc, .slice s.ba s.bn s.bc]) (by simp [execOp, ev, go_sem, hc2, hc3, hc4]) ?_
          exact ⟨_, by rw [ha]; exact putAll_put A 17 29 l _ (by omega) (by omega), by rw [List.length_set]; exact hlen, hB, set_known hlen (by decide) hl⟩
        | 30, ho =>
          cases Option.some.inj ho
          refine ⟨wanted_of (k := 41) rfl rfl rfl (known_at ha hsz hlen hl 24 (by decide) (hd ⟨24, .guard⟩ (by simp) rfl)), ?_⟩
          have ev : a.tmps[1]? = some (.slice (some ⟨g2, 0, none⟩) n c2) := by rw [ha, putAll_low A 17 1 l (by omega) (by decide)]; exact s1
          refine wp_value (w' := w') (v := .slice (some ⟨g2, 0, none⟩) n c2) (by simp [execOp, ev, go_sem]) ?_
          exact ⟨_, by rw [ha]; exact putAll_put A 17 30 l _ (by omega) (by omega), by rw [List.length_set]; exact hlen, hB, set_known hlen (by decide) hl⟩
        | 31, ho =>
          cases Option.some.inj ho
          refine ⟨wanted_of (k := 41) rfl rfl rfl (known_at ha hsz hlen hl 24 (by decide) (hd ⟨24, .guard⟩ (by simp) rfl)), ?_⟩
          have ev : a.tmps[5]? = some (.int .i64 (jx : Int)) := by rw [ha, putAll_low A 17 5 l (by omega) (by decide)]; exact s5
          refine wp_value (w' := w') (v := .int .i64 (jx : Int)) (by simp [execOp, ev, go_sem]) ?_
          exact ⟨_, by rw [ha]; exact putAll_put A 17 31 l _ (by omega) (by omega), by rw [List.length_set]; exact hlen, hB, set_known hlen (by decide) hl⟩
        | 32, ho =>
          cases Option.some.inj ho
          refine ⟨wanted_of (k := 41) rfl rfl rfl (known_at ha hsz hlen hl 24 (by decide) (hd ⟨24, .guard⟩ (by simp) rfl)), ?_⟩
          have ev : a.tmps[47]? = some (.slice (some ⟨g2, 0, none⟩) n c2) := known_at ha hsz hlen hl 30 (by decide) (hd ⟨30, .data⟩ (by simp) rfl)
          have ev' : a.tmps[48]? = some (.int .i64 (jx : Int)) := known_at ha hsz hlen hl 31 (by decide) (hd ⟨31, .data⟩ (by simp) rfl)
          refine wp_value (w' := w') (v := .pointer (some ⟨g2, jx * 5, none⟩)) (by simp [execOp, ev, ev', go_sem, j_lt]) ?_
          exact ⟨_, by rw [ha]; exact putAll_put A 17 32 l _ (by omega) (by omega), by rw [List.length_set]; exact hlen, hB, set_known hlen (by decide) hl⟩
        | 33, ho =>
          cases Option.some.inj ho
          refine ⟨wanted_of (k := 41) rfl rfl rfl (known_at ha hsz hlen hl 24 (by decide) (hd ⟨24, .guard⟩ (by simp) rfl)), ?_⟩
          have ev : a.tmps[49]? = some (.pointer (some ⟨g2, jx * 5, none⟩)) := known_at ha hsz hlen hl 32 (by decide) (hd ⟨32, .data⟩ (by simp) rfl)
          refine wp_value (w' := w') (v := .pointer (some ⟨g2, jx * 5 + 2, none⟩)) (by simp [execOp, ev, go_sem]) ?_
          exact ⟨_, by rw [ha]; exact putAll_put A 17 33 l _ (by omega) (by omega), by rw [List.length_set]; exact hlen, hB, set_known hlen (by decide) hl⟩
        | 34, ho =>
          cases Option.some.inj ho
          refine ⟨wanted_of (k := 41) rfl rfl rfl (known_at ha hsz hlen hl 24 (by decide) (hd ⟨24, .guard⟩ (by simp) rfl)), ?_⟩
          have ev : a.tmps[50]? = some (.pointer (some ⟨g2, jx * 5 + 2, none⟩)) := known_at ha hsz hlen hl 33 (by decide) (hd ⟨33, .data⟩ (by simp) rfl)
          have hc2 := (hB.cell (p := ⟨g2, jx * 5 + 2, none⟩) lg2).trans y2
          have hc3 := (hB.cell (p := ⟨g2, jx * 5 + 3, none⟩) lg2).trans y3
          have hc4 := (hB.cell (p := ⟨g2, jx * 5 + 4, none⟩) lg2).trans y4
          refine wp_value (w' := w') (v := .agg #[.int .i64 s.x.cls, .slice t.sa t.sn t.sc, .slice t.ba t.bn t.bc]) (by simp [execOp, ev, go_sem, hc2, hc3, hc4]) ?_
          exact ⟨_, by rw [ha]; exact putAll_put A 17 34 l _ (by omega) (by omega), by rw [List.length_set]; exact hlen, hB, set_known hlen (by decide) hl⟩
        | 35, ho =>
          cases Option.some.inj ho
          refine ⟨wanted_of (k := 41) rfl rfl rfl (known_at ha hsz hlen hl 24 (by decide) (hd ⟨24, .guard⟩ (by simp) rfl)), ?_⟩
          have ev : a.tmps[46]? = some (.agg #[.int .i64 s.x.cls, .slice s.sa s.sn s.sc, .slice s.ba s.bn s.bc]) := known_at ha hsz hlen hl 29 (by decide) (hd ⟨29, .data⟩ (by simp) rfl)
          have ev' : a.tmps[51]? = some (.agg #[.int .i64 s.x.cls, .slice t.sa t.sn t.sc, .slice t.ba t.bn t.bc]) := known_at ha hsz hlen hl 34 (by decide) (hd ⟨34, .data⟩ (by simp) rfl)
          refine wp_enter (f := 9) (args := #[.agg #[.int .i64 s.x.cls, .slice s.sa s.sn s.sc, .slice s.ba s.bn s.bc], .agg #[.int .i64 s.x.cls, .slice t.sa t.sn t.sc, .slice t.ba t.bn t.bc]]) (by simp [execOp, ev, ev', go_sem]) ?_
          refine (rsame_eq (io1.below hB) (io2.below hB)).mono ?_
          rintro e w6 ⟨rfl, HB⟩
          refine ⟨_, rfl, ?_⟩
          exact ⟨_, by rw [ha]; exact putAll_put A 17 35 l _ (by omega) (by omega), by rw [List.length_set]; exact hlen, below_size hB hB.size HB, set_known hlen (by decide) hl⟩
        | 36, ho =>
          cases Option.some.inj ho
          refine ⟨wanted_of (k := 41) rfl rfl rfl (known_at ha hsz hlen hl 24 (by decide) (hd ⟨24, .guard⟩ (by simp) rfl)), ?_⟩
          have ev : a.tmps[52]? = some (.bool true) := known_at ha hsz hlen hl 35 (by decide) (hd ⟨35, .data⟩ (by simp) rfl)
          refine wp_value (w' := w') (v := .bool false) (by simp [execOp, ev, go_sem]) ?_
          exact ⟨_, by rw [ha]; exact putAll_put A 17 36 l _ (by omega) (by omega), by rw [List.length_set]; exact hlen, hB, set_known hlen (by decide) hl⟩
        | 37, ho =>
          cases Option.some.inj ho
          refine ⟨rfl, ?_⟩
          have ev : a.tmps[41]? = some (.bool false) := known_at ha hsz hlen hl 24 (by decide) (hd ⟨24, .data⟩ (by simp) rfl)
          have ev' : a.tmps[53]? = some (.bool false) := known_at ha hsz hlen hl 36 (by decide) (hd ⟨36, .data⟩ (by simp) rfl)
          refine wp_value (w' := w') (v := .bool false) (by simp [execOp, ev, ev', go_sem]) ?_
          exact ⟨_, by rw [ha]; exact putAll_put A 17 37 l _ (by omega) (by omega), by rw [List.length_set]; exact hlen, hB, set_known hlen (by decide) hl⟩
        | i + 38, ho => simp at ho
      case done =>
        rintro D a w' ⟨l, ha, hlen, hB, hl⟩ hall
        obtain ⟨v0, v1, v2, v3, v4, v5, v6, v7, v8, v9, v10, v11, v12, v13, v14, v15, v16, v17, v18, v19, v20, v21, v22, v23, v24, v25, v26, v27, v28, v29, v30, v31, v32, v33, v34, v35, v36, v37, rfl⟩ := chsV_list hlen
        have hb9 := hB
        have io9 := io1.below hB
        have hz := hl 37 (by decide) (hall 37 (by decide))
        simp only [List.getElem?_cons_succ, List.getElem?_cons_zero, Option.some.injEq] at hz
        have hz' : v37 = .bool false := hz
        subst hz'
        clear hz hall hB hl hlen hsz s0 s1 s5
        subst hA
        have hfr : a = _ := ha
        rw [hfr]
        clear hfr ha
        simp only [putAll, List.take_succ_cons, List.take_zero, List.drop_succ_cons, List.drop_zero, List.cons_append, List.nil_append, List.length_cons, List.length_nil]
        have z2 := (hb9.cell (p := ⟨g1, jx * 5 + 2, none⟩) lg1).trans x2
        have z3 := (hb9.cell (p := ⟨g1, jx * 5 + 3, none⟩) lg1).trans x3
        have z4 := (hb9.cell (p := ⟨g1, jx * 5 + 4, none⟩) lg1).trans x4
        have eo9 : ElO w' base s := eo.same (fun g hg => by obtain ⟨_, cur, e, hh, _⟩ := eo.rows hg; exact hb9.block g (lt_of_block' hh))
        clear x0 x1 x2 x3 x4 y0 y1 y2 y3 y4 io1 io2 io9 eo
        go_wp2_with fail
        refine (spoil_any eo9.v eo9.b).mono ?_
        rintro e w3 ⟨rfl, hF⟩
        have hI3 := hI.next hp hs.out hb9 hF
        clear hF
        go_wp2
        go_roundw
        case rel => exact ⟨jx + 1, by omega, by go_num, hI3⟩
        case measure => simp [intOf]; omega
    · have hji : ¬ (jx : Int) < (n : Int) := by omega
      have fin : Hid (Fr (fun g => base ≤ g) w wr) := hI.fr.mono (fun g _ ⟨s, hs, hr⟩ => ((e1 s hs).rows hr).1)
      go_wp2
      go_ret
      exact ⟨rfl, fin.out⟩
end Go.Proofs.YteomolihandfnaaGreat
