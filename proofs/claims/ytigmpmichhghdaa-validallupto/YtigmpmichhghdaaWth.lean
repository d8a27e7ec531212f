/- The document's answer: within, Check. -/
import Derived.Test.YtigmpmichhghdaaRef
namespace Go.Proofs.Ytigmpmichhghdaa
open Go.RowKit
set_option maxRecDepth 100000
/-- The least object that stands in the way, of commits above one number and below another one. -/
def wiR (ds : List Tx) (base : Int) (rs ws : List Int) (top : Option Int) : Option Int := leastO ((rs ++ ws).filter (clB ds base top))
def widV (r : Option Int) : Value := .tuple #[.int .i64 (r.getD 0), .bool r.isSome]
theorem leastO_ext {l l' : List Int} (h : ∀ o, o ∈ l ↔ o ∈ l') : leastO l = leastO l' := by
  cases hl : leastO l with
  | none =>
    have e := leastO_none.1 hl
    subst e
    symm
    rw [leastO_none, List.eq_nil_iff_forall_not_mem]
    intro o ho
    exact absurd ((h o).2 ho) (by simp)
  | some x =>
    obtain ⟨h1, h2⟩ := leastO_some hl
    exact (leastO_is ((h x).1 h1) (fun y hy => h2 y ((h y).2 hy))).symm
theorem clB_one {x : Tm} {base : Int} {top : Option Int} {o : Int} : clB [x.d] base top o = true ↔ base < x.com ∧ (∀ t, top = some t → x.com < t) ∧ o ∈ x.ws := by
  unfold clB
  simp only [List.any_cons, List.any_nil, Bool.or_false, Bool.and_eq_true, decide_eq_true_eq]
  constructor
  · rintro ⟨⟨h1, h2⟩, h3⟩
    refine ⟨h1, fun t ht => ?_, h3⟩
    subst ht
    exact of_decide_eq_true h2
  · rintro ⟨h1, h2, h3⟩
    refine ⟨⟨h1, ?_⟩, h3⟩
    cases top with
    | none => rfl
    | some t => exact decide_eq_true (h2 t rfl)
theorem wi_out1 {x m : Tm} {top : Option Int} (h : x.com ≤ m.base) : wiR [x.d] m.base m.rs m.ws top = none := by
  unfold wiR
  rw [leastO_none, List.filter_eq_nil_iff]
  intro o _ hc
  have := (clB_one.1 hc).1
  omega
theorem wi_out2 {x m : Tm} {t : Int} (h : t ≤ x.com) : wiR [x.d] m.base m.rs m.ws (some t) = none := by
  unfold wiR
  rw [leastO_none, List.filter_eq_nil_iff]
  intro o _ hc
  have := (clB_one.1 hc).2.1 t rfl
  omega
theorem wi_in {x m : Tm} {top : Option Int} (h1 : m.base < x.com) (h2 : ∀ t, top = some t → x.com < t) : wiR [x.d] m.base m.rs m.ws top = leastO (x.ws.filter (inT m)) := by
  unfold wiR
  refine leastO_ext (fun o => ?_)
  rw [List.mem_filter, List.mem_filter, clB_one]
  unfold inT
  simp only [List.mem_append, Bool.or_eq_true, decide_eq_true_eq]
  exact ⟨fun ⟨h3, _, _, h4⟩ => ⟨h4, h3⟩, fun ⟨h4, h3⟩ => ⟨h3, h1, h2, h4⟩⟩
theorem wi_app (ds es : List Tx) (base : Int) (rs ws : List Int) (top : Option Int) : wiR (ds ++ es) base rs ws top = comb (wiR ds base rs ws top) (wiR es base rs ws top) :=
  leastO_comb (rs ++ ws) (fun o => by unfold clB; rw [List.any_append])
/-- What came so far. -/
def AccW (ms : List Tm) (m : Tm) (top : Option Int) (k : Nat) (z : Int) (b : Bool) : Prop := z = (wiR ((ms.take k).map Tm.d) m.base m.rs m.ws top).getD 0 ∧ b = (wiR ((ms.take k).map Tm.d) m.base m.rs m.ws top).isSome
theorem AccW.start {ms : List Tm} {m : Tm} {top : Option Int} : AccW ms m top 0 0 false := by
  have e : wiR (([] : List Tm).map Tm.d) m.base m.rs m.ws top = none := by
    unfold wiR
    rw [leastO_none, List.filter_eq_nil_iff]
    intro o _ hc
    cases hc
  unfold AccW
  rw [List.take_zero, e]
  exact ⟨rfl, rfl⟩
theorem AccW.step {ms : List Tm} {m x : Tm} {top : Option Int} {k : Nat} (hx : ms[k]? = some x) : wiR ((ms.take (k + 1)).map Tm.d) m.base m.rs m.ws top = comb (wiR ((ms.take k).map Tm.d) m.base m.rs m.ws top) (wiR [x.d] m.base m.rs m.ws top) := by
  rw [take_at hx, List.map_append, wi_app]
  rfl
theorem AccW.none {ms : List Tm} {m x : Tm} {top : Option Int} {k : Nat} {z : Int} {b : Bool} (h : AccW ms m top k z b) (hx : ms[k]? = some x) (hr : wiR [x.d] m.base m.rs m.ws top = Option.none) : AccW ms m top (k + 1) z b := by
  unfold AccW at h ⊢
  rw [AccW.step hx, hr, comb_none]
  exact h
theorem AccW.first {ms : List Tm} {m x : Tm} {top : Option Int} {k : Nat} {z q : Int} (h : AccW ms m top k z false) (hx : ms[k]? = some x) (hr : wiR [x.d] m.base m.rs m.ws top = some q) : AccW ms m top (k + 1) q true := by
  unfold AccW at h ⊢
  rw [AccW.step hx, hr]
  cases hc : wiR ((ms.take k).map Tm.d) m.base m.rs m.ws top with
  | none => exact ⟨rfl, rfl⟩
  | some y => rw [hc] at h; exact absurd h.2 (by simp)
theorem AccW.less {ms : List Tm} {m x : Tm} {top : Option Int} {k : Nat} {z q : Int} (h : AccW ms m top k z true) (hx : ms[k]? = some x) (hr : wiR [x.d] m.base m.rs m.ws top = some q) (hq : q < z) : AccW ms m top (k + 1) q true := by
  unfold AccW at h ⊢
  rw [AccW.step hx, hr]
  cases hc : wiR ((ms.take k).map Tm.d) m.base m.rs m.ws top with
  | none => rw [hc] at h; exact absurd h.2 (by simp)
  | some y =>
    rw [hc] at h
    have e : z = y := h.1
    exact ⟨by show q = min y q; omega, rfl⟩
theorem AccW.more {ms : List Tm} {m x : Tm} {top : Option Int} {k : Nat} {z q : Int} (h : AccW ms m top k z true) (hx : ms[k]? = some x) (hr : wiR [x.d] m.base m.rs m.ws top = some q) (hq : ¬ q < z) : AccW ms m top (k + 1) z true := by
  unfold AccW at h ⊢
  rw [AccW.step hx, hr]
  cases hc : wiR ((ms.take k).map Tm.d) m.base m.rs m.ws top with
  | none => rw [hc] at h; exact absurd h.2 (by simp)
  | some y =>
    rw [hc] at h
    have e : z = y := h.1
    exact ⟨by show z = min y q; omega, rfl⟩
set_option maxHeartbeats 8000000 in
theorem within_all {w : World} {da : Option Addr} {dn dc : Nat} {ms : List Tm} {m : Tm} (ee : Int) (h : IsTs w da dn dc ms) (hdn : dn ≤ 1048576) (hsh : Short ms) (hm : m.In w) (hmr : m.rn ≤ 1048576) (hmw : m.wn ≤ 1048576) :
    Calls Try.prog 29 #[.slice da dn dc, .agg #[.int .i64 m.base, .int .i64 m.com, .slice m.ra m.rn m.rc, .slice m.wa m.wn m.wc], .int .i64 ee, .bool true] w fun e w' => e = .returned (widV (wiR (ms.map Tm.d) m.base m.rs m.ws none)) ∧ Below w.heap.size w w' := by
  have B1 : Below w.heap.size w (w.alloc (txB m 25)) := box_below
  have E1 : (w.alloc (txB m 25)).heap[w.heap.size]? = some (txB m 25) := new1 _ _
  have hin1 := hm.below B1
  have hI1 := h.below B1
  obtain ⟨r0, hr0⟩ : ∃ r0, Hid (wiR (ms.map Tm.d) m.base m.rs m.ws none = r0) := ⟨_, rfl⟩
  rw [hr0.out]
  unfold widV
  have hsz : Hid (ms.length = dn) := h.size
  have hdnI : dn ≤ 9223372036854775807 := by omega
  go_enter Try.func29, Try.ntmps29
  go_wp2_with fail
  unfold txB at B1 E1 hin1 hI1
  generalize w.alloc (.cells #[.int .i64 m.base, .int .i64 m.com, .slice m.ra m.rn m.rc, .slice m.wa m.wn m.wc] 25) = w1 at *
  have hwl1 := lt_of_block E1
  clear h hm
  go_loopw [10, 11, 12] (fun bv av iv wr => ∃ (k : Nat) (z : Int) (bb : Bool), k ≤ dn ∧ iv = .int .i64 (k : Int) ∧ bv = .int .i64 z ∧ av = .bool bb ∧ AccW ms m none k z bb ∧ Below w1.heap.size w1 wr) (fun _ _ iv _ => dn - (intOf iv).toNat)
  case atStart => exact ⟨0, 0, false, by omega, rfl, rfl, rfl, AccW.start, Below.refl _ _⟩
  case round =>
    obtain ⟨k, z, bb, hkk, rfl, rfl, rfl, hac, B⟩ := hrel
    have E2 := (B.block _ hwl1).trans E1
    obtain ⟨x0, x1, x2, x3, _⟩ := tx_cells (m := m) (t := 25) E2
    have B5 : Below w.heap.size w wr := B1.trans (B.mono B1.size)
    by_cases hlt : k < dn
    · obtain ⟨b, off, x, rfl, _, d0, d1, d2, d3, hx, _⟩ := (hI1.below B).at_ k hlt
      have hkI : (k : Int) < (dn : Int) := by omega
      have hk0 : (0 : Int) ≤ (k : Int) := by omega
      have hxw := (hsh x (List.mem_of_getElem? hx.out)).2
      obtain ⟨rc, hrc⟩ : ∃ rc, Hid (leastO (x.ws.filter (inT m)) = rc) := ⟨_, rfl⟩
      clear E2 d0 d2
      by_cases hle : x.com ≤ m.base
      · have hld : decide (x.com ≤ m.base) = true := decide_eq_true hle
        have hone : Hid (wiR [x.d] m.base m.rs m.ws none = none) := wi_out1 hle
        have hnx := hac.none hx.out hone.out
        clear hx hac hone hrc
        go_upto_region 6 with fail
        go_quiet (fail)
        go_wp2
        go_roundw
        case rel => exact ⟨k + 1, z, bb, by omega, by go_num, rfl, rfl, hnx, below_drewN' B _⟩
        case measure => simp [intOf]; omega
      · have hld : decide (x.com ≤ m.base) = false := decide_eq_false hle
        have hone : Hid (wiR [x.d] m.base m.rs m.ws none = rc) := by rw [← hrc.out]; exact wi_in (by omega) (fun t ht => by cases ht)
        go_upto_region 6 with fail
        go_quiet (fail)
        go_upto_region 7 with fail
        obtain ⟨wq, hwq⟩ : ∃ wq, wr.drewN nq = wq := ⟨_, rfl⟩
        have BQ : Below w1.heap.size w1 wq := by rw [← hwq]; exact below_drewN' B _
        have c3 : wq.cell? ⟨b, off + k * 4 + 3, none⟩ = some (.slice x.wa x.wn x.wc) := by rw [← hwq]; exact d3
        have y0 : wq.cell? ⟨w.heap.size, 0, none⟩ = some (.int .i64 m.base) := by rw [← hwq]; exact x0
        have y1 : wq.cell? ⟨w.heap.size, 1, none⟩ = some (.int .i64 m.com) := by rw [← hwq]; exact x1
        have y2 : wq.cell? ⟨w.heap.size, 2, none⟩ = some (.slice m.ra m.rn m.rc) := by rw [← hwq]; exact x2
        have y3 : wq.cell? ⟨w.heap.size, 3, none⟩ = some (.slice m.wa m.wn m.wc) := by rw [← hwq]; exact x3
        have hin := hin1.below BQ
        have hxin := (hI1.each x (List.mem_of_getElem? hx.out)).below BQ
        have hwl := Nat.lt_of_lt_of_le hwl1 BQ.size
        rw [hwq]
        clear hwq
        refine wp_region_inv' (fun A D a w' => ∃ v43 v44 v45 v46 v47 v48 v49 v42 v50 v51 v13 v14, a = ((((((((((((A.put (some 43) v43).put (some 44) v44).put (some 45) v45).put (some 46) v46).put (some 47) v47).put (some 48) v48).put (some 49) v49).put (some 42) v42).put (some 50) v50).put (some 51) v51).put (some 13) v13).put (some 14) v14) ∧ Below wq.heap.size wq w' ∧ (D 0 → v43 = .slice (some ⟨b, off, none⟩) dn dc) ∧ (D 1 → v44 = .int .i64 (k : Int)) ∧ (D 2 → v45 = .pointer (some ⟨b, off + k * 4, none⟩)) ∧ (D 3 → v46 = .pointer (some ⟨b, off + k * 4 + 3, none⟩)) ∧ (D 4 → v47 = .slice (Tm.wa x) (Tm.wn x) (Tm.wc x)) ∧ (D 5 → v48 = .agg #[.int .i64 (Tm.base m), .int .i64 (Tm.com m), .slice (Tm.ra m) (Tm.rn m) (Tm.rc m), .slice (Tm.wa m) (Tm.wn m) (Tm.wc m)]) ∧ (D 6 → v49 = .tuple #[.int .i64 (rc.getD 0), .bool rc.isSome]) ∧ (D 7 → v42 = .tuple #[.int .i64 (rc.getD 0), .bool rc.isSome]) ∧ (D 8 → v50 = .int .i64 (rc.getD 0)) ∧ (D 9 → v51 = .bool rc.isSome) ∧ (D 10 → v13 = .int .i64 (rc.getD 0)) ∧ (D 11 → v14 = .bool rc.isSome)) (by kernel_rfl) (by kernel_rfl) ?mono ?start ?step ?done
        case mono =>
          rintro D D' a w' hD ⟨v43, v44, v45, v46, v47, v48, v49, v42, v50, v51, v13, v14, ha, hB, e0, e1, e2, e3, e4, e5, e6, e7, e8, e9, e10, e11⟩
          exact ⟨v43, v44, v45, v46, v47, v48, v49, v42, v50, v51, v13, v14, ha, hB, fun h => e0 ((hD 0).2 h), fun h => e1 ((hD 1).2 h), fun h => e2 ((hD 2).2 h), fun h => e3 ((hD 3).2 h), fun h => e4 ((hD 4).2 h), fun h => e5 ((hD 5).2 h), fun h => e6 ((hD 6).2 h), fun h => e7 ((hD 7).2 h), fun h => e8 ((hD 8).2 h), fun h => e9 ((hD 9).2 h), fun h => e10 ((hD 10).2 h), fun h => e11 ((hD 11).2 h)⟩
        case start => exact ⟨u43, u44, u45, u46, u47, u48, u49, u42, u50, u51, u13, u14, by kernel_rfl, (Below.refl _ _).drew, fun h => h.elim, fun h => h.elim, fun h => h.elim, fun h => h.elim, fun h => h.elim, fun h => h.elim, fun h => h.elim, fun h => h.elim, fun h => h.elim, fun h => h.elim, fun h => h.elim, fun h => h.elim⟩
        case step =>
          intro i o ho D a w' hI hn hcl hd
          obtain ⟨v43, v44, v45, v46, v47, v48, v49, v42, v50, v51, v13, v14, ha, hB, e0, e1, e2, e3, e4, e5, e6, e7, e8, e9, e10, e11⟩ := hI
          match i, ho with
          | 0, ho =>
            cases Option.some.inj ho
            have ev : a.tmps[0]?.getD undef = .slice (some ⟨b, off, none⟩) dn dc := by rw [ha]; kernel_rfl
            refine wp_value (w' := w') (v := .slice (some ⟨b, off, none⟩) dn dc) (by simp [execOp, ev, go_sem]) ?_
            exact ⟨(.slice (some ⟨b, off, none⟩) dn dc), v44, v45, v46, v47, v48, v49, v42, v50, v51, v13, v14, by rw [ha]; kernel_rfl, hB, fun _ => rfl, fun h => e1 (h.resolve_left (by decide)), fun h => e2 (h.resolve_left (by decide)), fun h => e3 (h.resolve_left (by decide)), fun h => e4 (h.resolve_left (by decide)), fun h => e5 (h.resolve_left (by decide)), fun h => e6 (h.resolve_left (by decide)), fun h => e7 (h.resolve_left (by decide)), fun h => e8 (h.resolve_left (by decide)), fun h => e9 (h.resolve_left (by decide)), fun h => e10 (h.resolve_left (by decide)), fun h => e11 (h.resolve_left (by decide))⟩
          | 1, ho =>
            cases Option.some.inj ho
            have ev : a.tmps[12]?.getD undef = .int .i64 (k : Int) := by rw [ha]; kernel_rfl
            refine wp_value (w' := w') (v := .int .i64 (k : Int)) (by simp [execOp, ev, go_sem]) ?_
            exact ⟨v43, (.int .i64 (k : Int)), v45, v46, v47, v48, v49, v42, v50, v51, v13, v14, by rw [ha]; kernel_rfl, hB, fun h => e0 (h.resolve_left (by decide)), fun _ => rfl, fun h => e2 (h.resolve_left (by decide)), fun h => e3 (h.resolve_left (by decide)), fun h => e4 (h.resolve_left (by decide)), fun h => e5 (h.resolve_left (by decide)), fun h => e6 (h.resolve_left (by decide)), fun h => e7 (h.resolve_left (by decide)), fun h => e8 (h.resolve_left (by decide)), fun h => e9 (h.resolve_left (by decide)), fun h => e10 (h.resolve_left (by decide)), fun h => e11 (h.resolve_left (by decide))⟩
          | 2, ho =>
            cases Option.some.inj ho
            have ev : a.tmps[43]?.getD undef = .slice (some ⟨b, off, none⟩) dn dc := by rw [ha, e0 (hd ⟨0, .data⟩ (by simp) rfl)]; kernel_rfl
            have ev' : a.tmps[44]?.getD undef = .int .i64 (k : Int) := by rw [ha, e1 (hd ⟨1, .data⟩ (by simp) rfl)]; kernel_rfl
            refine wp_value (w' := w') (v := .pointer (some ⟨b, off + k * 4, none⟩)) (by simp [execOp, ev, ev', go_sem, hkI, hk0]) ?_
            exact ⟨v43, v44, (.pointer (some ⟨b, off + k * 4, none⟩)), v46, v47, v48, v49, v42, v50, v51, v13, v14, by rw [ha]; kernel_rfl, hB, fun h => e0 (h.resolve_left (by decide)), fun h => e1 (h.resolve_left (by decide)), fun _ => rfl, fun h => e3 (h.resolve_left (by decide)), fun h => e4 (h.resolve_left (by decide)), fun h => e5 (h.resolve_left (by decide)), fun h => e6 (h.resolve_left (by decide)), fun h => e7 (h.resolve_left (by decide)), fun h => e8 (h.resolve_left (by decide)), fun h => e9 (h.resolve_left (by decide)), fun h => e10 (h.resolve_left (by decide)), fun h => e11 (h.resolve_left (by decide))⟩
          | 3, ho =>
            cases Option.some.inj ho
            have ev : a.tmps[45]?.getD undef = .pointer (some ⟨b, off + k * 4, none⟩) := by rw [ha, e2 (hd ⟨2, .data⟩ (by simp) rfl)]; kernel_rfl
            refine wp_value (w' := w') (v := .pointer (some ⟨b, off + k * 4 + 3, none⟩)) (by simp [execOp, ev, go_sem]) ?_
            exact ⟨v43, v44, v45, (.pointer (some ⟨b, off + k * 4 + 3, none⟩)), v47, v48, v49, v42, v50, v51, v13, v14, by rw [ha]; kernel_rfl, hB, fun h => e0 (h.resolve_left (by decide)), fun h => e1 (h.resolve_left (by decide)), fun h => e2 (h.resolve_left (by decide)), fun _ => rfl, fun h => e4 (h.resolve_left (by decide)), fun h => e5 (h.resolve_left (by decide)), fun h => e6 (h.resolve_left (by decide)), fun h => e7 (h.resolve_left (by decide)), fun h => e8 (h.resolve_left (by decide)), fun h => e9 (h.resolve_left (by decide)), fun h => e10 (h.resolve_left (by decide)), fun h => e11 (h.resolve_left (by decide))⟩
          | 4, ho =>
            cases Option.some.inj ho
            have ev : a.tmps[46]?.getD undef = .pointer (some ⟨b, off + k * 4 + 3, none⟩) := by rw [ha, e3 (hd ⟨3, .data⟩ (by simp) rfl)]; kernel_rfl
            have z3 := (hB.cell (p := ⟨b, off + k * 4 + 3, none⟩) (lt_of_cell c3)).trans c3
            refine wp_value (w' := w') (v := .slice (Tm.wa x) (Tm.wn x) (Tm.wc x)) (by simp [execOp, ev, go_sem, z3]) ?_
            exact ⟨v43, v44, v45, v46, (.slice (Tm.wa x) (Tm.wn x) (Tm.wc x)), v48, v49, v42, v50, v51, v13, v14, by rw [ha]; kernel_rfl, hB, fun h => e0 (h.resolve_left (by decide)), fun h => e1 (h.resolve_left (by decide)), fun h => e2 (h.resolve_left (by decide)), fun h => e3 (h.resolve_left (by decide)), fun _ => rfl, fun h => e5 (h.resolve_left (by decide)), fun h => e6 (h.resolve_left (by decide)), fun h => e7 (h.resolve_left (by decide)), fun h => e8 (h.resolve_left (by decide)), fun h => e9 (h.resolve_left (by decide)), fun h => e10 (h.resolve_left (by decide)), fun h => e11 (h.resolve_left (by decide))⟩
          | 5, ho =>
            cases Option.some.inj ho
            have ev : a.tmps[5]?.getD undef = .pointer (some ⟨w.heap.size, 0, none⟩) := by rw [ha]; kernel_rfl
            have z0 := (hB.cell (p := ⟨w.heap.size, 0, none⟩) hwl).trans y0
            have z1 := (hB.cell (p := ⟨w.heap.size, 1, none⟩) hwl).trans y1
            have z2 := (hB.cell (p := ⟨w.heap.size, 2, none⟩) hwl).trans y2
            have z3 := (hB.cell (p := ⟨w.heap.size, 3, none⟩) hwl).trans y3
            refine wp_value (w' := w') (v := .agg #[.int .i64 (Tm.base m), .int .i64 (Tm.com m), .slice (Tm.ra m) (Tm.rn m) (Tm.rc m), .slice (Tm.wa m) (Tm.wn m) (Tm.wc m)]) (by simp [execOp, ev, go_sem, z0, z1, z2, z3]) ?_
            exact ⟨v43, v44, v45, v46, v47, (.agg #[.int .i64 (Tm.base m), .int .i64 (Tm.com m), .slice (Tm.ra m) (Tm.rn m) (Tm.rc m), .slice (Tm.wa m) (Tm.wn m) (Tm.wc m)]), v49, v42, v50, v51, v13, v14, by rw [ha]; kernel_rfl, hB, fun h => e0 (h.resolve_left (by decide)), fun h => e1 (h.resolve_left (by decide)), fun h => e2 (h.resolve_left (by decide)), fun h => e3 (h.resolve_left (by decide)), fun h => e4 (h.resolve_left (by decide)), fun _ => rfl, fun h => e6 (h.resolve_left (by decide)), fun h => e7 (h.resolve_left (by decide)), fun h => e8 (h.resolve_left (by decide)), fun h => e9 (h.resolve_left (by decide)), fun h => e10 (h.resolve_left (by decide)), fun h => e11 (h.resolve_left (by decide))⟩
          | 6, ho =>
            cases Option.some.inj ho
            have ev : a.tmps[47]?.getD undef = .slice (Tm.wa x) (Tm.wn x) (Tm.wc x) := by rw [ha, e4 (hd ⟨4, .data⟩ (by simp) rfl)]; kernel_rfl
            have ev' : a.tmps[48]?.getD undef = .agg #[.int .i64 (Tm.base m), .int .i64 (Tm.com m), .slice (Tm.ra m) (Tm.rn m) (Tm.rc m), .slice (Tm.wa m) (Tm.wn m) (Tm.wc m)] := by rw [ha, e5 (hd ⟨5, .data⟩ (by simp) rfl)]; kernel_rfl
            have hck := clash_any (hxin.w.1.below hB) (hin.below hB) hxw hmr hmw
            rw [hrc.out] at hck
            refine wp_enter (f := 43) (args := #[.slice (Tm.wa x) (Tm.wn x) (Tm.wc x), .agg #[.int .i64 (Tm.base m), .int .i64 (Tm.com m), .slice (Tm.ra m) (Tm.rn m) (Tm.rc m), .slice (Tm.wa m) (Tm.wn m) (Tm.wc m)]]) (by simp [execOp, ev, ev', go_sem]) ?_
            refine (hck).mono ?_
            rintro e w6 ⟨rfl, B6⟩
            refine ⟨_, rfl, ?_⟩
            exact ⟨v43, v44, v45, v46, v47, v48, (.tuple #[.int .i64 (rc.getD 0), .bool rc.isSome]), v42, v50, v51, v13, v14, by rw [ha]; kernel_rfl, below_size hB hB.size B6, fun h => e0 (h.resolve_left (by decide)), fun h => e1 (h.resolve_left (by decide)), fun h => e2 (h.resolve_left (by decide)), fun h => e3 (h.resolve_left (by decide)), fun h => e4 (h.resolve_left (by decide)), fun h => e5 (h.resolve_left (by decide)), fun _ => rfl, fun h => e7 (h.resolve_left (by decide)), fun h => e8 (h.resolve_left (by decide)), fun h => e9 (h.resolve_left (by decide)), fun h => e10 (h.resolve_left (by decide)), fun h => e11 (h.resolve_left (by decide))⟩
          | 7, ho =>
            cases Option.some.inj ho
            have ev : a.tmps[49]?.getD undef = .tuple #[.int .i64 (rc.getD 0), .bool rc.isSome] := by rw [ha, e6 (hd ⟨6, .data⟩ (by simp) rfl)]; kernel_rfl
            refine wp_value (w' := w') (v := .tuple #[.int .i64 (rc.getD 0), .bool rc.isSome]) (by simp [execOp, ev, go_sem]) ?_
            exact ⟨v43, v44, v45, v46, v47, v48, v49, (.tuple #[.int .i64 (rc.getD 0), .bool rc.isSome]), v50, v51, v13, v14, by rw [ha]; kernel_rfl, hB, fun h => e0 (h.resolve_left (by decide)), fun h => e1 (h.resolve_left (by decide)), fun h => e2 (h.resolve_left (by decide)), fun h => e3 (h.resolve_left (by decide)), fun h => e4 (h.resolve_left (by decide)), fun h => e5 (h.resolve_left (by decide)), fun h => e6 (h.resolve_left (by decide)), fun _ => rfl, fun h => e8 (h.resolve_left (by decide)), fun h => e9 (h.resolve_left (by decide)), fun h => e10 (h.resolve_left (by decide)), fun h => e11 (h.resolve_left (by decide))⟩
          | 8, ho =>
            cases Option.some.inj ho
            have ev : a.tmps[42]?.getD undef = .tuple #[.int .i64 (rc.getD 0), .bool rc.isSome] := by rw [ha, e7 (hd ⟨7, .data⟩ (by simp) rfl)]; kernel_rfl
            refine wp_value (w' := w') (v := .int .i64 (rc.getD 0)) (by simp [execOp, ev, go_sem]) ?_
            exact ⟨v43, v44, v45, v46, v47, v48, v49, v42, (.int .i64 (rc.getD 0)), v51, v13, v14, by rw [ha]; kernel_rfl, hB, fun h => e0 (h.resolve_left (by decide)), fun h => e1 (h.resolve_left (by decide)), fun h => e2 (h.resolve_left (by decide)), fun h => e3 (h.resolve_left (by decide)), fun h => e4 (h.resolve_left (by decide)), fun h => e5 (h.resolve_left (by decide)), fun h => e6 (h.resolve_left (by decide)), fun h => e7 (h.resolve_left (by decide)), fun _ => rfl, fun h => e9 (h.resolve_left (by decide)), fun h => e10 (h.resolve_left (by decide)), fun h => e11 (h.resolve_left (by decide))⟩
          | 9, ho =>
            cases Option.some.inj ho
            have ev : a.tmps[42]?.getD undef = .tuple #[.int .i64 (rc.getD 0), .bool rc.isSome] := by rw [ha, e7 (hd ⟨7, .data⟩ (by simp) rfl)]; kernel_rfl
            refine wp_value (w' := w') (v := .bool rc.isSome) (by simp [execOp, ev, go_sem]) ?_
            exact ⟨v43, v44, v45, v46, v47, v48, v49, v42, v50, (.bool rc.isSome), v13, v14, by rw [ha]; kernel_rfl, hB, fun h => e0 (h.resolve_left (by decide)), fun h => e1 (h.resolve_left (by decide)), fun h => e2 (h.resolve_left (by decide)), fun h => e3 (h.resolve_left (by decide)), fun h => e4 (h.resolve_left (by decide)), fun h => e5 (h.resolve_left (by decide)), fun h => e6 (h.resolve_left (by decide)), fun h => e7 (h.resolve_left (by decide)), fun h => e8 (h.resolve_left (by decide)), fun _ => rfl, fun h => e10 (h.resolve_left (by decide)), fun h => e11 (h.resolve_left (by decide))⟩
          | 10, ho =>
            cases Option.some.inj ho
            have ev : a.tmps[50]?.getD undef = .int .i64 (rc.getD 0) := by rw [ha, e8 (hd ⟨8, .data⟩ (by simp) rfl)]; kernel_rfl
            refine wp_value (w' := w') (v := .int .i64 (rc.getD 0)) (by simp [execOp, ev, go_sem]) ?_
            exact ⟨v43, v44, v45, v46, v47, v48, v49, v42, v50, v51, (.int .i64 (rc.getD 0)), v14, by rw [ha]; kernel_rfl, hB, fun h => e0 (h.resolve_left (by decide)), fun h => e1 (h.resolve_left (by decide)), fun h => e2 (h.resolve_left (by decide)), fun h => e3 (h.resolve_left (by decide)), fun h => e4 (h.resolve_left (by decide)), fun h => e5 (h.resolve_left (by decide)), fun h => e6 (h.resolve_left (by decide)), fun h => e7 (h.resolve_left (by decide)), fun h => e8 (h.resolve_left (by decide)), fun h => e9 (h.resolve_left (by decide)), fun _ => rfl, fun h => e11 (h.resolve_left (by decide))⟩
          | 11, ho =>
            cases Option.some.inj ho
            have ev : a.tmps[51]?.getD undef = .bool rc.isSome := by rw [ha, e9 (hd ⟨9, .data⟩ (by simp) rfl)]; kernel_rfl
            refine wp_value (w' := w') (v := .bool rc.isSome) (by simp [execOp, ev, go_sem]) ?_
            exact ⟨v43, v44, v45, v46, v47, v48, v49, v42, v50, v51, v13, (.bool rc.isSome), by rw [ha]; kernel_rfl, hB, fun h => e0 (h.resolve_left (by decide)), fun h => e1 (h.resolve_left (by decide)), fun h => e2 (h.resolve_left (by decide)), fun h => e3 (h.resolve_left (by decide)), fun h => e4 (h.resolve_left (by decide)), fun h => e5 (h.resolve_left (by decide)), fun h => e6 (h.resolve_left (by decide)), fun h => e7 (h.resolve_left (by decide)), fun h => e8 (h.resolve_left (by decide)), fun h => e9 (h.resolve_left (by decide)), fun h => e10 (h.resolve_left (by decide)), fun _ => rfl⟩
          | i + 12, ho => simp at ho
        case done =>
          rintro D a w' ⟨v43, v44, v45, v46, v47, v48, v49, v42, v50, v51, v13, v14, ha, hB, e0, e1, e2, e3, e4, e5, e6, e7, e8, e9, e10, e11⟩ hall
          obtain rfl := e0 (hall 0 (by decide))
          obtain rfl := e1 (hall 1 (by decide))
          obtain rfl := e2 (hall 2 (by decide))
          obtain rfl := e3 (hall 3 (by decide))
          obtain rfl := e4 (hall 4 (by decide))
          obtain rfl := e5 (hall 5 (by decide))
          obtain rfl := e6 (hall 6 (by decide))
          obtain rfl := e7 (hall 7 (by decide))
          obtain rfl := e8 (hall 8 (by decide))
          obtain rfl := e9 (hall 9 (by decide))
          obtain rfl := e10 (hall 10 (by decide))
          obtain rfl := e11 (hall 11 (by decide))
          clear hall e0 e1 e2 e3 e4 e5 e6 e7 e8 e9 e10 e11
          rw [ha]
          clear ha
          simp only [Act.put, List.setIfInBounds_toArray, List.set_cons_zero, List.set_cons_succ]
          have B9 := below_size BQ BQ.size hB
          clear hB
          cases rc with
          | none =>
            have hnx := hac.none hx.out hone.out
            clear hx hac hone hrc
            dsimp only [Option.getD, Option.isSome]
            go_wp2
            go_roundw
            case rel => exact ⟨k + 1, z, bb, by omega, by go_num, rfl, rfl, hnx, B9⟩
            case measure => simp [intOf]; omega
          | some q =>
            dsimp only [Option.getD, Option.isSome]
            cases bb with
            | false =>
              have hnx := hac.first hx.out hone.out
              clear hx hac hone hrc
              go_wp2
              go_roundw
              case rel => exact ⟨k + 1, q, true, by omega, by go_num, rfl, rfl, hnx, B9⟩
              case measure => simp [intOf]; omega
            | true =>
              by_cases hzy : q < z
              · have hnx := hac.less hx.out hone.out hzy
                clear hx hac hone hrc
                go_wp2
                go_roundw
                case rel => exact ⟨k + 1, q, true, by omega, by go_num, rfl, rfl, hnx, B9⟩
                case measure => simp [intOf]; omega
              · have hnx := hac.more hx.out hone.out hzy
                clear hx hac hone hrc
                go_wp2
                go_roundw
                case rel => exact ⟨k + 1, z, true, by omega, by go_num, rfl, rfl, hnx, B9⟩
                case measure => simp [intOf]; omega
    · have hge : ¬ (k : Int) < (dn : Int) := by omega
      have hfin : Hid (r0.getD 0 = z ∧ r0.isSome = bb) := by
        unfold AccW at hac
        rw [List.take_of_length_le (by rw [hsz.out]; omega), hr0.out] at hac
        exact ⟨hac.1.symm, hac.2.symm⟩
      clear hac
      go_wp2
      refine bodyPost_ret (results_tmp2 rfl _ _ _) rfl ?_
      exact ⟨by rw [hfin.out.1, hfin.out.2]; rfl, B5⟩
set_option maxHeartbeats 8000000 in
theorem within_end {w : World} {da : Option Addr} {dn dc : Nat} {ms : List Tm} {m : Tm} (ee : Int) (h : IsTs w da dn dc ms) (hdn : dn ≤ 1048576) (hsh : Short ms) (hm : m.In w) (hmr : m.rn ≤ 1048576) (hmw : m.wn ≤ 1048576) :
    Calls Try.prog 29 #[.slice da dn dc, .agg #[.int .i64 m.base, .int .i64 m.com, .slice m.ra m.rn m.rc, .slice m.wa m.wn m.wc], .int .i64 ee, .bool false] w fun e w' => e = .returned (widV (wiR (ms.map Tm.d) m.base m.rs m.ws (some ee))) ∧ Below w.heap.size w w' := by
  have B1 : Below w.heap.size w (w.alloc (txB m 25)) := box_below
  have E1 : (w.alloc (txB m 25)).heap[w.heap.size]? = some (txB m 25) := new1 _ _
  have hin1 := hm.below B1
  have hI1 := h.below B1
  obtain ⟨r0, hr0⟩ : ∃ r0, Hid (wiR (ms.map Tm.d) m.base m.rs m.ws (some ee) = r0) := ⟨_, rfl⟩
  rw [hr0.out]
  unfold widV
  have hsz : Hid (ms.length = dn) := h.size
  have hdnI : dn ≤ 9223372036854775807 := by omega
  go_enter Try.func29, Try.ntmps29
  go_wp2_with fail
  unfold txB at B1 E1 hin1 hI1
  generalize w.alloc (.cells #[.int .i64 m.base, .int .i64 m.com, .slice m.ra m.rn m.rc, .slice m.wa m.wn m.wc] 25) = w1 at *
  have hwl1 := lt_of_block E1
  clear h hm
  go_loopw [10, 11, 12] (fun bv av iv wr => ∃ (k : Nat) (z : Int) (bb : Bool), k ≤ dn ∧ iv = .int .i64 (k : Int) ∧ bv = .int .i64 z ∧ av = .bool bb ∧ AccW ms m (some ee) k z bb ∧ Below w1.heap.size w1 wr) (fun _ _ iv _ => dn - (intOf iv).toNat)
  case atStart => exact ⟨0, 0, false, by omega, rfl, rfl, rfl, AccW.start, Below.refl _ _⟩
  case round =>
    obtain ⟨k, z, bb, hkk, rfl, rfl, rfl, hac, B⟩ := hrel
    have E2 := (B.block _ hwl1).trans E1
    obtain ⟨x0, x1, x2, x3, _⟩ := tx_cells (m := m) (t := 25) E2
    have B5 : Below w.heap.size w wr := B1.trans (B.mono B1.size)
    by_cases hlt : k < dn
    · obtain ⟨b, off, x, rfl, _, d0, d1, d2, d3, hx, _⟩ := (hI1.below B).at_ k hlt
      have hkI : (k : Int) < (dn : Int) := by omega
      have hk0 : (0 : Int) ≤ (k : Int) := by omega
      have hxw := (hsh x (List.mem_of_getElem? hx.out)).2
      obtain ⟨rc, hrc⟩ : ∃ rc, Hid (leastO (x.ws.filter (inT m)) = rc) := ⟨_, rfl⟩
      clear E2 d0 d2
      by_cases hle : x.com ≤ m.base
      · have hld : decide (x.com ≤ m.base) = true := decide_eq_true hle
        have hone : Hid (wiR [x.d] m.base m.rs m.ws (some ee) = none) := wi_out1 hle
        have hnx := hac.none hx.out hone.out
        clear hx hac hone hrc
        go_upto_region 6 with fail
        go_quiet (fail)
        go_wp2
        go_roundw
        case rel => exact ⟨k + 1, z, bb, by omega, by go_num, rfl, rfl, hnx, below_drewN' B _⟩
        case measure => simp [intOf]; omega
      · have hld : decide (x.com ≤ m.base) = false := decide_eq_false hle
        by_cases hge2 : ee ≤ x.com
        · have hgd : decide (ee ≤ x.com) = true := decide_eq_true hge2
          have hone : Hid (wiR [x.d] m.base m.rs m.ws (some ee) = none) := wi_out2 hge2
          have hnx := hac.none hx.out hone.out
          clear hx hac hone hrc
          go_upto_region 6 with fail
          go_quiet (fail)
          go_wp2
          go_roundw
          case rel => exact ⟨k + 1, z, bb, by omega, by go_num, rfl, rfl, hnx, below_drewN' B _⟩
          case measure => simp [intOf]; omega
        · have hgd : decide (ee ≤ x.com) = false := decide_eq_false hge2
          have hone : Hid (wiR [x.d] m.base m.rs m.ws (some ee) = rc) := by rw [← hrc.out]; exact wi_in (by omega) (fun t ht => by cases ht; omega)
          go_upto_region 6 with fail
          go_quiet (fail)
          go_upto_region 7 with fail
          obtain ⟨wq, hwq⟩ : ∃ wq, wr.drewN nq = wq := ⟨_, rfl⟩
          have BQ : Below w1.heap.size w1 wq := by rw [← hwq]; exact below_drewN' B _
          have c3 : wq.cell? ⟨b, off + k * 4 + 3, none⟩ = some (.slice x.wa x.wn x.wc) := by rw [← hwq]; exact d3
          have y0 : wq.cell? ⟨w.heap.size, 0, none⟩ = some (.int .i64 m.base) := by rw [← hwq]; exact x0
          have y1 : wq.cell? ⟨w.heap.size, 1, none⟩ = some (.int .i64 m.com) := by rw [← hwq]; exact x1
          have y2 : wq.cell? ⟨w.heap.size, 2, none⟩ = some (.slice m.ra m.rn m.rc) := by rw [← hwq]; exact x2
          have y3 : wq.cell? ⟨w.heap.size, 3, none⟩ = some (.slice m.wa m.wn m.wc) := by rw [← hwq]; exact x3
          have hin := hin1.below BQ
          have hxin := (hI1.each x (List.mem_of_getElem? hx.out)).below BQ
          have hwl := Nat.lt_of_lt_of_le hwl1 BQ.size
          rw [hwq]
          clear hwq
          refine wp_region_inv' (fun A D a w' => ∃ v43 v44 v45 v46 v47 v48 v49 v42 v50 v51 v13 v14, a = ((((((((((((A.put (some 43) v43).put (some 44) v44).put (some 45) v45).put (some 46) v46).put (some 47) v47).put (some 48) v48).put (some 49) v49).put (some 42) v42).put (some 50) v50).put (some 51) v51).put (some 13) v13).put (some 14) v14) ∧ Below wq.heap.size wq w' ∧ (D 0 → v43 = .slice (some ⟨b, off, none⟩) dn dc) ∧ (D 1 → v44 = .int .i64 (k : Int)) ∧ (D 2 → v45 = .pointer (some ⟨b, off + k * 4, none⟩)) ∧ (D 3 → v46 = .pointer (some ⟨b, off + k * 4 + 3, none⟩)) ∧ (D 4 → v47 = .slice (Tm.wa x) (Tm.wn x) (Tm.wc x)) ∧ (D 5 → v48 = .agg #[.int .i64 (Tm.base m), .int .i64 (Tm.com m), .slice (Tm.ra m) (Tm.rn m) (Tm.rc m), .slice (Tm.wa m) (Tm.wn m) (Tm.wc m)]) ∧ (D 6 → v49 = .tuple #[.int .i64 (rc.getD 0), .bool rc.isSome]) ∧ (D 7 → v42 = .tuple #[.int .i64 (rc.getD 0), .bool rc.isSome]) ∧ (D 8 → v50 = .int .i64 (rc.getD 0)) ∧ (D 9 → v51 = .bool rc.isSome) ∧ (D 10 → v13 = .int .i64 (rc.getD 0)) ∧ (D 11 → v14 = .bool rc.isSome)) (by kernel_rfl) (by kernel_rfl) ?mono ?start ?step ?done
          case mono =>
            rintro D D' a w' hD ⟨v43, v44, v45, v46, v47, v48, v49, v42, v50, v51, v13, v14, ha, hB, e0, e1, e2, e3, e4, e5, e6, e7, e8, e9, e10, e11⟩
            exact ⟨v43, v44, v45, v46, v47, v48, v49, v42, v50, v51, v13, v14, ha, hB, fun h => e0 ((hD 0).2 h), fun h => e1 ((hD 1).2 h), fun h => e2 ((hD 2).2 h), fun h => e3 ((hD 3).2 h), fun h => e4 ((hD 4).2 h), fun h => e5 ((hD 5).2 h), fun h => e6 ((hD 6).2 h), fun h => e7 ((hD 7).2 h), fun h => e8 ((hD 8).2 h), fun h => e9 ((hD 9).2 h), fun h => e10 ((hD 10).2 h), fun h => e11 ((hD 11).2 h)⟩
          case start => exact ⟨u43, u44, u45, u46, u47, u48, u49, u42, u50, u51, u13, u14, by kernel_rfl, (Below.refl _ _).drew, fun h => h.elim, fun h => h.elim, fun h => h.elim, fun h => h.elim, fun h => h.elim, fun h => h.elim, fun h => h.elim, fun h => h.elim, fun h => h.elim, fun h => h.elim, fun h => h.elim, fun h => h.elim⟩
          case step =>
            intro i o ho D a w' hI hn hcl hd
            obtain ⟨v43, v44, v45, v46, v47, v48, v49, v42, v50, v51, v13, v14, ha, hB, e0, e1, e2, e3, e4, e5, e6, e7, e8, e9, e10, e11⟩ := hI
            match i, ho with
            | 0, ho =>
              cases Option.some.inj ho
              have ev : a.tmps[0]?.getD undef = .slice (some ⟨b, off, none⟩) dn dc := by rw [ha]; kernel_rfl
              refine wp_value (w' := w') (v := .slice (some ⟨b, off, none⟩) dn dc) (by simp [execOp, ev, go_sem]) ?_
              exact ⟨(.slice (some ⟨b, off, none⟩) dn dc), v44, v45, v46, v47, v48, v49, v42, v50, v51, v13, v14, by rw [ha]; kernel_rfl, hB, fun _ => rfl, fun h => e1 (h.resolve_left (by decide)), fun h => e2 (h.resolve_left (by decide)), fun h => e3 (h.resolve_left (by decide)), fun h => e4 (h.resolve_left (by decide)), fun h => e5 (h.resolve_left (by decide)), fun h => e6 (h.resolve_left (by decide)), fun h => e7 (h.resolve_left (by decide)), fun h => e8 (h.resolve_left (by decide)), fun h => e9 (h.resolve_left (by decide)), fun h => e10 (h.resolve_left (by decide)), fun h => e11 (h.resolve_left (by decide))⟩
            | 1, ho =>
              cases Option.some.inj ho
              have ev : a.tmps[12]?.getD undef = .int .i64 (k : Int) := by rw [ha]; kernel_rfl
              refine wp_value (w' := w') (v := .int .i64 (k : Int)) (by simp [execOp, ev, go_sem]) ?_
              exact ⟨v43, (.int .i64 (k : Int)), v45, v46, v47, v48, v49, v42, v50, v51, v13, v14, by rw [ha]; kernel_rfl, hB, fun h => e0 (h.resolve_left (by decide)), fun _ => rfl, fun h => e2 (h.resolve_left (by decide)), fun h => e3 (h.resolve_left (by decide)), fun h => e4 (h.resolve_left (by decide)), fun h => e5 (h.resolve_left (by decide)), fun h => e6 (h.resolve_left (by decide)), fun h => e7 (h.resolve_left (by decide)), fun h => e8 (h.resolve_left (by decide)), fun h => e9 (h.resolve_left (by decide)), fun h => e10 (h.resolve_left (by decide)), fun h => e11 (h.resolve_left (by decide))⟩
            | 2, ho =>
              cases Option.some.inj ho
              have ev : a.tmps[43]?.getD undef = .slice (some ⟨b, off, none⟩) dn dc := by rw [ha, e0 (hd ⟨0, .data⟩ (by simp) rfl)]; kernel_rfl
              have ev' : a.tmps[44]?.getD undef = .int .i64 (k : Int) := by rw [ha, e1 (hd ⟨1, .data⟩ (by simp) rfl)]; kernel_rfl
              refine wp_value (w' := w') (v := .pointer (some ⟨b, off + k * 4, none⟩)) (by simp [execOp, ev, ev', go_sem, hkI, hk0]) ?_
              exact ⟨v43, v44, (.pointer (some ⟨b, off + k * 4, none⟩)), v46, v47, v48, v49, v42, v50, v51, v13, v14, by rw [ha]; kernel_rfl, hB, fun h => e0 (h.resolve_left (by decide)), fun h => e1 (h.resolve_left (by decide)), fun _ => rfl, fun h => e3 (h.resolve_left (by decide)), fun h => e4 (h.resolve_left (by decide)), fun h => e5 (h.resolve_left (by decide)), fun h => e6 (h.resolve_left (by decide)), fun h => e7 (h.resolve_left (by decide)), fun h => e8 (h.resolve_left (by decide)), fun h => e9 (h.resolve_left (by decide)), fun h => e10 (h.resolve_left (by decide)), fun h => e11 (h.resolve_left (by decide))⟩
            | 3, ho =>
              cases Option.some.inj ho
              have ev : a.tmps[45]?.getD undef = .pointer (some ⟨b, off + k * 4, none⟩) := by rw [ha, e2 (hd ⟨2, .data⟩ (by simp) rfl)]; kernel_rfl
              refine wp_value (w' := w') (v := .pointer (some ⟨b, off + k * 4 + 3, none⟩)) (by simp [execOp, ev, go_sem]) ?_
              exact ⟨v43, v44, v45, (.pointer (some ⟨b, off + k * 4 + 3, none⟩)), v47, v48, v49, v42, v50, v51, v13, v14, by rw [ha]; kernel_rfl, hB, fun h => e0 (h.resolve_left (by decide)), fun h => e1 (h.resolve_left (by decide)), fun h => e2 (h.resolve_left (by decide)), fun _ => rfl, fun h => e4 (h.resolve_left (by decide)), fun h => e5 (h.resolve_left (by decide)), fun h => e6 (h.resolve_left (by decide)), fun h => e7 (h.resolve_left (by decide)), fun h => e8 (h.resolve_left (by decide)), fun h => e9 (h.resolve_left (by decide)), fun h => e10 (h.resolve_left (by decide)), fun h => e11 (h.resolve_left (by decide))⟩
            | 4, ho =>
              cases Option.some.inj ho
              have ev : a.tmps[46]?.getD undef = .pointer (some ⟨b, off + k * 4 + 3, none⟩) := by rw [ha, e3 (hd ⟨3, .data⟩ (by simp) rfl)]; kernel_rfl
              have z3 := (hB.cell (p := ⟨b, off + k * 4 + 3, none⟩) (lt_of_cell c3)).trans c3
              refine wp_value (w' := w') (v := .slice (Tm.wa x) (Tm.wn x) (Tm.wc x)) (by simp [execOp, ev, go_sem, z3]) ?_
              exact ⟨v43, v44, v45, v46, (.slice (Tm.wa x) (Tm.wn x) (Tm.wc x)), v48, v49, v42, v50, v51, v13, v14, by rw [ha]; kernel_rfl, hB, fun h => e0 (h.resolve_left (by decide)), fun h => e1 (h.resolve_left (by decide)), fun h => e2 (h.resolve_left (by decide)), fun h => e3 (h.resolve_left (by decide)), fun _ => rfl, fun h => e5 (h.resolve_left (by decide)), fun h => e6 (h.resolve_left (by decide)), fun h => e7 (h.resolve_left (by decide)), fun h => e8 (h.resolve_left (by decide)), fun h => e9 (h.resolve_left (by decide)), fun h => e10 (h.resolve_left (by decide)), fun h => e11 (h.resolve_left (by decide))⟩
            | 5, ho =>
              cases Option.some.inj ho
              have ev : a.tmps[5]?.getD undef = .pointer (some ⟨w.heap.size, 0, none⟩) := by rw [ha]; kernel_rfl
              have z0 := (hB.cell (p := ⟨w.heap.size, 0, none⟩) hwl).trans y0
              have z1 := (hB.cell (p := ⟨w.heap.size, 1, none⟩) hwl).trans y1
              have z2 := (hB.cell (p := ⟨w.heap.size, 2, none⟩) hwl).trans y2
              have z3 := (hB.cell (p := ⟨w.heap.size, 3, none⟩) hwl).trans y3
              refine wp_value (w' := w') (v := .agg #[.int .i64 (Tm.base m), .int .i64 (Tm.com m), .slice (Tm.ra m) (Tm.rn m) (Tm.rc m), .slice (Tm.wa m) (Tm.wn m) (Tm.wc m)]) (by simp [execOp, ev, go_sem, z0, z1, z2, z3]) ?_
              exact ⟨v43, v44, v45, v46, v47, (.agg #[.int .i64 (Tm.base m), .int .i64 (Tm.com m), .slice (Tm.ra m) (Tm.rn m) (Tm.rc m), .slice (Tm.wa m) (Tm.wn m) (Tm.wc m)]), v49, v42, v50, v51, v13, v14, by rw [ha]; kernel_rfl, hB, fun h => e0 (h.resolve_left (by decide)), fun h => e1 (h.resolve_left (by decide)), fun h => e2 (h.resolve_left (by decide)), fun h => e3 (h.resolve_left (by decide)), fun h => e4 (h.resolve_left (by decide)), fun _ => rfl, fun h => e6 (h.resolve_left (by decide)), fun h => e7 (h.resolve_left (by decide)), fun h => e8 (h.resolve_left (by decide)), fun h => e9 (h.resolve_left (by decide)), fun h => e10 (h.resolve_left (by decide)), fun h => e11 (h.resolve_left (by decide))⟩
            | 6, ho =>
              cases Option.some.inj ho
              have ev : a.tmps[47]?.getD undef = .slice (Tm.wa x) (Tm.wn x) (Tm.wc x) := by rw [ha, e4 (hd ⟨4, .data⟩ (by simp) rfl)]; kernel_rfl
              have ev' : a.tmps[48]?.getD undef = .agg #[.int .i64 (Tm.base m), .int .i64 (Tm.com m), .slice (Tm.ra m) (Tm.rn m) (Tm.rc m), .slice (Tm.wa m) (Tm.wn m) (Tm.wc m)] := by rw [ha, e5 (hd ⟨5, .data⟩ (by simp) rfl)]; kernel_rfl
              have hck := clash_any (hxin.w.1.below hB) (hin.below hB) hxw hmr hmw
              rw [hrc.out] at hck
              refine wp_enter (f := 43) (args := #[.slice (Tm.wa x) (Tm.wn x) (Tm.wc x), .agg #[.int .i64 (Tm.base m), .int .i64 (Tm.com m), .slice (Tm.ra m) (Tm.rn m) (Tm.rc m), .slice (Tm.wa m) (Tm.wn m) (Tm.wc m)]]) (by simp [execOp, ev, ev', go_sem]) ?_
              refine (hck).mono ?_
              rintro e w6 ⟨rfl, B6⟩
              refine ⟨_, rfl, ?_⟩
              exact ⟨v43, v44, v45, v46, v47, v48, (.tuple #[.int .i64 (rc.getD 0), .bool rc.isSome]), v42, v50, v51, v13, v14, by rw [ha]; kernel_rfl, below_size hB hB.size B6, fun h => e0 (h.resolve_left (by decide)), fun h => e1 (h.resolve_left (by decide)), fun h => e2 (h.resolve_left (by decide)), fun h => e3 (h.resolve_left (by decide)), fun h => e4 (h.resolve_left (by decide)), fun h => e5 (h.resolve_left (by decide)), fun _ => rfl, fun h => e7 (h.resolve_left (by decide)), fun h => e8 (h.resolve_left (by decide)), fun h => e9 (h.resolve_left (by decide)), fun h => e10 (h.resolve_left (by decide)), fun h => e11 (h.resolve_left (by decide))⟩
            | 7, ho =>
              cases Option.some.inj ho
              have ev : a.tmps[49]?.getD undef = .tuple #[.int .i64 (rc.getD 0), .bool rc.isSome] := by rw [ha, e6 (hd ⟨6, .data⟩ (by simp) rfl)]; kernel_rfl
              refine wp_value (w' := w') (v := .tuple #[.int .i64 (rc.getD 0), .bool rc.isSome]) (by simp [execOp, ev, go_sem]) ?_
              exact ⟨v43, v44, v45, v46, v47, v48, v49, (.tuple #[.int .i64 (rc.getD 0), .bool rc.isSome]), v50, v51, v13, v14, by rw [ha]; kernel_rfl, hB, fun h => e0 (h.resolve_left (by decide)), fun h => e1 (h.resolve_left (by decide)), fun h => e2 (h.resolve_left (by decide)), fun h => e3 (h.resolve_left (by decide)), fun h => e4 (h.resolve_left (by decide)), fun h => e5 (h.resolve_left (by decide)), fun h => e6 (h.resolve_left (by decide)), fun _ => rfl, fun h => e8 (h.resolve_left (by decide)), fun h => e9 (h.resolve_left (by decide)), fun h => e10 (h.resolve_left (by decide)), fun h => e11 (h.resolve_left (by decide))⟩
            | 8, ho =>
              cases Option.some.inj ho
              have ev : a.tmps[42]?.getD undef = .tuple #[.int .i64 (rc.getD 0), .bool rc.isSome] := by rw [ha, e7 (hd ⟨7, .data⟩ (by simp) rfl)]; kernel_rfl
              refine wp_value (w' := w') (v := .int .i64 (rc.getD 0)) (by simp [execOp, ev, go_sem]) ?_
              exact ⟨v43, v44, v45, v46, v47, v48, v49, v42, (.int .i64 (rc.getD 0)), v51, v13, v14, by rw [ha]; kernel_rfl, hB, fun h => e0 (h.resolve_left (by decide)), fun h => e1 (h.resolve_left (by decide)), fun h => e2 (h.resolve_left (by decide)), fun h => e3 (h.resolve_left (by decide)), fun h => e4 (h.resolve_left (by decide)), fun h => e5 (h.resolve_left (by decide)), fun h => e6 (h.resolve_left (by decide)), fun h => e7 (h.resolve_left (by decide)), fun _ => rfl, fun h => e9 (h.resolve_left (by decide)), fun h => e10 (h.resolve_left (by decide)), fun h => e11 (h.resolve_left (by decide))⟩
            | 9, ho =>
              cases Option.some.inj ho
              have ev : a.tmps[42]?.getD undef = .tuple #[.int .i64 (rc.getD 0), .bool rc.isSome] := by rw [ha, e7 (hd ⟨7, .data⟩ (by simp) rfl)]; kernel_rfl
              refine wp_value (w' := w') (v := .bool rc.isSome) (by simp [execOp, ev, go_sem]) ?_
              exact ⟨v43, v44, v45, v46, v47, v48, v49, v42, v50, (.bool rc.isSome), v13, v14, by rw [ha]; kernel_rfl, hB, fun h => e0 (h.resolve_left (by decide)), fun h => e1 (h.resolve_left (by decide)), fun h => e2 (h.resolve_left (by decide)), fun h => e3 (h.resolve_left (by decide)), fun h => e4 (h.resolve_left (by decide)), fun h => e5 (h.resolve_left (by decide)), fun h => e6 (h.resolve_left (by decide)), fun h => e7 (h.resolve_left (by decide)), fun h => e8 (h.resolve_left (by decide)), fun _ => rfl, fun h => e10 (h.resolve_left (by decide)), fun h => e11 (h.resolve_left (by decide))⟩
            | 10, ho =>
              cases Option.some.inj ho
              have ev : a.tmps[50]?.getD undef = .int .i64 (rc.getD 0) := by rw [ha, e8 (hd ⟨8, .data⟩ (by simp) rfl)]; kernel_rfl
              refine wp_value (w' := w') (v := .int .i64 (rc.getD 0)) (by simp [execOp, ev, go_sem]) ?_
              exact ⟨v43, v44, v45, v46, v47, v48, v49, v42, v50, v51, (.int .i64 (rc.getD 0)), v14, by rw [ha]; kernel_rfl, hB, fun h => e0 (h.resolve_left (by decide)), fun h => e1 (h.resolve_left (by decide)), fun h => e2 (h.resolve_left (by decide)), fun h => e3 (h.resolve_left (by decide)), fun h => e4 (h.resolve_left (by decide)), fun h => e5 (h.resolve_left (by decide)), fun h => e6 (h.resolve_left (by decide)), fun h => e7 (h.resolve_left (by decide)), fun h => e8 (h.resolve_left (by decide)), fun h => e9 (h.resolve_left (by decide)), fun _ => rfl, fun h => e11 (h.resolve_left (by decide))⟩
            | 11, ho =>
              cases Option.some.inj ho
              have ev : a.tmps[51]?.getD undef = .bool rc.isSome := by rw [ha, e9 (hd ⟨9, .data⟩ (by simp) rfl)]; kernel_rfl
              refine wp_value (w' := w') (v := .bool rc.isSome) (by simp [execOp, ev, go_sem]) ?_
              exact ⟨v43, v44, v45, v46, v47, v48, v49, v42, v50, v51, v13, (.bool rc.isSome), by rw [ha]; kernel_rfl, hB, fun h => e0 (h.resolve_left (by decide)), fun h => e1 (h.resolve_left (by decide)), fun h => e2 (h.resolve_left (by decide)), fun h => e3 (h.resolve_left (by decide)), fun h => e4 (h.resolve_left (by decide)), fun h => e5 (h.resolve_left (by decide)), fun h => e6 (h.resolve_left (by decide)), fun h => e7 (h.resolve_left (by decide)), fun h => e8 (h.resolve_left (by decide)), fun h => e9 (h.resolve_left (by decide)), fun h => e10 (h.resolve_left (by decide)), fun _ => rfl⟩
            | i + 12, ho => simp at ho
          case done =>
            rintro D a w' ⟨v43, v44, v45, v46, v47, v48, v49, v42, v50, v51, v13, v14, ha, hB, e0, e1, e2, e3, e4, e5, e6, e7, e8, e9, e10, e11⟩ hall
            obtain rfl := e0 (hall 0 (by decide))
            obtain rfl := e1 (hall 1 (by decide))
            obtain rfl := e2 (hall 2 (by decide))
            obtain rfl := e3 (hall 3 (by decide))
            obtain rfl := e4 (hall 4 (by decide))
            obtain rfl := e5 (hall 5 (by decide))
            obtain rfl := e6 (hall 6 (by decide))
            obtain rfl := e7 (hall 7 (by decide))
            obtain rfl := e8 (hall 8 (by decide))
            obtain rfl := e9 (hall 9 (by decide))
            obtain rfl := e10 (hall 10 (by decide))
            obtain rfl := e11 (hall 11 (by decide))
            clear hall e0 e1 e2 e3 e4 e5 e6 e7 e8 e9 e10 e11
            rw [ha]
            clear ha
            simp only [Act.put, List.setIfInBounds_toArray, List.set_cons_zero, List.set_cons_succ]
            have B9 := below_size BQ BQ.size hB
            clear hB
            cases rc with
            | none =>
              have hnx := hac.none hx.out hone.out
              clear hx hac hone hrc
              dsimp only [Option.getD, Option.isSome]
              go_wp2
              go_roundw
              case rel => exact ⟨k + 1, z, bb, by omega, by go_num, rfl, rfl, hnx, B9⟩
              case measure => simp [intOf]; omega
            | some q =>
              dsimp only [Option.getD, Option.isSome]
              cases bb with
              | false =>
                have hnx := hac.first hx.out hone.out
                clear hx hac hone hrc
                go_wp2
                go_roundw
                case rel => exact ⟨k + 1, q, true, by omega, by go_num, rfl, rfl, hnx, B9⟩
                case measure => simp [intOf]; omega
              | true =>
                by_cases hzy : q < z
                · have hnx := hac.less hx.out hone.out hzy
                  clear hx hac hone hrc
                  go_wp2
                  go_roundw
                  case rel => exact ⟨k + 1, q, true, by omega, by go_num, rfl, rfl, hnx, B9⟩
                  case measure => simp [intOf]; omega
                · have hnx := hac.more hx.out hone.out hzy
                  clear hx hac hone hrc
                  go_wp2
                  go_roundw
                  case rel => exact ⟨k + 1, z, true, by omega, by go_num, rfl, rfl, hnx, B9⟩
                  case measure => simp [intOf]; omega
    · have hge : ¬ (k : Int) < (dn : Int) := by omega
      have hfin : Hid (r0.getD 0 = z ∧ r0.isSome = bb) := by
        unfold AccW at hac
        rw [List.take_of_length_le (by rw [hsz.out]; omega), hr0.out] at hac
        exact ⟨hac.1.symm, hac.2.symm⟩
      clear hac
      go_wp2
      refine bodyPost_ret (results_tmp2 rfl _ _ _) rfl ?_
      exact ⟨by rw [hfin.out.1, hfin.out.2]; rfl, B5⟩
set_option maxHeartbeats 1000000 in
theorem rcheck_any {w : World} {da : Option Addr} {dn dc : Nat} {ms : List Tm} {m : Tm} (h : IsTs w da dn dc ms) (hdn : dn ≤ 1048576) (hsh : Short ms) (hm : m.In w) (hmr : m.rn ≤ 1048576) (hmw : m.wn ≤ 1048576) :
    Calls Try.prog 12 #[.slice da dn dc, .agg #[.int .i64 m.base, .int .i64 m.com, .slice m.ra m.rn m.rc, .slice m.wa m.wn m.wc]] w fun e w' => e = .returned (chkV (chkR (ms.map Tm.d) m.base m.rs m.ws)) ∧ Below w.heap.size w w' := by
  have B1 : Below w.heap.size w (w.alloc (txB m 25)) := box_below
  have hw := within_all 0 (h.below B1) hdn hsh (hm.below B1) hmr hmw
  obtain ⟨r0, hr0⟩ : ∃ r0, Hid (chkR (ms.map Tm.d) m.base m.rs m.ws = r0) := ⟨_, rfl⟩
  have e : wiR (ms.map Tm.d) m.base m.rs m.ws none = r0 := hr0.out
  rw [e] at hw
  rw [hr0.out]
  unfold txB at hw B1
  unfold widV at hw
  unfold chkV
  clear e
  go_enter Try.func12, Try.ntmps12
  go_wp2_with fail
  refine hw.mono ?_
  rintro e w2 ⟨rfl, B2⟩
  have B3 := below_size B1 B1.size B2
  clear hw hr0
  cases r0 with
  | none =>
    dsimp only [Option.getD, Option.isSome]
    go_wp2
    refine bodyPost_ret (results_tmp2 rfl _ _ _) rfl ?_
    exact ⟨rfl, B3⟩
  | some q =>
    dsimp only [Option.getD, Option.isSome]
    go_wp2
    refine bodyPost_ret (results_tmp2 rfl _ _ _) rfl ?_
    exact ⟨rfl, B3⟩
end Go.Proofs.Ytigmpmichhghdaa
