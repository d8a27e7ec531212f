/- ValidAlone: its walk. -/
import Derived.Test.YtigmpmichhghdaaKno
namespace Go.Proofs.Ytigmpmichhghdaa
open Go.RowKit
set_option maxRecDepth 100000
/-- Check of what given and one made. -/
theorem check_as {w0 w1 w : World} {a : Option Addr} {n cap dn : Nat} {ms gm : List Tm} {m mm : Tm} (hs : ms.length = dn) (hdn : dn ≤ 1048576) (hsh : Short ms) (G1 : IsTs w a n cap gm) (G2 : gm.map Tm.d = ms.map Tm.d) (hin : m.In w0) (M1 : mm.In w) (M2 : mm.d = m.d) (hmr : m.rn ≤ 1048576) (hmw : m.wn ≤ 1048576) (hin0 : ∀ x ∈ ms, x.In w1 := by assumption) :
    Calls Try.prog 10 #[.slice a n cap, .agg #[.int .i64 mm.base, .int .i64 mm.com, .slice mm.ra mm.rn mm.rc, .slice mm.wa mm.wn mm.wc]] w fun e w' => e = .returned (chkV (chkR (ms.map Tm.d) m.base m.rs m.ws)) ∧ Below w.heap.size w w' := by
  have e1 : mm.base = m.base := congrArg Tx.base M2
  have e2 : mm.rs = m.rs := congrArg Tx.rs M2
  have e3 : mm.ws = m.ws := congrArg Tx.ws M2
  have hlen : gm.length = ms.length := by have := congrArg List.length G2; simpa using this
  have hn : n ≤ 1048576 := by rw [← G1.size, hlen, hs]; exact hdn
  have hgs : Short gm := fun x hx => by
    obtain ⟨i, hi, he⟩ := List.mem_iff_getElem.1 hx
    have hi' : i < ms.length := by omega
    have hd : x.d = (ms[i]).d := by
      have := congrArg (·[i]?) G2
      simp only [List.getElem?_map, List.getElem?_eq_getElem hi, List.getElem?_eq_getElem hi', Option.map_some, Option.some.injEq] at this
      rw [← he]
      exact this
    have h1 : x.rs = (ms[i]).rs := congrArg Tx.rs hd
    have h2 : x.ws = (ms[i]).ws := congrArg Tx.ws hd
    have hX := G1.each x hx
    have hY := hin0 _ (List.getElem_mem hi')
    have hS := hsh _ (List.getElem_mem hi')
    rw [← hX.r.1.size, ← hX.w.1.size, h1, h2, hY.r.1.size, hY.w.1.size]
    exact hS
  have hmm : mm.rn ≤ 1048576 ∧ mm.wn ≤ 1048576 := by
    rw [← M1.r.1.size, ← M1.w.1.size, e2, e3, hin.r.1.size, hin.w.1.size]
    exact ⟨hmr, hmw⟩
  have he : chkR (gm.map Tm.d) mm.base mm.rs mm.ws = chkR (ms.map Tm.d) m.base m.rs m.ws := by rw [G2, e1, e2, e3]
  refine (check_any G1 hn hgs M1 hmm.1 hmm.2).mono ?_
  rintro e w' ⟨rfl, B⟩
  exact ⟨by rw [he], B⟩
theorem chk_none {ms : List Tm} {base : Int} {rs ws : List Int} (h : ∀ x ∈ ms, x.com ≤ base) : chkR (ms.map Tm.d) base rs ws = none := by
  have : (rs ++ ws).filter (clB (ms.map Tm.d) base none) = [] := by
    rw [List.filter_eq_nil_iff]
    intro o _ hc
    unfold clB at hc
    rw [List.any_eq_true] at hc
    obtain ⟨d, hd, hq⟩ := hc
    obtain ⟨m, hm, rfl⟩ := List.mem_map.1 hd
    simp only [Bool.and_eq_true, decide_eq_true_eq] at hq
    have := h m hm
    have h2 : base < m.com := hq.1.1
    omega
  unfold chkR
  rw [this]
  rfl
set_option maxHeartbeats 4000000 in
theorem alone_walk {w : World} {da : Option Addr} {dn dc : Nat} {ms : List Tm} {m : Tm} (h : IsTs w da dn dc ms) (hdn : dn ≤ 1048576) (hsh : Short ms) (hm : m.In w) (hmr : m.rn ≤ 1048576) (hmw : m.wn ≤ 1048576) :
    Calls Try.prog 5 #[.slice da dn dc, .agg #[.int .i64 m.base, .int .i64 m.com, .slice m.ra m.rn m.rc, .slice m.wa m.wn m.wc]] w fun e w' => e = .returned (.bool true) ∧ Below w.heap.size w w' := by
  have B1 : Below w.heap.size w (w.alloc (txB m 25)) := box_below
  have E1 : (w.alloc (txB m 25)).heap[w.heap.size]? = some (txB m 25) := new1 _ _
  have hin1 := hm.below B1
  have hI1 := h.below B1
  obtain ⟨r0, hr0⟩ : ∃ r0, Hid (chkR (ms.map Tm.d) m.base m.rs m.ws = r0) := ⟨_, rfl⟩
  have hsz : Hid (ms.length = dn) := h.size
  have hdnI : dn ≤ 9223372036854775807 := by omega
  go_enter Try.func5, Try.ntmps5
  go_wp2_with fail
  unfold txB at B1 E1 hin1 hI1
  generalize w.alloc (.cells #[.int .i64 m.base, .int .i64 m.com, .slice m.ra m.rn m.rc, .slice m.wa m.wn m.wc] 25) = w1 at *
  have hwl1 := lt_of_block E1
  clear h hm
  go_loopw [5] (fun iv wr => ∃ k : Nat, k ≤ dn ∧ iv = .int .i64 (k : Int) ∧ Hid (∀ i x, i < k → ms[i]? = some x → x.com ≤ m.base) ∧ Below w1.heap.size w1 wr) (fun iv _ => dn - (intOf iv).toNat)
  case atStart => exact ⟨0, by omega, rfl, fun i x hi => by omega, Below.refl _ _⟩
  case round =>
    obtain ⟨k, hk, rfl, hle0, B⟩ := hrel
    have E2 := (B.block _ hwl1).trans E1
    obtain ⟨y0, y1, y2, y3, _⟩ := tx_cells E2
    have B5 : Below w.heap.size w wr := B1.trans (B.mono B1.size)
    by_cases hlt : k < dn
    · obtain ⟨b, off, x, rfl, _, c0, c1, c2, c3, hx, _⟩ := (hI1.below B).at_ k hlt
      have hkI : (k : Int) < (dn : Int) := by omega
      clear c0 c2 c3 y1 y2 y3
      by_cases hg : m.base < x.com
      · have hkn := fun W => known_true W
        clear hle0
        have hd : decide (m.base < x.com) = true := decide_eq_true hg
        go_upto_region 4 with fail
        go_quiet (fail)
        go_wp2_with fail
        refine (hkn _).mono ?_
        rintro e w5 ⟨rfl, B6⟩
        have B7 := below_size (below_drewN' B5 _) (below_drewN' B5 _).size B6
        go_wp2
        go_ret
        exact ⟨rfl, B7⟩
      · have hd : decide (m.base < x.com) = false := decide_eq_false hg
        go_upto_region 4 with fail
        go_quiet (fail)
        go_wp2
        go_roundw
        case rel =>
          refine ⟨k + 1, by omega, by go_num, fun i y hi hy => ?_, below_drewN' B _⟩
          by_cases e : i = k
          · subst e
            rw [hx.out] at hy
            cases hy
            omega
          · exact hle0.out i y (by omega) hy
        case measure => simp [intOf]; omega
    · have hge : ¬ (k : Int) < (dn : Int) := by omega
      have hle : Hid (∀ x ∈ ms, x.com ≤ m.base) := fun x hx => by
        obtain ⟨i, hi, he⟩ := List.mem_iff_getElem.1 hx
        exact hle0.out i x (by have := hsz.out; omega) (by rw [List.getElem?_eq_getElem hi, he])
      have hI := hI1.below B
      have hin := hin1.below B
      have hin0 := hI.each
      have hwl := Nat.lt_of_lt_of_le hwl1 B.size
      clear hle0 E2 B hI1 hin1 hge
      go_upto_region 6 with fail
      refine wp_region_inv' (fun A D a w' => ∃ v24 v25 v26 v27 v28 v23 v29 v30 v6 v7 ga gn gc gm mm, a = ((((((((((A.put (some 24) v24).put (some 25) v25).put (some 26) v26).put (some 27) v27).put (some 28) v28).put (some 23) v23).put (some 29) v29).put (some 30) v30).put (some 6) v6).put (some 7) v7) ∧ Below wr.heap.size wr w' ∧ (D 0 → v24 = .slice da dn dc) ∧ (D 1 → v25 = .slice ga gn gc) ∧ (D 2 → v26 = .agg #[.int .i64 (Tm.base m), .int .i64 (Tm.com m), .slice (Tm.ra m) (Tm.rn m) (Tm.rc m), .slice (Tm.wa m) (Tm.wn m) (Tm.wc m)]) ∧ (D 3 → v27 = .agg #[.int .i64 (Tm.base mm), .int .i64 (Tm.com mm), .slice (Tm.ra mm) (Tm.rn mm) (Tm.rc mm), .slice (Tm.wa mm) (Tm.wn mm) (Tm.wc mm)]) ∧ (D 4 → v28 = .tuple #[.int .i64 (r0.getD 0), .int .i64 (eN r0)]) ∧ (D 5 → v23 = .tuple #[.int .i64 (r0.getD 0), .int .i64 (eN r0)]) ∧ (D 6 → v29 = .int .i64 (r0.getD 0)) ∧ (D 7 → v30 = .int .i64 (eN r0)) ∧ (D 8 → v6 = .int .i64 (r0.getD 0)) ∧ (D 9 → v7 = .int .i64 (eN r0)) ∧ (D 1 → IsTs w' ga gn gc gm ∧ List.map Tm.d gm = ms.map Tm.d) ∧ (D 3 → Tm.In w' mm ∧ Tm.d mm = m.d)) (by kernel_rfl) (by kernel_rfl) ?mono ?start ?step ?done
      case mono =>
        rintro D D' a w' hD ⟨v24, v25, v26, v27, v28, v23, v29, v30, v6, v7, ga, gn, gc, gm, mm, ha, hB, e0, e1, e2, e3, e4, e5, e6, e7, e8, e9, hG, hM⟩
        exact ⟨v24, v25, v26, v27, v28, v23, v29, v30, v6, v7, ga, gn, gc, gm, mm, ha, hB, fun h => e0 ((hD 0).2 h), fun h => e1 ((hD 1).2 h), fun h => e2 ((hD 2).2 h), fun h => e3 ((hD 3).2 h), fun h => e4 ((hD 4).2 h), fun h => e5 ((hD 5).2 h), fun h => e6 ((hD 6).2 h), fun h => e7 ((hD 7).2 h), fun h => e8 ((hD 8).2 h), fun h => e9 ((hD 9).2 h), fun h => hG ((hD 1).2 h), fun h => hM ((hD 3).2 h)⟩
      case start => exact ⟨undef, undef, undef, undef, undef, undef, undef, undef, undef, undef, none, 0, 0, [], default, by kernel_rfl, (Below.refl _ _).drew, fun h => h.elim, fun h => h.elim, fun h => h.elim, fun h => h.elim, fun h => h.elim, fun h => h.elim, fun h => h.elim, fun h => h.elim, fun h => h.elim, fun h => h.elim, fun h => h.elim, fun h => h.elim⟩
      case step =>
        intro i o ho D a w' hI hn hcl hd
        obtain ⟨v24, v25, v26, v27, v28, v23, v29, v30, v6, v7, ga, gn, gc, gm, mm, ha, hB, e0, e1, e2, e3, e4, e5, e6, e7, e8, e9, hG, hM⟩ := hI
        match i, ho with
        | 0, ho =>
          cases Option.some.inj ho
          have ev : a.tmps[0]?.getD undef = .slice da dn dc := by rw [ha]; kernel_rfl
          refine wp_value (w' := w') (v := .slice da dn dc) (by simp [execOp, ev, go_sem]) ?_
          exact ⟨(.slice da dn dc), v25, v26, v27, v28, v23, v29, v30, v6, v7, ga, gn, gc, gm, mm, by rw [ha]; kernel_rfl, hB, fun _ => rfl, fun h => e1 (h.resolve_left (by decide)), fun h => e2 (h.resolve_left (by decide)), fun h => e3 (h.resolve_left (by decide)), fun h => e4 (h.resolve_left (by decide)), fun h => e5 (h.resolve_left (by decide)), fun h => e6 (h.resolve_left (by decide)), fun h => e7 (h.resolve_left (by decide)), fun h => e8 (h.resolve_left (by decide)), fun h => e9 (h.resolve_left (by decide)), fun h => hG (h.resolve_left (by decide)), fun h => hM (h.resolve_left (by decide))⟩
        | 1, ho =>
          cases Option.some.inj ho
          have ev : a.tmps[24]?.getD undef = .slice da dn dc := by rw [ha, e0 (hd ⟨0, .data⟩ (by simp) rfl)]; kernel_rfl
          refine wp_enter (f := 9) (args := #[.slice da dn dc]) (by simp [execOp, ev, go_sem]) ?_
          refine (given_any (hI.below hB) hdn hsh).mono ?_
          rintro e w6 ⟨ga', gn', gc', gm', rfl, OG, hgd, B6⟩
          refine ⟨_, rfl, ?_⟩
          exact ⟨v24, (.slice ga' gn' gc'), v26, v27, v28, v23, v29, v30, v6, v7, ga', gn', gc', gm', mm, by rw [ha]; kernel_rfl, below_size hB hB.size B6, fun h => e0 (h.resolve_left (by decide)), fun _ => rfl, fun h => e2 (h.resolve_left (by decide)), fun h => e3 (h.resolve_left (by decide)), fun h => e4 (h.resolve_left (by decide)), fun h => e5 (h.resolve_left (by decide)), fun h => e6 (h.resolve_left (by decide)), fun h => e7 (h.resolve_left (by decide)), fun h => e8 (h.resolve_left (by decide)), fun h => e9 (h.resolve_left (by decide)), fun _ => ⟨OG.isTs, hgd⟩, fun h => ⟨(hM (h.resolve_left (by decide))).1.below B6, (hM (h.resolve_left (by decide))).2⟩⟩
        | 2, ho =>
          cases Option.some.inj ho
          have ev : a.tmps[3]?.getD undef = .pointer (some ⟨w.heap.size, 0, none⟩) := by rw [ha]; kernel_rfl
          have z0 := (hB.cell (p := ⟨w.heap.size, 0, none⟩) hwl).trans y0
          have z1 := (hB.cell (p := ⟨w.heap.size, 1, none⟩) hwl).trans y1
          have z2 := (hB.cell (p := ⟨w.heap.size, 2, none⟩) hwl).trans y2
          have z3 := (hB.cell (p := ⟨w.heap.size, 3, none⟩) hwl).trans y3
          refine wp_value (w' := w') (v := .agg #[.int .i64 (Tm.base m), .int .i64 (Tm.com m), .slice (Tm.ra m) (Tm.rn m) (Tm.rc m), .slice (Tm.wa m) (Tm.wn m) (Tm.wc m)]) (by simp [execOp, ev, go_sem, z0, z1, z2, z3]) ?_
          exact ⟨v24, v25, (.agg #[.int .i64 (Tm.base m), .int .i64 (Tm.com m), .slice (Tm.ra m) (Tm.rn m) (Tm.rc m), .slice (Tm.wa m) (Tm.wn m) (Tm.wc m)]), v27, v28, v23, v29, v30, v6, v7, ga, gn, gc, gm, mm, by rw [ha]; kernel_rfl, hB, fun h => e0 (h.resolve_left (by decide)), fun h => e1 (h.resolve_left (by decide)), fun _ => rfl, fun h => e3 (h.resolve_left (by decide)), fun h => e4 (h.resolve_left (by decide)), fun h => e5 (h.resolve_left (by decide)), fun h => e6 (h.resolve_left (by decide)), fun h => e7 (h.resolve_left (by decide)), fun h => e8 (h.resolve_left (by decide)), fun h => e9 (h.resolve_left (by decide)), fun h => hG (h.resolve_left (by decide)), fun h => hM (h.resolve_left (by decide))⟩
        | 3, ho =>
          cases Option.some.inj ho
          have ev : a.tmps[26]?.getD undef = .agg #[.int .i64 (Tm.base m), .int .i64 (Tm.com m), .slice (Tm.ra m) (Tm.rn m) (Tm.rc m), .slice (Tm.wa m) (Tm.wn m) (Tm.wc m)] := by rw [ha, e2 (hd ⟨2, .data⟩ (by simp) rfl)]; kernel_rfl
          refine wp_enter (f := 11) (args := #[.agg #[.int .i64 (Tm.base m), .int .i64 (Tm.com m), .slice (Tm.ra m) (Tm.rn m) (Tm.rc m), .slice (Tm.wa m) (Tm.wn m) (Tm.wc m)]]) (by simp [execOp, ev, go_sem]) ?_
          refine (one_any (hin.below hB) hmr hmw).mono ?_
          rintro e w6 ⟨mm', rfl, hmd, _, _, SM, B6⟩
          refine ⟨_, rfl, ?_⟩
          exact ⟨v24, v25, v26, (.agg #[.int .i64 (Tm.base mm'), .int .i64 (Tm.com mm'), .slice (Tm.ra mm') (Tm.rn mm') (Tm.rc mm'), .slice (Tm.wa mm') (Tm.wn mm') (Tm.wc mm')]), v28, v23, v29, v30, v6, v7, ga, gn, gc, gm, mm', by rw [ha]; kernel_rfl, below_size hB hB.size B6, fun h => e0 (h.resolve_left (by decide)), fun h => e1 (h.resolve_left (by decide)), fun h => e2 (h.resolve_left (by decide)), fun _ => rfl, fun h => e4 (h.resolve_left (by decide)), fun h => e5 (h.resolve_left (by decide)), fun h => e6 (h.resolve_left (by decide)), fun h => e7 (h.resolve_left (by decide)), fun h => e8 (h.resolve_left (by decide)), fun h => e9 (h.resolve_left (by decide)), fun h => ⟨(hG (h.resolve_left (by decide))).1.below B6, (hG (h.resolve_left (by decide))).2⟩, fun _ => ⟨SM.inn, hmd⟩⟩
        | 4, ho =>
          cases Option.some.inj ho
          have ev : a.tmps[25]?.getD undef = .slice ga gn gc := by rw [ha, e1 (hd ⟨1, .data⟩ (by simp) rfl)]; kernel_rfl
          have ev' : a.tmps[27]?.getD undef = .agg #[.int .i64 (Tm.base mm), .int .i64 (Tm.com mm), .slice (Tm.ra mm) (Tm.rn mm) (Tm.rc mm), .slice (Tm.wa mm) (Tm.wn mm) (Tm.wc mm)] := by rw [ha, e3 (hd ⟨3, .data⟩ (by simp) rfl)]; kernel_rfl
          obtain ⟨G1, G2⟩ := hG (hd ⟨1, .data⟩ (by simp) rfl)
          obtain ⟨M1, M2⟩ := hM (hd ⟨3, .data⟩ (by simp) rfl)
          have hck := check_as hI.size hdn hsh G1 G2 hin M1 M2 hmr hmw
          rw [hr0.out] at hck
          unfold chkV at hck
          refine wp_enter (f := 10) (args := #[.slice ga gn gc, .agg #[.int .i64 (Tm.base mm), .int .i64 (Tm.com mm), .slice (Tm.ra mm) (Tm.rn mm) (Tm.rc mm), .slice (Tm.wa mm) (Tm.wn mm) (Tm.wc mm)]]) (by simp [execOp, ev, ev', go_sem]) ?_
          refine (hck).mono ?_
          rintro e w6 ⟨rfl, B6⟩
          refine ⟨_, rfl, ?_⟩
          exact ⟨v24, v25, v26, v27, (.tuple #[.int .i64 (r0.getD 0), .int .i64 (eN r0)]), v23, v29, v30, v6, v7, ga, gn, gc, gm, mm, by rw [ha]; kernel_rfl, below_size hB hB.size B6, fun h => e0 (h.resolve_left (by decide)), fun h => e1 (h.resolve_left (by decide)), fun h => e2 (h.resolve_left (by decide)), fun h => e3 (h.resolve_left (by decide)), fun _ => rfl, fun h => e5 (h.resolve_left (by decide)), fun h => e6 (h.resolve_left (by decide)), fun h => e7 (h.resolve_left (by decide)), fun h => e8 (h.resolve_left (by decide)), fun h => e9 (h.resolve_left (by decide)), fun h => ⟨(hG (h.resolve_left (by decide))).1.below B6, (hG (h.resolve_left (by decide))).2⟩, fun h => ⟨(hM (h.resolve_left (by decide))).1.below B6, (hM (h.resolve_left (by decide))).2⟩⟩
        | 5, ho =>
          cases Option.some.inj ho
          have ev : a.tmps[28]?.getD undef = .tuple #[.int .i64 (r0.getD 0), .int .i64 (eN r0)] := by rw [ha, e4 (hd ⟨4, .data⟩ (by simp) rfl)]; kernel_rfl
          refine wp_value (w' := w') (v := .tuple #[.int .i64 (r0.getD 0), .int .i64 (eN r0)]) (by simp [execOp, ev, go_sem]) ?_
          exact ⟨v24, v25, v26, v27, v28, (.tuple #[.int .i64 (r0.getD 0), .int .i64 (eN r0)]), v29, v30, v6, v7, ga, gn, gc, gm, mm, by rw [ha]; kernel_rfl, hB, fun h => e0 (h.resolve_left (by decide)), fun h => e1 (h.resolve_left (by decide)), fun h => e2 (h.resolve_left (by decide)), fun h => e3 (h.resolve_left (by decide)), fun h => e4 (h.resolve_left (by decide)), fun _ => rfl, fun h => e6 (h.resolve_left (by decide)), fun h => e7 (h.resolve_left (by decide)), fun h => e8 (h.resolve_left (by decide)), fun h => e9 (h.resolve_left (by decide)), fun h => hG (h.resolve_left (by decide)), fun h => hM (h.resolve_left (by decide))⟩
        | 6, ho =>
          cases Option.some.inj ho
          have ev : a.tmps[23]?.getD undef = .tuple #[.int .i64 (r0.getD 0), .int .i64 (eN r0)] := by rw [ha, e5 (hd ⟨5, .data⟩ (by simp) rfl)]; kernel_rfl
          refine wp_value (w' := w') (v := .int .i64 (r0.getD 0)) (by simp [execOp, ev, go_sem]) ?_
          exact ⟨v24, v25, v26, v27, v28, v23, (.int .i64 (r0.getD 0)), v30, v6, v7, ga, gn, gc, gm, mm, by rw [ha]; kernel_rfl, hB, fun h => e0 (h.resolve_left (by decide)), fun h => e1 (h.resolve_left (by decide)), fun h => e2 (h.resolve_left (by decide)), fun h => e3 (h.resolve_left (by decide)), fun h => e4 (h.resolve_left (by decide)), fun h => e5 (h.resolve_left (by decide)), fun _ => rfl, fun h => e7 (h.resolve_left (by decide)), fun h => e8 (h.resolve_left (by decide)), fun h => e9 (h.resolve_left (by decide)), fun h => hG (h.resolve_left (by decide)), fun h => hM (h.resolve_left (by decide))⟩
        | 7, ho =>
          cases Option.some.inj ho
          have ev : a.tmps[23]?.getD undef = .tuple #[.int .i64 (r0.getD 0), .int .i64 (eN r0)] := by rw [ha, e5 (hd ⟨5, .data⟩ (by simp) rfl)]; kernel_rfl
          refine wp_value (w' := w') (v := .int .i64 (eN r0)) (by simp [execOp, ev, go_sem]) ?_
          exact ⟨v24, v25, v26, v27, v28, v23, v29, (.int .i64 (eN r0)), v6, v7, ga, gn, gc, gm, mm, by rw [ha]; kernel_rfl, hB, fun h => e0 (h.resolve_left (by decide)), fun h => e1 (h.resolve_left (by decide)), fun h => e2 (h.resolve_left (by decide)), fun h => e3 (h.resolve_left (by decide)), fun h => e4 (h.resolve_left (by decide)), fun h => e5 (h.resolve_left (by decide)), fun h => e6 (h.resolve_left (by decide)), fun _ => rfl, fun h => e8 (h.resolve_left (by decide)), fun h => e9 (h.resolve_left (by decide)), fun h => hG (h.resolve_left (by decide)), fun h => hM (h.resolve_left (by decide))⟩
        | 8, ho =>
          cases Option.some.inj ho
          have ev : a.tmps[29]?.getD undef = .int .i64 (r0.getD 0) := by rw [ha, e6 (hd ⟨6, .data⟩ (by simp) rfl)]; kernel_rfl
          refine wp_value (w' := w') (v := .int .i64 (r0.getD 0)) (by simp [execOp, ev, go_sem]) ?_
          exact ⟨v24, v25, v26, v27, v28, v23, v29, v30, (.int .i64 (r0.getD 0)), v7, ga, gn, gc, gm, mm, by rw [ha]; kernel_rfl, hB, fun h => e0 (h.resolve_left (by decide)), fun h => e1 (h.resolve_left (by decide)), fun h => e2 (h.resolve_left (by decide)), fun h => e3 (h.resolve_left (by decide)), fun h => e4 (h.resolve_left (by decide)), fun h => e5 (h.resolve_left (by decide)), fun h => e6 (h.resolve_left (by decide)), fun h => e7 (h.resolve_left (by decide)), fun _ => rfl, fun h => e9 (h.resolve_left (by decide)), fun h => hG (h.resolve_left (by decide)), fun h => hM (h.resolve_left (by decide))⟩
        | 9, ho =>
          cases Option.some.inj ho
          have ev : a.tmps[30]?.getD undef = .int .i64 (eN r0) := by rw [ha, e7 (hd ⟨7, .data⟩ (by simp) rfl)]; kernel_rfl
          refine wp_value (w' := w') (v := .int .i64 (eN r0)) (by simp [execOp, ev, go_sem]) ?_
          exact ⟨v24, v25, v26, v27, v28, v23, v29, v30, v6, (.int .i64 (eN r0)), ga, gn, gc, gm, mm, by rw [ha]; kernel_rfl, hB, fun h => e0 (h.resolve_left (by decide)), fun h => e1 (h.resolve_left (by decide)), fun h => e2 (h.resolve_left (by decide)), fun h => e3 (h.resolve_left (by decide)), fun h => e4 (h.resolve_left (by decide)), fun h => e5 (h.resolve_left (by decide)), fun h => e6 (h.resolve_left (by decide)), fun h => e7 (h.resolve_left (by decide)), fun h => e8 (h.resolve_left (by decide)), fun _ => rfl, fun h => hG (h.resolve_left (by decide)), fun h => hM (h.resolve_left (by decide))⟩
        | i + 10, ho => simp at ho
      case done =>
        rintro D a w' ⟨v24, v25, v26, v27, v28, v23, v29, v30, v6, v7, ga, gn, gc, gm, mm, ha, hB, e0, e1, e2, e3, e4, e5, e6, e7, e8, e9, hG, hM⟩ hall
        obtain rfl := e0 (hall 0 (by decide))
        obtain rfl := e1 (hall 1 (by decide))
        obtain rfl := e2 (hall 2 (by decide))
        obtain rfl := e3 (hall 3 (by decide))
        obtain rfl := e4 (hall 4 (by decide))
        obtain rfl := e5 (hall 5 (by decide))
        obtain rfl := e6 (hall 6 (by decide))
        obtain rfl := e7 (hall 7 (by decide))
        obtain rfl := e8 (hall 8 (by decide))
        obtain rfl := e9 (hall 9 (by decide))
        clear hG hM hall e0 e1 e2 e3 e4 e5 e6 e7 e8 e9
        rw [ha]
        clear ha
        simp only [Act.put, List.setIfInBounds_toArray, List.set_cons_zero, List.set_cons_succ]
        have hr1 : Hid (r0 = none) := by
          unfold Hid
          rw [← hr0.out]
          exact chk_none (fun x hx => hle.out x hx)
        rw [hr1.out]
        dsimp only [Option.getD, eN, Option.isSome]
        have hk2 := known_true w'
        clear hr1 hr0
        have B9 := B5.trans (hB.mono B5.size)
        go_wp2_with fail
        refine hk2.mono ?_
        rintro e w9 ⟨rfl, B10⟩
        have B11 := below_size B9 B9.size B10
        go_wp2
        go_ret
        exact ⟨rfl, B11⟩
end Go.Proofs.Ytigmpmichhghdaa
