/- ValidMore: its walk. -/
import Derived.Test.YtigmpmichhghdaaRow
namespace Go.Proofs.Ytigmpmichhghdaa
open Go.RowKit
set_option maxRecDepth 100000
theorem more_le {ms me : List Tm} {cc : Nat} {base : Int} {rs ws zs : List Int} {n : Int} {r : Option Int} (h : chkR (ms.map Tm.d) base rs ws = some n) (h2 : chkR ((ms.take cc ++ me ++ ms.drop cc).map Tm.d) base (rs ++ zs) (ws ++ zs) = r) : ∃ q, r = some q ∧ q ≤ n := by
  obtain ⟨h3, _⟩ := leastO_some h
  obtain ⟨h4, h5⟩ := List.mem_filter.1 h3
  have hm : n ∈ ((rs ++ zs) ++ (ws ++ zs)).filter (clB ((ms.take cc ++ me ++ ms.drop cc).map Tm.d) base none) := by
    refine List.mem_filter.2 ⟨?_, ?_⟩
    · rcases List.mem_append.1 h4 with h6 | h6 <;> simp [h6]
    · unfold clB at h5 ⊢
      rw [List.any_eq_true] at h5 ⊢
      obtain ⟨d, hd, hq⟩ := h5
      refine ⟨d, ?_, hq⟩
      obtain ⟨m, hm, rfl⟩ := List.mem_map.1 hd
      rw [← List.take_append_drop cc ms] at hm
      refine List.mem_map_of_mem ?_
      rcases List.mem_append.1 hm with h6 | h6 <;> simp [h6]
  cases r with
  | none =>
    have := leastO_none.1 h2
    rw [this] at hm
    cases hm
  | some q => exact ⟨q, rfl, (leastO_some h2).2 n hm⟩
/-- append of a slice of numbers: where the new row lies. -/
theorem app_ints2 {ops : Array Oper} {rest : List Oper} {o : Oper} {a : Act} {Q : Exit → Act → World → Prop} (w : World) (hgd : o.guard = none) (s x : Operand)
    (ho : o.op = .call { callee := .builtin .append, args := #[s, x], argTypes := #[23, 23] })
    (base : Nat) (v : Value) (xs : List Int) (hs : a.eval s = v) (hown : OwnI w base v xs)
    (ab : Option Addr) (len cap : Nat) (ys : List Int) (hx : a.eval x = .slice ab len cap) (hB : IsI w ab len cap ys) (h47 : xs.length + len ≤ 17592186044415) (hbase : base ≤ w.heap.size)
    (h : ∀ a' n' c' w', OwnI w' base (.slice a' n' c') (xs ++ ys) → Below base w w' → w.grownBy w' v.ownBlock → (∀ g, (Value.slice a' n' c').ownBlock = some g → v.ownBlock = some g ∨ w.heap.size ≤ g) → wpList Try.prog ops Q rest (a.put o.dst (.slice a' n' c')) w') : wpList Try.prog ops Q (o :: rest) a w := by
  obtain ⟨i, hi, hz, hs1, hb⟩ := info_parts Try.info2
  have hsz := hB.size
  cases ab with
  | none =>
    obtain ⟨rfl, rfl⟩ := hB.nil' rfl
    obtain rfl : ys = [] := List.eq_nil_of_length_eq_zero hB.size
    refine wpList_append_own_none hgd s x 23 ho base 2 i 1 Try.underlying23 hi v xs.length _ hs hown.1 hx ?_
    obtain ⟨a', n', c', rfl, _⟩ := hown.shape
    exact h a' n' c' w (by rw [List.append_nil]; exact hown) (Below.refl _ _) ⟨rfl, rfl, rfl, Nat.le_refl _, fun _ _ _ => rfl⟩ (fun g hg => .inl hg)
  | some ad =>
    have hl : (ys.map (Value.int .i64)).length = len * 1 := by rw [List.length_map, hsz, Nat.mul_one]
    obtain ⟨v', w', hr, h1, h2, _⟩ := run_append_own (P := Try.prog) w base 23 o.type 2 i _ 1 8 Try.underlying23 hi hz hs1 hb rfl (by decide) v xs.length _ hown.1 ad len cap (ys.map (Value.int .i64)) hl (hB.cellsAt ad rfl) (ints_one ys) (by unfold maxLen; omega) (by omega) hbase
    have O : OwnI w' base v' (xs ++ ys) := ⟨by rw [List.map_append, List.length_append, hsz]; exact h1, fun z hz => by
      rcases List.mem_append.1 hz with hz | hz
      · exact hown.2 z hz
      · exact hB.wf z hz⟩
    obtain ⟨a', n', c', hv, _⟩ := O.shape
    subst hv
    refine Lib.wpList_append_run w hgd s x 23 23 ho _ _ hs hx _ _ hr (h a' n' c' w' O ((Below.refl _ _).grown h2 hbase (fun j hj => (hown.1.lt j hj).1)) h2 (fun g hg => ?_))
    rcases hown.1.2 with ⟨rfl, h0⟩ | ⟨g0, cap0, cur, rfl, hbg, hgh, hnc, hcm, hcs, htake⟩
    · have hx0 : xs = [] := List.eq_nil_of_length_eq_zero h0
      subst hx0
      obtain ⟨v2, w2, hr2, h12, _, _⟩ := run_append_own (P := Try.prog) w w.heap.size 23 o.type 2 i _ 1 8 Try.underlying23 hi hz hs1 hb rfl (by decide) (.slice none 0 0) 0 [] (World.ownsRow_nil _ _ _ _) ad len cap (ys.map (Value.int .i64)) hl (hB.cellsAt ad rfl) (ints_one ys) (by unfold maxLen; simp at h47; omega) (by simp at h47; omega) (Nat.le_refl _)
      rw [hr] at hr2
      injection hr2 with e1 e2
      subst e1
      exact .inr (own_block h12 hg).1
    · by_cases hroom : xs.length + len ≤ cap0
      · obtain ⟨w2, hr2, _, _⟩ := run_append_own_spare (P := Try.prog) w base 23 o.type 2 i 1 Try.underlying23 hi hs1 g0 xs.length cap0 _ hown.1 ad len cap (ys.map (Value.int .i64)) hl (hB.cellsAt ad rfl) (ints_one ys) hroom
        rw [hr] at hr2
        injection hr2 with e1 e2
        rw [e1] at hg
        exact .inl hg
      · have holds : ∀ j u, (xs.map (Value.int .i64))[j]? = some u → w.cell? ((⟨g0, 0, none⟩ : Addr).add j) = some u := World.ownsRow.cells hown.1 (g := g0) rfl
        have hr2 := run_append_grow (P := Try.prog) w 23 o.type 2 i _ Try.underlying23 hi hz ⟨g0, 0, none⟩ xs.length cap0 _ (by rw [hs1]; exact hown.1.1) holds ad len cap (ys.map (Value.int .i64)) (by rw [hs1]; exact hl) (hB.cellsAt ad rfl) (by omega) (by omega) (growslice_fits (by omega) (by rw [hb]; omega))
        rw [hr] at hr2
        injection hr2 with e1 e2
        rw [e1] at hg
        simp [Value.ownBlock] at hg
        exact .inr (by omega)
theorem isTs_none0 {w : World} {ad : Addr} {n c : Nat} (hn : n = 0) (hc : c = 0) : IsTs w (some ad) n c [] := by
  subst hn hc
  exact ⟨rfl, Nat.le_refl _, by decide, by simp, fun h => by omega, by simp⟩
set_option maxHeartbeats 8000000 in
theorem more_walk {w : World} {da ea za : Option Addr} {dn dc en ec zn zc : Nat} {ms me : List Tm} {m : Tm} {zs : List Int} (tt : Int) (h : IsTs w da dn dc ms) (hdn : dn ≤ 1048576) (hsh : Short ms) (hE : IsTs w ea en ec me) (hshe : Short me) (hden : dn + en ≤ 1048576) (hm : m.In w) (hZ : IsI w za zn zc zs) (hmr0 : m.rn + zn ≤ 1048576) (hmw0 : m.wn + zn ≤ 1048576) :
    Calls Try.prog 6 #[.slice da dn dc, .slice ea en ec, .agg #[.int .i64 m.base, .int .i64 m.com, .slice m.ra m.rn m.rc, .slice m.wa m.wn m.wc], .slice za zn zc, .int .i64 tt] w fun e w' => e = .returned (.bool true) ∧ Below w.heap.size w w' := by
  have hmr : m.rn ≤ 1048576 := by omega
  have hmw : m.wn ≤ 1048576 := by omega
  have B1 : Below w.heap.size w (w.alloc (txB m 25)) := box_below
  have E1 : (w.alloc (txB m 25)).heap[w.heap.size]? = some (txB m 25) := new1 _ _
  have hin1 := hm.below B1
  have hI1 := h.below B1
  have hM1 := hE.below B1
  have hZ1 := hZ.below B1
  obtain ⟨r0, hr0⟩ : ∃ r0, Hid (chkR (ms.map Tm.d) m.base m.rs m.ws = r0) := ⟨_, rfl⟩
  have hsz : Hid (ms.length = dn) := h.size
  have hsz2 : Hid (me.length = en) := hE.size
  have hdnI : dn ≤ 9223372036854775807 := by omega
  go_enter Try.func6, Try.ntmps6
  go_upto_region 1 with fail
  unfold txB at B1 E1 hin1 hI1 hM1 hZ1
  generalize w.alloc (.cells #[.int .i64 m.base, .int .i64 m.com, .slice m.ra m.rn m.rc, .slice m.wa m.wn m.wc] 25) = w1 at *
  have hwl1 := lt_of_block E1
  have hwl := hwl1
  have hI := hI1
  have hin := hin1
  have hin0 := hI.each
  obtain ⟨y0, y1, y2, y3, _⟩ := tx_cells (m := m) (t := 25) E1
  clear h hm hE hZ
  refine wp_region_inv' (fun A D a w' => ∃ v18 v19 v20 v21 v22 v17 v23 v24 v11 v12 ga gn gc gm mm, a = ((((((((((A.put (some 18) v18).put (some 19) v19).put (some 20) v20).put (some 21) v21).put (some 22) v22).put (some 17) v17).put (some 23) v23).put (some 24) v24).put (some 11) v11).put (some 12) v12) ∧ Below w1.heap.size w1 w' ∧ (D 0 → v18 = .slice da dn dc) ∧ (D 1 → v19 = .slice ga gn gc) ∧ (D 2 → v20 = .agg #[.int .i64 (Tm.base m), .int .i64 (Tm.com m), .slice (Tm.ra m) (Tm.rn m) (Tm.rc m), .slice (Tm.wa m) (Tm.wn m) (Tm.wc m)]) ∧ (D 3 → v21 = .agg #[.int .i64 (Tm.base mm), .int .i64 (Tm.com mm), .slice (Tm.ra mm) (Tm.rn mm) (Tm.rc mm), .slice (Tm.wa mm) (Tm.wn mm) (Tm.wc mm)]) ∧ (D 4 → v22 = .tuple #[.int .i64 (r0.getD 0), .int .i64 (eN r0)]) ∧ (D 5 → v17 = .tuple #[.int .i64 (r0.getD 0), .int .i64 (eN r0)]) ∧ (D 6 → v23 = .int .i64 (r0.getD 0)) ∧ (D 7 → v24 = .int .i64 (eN r0)) ∧ (D 8 → v11 = .int .i64 (r0.getD 0)) ∧ (D 9 → v12 = .int .i64 (eN r0)) ∧ (D 1 → IsTs w' ga gn gc gm ∧ List.map Tm.d gm = ms.map Tm.d) ∧ (D 3 → Tm.In w' mm ∧ Tm.d mm = m.d)) (by kernel_rfl) (by kernel_rfl) ?mono ?start ?step ?done
  case mono =>
    rintro D D' a w' hD ⟨v18, v19, v20, v21, v22, v17, v23, v24, v11, v12, ga, gn, gc, gm, mm, ha, hB, e0, e1, e2, e3, e4, e5, e6, e7, e8, e9, hG, hM⟩
    exact ⟨v18, v19, v20, v21, v22, v17, v23, v24, v11, v12, ga, gn, gc, gm, mm, ha, hB, fun h => e0 ((hD 0).2 h), fun h => e1 ((hD 1).2 h), fun h => e2 ((hD 2).2 h), fun h => e3 ((hD 3).2 h), fun h => e4 ((hD 4).2 h), fun h => e5 ((hD 5).2 h), fun h => e6 ((hD 6).2 h), fun h => e7 ((hD 7).2 h), fun h => e8 ((hD 8).2 h), fun h => e9 ((hD 9).2 h), fun h => hG ((hD 1).2 h), fun h => hM ((hD 3).2 h)⟩
  case start => exact ⟨undef, undef, undef, undef, undef, undef, undef, undef, undef, undef, none, 0, 0, [], default, by kernel_rfl, (Below.refl _ _).drew, fun h => h.elim, fun h => h.elim, fun h => h.elim, fun h => h.elim, fun h => h.elim, fun h => h.elim, fun h => h.elim, fun h => h.elim, fun h => h.elim, fun h => h.elim, fun h => h.elim, fun h => h.elim⟩
  case step =>
    intro i o ho D a w' hI hn hcl hd
    obtain ⟨v18, v19, v20, v21, v22, v17, v23, v24, v11, v12, ga, gn, gc, gm, mm, ha, hB, e0, e1, e2, e3, e4, e5, e6, e7, e8, e9, hG, hM⟩ := hI
    match i, ho with
    | 0, ho =>
      cases Option.some.inj ho
      have ev : a.tmps[0]?.getD undef = .slice da dn dc := by rw [ha]; kernel_rfl
      refine wp_value (w' := w') (v := .slice da dn dc) (by simp [execOp, ev, go_sem]) ?_
      exact ⟨(.slice da dn dc), v19, v20, v21, v22, v17, v23, v24, v11, v12, ga, gn, gc, gm, mm, by rw [ha]; kernel_rfl, hB, fun _ => rfl, fun h => e1 (h.resolve_left (by decide)), fun h => e2 (h.resolve_left (by decide)), fun h => e3 (h.resolve_left (by decide)), fun h => e4 (h.resolve_left (by decide)), fun h => e5 (h.resolve_left (by decide)), fun h => e6 (h.resolve_left (by decide)), fun h => e7 (h.resolve_left (by decide)), fun h => e8 (h.resolve_left (by decide)), fun h => e9 (h.resolve_left (by decide)), fun h => hG (h.resolve_left (by decide)), fun h => hM (h.resolve_left (by decide))⟩
    | 1, ho =>
      cases Option.some.inj ho
      have ev : a.tmps[18]?.getD undef = .slice da dn dc := by rw [ha, e0 (hd ⟨0, .data⟩ (by simp) rfl)]; kernel_rfl
      refine wp_enter (f := 9) (args := #[.slice da dn dc]) (by simp [execOp, ev, go_sem]) ?_
      refine (given_any (hI.below hB) hdn hsh).mono ?_
      rintro e w6 ⟨ga', gn', gc', gm', rfl, OG, hgd, B6⟩
      refine ⟨_, rfl, ?_⟩
      exact ⟨v18, (.slice ga' gn' gc'), v20, v21, v22, v17, v23, v24, v11, v12, ga', gn', gc', gm', mm, by rw [ha]; kernel_rfl, below_size hB hB.size B6, fun h => e0 (h.resolve_left (by decide)), fun _ => rfl, fun h => e2 (h.resolve_left (by decide)), fun h => e3 (h.resolve_left (by decide)), fun h => e4 (h.resolve_left (by decide)), fun h => e5 (h.resolve_left (by decide)), fun h => e6 (h.resolve_left (by decide)), fun h => e7 (h.resolve_left (by decide)), fun h => e8 (h.resolve_left (by decide)), fun h => e9 (h.resolve_left (by decide)), fun _ => ⟨OG.isTs, hgd⟩, fun h => ⟨(hM (h.resolve_left (by decide))).1.below B6, (hM (h.resolve_left (by decide))).2⟩⟩
    | 2, ho =>
      cases Option.some.inj ho
      have ev : a.tmps[7]?.getD undef = .pointer (some ⟨w.heap.size, 0, none⟩) := by rw [ha]; kernel_rfl
      have z0 := (hB.cell (p := ⟨w.heap.size, 0, none⟩) hwl).trans y0
      have z1 := (hB.cell (p := ⟨w.heap.size, 1, none⟩) hwl).trans y1
      have z2 := (hB.cell (p := ⟨w.heap.size, 2, none⟩) hwl).trans y2
      have z3 := (hB.cell (p := ⟨w.heap.size, 3, none⟩) hwl).trans y3
      refine wp_value (w' := w') (v := .agg #[.int .i64 (Tm.base m), .int .i64 (Tm.com m), .slice (Tm.ra m) (Tm.rn m) (Tm.rc m), .slice (Tm.wa m) (Tm.wn m) (Tm.wc m)]) (by simp [execOp, ev, go_sem, z0, z1, z2, z3]) ?_
      exact ⟨v18, v19, (.agg #[.int .i64 (Tm.base m), .int .i64 (Tm.com m), .slice (Tm.ra m) (Tm.rn m) (Tm.rc m), .slice (Tm.wa m) (Tm.wn m) (Tm.wc m)]), v21, v22, v17, v23, v24, v11, v12, ga, gn, gc, gm, mm, by rw [ha]; kernel_rfl, hB, fun h => e0 (h.resolve_left (by decide)), fun h => e1 (h.resolve_left (by decide)), fun _ => rfl, fun h => e3 (h.resolve_left (by decide)), fun h => e4 (h.resolve_left (by decide)), fun h => e5 (h.resolve_left (by decide)), fun h => e6 (h.resolve_left (by decide)), fun h => e7 (h.resolve_left (by decide)), fun h => e8 (h.resolve_left (by decide)), fun h => e9 (h.resolve_left (by decide)), fun h => hG (h.resolve_left (by decide)), fun h => hM (h.resolve_left (by decide))⟩
    | 3, ho =>
      cases Option.some.inj ho
      have ev : a.tmps[20]?.getD undef = .agg #[.int .i64 (Tm.base m), .int .i64 (Tm.com m), .slice (Tm.ra m) (Tm.rn m) (Tm.rc m), .slice (Tm.wa m) (Tm.wn m) (Tm.wc m)] := by rw [ha, e2 (hd ⟨2, .data⟩ (by simp) rfl)]; kernel_rfl
      refine wp_enter (f := 11) (args := #[.agg #[.int .i64 (Tm.base m), .int .i64 (Tm.com m), .slice (Tm.ra m) (Tm.rn m) (Tm.rc m), .slice (Tm.wa m) (Tm.wn m) (Tm.wc m)]]) (by simp [execOp, ev, go_sem]) ?_
      refine (one_any (hin.below hB) hmr hmw).mono ?_
      rintro e w6 ⟨mm', rfl, hmd, _, _, SM, B6⟩
      refine ⟨_, rfl, ?_⟩
      exact ⟨v18, v19, v20, (.agg #[.int .i64 (Tm.base mm'), .int .i64 (Tm.com mm'), .slice (Tm.ra mm') (Tm.rn mm') (Tm.rc mm'), .slice (Tm.wa mm') (Tm.wn mm') (Tm.wc mm')]), v22, v17, v23, v24, v11, v12, ga, gn, gc, gm, mm', by rw [ha]; kernel_rfl, below_size hB hB.size B6, fun h => e0 (h.resolve_left (by decide)), fun h => e1 (h.resolve_left (by decide)), fun h => e2 (h.resolve_left (by decide)), fun _ => rfl, fun h => e4 (h.resolve_left (by decide)), fun h => e5 (h.resolve_left (by decide)), fun h => e6 (h.resolve_left (by decide)), fun h => e7 (h.resolve_left (by decide)), fun h => e8 (h.resolve_left (by decide)), fun h => e9 (h.resolve_left (by decide)), fun h => ⟨(hG (h.resolve_left (by decide))).1.below B6, (hG (h.resolve_left (by decide))).2⟩, fun _ => ⟨SM.inn, hmd⟩⟩
    | 4, ho =>
      cases Option.some.inj ho
      have ev : a.tmps[19]?.getD undef = .slice ga gn gc := by rw [ha, e1 (hd ⟨1, .data⟩ (by simp) rfl)]; kernel_rfl
      have ev' : a.tmps[21]?.getD undef = .agg #[.int .i64 (Tm.base mm), .int .i64 (Tm.com mm), .slice (Tm.ra mm) (Tm.rn mm) (Tm.rc mm), .slice (Tm.wa mm) (Tm.wn mm) (Tm.wc mm)] := by rw [ha, e3 (hd ⟨3, .data⟩ (by simp) rfl)]; kernel_rfl
      obtain ⟨G1, G2⟩ := hG (hd ⟨1, .data⟩ (by simp) rfl)
      obtain ⟨M1, M2⟩ := hM (hd ⟨3, .data⟩ (by simp) rfl)
      have hck := check_as hI.size hdn hsh G1 G2 hin M1 M2 hmr hmw
      rw [hr0.out] at hck
      unfold chkV at hck
      refine wp_enter (f := 10) (args := #[.slice ga gn gc, .agg #[.int .i64 (Tm.base mm), .int .i64 (Tm.com mm), .slice (Tm.ra mm) (Tm.rn mm) (Tm.rc mm), .slice (Tm.wa mm) (Tm.wn mm) (Tm.wc mm)]]) (by simp [execOp, ev, ev', go_sem]) ?_
      refine (hck).mono ?_
      rintro e w6 ⟨rfl, B6⟩
      refine ⟨_, rfl, ?_⟩
      exact ⟨v18, v19, v20, v21, (.tuple #[.int .i64 (r0.getD 0), .int .i64 (eN r0)]), v17, v23, v24, v11, v12, ga, gn, gc, gm, mm, by rw [ha]; kernel_rfl, below_size hB hB.size B6, fun h => e0 (h.resolve_left (by decide)), fun h => e1 (h.resolve_left (by decide)), fun h => e2 (h.resolve_left (by decide)), fun h => e3 (h.resolve_left (by decide)), fun _ => rfl, fun h => e5 (h.resolve_left (by decide)), fun h => e6 (h.resolve_left (by decide)), fun h => e7 (h.resolve_left (by decide)), fun h => e8 (h.resolve_left (by decide)), fun h => e9 (h.resolve_left (by decide)), fun h => ⟨(hG (h.resolve_left (by decide))).1.below B6, (hG (h.resolve_left (by decide))).2⟩, fun h => ⟨(hM (h.resolve_left (by decide))).1.below B6, (hM (h.resolve_left (by decide))).2⟩⟩
    | 5, ho =>
      cases Option.some.inj ho
      have ev : a.tmps[22]?.getD undef = .tuple #[.int .i64 (r0.getD 0), .int .i64 (eN r0)] := by rw [ha, e4 (hd ⟨4, .data⟩ (by simp) rfl)]; kernel_rfl
      refine wp_value (w' := w') (v := .tuple #[.int .i64 (r0.getD 0), .int .i64 (eN r0)]) (by simp [execOp, ev, go_sem]) ?_
      exact ⟨v18, v19, v20, v21, v22, (.tuple #[.int .i64 (r0.getD 0), .int .i64 (eN r0)]), v23, v24, v11, v12, ga, gn, gc, gm, mm, by rw [ha]; kernel_rfl, hB, fun h => e0 (h.resolve_left (by decide)), fun h => e1 (h.resolve_left (by decide)), fun h => e2 (h.resolve_left (by decide)), fun h => e3 (h.resolve_left (by decide)), fun h => e4 (h.resolve_left (by decide)), fun _ => rfl, fun h => e6 (h.resolve_left (by decide)), fun h => e7 (h.resolve_left (by decide)), fun h => e8 (h.resolve_left (by decide)), fun h => e9 (h.resolve_left (by decide)), fun h => hG (h.resolve_left (by decide)), fun h => hM (h.resolve_left (by decide))⟩
    | 6, ho =>
      cases Option.some.inj ho
      have ev : a.tmps[17]?.getD undef = .tuple #[.int .i64 (r0.getD 0), .int .i64 (eN r0)] := by rw [ha, e5 (hd ⟨5, .data⟩ (by simp) rfl)]; kernel_rfl
      refine wp_value (w' := w') (v := .int .i64 (r0.getD 0)) (by simp [execOp, ev, go_sem]) ?_
      exact ⟨v18, v19, v20, v21, v22, v17, (.int .i64 (r0.getD 0)), v24, v11, v12, ga, gn, gc, gm, mm, by rw [ha]; kernel_rfl, hB, fun h => e0 (h.resolve_left (by decide)), fun h => e1 (h.resolve_left (by decide)), fun h => e2 (h.resolve_left (by decide)), fun h => e3 (h.resolve_left (by decide)), fun h => e4 (h.resolve_left (by decide)), fun h => e5 (h.resolve_left (by decide)), fun _ => rfl, fun h => e7 (h.resolve_left (by decide)), fun h => e8 (h.resolve_left (by decide)), fun h => e9 (h.resolve_left (by decide)), fun h => hG (h.resolve_left (by decide)), fun h => hM (h.resolve_left (by decide))⟩
    | 7, ho =>
      cases Option.some.inj ho
      have ev : a.tmps[17]?.getD undef = .tuple #[.int .i64 (r0.getD 0), .int .i64 (eN r0)] := by rw [ha, e5 (hd ⟨5, .data⟩ (by simp) rfl)]; kernel_rfl
      refine wp_value (w' := w') (v := .int .i64 (eN r0)) (by simp [execOp, ev, go_sem]) ?_
      exact ⟨v18, v19, v20, v21, v22, v17, v23, (.int .i64 (eN r0)), v11, v12, ga, gn, gc, gm, mm, by rw [ha]; kernel_rfl, hB, fun h => e0 (h.resolve_left (by decide)), fun h => e1 (h.resolve_left (by decide)), fun h => e2 (h.resolve_left (by decide)), fun h => e3 (h.resolve_left (by decide)), fun h => e4 (h.resolve_left (by decide)), fun h => e5 (h.resolve_left (by decide)), fun h => e6 (h.resolve_left (by decide)), fun _ => rfl, fun h => e8 (h.resolve_left (by decide)), fun h => e9 (h.resolve_left (by decide)), fun h => hG (h.resolve_left (by decide)), fun h => hM (h.resolve_left (by decide))⟩
    | 8, ho =>
      cases Option.some.inj ho
      have ev : a.tmps[23]?.getD undef = .int .i64 (r0.getD 0) := by rw [ha, e6 (hd ⟨6, .data⟩ (by simp) rfl)]; kernel_rfl
      refine wp_value (w' := w') (v := .int .i64 (r0.getD 0)) (by simp [execOp, ev, go_sem]) ?_
      exact ⟨v18, v19, v20, v21, v22, v17, v23, v24, (.int .i64 (r0.getD 0)), v12, ga, gn, gc, gm, mm, by rw [ha]; kernel_rfl, hB, fun h => e0 (h.resolve_left (by decide)), fun h => e1 (h.resolve_left (by decide)), fun h => e2 (h.resolve_left (by decide)), fun h => e3 (h.resolve_left (by decide)), fun h => e4 (h.resolve_left (by decide)), fun h => e5 (h.resolve_left (by decide)), fun h => e6 (h.resolve_left (by decide)), fun h => e7 (h.resolve_left (by decide)), fun _ => rfl, fun h => e9 (h.resolve_left (by decide)), fun h => hG (h.resolve_left (by decide)), fun h => hM (h.resolve_left (by decide))⟩
    | 9, ho =>
      cases Option.some.inj ho
      have ev : a.tmps[24]?.getD undef = .int .i64 (eN r0) := by rw [ha, e7 (hd ⟨7, .data⟩ (by simp) rfl)]; kernel_rfl
      refine wp_value (w' := w') (v := .int .i64 (eN r0)) (by simp [execOp, ev, go_sem]) ?_
      exact ⟨v18, v19, v20, v21, v22, v17, v23, v24, v11, (.int .i64 (eN r0)), ga, gn, gc, gm, mm, by rw [ha]; kernel_rfl, hB, fun h => e0 (h.resolve_left (by decide)), fun h => e1 (h.resolve_left (by decide)), fun h => e2 (h.resolve_left (by decide)), fun h => e3 (h.resolve_left (by decide)), fun h => e4 (h.resolve_left (by decide)), fun h => e5 (h.resolve_left (by decide)), fun h => e6 (h.resolve_left (by decide)), fun h => e7 (h.resolve_left (by decide)), fun h => e8 (h.resolve_left (by decide)), fun _ => rfl, fun h => hG (h.resolve_left (by decide)), fun h => hM (h.resolve_left (by decide))⟩
    | i + 10, ho => simp at ho
  case done =>
    rintro D a w' ⟨v18, v19, v20, v21, v22, v17, v23, v24, v11, v12, ga, gn, gc, gm, mm, ha, hB, e0, e1, e2, e3, e4, e5, e6, e7, e8, e9, hG, hM⟩ hall
    obtain rfl := e0 (hall 0 (by decide))
    obtain rfl := e1 (hall 1 (by decide))
    obtain rfl := e2 (hall 2 (by decide))
    obtain rfl := e3 (hall 3 (by decide))
    obtain rfl := e4 (hall 4 (by decide))
    obtain rfl := e5 (hall 5 (by decide))
    obtain rfl := e6 (hall 6 (by decide))
    obtain rfl := e7 (hall 7 (by decide))
    obtain rfl := e8 (hall 8 (by decide))
    obtain rfl := e9 (hall 9 (by decide))
    clear hG hM hall e0 e1 e2 e3 e4 e5 e6 e7 e8 e9
    rw [ha]
    clear ha
    simp only [Act.put, List.setIfInBounds_toArray, List.set_cons_zero, List.set_cons_succ]
    have hB1 := B1.trans (hB.mono B1.size)
    have hE1 := (hB.block _ hwl1).trans E1
    clear y0 y1 y2 y3 hin0 hwl hI
    have hI2 := hI1.below hB
    have hM2 := hM1.below hB
    have hZ2 := hZ1.below hB
    have hin2 := hin1.below hB
    have hwl2 := lt_of_block hE1
    clear hI1 hin1 hM1 hZ1 E1 hwl1 B1 hB hin
    cases r0 with
    | none =>
      dsimp only [Option.getD, eN, Option.isSome]
      have hkn := known_true w'
      clear hr0
      go_wp2_with fail
      refine hkn.mono ?_
      rintro e w9 ⟨rfl, B10⟩
      have B11 := below_size hB1 hB1.size B10
      go_wp2
      go_ret
      exact ⟨rfl, B11⟩
    | some nn =>
      dsimp only [Option.getD, eN, Option.isSome, if_true]
      have hpos : 0 < dn := by
        rcases Nat.eq_zero_or_pos dn with h0 | h0
        · exfalso
          have e : ms = [] := List.eq_nil_of_length_eq_zero (by rw [hsz.out]; exact h0)
          have := hr0.out
          rw [e, chk_nil] at this
          cases this
        · exact h0
      obtain ⟨b, off, hda, _⟩ := hI2.cells hpos
      subst hda
      have hwd : IntKind.i64.wrap ((dn : Int) + 1) = (dn : Int) + 1 := by rw [IntKind.wrap_i64]; omega
      have hcnt := count_any tt (dn + 1) (by omega) (by omega) w'
      rw [show ((dn + 1 : Nat) : Int) = (dn : Int) + 1 by omega] at hcnt
      have hroom := hI2.room
      go_wp2_with fail
      refine hcnt.mono ?_
      rintro e w2 ⟨cc, hcc, rfl, rfl⟩
      clear hcnt
      have hs1 : (0 : Int) ≤ (cc : Int) := by omega
      have hs2 : (cc : Int) ≤ (dc : Int) := by omega
      have hs3 : (cc : Int) ≤ (dn : Int) := by omega
      have hs4 : (dn : Int) ≤ (dc : Int) := by omega
      have hT := hI2.take (L := cc) (by omega)
      have hOn : OwnT w'.heap.size w' w'.heap.size 25 (.slice none 0 0) [] := ownT_nil _ _ _ _
      go_wp2_with (at_builtin; refine app_txns Try.underlying22 Try.info25 (by decide) _ rfl _ _ rfl w'.heap.size _ _ rfl hOn _ _ _ _ rfl hT (fun m hm => hT.each m hm) (by simp; omega) (Nat.le_refl _) (Nat.le_refl _) ?_)
      intro a4 n4 c4 w4 O4 B4
      clear hOn hT
      have hM4 := hM2.below B4
      have hlt4 : (ms.take cc).length ≤ dn := by rw [List.length_take, hsz.out]; omega
      go_wp2_with (at_builtin; refine app_txns Try.underlying22 Try.info25 (by decide) _ rfl _ _ rfl w'.heap.size _ _ rfl O4 _ _ _ _ rfl hM4 (fun m hm => St.below (hM2.each m hm) B4) (by omega) B4.size (Nat.le_refl _) ?_)
      intro a5 n5 c5 w5 O5 B5
      have B45 := B4.trans B5
      clear O4 B4 B5 hM4
      have hl5 : (ms.take cc ++ me).length ≤ dn + en := by rw [List.length_append, hsz2.out]; omega
      have hdd : Hid ((ms.drop cc).length = dn - cc) := by unfold Hid; rw [List.length_drop, hsz.out]
      go_upto_region 8 with fail
      go_cut [13] from 41 to 45 (fun v13 wx => OwnT w'.heap.size wx w'.heap.size 25 v13 (ms.take cc ++ me ++ ms.drop cc) ∧ Below w'.heap.size w' wx)
      case first =>
        by_cases hdc : dc = cc
        · have hd : Hid (ms.drop cc = []) := by unfold Hid; rw [List.drop_eq_nil_iff, hsz.out]; omega
          have hnn : Hid (dn = cc) := by unfold Hid; omega
          subst hdc
          go_wp2_with (at_builtin; refine app_txns Try.underlying22 Try.info25 (by decide) _ rfl _ _ rfl w'.heap.size _ _ rfl O5 _ _ _ [] rfl (isTs_none0 (by first | rfl | (have := hnn.out; omega)) (by first | rfl | omega)) (fun m hm => by cases hm) (by have := hnn.out; omega) B45.size (Nat.le_refl _) ?_)
          intro a6 n6 c6 w6 O6 B6
          have B46 := B45.trans B6
          clear O5 B6
          go_wp2
          go_meet
          refine ⟨?_, B46⟩
          rw [hd.out, List.append_nil]
          simpa using O6
        · have hX := (hI2.drop (L := cc) (by omega)).below B45
          have hdcI : ¬ (dc : Int) = (cc : Int) := by omega
          have hXl : ms.take cc ++ me = ms.take cc ++ me := rfl
          go_wp2_with (at_builtin; refine app_txns Try.underlying22 Try.info25 (by decide) _ rfl _ _ rfl w'.heap.size _ _ rfl O5 _ _ _ _ rfl hX (fun m hm => St.below (hI2.each m (List.mem_of_mem_drop hm)) B45) (by omega) B45.size (Nat.le_refl _) ?_)
          intro a6 n6 c6 w6 O6 B6
          have B46 := B45.trans B6
          clear O5 B6 hXl
          go_wp2
          go_meet
          exact ⟨by rw [List.append_assoc]; exact O6, B46⟩
      case rest =>
      obtain ⟨O6, B6⟩ := hcut
      clear O5 B45
      obtain ⟨a6, n6, c6, rfl, hn6⟩ := O6.shape
      have hI6c := O6.isTs
      have hE6 := (B6.block _ hwl2).trans hE1
      obtain ⟨y0, y1, y2, y3, _⟩ := tx_cells (m := m) (t := 25) hE6
      have hone := one_own (hin2.below B6) hmr hmw
      have hrl : m.rs.length = m.rn ∧ m.ws.length = m.wn := ⟨hin2.r.1.size, hin2.w.1.size⟩
      have hZ6 := hZ2.below B6
      have B7 : Below w.heap.size w wc := hB1.trans (B6.mono hB1.size)
      obtain ⟨L6, hL6⟩ : ∃ L6, Hid (ms.take cc ++ me ++ ms.drop cc = L6) := ⟨_, rfl⟩
      rw [hL6.out] at hI6c hn6
      have hn6' : n6 ≤ 1048576 := by
        rw [hn6, ← hL6.out, List.length_append, List.length_append, hdd.out, hsz2.out]
        have := List.length_take (i := cc) (l := ms)
        rw [hsz.out] at this
        omega
      have h6s : Short L6 := fun z hz => by
        rw [← hL6.out] at hz
        rcases List.mem_append.1 hz with hz | hz
        · rcases List.mem_append.1 hz with hz | hz
          · exact hsh z (List.mem_of_mem_take hz)
          · exact hshe z hz
        · exact hsh z (List.mem_of_mem_drop hz)
      replace hn6 : Hid (n6 = L6.length) := hn6
      clear O6 B6 hE6 hin2 hM2 hI2 hZ2 hE1 hB1
      go_wp2_with fail
      refine hone.mono ?_
      rintro e w7 ⟨m1, rfl, hm1d, OR, OW, S1, hapt, B8⟩
      clear hone y0 y1 y2 y3
      have BA : Below w7.heap.size w7 (w7.alloc (txB m1 31)) := box_below
      have EU : (w7.alloc (txB m1 31)).heap[w7.heap.size]? = some (tv m1.base m1.com (.slice m1.ra m1.rn m1.rc) (.slice m1.wa m1.wn m1.wc) 31) := new1 _ _
      have OR1 := OR.below BA
      have OW1 := OW.below BA
      have BX : Below wc.heap.size wc (w7.alloc (txB m1 31)) := below_size B8 B8.size BA
      have hmd1 : Hid (m1.base = m.base) := congrArg Tx.base hm1d
      have hub : wc.heap.size ≤ w7.heap.size := B8.size
      have hb64 := S1.b64
      have hc64 := S1.c64
      unfold txB at EU OR1 OW1 BX
      clear B8 BA OR OW S1
      go_upto_region 10 with fail
      generalize w7.alloc (.cells #[.int .i64 m1.base, .int .i64 m1.com, .slice m1.ra m1.rn m1.rc, .slice m1.wa m1.wn m1.wc] 31) = w8 at *
      generalize w7.heap.size = ub at *
      obtain ⟨u0, u1, u2, u3, uf⟩ := tv_cells EU
      go_wp2_with (at_builtin; refine app_ints2 _ rfl _ _ rfl wc.heap.size _ _ rfl OR1 _ _ _ _ rfl (hZ6.below BX) (by rw [hrl.1]; omega) BX.size ?_)
      intro a9 n9 c9 w9 O9 B10 G9 at9
      have ubl := lt_of_block EU
      have EU9 := (G9.block ub ubl (fun e => own_ne OR1.1 EU (by decide) e.symm)).trans EU
      have OW9 : OwnI w9 wc.heap.size (.slice m1.wa m1.wn m1.wc) m.ws := ⟨own_same OW1.1 (fun g hg => G9.block g (lt_of_block (own_block OW1.1 hg).2.choose_spec) (fun e => hapt g e.symm hg)), OW1.2⟩
      have ap9 : ∀ g, (Value.slice m1.wa m1.wn m1.wc).ownBlock = some g → (Value.slice a9 n9 c9).ownBlock ≠ some g := fun g hg h9 => by
        rcases at9 g h9 with h1 | h1
        · exact hapt g h1 hg
        · have := lt_of_block (own_block OW1.1 hg).2.choose_spec
          omega
      have BX9 := BX.trans B10
      clear OW1 OR1 B10 G9 at9 hapt EU u0 u1 u2 u3 uf BX ubl
      have O10 : OwnI (w9.setCell ⟨ub, 2, none⟩ (.slice a9 n9 c9)) wc.heap.size (.slice a9 n9 c9) (m.rs ++ zs) := ⟨own_setCell O9.1 EU9 (by decide), O9.2⟩
      have OW10 : OwnI (w9.setCell ⟨ub, 2, none⟩ (.slice a9 n9 c9)) wc.heap.size (.slice m1.wa m1.wn m1.wc) m.ws := ⟨own_setCell OW9.1 EU9 (by decide), OW9.2⟩
      have EU10 := tv_set2 EU9 (.slice a9 n9 c9)
      have BX10 := below_setCell (i := 2) (x := .slice a9 n9 c9) BX9 hub
      obtain ⟨u0, u1, u2, u3, uf⟩ := tv_cells EU9
      go_upto_region 11 with fail
      clear u0 u1 u2 u3 uf EU9 O9 OW9 BX9
      generalize w9.setCell ⟨ub, 2, none⟩ (.slice a9 n9 c9) = w10 at *
      obtain ⟨u0, u1, u2, u3, uf⟩ := tv_cells EU10
      go_wp2_with (at_builtin; refine app_ints2 _ rfl _ _ rfl wc.heap.size _ _ rfl OW10 _ _ _ _ rfl (hZ6.below BX10) (by rw [hrl.2]; omega) BX10.size ?_)
      intro a11 n11 c11 w11 O11 B11 G11 _
      have ubl := lt_of_block EU10
      have EU11 := (G11.block ub ubl (fun e => own_ne OW10.1 EU10 (by decide) e.symm)).trans EU10
      have OR11 : OwnI w11 wc.heap.size (.slice a9 n9 c9) (m.rs ++ zs) := ⟨own_same O10.1 (fun g hg => G11.block g (lt_of_block (own_block O10.1 hg).2.choose_spec) (fun e => ap9 g e.symm hg)), O10.2⟩
      have BX11 := BX10.trans B11
      clear OW10 O10 B11 G11 ap9 EU10 u0 u1 u2 u3 uf BX10 ubl
      have P1 : OwnI (w11.setCell ⟨ub, 3, none⟩ (.slice a11 n11 c11)) wc.heap.size (.slice a9 n9 c9) (m.rs ++ zs) := ⟨own_setCell OR11.1 EU11 (by decide), OR11.2⟩
      have P2 : OwnI (w11.setCell ⟨ub, 3, none⟩ (.slice a11 n11 c11)) wc.heap.size (.slice a11 n11 c11) (m.ws ++ zs) := ⟨own_setCell O11.1 EU11 (by decide), O11.2⟩
      have EU12 := tv_set3 EU11 (.slice a11 n11 c11)
      have BX12 := below_setCell (i := 3) (x := .slice a11 n11 c11) BX11 hub
      obtain ⟨u0, u1, u2, u3, uf⟩ := tv_cells EU11
      go_upto_region 12 with fail
      clear u0 u1 u2 u3 uf EU11 O11 OR11 BX11
      generalize w11.setCell ⟨ub, 3, none⟩ (.slice a11 n11 c11) = w12 at *
      obtain ⟨m2, hm2⟩ : ∃ m2 : Tm, m2 = ⟨m1.base, m1.com, a9, n9, c9, a11, n11, c11, m.rs ++ zs, m.ws ++ zs⟩ := ⟨_, rfl⟩
      have q0 : m1.base = m2.base := by rw [hm2]
      have q1 : m1.com = m2.com := by rw [hm2]
      have q2 : Value.slice a9 n9 c9 = .slice m2.ra m2.rn m2.rc := by rw [hm2]
      have q3 : Value.slice a11 n11 c11 = .slice m2.wa m2.wn m2.wc := by rw [hm2]
      have hin6 : m2.In w12 := by rw [hm2]; exact ⟨hb64, hc64, P1.isI.st, P2.isI.st⟩
      obtain ⟨r1, hr1⟩ : ∃ r1, Hid (chkR (L6.map Tm.d) m2.base m2.rs m2.ws = r1) := ⟨_, rfl⟩
      have hr1' : Hid (chkR ((ms.take cc ++ me ++ ms.drop cc).map Tm.d) m.base (m.rs ++ zs) (m.ws ++ zs) = r1) := by
        unfold Hid
        rw [hL6.out, ← hr1.out, hm2]
        show _ = chkR (L6.map Tm.d) m1.base _ _
        rw [hmd1.out]
      have hsz9 : n9 ≤ 1048576 ∧ n11 ≤ 1048576 := by
        have h1 := P1.isI.size
        have h2 := P2.isI.size
        rw [List.length_append, hrl.1, hZ6.size] at h1
        rw [List.length_append, hrl.2, hZ6.size] at h2
        omega
      have hm2r : m2.rn ≤ 1048576 := by rw [hm2]; exact hsz9.1
      have hm2w : m2.wn ≤ 1048576 := by rw [hm2]; exact hsz9.2
      obtain ⟨y0, y1, y2, y3, _⟩ := tv_cells EU12
      have hwl := lt_of_block EU12
      rw [q0] at y0
      rw [q1] at y1
      rw [q2] at y2
      rw [q3] at y3
      have hI6 := hI6c.below BX12
      have hin0 := hI6.each
      have B8 : Below w.heap.size w w12 := B7.trans (BX12.mono B7.size)
      clear q0 q1 q2 q3 hm2 P1 P2 EU12 hsz9 hmr hmw
      have hmr := hm2r
      have hmw := hm2w
      clear hm2r hm2w hmd1 hm1d
      refine wp_region_inv' (fun A D a w' => ∃ v59 v60 v61 v62 v58 v63 v64 v15 v16 ga gn gc gm, a = (((((((((A.put (some 59) v59).put (some 60) v60).put (some 61) v61).put (some 62) v62).put (some 58) v58).put (some 63) v63).put (some 64) v64).put (some 15) v15).put (some 16) v16) ∧ Below w12.heap.size w12 w' ∧ (D 0 → v59 = .slice a6 n6 c6) ∧ (D 1 → v60 = .slice ga gn gc) ∧ (D 2 → v61 = .agg #[.int .i64 (Tm.base m2), .int .i64 (Tm.com m2), .slice (Tm.ra m2) (Tm.rn m2) (Tm.rc m2), .slice (Tm.wa m2) (Tm.wn m2) (Tm.wc m2)]) ∧ (D 3 → v62 = .tuple #[.int .i64 (r1.getD 0), .int .i64 (eN r1)]) ∧ (D 4 → v58 = .tuple #[.int .i64 (r1.getD 0), .int .i64 (eN r1)]) ∧ (D 5 → v63 = .int .i64 (r1.getD 0)) ∧ (D 6 → v64 = .int .i64 (eN r1)) ∧ (D 7 → v15 = .int .i64 (r1.getD 0)) ∧ (D 8 → v16 = .int .i64 (eN r1)) ∧ (D 1 → IsTs w' ga gn gc gm ∧ List.map Tm.d gm = L6.map Tm.d)) (by kernel_rfl) (by kernel_rfl) ?mono ?start ?step ?done
      case mono =>
        rintro D D' a w' hD ⟨v59, v60, v61, v62, v58, v63, v64, v15, v16, ga, gn, gc, gm, ha, hB, e0, e1, e2, e3, e4, e5, e6, e7, e8, hG⟩
        exact ⟨v59, v60, v61, v62, v58, v63, v64, v15, v16, ga, gn, gc, gm, ha, hB, fun h => e0 ((hD 0).2 h), fun h => e1 ((hD 1).2 h), fun h => e2 ((hD 2).2 h), fun h => e3 ((hD 3).2 h), fun h => e4 ((hD 4).2 h), fun h => e5 ((hD 5).2 h), fun h => e6 ((hD 6).2 h), fun h => e7 ((hD 7).2 h), fun h => e8 ((hD 8).2 h), fun h => hG ((hD 1).2 h)⟩
      case start => exact ⟨undef, undef, undef, undef, undef, undef, undef, undef, undef, none, 0, 0, [], by kernel_rfl, (Below.refl _ _).drew, fun h => h.elim, fun h => h.elim, fun h => h.elim, fun h => h.elim, fun h => h.elim, fun h => h.elim, fun h => h.elim, fun h => h.elim, fun h => h.elim, fun h => h.elim⟩
      case step =>
        intro i o ho D a w' hI hn hcl hd
        obtain ⟨v59, v60, v61, v62, v58, v63, v64, v15, v16, ga, gn, gc, gm, ha, hB, e0, e1, e2, e3, e4, e5, e6, e7, e8, hG⟩ := hI
        match i, ho with
        | 0, ho =>
          cases Option.some.inj ho
          have ev : a.tmps[13]?.getD undef = .slice a6 n6 c6 := by rw [ha]; kernel_rfl
          refine wp_value (w' := w') (v := .slice a6 n6 c6) (by simp [execOp, ev, go_sem]) ?_
          exact ⟨(.slice a6 n6 c6), v60, v61, v62, v58, v63, v64, v15, v16, ga, gn, gc, gm, by rw [ha]; kernel_rfl, hB, fun _ => rfl, fun h => e1 (h.resolve_left (by decide)), fun h => e2 (h.resolve_left (by decide)), fun h => e3 (h.resolve_left (by decide)), fun h => e4 (h.resolve_left (by decide)), fun h => e5 (h.resolve_left (by decide)), fun h => e6 (h.resolve_left (by decide)), fun h => e7 (h.resolve_left (by decide)), fun h => e8 (h.resolve_left (by decide)), fun h => hG (h.resolve_left (by decide))⟩
        | 1, ho =>
          cases Option.some.inj ho
          have ev : a.tmps[59]?.getD undef = .slice a6 n6 c6 := by rw [ha, e0 (hd ⟨0, .data⟩ (by simp) rfl)]; kernel_rfl
          refine wp_enter (f := 9) (args := #[.slice a6 n6 c6]) (by simp [execOp, ev, go_sem]) ?_
          refine (given_any (hI6.below hB) hn6' h6s).mono ?_
          rintro e w6 ⟨ga', gn', gc', gm', rfl, OG, hgd, B6⟩
          refine ⟨_, rfl, ?_⟩
          exact ⟨v59, (.slice ga' gn' gc'), v61, v62, v58, v63, v64, v15, v16, ga', gn', gc', gm', by rw [ha]; kernel_rfl, below_size hB hB.size B6, fun h => e0 (h.resolve_left (by decide)), fun _ => rfl, fun h => e2 (h.resolve_left (by decide)), fun h => e3 (h.resolve_left (by decide)), fun h => e4 (h.resolve_left (by decide)), fun h => e5 (h.resolve_left (by decide)), fun h => e6 (h.resolve_left (by decide)), fun h => e7 (h.resolve_left (by decide)), fun h => e8 (h.resolve_left (by decide)), fun _ => ⟨OG.isTs, hgd⟩⟩
        | 2, ho =>
          cases Option.some.inj ho
          have ev : a.tmps[14]?.getD undef = .pointer (some ⟨ub, 0, none⟩) := by rw [ha]; kernel_rfl
          have z0 := (hB.cell (p := ⟨ub, 0, none⟩) hwl).trans y0
          have z1 := (hB.cell (p := ⟨ub, 1, none⟩) hwl).trans y1
          have z2 := (hB.cell (p := ⟨ub, 2, none⟩) hwl).trans y2
          have z3 := (hB.cell (p := ⟨ub, 3, none⟩) hwl).trans y3
          refine wp_value (w' := w') (v := .agg #[.int .i64 (Tm.base m2), .int .i64 (Tm.com m2), .slice (Tm.ra m2) (Tm.rn m2) (Tm.rc m2), .slice (Tm.wa m2) (Tm.wn m2) (Tm.wc m2)]) (by simp [execOp, ev, go_sem, z0, z1, z2, z3]) ?_
          exact ⟨v59, v60, (.agg #[.int .i64 (Tm.base m2), .int .i64 (Tm.com m2), .slice (Tm.ra m2) (Tm.rn m2) (Tm.rc m2), .slice (Tm.wa m2) (Tm.wn m2) (Tm.wc m2)]), v62, v58, v63, v64, v15, v16, ga, gn, gc, gm, by rw [ha]; kernel_rfl, hB, fun h => e0 (h.resolve_left (by decide)), fun h => e1 (h.resolve_left (by decide)), fun _ => rfl, fun h => e3 (h.resolve_left (by decide)), fun h => e4 (h.resolve_left (by decide)), fun h => e5 (h.resolve_left (by decide)), fun h => e6 (h.resolve_left (by decide)), fun h => e7 (h.resolve_left (by decide)), fun h => e8 (h.resolve_left (by decide)), fun h => hG (h.resolve_left (by decide))⟩
        | 3, ho =>
          cases Option.some.inj ho
          have ev : a.tmps[60]?.getD undef = .slice ga gn gc := by rw [ha, e1 (hd ⟨1, .data⟩ (by simp) rfl)]; kernel_rfl
          have ev' : a.tmps[61]?.getD undef = .agg #[.int .i64 (Tm.base m2), .int .i64 (Tm.com m2), .slice (Tm.ra m2) (Tm.rn m2) (Tm.rc m2), .slice (Tm.wa m2) (Tm.wn m2) (Tm.wc m2)] := by rw [ha, e2 (hd ⟨2, .data⟩ (by simp) rfl)]; kernel_rfl
          obtain ⟨G1, G2⟩ := hG (hd ⟨1, .data⟩ (by simp) rfl)
          have hck := check_as hI6.size hn6' h6s G1 G2 hin6 (hin6.below hB) rfl hmr hmw
          rw [hr1.out] at hck
          unfold chkV at hck
          refine wp_enter (f := 10) (args := #[.slice ga gn gc, .agg #[.int .i64 (Tm.base m2), .int .i64 (Tm.com m2), .slice (Tm.ra m2) (Tm.rn m2) (Tm.rc m2), .slice (Tm.wa m2) (Tm.wn m2) (Tm.wc m2)]]) (by simp [execOp, ev, ev', go_sem]) ?_
          refine (hck).mono ?_
          rintro e w6 ⟨rfl, B6⟩
          refine ⟨_, rfl, ?_⟩
          exact ⟨v59, v60, v61, (.tuple #[.int .i64 (r1.getD 0), .int .i64 (eN r1)]), v58, v63, v64, v15, v16, ga, gn, gc, gm, by rw [ha]; kernel_rfl, below_size hB hB.size B6, fun h => e0 (h.resolve_left (by decide)), fun h => e1 (h.resolve_left (by decide)), fun h => e2 (h.resolve_left (by decide)), fun _ => rfl, fun h => e4 (h.resolve_left (by decide)), fun h => e5 (h.resolve_left (by decide)), fun h => e6 (h.resolve_left (by decide)), fun h => e7 (h.resolve_left (by decide)), fun h => e8 (h.resolve_left (by decide)), fun h => ⟨(hG (h.resolve_left (by decide))).1.below B6, (hG (h.resolve_left (by decide))).2⟩⟩
        | 4, ho =>
          cases Option.some.inj ho
          have ev : a.tmps[62]?.getD undef = .tuple #[.int .i64 (r1.getD 0), .int .i64 (eN r1)] := by rw [ha, e3 (hd ⟨3, .data⟩ (by simp) rfl)]; kernel_rfl
          refine wp_value (w' := w') (v := .tuple #[.int .i64 (r1.getD 0), .int .i64 (eN r1)]) (by simp [execOp, ev, go_sem]) ?_
          exact ⟨v59, v60, v61, v62, (.tuple #[.int .i64 (r1.getD 0), .int .i64 (eN r1)]), v63, v64, v15, v16, ga, gn, gc, gm, by rw [ha]; kernel_rfl, hB, fun h => e0 (h.resolve_left (by decide)), fun h => e1 (h.resolve_left (by decide)), fun h => e2 (h.resolve_left (by decide)), fun h => e3 (h.resolve_left (by decide)), fun _ => rfl, fun h => e5 (h.resolve_left (by decide)), fun h => e6 (h.resolve_left (by decide)), fun h => e7 (h.resolve_left (by decide)), fun h => e8 (h.resolve_left (by decide)), fun h => hG (h.resolve_left (by decide))⟩
        | 5, ho =>
          cases Option.some.inj ho
          have ev : a.tmps[58]?.getD undef = .tuple #[.int .i64 (r1.getD 0), .int .i64 (eN r1)] := by rw [ha, e4 (hd ⟨4, .data⟩ (by simp) rfl)]; kernel_rfl
          refine wp_value (w' := w') (v := .int .i64 (r1.getD 0)) (by simp [execOp, ev, go_sem]) ?_
          exact ⟨v59, v60, v61, v62, v58, (.int .i64 (r1.getD 0)), v64, v15, v16, ga, gn, gc, gm, by rw [ha]; kernel_rfl, hB, fun h => e0 (h.resolve_left (by decide)), fun h => e1 (h.resolve_left (by decide)), fun h => e2 (h.resolve_left (by decide)), fun h => e3 (h.resolve_left (by decide)), fun h => e4 (h.resolve_left (by decide)), fun _ => rfl, fun h => e6 (h.resolve_left (by decide)), fun h => e7 (h.resolve_left (by decide)), fun h => e8 (h.resolve_left (by decide)), fun h => hG (h.resolve_left (by decide))⟩
        | 6, ho =>
          cases Option.some.inj ho
          have ev : a.tmps[58]?.getD undef = .tuple #[.int .i64 (r1.getD 0), .int .i64 (eN r1)] := by rw [ha, e4 (hd ⟨4, .data⟩ (by simp) rfl)]; kernel_rfl
          refine wp_value (w' := w') (v := .int .i64 (eN r1)) (by simp [execOp, ev, go_sem]) ?_
          exact ⟨v59, v60, v61, v62, v58, v63, (.int .i64 (eN r1)), v15, v16, ga, gn, gc, gm, by rw [ha]; kernel_rfl, hB, fun h => e0 (h.resolve_left (by decide)), fun h => e1 (h.resolve_left (by decide)), fun h => e2 (h.resolve_left (by decide)), fun h => e3 (h.resolve_left (by decide)), fun h => e4 (h.resolve_left (by decide)), fun h => e5 (h.resolve_left (by decide)), fun _ => rfl, fun h => e7 (h.resolve_left (by decide)), fun h => e8 (h.resolve_left (by decide)), fun h => hG (h.resolve_left (by decide))⟩
        | 7, ho =>
          cases Option.some.inj ho
          have ev : a.tmps[63]?.getD undef = .int .i64 (r1.getD 0) := by rw [ha, e5 (hd ⟨5, .data⟩ (by simp) rfl)]; kernel_rfl
          refine wp_value (w' := w') (v := .int .i64 (r1.getD 0)) (by simp [execOp, ev, go_sem]) ?_
          exact ⟨v59, v60, v61, v62, v58, v63, v64, (.int .i64 (r1.getD 0)), v16, ga, gn, gc, gm, by rw [ha]; kernel_rfl, hB, fun h => e0 (h.resolve_left (by decide)), fun h => e1 (h.resolve_left (by decide)), fun h => e2 (h.resolve_left (by decide)), fun h => e3 (h.resolve_left (by decide)), fun h => e4 (h.resolve_left (by decide)), fun h => e5 (h.resolve_left (by decide)), fun h => e6 (h.resolve_left (by decide)), fun _ => rfl, fun h => e8 (h.resolve_left (by decide)), fun h => hG (h.resolve_left (by decide))⟩
        | 8, ho =>
          cases Option.some.inj ho
          have ev : a.tmps[64]?.getD undef = .int .i64 (eN r1) := by rw [ha, e6 (hd ⟨6, .data⟩ (by simp) rfl)]; kernel_rfl
          refine wp_value (w' := w') (v := .int .i64 (eN r1)) (by simp [execOp, ev, go_sem]) ?_
          exact ⟨v59, v60, v61, v62, v58, v63, v64, v15, (.int .i64 (eN r1)), ga, gn, gc, gm, by rw [ha]; kernel_rfl, hB, fun h => e0 (h.resolve_left (by decide)), fun h => e1 (h.resolve_left (by decide)), fun h => e2 (h.resolve_left (by decide)), fun h => e3 (h.resolve_left (by decide)), fun h => e4 (h.resolve_left (by decide)), fun h => e5 (h.resolve_left (by decide)), fun h => e6 (h.resolve_left (by decide)), fun h => e7 (h.resolve_left (by decide)), fun _ => rfl, fun h => hG (h.resolve_left (by decide))⟩
        | i + 9, ho => simp at ho
      case done =>
        rintro D a w' ⟨v59, v60, v61, v62, v58, v63, v64, v15, v16, ga, gn, gc, gm, ha, hB, e0, e1, e2, e3, e4, e5, e6, e7, e8, hG⟩ hall
        obtain rfl := e0 (hall 0 (by decide))
        obtain rfl := e1 (hall 1 (by decide))
        obtain rfl := e2 (hall 2 (by decide))
        obtain rfl := e3 (hall 3 (by decide))
        obtain rfl := e4 (hall 4 (by decide))
        obtain rfl := e5 (hall 5 (by decide))
        obtain rfl := e6 (hall 6 (by decide))
        obtain rfl := e7 (hall 7 (by decide))
        obtain rfl := e8 (hall 8 (by decide))
        clear hG hall e0 e1 e2 e3 e4 e5 e6 e7 e8
        rw [ha]
        clear ha
        simp only [Act.put, List.setIfInBounds_toArray, List.set_cons_zero, List.set_cons_succ]
        have B9 := B8.trans (hB.mono B8.size)
        clear hB
        obtain ⟨q', rfl, hq'⟩ := more_le hr0.out hr1'.out
        dsimp only [Option.getD, eN, Option.isSome, if_true]
        have hkn := known_true w'
        clear hr0 hr1 hr1'
        go_wp2_with fail
        refine hkn.mono ?_
        rintro e w9 ⟨rfl, B10⟩
        have B11 := below_size B9 B9.size B10
        go_wp2
        go_ret
        exact ⟨rfl, B11⟩
end Go.Proofs.Ytigmpmichhghdaa
