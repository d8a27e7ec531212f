/- ValidParts: its walk. -/
import Derived.Test.YtigmpmichhghdaaLwA
namespace Go.Proofs.Ytigmpmichhghdaa
open Go.RowKit
set_option maxRecDepth 100000
theorem leastO_none {l : List Int} : leastO l = none ↔ l = [] := by cases l <;> simp [leastO]
theorem leastO_some {l : List Int} {x : Int} (h : leastO l = some x) : x ∈ l ∧ ∀ y ∈ l, x ≤ y := by
  cases l with
  | nil => cases h
  | cons z r =>
    have e : minL z r = x := by simpa [leastO] using h
    obtain ⟨h1, h2⟩ := minL_le z r
    rw [e] at h1 h2
    refine ⟨?_, fun y hy => ?_⟩
    · rcases minL_mem z r with h3 | h3
      · rw [e] at h3; rw [h3]; simp
      · rw [e] at h3; exact List.mem_cons_of_mem _ h3
    · rcases List.mem_cons.1 hy with rfl | hy
      · exact h1
      · exact h2 y hy
theorem leastO_is {l : List Int} {x : Int} (h1 : x ∈ l) (h2 : ∀ y ∈ l, x ≤ y) : leastO l = some x := by
  cases h : leastO l with
  | none => rw [leastO_none.1 h] at h1; cases h1
  | some z =>
    obtain ⟨h3, h4⟩ := leastO_some h
    have := h2 z h3
    have := h4 x h1
    congr 1
    omega
/-- The lesser one of two, if there are such. -/
def comb : Option Int → Option Int → Option Int
  | none, r => r
  | some y, none => some y
  | some y, some z => some (min y z)
theorem comb_none (r : Option Int) : comb r none = r := by cases r <;> rfl
theorem leastO_comb {p q s : Int → Bool} (l : List Int) (h : ∀ o, s o = (p o || q o)) : leastO (l.filter s) = comb (leastO (l.filter p)) (leastO (l.filter q)) := by
  have mem : ∀ o, o ∈ l.filter s ↔ o ∈ l.filter p ∨ o ∈ l.filter q := fun o => by
    simp only [List.mem_filter, h, Bool.or_eq_true]
    constructor
    · rintro ⟨h1, h2 | h2⟩
      · exact .inl ⟨h1, h2⟩
      · exact .inr ⟨h1, h2⟩
    · rintro (⟨h1, h2⟩ | ⟨h1, h2⟩)
      · exact ⟨h1, .inl h2⟩
      · exact ⟨h1, .inr h2⟩
  cases hp : leastO (l.filter p) with
  | none =>
    have e := leastO_none.1 hp
    cases hq : leastO (l.filter q) with
    | none =>
      have e2 := leastO_none.1 hq
      show leastO (l.filter s) = none
      rw [leastO_none, List.eq_nil_iff_forall_not_mem]
      intro o ho
      rcases (mem o).1 ho with h1 | h1
      · rw [e] at h1; cases h1
      · rw [e2] at h1; cases h1
    | some z =>
      obtain ⟨h1, h2⟩ := leastO_some hq
      refine leastO_is ((mem z).2 (.inr h1)) (fun y hy => ?_)
      rcases (mem y).1 hy with h3 | h3
      · rw [e] at h3; cases h3
      · exact h2 y h3
  | some y =>
    obtain ⟨h1, h2⟩ := leastO_some hp
    cases hq : leastO (l.filter q) with
    | none =>
      have e2 := leastO_none.1 hq
      refine leastO_is ((mem y).2 (.inl h1)) (fun z hz => ?_)
      rcases (mem z).1 hz with h3 | h3
      · exact h2 z h3
      · rw [e2] at h3; cases h3
    | some z =>
      obtain ⟨h3, h4⟩ := leastO_some hq
      refine leastO_is (x := min y z) ?_ (fun u hu => ?_)
      · rcases Int.le_total y z with hh | hh
        · rw [show min y z = y by omega]; exact (mem y).2 (.inl h1)
        · rw [show min y z = z by omega]; exact (mem z).2 (.inr h3)
      · rcases (mem u).1 hu with h5 | h5
        · have := h2 u h5; omega
        · have := h4 u h5; omega
theorem chk_app (ds es : List Tx) (base : Int) (rs ws : List Int) : chkR (ds ++ es) base rs ws = comb (chkR ds base rs ws) (chkR es base rs ws) :=
  leastO_comb (rs ++ ws) (fun o => by unfold clB; rw [List.any_append])
theorem chk_nil (base : Int) (rs ws : List Int) : chkR (List.map Tm.d []) base rs ws = none := by
  unfold chkR
  rw [leastO_none, List.filter_eq_nil_iff]
  intro o _ hc
  cases hc
/-- What the parts said so far. -/
def AccI (ms : List Tm) (m : Tm) (k : Nat) (z : Int) (b : Bool) : Prop := z = (chkR ((ms.take k).map Tm.d) m.base m.rs m.ws).getD 0 ∧ b = (chkR ((ms.take k).map Tm.d) m.base m.rs m.ws).isSome
theorem AccI.start {ms : List Tm} {m : Tm} : AccI ms m 0 0 false := by
  unfold AccI
  rw [List.take_zero, chk_nil]
  exact ⟨rfl, rfl⟩
theorem AccI.step {ms : List Tm} {m x : Tm} {k : Nat} (hx : ms[k]? = some x) : chkR ((ms.take (k + 1)).map Tm.d) m.base m.rs m.ws = comb (chkR ((ms.take k).map Tm.d) m.base m.rs m.ws) (chkR ([x].map Tm.d) m.base m.rs m.ws) := by
  rw [take_at hx, List.map_append, chk_app]
theorem AccI.none {ms : List Tm} {m x : Tm} {k : Nat} {z : Int} {b : Bool} (h : AccI ms m k z b) (hx : ms[k]? = some x) (hr : chkR ([x].map Tm.d) m.base m.rs m.ws = Option.none) : AccI ms m (k + 1) z b := by
  unfold AccI at h ⊢
  rw [AccI.step hx, hr, comb_none]
  exact h
theorem AccI.first {ms : List Tm} {m x : Tm} {k : Nat} {z q : Int} (h : AccI ms m k z false) (hx : ms[k]? = some x) (hr : chkR ([x].map Tm.d) m.base m.rs m.ws = some q) : AccI ms m (k + 1) q true := by
  unfold AccI at h ⊢
  rw [AccI.step hx, hr]
  cases hc : chkR ((ms.take k).map Tm.d) m.base m.rs m.ws with
  | none => exact ⟨rfl, rfl⟩
  | some y => rw [hc] at h; exact absurd h.2 (by simp)
theorem AccI.less {ms : List Tm} {m x : Tm} {k : Nat} {z q : Int} (h : AccI ms m k z true) (hx : ms[k]? = some x) (hr : chkR ([x].map Tm.d) m.base m.rs m.ws = some q) (hq : q < z) : AccI ms m (k + 1) q true := by
  unfold AccI at h ⊢
  rw [AccI.step hx, hr]
  cases hc : chkR ((ms.take k).map Tm.d) m.base m.rs m.ws with
  | none => rw [hc] at h; exact absurd h.2 (by simp)
  | some y =>
    rw [hc] at h
    have e : z = y := h.1
    refine ⟨?_, rfl⟩
    show q = min y q
    omega
theorem AccI.more {ms : List Tm} {m x : Tm} {k : Nat} {z q : Int} (h : AccI ms m k z true) (hx : ms[k]? = some x) (hr : chkR ([x].map Tm.d) m.base m.rs m.ws = some q) (hq : ¬ q < z) : AccI ms m (k + 1) z true := by
  unfold AccI at h ⊢
  rw [AccI.step hx, hr]
  cases hc : chkR ((ms.take k).map Tm.d) m.base m.rs m.ws with
  | none => rw [hc] at h; exact absurd h.2 (by simp)
  | some y =>
    rw [hc] at h
    have e : z = y := h.1
    refine ⟨?_, rfl⟩
    show z = min y q
    omega
theorem AccI.fin {ms : List Tm} {m : Tm} {k : Nat} {z : Int} {b : Bool} {r : Option Int} (h : AccI ms m k z b) (hk : ms.length ≤ k) (hr : chkR (ms.map Tm.d) m.base m.rs m.ws = r) : r.getD 0 = z ∧ eN r = if b then 30 else 0 := by
  unfold AccI at h
  rw [List.take_of_length_le hk, hr] at h
  obtain ⟨rfl, rfl⟩ := h
  exact ⟨rfl, rfl⟩
/-- One of a row, as a row. -/
theorem IsTs.sub1 {w : World} {b off n cap k : Nat} {ms : List Tm} {x : Tm} (h : IsTs w (some ⟨b, off, none⟩) n cap ms) (hx : ms[k]? = some x) : IsTs w (some ⟨b, off + k * 4, none⟩) 1 (cap - k) [x] := by
  have hk : k < n := by have := (List.getElem?_eq_some_iff.1 hx).1; rw [h.size] at this; exact this
  have h1 := h.room
  have h2 := h.most
  refine ⟨rfl, by omega, by omega, by simp, fun _ => ⟨b, off + k * 4, rfl, fun i m hm => ?_⟩, fun m hm => ?_⟩
  · obtain ⟨b', off', e, hr⟩ := h.cells (by omega)
    cases e
    match i with
    | 0 =>
      have e : x = m := by simpa using hm
      subst e
      have := hr k x hx
      rw [Nat.zero_mul, Nat.add_zero]
      exact this
    | i + 1 => cases hm
  · rw [List.mem_singleton] at hm
    subst hm
    exact h.each _ (List.mem_of_getElem? hx)
set_option maxHeartbeats 8000000 in
theorem parts_walk {w : World} {da : Option Addr} {dn dc : Nat} {ms : List Tm} {m : Tm} (h : IsTs w da dn dc ms) (hdn : dn ≤ 1048576) (hsh : Short ms) (hm : m.In w) (hmr : m.rn ≤ 1048576) (hmw : m.wn ≤ 1048576) :
    Calls Try.prog 8 #[.slice da dn dc, .agg #[.int .i64 m.base, .int .i64 m.com, .slice m.ra m.rn m.rc, .slice m.wa m.wn m.wc]] w fun e w' => e = .returned (.bool true) ∧ Below w.heap.size w w' := by
  have B1 : Below w.heap.size w (w.alloc (txB m 25)) := box_below
  have E1 : (w.alloc (txB m 25)).heap[w.heap.size]? = some (txB m 25) := new1 _ _
  have hin1 := hm.below B1
  have hI1 := h.below B1
  obtain ⟨r0, hr0⟩ : ∃ r0, Hid (chkR (ms.map Tm.d) m.base m.rs m.ws = r0) := ⟨_, rfl⟩
  have hsz : Hid (ms.length = dn) := h.size
  have hdnI : dn ≤ 9223372036854775807 := by omega
  go_enter Try.func8, Try.ntmps8
  by_cases h200 : (200 : Int) < (dn : Int)
  · have hkn := known_true (w.alloc (txB m 25))
    unfold txB at hkn B1
    clear E1 hin1 hI1
    go_wp2_with fail
    refine hkn.mono ?_
    rintro e w9 ⟨rfl, B10⟩
    have B11 := below_size B1 B1.size B10
    go_wp2
    go_ret
    exact ⟨rfl, B11⟩
  · go_upto_region 3 with fail
    unfold txB at B1 E1 hin1 hI1
    generalize w.alloc (.cells #[.int .i64 m.base, .int .i64 m.com, .slice m.ra m.rn m.rc, .slice m.wa m.wn m.wc] 25) = w1 at *
    have hwl1 := lt_of_block E1
    have hwl := hwl1
    have hI := hI1
    have hin := hin1
    have hin0 := hI.each
    obtain ⟨y0, y1, y2, y3, _⟩ := tx_cells (m := m) (t := 25) E1
    clear h hm
    refine wp_region_inv' (fun A D a w' => ∃ v17 v18 v19 v20 v21 v16 v22 v23 v5 v6 ga gn gc gm mm, a = ((((((((((A.put (some 17) v17).put (some 18) v18).put (some 19) v19).put (some 20) v20).put (some 21) v21).put (some 16) v16).put (some 22) v22).put (some 23) v23).put (some 5) v5).put (some 6) v6) ∧ Below w1.heap.size w1 w' ∧ (D 0 → v17 = .slice da dn dc) ∧ (D 1 → v18 = .slice ga gn gc) ∧ (D 2 → v19 = .agg #[.int .i64 (Tm.base m), .int .i64 (Tm.com m), .slice (Tm.ra m) (Tm.rn m) (Tm.rc m), .slice (Tm.wa m) (Tm.wn m) (Tm.wc m)]) ∧ (D 3 → v20 = .agg #[.int .i64 (Tm.base mm), .int .i64 (Tm.com mm), .slice (Tm.ra mm) (Tm.rn mm) (Tm.rc mm), .slice (Tm.wa mm) (Tm.wn mm) (Tm.wc mm)]) ∧ (D 4 → v21 = .tuple #[.int .i64 (r0.getD 0), .int .i64 (eN r0)]) ∧ (D 5 → v16 = .tuple #[.int .i64 (r0.getD 0), .int .i64 (eN r0)]) ∧ (D 6 → v22 = .int .i64 (r0.getD 0)) ∧ (D 7 → v23 = .int .i64 (eN r0)) ∧ (D 8 → v5 = .int .i64 (r0.getD 0)) ∧ (D 9 → v6 = .int .i64 (eN r0)) ∧ (D 1 → IsTs w' ga gn gc gm ∧ List.map Tm.d gm = ms.map Tm.d) ∧ (D 3 → Tm.In w' mm ∧ Tm.d mm = m.d)) (by kernel_rfl) (by kernel_rfl) ?mono ?start ?step ?done
    case mono =>
      rintro D D' a w' hD ⟨v17, v18, v19, v20, v21, v16, v22, v23, v5, v6, ga, gn, gc, gm, mm, ha, hB, e0, e1, e2, e3, e4, e5, e6, e7, e8, e9, hG, hM⟩
      exact ⟨v17, v18, v19, v20, v21, v16, v22, v23, v5, v6, ga, gn, gc, gm, mm, ha, hB, fun h => e0 ((hD 0).2 h), fun h => e1 ((hD 1).2 h), fun h => e2 ((hD 2).2 h), fun h => e3 ((hD 3).2 h), fun h => e4 ((hD 4).2 h), fun h => e5 ((hD 5).2 h), fun h => e6 ((hD 6).2 h), fun h => e7 ((hD 7).2 h), fun h => e8 ((hD 8).2 h), fun h => e9 ((hD 9).2 h), fun h => hG ((hD 1).2 h), fun h => hM ((hD 3).2 h)⟩
    case start => exact ⟨undef, undef, undef, undef, undef, undef, undef, undef, undef, undef, none, 0, 0, [], default, by kernel_rfl, (Below.refl _ _).drew, fun h => h.elim, fun h => h.elim, fun h => h.elim, fun h => h.elim, fun h => h.elim, fun h => h.elim, fun h => h.elim, fun h => h.elim, fun h => h.elim, fun h => h.elim, fun h => h.elim, fun h => h.elim⟩
    case step =>
      intro i o ho D a w' hI hn hcl hd
      obtain ⟨v17, v18, v19, v20, v21, v16, v22, v23, v5, v6, ga, gn, gc, gm, mm, ha, hB, e0, e1, e2, e3, e4, e5, e6, e7, e8, e9, hG, hM⟩ := hI
      match i, ho with
      | 0, ho =>
        cases Option.some.inj ho
        have ev : a.tmps[0]?.getD undef = .slice da dn dc := by rw [ha]; kernel_rfl
        refine wp_value (w' := w') (v := .slice da dn dc) (by simp [execOp, ev, go_sem]) ?_
        exact ⟨(.slice da dn dc), v18, v19, v20, v21, v16, v22, v23, v5, v6, ga, gn, gc, gm, mm, by rw [ha]; kernel_rfl, hB, fun _ => rfl, fun h => e1 (h.resolve_left (by decide)), fun h => e2 (h.resolve_left (by decide)), fun h => e3 (h.resolve_left (by decide)), fun h => e4 (h.resolve_left (by decide)), fun h => e5 (h.resolve_left (by decide)), fun h => e6 (h.resolve_left (by decide)), fun h => e7 (h.resolve_left (by decide)), fun h => e8 (h.resolve_left (by decide)), fun h => e9 (h.resolve_left (by decide)), fun h => hG (h.resolve_left (by decide)), fun h => hM (h.resolve_left (by decide))⟩
      | 1, ho =>
        cases Option.some.inj ho
        have ev : a.tmps[17]?.getD undef = .slice da dn dc := by rw [ha, e0 (hd ⟨0, .data⟩ (by simp) rfl)]; kernel_rfl
        refine wp_enter (f := 9) (args := #[.slice da dn dc]) (by simp [execOp, ev, go_sem]) ?_
        refine (given_any (hI.below hB) hdn hsh).mono ?_
        rintro e w6 ⟨ga', gn', gc', gm', rfl, OG, hgd, B6⟩
        refine ⟨_, rfl, ?_⟩
        exact ⟨v17, (.slice ga' gn' gc'), v19, v20, v21, v16, v22, v23, v5, v6, ga', gn', gc', gm', mm, by rw [ha]; kernel_rfl, below_size hB hB.size B6, fun h => e0 (h.resolve_left (by decide)), fun _ => rfl, fun h => e2 (h.resolve_left (by decide)), fun h => e3 (h.resolve_left (by decide)), fun h => e4 (h.resolve_left (by decide)), fun h => e5 (h.resolve_left (by decide)), fun h => e6 (h.resolve_left (by decide)), fun h => e7 (h.resolve_left (by decide)), fun h => e8 (h.resolve_left (by decide)), fun h => e9 (h.resolve_left (by decide)), fun _ => ⟨OG.isTs, hgd⟩, fun h => ⟨(hM (h.resolve_left (by decide))).1.below B6, (hM (h.resolve_left (by decide))).2⟩⟩
      | 2, ho =>
        cases Option.some.inj ho
        have ev : a.tmps[3]?.getD undef = .pointer (some ⟨w.heap.size, 0, none⟩) := by rw [ha]; kernel_rfl
        have z0 := (hB.cell (p := ⟨w.heap.size, 0, none⟩) hwl).trans y0
        have z1 := (hB.cell (p := ⟨w.heap.size, 1, none⟩) hwl).trans y1
        have z2 := (hB.cell (p := ⟨w.heap.size, 2, none⟩) hwl).trans y2
        have z3 := (hB.cell (p := ⟨w.heap.size, 3, none⟩) hwl).trans y3
        refine wp_value (w' := w') (v := .agg #[.int .i64 (Tm.base m), .int .i64 (Tm.com m), .slice (Tm.ra m) (Tm.rn m) (Tm.rc m), .slice (Tm.wa m) (Tm.wn m) (Tm.wc m)]) (by simp [execOp, ev, go_sem, z0, z1, z2, z3]) ?_
        exact ⟨v17, v18, (.agg #[.int .i64 (Tm.base m), .int .i64 (Tm.com m), .slice (Tm.ra m) (Tm.rn m) (Tm.rc m), .slice (Tm.wa m) (Tm.wn m) (Tm.wc m)]), v20, v21, v16, v22, v23, v5, v6, ga, gn, gc, gm, mm, by rw [ha]; kernel_rfl, hB, fun h => e0 (h.resolve_left (by decide)), fun h => e1 (h.resolve_left (by decide)), fun _ => rfl, fun h => e3 (h.resolve_left (by decide)), fun h => e4 (h.resolve_left (by decide)), fun h => e5 (h.resolve_left (by decide)), fun h => e6 (h.resolve_left (by decide)), fun h => e7 (h.resolve_left (by decide)), fun h => e8 (h.resolve_left (by decide)), fun h => e9 (h.resolve_left (by decide)), fun h => hG (h.resolve_left (by decide)), fun h => hM (h.resolve_left (by decide))⟩
      | 3, ho =>
        cases Option.some.inj ho
        have ev : a.tmps[19]?.getD undef = .agg #[.int .i64 (Tm.base m), .int .i64 (Tm.com m), .slice (Tm.ra m) (Tm.rn m) (Tm.rc m), .slice (Tm.wa m) (Tm.wn m) (Tm.wc m)] := by rw [ha, e2 (hd ⟨2, .data⟩ (by simp) rfl)]; kernel_rfl
        refine wp_enter (f := 11) (args := #[.agg #[.int .i64 (Tm.base m), .int .i64 (Tm.com m), .slice (Tm.ra m) (Tm.rn m) (Tm.rc m), .slice (Tm.wa m) (Tm.wn m) (Tm.wc m)]]) (by simp [execOp, ev, go_sem]) ?_
        refine (one_any (hin.below hB) hmr hmw).mono ?_
        rintro e w6 ⟨mm', rfl, hmd, _, _, SM, B6⟩
        refine ⟨_, rfl, ?_⟩
        exact ⟨v17, v18, v19, (.agg #[.int .i64 (Tm.base mm'), .int .i64 (Tm.com mm'), .slice (Tm.ra mm') (Tm.rn mm') (Tm.rc mm'), .slice (Tm.wa mm') (Tm.wn mm') (Tm.wc mm')]), v21, v16, v22, v23, v5, v6, ga, gn, gc, gm, mm', by rw [ha]; kernel_rfl, below_size hB hB.size B6, fun h => e0 (h.resolve_left (by decide)), fun h => e1 (h.resolve_left (by decide)), fun h => e2 (h.resolve_left (by decide)), fun _ => rfl, fun h => e4 (h.resolve_left (by decide)), fun h => e5 (h.resolve_left (by decide)), fun h => e6 (h.resolve_left (by decide)), fun h => e7 (h.resolve_left (by decide)), fun h => e8 (h.resolve_left (by decide)), fun h => e9 (h.resolve_left (by decide)), fun h => ⟨(hG (h.resolve_left (by decide))).1.below B6, (hG (h.resolve_left (by decide))).2⟩, fun _ => ⟨SM.inn, hmd⟩⟩
      | 4, ho =>
        cases Option.some.inj ho
        have ev : a.tmps[18]?.getD undef = .slice ga gn gc := by rw [ha, e1 (hd ⟨1, .data⟩ (by simp) rfl)]; kernel_rfl
        have ev' : a.tmps[20]?.getD undef = .agg #[.int .i64 (Tm.base mm), .int .i64 (Tm.com mm), .slice (Tm.ra mm) (Tm.rn mm) (Tm.rc mm), .slice (Tm.wa mm) (Tm.wn mm) (Tm.wc mm)] := by rw [ha, e3 (hd ⟨3, .data⟩ (by simp) rfl)]; kernel_rfl
        obtain ⟨G1, G2⟩ := hG (hd ⟨1, .data⟩ (by simp) rfl)
        obtain ⟨M1, M2⟩ := hM (hd ⟨3, .data⟩ (by simp) rfl)
        have hck := check_as hI.size hdn hsh G1 G2 hin M1 M2 hmr hmw
        rw [hr0.out] at hck
        unfold chkV at hck
        refine wp_enter (f := 10) (args := #[.slice ga gn gc, .agg #[.int .i64 (Tm.base mm), .int .i64 (Tm.com mm), .slice (Tm.ra mm) (Tm.rn mm) (Tm.rc mm), .slice (Tm.wa mm) (Tm.wn mm) (Tm.wc mm)]]) (by simp [execOp, ev, ev', go_sem]) ?_
        refine (hck).mono ?_
        rintro e w6 ⟨rfl, B6⟩
        refine ⟨_, rfl, ?_⟩
        exact ⟨v17, v18, v19, v20, (.tuple #[.int .i64 (r0.getD 0), .int .i64 (eN r0)]), v16, v22, v23, v5, v6, ga, gn, gc, gm, mm, by rw [ha]; kernel_rfl, below_size hB hB.size B6, fun h => e0 (h.resolve_left (by decide)), fun h => e1 (h.resolve_left (by decide)), fun h => e2 (h.resolve_left (by decide)), fun h => e3 (h.resolve_left (by decide)), fun _ => rfl, fun h => e5 (h.resolve_left (by decide)), fun h => e6 (h.resolve_left (by decide)), fun h => e7 (h.resolve_left (by decide)), fun h => e8 (h.resolve_left (by decide)), fun h => e9 (h.resolve_left (by decide)), fun h => ⟨(hG (h.resolve_left (by decide))).1.below B6, (hG (h.resolve_left (by decide))).2⟩, fun h => ⟨(hM (h.resolve_left (by decide))).1.below B6, (hM (h.resolve_left (by decide))).2⟩⟩
      | 5, ho =>
        cases Option.some.inj ho
        have ev : a.tmps[21]?.getD undef = .tuple #[.int .i64 (r0.getD 0), .int .i64 (eN r0)] := by rw [ha, e4 (hd ⟨4, .data⟩ (by simp) rfl)]; kernel_rfl
        refine wp_value (w' := w') (v := .tuple #[.int .i64 (r0.getD 0), .int .i64 (eN r0)]) (by simp [execOp, ev, go_sem]) ?_
        exact ⟨v17, v18, v19, v20, v21, (.tuple #[.int .i64 (r0.getD 0), .int .i64 (eN r0)]), v22, v23, v5, v6, ga, gn, gc, gm, mm, by rw [ha]; kernel_rfl, hB, fun h => e0 (h.resolve_left (by decide)), fun h => e1 (h.resolve_left (by decide)), fun h => e2 (h.resolve_left (by decide)), fun h => e3 (h.resolve_left (by decide)), fun h => e4 (h.resolve_left (by decide)), fun _ => rfl, fun h => e6 (h.resolve_left (by decide)), fun h => e7 (h.resolve_left (by decide)), fun h => e8 (h.resolve_left (by decide)), fun h => e9 (h.resolve_left (by decide)), fun h => hG (h.resolve_left (by decide)), fun h => hM (h.resolve_left (by decide))⟩
      | 6, ho =>
        cases Option.some.inj ho
        have ev : a.tmps[16]?.getD undef = .tuple #[.int .i64 (r0.getD 0), .int .i64 (eN r0)] := by rw [ha, e5 (hd ⟨5, .data⟩ (by simp) rfl)]; kernel_rfl
        refine wp_value (w' := w') (v := .int .i64 (r0.getD 0)) (by simp [execOp, ev, go_sem]) ?_
        exact ⟨v17, v18, v19, v20, v21, v16, (.int .i64 (r0.getD 0)), v23, v5, v6, ga, gn, gc, gm, mm, by rw [ha]; kernel_rfl, hB, fun h => e0 (h.resolve_left (by decide)), fun h => e1 (h.resolve_left (by decide)), fun h => e2 (h.resolve_left (by decide)), fun h => e3 (h.resolve_left (by decide)), fun h => e4 (h.resolve_left (by decide)), fun h => e5 (h.resolve_left (by decide)), fun _ => rfl, fun h => e7 (h.resolve_left (by decide)), fun h => e8 (h.resolve_left (by decide)), fun h => e9 (h.resolve_left (by decide)), fun h => hG (h.resolve_left (by decide)), fun h => hM (h.resolve_left (by decide))⟩
      | 7, ho =>
        cases Option.some.inj ho
        have ev : a.tmps[16]?.getD undef = .tuple #[.int .i64 (r0.getD 0), .int .i64 (eN r0)] := by rw [ha, e5 (hd ⟨5, .data⟩ (by simp) rfl)]; kernel_rfl
        refine wp_value (w' := w') (v := .int .i64 (eN r0)) (by simp [execOp, ev, go_sem]) ?_
        exact ⟨v17, v18, v19, v20, v21, v16, v22, (.int .i64 (eN r0)), v5, v6, ga, gn, gc, gm, mm, by rw [ha]; kernel_rfl, hB, fun h => e0 (h.resolve_left (by decide)), fun h => e1 (h.resolve_left (by decide)), fun h => e2 (h.resolve_left (by decide)), fun h => e3 (h.resolve_left (by decide)), fun h => e4 (h.resolve_left (by decide)), fun h => e5 (h.resolve_left (by decide)), fun h => e6 (h.resolve_left (by decide)), fun _ => rfl, fun h => e8 (h.resolve_left (by decide)), fun h => e9 (h.resolve_left (by decide)), fun h => hG (h.resolve_left (by decide)), fun h => hM (h.resolve_left (by decide))⟩
      | 8, ho =>
        cases Option.some.inj ho
        have ev : a.tmps[22]?.getD undef = .int .i64 (r0.getD 0) := by rw [ha, e6 (hd ⟨6, .data⟩ (by simp) rfl)]; kernel_rfl
        refine wp_value (w' := w') (v := .int .i64 (r0.getD 0)) (by simp [execOp, ev, go_sem]) ?_
        exact ⟨v17, v18, v19, v20, v21, v16, v22, v23, (.int .i64 (r0.getD 0)), v6, ga, gn, gc, gm, mm, by rw [ha]; kernel_rfl, hB, fun h => e0 (h.resolve_left (by decide)), fun h => e1 (h.resolve_left (by decide)), fun h => e2 (h.resolve_left (by decide)), fun h => e3 (h.resolve_left (by decide)), fun h => e4 (h.resolve_left (by decide)), fun h => e5 (h.resolve_left (by decide)), fun h => e6 (h.resolve_left (by decide)), fun h => e7 (h.resolve_left (by decide)), fun _ => rfl, fun h => e9 (h.resolve_left (by decide)), fun h => hG (h.resolve_left (by decide)), fun h => hM (h.resolve_left (by decide))⟩
      | 9, ho =>
        cases Option.some.inj ho
        have ev : a.tmps[23]?.getD undef = .int .i64 (eN r0) := by rw [ha, e7 (hd ⟨7, .data⟩ (by simp) rfl)]; kernel_rfl
        refine wp_value (w' := w') (v := .int .i64 (eN r0)) (by simp [execOp, ev, go_sem]) ?_
        exact ⟨v17, v18, v19, v20, v21, v16, v22, v23, v5, (.int .i64 (eN r0)), ga, gn, gc, gm, mm, by rw [ha]; kernel_rfl, hB, fun h => e0 (h.resolve_left (by decide)), fun h => e1 (h.resolve_left (by decide)), fun h => e2 (h.resolve_left (by decide)), fun h => e3 (h.resolve_left (by decide)), fun h => e4 (h.resolve_left (by decide)), fun h => e5 (h.resolve_left (by decide)), fun h => e6 (h.resolve_left (by decide)), fun h => e7 (h.resolve_left (by decide)), fun h => e8 (h.resolve_left (by decide)), fun _ => rfl, fun h => hG (h.resolve_left (by decide)), fun h => hM (h.resolve_left (by decide))⟩
      | i + 10, ho => simp at ho
    case done =>
      rintro D a w' ⟨v17, v18, v19, v20, v21, v16, v22, v23, v5, v6, ga, gn, gc, gm, mm, ha, hB, e0, e1, e2, e3, e4, e5, e6, e7, e8, e9, hG, hM⟩ hall
      obtain rfl := e0 (hall 0 (by decide))
      obtain rfl := e1 (hall 1 (by decide))
      obtain rfl := e2 (hall 2 (by decide))
      obtain rfl := e3 (hall 3 (by decide))
      obtain rfl := e4 (hall 4 (by decide))
      obtain rfl := e5 (hall 5 (by decide))
      obtain rfl := e6 (hall 6 (by decide))
      obtain rfl := e7 (hall 7 (by decide))
      obtain rfl := e8 (hall 8 (by decide))
      obtain rfl := e9 (hall 9 (by decide))
      clear hG hM hall e0 e1 e2 e3 e4 e5 e6 e7 e8 e9
      rw [ha]
      clear ha
      simp only [Act.put, List.setIfInBounds_toArray, List.set_cons_zero, List.set_cons_succ]
      have hB1 := B1.trans (hB.mono B1.size)
      have hE1 := (hB.block _ hwl1).trans E1
      clear y0 y1 y2 y3 hin0 hwl hI
      have hI2 := hI1.below hB
      have hin2 := hin1.below hB
      have hwl2 := lt_of_block hE1
      clear hI1 hin1 E1 hwl1 B1 hB
      obtain ⟨n0, hn0⟩ : ∃ n0, Hid (r0.getD 0 = n0) := ⟨_, rfl⟩
      obtain ⟨e0, he0⟩ : ∃ e0, Hid (eN r0 = e0) := ⟨_, rfl⟩
      rw [hn0.out, he0.out]
      go_wp2
      go_loopw [7, 8, 9] (fun bv av iv wr => ∃ (k : Nat) (z : Int) (bb : Bool), k ≤ dn ∧ iv = .int .i64 (k : Int) ∧ bv = .int .i64 z ∧ av = .bool bb ∧ AccI ms m k z bb ∧ Below w'.heap.size w' wr) (fun _ _ iv _ => dn - (intOf iv).toNat)
      case atStart => exact ⟨0, 0, false, by omega, rfl, rfl, rfl, AccI.start, Below.refl _ _⟩
      case round =>
        obtain ⟨k, z, bb, hk, rfl, rfl, rfl, hac, B⟩ := hrel
        have E2 := (B.block _ hwl2).trans hE1
        have B5 := hB1.trans (B.mono hB1.size)
        by_cases hlt : k < dn
        · obtain ⟨b, off, x, rfl, _, _, _, _, _, hx, hxin⟩ := (hI2.below B).at_ k hlt
          have hkI : (k : Int) < (dn : Int) := by omega
          obtain ⟨y0, y1, y2, y3, _⟩ := tx_cells E2
          have hin := hin2.below B
          have hwl := Nat.lt_of_lt_of_le hwl2 B.size
          have hIk := (hI2.below B).sub1 hx.out
          have hroom := hI2.room
          have h1n : 1 ≤ 1048576 := by decide
          have hshk : Short [x] := fun z hz => by rw [List.mem_singleton] at hz; subst hz; exact hsh z (List.mem_of_getElem? hx.out)
          have hin0 := hIk.each
          obtain ⟨r1, hr1⟩ : ∃ r1, Hid (chkR ([x].map Tm.d) m.base m.rs m.ws = r1) := ⟨_, rfl⟩
          have hw1 : IntKind.i64.wrap ((k : Int) + 1) = (k : Int) + 1 := by rw [IntKind.wrap_i64]; omega
          have hs1 : (0 : Int) ≤ (k : Int) := by omega
          have hs2 : (k : Int) ≤ (k : Int) + 1 := by omega
          have hs3 : (k : Int) + 1 ≤ (dc : Int) := by omega
          have hs4 : ((k : Int) + 1).toNat = k + 1 := by omega
          have hs5 : k + 1 - k = 1 := by omega
          have hs6 : ¬ dc = k := by omega
          clear hxin E2
          go_upto_region 9 with fail
          refine wp_region_inv' (fun A D a w' => ∃ v31 v32 v33 v34 v35 v36 v37 v38 v39 v30 v40 v41 v10 v11 ga gn gc gm mm, a = ((((((((((((((A.put (some 31) v31).put (some 32) v32).put (some 33) v33).put (some 34) v34).put (some 35) v35).put (some 36) v36).put (some 37) v37).put (some 38) v38).put (some 39) v39).put (some 30) v30).put (some 40) v40).put (some 41) v41).put (some 10) v10).put (some 11) v11) ∧ Below wr.heap.size wr w' ∧ (D 0 → v31 = .slice (some ⟨b, off, none⟩) dn dc) ∧ (D 1 → v32 = .int .i64 (k : Int)) ∧ (D 2 → v33 = .int .i64 (k : Int)) ∧ (D 3 → v34 = .int .i64 ((k : Int) + 1)) ∧ (D 4 → v35 = .slice (some ⟨b, off + k * 4, none⟩) 1 (dc - k)) ∧ (D 5 → v36 = .slice ga gn gc) ∧ (D 6 → v37 = .agg #[.int .i64 (Tm.base m), .int .i64 (Tm.com m), .slice (Tm.ra m) (Tm.rn m) (Tm.rc m), .slice (Tm.wa m) (Tm.wn m) (Tm.wc m)]) ∧ (D 7 → v38 = .agg #[.int .i64 (Tm.base mm), .int .i64 (Tm.com mm), .slice (Tm.ra mm) (Tm.rn mm) (Tm.rc mm), .slice (Tm.wa mm) (Tm.wn mm) (Tm.wc mm)]) ∧ (D 8 → v39 = .tuple #[.int .i64 (r1.getD 0), .int .i64 (eN r1)]) ∧ (D 9 → v30 = .tuple #[.int .i64 (r1.getD 0), .int .i64 (eN r1)]) ∧ (D 10 → v40 = .int .i64 (r1.getD 0)) ∧ (D 11 → v41 = .int .i64 (eN r1)) ∧ (D 12 → v10 = .int .i64 (r1.getD 0)) ∧ (D 13 → v11 = .int .i64 (eN r1)) ∧ (D 5 → IsTs w' ga gn gc gm ∧ List.map Tm.d gm = [x].map Tm.d) ∧ (D 7 → Tm.In w' mm ∧ Tm.d mm = m.d)) (by kernel_rfl) (by kernel_rfl) ?mono ?start ?step ?done
          case mono =>
            rintro D D' a w' hD ⟨v31, v32, v33, v34, v35, v36, v37, v38, v39, v30, v40, v41, v10, v11, ga, gn, gc, gm, mm, ha, hB, e0, e1, e2, e3, e4, e5, e6, e7, e8, e9, e10, e11, e12, e13, hG, hM⟩
            exact ⟨v31, v32, v33, v34, v35, v36, v37, v38, v39, v30, v40, v41, v10, v11, ga, gn, gc, gm, mm, ha, hB, fun h => e0 ((hD 0).2 h), fun h => e1 ((hD 1).2 h), fun h => e2 ((hD 2).2 h), fun h => e3 ((hD 3).2 h), fun h => e4 ((hD 4).2 h), fun h => e5 ((hD 5).2 h), fun h => e6 ((hD 6).2 h), fun h => e7 ((hD 7).2 h), fun h => e8 ((hD 8).2 h), fun h => e9 ((hD 9).2 h), fun h => e10 ((hD 10).2 h), fun h => e11 ((hD 11).2 h), fun h => e12 ((hD 12).2 h), fun h => e13 ((hD 13).2 h), fun h => hG ((hD 5).2 h), fun h => hM ((hD 7).2 h)⟩
          case start => exact ⟨u31, u32, u33, u34, u35, u36, u37, u38, u39, u30, u40, u41, u10, u11, none, 0, 0, [], default, by kernel_rfl, (Below.refl _ _).drew, fun h => h.elim, fun h => h.elim, fun h => h.elim, fun h => h.elim, fun h => h.elim, fun h => h.elim, fun h => h.elim, fun h => h.elim, fun h => h.elim, fun h => h.elim, fun h => h.elim, fun h => h.elim, fun h => h.elim, fun h => h.elim, fun h => h.elim, fun h => h.elim⟩
          case step =>
            intro i o ho D a w' hI hn hcl hd
            obtain ⟨v31, v32, v33, v34, v35, v36, v37, v38, v39, v30, v40, v41, v10, v11, ga, gn, gc, gm, mm, ha, hB, e0, e1, e2, e3, e4, e5, e6, e7, e8, e9, e10, e11, e12, e13, hG, hM⟩ := hI
            match i, ho with
            | 0, ho =>
              cases Option.some.inj ho
              have ev : a.tmps[0]?.getD undef = .slice (some ⟨b, off, none⟩) dn dc := by rw [ha]; kernel_rfl
              refine wp_value (w' := w') (v := .slice (some ⟨b, off, none⟩) dn dc) (by simp [execOp, ev, go_sem]) ?_
              exact ⟨(.slice (some ⟨b, off, none⟩) dn dc), v32, v33, v34, v35, v36, v37, v38, v39, v30, v40, v41, v10, v11, ga, gn, gc, gm, mm, by rw [ha]; kernel_rfl, hB, fun _ => rfl, fun h => e1 (h.resolve_left (by decide)), fun h => e2 (h.resolve_left (by decide)), fun h => e3 (h.resolve_left (by decide)), fun h => e4 (h.resolve_left (by decide)), fun h => e5 (h.resolve_left (by decide)), fun h => e6 (h.resolve_left (by decide)), fun h => e7 (h.resolve_left (by decide)), fun h => e8 (h.resolve_left (by decide)), fun h => e9 (h.resolve_left (by decide)), fun h => e10 (h.resolve_left (by decide)), fun h => e11 (h.resolve_left (by decide)), fun h => e12 (h.resolve_left (by decide)), fun h => e13 (h.resolve_left (by decide)), fun h => hG (h.resolve_left (by decide)), fun h => hM (h.resolve_left (by decide))⟩
            | 1, ho =>
              cases Option.some.inj ho
              have ev : a.tmps[9]?.getD undef = .int .i64 (k : Int) := by rw [ha]; kernel_rfl
              refine wp_value (w' := w') (v := .int .i64 (k : Int)) (by simp [execOp, ev, go_sem]) ?_
              exact ⟨v31, (.int .i64 (k : Int)), v33, v34, v35, v36, v37, v38, v39, v30, v40, v41, v10, v11, ga, gn, gc, gm, mm, by rw [ha]; kernel_rfl, hB, fun h => e0 (h.resolve_left (by decide)), fun _ => rfl, fun h => e2 (h.resolve_left (by decide)), fun h => e3 (h.resolve_left (by decide)), fun h => e4 (h.resolve_left (by decide)), fun h => e5 (h.resolve_left (by decide)), fun h => e6 (h.resolve_left (by decide)), fun h => e7 (h.resolve_left (by decide)), fun h => e8 (h.resolve_left (by decide)), fun h => e9 (h.resolve_left (by decide)), fun h => e10 (h.resolve_left (by decide)), fun h => e11 (h.resolve_left (by decide)), fun h => e12 (h.resolve_left (by decide)), fun h => e13 (h.resolve_left (by decide)), fun h => hG (h.resolve_left (by decide)), fun h => hM (h.resolve_left (by decide))⟩
            | 2, ho =>
              cases Option.some.inj ho
              have ev : a.tmps[9]?.getD undef = .int .i64 (k : Int) := by rw [ha]; kernel_rfl
              refine wp_value (w' := w') (v := .int .i64 (k : Int)) (by simp [execOp, ev, go_sem]) ?_
              exact ⟨v31, v32, (.int .i64 (k : Int)), v34, v35, v36, v37, v38, v39, v30, v40, v41, v10, v11, ga, gn, gc, gm, mm, by rw [ha]; kernel_rfl, hB, fun h => e0 (h.resolve_left (by decide)), fun h => e1 (h.resolve_left (by decide)), fun _ => rfl, fun h => e3 (h.resolve_left (by decide)), fun h => e4 (h.resolve_left (by decide)), fun h => e5 (h.resolve_left (by decide)), fun h => e6 (h.resolve_left (by decide)), fun h => e7 (h.resolve_left (by decide)), fun h => e8 (h.resolve_left (by decide)), fun h => e9 (h.resolve_left (by decide)), fun h => e10 (h.resolve_left (by decide)), fun h => e11 (h.resolve_left (by decide)), fun h => e12 (h.resolve_left (by decide)), fun h => e13 (h.resolve_left (by decide)), fun h => hG (h.resolve_left (by decide)), fun h => hM (h.resolve_left (by decide))⟩
            | 3, ho =>
              cases Option.some.inj ho
              have ev : a.tmps[33]?.getD undef = .int .i64 (k : Int) := by rw [ha, e2 (hd ⟨2, .data⟩ (by simp) rfl)]; kernel_rfl
              refine wp_value (w' := w') (v := .int .i64 ((k : Int) + 1)) (by simp [execOp, ev, go_sem, hw1]) ?_
              exact ⟨v31, v32, v33, (.int .i64 ((k : Int) + 1)), v35, v36, v37, v38, v39, v30, v40, v41, v10, v11, ga, gn, gc, gm, mm, by rw [ha]; kernel_rfl, hB, fun h => e0 (h.resolve_left (by decide)), fun h => e1 (h.resolve_left (by decide)), fun h => e2 (h.resolve_left (by decide)), fun _ => rfl, fun h => e4 (h.resolve_left (by decide)), fun h => e5 (h.resolve_left (by decide)), fun h => e6 (h.resolve_left (by decide)), fun h => e7 (h.resolve_left (by decide)), fun h => e8 (h.resolve_left (by decide)), fun h => e9 (h.resolve_left (by decide)), fun h => e10 (h.resolve_left (by decide)), fun h => e11 (h.resolve_left (by decide)), fun h => e12 (h.resolve_left (by decide)), fun h => e13 (h.resolve_left (by decide)), fun h => hG (h.resolve_left (by decide)), fun h => hM (h.resolve_left (by decide))⟩
            | 4, ho =>
              cases Option.some.inj ho
              have ev : a.tmps[31]?.getD undef = .slice (some ⟨b, off, none⟩) dn dc := by rw [ha, e0 (hd ⟨0, .data⟩ (by simp) rfl)]; kernel_rfl
              have ev' : a.tmps[32]?.getD undef = .int .i64 (k : Int) := by rw [ha, e1 (hd ⟨1, .data⟩ (by simp) rfl)]; kernel_rfl
              have ev'' : a.tmps[34]?.getD undef = .int .i64 ((k : Int) + 1) := by rw [ha, e3 (hd ⟨3, .data⟩ (by simp) rfl)]; kernel_rfl
              refine wp_value (w' := w') (v := .slice (some ⟨b, off + k * 4, none⟩) 1 (dc - k)) (by simp [execOp, ev, ev', ev'', go_sem, hs1, hs2, hs3, hs4, hs5, hs6]) ?_
              exact ⟨v31, v32, v33, v34, (.slice (some ⟨b, off + k * 4, none⟩) 1 (dc - k)), v36, v37, v38, v39, v30, v40, v41, v10, v11, ga, gn, gc, gm, mm, by rw [ha]; kernel_rfl, hB, fun h => e0 (h.resolve_left (by decide)), fun h => e1 (h.resolve_left (by decide)), fun h => e2 (h.resolve_left (by decide)), fun h => e3 (h.resolve_left (by decide)), fun _ => rfl, fun h => e5 (h.resolve_left (by decide)), fun h => e6 (h.resolve_left (by decide)), fun h => e7 (h.resolve_left (by decide)), fun h => e8 (h.resolve_left (by decide)), fun h => e9 (h.resolve_left (by decide)), fun h => e10 (h.resolve_left (by decide)), fun h => e11 (h.resolve_left (by decide)), fun h => e12 (h.resolve_left (by decide)), fun h => e13 (h.resolve_left (by decide)), fun h => hG (h.resolve_left (by decide)), fun h => hM (h.resolve_left (by decide))⟩
            | 5, ho =>
              cases Option.some.inj ho
              have ev : a.tmps[35]?.getD undef = .slice (some ⟨b, off + k * 4, none⟩) 1 (dc - k) := by rw [ha, e4 (hd ⟨4, .data⟩ (by simp) rfl)]; kernel_rfl
              refine wp_enter (f := 9) (args := #[.slice (some ⟨b, off + k * 4, none⟩) 1 (dc - k)]) (by simp [execOp, ev, go_sem]) ?_
              refine (given_any (hIk.below hB) h1n hshk).mono ?_
              rintro e w6 ⟨ga', gn', gc', gm', rfl, OG, hgd, B6⟩
              refine ⟨_, rfl, ?_⟩
              exact ⟨v31, v32, v33, v34, v35, (.slice ga' gn' gc'), v37, v38, v39, v30, v40, v41, v10, v11, ga', gn', gc', gm', mm, by rw [ha]; kernel_rfl, below_size hB hB.size B6, fun h => e0 (h.resolve_left (by decide)), fun h => e1 (h.resolve_left (by decide)), fun h => e2 (h.resolve_left (by decide)), fun h => e3 (h.resolve_left (by decide)), fun h => e4 (h.resolve_left (by decide)), fun _ => rfl, fun h => e6 (h.resolve_left (by decide)), fun h => e7 (h.resolve_left (by decide)), fun h => e8 (h.resolve_left (by decide)), fun h => e9 (h.resolve_left (by decide)), fun h => e10 (h.resolve_left (by decide)), fun h => e11 (h.resolve_left (by decide)), fun h => e12 (h.resolve_left (by decide)), fun h => e13 (h.resolve_left (by decide)), fun _ => ⟨OG.isTs, hgd⟩, fun h => ⟨(hM (h.resolve_left (by decide))).1.below B6, (hM (h.resolve_left (by decide))).2⟩⟩
            | 6, ho =>
              cases Option.some.inj ho
              have ev : a.tmps[3]?.getD undef = .pointer (some ⟨w.heap.size, 0, none⟩) := by rw [ha]; kernel_rfl
              have z0 := (hB.cell (p := ⟨w.heap.size, 0, none⟩) hwl).trans y0
              have z1 := (hB.cell (p := ⟨w.heap.size, 1, none⟩) hwl).trans y1
              have z2 := (hB.cell (p := ⟨w.heap.size, 2, none⟩) hwl).trans y2
              have z3 := (hB.cell (p := ⟨w.heap.size, 3, none⟩) hwl).trans y3
              refine wp_value (w' := w') (v := .agg #[.int .i64 (Tm.base m), .int .i64 (Tm.com m), .slice (Tm.ra m) (Tm.rn m) (Tm.rc m), .slice (Tm.wa m) (Tm.wn m) (Tm.wc m)]) (by simp [execOp, ev, go_sem, z0, z1, z2, z3]) ?_
              exact ⟨v31, v32, v33, v34, v35, v36, (.agg #[.int .i64 (Tm.base m), .int .i64 (Tm.com m), .slice (Tm.ra m) (Tm.rn m) (Tm.rc m), .slice (Tm.wa m) (Tm.wn m) (Tm.wc m)]), v38, v39, v30, v40, v41, v10, v11, ga, gn, gc, gm, mm, by rw [ha]; kernel_rfl, hB, fun h => e0 (h.resolve_left (by decide)), fun h => e1 (h.resolve_left (by decide)), fun h => e2 (h.resolve_left (by decide)), fun h => e3 (h.resolve_left (by decide)), fun h => e4 (h.resolve_left (by decide)), fun h => e5 (h.resolve_left (by decide)), fun _ => rfl, fun h => e7 (h.resolve_left (by decide)), fun h => e8 (h.resolve_left (by decide)), fun h => e9 (h.resolve_left (by decide)), fun h => e10 (h.resolve_left (by decide)), fun h => e11 (h.resolve_left (by decide)), fun h => e12 (h.resolve_left (by decide)), fun h => e13 (h.resolve_left (by decide)), fun h => hG (h.resolve_left (by decide)), fun h => hM (h.resolve_left (by decide))⟩
            | 7, ho =>
              cases Option.some.inj ho
              have ev : a.tmps[37]?.getD undef = .agg #[.int .i64 (Tm.base m), .int .i64 (Tm.com m), .slice (Tm.ra m) (Tm.rn m) (Tm.rc m), .slice (Tm.wa m) (Tm.wn m) (Tm.wc m)] := by rw [ha, e6 (hd ⟨6, .data⟩ (by simp) rfl)]; kernel_rfl
              refine wp_enter (f := 11) (args := #[.agg #[.int .i64 (Tm.base m), .int .i64 (Tm.com m), .slice (Tm.ra m) (Tm.rn m) (Tm.rc m), .slice (Tm.wa m) (Tm.wn m) (Tm.wc m)]]) (by simp [execOp, ev, go_sem]) ?_
              refine (one_any (hin.below hB) hmr hmw).mono ?_
              rintro e w6 ⟨mm', rfl, hmd, _, _, SM, B6⟩
              refine ⟨_, rfl, ?_⟩
              exact ⟨v31, v32, v33, v34, v35, v36, v37, (.agg #[.int .i64 (Tm.base mm'), .int .i64 (Tm.com mm'), .slice (Tm.ra mm') (Tm.rn mm') (Tm.rc mm'), .slice (Tm.wa mm') (Tm.wn mm') (Tm.wc mm')]), v39, v30, v40, v41, v10, v11, ga, gn, gc, gm, mm', by rw [ha]; kernel_rfl, below_size hB hB.size B6, fun h => e0 (h.resolve_left (by decide)), fun h => e1 (h.resolve_left (by decide)), fun h => e2 (h.resolve_left (by decide)), fun h => e3 (h.resolve_left (by decide)), fun h => e4 (h.resolve_left (by decide)), fun h => e5 (h.resolve_left (by decide)), fun h => e6 (h.resolve_left (by decide)), fun _ => rfl, fun h => e8 (h.resolve_left (by decide)), fun h => e9 (h.resolve_left (by decide)), fun h => e10 (h.resolve_left (by decide)), fun h => e11 (h.resolve_left (by decide)), fun h => e12 (h.resolve_left (by decide)), fun h => e13 (h.resolve_left (by decide)), fun h => ⟨(hG (h.resolve_left (by decide))).1.below B6, (hG (h.resolve_left (by decide))).2⟩, fun _ => ⟨SM.inn, hmd⟩⟩
            | 8, ho =>
              cases Option.some.inj ho
              have ev : a.tmps[36]?.getD undef = .slice ga gn gc := by rw [ha, e5 (hd ⟨5, .data⟩ (by simp) rfl)]; kernel_rfl
              have ev' : a.tmps[38]?.getD undef = .agg #[.int .i64 (Tm.base mm), .int .i64 (Tm.com mm), .slice (Tm.ra mm) (Tm.rn mm) (Tm.rc mm), .slice (Tm.wa mm) (Tm.wn mm) (Tm.wc mm)] := by rw [ha, e7 (hd ⟨7, .data⟩ (by simp) rfl)]; kernel_rfl
              obtain ⟨G1, G2⟩ := hG (hd ⟨5, .data⟩ (by simp) rfl)
              obtain ⟨M1, M2⟩ := hM (hd ⟨7, .data⟩ (by simp) rfl)
              have hck := check_as hIk.size h1n hshk G1 G2 hin M1 M2 hmr hmw
              rw [hr1.out] at hck
              unfold chkV at hck
              refine wp_enter (f := 10) (args := #[.slice ga gn gc, .agg #[.int .i64 (Tm.base mm), .int .i64 (Tm.com mm), .slice (Tm.ra mm) (Tm.rn mm) (Tm.rc mm), .slice (Tm.wa mm) (Tm.wn mm) (Tm.wc mm)]]) (by simp [execOp, ev, ev', go_sem]) ?_
              refine (hck).mono ?_
              rintro e w6 ⟨rfl, B6⟩
              refine ⟨_, rfl, ?_⟩
              exact ⟨v31, v32, v33, v34, v35, v36, v37, v38, (.tuple #[.int .i64 (r1.getD 0), .int .i64 (eN r1)]), v30, v40, v41, v10, v11, ga, gn, gc, gm, mm, by rw [ha]; kernel_rfl, below_size hB hB.size B6, fun h => e0 (h.resolve_left (by decide)), fun h => e1 (h.resolve_left (by decide)), fun h => e2 (h.resolve_left (by decide)), fun h => e3 (h.resolve_left (by decide)), fun h => e4 (h.resolve_left (by decide)), fun h => e5 (h.resolve_left (by decide)), fun h => e6 (h.resolve_left (by decide)), fun h => e7 (h.resolve_left (by decide)), fun _ => rfl, fun h => e9 (h.resolve_left (by decide)), fun h => e10 (h.resolve_left (by decide)), fun h => e11 (h.resolve_left (by decide)), fun h => e12 (h.resolve_left (by decide)), fun h => e13 (h.resolve_left (by decide)), fun h => ⟨(hG (h.resolve_left (by decide))).1.below B6, (hG (h.resolve_left (by decide))).2⟩, fun h => ⟨(hM (h.resolve_left (by decide))).1.below B6, (hM (h.resolve_left (by decide))).2⟩⟩
            | 9, ho =>
              cases Option.some.inj ho
              have ev : a.tmps[39]?.getD undef = .tuple #[.int .i64 (r1.getD 0), .int .i64 (eN r1)] := by rw [ha, e8 (hd ⟨8, .data⟩ (by simp) rfl)]; kernel_rfl
              refine wp_value (w' := w') (v := .tuple #[.int .i64 (r1.getD 0), .int .i64 (eN r1)]) (by simp [execOp, ev, go_sem]) ?_
              exact ⟨v31, v32, v33, v34, v35, v36, v37, v38, v39, (.tuple #[.int .i64 (r1.getD 0), .int .i64 (eN r1)]), v40, v41, v10, v11, ga, gn, gc, gm, mm, by rw [ha]; kernel_rfl, hB, fun h => e0 (h.resolve_left (by decide)), fun h => e1 (h.resolve_left (by decide)), fun h => e2 (h.resolve_left (by decide)), fun h => e3 (h.resolve_left (by decide)), fun h => e4 (h.resolve_left (by decide)), fun h => e5 (h.resolve_left (by decide)), fun h => e6 (h.resolve_left (by decide)), fun h => e7 (h.resolve_left (by decide)), fun h => e8 (h.resolve_left (by decide)), fun _ => rfl, fun h => e10 (h.resolve_left (by decide)), fun h => e11 (h.resolve_left (by decide)), fun h => e12 (h.resolve_left (by decide)), fun h => e13 (h.resolve_left (by decide)), fun h => hG (h.resolve_left (by decide)), fun h => hM (h.resolve_left (by decide))⟩
            | 10, ho =>
              cases Option.some.inj ho
              have ev : a.tmps[30]?.getD undef = .tuple #[.int .i64 (r1.getD 0), .int .i64 (eN r1)] := by rw [ha, e9 (hd ⟨9, .data⟩ (by simp) rfl)]; kernel_rfl
              refine wp_value (w' := w') (v := .int .i64 (r1.getD 0)) (by simp [execOp, ev, go_sem]) ?_
              exact ⟨v31, v32, v33, v34, v35, v36, v37, v38, v39, v30, (.int .i64 (r1.getD 0)), v41, v10, v11, ga, gn, gc, gm, mm, by rw [ha]; kernel_rfl, hB, fun h => e0 (h.resolve_left (by decide)), fun h => e1 (h.resolve_left (by decide)), fun h => e2 (h.resolve_left (by decide)), fun h => e3 (h.resolve_left (by decide)), fun h => e4 (h.resolve_left (by decide)), fun h => e5 (h.resolve_left (by decide)), fun h => e6 (h.resolve_left (by decide)), fun h => e7 (h.resolve_left (by decide)), fun h => e8 (h.resolve_left (by decide)), fun h => e9 (h.resolve_left (by decide)), fun _ => rfl, fun h => e11 (h.resolve_left (by decide)), fun h => e12 (h.resolve_left (by decide)), fun h => e13 (h.resolve_left (by decide)), fun h => hG (h.resolve_left (by decide)), fun h => hM (h.resolve_left (by decide))⟩
            | 11, ho =>
              cases Option.some.inj ho
              have ev : a.tmps[30]?.getD undef = .tuple #[.int .i64 (r1.getD 0), .int .i64 (eN r1)] := by rw [ha, e9 (hd ⟨9, .data⟩ (by simp) rfl)]; kernel_rfl
              refine wp_value (w' := w') (v := .int .i64 (eN r1)) (by simp [execOp, ev, go_sem]) ?_
              exact ⟨v31, v32, v33, v34, v35, v36, v37, v38, v39, v30, v40, (.int .i64 (eN r1)), v10, v11, ga, gn, gc, gm, mm, by rw [ha]; kernel_rfl, hB, fun h => e0 (h.resolve_left (by decide)), fun h => e1 (h.resolve_left (by decide)), fun h => e2 (h.resolve_left (by decide)), fun h => e3 (h.resolve_left (by decide)), fun h => e4 (h.resolve_left (by decide)), fun h => e5 (h.resolve_left (by decide)), fun h => e6 (h.resolve_left (by decide)), fun h => e7 (h.resolve_left (by decide)), fun h => e8 (h.resolve_left (by decide)), fun h => e9 (h.resolve_left (by decide)), fun h => e10 (h.resolve_left (by decide)), fun _ => rfl, fun h => e12 (h.resolve_left (by decide)), fun h => e13 (h.resolve_left (by decide)), fun h => hG (h.resolve_left (by decide)), fun h => hM (h.resolve_left (by decide))⟩
            | 12, ho =>
              cases Option.some.inj ho
              have ev : a.tmps[40]?.getD undef = .int .i64 (r1.getD 0) := by rw [ha, e10 (hd ⟨10, .data⟩ (by simp) rfl)]; kernel_rfl
              refine wp_value (w' := w') (v := .int .i64 (r1.getD 0)) (by simp [execOp, ev, go_sem]) ?_
              exact ⟨v31, v32, v33, v34, v35, v36, v37, v38, v39, v30, v40, v41, (.int .i64 (r1.getD 0)), v11, ga, gn, gc, gm, mm, by rw [ha]; kernel_rfl, hB, fun h => e0 (h.resolve_left (by decide)), fun h => e1 (h.resolve_left (by decide)), fun h => e2 (h.resolve_left (by decide)), fun h => e3 (h.resolve_left (by decide)), fun h => e4 (h.resolve_left (by decide)), fun h => e5 (h.resolve_left (by decide)), fun h => e6 (h.resolve_left (by decide)), fun h => e7 (h.resolve_left (by decide)), fun h => e8 (h.resolve_left (by decide)), fun h => e9 (h.resolve_left (by decide)), fun h => e10 (h.resolve_left (by decide)), fun h => e11 (h.resolve_left (by decide)), fun _ => rfl, fun h => e13 (h.resolve_left (by decide)), fun h => hG (h.resolve_left (by decide)), fun h => hM (h.resolve_left (by decide))⟩
            | 13, ho =>
              cases Option.some.inj ho
              have ev : a.tmps[41]?.getD undef = .int .i64 (eN r1) := by rw [ha, e11 (hd ⟨11, .data⟩ (by simp) rfl)]; kernel_rfl
              refine wp_value (w' := w') (v := .int .i64 (eN r1)) (by simp [execOp, ev, go_sem]) ?_
              exact ⟨v31, v32, v33, v34, v35, v36, v37, v38, v39, v30, v40, v41, v10, (.int .i64 (eN r1)), ga, gn, gc, gm, mm, by rw [ha]; kernel_rfl, hB, fun h => e0 (h.resolve_left (by decide)), fun h => e1 (h.resolve_left (by decide)), fun h => e2 (h.resolve_left (by decide)), fun h => e3 (h.resolve_left (by decide)), fun h => e4 (h.resolve_left (by decide)), fun h => e5 (h.resolve_left (by decide)), fun h => e6 (h.resolve_left (by decide)), fun h => e7 (h.resolve_left (by decide)), fun h => e8 (h.resolve_left (by decide)), fun h => e9 (h.resolve_left (by decide)), fun h => e10 (h.resolve_left (by decide)), fun h => e11 (h.resolve_left (by decide)), fun h => e12 (h.resolve_left (by decide)), fun _ => rfl, fun h => hG (h.resolve_left (by decide)), fun h => hM (h.resolve_left (by decide))⟩
            | i + 14, ho => simp at ho
          case done =>
            rintro D a w' ⟨v31, v32, v33, v34, v35, v36, v37, v38, v39, v30, v40, v41, v10, v11, ga, gn, gc, gm, mm, ha, hB, e0, e1, e2, e3, e4, e5, e6, e7, e8, e9, e10, e11, e12, e13, hG, hM⟩ hall
            obtain rfl := e0 (hall 0 (by decide))
            obtain rfl := e1 (hall 1 (by decide))
            obtain rfl := e2 (hall 2 (by decide))
            obtain rfl := e3 (hall 3 (by decide))
            obtain rfl := e4 (hall 4 (by decide))
            obtain rfl := e5 (hall 5 (by decide))
            obtain rfl := e6 (hall 6 (by decide))
            obtain rfl := e7 (hall 7 (by decide))
            obtain rfl := e8 (hall 8 (by decide))
            obtain rfl := e9 (hall 9 (by decide))
            obtain rfl := e10 (hall 10 (by decide))
            obtain rfl := e11 (hall 11 (by decide))
            obtain rfl := e12 (hall 12 (by decide))
            obtain rfl := e13 (hall 13 (by decide))
            clear hG hM hall e0 e1 e2 e3 e4 e5 e6 e7 e8 e9 e10 e11 e12 e13
            rw [ha]
            clear ha
            simp only [Act.put, List.setIfInBounds_toArray, List.set_cons_zero, List.set_cons_succ]
            have B9 := below_size B B.size hB
            clear hB
            cases r1 with
            | none =>
              have hnx := hac.none hx.out hr1.out
              clear hr1 hx hac
              dsimp only [Option.getD, eN, Option.isSome]
              go_wp2
              go_roundw
              case rel => exact ⟨k + 1, z, bb, by omega, by go_num, rfl, rfl, hnx, B9⟩
              case measure => simp [intOf]; omega
            | some q =>
              dsimp only [Option.getD, eN, Option.isSome, if_true]
              cases bb with
              | false =>
                have hnx := hac.first hx.out hr1.out
                clear hr1 hx hac
                go_wp2
                go_roundw
                case rel => exact ⟨k + 1, q, true, by omega, by go_num, rfl, rfl, hnx, B9⟩
                case measure => simp [intOf]; omega
              | true =>
                by_cases hzy : q < z
                · have hnx := hac.less hx.out hr1.out hzy
                  clear hr1 hx hac
                  go_wp2
                  go_roundw
                  case rel => exact ⟨k + 1, q, true, by omega, by go_num, rfl, rfl, hnx, B9⟩
                  case measure => simp [intOf]; omega
                · have hnx := hac.more hx.out hr1.out hzy
                  clear hr1 hx hac
                  go_wp2
                  go_roundw
                  case rel => exact ⟨k + 1, z, true, by omega, by go_num, rfl, rfl, hnx, B9⟩
                  case measure => simp [intOf]; omega
        · have hge : ¬ (k : Int) < (dn : Int) := by omega
          obtain ⟨q1, q2⟩ := hac.fin (by rw [hsz.out]; omega) hr0.out
          have q3 : Hid (n0 = z) := by unfold Hid; rw [← hn0.out, q1]
          have q4 : Hid (e0 = if bb then 30 else 0) := by unfold Hid; rw [← he0.out, q2]
          obtain rfl := q3.out
          have hkn := known_true wr
          clear hac hr0 q1 q2 hn0 he0 q3
          cases bb with
          | false =>
            obtain rfl : e0 = 0 := q4.out
            clear q4
            go_wp2_with fail
            refine hkn.mono ?_
            rintro e w9 ⟨rfl, B10⟩
            have B11 := below_size B5 B5.size B10
            go_wp2
            go_ret
            exact ⟨rfl, B11⟩
          | true =>
            obtain rfl : e0 = 30 := q4.out
            clear q4
            go_wp2_with fail
            refine hkn.mono ?_
            rintro e w9 ⟨rfl, B10⟩
            have B11 := below_size B5 B5.size B10
            go_wp2
            go_ret
            exact ⟨rfl, B11⟩
end Go.Proofs.Ytigmpmichhghdaa
