/- Check: may a transaction commit? -/
import Derived.Test.YtigmpmichhghdaaWrt
namespace Go.Proofs.Ytigmpmichhghdaa
open Go.RowKit
set_option maxRecDepth 100000
/-- What the places of some transactions say. -/
structure Wr (ms : List Tm) (f : Int → List Int) : Prop where
  rise : ∀ o, RiseI (f o)
  len : ∀ o, (f o).length ≤ 900000000
  mem : ∀ o x, x ∈ f o ↔ ∃ m ∈ ms, m.com = x ∧ o ∈ m.ws
theorem writtenW {w : World} {a : Option Addr} {n cap : Nat} {ms : List Tm} (h : IsTs w a n cap ms) (hn : n ≤ 1048576) (hsh : Short ms) :
    Calls Try.prog 27 #[.slice a n cap] w fun e w' => ∃ bp f, e = .returned (.pointer (some ⟨bp, 0, none⟩)) ∧ Pl w' (fun b => w.heap.size ≤ b) bp f ∧ Wr ms f ∧ Below w.heap.size w w' := by
  refine (written_any h hn hsh).mono ?_
  rintro e w' ⟨bp, ms', rfl, hp, hs, P, B⟩
  refine ⟨bp, wrF ms', rfl, P, ⟨wrF_rise ms' hs, fun o => ?_, fun o x => ?_⟩, B⟩
  · have h1 := wrF_len ms' o
    rw [hp.length_eq, h.size] at h1
    omega
  · rw [wrF_mem]
    exact ⟨fun ⟨m, hm, k⟩ => ⟨m, hp.mem_iff.1 hm, k⟩, fun ⟨m, hm, k⟩ => ⟨m, hp.mem_iff.2 hm, k⟩⟩
/-- Does one of some commits, above one number and below another one (if there is one), have an object among its writes? -/
def clB (ds : List Tx) (base : Int) (top : Option Int) (o : Int) : Bool := ds.any (fun d => decide (base < d.com) && (match top with | none => true | some t => decide (d.com < t)) && decide (o ∈ d.ws))
def chkR (ds : List Tx) (base : Int) (rs ws : List Int) : Option Int := leastO ((rs ++ ws).filter (clB ds base none))
def serR (ds : List Tx) (t : Tx) : Option Int := leastO ((t.rs ++ t.ws).filter (clB ds t.base (some t.com)))
theorem abv_some {l : List Int} {c x : Int} (h : abv l c = some x) : x ∈ l ∧ c < x := by
  unfold abv at h
  exact ⟨List.mem_of_find?_eq_some h, by have := List.find?_some h; simpa using this⟩
theorem abv_none {l : List Int} {c : Int} (h : abv l c = none) : ∀ x ∈ l, x ≤ c := by
  unfold abv at h
  rw [List.find?_eq_none] at h
  intro x hx
  have := h x hx
  simp at this
  exact this
theorem abv_least : ∀ {l : List Int} {c x : Int}, RiseI l → abv l c = some x → ∀ y ∈ l, c < y → x ≤ y := by
  intro l
  induction l with
  | nil => intro c x _ h; simp [abv] at h
  | cons z r ih =>
    intro c x hr h y hy hc
    have hr' : RiseI r := fun i j a b hij ha hb => hr (i + 1) (j + 1) a b (by omega) (by simpa using ha) (by simpa using hb)
    unfold abv at h
    rw [List.find?_cons] at h
    by_cases hz : c < z
    · simp [hz] at h
      subst h
      rcases List.mem_cons.1 hy with rfl | hy
      · exact Int.le_refl _
      · obtain ⟨i, hi, he⟩ := List.mem_iff_getElem.1 hy
        have := hr 0 (i + 1) z y (by omega) rfl (by rw [List.getElem?_cons_succ, List.getElem?_eq_getElem hi, he])
        omega
    · simp [hz] at h
      rcases List.mem_cons.1 hy with rfl | hy
      · exact absurd hc hz
      · exact ih hr' h y hy hc
theorem hit_eq {ms : List Tm} {f : Int → List Int} {base : Int} (top : Option Int) (W : Wr ms f) (o : Int) : hit f base (fun x => match top with | none => true | some t => decide (x < t)) o = clB (ms.map Tm.d) base top o := by
  have key : clB (ms.map Tm.d) base top o = true ↔ ∃ x ∈ f o, base < x ∧ (∀ t, top = some t → x < t) := by
    unfold clB
    rw [List.any_eq_true]
    constructor
    · rintro ⟨d, hd, h⟩
      obtain ⟨m, hm, rfl⟩ := List.mem_map.1 hd
      simp only [Bool.and_eq_true, decide_eq_true_eq] at h
      refine ⟨m.com, (W.mem o _).2 ⟨m, hm, rfl, h.2⟩, h.1.1, fun t ht => ?_⟩
      subst ht
      have := h.1.2
      exact of_decide_eq_true this
    · rintro ⟨x, hx, h1, h2⟩
      obtain ⟨m, hm, rfl, ho⟩ := (W.mem o x).1 hx
      refine ⟨m.d, List.mem_map_of_mem hm, ?_⟩
      simp only [Bool.and_eq_true, decide_eq_true_eq]
      refine ⟨⟨h1, ?_⟩, ho⟩
      cases top with
      | none => rfl
      | some t => exact decide_eq_true (h2 t rfl)
  unfold hit
  cases hv : abv (f o) base with
  | none =>
    symm
    rw [Bool.eq_false_iff, Ne, key]
    rintro ⟨x, hx, h1, _⟩
    have := abv_none hv x hx
    omega
  | some x =>
    obtain ⟨hx, h1⟩ := abv_some hv
    cases htop : top with
    | none =>
      subst htop
      symm
      exact key.2 ⟨x, hx, h1, fun t ht => by cases ht⟩
    | some t =>
      subst htop
      by_cases hxt : x < t
      · have : clB (ms.map Tm.d) base (some t) o = true := by rw [key]; exact ⟨x, hx, h1, fun t' ht => by cases ht; exact hxt⟩
        rw [this]
        exact decide_eq_true hxt
      · have : clB (ms.map Tm.d) base (some t) o = false := by
          rw [Bool.eq_false_iff, Ne, key]
          rintro ⟨y, hy, h2, h3⟩
          have := abv_least (W.rise o) hv y hy h2
          have := h3 t rfl
          omega
        rw [this]
        exact decide_eq_false hxt
theorem chk_eq {ms : List Tm} {f : Int → List Int} {base : Int} {rs ws : List Int} (W : Wr ms f) : aheadR f base rs ws (fun _ => true) = chkR (ms.map Tm.d) base rs ws := by
  unfold aheadR chkR
  congr 1
  exact List.filter_congr (fun o _ => hit_eq none W o)
theorem ser_eq {ms : List Tm} {f : Int → List Int} {t : Tx} (W : Wr ms f) : aheadR f t.base t.rs t.ws (fun x => decide (x < t.com)) = serR (ms.map Tm.d) t := by
  unfold aheadR serR
  congr 1
  exact List.filter_congr (fun o _ => hit_eq (some t.com) W o)
/-- What Check answers. -/
def chkV (r : Option Int) : Value := .tuple #[.int .i64 (r.getD 0), .int .i64 (eN r)]
set_option maxHeartbeats 4000000 in
theorem check_any {w : World} {da : Option Addr} {n cap : Nat} {ms : List Tm} {m : Tm} (h : IsTs w da n cap ms) (hdn : n ≤ 1048576) (hsh : Short ms) (hm : m.In w) (hmr : m.rn ≤ 1048576) (hmw : m.wn ≤ 1048576) :
    Calls Try.prog 10 #[.slice da n cap, .agg #[.int .i64 m.base, .int .i64 m.com, .slice m.ra m.rn m.rc, .slice m.wa m.wn m.wc]] w fun e w' => e = .returned (chkV (chkR (ms.map Tm.d) m.base m.rs m.ws)) ∧ Below w.heap.size w w' := by
  have eg28 : ∀ args w, (callFunc 28 args).run Try.prog w = .ok (.enter 28 args) w := enters_of Try.func28 (by kernel_rfl) rfl
  have B1 : Below w.heap.size w (w.alloc (txB m 31)) := box_below
  have E1 : (w.alloc (txB m 31)).heap[w.heap.size]? = some (txB m 31) := new1 _ _
  have hI := h.below B1
  have hin := hm.below B1
  obtain ⟨y0, y1, y2, y3, _⟩ := tx_cells E1
  have hwl := lt_of_block E1
  unfold chkV
  go_enter Try.func10, Try.ntmps10
  go_upto_region 1 with fail
  unfold txB at B1 E1 hI hin y0 y1 y2 y3 hwl
  generalize w.alloc (.cells #[.int .i64 m.base, .int .i64 m.com, .slice m.ra m.rn m.rc, .slice m.wa m.wn m.wc] 31) = w1 at *
  clear h hm E1
  refine wp_region_inv' (fun A D a w' => ∃ v6 v7 v8 v9 v10 v11 v12 v4 v5 bp ff, a = (((((((((A.put (some 6) v6).put (some 7) v7).put (some 8) v8).put (some 9) v9).put (some 10) v10).put (some 11) v11).put (some 12) v12).put (some 4) v4).put (some 5) v5) ∧ Below w1.heap.size w1 w' ∧ (D 0 → v6 = .slice da n cap) ∧ (D 1 → v7 = .pointer (some ⟨bp, 0, none⟩)) ∧ (D 2 → v8 = .agg #[.int .i64 m.base, .int .i64 m.com, .slice m.ra m.rn m.rc, .slice m.wa m.wn m.wc]) ∧ (D 3 → v9 = wayV (aheadR ff m.base m.rs m.ws (fun _ => true))) ∧ (D 4 → v10 = .tuple #[.int .i64 ((aheadR ff m.base m.rs m.ws (fun _ => true)).getD 0), .int .i64 (eN (aheadR ff m.base m.rs m.ws (fun _ => true)))]) ∧ (D 5 → v11 = .int .i64 ((aheadR ff m.base m.rs m.ws (fun _ => true)).getD 0)) ∧ (D 6 → v12 = .int .i64 (eN (aheadR ff m.base m.rs m.ws (fun _ => true)))) ∧ (D 7 → v4 = .int .i64 ((aheadR ff m.base m.rs m.ws (fun _ => true)).getD 0)) ∧ (D 8 → v5 = .int .i64 (eN (aheadR ff m.base m.rs m.ws (fun _ => true)))) ∧ (D 1 → Pl w' (fun b => w1.heap.size ≤ b) bp ff ∧ Wr ms ff)) (by kernel_rfl) (by kernel_rfl) ?mono ?start ?step ?done
  case mono =>
    rintro D D' a w' hD ⟨v6, v7, v8, v9, v10, v11, v12, v4, v5, bp, ff, ha, hB, e0, e1, e2, e3, e4, e5, e6, e7, e8, hP⟩
    exact ⟨v6, v7, v8, v9, v10, v11, v12, v4, v5, bp, ff, ha, hB, fun h => e0 ((hD 0).2 h), fun h => e1 ((hD 1).2 h), fun h => e2 ((hD 2).2 h), fun h => e3 ((hD 3).2 h), fun h => e4 ((hD 4).2 h), fun h => e5 ((hD 5).2 h), fun h => e6 ((hD 6).2 h), fun h => e7 ((hD 7).2 h), fun h => e8 ((hD 8).2 h), fun h => hP ((hD 1).2 h)⟩
  case start => exact ⟨undef, undef, undef, undef, undef, undef, undef, .int .i64 0, .int .i64 0, 0, (fun _ => []), by kernel_rfl, (Below.refl _ _).drew, fun h => h.elim, fun h => h.elim, fun h => h.elim, fun h => h.elim, fun h => h.elim, fun h => h.elim, fun h => h.elim, fun h => h.elim, fun h => h.elim, fun h => h.elim⟩
  case step =>
    intro i o ho D a w' hI hn hcl hd
    obtain ⟨v6, v7, v8, v9, v10, v11, v12, v4, v5, bp, ff, ha, hB, e0, e1, e2, e3, e4, e5, e6, e7, e8, hP⟩ := hI
    match i, ho with
    | 0, ho =>
      cases Option.some.inj ho
      have ev : a.tmps[0]?.getD undef = .slice da n cap := by rw [ha]; kernel_rfl
      refine wp_value (w' := w') (v := .slice da n cap) (by simp [execOp, ev, go_sem]) ?_
      exact ⟨(.slice da n cap), v7, v8, v9, v10, v11, v12, v4, v5, bp, ff, by rw [ha]; kernel_rfl, hB, fun _ => rfl, fun h => e1 (h.resolve_left (by decide)), fun h => e2 (h.resolve_left (by decide)), fun h => e3 (h.resolve_left (by decide)), fun h => e4 (h.resolve_left (by decide)), fun h => e5 (h.resolve_left (by decide)), fun h => e6 (h.resolve_left (by decide)), fun h => e7 (h.resolve_left (by decide)), fun h => e8 (h.resolve_left (by decide)), fun h => hP (h.resolve_left (by decide))⟩
    | 1, ho =>
      cases Option.some.inj ho
      have ev : a.tmps[6]?.getD undef = .slice da n cap := by rw [ha, e0 (hd ⟨0, .data⟩ (by simp) rfl)]; kernel_rfl
      refine wp_enter (f := 27) (args := #[.slice da n cap]) (by simp [execOp, ev, go_sem]) ?_
      refine (writtenW (hI.below hB) hdn hsh).mono ?_
      rintro e w6 ⟨bp', ff', rfl, P6, W6, B6⟩
      refine ⟨_, rfl, ?_⟩
      exact ⟨v6, (.pointer (some ⟨bp', 0, none⟩)), v8, v9, v10, v11, v12, v4, v5, bp', ff', by rw [ha]; kernel_rfl, below_size hB hB.size B6, fun h => e0 (h.resolve_left (by decide)), fun _ => rfl, fun h => e2 (h.resolve_left (by decide)), fun h => absurd (h.resolve_left (by decide)) (fun h => hn (hcl 3 _ rfl h ⟨1, .data⟩ (by simp) rfl)), fun h => absurd (h.resolve_left (by decide)) (fun h => (fun h => hn (hcl 3 _ rfl h ⟨1, .data⟩ (by simp) rfl)) (hcl 4 _ rfl h ⟨3, .data⟩ (by simp) rfl)), fun h => absurd (h.resolve_left (by decide)) (fun h => (fun h => (fun h => hn (hcl 3 _ rfl h ⟨1, .data⟩ (by simp) rfl)) (hcl 4 _ rfl h ⟨3, .data⟩ (by simp) rfl)) (hcl 5 _ rfl h ⟨4, .data⟩ (by simp) rfl)), fun h => absurd (h.resolve_left (by decide)) (fun h => (fun h => (fun h => hn (hcl 3 _ rfl h ⟨1, .data⟩ (by simp) rfl)) (hcl 4 _ rfl h ⟨3, .data⟩ (by simp) rfl)) (hcl 6 _ rfl h ⟨4, .data⟩ (by simp) rfl)), fun h => absurd (h.resolve_left (by decide)) (fun h => (fun h => (fun h => (fun h => hn (hcl 3 _ rfl h ⟨1, .data⟩ (by simp) rfl)) (hcl 4 _ rfl h ⟨3, .data⟩ (by simp) rfl)) (hcl 5 _ rfl h ⟨4, .data⟩ (by simp) rfl)) (hcl 7 _ rfl h ⟨5, .data⟩ (by simp) rfl)), fun h => absurd (h.resolve_left (by decide)) (fun h => (fun h => (fun h => (fun h => hn (hcl 3 _ rfl h ⟨1, .data⟩ (by simp) rfl)) (hcl 4 _ rfl h ⟨3, .data⟩ (by simp) rfl)) (hcl 6 _ rfl h ⟨4, .data⟩ (by simp) rfl)) (hcl 8 _ rfl h ⟨6, .data⟩ (by simp) rfl)), fun _ => ⟨P6.mono (fun b hb => Nat.le_trans hB.size hb), W6⟩⟩
    | 2, ho =>
      cases Option.some.inj ho
      have ev : a.tmps[3]?.getD undef = .pointer (some ⟨w.heap.size, 0, none⟩) := by rw [ha]; kernel_rfl
      have z0 := (hB.cell (p := ⟨w.heap.size, 0, none⟩) hwl).trans y0
      have z1 := (hB.cell (p := ⟨w.heap.size, 1, none⟩) hwl).trans y1
      have z2 := (hB.cell (p := ⟨w.heap.size, 2, none⟩) hwl).trans y2
      have z3 := (hB.cell (p := ⟨w.heap.size, 3, none⟩) hwl).trans y3
      refine wp_value (w' := w') (v := .agg #[.int .i64 m.base, .int .i64 m.com, .slice m.ra m.rn m.rc, .slice m.wa m.wn m.wc]) (by simp [execOp, ev, go_sem, z0, z1, z2, z3]) ?_
      exact ⟨v6, v7, (.agg #[.int .i64 m.base, .int .i64 m.com, .slice m.ra m.rn m.rc, .slice m.wa m.wn m.wc]), v9, v10, v11, v12, v4, v5, bp, ff, by rw [ha]; kernel_rfl, hB, fun h => e0 (h.resolve_left (by decide)), fun h => e1 (h.resolve_left (by decide)), fun _ => rfl, fun h => e3 (h.resolve_left (by decide)), fun h => e4 (h.resolve_left (by decide)), fun h => e5 (h.resolve_left (by decide)), fun h => e6 (h.resolve_left (by decide)), fun h => e7 (h.resolve_left (by decide)), fun h => e8 (h.resolve_left (by decide)), fun h => hP (h.resolve_left (by decide))⟩
    | 3, ho =>
      cases Option.some.inj ho
      have ev : a.tmps[7]?.getD undef = .pointer (some ⟨bp, 0, none⟩) := by rw [ha, e1 (hd ⟨1, .data⟩ (by simp) rfl)]; kernel_rfl
      have ev' : a.tmps[8]?.getD undef = .agg #[.int .i64 m.base, .int .i64 m.com, .slice m.ra m.rn m.rc, .slice m.wa m.wn m.wc] := by rw [ha, e2 (hd ⟨2, .data⟩ (by simp) rfl)]; kernel_rfl
      obtain ⟨P7, W7⟩ := hP (hd ⟨1, .data⟩ (by simp) rfl)
      refine wp_enter (f := 26) (args := #[.pointer (some ⟨bp, 0, none⟩), .agg #[.int .i64 m.base, .int .i64 m.com, .slice m.ra m.rn m.rc, .slice m.wa m.wn m.wc], .func (.func 28) #[] #[]]) (by simp [execOp, ev, ev', go_sem]) ?_
      refine (ahead_any (m := m) (g := 28) (lb := #[]) (cnt := fun _ => true) P7 W7.rise W7.len (hin.below hB) hmr hmw eg28 (fun W x _ => (always_any x W).mono (fun e w' h => ⟨h.1, h.2 ▸ Below.refl _ _⟩))).mono ?_
      rintro e w6 ⟨rfl, B6⟩
      refine ⟨_, rfl, ?_⟩
      exact ⟨v6, v7, v8, (wayV (aheadR ff m.base m.rs m.ws (fun _ => true))), v10, v11, v12, v4, v5, bp, ff, by rw [ha]; kernel_rfl, below_size hB hB.size B6, fun h => e0 (h.resolve_left (by decide)), fun h => e1 (h.resolve_left (by decide)), fun h => e2 (h.resolve_left (by decide)), fun _ => rfl, fun h => e4 (h.resolve_left (by decide)), fun h => e5 (h.resolve_left (by decide)), fun h => e6 (h.resolve_left (by decide)), fun h => e7 (h.resolve_left (by decide)), fun h => e8 (h.resolve_left (by decide)), fun h => ⟨(hP (h.resolve_left (by decide))).1.below B6, (hP (h.resolve_left (by decide))).2⟩⟩
    | 4, ho =>
      cases Option.some.inj ho
      have ev : a.tmps[9]?.getD undef = wayV (aheadR ff m.base m.rs m.ws (fun _ => true)) := by rw [ha, e3 (hd ⟨3, .data⟩ (by simp) rfl)]; kernel_rfl
      refine wp_enter (f := 25) (args := #[wayV (aheadR ff m.base m.rs m.ws (fun _ => true))]) (by simp [execOp, ev, go_sem]) ?_
      refine (told_any _ w').mono ?_
      rintro e w6 ⟨rfl, B6⟩
      refine ⟨_, rfl, ?_⟩
      exact ⟨v6, v7, v8, v9, (.tuple #[.int .i64 ((aheadR ff m.base m.rs m.ws (fun _ => true)).getD 0), .int .i64 (eN (aheadR ff m.base m.rs m.ws (fun _ => true)))]), v11, v12, v4, v5, bp, ff, by rw [ha]; kernel_rfl, below_size hB hB.size B6, fun h => e0 (h.resolve_left (by decide)), fun h => e1 (h.resolve_left (by decide)), fun h => e2 (h.resolve_left (by decide)), fun h => e3 (h.resolve_left (by decide)), fun _ => rfl, fun h => e5 (h.resolve_left (by decide)), fun h => e6 (h.resolve_left (by decide)), fun h => e7 (h.resolve_left (by decide)), fun h => e8 (h.resolve_left (by decide)), fun h => ⟨(hP (h.resolve_left (by decide))).1.below B6, (hP (h.resolve_left (by decide))).2⟩⟩
    | 5, ho =>
      cases Option.some.inj ho
      have ev : a.tmps[10]?.getD undef = .tuple #[.int .i64 ((aheadR ff m.base m.rs m.ws (fun _ => true)).getD 0), .int .i64 (eN (aheadR ff m.base m.rs m.ws (fun _ => true)))] := by rw [ha, e4 (hd ⟨4, .data⟩ (by simp) rfl)]; kernel_rfl
      refine wp_value (w' := w') (v := .int .i64 ((aheadR ff m.base m.rs m.ws (fun _ => true)).getD 0)) (by simp [execOp, ev, go_sem]) ?_
      exact ⟨v6, v7, v8, v9, v10, (.int .i64 ((aheadR ff m.base m.rs m.ws (fun _ => true)).getD 0)), v12, v4, v5, bp, ff, by rw [ha]; kernel_rfl, hB, fun h => e0 (h.resolve_left (by decide)), fun h => e1 (h.resolve_left (by decide)), fun h => e2 (h.resolve_left (by decide)), fun h => e3 (h.resolve_left (by decide)), fun h => e4 (h.resolve_left (by decide)), fun _ => rfl, fun h => e6 (h.resolve_left (by decide)), fun h => e7 (h.resolve_left (by decide)), fun h => e8 (h.resolve_left (by decide)), fun h => hP (h.resolve_left (by decide))⟩
    | 6, ho =>
      cases Option.some.inj ho
      have ev : a.tmps[10]?.getD undef = .tuple #[.int .i64 ((aheadR ff m.base m.rs m.ws (fun _ => true)).getD 0), .int .i64 (eN (aheadR ff m.base m.rs m.ws (fun _ => true)))] := by rw [ha, e4 (hd ⟨4, .data⟩ (by simp) rfl)]; kernel_rfl
      refine wp_value (w' := w') (v := .int .i64 (eN (aheadR ff m.base m.rs m.ws (fun _ => true)))) (by simp [execOp, ev, go_sem]) ?_
      exact ⟨v6, v7, v8, v9, v10, v11, (.int .i64 (eN (aheadR ff m.base m.rs m.ws (fun _ => true)))), v4, v5, bp, ff, by rw [ha]; kernel_rfl, hB, fun h => e0 (h.resolve_left (by decide)), fun h => e1 (h.resolve_left (by decide)), fun h => e2 (h.resolve_left (by decide)), fun h => e3 (h.resolve_left (by decide)), fun h => e4 (h.resolve_left (by decide)), fun h => e5 (h.resolve_left (by decide)), fun _ => rfl, fun h => e7 (h.resolve_left (by decide)), fun h => e8 (h.resolve_left (by decide)), fun h => hP (h.resolve_left (by decide))⟩
    | 7, ho =>
      cases Option.some.inj ho
      have ev : a.tmps[11]?.getD undef = .int .i64 ((aheadR ff m.base m.rs m.ws (fun _ => true)).getD 0) := by rw [ha, e5 (hd ⟨5, .data⟩ (by simp) rfl)]; kernel_rfl
      refine wp_value (w' := w') (v := .int .i64 ((aheadR ff m.base m.rs m.ws (fun _ => true)).getD 0)) (by simp [execOp, ev, go_sem]) ?_
      exact ⟨v6, v7, v8, v9, v10, v11, v12, (.int .i64 ((aheadR ff m.base m.rs m.ws (fun _ => true)).getD 0)), v5, bp, ff, by rw [ha]; kernel_rfl, hB, fun h => e0 (h.resolve_left (by decide)), fun h => e1 (h.resolve_left (by decide)), fun h => e2 (h.resolve_left (by decide)), fun h => e3 (h.resolve_left (by decide)), fun h => e4 (h.resolve_left (by decide)), fun h => e5 (h.resolve_left (by decide)), fun h => e6 (h.resolve_left (by decide)), fun _ => rfl, fun h => e8 (h.resolve_left (by decide)), fun h => hP (h.resolve_left (by decide))⟩
    | 8, ho =>
      cases Option.some.inj ho
      have ev : a.tmps[12]?.getD undef = .int .i64 (eN (aheadR ff m.base m.rs m.ws (fun _ => true))) := by rw [ha, e6 (hd ⟨6, .data⟩ (by simp) rfl)]; kernel_rfl
      refine wp_value (w' := w') (v := .int .i64 (eN (aheadR ff m.base m.rs m.ws (fun _ => true)))) (by simp [execOp, ev, go_sem]) ?_
      exact ⟨v6, v7, v8, v9, v10, v11, v12, v4, (.int .i64 (eN (aheadR ff m.base m.rs m.ws (fun _ => true)))), bp, ff, by rw [ha]; kernel_rfl, hB, fun h => e0 (h.resolve_left (by decide)), fun h => e1 (h.resolve_left (by decide)), fun h => e2 (h.resolve_left (by decide)), fun h => e3 (h.resolve_left (by decide)), fun h => e4 (h.resolve_left (by decide)), fun h => e5 (h.resolve_left (by decide)), fun h => e6 (h.resolve_left (by decide)), fun h => e7 (h.resolve_left (by decide)), fun _ => rfl, fun h => hP (h.resolve_left (by decide))⟩
    | i + 9, ho => simp at ho
  case done =>
    rintro D a w' ⟨v6, v7, v8, v9, v10, v11, v12, v4, v5, bp, ff, ha, hB, e0, e1, e2, e3, e4, e5, e6, e7, e8, hP⟩ hall
    obtain rfl := e0 (hall 0 (by decide))
    obtain rfl := e1 (hall 1 (by decide))
    obtain rfl := e2 (hall 2 (by decide))
    obtain rfl := e3 (hall 3 (by decide))
    obtain rfl := e4 (hall 4 (by decide))
    obtain rfl := e5 (hall 5 (by decide))
    obtain rfl := e6 (hall 6 (by decide))
    obtain rfl := e7 (hall 7 (by decide))
    obtain rfl := e8 (hall 8 (by decide))
    obtain ⟨_, W9⟩ := hP (hall 1 (by decide))
    have hres : Hid (aheadR ff m.base m.rs m.ws (fun _ => true) = chkR (ms.map Tm.d) m.base m.rs m.ws) := chk_eq W9
    clear hP hall e0 e1 e2 e3 e4 e5 e6 e7 e8
    rw [ha]
    clear ha
    simp only [Act.put, List.setIfInBounds_toArray, List.set_cons_zero, List.set_cons_succ]
    rw [hres.out]
    go_wp2
    refine bodyPost_ret (results_tmp2 rfl _ _ _) rfl ?_
    exact ⟨rfl, B1.trans (hB.mono B1.size)⟩
end Go.Proofs.Ytigmpmichhghdaa
