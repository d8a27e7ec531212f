/- with: the row that it began with keeps its cells. -/
import Derived.Test.YtajdelinfkodbaaWth
namespace Go.Proofs.Ytajdelinfkodbaa
open Go.RowKit
set_option maxRecDepth 100000
/-- The cells of a row that are in use stay. -/
def PreV (w w' : World) (v : Value) : Prop := ∀ g n cap, v = .slice (some ⟨g, 0, none⟩) n cap → ∀ j u, j < n * 5 → w.cell? ⟨g, j, none⟩ = some u → w'.cell? ⟨g, j, none⟩ = some u
theorem PreV.trans {w w1 w2 : World} {v : Value} (h : PreV w w1 v) (k : PreV w1 w2 v) : PreV w w2 v := fun g n cap e j u hj hc => k g n cap e j u hj (h g n cap e j u hj hc)
theorem PreV.of_block {w w' : World} {v : Value} (h : ∀ q, v.ownBlock = some q → w'.heap[q]? = w.heap[q]?) : PreV w w' v := fun g n cap e j u _ hc => by
  have hk := h g (by rw [e]; rfl)
  unfold World.cell? at hc ⊢
  simp only at hc ⊢
  rw [hk]
  exact hc
theorem PreV.of_below {w w' : World} {v : Value} (hb : Below w.heap.size w w') (hl : ∀ q, v.ownBlock = some q → q < w.heap.size) : PreV w w' v := PreV.of_block (fun q hq => hb.block q (hl q hq))
theorem PreV.set {w w' : World} {v x : Value} {b k : Nat} (h : PreV w w' v) (hb : v.ownBlock ≠ some b) : PreV w (w'.setCell ⟨b, k, none⟩ x) v := h.trans (PreV.of_block (fun q hq => heap_setCell_other w' ⟨b, k, none⟩ q x (fun e => hb (by have e' : q = b := e; rw [← e']; exact hq))))
theorem app_pre {w : World} {S T : Nat → Prop} {v : Value} {xs : List Ch} (h : RowT w S T v xs) {ty nb : Nat} {y : Cs} (hlen : xs.length ≤ 1099511627776) (hc : ∀ j u, y.cells[j]? = some u → w.cell? ⟨nb, j, none⟩ = some u) {r : Value} {w' : World} (hr : (Builtin.append_ #[76, 76] ty #[v, .slice (some ⟨nb, 0, none⟩) 1 1]).run Try.prog w = .ok r w') : PreV w w' v := by
  obtain ⟨i, hi, hz, hs, hb⟩ := info_parts Try.info104
  obtain ⟨ss, rfl, h1, h2, h3⟩ := h
  rw [List.length_map] at hlen
  have hnews : ∀ j u, (flatC [y])[j]? = some u → w.cell? ((⟨nb, 0, none⟩ : Addr).add j) = some u := cell_at rfl hc
  have h1c : ∀ u ∈ flatC [y], u.oneCell' = true := flatC_one _
  have grow : ∀ (g0 cap : Nat), ¬ ss.length + 1 ≤ cap → (∀ j u, (flatC ss)[j]? = some u → w.cell? ((⟨g0, 0, none⟩ : Addr).add j) = some u) → v = .slice (some ⟨g0, 0, none⟩) ss.length cap → PreV w w' v := fun g0 cap hroom holds hv => by
    subst hv
    have hr2 := run_append_grow (P := Try.prog) w 76 ty 104 i _ Try.underlying76 hi hz ⟨g0, 0, none⟩ ss.length cap _ (by rw [hs]; exact flatC_len' ss) holds ⟨nb, 0, none⟩ 1 1 (flatC [y]) (by rw [hs]; rfl) hnews (by omega) (by omega) (growslice_fits (by omega) (by rw [hb]; omega))
    rw [hr] at hr2
    injection hr2 with e1 e2
    intro g n c e j u hj hcc
    have hl : g < w.heap.size := lt_of_cell hcc
    have hk : w'.heap[g]? = w.heap[g]? := by rw [e2]; exact Below.heap_alloc w.drew _ g hl
    unfold World.cell? at hcc ⊢
    simp only at hcc ⊢
    rw [hk]
    exact hcc
  rcases h3 with ⟨q1, q2⟩ | ⟨g0, cur, rfl, q1, q2, q3, q4, q5, q6⟩
  · rcases q1.2 with ⟨rfl, h0⟩ | ⟨g0, cap, cur, rfl, hbg, hgh, hnc, hcm, hcs, htake⟩
    · intro g n c e
      cases e
    · have holds : ∀ j u, (flatC ss)[j]? = some u → w.cell? ((⟨g0, 0, none⟩ : Addr).add j) = some u := World.ownsRow.cells q1 (g := g0) rfl
      by_cases hroom : ss.length + 1 ≤ cap
      · obtain ⟨w2, hr2, o2, _⟩ := run_append_own_spare (P := Try.prog) w 0 76 ty 104 i 5 Try.underlying76 hi hs g0 ss.length cap _ q1 ⟨nb, 0, none⟩ 1 1 (flatC [y]) rfl hnews h1c hroom
        rw [hr] at hr2
        injection hr2 with e1 e2
        subst e2
        intro g n c e j u hj hcc
        cases e
        have hjl : j < (flatC ss).length := by rw [flatC_len']; omega
        have f0 : (flatC ss)[j]? = some (flatC ss)[j] := List.getElem?_eq_getElem hjl
        have o0 := holds j _ f0
        rw [addr_add, Nat.zero_add, hcc] at o0
        have n0 := World.ownsRow.cells o2 (g := g0) rfl j ((flatC ss)[j]) (by rw [List.getElem?_append_left hjl]; exact f0)
        rw [addr_add, Nat.zero_add] at n0
        rw [n0, ← o0]
      · exact grow g0 cap hroom holds rfl
  · exact grow g0 ss.length (by omega) (fun j u hj => by
      rw [addr_add, Nat.zero_add, cell_of_row w g0 j cur 104 _ q5]
      exact q6 j u hj) rfl
set_option maxHeartbeats 8000000 in
theorem with_anyP {w : World} {S R : Nat → Prop} {ra : Option Addr} {n cap : Nat} {xs : List Ch} (chg c oo cc : Int) (g : Bool) {sa ba : Option Addr} {sn sc bn bc : Nat} {vs : List (Int × Int)} {bs : List Int}
    (hR0 : RowT w S R (.slice ra n cap) xs) (io0 : IsO w cc sa sn sc ba bn bc vs bs) (hsn : sn ≤ 8796093022208) (hbn : bn ≤ 140737488355328) (hc64 : -9223372036854775808 ≤ c ∧ c ≤ 9223372036854775807) (hxl : xs.length ≤ 1099511627776)
    (hSl0 : ∀ g, S g → g < w.heap.size) (hRl0 : ∀ g, R g → g < w.heap.size) (hSt0 : ∀ g cur e, S g → w.heap[g]? = some (.cells cur e (0, 0)) → e = 72 ∨ e = 104) :
    Calls Try.prog 36 #[.agg #[.int .i64 chg, .slice ra n cap], .int .i64 c, .agg #[.int .i64 oo, .bool g, .int .i64 cc, .slice sa sn sc, .slice ba bn bc]] w fun e w' => WthP w S R c (.slice ra n cap) (withL c ⟨oo, g, cc, vs, bs⟩ xs) e w' ∧ PreV w w' (.slice ra n cap) := by
  have E3 : (((w.alloc (recB chg (.slice ra n cap) 78)).alloc (chB oo g cc (.slice sa sn sc) (.slice ba bn bc))).alloc (recB 0 (.slice none 0 0) 78)).heap[w.heap.size]? = some (recB chg (.slice ra n cap) 78) := old1 (old1 (new1 _ _) _) _
  have E5 : (((w.alloc (recB chg (.slice ra n cap) 78)).alloc (chB oo g cc (.slice sa sn sc) (.slice ba bn bc))).alloc (recB 0 (.slice none 0 0) 78)).heap[w.heap.size + 1]? = some (chB oo g cc (.slice sa sn sc) (.slice ba bn bc)) := old1 (new2 _ _ _) _
  have E6 : (((w.alloc (recB chg (.slice ra n cap) 78)).alloc (chB oo g cc (.slice sa sn sc) (.slice ba bn bc))).alloc (recB 0 (.slice none 0 0) 78)).heap[w.heap.size + 1 + 1]? = some (recB 0 (.slice none 0 0) 78) := new3 _ _ _ _
  have B3 : Below w.heap.size w (((w.alloc (recB chg (.slice ra n cap) 78)).alloc (chB oo g cc (.slice sa sn sc) (.slice ba bn bc))).alloc (recB 0 (.slice none 0 0) 78)) := below_size (below_size box_below box_below.size box_below) (by simp; omega) box_below
  go_enter Try.func36, Try.ntmps36
  unfold recB chB at E3 E5 E6 B3
  go_upto_region 1 with fail
  generalize ((w.alloc (.cells #[.int .i64 chg, .slice ra n cap] 78)).alloc (.cells #[.int .i64 oo, .bool g, .int .i64 cc, .slice sa sn sc, .slice ba bn bc] 51)).alloc (.cells #[.int .i64 0, .slice none 0 0] 78) = w3 at *
  have l3 : w.heap.size ≤ w.heap.size := Nat.le_refl _
  have l5 : w.heap.size ≤ w.heap.size + 1 := by omega
  have l6 : w.heap.size ≤ w.heap.size + 1 + 1 := by omega
  have h35 : w.heap.size ≠ w.heap.size + 1 := by omega
  have h36 : w.heap.size ≠ w.heap.size + 1 + 1 := by omega
  have h56 : w.heap.size + 1 ≠ w.heap.size + 1 + 1 := by omega
  generalize w.heap.size + 1 + 1 = b6 at *
  generalize w.heap.size + 1 = b5 at *
  obtain ⟨b3, hb3⟩ : ∃ b, b = w.heap.size := ⟨_, rfl⟩
  rw [← hb3] at E3 h35 h36 ⊢
  replace hb3 : w.heap.size ≤ b3 := Nat.le_of_eq hb3.symm
  replace E3 : w3.heap[b3]? = some (recB chg (.slice ra n cap) 78) := E3
  replace E5 : w3.heap[b5]? = some (chB oo g cc (.slice sa sn sc) (.slice ba bn bc)) := E5
  replace E6 : w3.heap[b6]? = some (recB 0 (.slice none 0 0) 78) := E6
  obtain ⟨t0, t1⟩ := rec_cells E3
  have tf := rec_frozen E3
  have F3 := rec_set0 E3 c
  have F5 := (heap_setCell_other w3 ⟨b3, 0, none⟩ b5 (.int .i64 c) (fun e => h35 e.symm)).trans E5
  have F6 := (heap_setCell_other w3 ⟨b3, 0, none⟩ b6 (.int .i64 c) (fun e => h36 e.symm)).trans E6
  have B4 := below_setCell (i := 0) (x := .int .i64 c) B3 hb3
  clear E3 E5 E6 B3
  go_upto_region 2 with fail
  clear t0 t1 tf
  generalize w3.setCell ⟨b3, 0, none⟩ (.int .i64 c) = w4 at *
  have R4 : RowT w4 S R (.slice ra n cap) xs := hR0.same (fun _ h => h) (fun _ _ h => h) (fun _ h => h) (fun g hg _ => B4.block g hg) (fun g hg => B4.block g (hR0.block hg).2.1)
  have c4 := R4.isC
  obtain ⟨u0, u1⟩ := rec_cells F3
  obtain ⟨y0, y1, y2, y3, y4⟩ := chB_cells F5
  go_cut [15] from 9 to 15 (fun v wx => v = .bool (!g || thereC xs) ∧ Below w4.heap.size w4 wx)
  case first =>
    cases g with
    | false =>
      go_wp2
      go_meet
      exact ⟨rfl, Below.refl _ _⟩
    | true =>
      go_wp2_with (go_at_call 53; refine (there_any c c4).mono ?_; rintro e w5 ⟨rfl, B5⟩)
      go_meet
      exact ⟨by simp, B5⟩
  case rest =>
  obtain ⟨rfl, B5⟩ := hcut
  obtain ⟨wr, rfl⟩ : ∃ wr, wr = wc := ⟨_, rfl⟩
  have B6 := below_size B4 B4.size B5
  have E3 := (B5.block b3 (lt_of_block F3)).trans F3
  have E5 := (B5.block b5 (lt_of_block F5)).trans F5
  have E6 := (B5.block b6 (lt_of_block F6)).trans F6
  have hR : RowT wr S R (.slice ra n cap) xs := R4.same (fun _ h => h) (fun _ _ h => h) (fun _ h => h) (fun g hg _ => B5.block g hg) (fun g hg => B5.block g (R4.block hg).2.1)
  have io := io0.below B6
  have hSl : ∀ g, S g → g < wr.heap.size := fun g hg => Nat.lt_of_lt_of_le (hSl0 g hg) B6.size
  have hSt : ∀ g cur e, S g → wr.heap[g]? = some (.cells cur e (0, 0)) → e = 72 ∨ e = 104 := fun g cur e hg hh => hSt0 g cur e hg (by rw [← B6.block g (hSl0 g hg)]; exact hh)
  have hne3 : (Value.slice ra n cap).ownBlock ≠ some b3 := fun e => by have := (hR0.block e).2.1; omega
  have hne6 : (Value.slice ra n cap).ownBlock ≠ some b6 := fun e => by have := (hR0.block e).2.1; omega
  clear F3 F5 F6 B4 R4 c4 u0 u1 y0 y1 y2 y3 y4 B5 w4 w3
  obtain ⟨x0, x1⟩ := rec_cells E3
  obtain ⟨y0, y1, y2, y3, y4⟩ := chB_cells E5
  have hlw : w.heap.size ≤ wr.heap.size := B6.size
  have wl : Hid (withL c ⟨oo, g, cc, vs, bs⟩ xs = if (!g || thereC xs) = true then xs ++ [⟨c, g, cc, vs, bs⟩] else xs) := rfl
  cases hcond : (!g || thereC xs) with
  | false =>
    rw [hcond] at wl
    clear hcond
    obtain ⟨v0, v1⟩ := rec_cells E6
    have vf := rec_frozen E6
    have G6 := rec_set01 E6 c (.slice ra n cap)
    have B9 := below_setCell (i := 1) (x := .slice ra n cap) (below_setCell (i := 0) (x := .int .i64 c) B6 l6) l6
    clear hne3 io hR hSl hSt
    go_wp2
    exact bodyPost_ret (v := .agg #[.int .i64 c, .slice ra n cap]) (results_cell Try.results36 rfl (load78 G6)) rfl ⟨⟨ra, n, cap, rfl, by rw [wl.out]; exact ⟨with_keep B9 hR0, Fr.of_below B9, fun q hq => .inl hq, fun q _ hq => by obtain ⟨_, hl, cur, hh⟩ := hR0.block hq; exact ⟨cur, (B9.block q hl).trans hh⟩⟩⟩, PreV.of_below B9 (fun q hq => (hR0.block hq).2.1)⟩
  | true =>
    rw [hcond] at wl
    clear hcond
    go_upto_region 3 with fail
    refine abstract_act fun A hA => ?_
    have hsz : A.tmps.size = 29 := by rw [hA]; rfl
    have s1 : A.tmps[1]? = some (.int .i64 c) := by rw [hA]; rfl
    have s3 : A.tmps[3]? = some (.pointer (some ⟨b3, 0, none⟩)) := by rw [hA]; rfl
    have s5 : A.tmps[5]? = some (.pointer (some ⟨b5, 0, none⟩)) := by rw [hA]; rfl
    refine wp_region_inv' (fun A D a w' => ∃ (l : List Value) (ga : Option Addr) (qa : Option Addr) (ha1 : Option Addr) (gn : Nat) (gc : Nat) (qn : Nat) (qc : Nat) (nb : Nat) (hn1 : Nat) (hc1 : Nat), a = putAll A 16 l ∧ l.length = 12 ∧ (∀ j, j < 12 → D j → l[j]? = some (wthV b3 b5 n cap ra c cc g sa ba sn sc bn bc ga qa ha1 gn gc qn qc nb hn1 hc1 j)) ∧ (D 10 ∨ Below wr.heap.size wr w') ∧ (D 12 → ∃ w6, w' = w6.setCell ⟨b3, 1, none⟩ (.slice ha1 hn1 hc1) ∧ (∃ (wp : World) (row : Option Nat), Below wr.heap.size wr wp ∧ wp.grownBy w6 row ∧ (∀ q, row = some q → S q ∧ (Value.slice ra n cap).ownBlock = some q ∧ ∃ cur, w6.heap[q]? = some (.cells cur 104 (0, 0))) ∧ RowT w6 (fun q => S q ∨ (wp.heap.size ≤ q ∧ (Value.slice ha1 hn1 hc1).ownBlock = some q)) (plusR R wr wp) (.slice ha1 hn1 hc1) (xs ++ [⟨c, g, cc, vs, bs⟩]) ∧ (∀ q, (Value.slice ha1 hn1 hc1).ownBlock = some q → (S q ∧ (Value.slice ra n cap).ownBlock = some q) ∨ wp.heap.size ≤ q)) ∧ PreV wr w6 (.slice ra n cap)) ∧ (D 7 → ¬ D 10 → ∃ N, wr.heap.size ≤ N ∧ OwnV w' N (.slice ga gn gc) vs ∧ OwnB w' N (.slice qa qn qc) bs) ∧ (D 9 → ¬ D 10 → ∀ (j : Nat) (v : Value), (⟨⟨c, g, cc, vs, bs⟩, ga, gn, gc, qa, qn, qc⟩ : Cs).cells[j]? = some v → w'.cell? ⟨nb, j, none⟩ = some v) ∧ (D 10 → ¬ D 12 → ∃ (wp : World) (row : Option Nat), Below wr.heap.size wr wp ∧ wp.grownBy w' row ∧ (∀ q, row = some q → S q ∧ (Value.slice ra n cap).ownBlock = some q ∧ ∃ cur, w'.heap[q]? = some (.cells cur 104 (0, 0))) ∧ RowT w' (fun q => S q ∨ (wp.heap.size ≤ q ∧ (Value.slice ha1 hn1 hc1).ownBlock = some q)) (plusR R wr wp) (.slice ha1 hn1 hc1) (xs ++ [⟨c, g, cc, vs, bs⟩]) ∧ (∀ q, (Value.slice ha1 hn1 hc1).ownBlock = some q → (S q ∧ (Value.slice ra n cap).ownBlock = some q) ∨ wp.heap.size ≤ q)) ∧ (D 10 → ¬ D 12 → PreV wr w' (.slice ra n cap))) (by kernel_rfl) (by kernel_rfl) ?mono ?start ?step ?done
    case mono =>
      rintro D D' a w' hD ⟨l, ga, qa, ha1, gn, gc, qn, qc, nb, hn1, hc1, ha, hlen, hl, hB, hQ, hEl, hCl, hOC, hPr⟩
      exact ⟨l, ga, qa, ha1, gn, gc, qn, qc, nb, hn1, hc1, ha, hlen, fun j hj h => hl j hj ((hD j).2 h), hB.imp_left (hD 10).1, fun h => hQ ((hD 12).2 h), fun h h' => hEl ((hD 7).2 h) (fun k => h' ((hD 10).1 k)), fun h h' => hCl ((hD 9).2 h) (fun k => h' ((hD 10).1 k)), fun h h' => hOC ((hD 10).2 h) (fun k => h' ((hD 12).1 k)), fun h h' => hPr ((hD 10).2 h) (fun k => h' ((hD 12).1 k))⟩
    case start => exact ⟨_, none, none, none, 0, 0, 0, 0, 0, 0, 0, (putAll_start A 16 12 (by omega)).1, (putAll_start A 16 12 (by omega)).2, fun _ _ h => h.elim, .inr ((Below.refl _ _).drew), fun h => h.elim, fun h _ => h.elim, fun h _ => h.elim, fun h _ => h.elim, fun h _ => h.elim⟩
    case step =>
      clear hA
      intro i o ho D a w' hI hn hcl hd
      obtain ⟨l, ga, qa, ha1, gn, gc, qn, qc, nb, hn1, hc1, ha, hlen, hl, hB, hQ, hEl, hCl, hOC, hPr⟩ := hI
      match i, ho with
      | 0, ho =>
        cases Option.some.inj ho
        have ev : a.tmps[3]? = some (.pointer (some ⟨b3, 0, none⟩)) := by rw [ha, putAll_low A 16 3 l (by omega) (by decide)]; exact s3
        refine wp_value (w' := w') (v := .pointer (some ⟨b3, 1, none⟩)) (by simp [execOp, ev, go_sem]) ?_
        exact ⟨_, ga, qa, ha1, gn, gc, qn, qc, nb, hn1, hc1, by rw [ha]; exact putAll_put A 16 0 l _ (by omega) (by omega), by rw [List.length_set]; exact hlen, set_known hlen (by decide) hl, hB.imp_left .inr, fun h => hQ (h.resolve_left (by decide)), fun h h' => hEl (h.resolve_left (by decide)) (fun k => h' (.inr k)), fun h h' => hCl (h.resolve_left (by decide)) (fun k => h' (.inr k)), fun h h' => hOC (h.resolve_left (by decide)) (fun k => h' (.inr k)), fun h h' => hPr (h.resolve_left (by decide)) (fun k => h' (.inr k))⟩
      | 1, ho =>
        cases Option.some.inj ho
        have ev : a.tmps[16]? = some (.pointer (some ⟨b3, 1, none⟩)) := known_at ha hsz hlen hl 0 (by decide) (hd ⟨0, .data⟩ (by simp) rfl)
        have hc := ((hB.resolve_left (fun h => hn (hcl 10 _ rfl h ⟨1, .data⟩ (by simp) rfl))).cell (p := ⟨b3, 1, none⟩) (lt_of_cell x1)).trans x1
        refine wp_value (w' := w') (v := .slice ra n cap) (by simp [execOp, ev, go_sem, hc]) ?_
        exact ⟨_, ga, qa, ha1, gn, gc, qn, qc, nb, hn1, hc1, by rw [ha]; exact putAll_put A 16 1 l _ (by omega) (by omega), by rw [List.length_set]; exact hlen, set_known hlen (by decide) hl, hB.imp_left .inr, fun h => hQ (h.resolve_left (by decide)), fun h h' => hEl (h.resolve_left (by decide)) (fun k => h' (.inr k)), fun h h' => hCl (h.resolve_left (by decide)) (fun k => h' (.inr k)), fun h h' => hOC (h.resolve_left (by decide)) (fun k => h' (.inr k)), fun h h' => hPr (h.resolve_left (by decide)) (fun k => h' (.inr k))⟩
      | 2, ho =>
        cases Option.some.inj ho
        have ev : a.tmps[1]? = some (.int .i64 c) := by rw [ha, putAll_low A 16 1 l (by omega) (by decide)]; exact s1
        refine wp_value (w' := w') (v := .int .i64 c) (by simp [execOp, ev, go_sem]) ?_
        exact ⟨_, ga, qa, ha1, gn, gc, qn, qc, nb, hn1, hc1, by rw [ha]; exact putAll_put A 16 2 l _ (by omega) (by omega), by rw [List.length_set]; exact hlen, set_known hlen (by decide) hl, hB.imp_left .inr, fun h => hQ (h.resolve_left (by decide)), fun h h' => hEl (h.resolve_left (by decide)) (fun k => h' (.inr k)), fun h h' => hCl (h.resolve_left (by decide)) (fun k => h' (.inr k)), fun h h' => hOC (h.resolve_left (by decide)) (fun k => h' (.inr k)), fun h h' => hPr (h.resolve_left (by decide)) (fun k => h' (.inr k))⟩
      | 3, ho =>
        cases Option.some.inj ho
        have ev : a.tmps[5]? = some (.pointer (some ⟨b5, 0, none⟩)) := by rw [ha, putAll_low A 16 5 l (by omega) (by decide)]; exact s5
        refine wp_value (w' := w') (v := .pointer (some ⟨b5, 1, none⟩)) (by simp [execOp, ev, go_sem]) ?_
        exact ⟨_, ga, qa, ha1, gn, gc, qn, qc, nb, hn1, hc1, by rw [ha]; exact putAll_put A 16 3 l _ (by omega) (by omega), by rw [List.length_set]; exact hlen, set_known hlen (by decide) hl, hB.imp_left .inr, fun h => hQ (h.resolve_left (by decide)), fun h h' => hEl (h.resolve_left (by decide)) (fun k => h' (.inr k)), fun h h' => hCl (h.resolve_left (by decide)) (fun k => h' (.inr k)), fun h h' => hOC (h.resolve_left (by decide)) (fun k => h' (.inr k)), fun h h' => hPr (h.resolve_left (by decide)) (fun k => h' (.inr k))⟩
      | 4, ho =>
        cases Option.some.inj ho
        have ev : a.tmps[19]? = some (.pointer (some ⟨b5, 1, none⟩)) := known_at ha hsz hlen hl 3 (by decide) (hd ⟨3, .data⟩ (by simp) rfl)
        have hc := ((hB.resolve_left (fun h => (fun h => (fun h => hn (hcl 8 _ rfl h ⟨4, .data⟩ (by simp) rfl)) (hcl 9 _ rfl h ⟨8, .data⟩ (by simp) rfl)) (hcl 10 _ rfl h ⟨9, .data⟩ (by simp) rfl))).cell (p := ⟨b5, 1, none⟩) (lt_of_cell y1)).trans y1
        refine wp_value (w' := w') (v := .bool g) (by simp [execOp, ev, go_sem, hc]) ?_
        exact ⟨_, ga, qa, ha1, gn, gc, qn, qc, nb, hn1, hc1, by rw [ha]; exact putAll_put A 16 4 l _ (by omega) (by omega), by rw [List.length_set]; exact hlen, set_known hlen (by decide) hl, hB.imp_left .inr, fun h => hQ (h.resolve_left (by decide)), fun h h' => hEl (h.resolve_left (by decide)) (fun k => h' (.inr k)), fun h h' => hCl (h.resolve_left (by decide)) (fun k => h' (.inr k)), fun h h' => hOC (h.resolve_left (by decide)) (fun k => h' (.inr k)), fun h h' => hPr (h.resolve_left (by decide)) (fun k => h' (.inr k))⟩
      | 5, ho =>
        cases Option.some.inj ho
        have ev : a.tmps[5]? = some (.pointer (some ⟨b5, 0, none⟩)) := by rw [ha, putAll_low A 16 5 l (by omega) (by decide)]; exact s5
        refine wp_value (w' := w') (v := .pointer (some ⟨b5, 2, none⟩)) (by simp [execOp, ev, go_sem]) ?_
        exact ⟨_, ga, qa, ha1, gn, gc, qn, qc, nb, hn1, hc1, by rw [ha]; exact putAll_put A 16 5 l _ (by omega) (by omega), by rw [List.length_set]; exact hlen, set_known hlen (by decide) hl, hB.imp_left .inr, fun h => hQ (h.resolve_left (by decide)), fun h h' => hEl (h.resolve_left (by decide)) (fun k => h' (.inr k)), fun h h' => hCl (h.resolve_left (by decide)) (fun k => h' (.inr k)), fun h h' => hOC (h.resolve_left (by decide)) (fun k => h' (.inr k)), fun h h' => hPr (h.resolve_left (by decide)) (fun k => h' (.inr k))⟩
      | 6, ho =>
        cases Option.some.inj ho
        have ev : a.tmps[21]? = some (.pointer (some ⟨b5, 2, none⟩)) := known_at ha hsz hlen hl 5 (by decide) (hd ⟨5, .data⟩ (by simp) rfl)
        have hb := hB.resolve_left (fun h => (fun h => (fun h => (fun h => hn (hcl 7 _ rfl h ⟨6, .data⟩ (by simp) rfl)) (hcl 8 _ rfl h ⟨7, .data⟩ (by simp) rfl)) (hcl 9 _ rfl h ⟨8, .data⟩ (by simp) rfl)) (hcl 10 _ rfl h ⟨9, .data⟩ (by simp) rfl))
        have z2 := (hb.cell (p := ⟨b5, 2, none⟩) (lt_of_cell y2)).trans y2
        have z3 := (hb.cell (p := ⟨b5, 3, none⟩) (lt_of_cell y3)).trans y3
        have z4 := (hb.cell (p := ⟨b5, 4, none⟩) (lt_of_cell y4)).trans y4
        refine wp_value (w' := w') (v := .agg #[.int .i64 cc, .slice sa sn sc, .slice ba bn bc]) (by simp [execOp, ev, go_sem, z2, z3, z4]) ?_
        exact ⟨_, ga, qa, ha1, gn, gc, qn, qc, nb, hn1, hc1, by rw [ha]; exact putAll_put A 16 6 l _ (by omega) (by omega), by rw [List.length_set]; exact hlen, set_known hlen (by decide) hl, hB.imp_left .inr, fun h => hQ (h.resolve_left (by decide)), fun h h' => hEl (h.resolve_left (by decide)) (fun k => h' (.inr k)), fun h h' => hCl (h.resolve_left (by decide)) (fun k => h' (.inr k)), fun h h' => hOC (h.resolve_left (by decide)) (fun k => h' (.inr k)), fun h h' => hPr (h.resolve_left (by decide)) (fun k => h' (.inr k))⟩
      | 7, ho =>
        cases Option.some.inj ho
        have ev : a.tmps[22]? = some (.agg #[.int .i64 cc, .slice sa sn sc, .slice ba bn bc]) := known_at ha hsz hlen hl 6 (by decide) (hd ⟨6, .data⟩ (by simp) rfl)
        have hb := hB.resolve_left (fun h => (fun h => (fun h => hn (hcl 8 _ rfl h ⟨7, .data⟩ (by simp) rfl)) (hcl 9 _ rfl h ⟨8, .data⟩ (by simp) rfl)) (hcl 10 _ rfl h ⟨9, .data⟩ (by simp) rfl))
        refine wp_enter (f := 47) (args := #[.agg #[.int .i64 cc, .slice sa sn sc, .slice ba bn bc]]) (by simp [execOp, ev, go_sem]) ?_
        refine (copy_any (io.below hb) hsn hbn).mono ?_
        rintro e w6 ⟨vv, bv, rfl, OV, OB, HB⟩
        refine ⟨_, rfl, ?_⟩
        obtain ⟨ga', gn', gc', rfl⟩ : ∃ a n c, vv = .slice a n c := by obtain ⟨a, c, e, _⟩ := OV.2; exact ⟨_, _, _, e⟩
        obtain ⟨qa', qn', qc', rfl⟩ := OB.shape'
        exact ⟨_, ga', qa', ha1, gn', gc', qn', qc', nb, hn1, hc1, by rw [ha]; exact putAll_put A 16 7 l _ (by omega) (by omega), by rw [List.length_set]; exact hlen, set_known' (val' := wthV b3 b5 n cap ra c cc g sa ba sn sc bn bc ga' qa' ha1 gn' gc' qn' qc' nb hn1 hc1) hlen (by decide) hl (fun j hj hne => match j, hj, hne with | 0, _, _ => rfl | 1, _, _ => rfl | 2, _, _ => rfl | 3, _, _ => rfl | 4, _, _ => rfl | 5, _, _ => rfl | 6, _, _ => rfl | 7, _, hne => absurd rfl hne | 8, hj, _ => absurd hj (fun h => hn (hcl 8 _ rfl h ⟨7, .data⟩ (by simp) rfl)) | 9, _, _ => rfl | 10, _, _ => rfl | 11, _, _ => rfl | j + 12, _, _ => rfl), hB.imp .inr (fun h => below_size h h.size HB), fun h => absurd (h.resolve_left (by decide)) (fun h => (fun h => (fun h => (fun h => hn (hcl 8 _ rfl h ⟨7, .data⟩ (by simp) rfl)) (hcl 9 _ rfl h ⟨8, .data⟩ (by simp) rfl)) (hcl 10 _ rfl h ⟨9, .data⟩ (by simp) rfl)) (hcl 12 _ rfl h ⟨10, .data⟩ (by simp) rfl)), fun _ _ => ⟨_, hb.size, OV, OB⟩, fun h _ => absurd (h.resolve_left (by decide)) (fun h => (fun h => hn (hcl 8 _ rfl h ⟨7, .data⟩ (by simp) rfl)) (hcl 9 _ rfl h ⟨8, .data⟩ (by simp) rfl)), fun h _ => absurd (h.resolve_left (by decide)) (fun h => (fun h => (fun h => hn (hcl 8 _ rfl h ⟨7, .data⟩ (by simp) rfl)) (hcl 9 _ rfl h ⟨8, .data⟩ (by simp) rfl)) (hcl 10 _ rfl h ⟨9, .data⟩ (by simp) rfl)), fun h _ => absurd (h.resolve_left (by decide)) (fun h => (fun h => (fun h => hn (hcl 8 _ rfl h ⟨7, .data⟩ (by simp) rfl)) (hcl 9 _ rfl h ⟨8, .data⟩ (by simp) rfl)) (hcl 10 _ rfl h ⟨9, .data⟩ (by simp) rfl))⟩
      | 8, ho =>
        cases Option.some.inj ho
        have ev : a.tmps[18]? = some (.int .i64 c) := known_at ha hsz hlen hl 2 (by decide) (hd ⟨2, .data⟩ (by simp) rfl)
        have ev' : a.tmps[20]? = some (.bool g) := known_at ha hsz hlen hl 4 (by decide) (hd ⟨4, .data⟩ (by simp) rfl)
        have ev'' : a.tmps[23]? = some (.agg #[.int .i64 cc, .slice ga gn gc, .slice qa qn qc]) := known_at ha hsz hlen hl 7 (by decide) (hd ⟨7, .data⟩ (by simp) rfl)
        refine wp_value (w' := w') (v := .agg #[.int .i64 c, .bool g, .int .i64 cc, .slice ga gn gc, .slice qa qn qc]) (by simp [execOp, ev, ev', ev'', go_sem]) ?_
        exact ⟨_, ga, qa, ha1, gn, gc, qn, qc, nb, hn1, hc1, by rw [ha]; exact putAll_put A 16 8 l _ (by omega) (by omega), by rw [List.length_set]; exact hlen, set_known hlen (by decide) hl, hB.imp_left .inr, fun h => hQ (h.resolve_left (by decide)), fun h h' => hEl (h.resolve_left (by decide)) (fun k => h' (.inr k)), fun h h' => hCl (h.resolve_left (by decide)) (fun k => h' (.inr k)), fun h h' => hOC (h.resolve_left (by decide)) (fun k => h' (.inr k)), fun h h' => hPr (h.resolve_left (by decide)) (fun k => h' (.inr k))⟩
      | 9, ho =>
        cases Option.some.inj ho
        have ev : a.tmps[24]? = some (.agg #[.int .i64 c, .bool g, .int .i64 cc, .slice ga gn gc, .slice qa qn qc]) := known_at ha hsz hlen hl 8 (by decide) (hd ⟨8, .data⟩ (by simp) rfl)
        have hb := hB.resolve_left (fun h => hn (hcl 10 _ rfl h ⟨9, .data⟩ (by simp) rfl))
        refine wp_value (w' := w'.alloc (.cells #[.int .i64 c, .bool g, .int .i64 cc, .slice ga gn gc, .slice qa qn qc] 104)) (v := .slice (some ⟨w'.heap.size, 0, none⟩) 1 1) (by simp [execOp, ev, go_sem]) ?_
        exact ⟨_, ga, qa, ha1, gn, gc, qn, qc, w'.heap.size, hn1, hc1, by rw [ha]; exact putAll_put A 16 9 l _ (by omega) (by omega), by rw [List.length_set]; exact hlen, set_known' (val' := wthV b3 b5 n cap ra c cc g sa ba sn sc bn bc ga qa ha1 gn gc qn qc w'.heap.size hn1 hc1) hlen (by decide) hl (fun j hj hne => match j, hj, hne with | 0, _, _ => rfl | 1, _, _ => rfl | 2, _, _ => rfl | 3, _, _ => rfl | 4, _, _ => rfl | 5, _, _ => rfl | 6, _, _ => rfl | 7, _, _ => rfl | 8, _, _ => rfl | 9, _, hne => absurd rfl hne | 10, _, _ => rfl | 11, _, _ => rfl | j + 12, _, _ => rfl), hB.imp .inr (fun h => below_size h h.size box_below), fun h => absurd (h.resolve_left (by decide)) (fun h => (fun h => hn (hcl 10 _ rfl h ⟨9, .data⟩ (by simp) rfl)) (hcl 12 _ rfl h ⟨10, .data⟩ (by simp) rfl)), fun h h' => (hEl (h.resolve_left (by decide)) (fun k => h' (.inr k))).imp (fun _ q => ⟨q.1, q.2.1.below box_below, q.2.2.below box_below⟩), fun _ _ => lit_cells (y := (⟨⟨c, g, cc, vs, bs⟩, ga, gn, gc, qa, qn, qc⟩ : Cs)), fun h _ => absurd (h.resolve_left (by decide)) (fun h => hn (hcl 10 _ rfl h ⟨9, .data⟩ (by simp) rfl)), fun h _ => absurd (h.resolve_left (by decide)) (fun h => hn (hcl 10 _ rfl h ⟨9, .data⟩ (by simp) rfl))⟩
      | 10, ho =>
        cases Option.some.inj ho
        have ev : a.tmps[17]? = some (.slice ra n cap) := known_at ha hsz hlen hl 1 (by decide) (hd ⟨1, .data⟩ (by simp) rfl)
        have ev' : a.tmps[25]? = some (.slice (some ⟨nb, 0, none⟩) 1 1) := known_at ha hsz hlen hl 9 (by decide) (hd ⟨9, .data⟩ (by simp) rfl)
        have hb := hB.resolve_left hn
        obtain ⟨N, hN, El1, El2⟩ := hEl (hcl 9 _ rfl (hd ⟨9, .data⟩ (by simp) rfl) ⟨8, .data⟩ (by simp) rfl |> fun h => hcl 8 _ rfl h ⟨7, .data⟩ (by simp) rfl) hn
        have Cl1 := hCl (hd ⟨9, .data⟩ (by simp) rfl) hn
        have R1 := with_row hb hR hSl
        obtain ⟨ha', hn', hc', w6, row, hr6, O6, g6, r6, at6⟩ := app_ver w' R1 76 (⟨⟨c, g, cc, vs, bs⟩, ga, gn, gc, qa, qn, qc⟩ : Cs) nb Cl1 (with_el hN io.cls El1 El2) hc64 hxl (with_ty hb hSl hSt)
        refine Lib.wp_append_run w' (.tmp 17) (.tmp 25) 76 76 rfl _ _ (by simpa [Act.eval] using eval_some ev) (by simpa [Act.eval] using eval_some ev') _ w6 hr6 ?_
        exact ⟨_, ga, qa, ha', gn, gc, qn, qc, nb, hn', hc', by rw [ha]; exact putAll_put A 16 10 l _ (by omega) (by omega), by rw [List.length_set]; exact hlen, set_known' (val' := wthV b3 b5 n cap ra c cc g sa ba sn sc bn bc ga qa ha' gn gc qn qc nb hn' hc') hlen (by decide) hl (fun j hj hne => match j, hj, hne with | 0, _, _ => rfl | 1, _, _ => rfl | 2, _, _ => rfl | 3, _, _ => rfl | 4, _, _ => rfl | 5, _, _ => rfl | 6, _, _ => rfl | 7, _, _ => rfl | 8, _, _ => rfl | 9, _, _ => rfl | 10, _, hne => absurd rfl hne | 11, _, _ => rfl | j + 12, _, _ => rfl), .inl (.inl rfl), fun h => absurd (h.resolve_left (by decide)) (fun h => hn (hcl 12 _ rfl h ⟨10, .data⟩ (by simp) rfl)), fun _ h' => absurd (.inl rfl) h', fun _ h' => absurd (.inl rfl) h', fun _ _ => ⟨w', row, hb, g6, r6, O6, at6⟩, fun _ _ => (PreV.of_below hb (fun q hq => (hR.block hq).2.1)).trans (app_pre R1 hxl Cl1 hr6)⟩
      | 11, ho =>
        cases Option.some.inj ho
        have ev : a.tmps[3]? = some (.pointer (some ⟨b3, 0, none⟩)) := by rw [ha, putAll_low A 16 3 l (by omega) (by decide)]; exact s3
        refine wp_value (w' := w') (v := .pointer (some ⟨b3, 1, none⟩)) (by simp [execOp, ev, go_sem]) ?_
        exact ⟨_, ga, qa, ha1, gn, gc, qn, qc, nb, hn1, hc1, by rw [ha]; exact putAll_put A 16 11 l _ (by omega) (by omega), by rw [List.length_set]; exact hlen, set_known hlen (by decide) hl, hB.imp_left .inr, fun h => hQ (h.resolve_left (by decide)), fun h h' => hEl (h.resolve_left (by decide)) (fun k => h' (.inr k)), fun h h' => hCl (h.resolve_left (by decide)) (fun k => h' (.inr k)), fun h h' => hOC (h.resolve_left (by decide)) (fun k => h' (.inr k)), fun h h' => hPr (h.resolve_left (by decide)) (fun k => h' (.inr k))⟩
      | 12, ho =>
        cases Option.some.inj ho
        have ev : a.tmps[27]? = some (.pointer (some ⟨b3, 1, none⟩)) := known_at ha hsz hlen hl 11 (by decide) (hd ⟨11, .data⟩ (by simp) rfl)
        have ev' : a.tmps[26]? = some (.slice ha1 hn1 hc1) := known_at ha hsz hlen hl 10 (by decide) (hd ⟨10, .data⟩ (by simp) rfl)
        have A6 := hOC (hd ⟨10, .data⟩ (by simp) rfl) hn
        have P6 := hPr (hd ⟨10, .data⟩ (by simp) rfl) hn
        have E6 : w'.heap[b3]? = some (recB c (.slice ra n cap) 78) := with_blk A6 E3 hne3
        obtain ⟨z0, z1⟩ := rec_cells E6
        have zf1 := rec_frozen E6 1
        refine wp_skip (w' := w'.setCell ⟨b3, 1, none⟩ (.slice ha1 hn1 hc1)) (by simp [execOp, Act.eval, ev, ev', go_sem, z1, zf1]) ?_
        exact ⟨l, ga, qa, ha1, gn, gc, qn, qc, nb, hn1, hc1, ha, hlen, fun j hj h => hl j hj (h.resolve_left (by omega)), .inl (.inr (hd ⟨10, .data⟩ (by simp) rfl)), fun _ => ⟨w', rfl, A6, P6⟩, fun _ h' => absurd (Or.inr (hd ⟨10, .data⟩ (by simp) rfl)) h', fun _ h' => absurd (Or.inr (hd ⟨10, .data⟩ (by simp) rfl)) h', fun _ h' => absurd (.inl rfl) h', fun _ h' => absurd (.inl rfl) h'⟩
      | i + 13, ho => simp at ho
    case done =>
      rintro D a w' ⟨l, ga, qa, ha1, gn, gc, qn, qc, nb, hn1, hc1, ha, hlen, hl, hB, hQ, hEl, hCl, hOC, hPr⟩ hall
      obtain ⟨v0, v1, v2, v3, v4, v5, v6, v7, v8, v9, v10, v11, rfl⟩ := wthV_list hlen
      obtain ⟨w6, rfl, A6, P6⟩ := hQ (hall 12 (by decide))
      subst hA
      have hfr : a = _ := ha
      rw [hfr]
      clear hfr ha
      simp only [putAll, List.take_succ_cons, List.take_zero, List.drop_succ_cons, List.drop_zero, List.cons_append, List.nil_append, List.length_cons, List.length_nil]
      clear hl hB hQ hEl hCl hOC hPr hall
      have E3' := with_blk (v := .slice ra n cap) A6 E3 hne3
      have E6' := with_blk (v := .slice none 0 0) A6 E6 hne6
      have G3 := rec_set1 E3' (.slice ha1 hn1 hc1)
      have G6 := (heap_setCell_other w6 ⟨b3, 1, none⟩ b6 (.slice ha1 hn1 hc1) (fun e => h36 e.symm)).trans E6'
      have P9 : Hid (PreV w ((((w6.setCell ⟨b3, 1, none⟩ (.slice ha1 hn1 hc1)).setCell ⟨b6, 0, none⟩ (.int .i64 c)).setCell ⟨b6, 1, none⟩ (.slice ha1 hn1 hc1))) (.slice ra n cap)) := (((PreV.of_below B6 (fun q hq => (hR0.block hq).2.1)).trans P6).set hne3).set hne6 |>.set hne6
      have K6 := (with_fin0 B6 hSl0 (fun q hq => (hR0.block hq).2.2) A6).set (x := .slice ha1 hn1 hc1) (k := 1) hRl0 E3' hb3
      clear P6 E3 E6 A6 E3' E6' hne3 hne6 io hR hSl hSt x0 x1 y0 y1 y2 y3 y4 E5
      generalize w6.setCell ⟨b3, 1, none⟩ (.slice ha1 hn1 hc1) = w7 at *
      obtain ⟨x0, x1⟩ := rec_cells G3
      obtain ⟨v0, v1⟩ := rec_cells G6
      have vf := rec_frozen G6
      have H6 := rec_set01 G6 c (.slice ha1 hn1 hc1)
      have K9 := (K6.set (x := .int .i64 c) (k := 0) hRl0 G6 l6).set (x := .slice ha1 hn1 hc1) (k := 1) hRl0 (rec_set0 G6 c) l6
      clear K6 G6
      go_wp2
      exact bodyPost_ret (v := .agg #[.int .i64 c, .slice ha1 hn1 hc1]) (results_cell Try.results36 rfl (load78 H6)) rfl ⟨⟨ha1, hn1, hc1, rfl, by rw [wl.out]; exact K9⟩, P9.out⟩
end Go.Proofs.Ytajdelinfkodbaa
