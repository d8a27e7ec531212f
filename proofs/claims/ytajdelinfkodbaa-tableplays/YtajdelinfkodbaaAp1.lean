/- Apply of a record with at most one change: the rows that were there keep their cells. -/
import Derived.Test.YtajdelinfkodbaaApl
import Derived.Test.YtajdelinfkodbaaCp2
namespace Go.Proofs.Ytajdelinfkodbaa
open Go.RowKit
set_option maxRecDepth 100000
theorem rows_turn {w3 wq wp w6 w' : World} {S R S' R' : Nat → Prop} {mb : Nat} {F : Int → Option Value} {t : Tab} {mk : Int → Past} {oo ch : Int} {va : Option Addr} {vn vc : Nat} {nv : Value} {ys : List Ch} (hF : TbM w3 S R mb F t.m) (B : Below w3.heap.size w3 wq) (hM : TbM wq S' R' mb F mk) (hbp : Below wq.heap.size wq wp) (hget : (F oo).getD (.agg #[.int .i64 0, .slice none 0 0]) = .agg #[.int .i64 ch, .slice va vn vc]) (FN : WFin wp S' R' (.slice va vn vc) nv ys w6) (P6 : PreV wp w6 (.slice va vn vc)) (g7 : w6.grownBy w' (some mb)) : ∀ q c sv, F q = some (.agg #[c, sv]) → PreT w3 w' sv := by
  intro q c sv hq
  have hr3 := (hF.row hq).2
  have hrq := (hM.row hq).2
  cases hg : sv.ownBlock with
  | none => exact PreT.of_block hr3 (fun g h => by rw [hg] at h; cases h)
  | some g =>
    obtain ⟨_, hl3, cur3, h3⟩ := hr3.block hg
    have hq3 : wq.heap[g]? = w3.heap[g]? := B.block g hl3
    have hlq : g < wq.heap.size := Nat.lt_of_lt_of_le hl3 B.size
    have hp3 : wp.heap[g]? = wq.heap[g]? := hbp.block g hlq
    have hlp : g < wp.heap.size := Nat.lt_of_lt_of_le hlq hbp.size
    have hgm : g ≠ mb := hM.map.noCells (hq3.trans h3)
    have hl6 : g < w6.heap.size := Nat.lt_of_lt_of_le hlp FN.2.1.size
    have h76 : w'.heap[g]? = w6.heap[g]? := g7.block g hl6 (fun e => hgm (Option.some.inj e))
    by_cases hit : S' g ∧ (Value.slice va vn vc).ownBlock = some g
    · have hoo : F oo = some (.agg #[.int .i64 ch, .slice va vn vc]) := by
        cases he : F oo with
        | none =>
          rw [he] at hget
          have e2 := (agg2 hget).2
          rw [← e2] at hit
          simp [Value.ownBlock] at hit
        | some v =>
          rw [he] at hget
          exact congrArg some hget
      have eq := hM.apart q oo _ _ _ _ g hq hoo hg hit.2 hit.1
      subst eq
      rw [hq] at hoo
      have e2 := (agg2 (Option.some.inj hoo)).2
      subst e2
      refine ⟨?_, fun g' hg' => ?_⟩
      · exact (PreV.of_below B (fun x hx => by rw [hg] at hx; cases hx; exact hl3)).trans ((PreV.of_below hbp (fun x hx => by rw [hg] at hx; cases hx; exact hlq)).trans (P6.trans (PreV.of_block (fun x hx => by rw [hg] at hx; cases hx; exact h76))))
      · rw [hg] at hg'
        cases hg'
        obtain ⟨cur, hc⟩ := FN.2.2.2 g hit.1 hit.2
        exact ⟨cur, h76.trans hc⟩
    · exact PreT.of_block hr3 (fun x hx => by rw [hg] at hx; cases hx; exact h76.trans ((FN.2.1.block g hlp hit).trans (hp3.trans hq3)))
/-- All rows of a table stay. -/
def RowsK (w : World) (S R : Nat → Prop) (b : Nat) (t : Tab) (w' : World) : Prop := ∀ mb F, w.heap[b]? = some (tabB t.first t.last (some mb)) → TbM w S R mb F t.m → ∀ k c sv, F k = some (.agg #[c, sv]) → PreT w w' sv
theorem RowsK.of_below {w w' : World} {S R : Nat → Prop} {b : Nat} {t : Tab} (hb : Below w.heap.size w w') : RowsK w S R b t w' := fun _ _ _ hM _ _ _ hk => PreT.of_block (hM.row hk).2 (fun q hq => hb.block q ((hM.row hk).2.block hq).2.1)
theorem PreT.set {w w' : World} {v x : Value} {b k : Nat} (h : PreT w w' v) (hb : v.ownBlock ≠ some b) : PreT w (w'.setCell ⟨b, k, none⟩ x) v := ⟨h.pre.set hb, fun g hg => by
  obtain ⟨cur, hc⟩ := h.row g hg
  exact ⟨cur, (heap_setCell_other w' ⟨b, k, none⟩ g x (fun e => hb (by have e' : g = b := e; rw [← e']; exact hg))).trans hc⟩⟩
/-- While the loop goes. -/
def RwQ (mv : Option Nat) (w3 : World) (S R : Nat → Prop) (t : Tab) (wc : World) (k : Nat) (wr : World) : Prop := (k = 0 → wr = wc) ∧ ∀ mb F, mv = some mb → TbM w3 S R mb F t.m → ∀ q c sv, F q = some (.agg #[c, sv]) → PreT w3 wr sv
set_option maxHeartbeats 8000000 in
theorem apply1_any {w : World} {S R : Nat → Prop} {b : Nat} {t : Tab} (h : Tb w S R b t) (c : Int) {ra : Option Addr} {n cap base : Nat} {xs : List Ch} (hr : OwnC w base 51 (.slice ra n cap) xs) (hn1 : n ≤ 1) :
    Calls Try.prog 11 #[.pointer (some ⟨b, 0, none⟩), .agg #[.int .i64 c, .slice ra n cap]] w fun e w' => (∃ v, e = .returned v) ∧ Fr S w w' ∧ RowsK w S R b t w' := by
  have hem := fun (r : Option Nat) (w : World) => run_eql_map_nil (P := Try.prog) w 70 2 78 r Try.underlying70
  have hmm := @run_makeMap Try.prog
  have E3 : (w.alloc (recB c (.slice ra n cap) 38)).heap[w.heap.size]? = some (recB c (.slice ra n cap) 38) := new1 _ _
  have B3 : Below w.heap.size w (w.alloc (recB c (.slice ra n cap) 38)) := box_below
  have h1 := h.below B3
  have r1 := hr.below B3
  have cR := rightRecord_any c r1.isC
  go_enter Try.func11, Try.ntmps11
  unfold recB at E3 B3 h1 r1 cR
  go_upto_region 3 with fail
  generalize w.alloc (.cells #[.int .i64 c, .slice ra n cap] 38) = w1 at *
  obtain ⟨b3, hb3⟩ : ∃ q, q = w.heap.size := ⟨_, rfl⟩
  rw [← hb3] at E3 ⊢
  replace hb3 : w.heap.size ≤ b3 := Nat.le_of_eq hb3.symm
  replace E3 : w1.heap[b3]? = some (recB c (.slice ra n cap) 38) := E3
  obtain ⟨x0, x1⟩ := rec_cells E3
  go_wp2_with fail
  refine cR.mono ?_
  rintro e w2 ⟨rfl, B2⟩
  have h2 := h1.below B2
  have r2 := r1.below B2
  have F3 := (B2.block b3 (lt_of_block E3)).trans E3
  have BB := below_size B3 B3.size B2
  clear cR h1 r1 E3 x0 x1 B2 B3
  obtain ⟨x0, x1⟩ := rec_cells F3
  cases hok : okR c xs with
  | false =>
    go_wp2
    go_ret
    exact ⟨⟨_, rfl⟩, Fr.of_below BB, RowsK.of_below BB⟩
  | true =>
    obtain ⟨mv, hblk, hV⟩ := h2.blk
    obtain ⟨y0, y1, y2⟩ := tab_cells hblk
    by_cases hle : c ≤ t.last
    · go_wp2_with fail
      go_quiet (fail)
      go_wp2
      go_ret
      exact ⟨⟨_, rfl⟩, Fr.of_below (below_drewN' BB _), RowsK.of_below (below_drewN' BB _)⟩
    · go_wp2_with fail
      go_quiet (fail)
      have h3 : Tb (w2.drewN nq) S R b t := h2.same (Nat.le_refl _) (fun _ _ => rfl)
      have r3 : OwnC (w2.drewN nq) base 51 (.slice ra n cap) xs := r2.below ⟨rfl, rfl, rfl, Nat.le_refl _, fun _ _ => rfl⟩
      have G3 : (w2.drewN nq).heap[b3]? = some (recB c (.slice ra n cap) 38) := F3
      have B3 := below_drewN' BB nq
      have hblk3 : (w2.drewN nq).heap[b]? = some (tabB t.first t.last mv) := hblk
      have hV3 : TbV (w2.drewN nq) S R mv t.m := hV.same h2.sets (fun _ h => h) (fun _ _ h => h) (fun _ h => h) (fun _ _ => rfl)
      have hdec : decide (c ≤ t.last) = false := decide_eq_false (by omega)
      rw [hdec]
      clear h2 r2 F3 BB hblk hV x0 x1 y0 y1 y2 hdec
      generalize w2.drewN nq = w3 at *
      obtain ⟨x0, x1⟩ := rec_cells G3
      obtain ⟨y0, y1, y2⟩ := tab_cells hblk3
      have yf := tab_frozen hblk3
      have hbl : Hid (b < w3.heap.size) := lt_of_block hblk3
      have g1 : (w3.alloc (.map #[] 0)).cell? ⟨b, 2, none⟩ = some (.map mv) := ((box_below (o := .map #[] 0)).cell (p := ⟨b, 2, none⟩) hbl.out).trans y2
      have gf : (w3.alloc (.map #[] 0)).frozen? ⟨b, 2, none⟩ = false := tab_frozen ((Below.heap_alloc w3 _ b hbl.out).trans hblk3) 2
      go_upto_if 23 with fail
      go_cut [] from 23 to 27 (fun wx => ∃ mb, Mid w3 S R b mb t.first t.last wx (applM c (xs.take 0) t.m) ∧ ((mv = some mb ∧ wx = w3) ∨ mv = none))
      case first =>
        cases mv with
        | none =>
          go_wp2
          go_meet
          exact ⟨_, Mid.made hblk3 h3.sets h3.own hV3, .inr trivial⟩
        | some mb =>
          go_wp2
          go_meet
          obtain ⟨F, hF⟩ := hV3
          exact ⟨mb, ⟨⟨F, S, R, hF, h3.sets, h3.own, Grow.refl _ _, Grow.refl _ _⟩, hblk3, Fr.refl _ _⟩, .inl ⟨rfl, rfl⟩⟩
      case rest =>
      obtain ⟨mb, M0, hmv⟩ := hcut
      replace hmv : Hid _ := hmv
      have Q0 : Hid (RwQ mv w3 S R t wc 0 wc) := by
        refine ⟨fun _ => rfl, fun mb' F' e hF' q c sv hq => ?_⟩
        rcases hmv.out with ⟨_, e2⟩ | e2
        · rw [e2]
          exact PreT.of_block (hF'.row hq).2 (fun _ _ => rfl)
        · rw [e2] at e
          cases e
      have hblk3' : Hid (w3.heap[b]? = some (tabB t.first t.last mv)) := hblk3
      obtain ⟨wc0, hwc0⟩ : ∃ q, Hid (q = wc) := ⟨_, rfl⟩
      rw [← hwc0.out] at Q0
      have hmv0 : Hid ((mv = some mb ∧ wc0 = w3) ∨ mv = none) := by rw [hwc0.out]; exact hmv.out
      clear hmv
      clear y0 y1 y2 yf g1 gf hem hmm hV3 hblk3
      have hn : n ≤ 9223372036854775807 := by have h1 := r3.isC.most; have h2 := r3.isC.room; unfold maxLen at h1; omega
      have hnb3 : ¬ S b3 := fun hS => by have := h.sets.sl b3 hS; omega
      have Gc := (M0.fr.block b3 (lt_of_block G3) hnb3).trans G3
      obtain ⟨z0, z1⟩ := rec_cells Gc
      go_wp2
      go_loopw [31] (fun iv wr => ∃ k : Nat, k ≤ n ∧ iv = .int .i64 (k : Int) ∧ Mid w3 S R b mb t.first t.last wr (applM c (xs.take k) t.m) ∧ Hid (RwQ mv w3 S R t wc0 k wr)) (fun iv _ => n - (intOf iv).toNat)
      case atStart => exact ⟨0, by omega, rfl, M0, by rw [← hwc0.out]; exact Q0⟩
      case round =>
        obtain ⟨k, hk, rfl, M, RQ⟩ := hrel
        clear Q0 hwc0
        obtain ⟨⟨F, S', R', hM, hs, hSb, gS, gR⟩, hblk, hfr⟩ := M
        have Gr := (hfr.block b3 (lt_of_block G3) hnb3).trans G3
        by_cases hlt : k < n
        · have hki : (k : Int) < (n : Int) := by omega
          have rr := r3.fr hfr h3.sets.ty
          obtain ⟨cb, off, x, rfl, hbl0, hx, hcx, hox⟩ := rr.isC.at_ k hlt
          obtain ⟨oo, g, cc, vs, bs⟩ := x
          obtain ⟨sa, sn, sc, ba, bn, bc, c0, c1, c2, c3, c4, io⟩ := hcx
          simp only at c0 c1 c2 io hox
          have hok' : okL 0 xs = true := by unfold okR at hok; simp at hok; exact hok.2
          have hc1 : 1 ≤ c ∧ c ≤ 1099511627776 := by unfold okR at hok; simp at hok; exact hok.1.1
          have hc64 : -9223372036854775808 ≤ c ∧ c ≤ 9223372036854775807 := by omega
          have hat := okL_at xs 0 k _ hok' hx.out
          simp only at hat
          have hln := okCh_len hat.2.2
          have ho : Hid (1 ≤ oo ∧ oo ≤ 4096) := ⟨by omega, by omega⟩
          have hsn : sn ≤ 8796093022208 := by have := io.v.size; omega
          have hbn : bn ≤ 140737488355328 := by have := io.b.size; omega
          have gk := GoodM.applK h3.good (by have := h3.first0; omega) hle hok' k
          have hxl := gk.len hc1.2 oo
          obtain ⟨mk, hmk⟩ : ∃ mk, Hid (applM c (xs.take k) t.m = mk) := ⟨_, rfl⟩
          rw [hmk.out] at hM hxl
          obtain ⟨va, vn, vc, hget, hrow, _⟩ := hM.get oo
          replace hget : Hid ((F oo).getD (.agg #[.int .i64 0, .slice none 0 0]) = .agg #[.int .i64 (mk oo).chg, .slice va vn vc]) := hget
          have E6 := new1 wr (chB oo g cc (.slice sa sn sc) (.slice ba bn bc))
          have B6 : Below wr.heap.size wr (wr.alloc (chB oo g cc (.slice sa sn sc) (.slice ba bn bc))) := box_below
          unfold chB at E6 B6
          have l6 : wr.heap.size ≤ wr.heap.size := Nat.le_refl _
          clear hat hln gk hok' hc1 hlt M0 z0 z1 Gc x0 x1 hr r3 G3
          go_upto_region 12 with fail
          generalize wr.alloc (.cells #[.int .i64 oo, .bool g, .int .i64 cc, .slice sa sn sc, .slice ba bn bc] 51) = wq at *
          obtain ⟨b6, hb6⟩ : ∃ q, q = wr.heap.size := ⟨_, rfl⟩
          rw [← hb6] at E6 ⊢
          replace hb6 : wr.heap.size ≤ b6 := Nat.le_of_eq hb6.symm
          replace E6 : wq.heap[b6]? = some (chB oo g cc (.slice sa sn sc) (.slice ba bn bc)) := E6
          obtain ⟨z0, z1, z2, z3, z4⟩ := chB_cells E6
          have hblkq := (B6.block b (lt_of_block hblk)).trans hblk
          obtain ⟨y0, y1, y2⟩ := tab_cells hblkq
          obtain ⟨x0, x1⟩ := rec_cells ((B6.block b3 (lt_of_block Gr)).trans Gr)
          replace hM := hM.same hs (fun _ h => h) (fun _ _ h => h) (fun _ h => h) (fun q hq => B6.block q (hs.lt hq)) (w' := wq)
          replace hrow := hrow.same (fun _ h => h) (fun _ _ h => h) (fun _ h => h) (fun q hq _ => B6.block q hq) (fun q hq => B6.block q (hrow.block hq).2.1) (w' := wq)
          replace io := io.below B6
          replace hs := hs.same B6.size (fun q hq => B6.block q (hs.lt hq)) (w' := wq)
          obtain ⟨ch, hch⟩ : ∃ ch, (mk oo).chg = ch := ⟨_, rfl⟩
          replace hch : Hid ((mk oo).chg = ch) := hch
          rw [hch.out] at hget
          clear c0 c1 c2 c3 c4
          refine abstract_act fun A hA => ?_
          have hsz : A.tmps.size = 58 := by rw [hA]; rfl
          have s0 : A.tmps[0]? = some (.pointer (some ⟨b, 0, none⟩)) := by rw [hA]; rfl
          have s3 : A.tmps[3]? = some (.pointer (some ⟨b3, 0, none⟩)) := by rw [hA]; rfl
          have s6 : A.tmps[6]? = some (.pointer (some ⟨b6, 0, none⟩)) := by rw [hA]; rfl
          refine wp_region_inv' (fun A D a w' => ∃ (l : List Value) (a8 : Option Addr) (n8 : Nat) (c8 : Nat), a = putAll A 35 l ∧ l.length = 17 ∧ (∀ j, j < 17 → D j → l[j]? = some (aplV b b3 b6 mb oo c ch cc g va sa ba vn vc sn sc bn bc a8 n8 c8 j)) ∧ (D 16 ∨ Below wq.heap.size wq w') ∧ (D 17 ∨ (w'.heap[b]? = wq.heap[b]? ∧ w'.heap[b6]? = wq.heap[b6]?)) ∧ (D 17 → ∃ wp w6 : World, Below wq.heap.size wq wp ∧ WFin wp S' R' (.slice va vn vc) (.slice a8 n8 c8) (withL c ⟨oo, g, cc, vs, bs⟩ (mk oo).vs) w6 ∧ PreV wp w6 (.slice va vn vc) ∧ IsMap w' mb (fun i => if i = oo then some (.agg #[.int .i64 c, .slice a8 n8 c8]) else F i) ∧ w6.grownBy w' (some mb)) ∧ (D 16 → ¬ D 17 → ∃ wp : World, Below wq.heap.size wq wp ∧ WFin wp S' R' (.slice va vn vc) (.slice a8 n8 c8) (withL c ⟨oo, g, cc, vs, bs⟩ (mk oo).vs) w' ∧ PreV wp w' (.slice va vn vc))) (by kernel_rfl) (by kernel_rfl) ?mono ?start ?step ?done
          case mono =>
            rintro D D' a w' hD ⟨l, a8, n8, c8, ha, hlen, hl, hB, hC, hQ, hWi⟩
            exact ⟨l, a8, n8, c8, ha, hlen, fun j hj h => hl j hj ((hD j).2 h), hB.imp_left (hD 16).1, hC.imp_left (hD 17).1, fun h => hQ ((hD 17).2 h), fun h h' => hWi ((hD 16).2 h) (fun k => h' ((hD 17).1 k))⟩
          case start => exact ⟨_, none, 0, 0, (putAll_start A 35 17 (by omega)).1, (putAll_start A 35 17 (by omega)).2, fun _ _ h => h.elim, .inr ((Below.refl _ _).drew), .inr (⟨rfl, rfl⟩), fun h => h.elim, fun h _ => h.elim⟩
          case step =>
            clear hA
            intro i o ho D a w' hI hn hcl hd
            obtain ⟨l, a8, n8, c8, ha, hlen, hl, hB, hC, hQ, hWi⟩ := hI
            match i, ho with
            | 0, ho =>
              cases Option.some.inj ho
              have ev : a.tmps[0]? = some (.pointer (some ⟨b, 0, none⟩)) := by rw [ha, putAll_low A 35 0 l (by omega) (by decide)]; exact s0
              refine wp_value (w' := w') (v := .pointer (some ⟨b, 0, none⟩)) (by simp [execOp, ev, go_sem]) ?_
              exact ⟨_, a8, n8, c8, by rw [ha]; exact putAll_put A 35 0 l _ (by omega) (by omega), by rw [List.length_set]; exact hlen, set_known hlen (by decide) hl, hB.imp_left .inr, hC.imp_left .inr, fun h => hQ (h.resolve_left (by decide)), fun h h' => hWi (h.resolve_left (by decide)) (fun k => h' (.inr k))⟩
            | 1, ho =>
              cases Option.some.inj ho
              have ev : a.tmps[35]? = some (.pointer (some ⟨b, 0, none⟩)) := known_at ha hsz hlen hl 0 (by decide) (hd ⟨0, .data⟩ (by simp) rfl)
              refine wp_value (w' := w') (v := .pointer (some ⟨b, 0, none⟩)) (by simp [execOp, ev, go_sem]) ?_
              exact ⟨_, a8, n8, c8, by rw [ha]; exact putAll_put A 35 1 l _ (by omega) (by omega), by rw [List.length_set]; exact hlen, set_known hlen (by decide) hl, hB.imp_left .inr, hC.imp_left .inr, fun h => hQ (h.resolve_left (by decide)), fun h h' => hWi (h.resolve_left (by decide)) (fun k => h' (.inr k))⟩
            | 2, ho =>
              cases Option.some.inj ho
              have ev : a.tmps[36]? = some (.pointer (some ⟨b, 0, none⟩)) := known_at ha hsz hlen hl 1 (by decide) (hd ⟨1, .data⟩ (by simp) rfl)
              refine wp_value (w' := w') (v := .pointer (some ⟨b, 2, none⟩)) (by simp [execOp, ev, go_sem]) ?_
              exact ⟨_, a8, n8, c8, by rw [ha]; exact putAll_put A 35 2 l _ (by omega) (by omega), by rw [List.length_set]; exact hlen, set_known hlen (by decide) hl, hB.imp_left .inr, hC.imp_left .inr, fun h => hQ (h.resolve_left (by decide)), fun h h' => hWi (h.resolve_left (by decide)) (fun k => h' (.inr k))⟩
            | 3, ho =>
              cases Option.some.inj ho
              have ev : a.tmps[37]? = some (.pointer (some ⟨b, 2, none⟩)) := known_at ha hsz hlen hl 2 (by decide) (hd ⟨2, .data⟩ (by simp) rfl)
              have hc := (cell_eq' (hC.resolve_left (fun h => hn (hcl 17 _ rfl h ⟨3, .data⟩ (by simp) rfl))).1 2).trans y2
              refine wp_value (w' := w') (v := .map (some mb)) (by simp [execOp, ev, go_sem, hc]) ?_
              exact ⟨_, a8, n8, c8, by rw [ha]; exact putAll_put A 35 3 l _ (by omega) (by omega), by rw [List.length_set]; exact hlen, set_known hlen (by decide) hl, hB.imp_left .inr, hC.imp_left .inr, fun h => hQ (h.resolve_left (by decide)), fun h h' => hWi (h.resolve_left (by decide)) (fun k => h' (.inr k))⟩
            | 4, ho =>
              cases Option.some.inj ho
              have ev : a.tmps[6]? = some (.pointer (some ⟨b6, 0, none⟩)) := by rw [ha, putAll_low A 35 6 l (by omega) (by decide)]; exact s6
              refine wp_value (w' := w') (v := .pointer (some ⟨b6, 0, none⟩)) (by simp [execOp, ev, go_sem]) ?_
              exact ⟨_, a8, n8, c8, by rw [ha]; exact putAll_put A 35 4 l _ (by omega) (by omega), by rw [List.length_set]; exact hlen, set_known hlen (by decide) hl, hB.imp_left .inr, hC.imp_left .inr, fun h => hQ (h.resolve_left (by decide)), fun h h' => hWi (h.resolve_left (by decide)) (fun k => h' (.inr k))⟩
            | 5, ho =>
              cases Option.some.inj ho
              have ev : a.tmps[39]? = some (.pointer (some ⟨b6, 0, none⟩)) := known_at ha hsz hlen hl 4 (by decide) (hd ⟨4, .data⟩ (by simp) rfl)
              have hc := (cell_eq' (hC.resolve_left (fun h => hn (hcl 17 _ rfl h ⟨5, .data⟩ (by simp) rfl))).2 0).trans z0
              refine wp_value (w' := w') (v := .int .i64 oo) (by simp [execOp, ev, go_sem, hc]) ?_
              exact ⟨_, a8, n8, c8, by rw [ha]; exact putAll_put A 35 5 l _ (by omega) (by omega), by rw [List.length_set]; exact hlen, set_known hlen (by decide) hl, hB.imp_left .inr, hC.imp_left .inr, fun h => hQ (h.resolve_left (by decide)), fun h h' => hWi (h.resolve_left (by decide)) (fun k => h' (.inr k))⟩
            | 6, ho =>
              cases Option.some.inj ho
              have ev : a.tmps[0]? = some (.pointer (some ⟨b, 0, none⟩)) := by rw [ha, putAll_low A 35 0 l (by omega) (by decide)]; exact s0
              refine wp_value (w' := w') (v := .pointer (some ⟨b, 0, none⟩)) (by simp [execOp, ev, go_sem]) ?_
              exact ⟨_, a8, n8, c8, by rw [ha]; exact putAll_put A 35 6 l _ (by omega) (by omega), by rw [List.length_set]; exact hlen, set_known hlen (by decide) hl, hB.imp_left .inr, hC.imp_left .inr, fun h => hQ (h.resolve_left (by decide)), fun h h' => hWi (h.resolve_left (by decide)) (fun k => h' (.inr k))⟩
            | 7, ho =>
              cases Option.some.inj ho
              have ev : a.tmps[41]? = some (.pointer (some ⟨b, 0, none⟩)) := known_at ha hsz hlen hl 6 (by decide) (hd ⟨6, .data⟩ (by simp) rfl)
              refine wp_value (w' := w') (v := .pointer (some ⟨b, 0, none⟩)) (by simp [execOp, ev, go_sem]) ?_
              exact ⟨_, a8, n8, c8, by rw [ha]; exact putAll_put A 35 7 l _ (by omega) (by omega), by rw [List.length_set]; exact hlen, set_known hlen (by decide) hl, hB.imp_left .inr, hC.imp_left .inr, fun h => hQ (h.resolve_left (by decide)), fun h h' => hWi (h.resolve_left (by decide)) (fun k => h' (.inr k))⟩
            | 8, ho =>
              cases Option.some.inj ho
              have ev : a.tmps[42]? = some (.pointer (some ⟨b, 0, none⟩)) := known_at ha hsz hlen hl 7 (by decide) (hd ⟨7, .data⟩ (by simp) rfl)
              refine wp_value (w' := w') (v := .pointer (some ⟨b, 2, none⟩)) (by simp [execOp, ev, go_sem]) ?_
              exact ⟨_, a8, n8, c8, by rw [ha]; exact putAll_put A 35 8 l _ (by omega) (by omega), by rw [List.length_set]; exact hlen, set_known hlen (by decide) hl, hB.imp_left .inr, hC.imp_left .inr, fun h => hQ (h.resolve_left (by decide)), fun h h' => hWi (h.resolve_left (by decide)) (fun k => h' (.inr k))⟩
            | 9, ho =>
              cases Option.some.inj ho
              have ev : a.tmps[43]? = some (.pointer (some ⟨b, 2, none⟩)) := known_at ha hsz hlen hl 8 (by decide) (hd ⟨8, .data⟩ (by simp) rfl)
              have hc := ((hB.resolve_left (fun h => (fun h => hn (hcl 12 _ rfl h ⟨9, .data⟩ (by simp) rfl)) (hcl 16 _ rfl h ⟨12, .data⟩ (by simp) rfl))).cell (p := ⟨b, 2, none⟩) (lt_of_cell y2)).trans y2
              refine wp_value (w' := w') (v := .map (some mb)) (by simp [execOp, ev, go_sem, hc]) ?_
              exact ⟨_, a8, n8, c8, by rw [ha]; exact putAll_put A 35 9 l _ (by omega) (by omega), by rw [List.length_set]; exact hlen, set_known hlen (by decide) hl, hB.imp_left .inr, hC.imp_left .inr, fun h => hQ (h.resolve_left (by decide)), fun h h' => hWi (h.resolve_left (by decide)) (fun k => h' (.inr k))⟩
            | 10, ho =>
              cases Option.some.inj ho
              have ev : a.tmps[6]? = some (.pointer (some ⟨b6, 0, none⟩)) := by rw [ha, putAll_low A 35 6 l (by omega) (by decide)]; exact s6
              refine wp_value (w' := w') (v := .pointer (some ⟨b6, 0, none⟩)) (by simp [execOp, ev, go_sem]) ?_
              exact ⟨_, a8, n8, c8, by rw [ha]; exact putAll_put A 35 10 l _ (by omega) (by omega), by rw [List.length_set]; exact hlen, set_known hlen (by decide) hl, hB.imp_left .inr, hC.imp_left .inr, fun h => hQ (h.resolve_left (by decide)), fun h h' => hWi (h.resolve_left (by decide)) (fun k => h' (.inr k))⟩
            | 11, ho =>
              cases Option.some.inj ho
              have ev : a.tmps[45]? = some (.pointer (some ⟨b6, 0, none⟩)) := known_at ha hsz hlen hl 10 (by decide) (hd ⟨10, .data⟩ (by simp) rfl)
              have hc := ((hB.resolve_left (fun h => (fun h => hn (hcl 12 _ rfl h ⟨11, .data⟩ (by simp) rfl)) (hcl 16 _ rfl h ⟨12, .data⟩ (by simp) rfl))).cell (p := ⟨b6, 0, none⟩) (lt_of_cell z0)).trans z0
              refine wp_value (w' := w') (v := .int .i64 oo) (by simp [execOp, ev, go_sem, hc]) ?_
              exact ⟨_, a8, n8, c8, by rw [ha]; exact putAll_put A 35 11 l _ (by omega) (by omega), by rw [List.length_set]; exact hlen, set_known hlen (by decide) hl, hB.imp_left .inr, hC.imp_left .inr, fun h => hQ (h.resolve_left (by decide)), fun h h' => hWi (h.resolve_left (by decide)) (fun k => h' (.inr k))⟩
            | 12, ho =>
              cases Option.some.inj ho
              have ev : a.tmps[44]? = some (.map (some mb)) := known_at ha hsz hlen hl 9 (by decide) (hd ⟨9, .data⟩ (by simp) rfl)
              have ev' : a.tmps[46]? = some (.int .i64 oo) := known_at ha hsz hlen hl 11 (by decide) (hd ⟨11, .data⟩ (by simp) rfl)
              have hb := hB.resolve_left (fun h => hn (hcl 16 _ rfl h ⟨12, .data⟩ (by simp) rfl))
              have hlk := apl_look hM hs hb oo
              rw [hget.out] at hlk
              refine wp_value (w' := w') (v := .agg #[.int .i64 ch, .slice va vn vc]) (by simp [execOp, ev, ev', go_sem, hlk]) ?_
              exact ⟨_, a8, n8, c8, by rw [ha]; exact putAll_put A 35 12 l _ (by omega) (by omega), by rw [List.length_set]; exact hlen, set_known hlen (by decide) hl, hB.imp_left .inr, hC.imp_left .inr, fun h => hQ (h.resolve_left (by decide)), fun h h' => hWi (h.resolve_left (by decide)) (fun k => h' (.inr k))⟩
            | 13, ho =>
              cases Option.some.inj ho
              have ev : a.tmps[3]? = some (.pointer (some ⟨b3, 0, none⟩)) := by rw [ha, putAll_low A 35 3 l (by omega) (by decide)]; exact s3
              refine wp_value (w' := w') (v := .pointer (some ⟨b3, 0, none⟩)) (by simp [execOp, ev, go_sem]) ?_
              exact ⟨_, a8, n8, c8, by rw [ha]; exact putAll_put A 35 13 l _ (by omega) (by omega), by rw [List.length_set]; exact hlen, set_known hlen (by decide) hl, hB.imp_left .inr, hC.imp_left .inr, fun h => hQ (h.resolve_left (by decide)), fun h h' => hWi (h.resolve_left (by decide)) (fun k => h' (.inr k))⟩
            | 14, ho =>
              cases Option.some.inj ho
              have ev : a.tmps[48]? = some (.pointer (some ⟨b3, 0, none⟩)) := known_at ha hsz hlen hl 13 (by decide) (hd ⟨13, .data⟩ (by simp) rfl)
              have hc := ((hB.resolve_left (fun h => hn (hcl 16 _ rfl h ⟨14, .data⟩ (by simp) rfl))).cell (p := ⟨b3, 0, none⟩) (lt_of_cell x0)).trans x0
              refine wp_value (w' := w') (v := .int .i64 c) (by simp [execOp, ev, go_sem, hc]) ?_
              exact ⟨_, a8, n8, c8, by rw [ha]; exact putAll_put A 35 14 l _ (by omega) (by omega), by rw [List.length_set]; exact hlen, set_known hlen (by decide) hl, hB.imp_left .inr, hC.imp_left .inr, fun h => hQ (h.resolve_left (by decide)), fun h h' => hWi (h.resolve_left (by decide)) (fun k => h' (.inr k))⟩
            | 15, ho =>
              cases Option.some.inj ho
              have ev : a.tmps[6]? = some (.pointer (some ⟨b6, 0, none⟩)) := by rw [ha, putAll_low A 35 6 l (by omega) (by decide)]; exact s6
              have hb := hB.resolve_left (fun h => hn (hcl 16 _ rfl h ⟨15, .data⟩ (by simp) rfl))
              have q0 := (hb.cell (p := ⟨b6, 0, none⟩) (lt_of_cell z0)).trans z0
              have q1 := (hb.cell (p := ⟨b6, 1, none⟩) (lt_of_cell z1)).trans z1
              have q2 := (hb.cell (p := ⟨b6, 2, none⟩) (lt_of_cell z2)).trans z2
              have q3 := (hb.cell (p := ⟨b6, 3, none⟩) (lt_of_cell z3)).trans z3
              have q4 := (hb.cell (p := ⟨b6, 4, none⟩) (lt_of_cell z4)).trans z4
              refine wp_value (w' := w') (v := .agg #[.int .i64 oo, .bool g, .int .i64 cc, .slice sa sn sc, .slice ba bn bc]) (by simp [execOp, ev, go_sem, q0, q1, q2, q3, q4]) ?_
              exact ⟨_, a8, n8, c8, by rw [ha]; exact putAll_put A 35 15 l _ (by omega) (by omega), by rw [List.length_set]; exact hlen, set_known hlen (by decide) hl, hB.imp_left .inr, hC.imp_left .inr, fun h => hQ (h.resolve_left (by decide)), fun h h' => hWi (h.resolve_left (by decide)) (fun k => h' (.inr k))⟩
            | 16, ho =>
              cases Option.some.inj ho
              have ev : a.tmps[47]? = some (.agg #[.int .i64 ch, .slice va vn vc]) := known_at ha hsz hlen hl 12 (by decide) (hd ⟨12, .data⟩ (by simp) rfl)
              have ev' : a.tmps[49]? = some (.int .i64 c) := known_at ha hsz hlen hl 14 (by decide) (hd ⟨14, .data⟩ (by simp) rfl)
              have ev'' : a.tmps[50]? = some (.agg #[.int .i64 oo, .bool g, .int .i64 cc, .slice sa sn sc, .slice ba bn bc]) := known_at ha hsz hlen hl 15 (by decide) (hd ⟨15, .data⟩ (by simp) rfl)
              have hb := hB.resolve_left hn
              refine wp_enter (f := 36) (args := #[.agg #[.int .i64 ch, .slice va vn vc], .int .i64 c, .agg #[.int .i64 oo, .bool g, .int .i64 cc, .slice sa sn sc, .slice ba bn bc]]) (by simp [execOp, ev, ev', ev'', go_sem]) ?_
              refine (with_anyP ch c oo cc g (hrow.same (fun _ h => h) (fun _ _ h => h) (fun _ h => h) (fun q hq _ => hb.block q hq) (fun q hq => hb.block q (hrow.block hq).2.1)) (io.below hb) hsn hbn hc64 hxl (fun q hq => Nat.lt_of_lt_of_le (hs.sl q hq) hb.size) (fun q hq => Nat.lt_of_lt_of_le (hs.rl q hq) hb.size) (fun q cur e hq hh => hs.ty q cur e hq (by rw [← hb.block q (hs.sl q hq)]; exact hh))).mono ?_
              rintro e w6 ⟨⟨a8', n8', c8', rfl, FN⟩, P6⟩
              refine ⟨_, rfl, ?_⟩
              exact ⟨_, a8', n8', c8', by rw [ha]; exact putAll_put A 35 16 l _ (by omega) (by omega), by rw [List.length_set]; exact hlen, set_known' (val' := aplV b b3 b6 mb oo c ch cc g va sa ba vn vc sn sc bn bc a8' n8' c8') hlen (by decide) hl (fun j hj hne => match j, hj, hne with | 0, _, _ => rfl | 1, _, _ => rfl | 2, _, _ => rfl | 3, _, _ => rfl | 4, _, _ => rfl | 5, _, _ => rfl | 6, _, _ => rfl | 7, _, _ => rfl | 8, _, _ => rfl | 9, _, _ => rfl | 10, _, _ => rfl | 11, _, _ => rfl | 12, _, _ => rfl | 13, _, _ => rfl | 14, _, _ => rfl | 15, _, _ => rfl | 16, _, hne => absurd rfl hne | j + 17, _, _ => rfl), .inl (.inl rfl), .inr ⟨apl_keep hb FN hrow hblkq (by decide), apl_keep hb FN hrow E6 (by decide)⟩, fun h => absurd (h.resolve_left (by decide)) (fun h => hn (hcl 17 _ rfl h ⟨16, .data⟩ (by simp) rfl)), fun _ _ => ⟨w', hb, FN, P6⟩⟩
            | 17, ho =>
              cases Option.some.inj ho
              have ev : a.tmps[38]? = some (.map (some mb)) := known_at ha hsz hlen hl 3 (by decide) (hd ⟨3, .data⟩ (by simp) rfl)
              have ev' : a.tmps[40]? = some (.int .i64 oo) := known_at ha hsz hlen hl 5 (by decide) (hd ⟨5, .data⟩ (by simp) rfl)
              have ev'' : a.tmps[51]? = some (.agg #[.int .i64 c, .slice a8 n8 c8]) := known_at ha hsz hlen hl 16 (by decide) (hd ⟨16, .data⟩ (by simp) rfl)
              obtain ⟨wp, hbp, FN, P6⟩ := hWi (hd ⟨16, .data⟩ (by simp) rfl) hn
              obtain ⟨w7, hr7, M7, g7⟩ := (hM.map6 hs hbp (by rw [hch.out]; exact hget.out) FN).update (P := Try.prog) Try.underlying70 Try.underlying2 oo (.agg #[.int .i64 c, .slice a8 n8 c8])
              refine wp_skip (w' := w7) (by simp [execOp, Act.eval, ev, ev', ev'', go_sem, hr7]) ?_
              exact ⟨l, a8, n8, c8, ha, hlen, fun j hj h => hl j hj (h.resolve_left (by omega)), .inl (.inr (hd ⟨16, .data⟩ (by simp) rfl)), .inl (.inl rfl), fun _ => ⟨wp, w', hbp, FN, P6, M7, g7⟩, fun _ h' => absurd (.inl rfl) h'⟩
            | i + 18, ho => simp at ho
          case done =>
            rintro D a w' ⟨l, a8, n8, c8, ha, hlen, hl, hB, hC, hQ, hWi⟩ hall
            obtain ⟨v0, v1, v2, v3, v4, v5, v6, v7, v8, v9, v10, v11, v12, v13, v14, v15, v16, rfl⟩ := aplV_list hlen
            obtain ⟨wp, w6, hbp, FN, P6, M7, g7⟩ := hQ (hall 17 (by decide))
            subst hA
            have hfr : a = _ := ha
            rw [hfr]
            clear hfr ha
            simp only [putAll, List.take_succ_cons, List.take_zero, List.drop_succ_cons, List.drop_zero, List.cons_append, List.nil_append, List.length_cons, List.length_nil]
            clear hl hB hQ hWi hC hall
            have k6 := apl_keep hbp FN hrow hblkq (by decide)
            have hbm : b ≠ mb := hM.map.noCells hblkq
            have RQ9 : Hid (RwQ mv w3 S R t wc0 (k + 1) w') := by
              refine ⟨fun e => absurd e (by omega), fun mb' F' e hF' => ?_⟩
              have hw3 : wr = wc0 := RQ.out.1 (by omega)
              rcases hmv0.out with ⟨e1, e2⟩ | e1
              · rw [e1] at e
                cases e
                have hr3 : wr = w3 := hw3.trans e2
                rw [hr3] at B6
                have eF : F' = F := (hF'.map.same (B6.block mb hF'.map.lt)).uniq hM.map
                subst eF
                exact rows_turn hF' B6 hM hbp (by rw [hget.out]) FN P6 g7
              · rw [e1] at e
                cases e
            obtain ⟨S2, R2, t1, t2, t3, t4, t5, _, _⟩ := hM.turn hs hbp (by rw [hch.out]; exact hget.out) FN M7 g7 ho.out (m' := putM c ⟨oo, g, cc, vs, bs⟩ mk) (by simp [putM]) (fun q hq => by simp [putM, hq])
            have hmid := Mid.step gS gR hfr B6 hSb hblkq t1 t2 t3 t4 t5 k6 g7 hbm
            have hsnoc : xs.take (k + 1) = xs.take k ++ [⟨oo, g, cc, vs, bs⟩] := take_at hx.out
            have happ : applM c (xs.take (k + 1)) t.m = putM c ⟨oo, g, cc, vs, bs⟩ mk := by rw [hsnoc, applM_snoc, hmk.out]
            rw [← happ] at hmid
            clear hsnoc happ t1 t2 t3 t4 t5 k6 hbm hM hs M7 g7 FN hbp hrow io hblkq
            go_wp2
            go_roundw
            case rel => exact ⟨k + 1, by omega, by go_num, hmid, RQ9⟩
            case measure => simp [intOf]; omega
        · have hki : ¬ (k : Int) < (n : Int) := by omega
          have hkn : k = n := by omega
          have hst := tab_frozen hblk 1
          obtain ⟨z0, z1⟩ := rec_cells Gr
          obtain ⟨y0, y1, y2⟩ := tab_cells hblk
          have hkx : xs.take k = xs := List.take_of_length_le (by rw [r3.isC.size]; omega)
          have hok' : okL 0 xs = true := by unfold okR at hok; simp at hok; exact hok.2
          have hc1 : 1 ≤ c ∧ c ≤ 1099511627776 := by unfold okR at hok; simp at hok; exact hok.1.1
          have gk := GoodM.applK h3.good (by have := h3.first0; omega) hle hok' k
          have fin := Mid.done (c := c) ⟨⟨F, S', R', hM, hs, hSb, gS, gR⟩, hblk, hfr⟩ gk (by have := h3.first0; omega) h3.own
          rw [hkx] at fin
          replace fin : Hid _ := fin
          clear hkx hok' hc1 gk hkn
          go_wp2
          go_ret
          obtain ⟨S2, R2, f1, f2, f3, f4⟩ := fin.out
          refine ⟨⟨_, rfl⟩, (Fr.of_below B3).trans f4 (fun _ _ h => h), fun mb' F' e hF' q c' sv hq => ?_⟩
          have e3 : mv = some mb' := by
            have q1 := hblk3'.out
            rw [B3.block b (lt_of_block e), e] at q1
            unfold tabB at q1
            injection q1 with q1
            injection q1 with q1
            have := congrArg Array.toList q1
            simp at this
            exact this.symm
          have hF3 : TbM w3 S R mb' F' t.m := hF'.same h.sets (fun _ h => h) (fun _ _ h => h) (fun _ h => h) (fun g hg => B3.block g (h.sets.lt hg))
          have p := RQ.out.2 mb' F' e3 hF3 q c' sv hq
          have hr0 := (hF'.row hq).2
          have p0 : PreT w wr sv := ⟨(PreV.of_below B3 (fun x hx => (hr0.block hx).2.1)).trans p.pre, p.row⟩
          exact p0.set (fun hx => by
            obtain ⟨_, _, cur, hh⟩ := hr0.block hx
            rw [e] at hh
            unfold tabB at hh
            cases hh)
end Go.Proofs.Ytajdelinfkodbaa
