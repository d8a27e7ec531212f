/- Put and Make of objects of the call itself. -/
import Derived.Test.YteomolihandfnaaGreatChs
namespace Go.Proofs.YteomolihandfnaaGreat
open Go.RowKit
set_option maxRecDepth 100000
/-- An object that stays while a block turns. -/
structure ObX (w : World) (b : Nat) (c : Int) (sa : Option Addr) (sn sc : Nat) (ba : Option Addr) (bn bc : Nat) (vs : List (Int × Int)) (bs : List Int) : Prop where
  io : IsO w c sa sn sc ba bn bc vs bs
  st : ∀ w2 : World, w.heap.size ≤ w2.heap.size → (∀ g, g < w.heap.size → g ≠ b → w2.heap[g]? = w.heap[g]?) → IsO w2 c sa sn sc ba bn bc vs bs
theorem ObX.step {w w2 : World} {b : Nat} {c : Int} {sa : Option Addr} {sn sc : Nat} {ba : Option Addr} {bn bc : Nat} {vs : List (Int × Int)} {bs : List Int} (h : ObX w b c sa sn sc ba bn bc vs bs) (hs : w.heap.size ≤ w2.heap.size) (hk : ∀ g, g < w.heap.size → g ≠ b → w2.heap[g]? = w.heap[g]?) : ObX w2 b c sa sn sc ba bn bc vs bs :=
  ⟨h.st w2 hs hk, fun w3 h3 k3 => h.st w3 (Nat.le_trans hs h3) (fun g hg hne => (k3 g (Nat.lt_of_lt_of_le hg hs) hne).trans (hk g hg hne))⟩
theorem ObX.below {w w2 : World} {b : Nat} {c : Int} {sa : Option Addr} {sn sc : Nat} {ba : Option Addr} {bn bc : Nat} {vs : List (Int × Int)} {bs : List Int} (h : ObX w b c sa sn sc ba bn bc vs bs) (hb : Below w.heap.size w w2) : ObX w2 b c sa sn sc ba bn bc vs bs := h.step hb.size (fun g hg _ => hb.block g hg)
theorem ObX.own {w : World} {b base : Nat} {c : Int} {sa : Option Addr} {sn sc : Nat} {ba : Option Addr} {bn bc : Nat} {vs : List (Int × Int)} {bs : List Int} (hc : -9223372036854775808 ≤ c ∧ c ≤ 9223372036854775807) (h1 : OwnV w base (.slice sa sn sc) vs) (h2 : OwnB w base (.slice ba bn bc) bs) (n1 : (Value.slice sa sn sc).ownBlock ≠ some b) (n2 : (Value.slice ba bn bc).ownBlock ≠ some b) : ObX w b c sa sn sc ba bn bc vs bs := by
  refine ⟨⟨hc, h1.isV, h2.isB⟩, fun w2 hs hk => ⟨hc, (h1.same (fun g hg => ?_)).isV, (h2.same (fun g hg => ?_)).isB⟩⟩
  · obtain ⟨_, cur, hh⟩ := own_block h1.1 hg
    exact hk g (lt_of_block' hh) (fun e => n1 (e ▸ hg))
  · obtain ⟨_, cur, hh⟩ := own_block h2.1 hg
    exact hk g (lt_of_block' hh) (fun e => n2 (e ▸ hg))
theorem ObX.nil (w : World) (b : Nat) {c : Int} (hc : -9223372036854775808 ≤ c ∧ c ≤ 9223372036854775807) : ObX w b c none 0 0 none 0 0 [] [] := ⟨isO_nil w hc, fun w2 _ _ => isO_nil w2 hc⟩
set_option maxHeartbeats 8000000 in
theorem keep_anyX {w : World} {V Q : Nat → Prop} {b tb : Nat} {v : Vw} (h0 : Vb w V Q b tb v) (k : Int) {c : Int} {sa ba : Option Addr} {sn sc bn bc : Nat} {vs : List (Int × Int)} {bs : List Int} (hO : ObX w b c sa sn sc ba bn bc vs bs) (hG : ObG ⟨c, vs, bs⟩) :
    Calls Tryz.prog 45 #[.pointer (some ⟨b, 0, none⟩), .int .i64 k, .agg #[.int .i64 c, .slice sa sn sc, .slice ba bn bc]] w fun e w' => e = .returned (.tuple #[]) ∧ VwP w V Q b tb (keepV v k ⟨c, vs, bs⟩) w' := by
  have hl := okWO_len hG
  simp only at hl
  have hsn : sn ≤ 8796093022208 := by have := hO.io.v.size; omega
  have hbn : bn ≤ 140737488355328 := by have := hO.io.b.size; omega
  have E5 := new1 w (objB c (.slice sa sn sc) (.slice ba bn bc))
  have B5 : Below w.heap.size w (w.alloc (objB c (.slice sa sn sc) (.slice ba bn bc))) := box_below
  have h := h0.below B5
  have hW1 := hO.below B5
  have n5 : b ≠ w.heap.size := by have := h0.lt b (.inl h0.own); omega
  have hem := fun (r : Option Nat) (w : World) => run_eql_map_nil (P := Tryz.prog) w 76 2 35 r Tryz.underlying76
  have hmm := @run_makeMap Tryz.prog
  unfold objB at E5 B5 h hW1
  clear h0 hl
  go_enter Tryz.func45, Tryz.ntmps45
  go_upto_region 1 with fail
  generalize w.alloc (.cells #[.int .i64 c, .slice sa sn sc, .slice ba bn bc] 35) = w1 at *
  obtain ⟨b5, hb5⟩ : ∃ q, q = w.heap.size := ⟨_, rfl⟩
  rw [← hb5] at E5 n5 ⊢
  clear hb5
  replace E5 : w1.heap[b5]? = some (objB c (.slice sa sn sc) (.slice ba bn bc)) := E5
  obtain ⟨rm, om, hblk, hR, hOw, hrm⟩ := h.blk
  obtain ⟨x0, x1, x2, x3, x4⟩ := view_cells hblk
  have xf := view_frozen hblk 3
  obtain ⟨y0, y1, y2, yf⟩ := obj_cells E5
  replace hrm : Hid _ := hrm
  have hlb : Hid (b < w1.heap.size) := h.lt b (.inl h.own)
  have g3 : (w1.alloc (.map #[] 0)).cell? ⟨b, 3, none⟩ = some (.map om) := ((box_below (o := .map #[] 0)).cell (p := ⟨b, 3, none⟩) hlb.out).trans x3
  have gf : (w1.alloc (.map #[] 0)).frozen? ⟨b, 3, none⟩ = false := view_frozen ((Below.heap_alloc w1 _ b hlb.out).trans hblk) 3
  go_upto_if 10 with fail
  go_cut [] from 10 to 14 (fun wx => ∃ (mb : Nat) (F : Int → Option Value), w1.heap.size ≤ wx.heap.size ∧ (wx.os = w1.os ∧ wx.tape = w1.tape ∧ wx.output = w1.output) ∧ (∀ g, g < w1.heap.size → g ≠ b → wx.heap[g]? = w1.heap[g]?) ∧ wx.heap[b]? = some (viewB tb v.base rm (some mb) v.made) ∧ (V mb ∨ w1.heap.size ≤ mb) ∧ rm ≠ some mb ∧ IsMap wx mb F ∧ OwF w1 Q F v.own ∧ b ≠ mb)
  case first =>
    cases om with
    | none =>
      go_wp2
      go_meet
      refine ⟨w1.heap.size, fun _ => none, by simp, ⟨rfl, rfl, rfl⟩, fun g hg hne => (heap_setCell_other _ ⟨b, 3, none⟩ g _ hne).trans (Below.heap_alloc w1 _ g hg), view_set3 ((Below.heap_alloc w1 (.map #[] 0) b hlb.out).trans hblk) (some w1.heap.size), .inr (Nat.le_refl _), fun e => ?_, (IsMap.made w1).same (heap_setCell_other _ ⟨b, 3, none⟩ _ _ (by show w1.heap.size ≠ b; have := hlb.out; omega)), fun k => hOw k, by have := hlb.out; omega⟩
      obtain ⟨_, es, cl, z⟩ := hR.in_ e
      have := lt_of_block' z
      omega
    | some mb =>
      go_wp2
      go_meet
      obtain ⟨F, hM, hV, hF⟩ := hOw
      exact ⟨mb, F, Nat.le_refl _, ⟨rfl, rfl, rfl⟩, fun _ _ _ => rfl, hblk, .inl hV, fun e => hrm.out mb e rfl, hM, hF, hM.noCells (by unfold viewB at hblk; exact hblk)⟩
  case rest =>
    obtain ⟨mb, F, c1, c2, c3, c4, c5, c6, hMq, c8, c9⟩ := hcut
    have F5 := (c3 b5 (lt_of_block E5) (fun e => n5 e.symm)).trans E5
    clear x0 x1 x2 x3 x4 xf y0 y1 y2 yf g3 gf hem hmm hOw hblk hrm
    obtain ⟨x0, x1, x2, x3, x4⟩ := view_cells c4
    obtain ⟨y0, y1, y2, yf⟩ := obj_cells F5
    have io := hW1.st wc c1 c3
    clear hW1 F5 E5
    go_upto_region 3 with fail
    refine wp_region_inv' (fun A D a w' => ∃ v15 v16 v17 v18 v19 v20 v21 ga gn gc qa qn qc, a = (((((((A.put (some 15) v15).put (some 16) v16).put (some 17) v17).put (some 18) v18).put (some 19) v19).put (some 20) v20).put (some 21) v21) ∧ (D 7 ∨ Below wc.heap.size wc w') ∧ (D 0 → v15 = .pointer (some ⟨b, 0, none⟩)) ∧ (D 1 → v16 = .pointer (some ⟨b, 0, none⟩)) ∧ (D 2 → v17 = .pointer (some ⟨b, 3, none⟩)) ∧ (D 3 → v18 = .map (some mb)) ∧ (D 4 → v19 = .int .i64 k) ∧ (D 5 → v20 = .agg #[.int .i64 c, .slice sa sn sc, .slice ba bn bc]) ∧ (D 6 → v21 = .agg #[.int .i64 c, .slice ga gn gc, .slice qa qn qc]) ∧ (D 7 → ∃ wp : World, Below wc.heap.size wc wp ∧ IsMap w' mb (fun i => if i = k then some (.agg #[.int .i64 c, .slice ga gn gc, .slice qa qn qc]) else F i) ∧ wp.grownBy w' (some mb) ∧ OwnV wp wc.heap.size (.slice ga gn gc) vs ∧ OwnB wp wc.heap.size (.slice qa qn qc) bs) ∧ (D 6 → ¬ D 7 → OwnV w' wc.heap.size (.slice ga gn gc) vs ∧ OwnB w' wc.heap.size (.slice qa qn qc) bs)) (by kernel_rfl) (by kernel_rfl) ?mono ?start ?step ?done
    case mono =>
      rintro D D' a w' hD ⟨v15, v16, v17, v18, v19, v20, v21, ga, gn, gc, qa, qn, qc, ha, hB, e0, e1, e2, e3, e4, e5, e6, hQ, hCp⟩
      exact ⟨v15, v16, v17, v18, v19, v20, v21, ga, gn, gc, qa, qn, qc, ha, hB.imp_left (hD 7).1, fun h => e0 ((hD 0).2 h), fun h => e1 ((hD 1).2 h), fun h => e2 ((hD 2).2 h), fun h => e3 ((hD 3).2 h), fun h => e4 ((hD 4).2 h), fun h => e5 ((hD 5).2 h), fun h => e6 ((hD 6).2 h), fun h => hQ ((hD 7).2 h), fun h h' => hCp ((hD 6).2 h) (fun k => h' ((hD 7).1 k))⟩
    case start => exact ⟨undef, undef, undef, undef, undef, undef, undef, none, 0, 0, none, 0, 0, by kernel_rfl, .inr ((Below.refl _ _).drew), fun h => h.elim, fun h => h.elim, fun h => h.elim, fun h => h.elim, fun h => h.elim, fun h => h.elim, fun h => h.elim, fun h => h.elim, fun h _ => h.elim⟩
    case step =>
      intro i o ho D a w' hI hn hcl hd
      obtain ⟨v15, v16, v17, v18, v19, v20, v21, ga, gn, gc, qa, qn, qc, ha, hB, e0, e1, e2, e3, e4, e5, e6, hQ, hCp⟩ := hI
      match i, ho with
      | 0, ho =>
        cases Option.some.inj ho
        have ev : a.tmps[0]?.getD undef = .pointer (some ⟨b, 0, none⟩) := by rw [ha]; kernel_rfl
        refine wp_value (w' := w') (v := .pointer (some ⟨b, 0, none⟩)) (by simp [execOp, ev, go_sem]) ?_
        exact ⟨(.pointer (some ⟨b, 0, none⟩)), v16, v17, v18, v19, v20, v21, ga, gn, gc, qa, qn, qc, by rw [ha]; kernel_rfl, hB.imp_left .inr, fun _ => rfl, fun h => e1 (h.resolve_left (by decide)), fun h => e2 (h.resolve_left (by decide)), fun h => e3 (h.resolve_left (by decide)), fun h => e4 (h.resolve_left (by decide)), fun h => e5 (h.resolve_left (by decide)), fun h => e6 (h.resolve_left (by decide)), fun h => hQ (h.resolve_left (by decide)), fun h h' => hCp (h.resolve_left (by decide)) (fun k => h' (.inr k))⟩
      | 1, ho =>
        cases Option.some.inj ho
        have ev : a.tmps[15]?.getD undef = .pointer (some ⟨b, 0, none⟩) := by rw [ha, e0 (hd ⟨0, .data⟩ (by simp) rfl)]; kernel_rfl
        refine wp_value (w' := w') (v := .pointer (some ⟨b, 0, none⟩)) (by simp [execOp, ev, go_sem]) ?_
        exact ⟨v15, (.pointer (some ⟨b, 0, none⟩)), v17, v18, v19, v20, v21, ga, gn, gc, qa, qn, qc, by rw [ha]; kernel_rfl, hB.imp_left .inr, fun h => e0 (h.resolve_left (by decide)), fun _ => rfl, fun h => e2 (h.resolve_left (by decide)), fun h => e3 (h.resolve_left (by decide)), fun h => e4 (h.resolve_left (by decide)), fun h => e5 (h.resolve_left (by decide)), fun h => e6 (h.resolve_left (by decide)), fun h => hQ (h.resolve_left (by decide)), fun h h' => hCp (h.resolve_left (by decide)) (fun k => h' (.inr k))⟩
      | 2, ho =>
        cases Option.some.inj ho
        have ev : a.tmps[16]?.getD undef = .pointer (some ⟨b, 0, none⟩) := by rw [ha, e1 (hd ⟨1, .data⟩ (by simp) rfl)]; kernel_rfl
        refine wp_value (w' := w') (v := .pointer (some ⟨b, 3, none⟩)) (by simp [execOp, ev, go_sem]) ?_
        exact ⟨v15, v16, (.pointer (some ⟨b, 3, none⟩)), v18, v19, v20, v21, ga, gn, gc, qa, qn, qc, by rw [ha]; kernel_rfl, hB.imp_left .inr, fun h => e0 (h.resolve_left (by decide)), fun h => e1 (h.resolve_left (by decide)), fun _ => rfl, fun h => e3 (h.resolve_left (by decide)), fun h => e4 (h.resolve_left (by decide)), fun h => e5 (h.resolve_left (by decide)), fun h => e6 (h.resolve_left (by decide)), fun h => hQ (h.resolve_left (by decide)), fun h h' => hCp (h.resolve_left (by decide)) (fun k => h' (.inr k))⟩
      | 3, ho =>
        cases Option.some.inj ho
        have ev : a.tmps[17]?.getD undef = .pointer (some ⟨b, 3, none⟩) := by rw [ha, e2 (hd ⟨2, .data⟩ (by simp) rfl)]; kernel_rfl
        have hb := hB.resolve_left (fun h => hn (hcl 7 _ rfl h ⟨3, .data⟩ (by simp) rfl))
        have hc := (hb.cell (p := ⟨b, 3, none⟩) (lt_of_cell x3)).trans x3
        refine wp_value (w' := w') (v := .map (some mb)) (by simp [execOp, ev, go_sem, hc]) ?_
        exact ⟨v15, v16, v17, (.map (some mb)), v19, v20, v21, ga, gn, gc, qa, qn, qc, by rw [ha]; kernel_rfl, hB.imp_left .inr, fun h => e0 (h.resolve_left (by decide)), fun h => e1 (h.resolve_left (by decide)), fun h => e2 (h.resolve_left (by decide)), fun _ => rfl, fun h => e4 (h.resolve_left (by decide)), fun h => e5 (h.resolve_left (by decide)), fun h => e6 (h.resolve_left (by decide)), fun h => hQ (h.resolve_left (by decide)), fun h h' => hCp (h.resolve_left (by decide)) (fun k => h' (.inr k))⟩
      | 4, ho =>
        cases Option.some.inj ho
        have ev : a.tmps[1]?.getD undef = .int .i64 k := by rw [ha]; kernel_rfl
        refine wp_value (w' := w') (v := .int .i64 k) (by simp [execOp, ev, go_sem]) ?_
        exact ⟨v15, v16, v17, v18, (.int .i64 k), v20, v21, ga, gn, gc, qa, qn, qc, by rw [ha]; kernel_rfl, hB.imp_left .inr, fun h => e0 (h.resolve_left (by decide)), fun h => e1 (h.resolve_left (by decide)), fun h => e2 (h.resolve_left (by decide)), fun h => e3 (h.resolve_left (by decide)), fun _ => rfl, fun h => e5 (h.resolve_left (by decide)), fun h => e6 (h.resolve_left (by decide)), fun h => hQ (h.resolve_left (by decide)), fun h h' => hCp (h.resolve_left (by decide)) (fun k => h' (.inr k))⟩
      | 5, ho =>
        cases Option.some.inj ho
        have ev : a.tmps[5]?.getD undef = .pointer (some ⟨b5, 0, none⟩) := by rw [ha]; kernel_rfl
        have hb := hB.resolve_left (fun h => (fun h => hn (hcl 6 _ rfl h ⟨5, .data⟩ (by simp) rfl)) (hcl 7 _ rfl h ⟨6, .data⟩ (by simp) rfl))
        have q0 := (hb.cell (p := ⟨b5, 0, none⟩) (lt_of_cell y0)).trans y0
        have q1 := (hb.cell (p := ⟨b5, 1, none⟩) (lt_of_cell y1)).trans y1
        have q2 := (hb.cell (p := ⟨b5, 2, none⟩) (lt_of_cell y2)).trans y2
        refine wp_value (w' := w') (v := .agg #[.int .i64 c, .slice sa sn sc, .slice ba bn bc]) (by simp [execOp, ev, go_sem, q0, q1, q2]) ?_
        exact ⟨v15, v16, v17, v18, v19, (.agg #[.int .i64 c, .slice sa sn sc, .slice ba bn bc]), v21, ga, gn, gc, qa, qn, qc, by rw [ha]; kernel_rfl, hB.imp_left .inr, fun h => e0 (h.resolve_left (by decide)), fun h => e1 (h.resolve_left (by decide)), fun h => e2 (h.resolve_left (by decide)), fun h => e3 (h.resolve_left (by decide)), fun h => e4 (h.resolve_left (by decide)), fun _ => rfl, fun h => e6 (h.resolve_left (by decide)), fun h => hQ (h.resolve_left (by decide)), fun h h' => hCp (h.resolve_left (by decide)) (fun k => h' (.inr k))⟩
      | 6, ho =>
        cases Option.some.inj ho
        have ev : a.tmps[20]?.getD undef = .agg #[.int .i64 c, .slice sa sn sc, .slice ba bn bc] := by rw [ha, e5 (hd ⟨5, .data⟩ (by simp) rfl)]; kernel_rfl
        have hb := hB.resolve_left (fun h => hn (hcl 7 _ rfl h ⟨6, .data⟩ (by simp) rfl))
        refine wp_enter (f := 40) (args := #[.agg #[.int .i64 c, .slice sa sn sc, .slice ba bn bc]]) (by simp [execOp, ev, go_sem]) ?_
        refine (copy_shape (io.below hb) hsn hbn).mono ?_
        rintro e w6 ⟨ga', gn', gc', qa', qn', qc', rfl, oV, oB, HB⟩
        refine ⟨_, rfl, ?_⟩
        exact ⟨v15, v16, v17, v18, v19, v20, (.agg #[.int .i64 c, .slice ga' gn' gc', .slice qa' qn' qc']), ga', gn', gc', qa', qn', qc', by rw [ha]; kernel_rfl, hB.imp .inr (fun h => below_size h h.size HB), fun h => e0 (h.resolve_left (by decide)), fun h => e1 (h.resolve_left (by decide)), fun h => e2 (h.resolve_left (by decide)), fun h => e3 (h.resolve_left (by decide)), fun h => e4 (h.resolve_left (by decide)), fun h => e5 (h.resolve_left (by decide)), fun _ => rfl, fun h => absurd (h.resolve_left (by decide)) (fun h => hn (hcl 7 _ rfl h ⟨6, .data⟩ (by simp) rfl)), fun _ _ => ⟨oV.mono hb.size, oB.mono hb.size⟩⟩
      | 7, ho =>
        cases Option.some.inj ho
        have ev : a.tmps[18]?.getD undef = .map (some mb) := by rw [ha, e3 (hd ⟨3, .data⟩ (by simp) rfl)]; kernel_rfl
        have ev' : a.tmps[19]?.getD undef = .int .i64 k := by rw [ha, e4 (hd ⟨4, .data⟩ (by simp) rfl)]; kernel_rfl
        have ev'' : a.tmps[21]?.getD undef = .agg #[.int .i64 c, .slice ga gn gc, .slice qa qn qc] := by rw [ha, e6 (hd ⟨6, .data⟩ (by simp) rfl)]; kernel_rfl
        have hb := hB.resolve_left hn
        obtain ⟨oV, oB⟩ := hCp (hd ⟨6, .data⟩ (by simp) rfl) hn
        obtain ⟨w7, hr7, M7, g7⟩ := (hMq.same (hb.block mb hMq.lt)).update (P := Tryz.prog) (t := 76) Tryz.underlying76 Tryz.underlying2 k (.agg #[.int .i64 c, .slice ga gn gc, .slice qa qn qc])
        refine wp_skip (w' := w7) (by simp [execOp, ev, ev', ev'', go_sem, hr7]) ?_
        exact ⟨v15, v16, v17, v18, v19, v20, v21, ga, gn, gc, qa, qn, qc, by rw [ha]; kernel_rfl, .inl (.inl rfl), fun h => e0 (h.resolve_left (by decide)), fun h => e1 (h.resolve_left (by decide)), fun h => e2 (h.resolve_left (by decide)), fun h => e3 (h.resolve_left (by decide)), fun h => e4 (h.resolve_left (by decide)), fun h => e5 (h.resolve_left (by decide)), fun h => e6 (h.resolve_left (by decide)), fun _ => ⟨w', hb, M7, g7, oV, oB⟩, fun _ h' => absurd (.inl rfl) h'⟩
      | i + 8, ho => simp at ho
    case done =>
      rintro D a w' ⟨v15, v16, v17, v18, v19, v20, v21, ga, gn, gc, qa, qn, qc, ha, hB, e0, e1, e2, e3, e4, e5, e6, hQ, hCp⟩ hall
      obtain rfl := e0 (hall 0 (by decide))
      obtain rfl := e1 (hall 1 (by decide))
      obtain rfl := e2 (hall 2 (by decide))
      obtain rfl := e3 (hall 3 (by decide))
      obtain rfl := e4 (hall 4 (by decide))
      obtain rfl := e5 (hall 5 (by decide))
      obtain rfl := e6 (hall 6 (by decide))
      obtain ⟨wp, hbp, M7, g7, oV, oB⟩ := hQ (hall 7 (by decide))
      clear hQ hB hCp hall e0 e1 e2 e3 e4 e5 e6
      rw [ha]
      clear ha
      simp only [Act.put, List.setIfInBounds_toArray, List.set_cons_zero, List.set_cons_succ]
      have fin := Vb.keeps (o := ⟨c, vs, bs⟩) h hR c1 c2 c3 c4 c5 c6 hMq c8 hbp M7 g7 c1 oV oB hG c9
      have fin2 := VwP.below B5 fin
      clear fin M7 g7 oV oB hbp
      go_wp2
      go_end0
      exact ⟨rfl, fin2⟩
set_option maxHeartbeats 8000000 in
theorem put_anyX {w : World} {V Q S R : Nat → Prop} {b tb : Nat} {v : Vw} {t : Tab} (h : Vb w V Q b tb v) (htb : Tb w S R tb t) (k : Int) {c : Int} {sa ba : Option Addr} {sn sc bn bc : Nat} {vs : List (Int × Int)} {bs : List Int} (hO : ObX w b c sa sn sc ba bn bc vs bs) :
    Calls Tryz.prog 16 #[.pointer (some ⟨b, 0, none⟩), .int .i64 k, .agg #[.int .i64 c, .slice sa sn sc, .slice ba bn bc]] w fun e w' => e = .returned (.int .i64 (putE v t k ⟨c, vs, bs⟩)) ∧ VwP w V Q b tb (putV v t k ⟨c, vs, bs⟩) w' := by
  have E5 := new1 w (objB c (.slice sa sn sc) (.slice ba bn bc))
  have B5 : Below w.heap.size w (w.alloc (objB c (.slice sa sn sc) (.slice ba bn bc))) := box_below
  have h1 := h.below B5
  have ht1 := htb.below B5
  have hb1 := hO.io.b.most
  have hb2 := hO.io.b.room
  have hb3 : Hid (bs.length = bn) := hO.io.b.size
  unfold objB at E5 B5 h1 ht1
  go_enter Tryz.func16, Tryz.ntmps16
  go_wp2_with fail
  generalize w.alloc (.cells #[.int .i64 c, .slice sa sn sc, .slice ba bn bc] 35) = w1 at *
  obtain ⟨b5, hb5⟩ : ∃ q, q = w.heap.size := ⟨_, rfl⟩
  rw [← hb5] at E5 ⊢
  clear hb5
  replace E5 : w1.heap[b5]? = some (objB c (.slice sa sn sc) (.slice ba bn bc)) := E5
  refine (peek_any h1 ht1 k).mono ?_
  rintro e w2 ⟨pa, pn, pc, qa, qn, qc, rfl, _, _, B2⟩
  have F5 := (B2.block b5 (lt_of_block E5)).trans E5
  have B6 : Below w2.heap.size w2 (w2.alloc (.cells #[.int .i64 (clsR (peekR v t k)), .slice pa pn pc, .slice qa qn qc] 35)) := box_below
  have G5 := (B6.block b5 (lt_of_block F5)).trans F5
  have B3 := below_size B5 B5.size B2
  have B4 := below_size B3 B3.size B6
  obtain ⟨y0, y1, y2, yf⟩ := obj_cells G5
  clear h1 ht1 E5 F5 B2 B6
  cases hp : peekR v t k with
  | none =>
    have eE : Hid (putE v t k ⟨c, vs, bs⟩ = 25) := by show putE v t k ⟨c, vs, bs⟩ = 25; unfold putE; rw [hp]
    have eV : Hid (putV v t k ⟨c, vs, bs⟩ = v) := by show putV v t k ⟨c, vs, bs⟩ = v; unfold putV; rw [eE.out]; rfl
    rw [hp] at B4 y0 y1 y2
    replace hp : Hid _ := hp
    simp only [errR, clsR] at B4 y0 y1 y2 ⊢
    have fin : Hid (VwP w V Q b tb v _) := VwP.of_below h B4
    go_wp2
    go_ret
    exact ⟨by rw [eE.out]; rfl, by rw [eV.out]; exact fin.out⟩
  | some o =>
    have eE : Hid (putE v t k ⟨c, vs, bs⟩ = fitsE c vs bn) := by show putE v t k ⟨c, vs, bs⟩ = _; unfold putE; rw [hp, ← hb3.out]
    rw [hp] at B4 G5 y0 y1 y2
    replace hp : Hid _ := hp
    simp only [errR, clsR] at B4 G5 y0 y1 y2 ⊢
    have h4 := h.below B4
    have hW4 := hO.below B4
    go_wp2_with fail
    generalize w2.alloc (.cells #[.int .i64 o.cls, .slice pa pn pc, .slice qa qn qc] 35) = w4 at *
    refine (fits_any c hW4.io.v (Nat.le_trans hb2 hb1)).mono ?_
    rintro e w7 ⟨rfl, B7⟩
    have H5 := (B7.block b5 (lt_of_block G5)).trans G5
    have B8 := below_size B4 B4.size B7
    have h8 := h.below B8
    have hW8 := hO.below B8
    clear y0 y1 y2 yf
    obtain ⟨y0, y1, y2, yf⟩ := obj_cells H5
    by_cases hf : fitsE c vs bn = 0
    · have hG : ObG ⟨c, vs, bs⟩ := by show okWO c vs bs.length = true; rw [hb3.out]; exact fits_good hf
      have eV : Hid (putV v t k ⟨c, vs, bs⟩ = keepV v k ⟨c, vs, bs⟩) := by show putV v t k ⟨c, vs, bs⟩ = _; unfold putV; rw [eE.out, hf]; rfl
      rw [hf] at eE ⊢
      clear hf
      go_wp2_with fail
      refine (keep_anyX h8 k hW8 hG).mono ?_
      rintro e w9 ⟨rfl, hP⟩
      have fin := VwP.below B8 hP
      go_wp2
      go_ret
      exact ⟨by rw [eE.out]; rfl, by rw [eV.out]; exact fin⟩
    · have hf' : (fitsE c vs bn == 0) = false := by simpa using hf
      have eV : Hid (putV v t k ⟨c, vs, bs⟩ = v) := by show putV v t k ⟨c, vs, bs⟩ = v; unfold putV; rw [eE.out, if_neg hf]
      have fin : Hid (VwP w V Q b tb v w7) := VwP.of_below h B8
      obtain ⟨fe, hfe⟩ : ∃ q, Hid (fitsE c vs bn = q) := ⟨_, rfl⟩
      rw [hfe.out] at hf hf' eE ⊢
      go_wp2
      go_ret
      exact ⟨by rw [eE.out]; rfl, by rw [eV.out]; exact fin.out⟩
set_option maxHeartbeats 8000000 in
theorem make_anyX {w : World} {V Q : Nat → Prop} {b tb : Nat} {v : Vw} (h : Vb w V Q b tb v) {c : Int} {sa ba : Option Addr} {sn sc bn bc : Nat} {vs : List (Int × Int)} {bs : List Int} (hO : ObX w b c sa sn sc ba bn bc vs bs) :
    Calls Tryz.prog 18 #[.pointer (some ⟨b, 0, none⟩), .agg #[.int .i64 c, .slice sa sn sc, .slice ba bn bc]] w fun e w' => e = .returned (.tuple #[.int .i64 (makeN v ⟨c, vs, bs⟩), .int .i64 (makeE v ⟨c, vs, bs⟩)]) ∧ VwP w V Q b tb (makeV v ⟨c, vs, bs⟩) w' := by
  have E3 := new1 w (objB c (.slice sa sn sc) (.slice ba bn bc))
  have B3 : Below w.heap.size w (w.alloc (objB c (.slice sa sn sc) (.slice ba bn bc))) := box_below
  have hW1 := hO.below B3
  have hb1 := hO.io.b.most
  have hb2 := hO.io.b.room
  have hb3 : Hid (bs.length = bn) := hO.io.b.size
  have hbb : Hid (b < w.heap.size) := h.lt b (.inl h.own)
  obtain ⟨y0, y1, y2, yf⟩ := obj_cells E3
  unfold objB at E3 B3 hW1 y0 y1 y2
  go_enter Tryz.func18, Tryz.ntmps18
  go_wp2_with fail
  generalize w.alloc (.cells #[.int .i64 c, .slice sa sn sc, .slice ba bn bc] 35) = w1 at *
  obtain ⟨b3, hb3e⟩ : ∃ q, q = w.heap.size := ⟨_, rfl⟩
  rw [← hb3e] at E3 y0 y1 y2 ⊢
  replace hb3e : Hid _ := hb3e
  replace E3 : w1.heap[b3]? = some (objB c (.slice sa sn sc) (.slice ba bn bc)) := E3
  refine (fits_any c hW1.io.v (Nat.le_trans hb2 hb1)).mono ?_
  rintro e w2 ⟨rfl, B2⟩
  have F3 := (B2.block b3 (lt_of_block E3)).trans E3
  have BB := below_size B3 B3.size B2
  have h2 := h.below BB
  have hW2 := hO.below BB
  clear y0 y1 y2 yf E3 B2 B3 hW1
  obtain ⟨y0, y1, y2, yf⟩ := obj_cells F3
  obtain ⟨rm, om, hblk, _, _, _⟩ := h2.blk
  obtain ⟨x0, x1, x2, x3, x4⟩ := view_cells hblk
  have xf := view_frozen hblk 4
  have hm0 := h.made0
  by_cases hf : fitsE c vs bn = 0
  · have hG : ObG ⟨c, vs, bs⟩ := by show okWO c vs bs.length = true; rw [hb3.out]; exact fits_good hf
    have hf2 : Hid (fitsE c vs bs.length = 0) := by show fitsE c vs bs.length = 0; rw [hb3.out]; exact hf
    rw [hf]
    clear hf
    by_cases hm : v.made < 4096
    · have eN : Hid (makeN v ⟨c, vs, bs⟩ = 4096 + (v.made + 1)) := by show makeN v ⟨c, vs, bs⟩ = _; unfold makeN; rw [if_pos ⟨hf2.out, hm⟩]
      have eE : Hid (makeE v ⟨c, vs, bs⟩ = 0) := by show makeE v ⟨c, vs, bs⟩ = _; unfold makeE; rw [if_pos hf2.out, if_pos hm]
      have eV : Hid (makeV v ⟨c, vs, bs⟩ = keepV ⟨v.base, v.reads, v.own, v.made + 1⟩ (4096 + (v.made + 1)) ⟨c, vs, bs⟩) := by show makeV v ⟨c, vs, bs⟩ = _; unfold makeV; rw [if_pos ⟨hf2.out, hm⟩]
      have hm1 : ¬ (4096 : Int) ≤ v.made := by omega
      have w4 : IntKind.i64.wrap (v.made + 1) = v.made + 1 := wrap64 (by omega) (by omega)
      have w5 : IntKind.i64.wrap (4096 + (v.made + 1)) = 4096 + (v.made + 1) := wrap64 (by omega) (by omega)
      have P4 := h2.setMade (m := v.made + 1) (by omega)
      obtain ⟨z0, z1, z2, z3, z4⟩ := view_cells (view_set4 hblk (v.made + 1))
      have n3 : b3 ≠ b := by have h1 := hbb.out; have h2 := hb3e.out; omega
      have G3 := (heap_setCell_other w2 ⟨b, 4, none⟩ b3 (.int .i64 (v.made + 1)) n3).trans F3
      obtain ⟨u0, u1, u2, uf⟩ := obj_cells G3
      have hW4 : ObX (w2.setCell ⟨b, 4, none⟩ (.int .i64 (v.made + 1))) b c sa sn sc ba bn bc vs bs := hW2.step (by simp) (fun g _ hne => heap_setCell_other _ ⟨b, 4, none⟩ g _ hne)
      clear hm0 hm
      obtain ⟨V1, Q1, k1, k2, k3, k4⟩ := P4
      go_wp2_with fail
      refine (keep_anyX k1 (4096 + (v.made + 1)) hW4 hG).mono ?_
      rintro e w9 ⟨rfl, hP⟩
      have fin := VwP.below BB (VwP.comp k2 k3 k4 hP)
      clear hP k1 k2 k3 k4
      go_wp2
      go_ret2
      exact ⟨by rw [eN.out, eE.out]; rfl, by rw [eV.out]; exact fin⟩
    · have eN : Hid (makeN v ⟨c, vs, bs⟩ = 0) := by show makeN v ⟨c, vs, bs⟩ = _; unfold makeN; rw [if_neg (fun h => hm h.2)]
      have eE : Hid (makeE v ⟨c, vs, bs⟩ = 4) := by show makeE v ⟨c, vs, bs⟩ = _; unfold makeE; rw [if_pos hf2.out, if_neg hm]
      have eV : Hid (makeV v ⟨c, vs, bs⟩ = v) := by show makeV v ⟨c, vs, bs⟩ = _; unfold makeV; rw [if_neg (fun h => hm h.2)]
      have hm1 : (4096 : Int) ≤ v.made := by omega
      have fin : Hid (VwP w V Q b tb v w2) := VwP.of_below h BB
      clear hm0 hm
      go_wp2
      go_ret2
      exact ⟨by rw [eN.out, eE.out]; rfl, by rw [eV.out]; exact fin.out⟩
  · have hf2 : ¬ fitsE c vs bs.length = 0 := by rw [hb3.out]; exact hf
    have hf' : (fitsE c vs bn == 0) = false := by simpa using hf
    have eN : Hid (makeN v ⟨c, vs, bs⟩ = 0) := by show makeN v ⟨c, vs, bs⟩ = _; unfold makeN; rw [if_neg (fun h => hf2 h.1)]
    have eE : Hid (makeE v ⟨c, vs, bs⟩ = fitsE c vs bn) := by show makeE v ⟨c, vs, bs⟩ = _; unfold makeE; rw [if_neg hf2, hb3.out]
    have eV : Hid (makeV v ⟨c, vs, bs⟩ = v) := by show makeV v ⟨c, vs, bs⟩ = _; unfold makeV; rw [if_neg (fun h => hf2 h.1)]
    have fin : Hid (VwP w V Q b tb v w2) := VwP.of_below h BB
    obtain ⟨fe, hfe⟩ : ∃ q, Hid (fitsE c vs bn = q) := ⟨_, rfl⟩
    rw [hfe.out] at hf hf' eE ⊢
    clear hf2 hm0
    go_wp2
    go_ret2
    exact ⟨by rw [eN.out, eE.out]; rfl, by rw [eV.out]; exact fin.out⟩
end Go.Proofs.YteomolihandfnaaGreat
