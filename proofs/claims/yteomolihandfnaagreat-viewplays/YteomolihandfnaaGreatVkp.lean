/- View.keep. -/
import Derived.Test.YteomolihandfnaaGreatVpk
namespace Go.Proofs.YteomolihandfnaaGreat
open Go.RowKit
set_option maxRecDepth 100000
/-- An object of one's own more. -/
def keepV (v : Vw) (k : Int) (o : Ob) : Vw := ⟨v.base, v.reads, fun i => if i = k then some o else v.own i, v.made⟩
/-- A past world, somewhat less: the view's block and its map of one's own may have turned already. -/
theorem Vb.keeps {w wA wp w' : World} {V Q : Nat → Prop} {b tb mb : Nat} {v : Vw} {rm : Option Nat} {F : Int → Option Value} {k : Int} {o : Ob} {ga qa : Option Addr} {gn gc qn qc N : Nat} (h : Vb w V Q b tb v) (hR : RdM w V rm v.reads) (hsz : w.heap.size ≤ wA.heap.size) (hos : wA.os = w.os ∧ wA.tape = w.tape ∧ wA.output = w.output) (hk : ∀ g, g < w.heap.size → g ≠ b → wA.heap[g]? = w.heap[g]?) (hblk : wA.heap[b]? = some (viewB tb v.base rm (some mb) v.made)) (hmb : V mb ∨ w.heap.size ≤ mb) (hrm : rm ≠ some mb) (hMA : IsMap wA mb F) (hF : OwF w Q F v.own) (hbp : Below wA.heap.size wA wp)
    (hM : IsMap w' mb (fun i => if i = k then some (.agg #[.int .i64 o.cls, .slice ga gn gc, .slice qa qn qc]) else F i)) (hg : wp.grownBy w' (some mb)) (hN : w.heap.size ≤ N) (oV : OwnV wp N (.slice ga gn gc) o.vs) (oB : OwnB wp N (.slice qa qn qc) o.bs) (hG : ObG o) (hnb : b ≠ mb) :
    VwP w V Q b tb (keepV v k o) w' := by
  have lb := h.lt b (.inl h.own)
  have kp : ∀ g, g < wA.heap.size → g ≠ mb → w'.heap[g]? = wA.heap[g]? := fun g h1 h3 => (hg.block g (Nat.lt_of_lt_of_le h1 hbp.size) (fun e => h3 (Option.some.inj e))).trans (hbp.block g h1)
  have kk : ∀ g, g < w.heap.size → g ≠ b → g ≠ mb → w'.heap[g]? = w.heap[g]? := fun g h1 h2 h3 => (kp g (Nat.lt_of_lt_of_le h1 hsz) h3).trans (hk g h1 h2)
  have hQb : ∀ g, Q g → g ≠ b ∧ g ≠ mb := fun g hq => ⟨fun e => h.dis g hq (e ▸ h.own), fun e => by
    rcases hmb with z | z
    · exact h.dis g hq (e ▸ z)
    · have := h.lt g (.inr hq); omega⟩
  have hbl' : w'.heap[b]? = some (viewB tb v.base rm (some mb) v.made) := (kp b (Nat.lt_of_lt_of_le lb hsz) hnb).trans hblk
  have hMp : IsMap wp mb F := hMA.same (hbp.block mb hMA.lt)
  have sV : ∀ g, (Value.slice ga gn gc).ownBlock = some g → w.heap.size ≤ g ∧ g ≠ mb ∧ w'.heap[g]? = wp.heap[g]? ∧ ∃ cur, wp.heap[g]? = some (Obj.cells cur 80 (0, 0)) := fun g hg' => by
    obtain ⟨z1, cur, z2⟩ := own_block oV.1 hg'
    have z3 : g ≠ mb := hMp.noCells z2
    exact ⟨by omega, z3, hg.block g (lt_of_block z2) (fun e => z3 (Option.some.inj e)), cur, z2⟩
  have sB : ∀ g, (Value.slice qa qn qc).ownBlock = some g → w.heap.size ≤ g ∧ g ≠ mb ∧ w'.heap[g]? = wp.heap[g]? ∧ ∃ cur, wp.heap[g]? = some (Obj.cells cur 5 (0, 0)) := fun g hg' => by
    obtain ⟨z1, cur, z2⟩ := own_block oB.1 hg'
    have z3 : g ≠ mb := hMp.noCells z2
    exact ⟨by omega, z3, hg.block g (lt_of_block z2) (fun e => z3 (Option.some.inj e)), cur, z2⟩
  have s9 : w.heap.size ≤ w'.heap.size := Nat.le_trans hsz (Nat.le_trans hbp.size hg.size)
  refine ⟨fun g => V g ∨ g = mb, fun g => Q g ∨ (Value.slice ga gn gc).ownBlock = some g ∨ (Value.slice qa qn qc).ownBlock = some g, ⟨⟨rm, some mb, hbl', hR.same (fun _ h => .inl h) (fun m e => ?_), ⟨_, hM, .inr rfl, fun i => ?_⟩, fun m e e' => ?_⟩, .inl h.own, fun g hg' => ?_, fun g hq e => ?_, fun g cur e hv hh => ?_, h.made0, fun i o' ho => ?_⟩, ⟨fun _ h => .inl h, fun g hg' => ?_⟩, ⟨fun _ h => .inl h, fun g hg' => ?_⟩, ⟨hg.os.trans (hbp.os.trans hos.1), hg.tape.trans (hbp.tape.trans hos.2.1), hg.output.trans (hbp.output.trans hos.2.2), s9, fun g hg' hn => kk g hg' (fun e => hn (e ▸ h.own)) (fun e => ?_)⟩⟩
  · obtain ⟨z1, es, c, z2⟩ := hR.in_ e
    refine kk m (lt_of_block' z2) (fun e' => ?_) (fun e' => hrm (e' ▸ e))
    obtain ⟨_, _, hb0, _, _⟩ := h.blk
    rw [e', hb0] at z2
    cases z2
  · by_cases e : i = k
    · simp only [keepV, if_pos e]
      exact ⟨o, rfl, ga, gn, gc, qa, qn, qc, rfl, (oV.same (fun g hg' => (sV g hg').2.2.1)).mono (Nat.zero_le _), (oB.same (fun g hg' => (sB g hg').2.2.1)).mono (Nat.zero_le _), fun g hg' => .inr (.inl hg'), fun g hg' => .inr (.inr hg')⟩
    · simp only [keepV, if_neg e]
      have := hF i
      cases hFi : F i with
      | none => rw [hFi] at this; exact this
      | some u =>
        rw [hFi] at this
        obtain ⟨o', z1, z2⟩ := this
        exact ⟨o', z1, z2.same (fun _ h => .inl h) (fun g hq => kk g (h.lt g (.inr hq)) (hQb g hq).1 (hQb g hq).2)⟩
  · cases e'
    exact hrm e
  · rcases hg' with (hg' | rfl) | hg' | hg' | hg'
    · have := h.lt g (.inl hg'); omega
    · exact hM.lt
    · have := h.lt g (.inr hg'); omega
    · obtain ⟨_, _, z, cur, z2⟩ := sV g hg'
      exact lt_of_block (z.trans z2)
    · obtain ⟨_, _, z, cur, z2⟩ := sB g hg'
      exact lt_of_block (z.trans z2)
  · rcases hq with hq | hq | hq
    · rcases e with e | e
      · exact h.dis g hq e
      · exact (hQb g hq).2 e
    · obtain ⟨z1, z2, _⟩ := sV g hq
      rcases e with e | e
      · have := h.lt g (.inl e); omega
      · exact z2 e
    · obtain ⟨z1, z2, _⟩ := sB g hq
      rcases e with e | e
      · have := h.lt g (.inl e); omega
      · exact z2 e
  · rcases hv with hv | rfl
    · by_cases e1 : g = b
      · rw [e1, hbl'] at hh
        unfold viewB at hh
        cases hh
        rfl
      · by_cases e2 : g = mb
        · subst e2
          exact absurd rfl (hM.noCells hh)
        · exact h.ty g cur e hv (by rw [← kk g (h.lt g (.inl hv)) e1 e2]; exact hh)
    · exact absurd rfl (hM.noCells hh)
  · simp only [keepV] at ho
    by_cases e : i = k
    · rw [if_pos e] at ho
      cases ho
      exact hG
    · rw [if_neg e] at ho
      exact h.good i o' ho
  · rcases hg' with hg' | rfl
    · exact .inl hg'
    · rcases hmb with z | z
      · exact .inl z
      · exact .inr ⟨z, hM.lt⟩
  · rcases hg' with hg' | hg' | hg'
    · exact .inl hg'
    · obtain ⟨z1, _, z, cur, z2⟩ := sV g hg'
      exact .inr ⟨z1, lt_of_block (z.trans z2)⟩
    · obtain ⟨z1, _, z, cur, z2⟩ := sB g hg'
      exact .inr ⟨z1, lt_of_block (z.trans z2)⟩
  · rcases hmb with z | z
    · exact hn (e ▸ z)
    · omega
theorem VwP.below {w w1 w' : World} {V Q : Nat → Prop} {b tb : Nat} {v : Vw} (hb : Below w.heap.size w w1) (h : VwP w1 V Q b tb v w') : VwP w V Q b tb v w' := by
  obtain ⟨V', Q', h1, h2, h3, h4⟩ := h
  have s := hb.size
  refine ⟨V', Q', h1, ⟨h2.old, fun g hg => ?_⟩, ⟨h3.old, fun g hg => ?_⟩, (Fr.of_below hb).trans h4 (fun _ _ h => h)⟩
  · rcases h2.new g hg with z | ⟨z, z'⟩
    · exact .inl z
    · exact .inr ⟨by omega, z'⟩
  · rcases h3.new g hg with z | ⟨z, z'⟩
    · exact .inl z
    · exact .inr ⟨by omega, z'⟩
theorem OwF.none (w : World) (Q : Nat → Prop) : OwF w Q (fun _ => none) (fun _ => none) := fun _ => rfl
set_option maxHeartbeats 8000000 in
theorem keep_any {W0 w : World} {V Q : Nat → Prop} {b tb : Nat} {v : Vw} (h0 : Vb w V Q b tb v) (k : Int) {c : Int} {sa ba : Option Addr} {sn sc bn bc : Nat} {vs : List (Int × Int)} {bs : List Int} (hO : IsO W0 c sa sn sc ba bn bc vs bs) (hW0 : Below W0.heap.size W0 w) (hV0 : W0.heap.size ≤ b) (hG : ObG ⟨c, vs, bs⟩) :
    Calls Tryz.prog 45 #[.pointer (some ⟨b, 0, none⟩), .int .i64 k, .agg #[.int .i64 c, .slice sa sn sc, .slice ba bn bc]] w fun e w' => e = .returned (.tuple #[]) ∧ VwP w V Q b tb (keepV v k ⟨c, vs, bs⟩) w' := by
  have hl := okWO_len hG
  simp only at hl
  have hsn : sn ≤ 8796093022208 := by have := hO.v.size; omega
  have hbn : bn ≤ 140737488355328 := by have := hO.b.size; omega
  have E5 := new1 w (objB c (.slice sa sn sc) (.slice ba bn bc))
  have B5 : Below w.heap.size w (w.alloc (objB c (.slice sa sn sc) (.slice ba bn bc))) := box_below
  have h := h0.below B5
  have hW1 := below_size hW0 hW0.size B5
  have n5 : b ≠ w.heap.size := by have := h0.lt b (.inl h0.own); omega
  have hem := fun (r : Option Nat) (w : World) => run_eql_map_nil (P := Tryz.prog) w 76 2 35 r Tryz.underlying76
  have hmm := @run_makeMap Tryz.prog
  unfold objB at E5 B5 h hW1
  clear h0 hl hW0
  go_enter Tryz.func45, Tryz.ntmps45
  go_upto_region 1 with fail
  generalize w.alloc (.cells #[.int .i64 c, .slice sa sn sc, .slice ba bn bc] 35) = w1 at *
  obtain ⟨b5, hb5⟩ : ∃ q, q = w.heap.size := ⟨_, rfl⟩
  rw [← hb5] at E5 n5 ⊢
  clear hb5
  replace E5 : w1.heap[b5]? = some (objB c (.slice sa sn sc) (.slice ba bn bc)) := E5
  obtain ⟨rm, om, hblk, hR, hOw, hrm⟩ := h.blk
  obtain ⟨x0, x1, x2, x3, x4⟩ := view_cells hblk
  have xf := view_frozen hblk 3
  obtain ⟨y0, y1, y2, yf⟩ := obj_cells E5
  replace hrm : Hid _ := hrm
  have hlb : Hid (b < w1.heap.size) := h.lt b (.inl h.own)
  have g3 : (w1.alloc (.map #[] 0)).cell? ⟨b, 3, none⟩ = some (.map om) := ((box_below (o := .map #[] 0)).cell (p := ⟨b, 3, none⟩) hlb.out).trans x3
  have gf : (w1.alloc (.map #[] 0)).frozen? ⟨b, 3, none⟩ = false := view_frozen ((Below.heap_alloc w1 _ b hlb.out).trans hblk) 3
  go_upto_if 10 with fail
  go_cut [] from 10 to 14 (fun wx => ∃ (mb : Nat) (F : Int → Option Value), w1.heap.size ≤ wx.heap.size ∧ (wx.os = w1.os ∧ wx.tape = w1.tape ∧ wx.output = w1.output) ∧ (∀ g, g < w1.heap.size → g ≠ b → wx.heap[g]? = w1.heap[g]?) ∧ wx.heap[b]? = some (viewB tb v.base rm (some mb) v.made) ∧ (V mb ∨ w1.heap.size ≤ mb) ∧ rm ≠ some mb ∧ IsMap wx mb F ∧ OwF w1 Q F v.own ∧ b ≠ mb)
  case first =>
    cases om with
    | none =>
      go_wp2
      go_meet
      refine ⟨w1.heap.size, fun _ => none, by simp, ⟨rfl, rfl, rfl⟩, fun g hg hne => (heap_setCell_other _ ⟨b, 3, none⟩ g _ hne).trans (Below.heap_alloc w1 _ g hg), view_set3 ((Below.heap_alloc w1 (.map #[] 0) b hlb.out).trans hblk) (some w1.heap.size), .inr (Nat.le_refl _), fun e => ?_, (IsMap.made w1).same (heap_setCell_other _ ⟨b, 3, none⟩ _ _ (by show w1.heap.size ≠ b; have := hlb.out; omega)), fun k => hOw k, by have := hlb.out; omega⟩
      obtain ⟨_, es, cl, z⟩ := hR.in_ e
      have := lt_of_block' z
      omega
    | some mb =>
      go_wp2
      go_meet
      obtain ⟨F, hM, hV, hF⟩ := hOw
      exact ⟨mb, F, Nat.le_refl _, ⟨rfl, rfl, rfl⟩, fun _ _ _ => rfl, hblk, .inl hV, fun e => hrm.out mb e rfl, hM, hF, hM.noCells (by unfold viewB at hblk; exact hblk)⟩
  case rest =>
    obtain ⟨mb, F, c1, c2, c3, c4, c5, c6, hMq, c8, c9⟩ := hcut
    have F5 := (c3 b5 (lt_of_block E5) (fun e => n5 e.symm)).trans E5
    clear x0 x1 x2 x3 x4 xf y0 y1 y2 yf g3 gf hem hmm hOw hblk hrm
    obtain ⟨x0, x1, x2, x3, x4⟩ := view_cells c4
    obtain ⟨y0, y1, y2, yf⟩ := obj_cells F5
    have BW : Below W0.heap.size W0 wc := ⟨c2.1.trans hW1.os, c2.2.1.trans hW1.tape, c2.2.2.trans hW1.output, Nat.le_trans hW1.size c1, fun q hq => (c3 q (Nat.lt_of_lt_of_le hq hW1.size) (by omega)).trans (hW1.block q hq)⟩
    have io := hO.below BW
    clear BW hW1 F5 E5
    go_upto_region 3 with fail
    refine wp_region_inv' (fun A D a w' => ∃ v15 v16 v17 v18 v19 v20 v21 ga gn gc qa qn qc, a = (((((((A.put (some 15) v15).put (some 16) v16).put (some 17) v17).put (some 18) v18).put (some 19) v19).put (some 20) v20).put (some 21) v21) ∧ (D 7 ∨ Below wc.heap.size wc w') ∧ (D 0 → v15 = .pointer (some ⟨b, 0, none⟩)) ∧ (D 1 → v16 = .pointer (some ⟨b, 0, none⟩)) ∧ (D 2 → v17 = .pointer (some ⟨b, 3, none⟩)) ∧ (D 3 → v18 = .map (some mb)) ∧ (D 4 → v19 = .int .i64 k) ∧ (D 5 → v20 = .agg #[.int .i64 c, .slice sa sn sc, .slice ba bn bc]) ∧ (D 6 → v21 = .agg #[.int .i64 c, .slice ga gn gc, .slice qa qn qc]) ∧ (D 7 → ∃ wp : World, Below wc.heap.size wc wp ∧ IsMap w' mb (fun i => if i = k then some (.agg #[.int .i64 c, .slice ga gn gc, .slice qa qn qc]) else F i) ∧ wp.grownBy w' (some mb) ∧ OwnV wp wc.heap.size (.slice ga gn gc) vs ∧ OwnB wp wc.heap.size (.slice qa qn qc) bs) ∧ (D 6 → ¬ D 7 → OwnV w' wc.heap.size (.slice ga gn gc) vs ∧ OwnB w' wc.heap.size (.slice qa qn qc) bs)) (by kernel_rfl) (by kernel_rfl) ?mono ?start ?step ?done
    case mono =>
      rintro D D' a w' hD ⟨v15, v16, v17, v18, v19, v20, v21, ga, gn, gc, qa, qn, qc, ha, hB, e0, e1, e2, e3, e4, e5, e6, hQ, hCp⟩
      exact ⟨v15, v16, v17, v18, v19, v20, v21, ga, gn, gc, qa, qn, qc, ha, hB.imp_left (hD 7).1, fun h => e0 ((hD 0).2 h), fun h => e1 ((hD 1).2 h), fun h => e2 ((hD 2).2 h), fun h => e3 ((hD 3).2 h), fun h => e4 ((hD 4).2 h), fun h => e5 ((hD 5).2 h), fun h => e6 ((hD 6).2 h), fun h => hQ ((hD 7).2 h), fun h h' => hCp ((hD 6).2 h) (fun k => h' ((hD 7).1 k))⟩
    case start => exact ⟨undef, undef, undef, undef, undef, undef, undef, none, 0, 0, none, 0, 0, by kernel_rfl, .inr ((Below.refl _ _).drew), fun h => h.elim, fun h => h.elim, fun h => h.elim, fun h => h.elim, fun h => h.elim, fun h => h.elim, fun h => h.elim, fun h => h.elim, fun h _ => h.elim⟩
    case step =>
      intro i o ho D a w' hI hn hcl hd
      obtain ⟨v15, v16, v17, v18, v19, v20, v21, ga, gn, gc, qa, qn, qc, ha, hB, e0, e1, e2, e3, e4, e5, e6, hQ, hCp⟩ := hI
      match i, ho with
      | 0, ho =>
        cases Option.some.inj ho
        have ev : a.tmps[0]?.getD undef = .pointer (some ⟨b, 0, none⟩) := by rw [ha]; kernel_rfl
        refine wp_value (w' := w') (v := .pointer (some ⟨b, 0, none⟩)) (by simp [execOp, ev, go_sem]) ?_
        exact ⟨(.pointer (some ⟨b, 0, none⟩)), v16, v17, v18, v19, v20, v21, ga, gn, gc, qa, qn, qc, by rw [ha]; kernel_rfl, hB.imp_left .inr, fun _ => rfl, fun h => e1 (h.resolve_left (by decide)), fun h => e2 (h.resolve_left (by decide)), fun h => e3 (h.resolve_left (by decide)), fun h => e4 (h.resolve_left (by decide)), fun h => e5 (h.resolve_left (by decide)), fun h => e6 (h.resolve_left (by decide)), fun h => hQ (h.resolve_left (by decide)), fun h h' => hCp (h.resolve_left (by decide)) (fun k => h' (.inr k))⟩
      | 1, ho =>
        cases Option.some.inj ho
        have ev : a.tmps[15]?.getD undef = .pointer (some ⟨b, 0, none⟩) := by rw [ha, e0 (hd ⟨0, .data⟩ (by simp) rfl)]; kernel_rfl
        refine wp_value (w' := w') (v := .pointer (some ⟨b, 0, none⟩)) (by simp [execOp, ev, go_sem]) ?_
        exact ⟨v15, (.pointer (some ⟨b, 0, none⟩)), v17, v18, v19, v20, v21, ga, gn, gc, qa, qn, qc, by rw [ha]; kernel_rfl, hB.imp_left .inr, fun h => e0 (h.resolve_left (by decide)), fun _ => rfl, fun h => e2 (h.resolve_left (by decide)), fun h => e3 (h.resolve_left (by decide)), fun h => e4 (h.resolve_left (by decide)), fun h => e5 (h.resolve_left (by decide)), fun h => e6 (h.resolve_left (by decide)), fun h => hQ (h.resolve_left (by decide)), fun h h' => hCp (h.resolve_left (by decide)) (fun k => h' (.inr k))⟩
      | 2, ho =>
        cases Option.some.inj ho
        have ev : a.tmps[16]?.getD undef = .pointer (some ⟨b, 0, none⟩) := by rw [ha, e1 (hd ⟨1, .data⟩ (by simp) rfl)]; kernel_rfl
        refine wp_value (w' := w') (v := .pointer (some ⟨b, 3, none⟩)) (by simp [execOp, ev, go_sem]) ?_
        exact ⟨v15, v16, (.pointer (some ⟨b, 3, none⟩)), v18, v19, v20, v21, ga, gn, gc, qa, qn, qc, by rw [ha]; kernel_rfl, hB.imp_left .inr, fun h => e0 (h.resolve_left (by decide)), fun h => e1 (h.resolve_left (by decide)), fun _ => rfl, fun h => e3 (h.resolve_left (by decide)), fun h => e4 (h.resolve_left (by decide)), fun h => e5 (h.resolve_left (by decide)), fun h => e6 (h.resolve_left (by decide)), fun h => hQ (h.resolve_left (by decide)), fun h h' => hCp (h.resolve_left (by decide)) (fun k => h' (.inr k))⟩
      | 3, ho =>
        cases Option.some.inj ho
        have ev : a.tmps[17]?.getD undef = .pointer (some ⟨b, 3, none⟩) := by rw [ha, e2 (hd ⟨2, .data⟩ (by simp) rfl)]; kernel_rfl
        have hb := hB.resolve_left (fun h => hn (hcl 7 _ rfl h ⟨3, .data⟩ (by simp) rfl))
        have hc := (hb.cell (p := ⟨b, 3, none⟩) (lt_of_cell x3)).trans x3
        refine wp_value (w' := w') (v := .map (some mb)) (by simp [execOp, ev, go_sem, hc]) ?_
        exact ⟨v15, v16, v17, (.map (some mb)), v19, v20, v21, ga, gn, gc, qa, qn, qc, by rw [ha]; kernel_rfl, hB.imp_left .inr, fun h => e0 (h.resolve_left (by decide)), fun h => e1 (h.resolve_left (by decide)), fun h => e2 (h.resolve_left (by decide)), fun _ => rfl, fun h => e4 (h.resolve_left (by decide)), fun h => e5 (h.resolve_left (by decide)), fun h => e6 (h.resolve_left (by decide)), fun h => hQ (h.resolve_left (by decide)), fun h h' => hCp (h.resolve_left (by decide)) (fun k => h' (.inr k))⟩
      | 4, ho =>
        cases Option.some.inj ho
        have ev : a.tmps[1]?.getD undef = .int .i64 k := by rw [ha]; kernel_rfl
        refine wp_value (w' := w') (v := .int .i64 k) (by simp [execOp, ev, go_sem]) ?_
        exact ⟨v15, v16, v17, v18, (.int .i64 k), v20, v21, ga, gn, gc, qa, qn, qc, by rw [ha]; kernel_rfl, hB.imp_left .inr, fun h => e0 (h.resolve_left (by decide)), fun h => e1 (h.resolve_left (by decide)), fun h => e2 (h.resolve_left (by decide)), fun h => e3 (h.resolve_left (by decide)), fun _ => rfl, fun h => e5 (h.resolve_left (by decide)), fun h => e6 (h.resolve_left (by decide)), fun h => hQ (h.resolve_left (by decide)), fun h h' => hCp (h.resolve_left (by decide)) (fun k => h' (.inr k))⟩
      | 5, ho =>
        cases Option.some.inj ho
        have ev : a.tmps[5]?.getD undef = .pointer (some ⟨b5, 0, none⟩) := by rw [ha]; kernel_rfl
        have hb := hB.resolve_left (fun h => (fun h => hn (hcl 6 _ rfl h ⟨5, .data⟩ (by simp) rfl)) (hcl 7 _ rfl h ⟨6, .data⟩ (by simp) rfl))
        have q0 := (hb.cell (p := ⟨b5, 0, none⟩) (lt_of_cell y0)).trans y0
        have q1 := (hb.cell (p := ⟨b5, 1, none⟩) (lt_of_cell y1)).trans y1
        have q2 := (hb.cell (p := ⟨b5, 2, none⟩) (lt_of_cell y2)).trans y2
        refine wp_value (w' := w') (v := .agg #[.int .i64 c, .slice sa sn sc, .slice ba bn bc]) (by simp [execOp, ev, go_sem, q0, q1, q2]) ?_
        exact ⟨v15, v16, v17, v18, v19, (.agg #[.int .i64 c, .slice sa sn sc, .slice ba bn bc]), v21, ga, gn, gc, qa, qn, qc, by rw [ha]; kernel_rfl, hB.imp_left .inr, fun h => e0 (h.resolve_left (by decide)), fun h => e1 (h.resolve_left (by decide)), fun h => e2 (h.resolve_left (by decide)), fun h => e3 (h.resolve_left (by decide)), fun h => e4 (h.resolve_left (by decide)), fun _ => rfl, fun h => e6 (h.resolve_left (by decide)), fun h => hQ (h.resolve_left (by decide)), fun h h' => hCp (h.resolve_left (by decide)) (fun k => h' (.inr k))⟩
      | 6, ho =>
        cases Option.some.inj ho
        have ev : a.tmps[20]?.getD undef = .agg #[.int .i64 c, .slice sa sn sc, .slice ba bn bc] := by rw [ha, e5 (hd ⟨5, .data⟩ (by simp) rfl)]; kernel_rfl
        have hb := hB.resolve_left (fun h => hn (hcl 7 _ rfl h ⟨6, .data⟩ (by simp) rfl))
        refine wp_enter (f := 40) (args := #[.agg #[.int .i64 c, .slice sa sn sc, .slice ba bn bc]]) (by simp [execOp, ev, go_sem]) ?_
        refine (copy_shape (io.below hb) hsn hbn).mono ?_
        rintro e w6 ⟨ga', gn', gc', qa', qn', qc', rfl, oV, oB, HB⟩
        refine ⟨_, rfl, ?_⟩
        exact ⟨v15, v16, v17, v18, v19, v20, (.agg #[.int .i64 c, .slice ga' gn' gc', .slice qa' qn' qc']), ga', gn', gc', qa', qn', qc', by rw [ha]; kernel_rfl, hB.imp .inr (fun h => below_size h h.size HB), fun h => e0 (h.resolve_left (by decide)), fun h => e1 (h.resolve_left (by decide)), fun h => e2 (h.resolve_left (by decide)), fun h => e3 (h.resolve_left (by decide)), fun h => e4 (h.resolve_left (by decide)), fun h => e5 (h.resolve_left (by decide)), fun _ => rfl, fun h => absurd (h.resolve_left (by decide)) (fun h => hn (hcl 7 _ rfl h ⟨6, .data⟩ (by simp) rfl)), fun _ _ => ⟨oV.mono hb.size, oB.mono hb.size⟩⟩
      | 7, ho =>
        cases Option.some.inj ho
        have ev : a.tmps[18]?.getD undef = .map (some mb) := by rw [ha, e3 (hd ⟨3, .data⟩ (by simp) rfl)]; kernel_rfl
        have ev' : a.tmps[19]?.getD undef = .int .i64 k := by rw [ha, e4 (hd ⟨4, .data⟩ (by simp) rfl)]; kernel_rfl
        have ev'' : a.tmps[21]?.getD undef = .agg #[.int .i64 c, .slice ga gn gc, .slice qa qn qc] := by rw [ha, e6 (hd ⟨6, .data⟩ (by simp) rfl)]; kernel_rfl
        have hb := hB.resolve_left hn
        obtain ⟨oV, oB⟩ := hCp (hd ⟨6, .data⟩ (by simp) rfl) hn
        obtain ⟨w7, hr7, M7, g7⟩ := (hMq.same (hb.block mb hMq.lt)).update (P := Tryz.prog) (t := 76) Tryz.underlying76 Tryz.underlying2 k (.agg #[.int .i64 c, .slice ga gn gc, .slice qa qn qc])
        refine wp_skip (w' := w7) (by simp [execOp, ev, ev', ev'', go_sem, hr7]) ?_
        exact ⟨v15, v16, v17, v18, v19, v20, v21, ga, gn, gc, qa, qn, qc, by rw [ha]; kernel_rfl, .inl (.inl rfl), fun h => e0 (h.resolve_left (by decide)), fun h => e1 (h.resolve_left (by decide)), fun h => e2 (h.resolve_left (by decide)), fun h => e3 (h.resolve_left (by decide)), fun h => e4 (h.resolve_left (by decide)), fun h => e5 (h.resolve_left (by decide)), fun h => e6 (h.resolve_left (by decide)), fun _ => ⟨w', hb, M7, g7, oV, oB⟩, fun _ h' => absurd (.inl rfl) h'⟩
      | i + 8, ho => simp at ho
    case done =>
      rintro D a w' ⟨v15, v16, v17, v18, v19, v20, v21, ga, gn, gc, qa, qn, qc, ha, hB, e0, e1, e2, e3, e4, e5, e6, hQ, hCp⟩ hall
      obtain rfl := e0 (hall 0 (by decide))
      obtain rfl := e1 (hall 1 (by decide))
      obtain rfl := e2 (hall 2 (by decide))
      obtain rfl := e3 (hall 3 (by decide))
      obtain rfl := e4 (hall 4 (by decide))
      obtain rfl := e5 (hall 5 (by decide))
      obtain rfl := e6 (hall 6 (by decide))
      obtain ⟨wp, hbp, M7, g7, oV, oB⟩ := hQ (hall 7 (by decide))
      clear hQ hB hCp hall e0 e1 e2 e3 e4 e5 e6
      rw [ha]
      clear ha
      simp only [Act.put, List.setIfInBounds_toArray, List.set_cons_zero, List.set_cons_succ]
      have fin := Vb.keeps (o := ⟨c, vs, bs⟩) h hR c1 c2 c3 c4 c5 c6 hMq c8 hbp M7 g7 c1 oV oB hG c9
      have fin2 := VwP.below B5 fin
      clear fin M7 g7 oV oB hbp
      go_wp2
      go_end0
      exact ⟨rfl, fin2⟩
end Go.Proofs.YteomolihandfnaaGreat
