/- The document's At of any commit. -/
import Derived.Test.YteomolihandfnaaGreatRat
import Derived.Test.YteomolihandfnaaGreatDmv
namespace Go.Proofs.YteomolihandfnaaGreat
open Go.RowKit
set_option maxRecDepth 100000
theorem asked_at {w : World} {b : Nat} {f e c : Int} {l m : Value} (h : w.heap[b]? = some (rtB f e l m)) (hf : f ≤ c) (hf2 : c ≤ e) : Calls Tryz.prog 61 #[.pointer (some ⟨b, 0, none⟩), .int .i64 c] w fun r w' => r = .returned (.bool true) ∧ w = w' := by
  obtain ⟨x0, x1, _⟩ := rt_cells h
  go_enter Tryz.func61, Tryz.ntmps61
  go_wp2
  go_ret
  exact ⟨rfl, rfl⟩
theorem rAt_snocU {l : List (Int × List Ch)} {p : Nat} {r : Int × List Ch} (k c : Int) (h : l[p]? = some r) : rAt (upTo (l.take (p + 1)) c) k = if r.1 ≤ c then stepR k (rAt (upTo (l.take p) c) k) r else rAt (upTo (l.take p) c) k := by
  unfold rAt upTo
  rw [take_at h, List.filter_append]
  by_cases hc : r.1 ≤ c
  · rw [if_pos hc, List.filter_cons_of_pos (by simpa using hc), List.filter_nil, List.foldl_append]
    rfl
  · rw [if_neg hc, List.filter_cons_of_neg (by simpa using hc), List.filter_nil, List.append_nil]
theorem upTo_all {l : List (Int × List Ch)} {c : Int} (h : ∀ r ∈ l, r.1 ≤ c) : upTo l c = l := List.filter_eq_self.2 (fun r hr => by simpa using h r hr)
/-- What a view's table says at its commit, and the document's. -/
structure AtR (t : Tab) (u : RTab) (c : Int) : Prop where
  r2 : Rel2 t u
  lo : 0 ≤ c
  hi : c ≤ t.last
  at_ : ∀ k, toOb (atO t c k) = rAt (upTo u.recs c) k
theorem AtR.new {t : Tab} {u : RTab} (h : Rel2 t u) {w : World} {S R : Nat → Prop} {b : Nat} (hT : Tb w S R b t) : AtR t u t.last := by
  refine ⟨h, by have := hT.first0; omega, Int.le_refl _, fun k => ?_⟩
  rw [h.at_ hT k, upTo_all (fun r hr => by rw [h.rel.last]; exact h.le r hr)]
theorem AtR.apply {t : Tab} {u : RTab} {c0 : Int} (h : AtR t u c0) (c : Int) (xs : List Ch) : AtR (applyT t c xs) (rapplyT u c xs) c0 := by
  have ha := aft_apply t c xs
  have hhi := h.hi
  refine ⟨h.r2.apply c xs, h.lo, Int.le_trans h.hi ha.last, fun k => ?_⟩
  have e1 : atO (applyT t c xs) c0 k = atO t c0 k := by
    unfold atO
    rw [ha.first, h.r2.rel.first, if_pos ⟨h.lo, Int.le_trans h.hi ha.last⟩, if_pos ⟨h.lo, h.hi⟩]
    exact ha.at_ k c0 h.hi
  rw [e1, h.at_ k]
  unfold rapplyT
  by_cases h0 : rapplyE u c xs = 0
  · rw [if_pos h0]
    have hc : u.end_ < c := by
      unfold rapplyE at h0
      split at h0
      · cases h0
      · split at h0
        · cases h0
        · omega
    have hl := h.r2.rel.last
    show _ = rAt (upTo (u.recs ++ [(c, xs)]) c0) k
    unfold upTo
    rw [List.filter_append, List.filter_cons_of_neg (by simp; omega), List.filter_nil, List.append_nil]
  · rw [if_neg h0]
set_option maxHeartbeats 8000000 in
theorem rat_at {w : World} {U : Nat → Prop} {b : Nat} {u : RTab} (h : RTb w U b u) {cm : Int} (hf : u.from_ ≤ cm) (hf2 : cm ≤ u.end_) (hok : ∀ r ∈ u.recs, okR r.1 r.2 = true) (hk : u.k ≤ 1000) (k : Int) :
    Calls Tryz.prog 43 #[.pointer (some ⟨b, 0, none⟩), .int .i64 cm, .int .i64 k] w (PkQ w (rAt (upTo u.recs cm) k)) := by
  have E6 := new1 w (objB 0 (.slice none 0 0) (.slice none 0 0))
  have B6 : Below w.heap.size w (w.alloc (objB 0 (.slice none 0 0) (.slice none 0 0))) := box_below
  have h1 := h.below B6
  have hfew : Hid (u.recs.length ≤ 1000) := Nat.le_trans h.few hk
  unfold objB at E6 B6 h1
  clear h
  go_enter Tryz.func43, Tryz.ntmps43
  go_wp2_with fail
  generalize w.alloc (.cells #[.int .i64 0, .slice none 0 0, .slice none 0 0] 35) = w1 at *
  obtain ⟨b6, hb6⟩ : ∃ q, q = w.heap.size := ⟨_, rfl⟩
  rw [← hb6] at E6 ⊢
  have l6 : w.heap.size ≤ b6 := Nat.le_of_eq hb6.symm
  clear hb6
  replace E6 : w1.heap[b6]? = some (objB 0 (.slice none 0 0) (.slice none 0 0)) := E6
  obtain ⟨lv, wv, nw, hblk, hL, _, _⟩ := h1.blk
  obtain ⟨la, ln, lc, rfl, hln0⟩ := hL.shape
  have hln : Hid (ln = u.recs.length) := hln0
  have hl1 : ln ≤ 1000 := by have := hfew.out; omega
  clear hln0 h1
  obtain ⟨x0, x1, x2, x3, x4⟩ := rt_cells hblk
  refine (asked_at hblk hf hf2).mono ?_
  rintro e w2 ⟨rfl, rfl⟩
  clear hblk
  go_wp2_with fail
  go_loopw [8] (fun iv wr => ∃ q : Nat, q ≤ ln ∧ iv = .int .i64 ((q : Int) - 1) ∧ wr = w1 ∧ Hid (rAt (upTo u.recs cm) k = rAt (upTo (u.recs.take q) cm) k)) (fun iv _ => (intOf iv + 1).toNat)
  case atStart => exact ⟨ln, Nat.le_refl _, by go_num, rfl, by show _ = _; rw [List.take_of_length_le (by have := hln.out; omega)]⟩
  case round =>
    obtain ⟨q, hq, rfl, rfl, hra⟩ := hrel
    obtain ⟨z0, z1, z2, zf⟩ := obj_cells E6
    cases q with
    | zero =>
      have hr0 : Hid (rAt (upTo u.recs cm) k = none) := hra.out
      have e0 : ((0 : Nat) : Int) - 1 = -1 := rfl
      rw [e0]
      have H6 := stO_blk E6 0 (.slice none 0 0) (.slice none 0 0)
      have BD := stO_below B6 l6 0 (.slice none 0 0) (.slice none 0 0)
      have f0 : findI [] k = -1 := rfl
      clear hra
      go_wp2_with fail
      refine (find_any (isC_nil wr) k).mono ?_
      rintro e w3 ⟨rfl, rfl⟩
      rw [f0]
      go_wp2
      clear z0 z1 z2 zf
      obtain ⟨z0, z1, z2, zf⟩ := obj_cells H6
      exact bodyPost_ret (v := .tuple #[.agg #[.int .i64 0, .slice none 0 0, .slice none 0 0], .int .i64 25]) (results_twoP Tryz.results43 rfl (load49 z0 z1 z2) rfl) rfl (by rw [hr0.out]; exact ⟨_, _, _, _, _, _, rfl, ownV_nil _ _, ownB_nil' _ _, BD⟩)
    | succ p =>
      have e0 : ((p + 1 : Nat) : Int) - 1 = (p : Int) := by omega
      rw [e0]
      obtain ⟨rb, com, ra, rn, rc, xs, rfl, hrb, c0, c1, hC, hlp⟩ := hL.at_ p (by have := hln.out; omega)
      have hokr : Hid (okR com xs = true) := hok _ (List.mem_of_getElem? hlp.out)
      have hpi : (p : Int) < (ln : Int) := by omega
      have hp0 : (0 : Int) ≤ (p : Int) := by omega
      have hsn := rAt_snocU k cm hlp.out
      rw [← hra.out] at hsn
      obtain ⟨z, hz⟩ : ∃ z, Hid (findI xs k = z) := ⟨_, rfl⟩
      go_wp2_with fail
      refine (find_any hC k).mono ?_
      rintro e w3 ⟨rfl, rfl⟩
      rw [hz.out]
      by_cases hcom : com ≤ cm
      · rw [if_pos hcom] at hsn
        replace hsn : Hid _ := hsn
        by_cases hneg : z < 0
        · have hfn := findI_neg (xs := xs) (k := k) (by rw [hz.out]; exact hneg)
          have hz0 : ¬ (0 : Int) ≤ z := by omega
          have hnx : Hid (rAt (upTo u.recs cm) k = rAt (upTo (u.recs.take p) cm) k) := by
            show _ = _
            rw [hsn.out]
            unfold stepR
            simp only [hfn]
          clear hfn hsn
          go_wp2
          go_roundw
          case rel => exact ⟨p, by omega, by go_num, by trivial, hnx⟩
          case measure => simp [intOf] <;> omega
        · obtain ⟨i, x, ei, hi, hxi, hfx⟩ := findI_pos (xs := xs) (k := k) (by rw [hz.out]; exact hneg)
          obtain rfl : z = (i : Int) := hz.out.symm.trans ei
          have hin : i < rn := by have := hC.size; omega
          have hz0 : (0 : Int) ≤ (i : Int) := by omega
          have hii : (i : Int) < (rn : Int) := by omega
          obtain ⟨cb, off, x', rfl, hcb, hx', ⟨sa, sn, sc, ba, bn, bc, d0, d1, d2, d3, d4, io⟩, hw⟩ := hC.at_ i hin
          obtain rfl : x = x' := Option.some.inj (hxi.symm.trans hx'.out)
          have hst : Hid (rAt (upTo u.recs cm) k = if x.gone = true then none else some ⟨x.cls, x.vs, x.bs⟩) := by
            show _ = _
            rw [hsn.out]
            unfold stepR
            simp only [hfx]
          have hxm := List.mem_of_getElem? hxi
          replace hxm : Hid _ := hxm
          clear hsn hfx hxi ei hi hz hx' hneg
          by_cases hg : x.gone = true
          · have hr0 : Hid (rAt (upTo u.recs cm) k = none) := by show _ = _; rw [hst.out, if_pos hg]
            rw [hg] at d1
            have H6 := stO_blk E6 0 (.slice none 0 0) (.slice none 0 0)
            have BD := stO_below B6 l6 0 (.slice none 0 0) (.slice none 0 0)
            clear hst
            go_wp2
            clear z0 z1 z2 zf
            obtain ⟨z0, z1, z2, zf⟩ := obj_cells H6
            exact bodyPost_ret (v := .tuple #[.agg #[.int .i64 0, .slice none 0 0, .slice none 0 0], .int .i64 25]) (results_twoP Tryz.results43 rfl (load49 z0 z1 z2) rfl) rfl (by rw [hr0.out]; exact ⟨_, _, _, _, _, _, rfl, ownV_nil _ _, ownB_nil' _ _, BD⟩)
          · have hg' : x.gone = false := by simpa using hg
            have hr0 : Hid (rAt (upTo u.recs cm) k = some ⟨x.cls, x.vs, x.bs⟩) := by show _ = _; rw [hst.out, if_neg hg]
            rw [hg'] at d1
            obtain ⟨hs1, hs2⟩ := okR_len hokr.out hxm.out hg'
            have hs : sn ≤ 8796093022208 := by have := io.v.size; omega
            have hb : bn ≤ 140737488355328 := by have := io.b.size; omega
            have d3' : wr.cell? ⟨cb, off + i * 5 + 2 + 1, none⟩ = some (.slice sa sn sc) := d3
            have d4' : wr.cell? ⟨cb, off + i * 5 + 2 + 2, none⟩ = some (.slice ba bn bc) := d4
            clear hst hg hs1 hs2
            go_wp2_with fail
            refine (rcopy_shape io hs hb).mono ?_
            rintro e w4 ⟨ga, gn, gc, qa, qn, qc, rfl, oV, oB, B4⟩
            have G6 := (B4.block b6 (lt_of_block E6)).trans E6
            clear z0 z1 z2 zf
            obtain ⟨z0, z1, z2, zf⟩ := obj_cells G6
            have H6 := stO_blk G6 x.cls (.slice ga gn gc) (.slice qa qn qc)
            have BB := below_size B6 B6.size B4
            have BD := stO_below BB l6 x.cls (.slice ga gn gc) (.slice qa qn qc)
            have oV3 := ownV_of (stO_own (oV.mono B6.size).1 G6 (by decide) x.cls (.slice ga gn gc) (.slice qa qn qc)) oV.wf
            have oB3 := ownB_of (stO_own (oB.mono B6.size).1 G6 (by decide) x.cls (.slice ga gn gc) (.slice qa qn qc)) oB.byte
            clear oV oB d0 d1 d2 d3 d4 d3' d4'
            go_wp2
            clear z0 z1 z2 zf
            obtain ⟨z0, z1, z2, zf⟩ := obj_cells H6
            exact bodyPost_ret (v := .tuple #[.agg #[.int .i64 x.cls, .slice ga gn gc, .slice qa qn qc], .int .i64 0]) (results_twoP Tryz.results43 rfl (load49 z0 z1 z2) rfl) rfl (by rw [hr0.out]; exact ⟨_, _, _, _, _, _, rfl, oV3, oB3, BD⟩)
      · rw [if_neg hcom] at hsn
        replace hsn : Hid _ := hsn
        by_cases hz0 : (0 : Int) ≤ z
        · go_wp2
          go_roundw
          case rel => exact ⟨p, by omega, by go_num, by trivial, hsn⟩
          case measure => simp [intOf] <;> omega
        · go_wp2
          go_roundw
          case rel => exact ⟨p, by omega, by go_num, by trivial, hsn⟩
          case measure => simp [intOf] <;> omega
end Go.Proofs.YteomolihandfnaaGreat
