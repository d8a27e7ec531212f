/- The document's At of the last commit. -/
import Derived.Test.YteomolihandfnaaRal
namespace Go.Proofs.Yteomolihandfnaa
open Go.RowKit
set_option maxRecDepth 100000
theorem Try.results24 : Try.f24.results = #[.cell 6 27, .tmp 7] := by kernel_rfl
theorem isC_nil (w : World) : IsC w none 0 0 [] := ⟨rfl, Nat.le_refl _, by decide, fun _ => rfl, by simp, fun h => absurd h (by decide)⟩
theorem okL_ch : ∀ {l : Int} {xs : List Ch}, okL l xs = true → ∀ x ∈ xs, okCh x.gone x.cls x.vs x.bs = true
  | _, [], _, x, hx => by simp at hx
  | l, y :: t, h, x, hx => by
    simp only [okL, Bool.and_eq_true, decide_eq_true_eq] at h
    rcases List.mem_cons.1 hx with rfl | hx
    · exact h.1.2
    · exact okL_ch h.2 x hx
theorem okR_len {c : Int} {xs : List Ch} (h : okR c xs = true) {x : Ch} (hx : x ∈ xs) (hg : x.gone = false) : x.vs.length ≤ 256 ∧ x.bs.length ≤ 1024 := by
  simp only [okR, Bool.and_eq_true] at h
  have h2 := okL_ch h.2 x hx
  simp only [okCh, hg, okO, Bool.false_eq_true, if_false, Bool.and_eq_true, decide_eq_true_eq] at h2
  omega
theorem rm1' (o : Ob) : clsR (some o) = o.cls := rfl
theorem rm2' (o : Ob) : vsR (some o) = o.vs := rfl
theorem rm3' (o : Ob) : bsR (some o) = o.bs := rfl
set_option maxHeartbeats 8000000 in
theorem rat_any {w : World} {U : Nat → Prop} {b : Nat} {u : RTab} (h : RTb w U b u) (hf : u.from_ ≤ u.end_) (hle : ∀ r ∈ u.recs, r.1 ≤ u.end_) (hok : ∀ r ∈ u.recs, okR r.1 r.2 = true) (hk : u.k ≤ 1000) (k : Int) :
    Calls Try.prog 24 #[.pointer (some ⟨b, 0, none⟩), .int .i64 u.end_, .int .i64 k] w (PkQ w (rAt u.recs k)) := by
  have E6 := new1 w (objB 0 (.slice none 0 0) (.slice none 0 0))
  have B6 : Below w.heap.size w (w.alloc (objB 0 (.slice none 0 0) (.slice none 0 0))) := box_below
  have h1 := h.below B6
  have hfew : Hid (u.recs.length ≤ 1000) := Nat.le_trans h.few hk
  unfold objB at E6 B6 h1
  clear h
  go_enter Try.func24, Try.ntmps24
  go_wp2_with fail
  generalize w.alloc (.cells #[.int .i64 0, .slice none 0 0, .slice none 0 0] 27) = w1 at *
  obtain ⟨b6, hb6⟩ : ∃ q, q = w.heap.size := ⟨_, rfl⟩
  rw [← hb6] at E6 ⊢
  have l6 : w.heap.size ≤ b6 := Nat.le_of_eq hb6.symm
  clear hb6
  replace E6 : w1.heap[b6]? = some (objB 0 (.slice none 0 0) (.slice none 0 0)) := E6
  obtain ⟨lv, wv, nw, hblk, hL, _, _⟩ := h1.blk
  obtain ⟨la, ln, lc, rfl, hln0⟩ := hL.shape
  have hln : Hid (ln = u.recs.length) := hln0
  have hl1 : ln ≤ 1000 := by have := hfew.out; omega
  clear hln0 h1
  obtain ⟨x0, x1, x2, x3, x4⟩ := rt_cells hblk
  refine (asked_any hblk hf).mono ?_
  rintro e w2 ⟨rfl, rfl⟩
  clear hblk
  go_wp2_with fail
  go_loopw [8] (fun iv wr => ∃ q : Nat, q ≤ ln ∧ iv = .int .i64 ((q : Int) - 1) ∧ wr = w1 ∧ Hid (rAt u.recs k = rAt (u.recs.take q) k)) (fun iv _ => (intOf iv + 1).toNat)
  case atStart => exact ⟨ln, Nat.le_refl _, by go_num, rfl, by show _ = _; rw [List.take_of_length_le (by have := hln.out; omega)]⟩
  case round =>
    obtain ⟨q, hq, rfl, rfl, hra⟩ := hrel
    obtain ⟨z0, z1, z2, zf⟩ := obj_cells E6
    cases q with
    | zero =>
      have hr0 : Hid (rAt u.recs k = none) := hra.out
      have e0 : ((0 : Nat) : Int) - 1 = -1 := rfl
      rw [e0]
      have H6 := stO_blk E6 0 (.slice none 0 0) (.slice none 0 0)
      have BD := stO_below B6 l6 0 (.slice none 0 0) (.slice none 0 0)
      have f0 : findI [] k = -1 := rfl
      clear hra
      go_wp2_with fail
      refine (find_any (isC_nil wr) k).mono ?_
      rintro e w3 ⟨rfl, rfl⟩
      rw [f0]
      go_wp2
      clear z0 z1 z2 zf
      obtain ⟨z0, z1, z2, zf⟩ := obj_cells H6
      exact bodyPost_ret (v := .tuple #[.agg #[.int .i64 0, .slice none 0 0, .slice none 0 0], .int .i64 25]) (results_twoP Try.results24 rfl (load49 z0 z1 z2) rfl) rfl (by rw [hr0.out]; exact ⟨_, _, _, _, _, _, rfl, ownV_nil _ _, ownB_nil' _ _, BD⟩)
    | succ p =>
      have e0 : ((p + 1 : Nat) : Int) - 1 = (p : Int) := by omega
      rw [e0]
      obtain ⟨rb, com, ra, rn, rc, xs, rfl, hrb, c0, c1, hC, hlp⟩ := hL.at_ p (by have := hln.out; omega)
      have hcom : com ≤ u.end_ := hle _ (List.mem_of_getElem? hlp.out)
      have hokr : Hid (okR com xs = true) := hok _ (List.mem_of_getElem? hlp.out)
      have hpi : (p : Int) < (ln : Int) := by omega
      have hp0 : (0 : Int) ≤ (p : Int) := by omega
      have hsn := rAt_snoc k hlp.out
      rw [← hra.out] at hsn
      replace hsn : Hid _ := hsn
      obtain ⟨z, hz⟩ : ∃ z, Hid (findI xs k = z) := ⟨_, rfl⟩
      go_wp2_with fail
      refine (find_any hC k).mono ?_
      rintro e w3 ⟨rfl, rfl⟩
      rw [hz.out]
      by_cases hneg : z < 0
      · have hfn := findI_neg (xs := xs) (k := k) (by rw [hz.out]; exact hneg)
        have hz0 : ¬ (0 : Int) ≤ z := by omega
        have hnx : Hid (rAt u.recs k = rAt (u.recs.take p) k) := by
          show _ = _
          rw [hsn.out]
          unfold stepR
          simp only [hfn]
        clear hfn hsn
        go_wp2
        go_roundw
        case rel => exact ⟨p, by omega, by go_num, by trivial, hnx⟩
        case measure => simp [intOf] <;> omega
      · obtain ⟨i, x, ei, hi, hxi, hfx⟩ := findI_pos (xs := xs) (k := k) (by rw [hz.out]; exact hneg)
        obtain rfl : z = (i : Int) := hz.out.symm.trans ei
        have hin : i < rn := by have := hC.size; omega
        have hz0 : (0 : Int) ≤ (i : Int) := by omega
        have hii : (i : Int) < (rn : Int) := by omega
        obtain ⟨cb, off, x', rfl, hcb, hx', ⟨sa, sn, sc, ba, bn, bc, d0, d1, d2, d3, d4, io⟩, hw⟩ := hC.at_ i hin
        obtain rfl : x = x' := Option.some.inj (hxi.symm.trans hx'.out)
        have hst : Hid (rAt u.recs k = if x.gone = true then none else some ⟨x.cls, x.vs, x.bs⟩) := by
          show _ = _
          rw [hsn.out]
          unfold stepR
          simp only [hfx]
        have hxm := List.mem_of_getElem? hxi
        replace hxm : Hid _ := hxm
        clear hsn hfx hxi ei hi hz hx' hneg
        by_cases hg : x.gone = true
        · have hr0 : Hid (rAt u.recs k = none) := by show _ = _; rw [hst.out, if_pos hg]
          rw [hg] at d1
          have H6 := stO_blk E6 0 (.slice none 0 0) (.slice none 0 0)
          have BD := stO_below B6 l6 0 (.slice none 0 0) (.slice none 0 0)
          clear hst
          go_wp2
          clear z0 z1 z2 zf
          obtain ⟨z0, z1, z2, zf⟩ := obj_cells H6
          exact bodyPost_ret (v := .tuple #[.agg #[.int .i64 0, .slice none 0 0, .slice none 0 0], .int .i64 25]) (results_twoP Try.results24 rfl (load49 z0 z1 z2) rfl) rfl (by rw [hr0.out]; exact ⟨_, _, _, _, _, _, rfl, ownV_nil _ _, ownB_nil' _ _, BD⟩)
        · have hg' : x.gone = false := by simpa using hg
          have hr0 : Hid (rAt u.recs k = some ⟨x.cls, x.vs, x.bs⟩) := by show _ = _; rw [hst.out, if_neg hg]
          rw [hg'] at d1
          obtain ⟨hs1, hs2⟩ := okR_len hokr.out hxm.out hg'
          have hs : sn ≤ 8796093022208 := by have := io.v.size; omega
          have hb : bn ≤ 140737488355328 := by have := io.b.size; omega
          have d3' : wr.cell? ⟨cb, off + i * 5 + 2 + 1, none⟩ = some (.slice sa sn sc) := d3
          have d4' : wr.cell? ⟨cb, off + i * 5 + 2 + 2, none⟩ = some (.slice ba bn bc) := d4
          clear hst hg hs1 hs2
          go_wp2_with fail
          refine (rcopy_shape io hs hb).mono ?_
          rintro e w4 ⟨ga, gn, gc, qa, qn, qc, rfl, oV, oB, B4⟩
          have G6 := (B4.block b6 (lt_of_block E6)).trans E6
          clear z0 z1 z2 zf
          obtain ⟨z0, z1, z2, zf⟩ := obj_cells G6
          have H6 := stO_blk G6 x.cls (.slice ga gn gc) (.slice qa qn qc)
          have BB := below_size B6 B6.size B4
          have BD := stO_below BB l6 x.cls (.slice ga gn gc) (.slice qa qn qc)
          have oV3 := ownV_of (stO_own (oV.mono B6.size).1 G6 (by decide) x.cls (.slice ga gn gc) (.slice qa qn qc)) oV.wf
          have oB3 := ownB_of (stO_own (oB.mono B6.size).1 G6 (by decide) x.cls (.slice ga gn gc) (.slice qa qn qc)) oB.byte
          clear oV oB d0 d1 d2 d3 d4 d3' d4'
          go_wp2
          clear z0 z1 z2 zf
          obtain ⟨z0, z1, z2, zf⟩ := obj_cells H6
          exact bodyPost_ret (v := .tuple #[.agg #[.int .i64 x.cls, .slice ga gn gc, .slice qa qn qc], .int .i64 0]) (results_twoP Try.results24 rfl (load49 z0 z1 z2) rfl) rfl (by rw [hr0.out]; exact ⟨_, _, _, _, _, _, rfl, oV3, oB3, BD⟩)
end Go.Proofs.Yteomolihandfnaa
