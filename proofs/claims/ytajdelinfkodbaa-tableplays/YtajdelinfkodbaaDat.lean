/- The document's At. -/
import Derived.Test.YtajdelinfkodbaaDoo
namespace Go.Proofs.Ytajdelinfkodbaa
open Go.RowKit
set_option maxRecDepth 100000
def oCl : Option Ob → Int | none => 0 | some x => x.cls
def oVs : Option Ob → List (Int × Int) | none => [] | some x => x.vs
def oBs : Option Ob → List Int | none => [] | some x => x.bs
def obE : Option Ob → Int | none => 25 | some _ => 0
def ObQ (w : World) (o : Option Ob) (er : Int) (e : Ending) (w' : World) : Prop := ∃ ga gn gc qa qn qc, e = .returned (.tuple #[.agg #[.int .i64 (oCl o), .slice ga gn gc, .slice qa qn qc], .int .i64 er]) ∧ OwnV w' w.heap.size (.slice ga gn gc) (oVs o) ∧ OwnB w' w.heap.size (.slice qa qn qc) (oBs o) ∧ Below w.heap.size w w'
def baseOb (b : List Ch) (k : Int) : Option Ob := match b.find? (fun x => decide (x.oop = k)) with
  | none => none
  | some x => if x.gone = true then none else some (obC x)
def rAtB (b : List Ch) (l : List (Int × List Ch)) (k : Int) : Option Ob := l.foldl (stepR k) (baseOb b k)
theorem rAtB_snocU {l : List (Int × List Ch)} (b : List Ch) {p : Nat} {com : Int} {xs : List Ch} (k cm : Int) (h : l[p]? = some (com, xs)) : rAtB b (upTo (l.take (p + 1)) cm) k = if com ≤ cm then stepR k (rAtB b (upTo (l.take p) cm) k) (com, xs) else rAtB b (upTo (l.take p) cm) k := by
  unfold rAtB upTo
  rw [take_at h, List.filter_append]
  by_cases hc : com ≤ cm
  · rw [if_pos hc, List.filter_cons_of_pos (by simpa using hc), List.foldl_append]
    rfl
  · rw [if_neg hc, List.filter_cons_of_neg (by simpa using hc)]
    simp
theorem rAtB_st : ∀ (l : List (Int × List Ch)) (b : List Ch) (k : Int), (∀ r ∈ l, okR r.1 r.2 = true) → rAtB b l k = baseOb (stL b l) k
  | [], _, _, _ => rfl
  | r :: l, b, k, h => by
    have h1 := h r (by simp)
    simp only [okR, Bool.and_eq_true] at h1
    rw [stL_cons, ← rAtB_st l _ k (fun q hq => h q (by simp [hq]))]
    unfold rAtB
    rw [List.foldl_cons]
    congr 1
    unfold baseOb
    rw [foldl_find, okL_find k h1.2]
    unfold stepR
    cases r.2.find? (fun x => decide (x.oop = k)) with
    | none => simp
    | some x => rfl
theorem rAtB_at {u : RTf} (h : ∀ r ∈ u.recs, okR r.1 r.2 = true) (c k : Int) : rAtB u.base (upTo u.recs c) k = atU u c k := by
  rw [rAtB_st (upTo u.recs c) u.base k (fun r hr => h r (List.mem_filter.1 hr).1)]
  rfl
theorem okR_mem {c : Int} {xs : List Ch} {x : Ch} (h : okR c xs = true) (hx : x ∈ xs) : okCh x.gone x.cls x.vs x.bs = true := by
  simp only [okR, Bool.and_eq_true] at h
  obtain ⟨i, hi⟩ := List.mem_iff_getElem?.1 hx
  exact (okL_at xs 0 i x h.2 hi).2.2
theorem Try.results20 : Try.f20.results = #[.cell 6 49, .tmp 7] := by kernel_rfl
set_option maxHeartbeats 8000000 in
theorem rat_in {w : World} {U : Nat → Prop} {b kk : Nat} {u : RTf} (h : RTb w U b u kk) (hgb : ∀ x ∈ u.base, okCh x.gone x.cls x.vs x.bs = true) {cm : Int} (hf : u.from_ ≤ cm) (hf2 : cm ≤ u.end_) (hok : ∀ r ∈ u.recs, okR r.1 r.2 = true) (hk : kk ≤ 1000) (k : Int) :
    Calls Try.prog 20 #[.pointer (some ⟨b, 0, none⟩), .int .i64 cm, .int .i64 k] w (ObQ w (rAtB u.base (upTo u.recs cm) k) (obE (rAtB u.base (upTo u.recs cm) k))) := by
  have E6 := new1 w (objB 0 (.slice none 0 0) (.slice none 0 0))
  have B6 : Below w.heap.size w (w.alloc (objB 0 (.slice none 0 0) (.slice none 0 0))) := box_below
  have h1 := h.below B6
  have hfew : Hid (u.recs.length ≤ 1000) := Nat.le_trans h.few.1 hk
  unfold objB at E6 B6 h1
  clear h
  go_enter Try.func20, Try.ntmps20
  go_wp2_with fail
  generalize w.alloc (.cells #[.int .i64 0, .slice none 0 0, .slice none 0 0] 49) = w1 at *
  obtain ⟨b6, hb6⟩ : ∃ q, q = w.heap.size := ⟨_, rfl⟩
  rw [← hb6] at E6 ⊢
  have l6 : w.heap.size ≤ b6 := Nat.le_of_eq hb6.symm
  clear hb6
  replace E6 : w1.heap[b6]? = some (objB 0 (.slice none 0 0) (.slice none 0 0)) := E6
  obtain ⟨bv, lv, wv, hblk, hB, hL, _⟩ := h1.blk
  obtain ⟨va, vn, vc, rfl, hvn0⟩ := hB.shape
  obtain ⟨la, ln, lc, rfl, hln0⟩ := hL.shape
  have hln : Hid (ln = u.recs.length) := hln0
  have hl1 : ln ≤ 1000 := by have := hfew.out; omega
  clear hln0 h1 hvn0
  obtain ⟨x0, x1, x2, x3, x4⟩ := rt_cells hblk
  have aa := asked_any hblk cm
  have ea : (decide (u.from_ ≤ cm) && decide (cm ≤ u.end_)) = true := by simp [hf, hf2]
  rw [ea] at aa
  refine aa.mono ?_
  rintro e w2 ⟨rfl, rfl⟩
  clear hblk aa ea
  go_wp2_with fail
  go_loopw [8] (fun iv wr => ∃ q : Nat, q ≤ ln ∧ iv = .int .i64 ((q : Int) - 1) ∧ wr = w1 ∧ Hid (rAtB u.base (upTo u.recs cm) k = rAtB u.base (upTo (u.recs.take q) cm) k)) (fun iv _ => (intOf iv + 1).toNat)
  case atStart => exact ⟨ln, Nat.le_refl _, by go_num, rfl, by show _ = _; rw [List.take_of_length_le (by have := hln.out; omega)]⟩
  case round =>
    obtain ⟨q, hq, rfl, rfl, hra⟩ := hrel
    obtain ⟨z0, z1, z2, zf⟩ := obj_cells E6
    cases q with
    | zero =>
      have hr1 : Hid (rAtB u.base (upTo u.recs cm) k = baseOb u.base k) := hra.out
      have e0 : ((0 : Nat) : Int) - 1 = -1 := rfl
      rw [e0]
      have hC := hB.ownC.isC
      obtain ⟨z, hz⟩ : ∃ z, Hid (findI u.base k = z) := ⟨_, rfl⟩
      clear hra
      go_wp2_with fail
      refine (find_any hC k).mono ?_
      rintro e w3 ⟨rfl, rfl⟩
      rw [hz.out]
      by_cases hneg : z < 0
      · have hfn := findI_neg (xs := u.base) (k := k) (by rw [hz.out]; exact hneg)
        have hr0 : Hid (rAtB u.base (upTo u.recs cm) k = none) := by show _ = _; rw [hr1.out]; unfold baseOb; rw [hfn]
        have H6 := stO_blk E6 0 (.slice none 0 0) (.slice none 0 0)
        have BD := stO_below B6 l6 0 (.slice none 0 0) (.slice none 0 0)
        clear hfn hr1 hC
        go_wp2
        clear z0 z1 z2 zf
        obtain ⟨z0, z1, z2, zf⟩ := obj_cells H6
        exact bodyPost_ret (v := .tuple #[.agg #[.int .i64 0, .slice none 0 0, .slice none 0 0], .int .i64 25]) (results_twoP Try.results20 rfl (load49 z0 z1 z2) rfl) rfl (by rw [hr0.out]; exact ⟨_, _, _, _, _, _, rfl, ownV_nil _ _, ownB_nil' _ _, BD⟩)
      · obtain ⟨i, x, ei, hi, hxi, hfx⟩ := findI_pos (xs := u.base) (k := k) (by rw [hz.out]; exact hneg)
        obtain rfl : z = (i : Int) := hz.out.symm.trans ei
        have hin : i < vn := by have := hC.size; omega
        have hz0 : ¬ (i : Int) < 0 := by omega
        have hii : (i : Int) < (vn : Int) := by omega
        obtain ⟨cb, off, x', rfl, hcb, hx', ⟨sa, sn, sc, ba, bn, bc, d0, d1, d2, d3, d4, io⟩, hw⟩ := hC.at_ i hin
        obtain rfl : x = x' := Option.some.inj (hxi.symm.trans hx'.out)
        have hst : Hid (rAtB u.base (upTo u.recs cm) k = if x.gone = true then none else some ⟨x.cls, x.vs, x.bs⟩) := by
          show _ = _
          rw [hr1.out]
          unfold baseOb
          rw [hfx]
          rfl
        have hxm := hgb x (List.mem_of_getElem? hxi)
        replace hxm : Hid _ := hxm
        clear hfx hxi ei hi hz hx' hneg hr1
        by_cases hg : x.gone = true
        · have hr0 : Hid (rAtB u.base (upTo u.recs cm) k = none) := by show _ = _; rw [hst.out, if_pos hg]
          rw [hg] at d1
          have H6 := stO_blk E6 0 (.slice none 0 0) (.slice none 0 0)
          have BD := stO_below B6 l6 0 (.slice none 0 0) (.slice none 0 0)
          clear hst
          go_wp2
          clear z0 z1 z2 zf
          obtain ⟨z0, z1, z2, zf⟩ := obj_cells H6
          exact bodyPost_ret (v := .tuple #[.agg #[.int .i64 0, .slice none 0 0, .slice none 0 0], .int .i64 25]) (results_twoP Try.results20 rfl (load49 z0 z1 z2) rfl) rfl (by rw [hr0.out]; exact ⟨_, _, _, _, _, _, rfl, ownV_nil _ _, ownB_nil' _ _, BD⟩)
        · have hg' : x.gone = false := by simpa using hg
          have hr0 : Hid (rAtB u.base (upTo u.recs cm) k = some ⟨x.cls, x.vs, x.bs⟩) := by show _ = _; rw [hst.out, if_neg hg]
          rw [hg'] at d1
          obtain ⟨hs1, hs2⟩ := okCh_len hxm.out
          have hs : sn ≤ 8796093022208 := by have := io.v.size; omega
          have hb : bn ≤ 140737488355328 := by have := io.b.size; omega
          have d3' : wr.cell? ⟨cb, off + i * 5 + 2 + 1, none⟩ = some (.slice sa sn sc) := d3
          have d4' : wr.cell? ⟨cb, off + i * 5 + 2 + 2, none⟩ = some (.slice ba bn bc) := d4
          clear hst hg hs1 hs2
          go_wp2_with fail
          refine (rcopy_shp io hs hb).mono ?_
          rintro e w4 ⟨ga, gn, gc, qa, qn, qc, rfl, oV, oB, B4⟩
          have G6 := (B4.block b6 (lt_of_block E6)).trans E6
          clear z0 z1 z2 zf
          obtain ⟨z0, z1, z2, zf⟩ := obj_cells G6
          have H6 := stO_blk G6 x.cls (.slice ga gn gc) (.slice qa qn qc)
          have BB := below_size B6 B6.size B4
          have BD := stO_below BB l6 x.cls (.slice ga gn gc) (.slice qa qn qc)
          have oV3 := ownV_of (stO_own (oV.mono B6.size).1 G6 (by decide) x.cls (.slice ga gn gc) (.slice qa qn qc)) oV.wf
          have oB3 := ownB_of (stO_own (oB.mono B6.size).1 G6 (by decide) x.cls (.slice ga gn gc) (.slice qa qn qc)) oB.byte
          clear oV oB d0 d1 d2 d3 d4 d3' d4'
          go_wp2
          clear z0 z1 z2 zf
          obtain ⟨z0, z1, z2, zf⟩ := obj_cells H6
          exact bodyPost_ret (v := .tuple #[.agg #[.int .i64 x.cls, .slice ga gn gc, .slice qa qn qc], .int .i64 0]) (results_twoP Try.results20 rfl (load49 z0 z1 z2) rfl) rfl (by rw [hr0.out]; exact ⟨_, _, _, _, _, _, rfl, oV3, oB3, BD⟩)
    | succ p =>
      have e0 : ((p + 1 : Nat) : Int) - 1 = (p : Int) := by omega
      rw [e0]
      obtain ⟨rb, com, ra, rn, rc, xs, rfl, hrb, c0, c1, hC, hlp⟩ := hL.at_ p (by have := hln.out; omega)
      have hokr : Hid (okR com xs = true) := hok _ (List.mem_of_getElem? hlp.out)
      have hpi : (p : Int) < (ln : Int) := by omega
      have hp0 : (0 : Int) ≤ (p : Int) := by omega
      have hsn := rAtB_snocU u.base k cm hlp.out
      rw [← hra.out] at hsn
      obtain ⟨z, hz⟩ : ∃ z, Hid (findI xs k = z) := ⟨_, rfl⟩
      go_wp2_with fail
      refine (find_any hC k).mono ?_
      rintro e w3 ⟨rfl, rfl⟩
      rw [hz.out]
      by_cases hcom : com ≤ cm
      · rw [if_pos hcom] at hsn
        replace hsn : Hid _ := hsn
        by_cases hneg : z < 0
        · have hfn := findI_neg (xs := xs) (k := k) (by rw [hz.out]; exact hneg)
          have hz0 : ¬ (0 : Int) ≤ z := by omega
          have hnx : Hid (rAtB u.base (upTo u.recs cm) k = rAtB u.base (upTo (u.recs.take p) cm) k) := by
            show _ = _
            rw [hsn.out]
            unfold stepR
            simp only [hfn]
          clear hfn hsn
          go_wp2
          go_roundw
          case rel => exact ⟨p, by omega, by go_num, by trivial, hnx⟩
          case measure => simp [intOf] <;> omega
        · obtain ⟨i, x, ei, hi, hxi, hfx⟩ := findI_pos (xs := xs) (k := k) (by rw [hz.out]; exact hneg)
          obtain rfl : z = (i : Int) := hz.out.symm.trans ei
          have hin : i < rn := by have := hC.size; omega
          have hz0 : (0 : Int) ≤ (i : Int) := by omega
          have hii : (i : Int) < (rn : Int) := by omega
          obtain ⟨cb, off, x', rfl, hcb, hx', ⟨sa, sn, sc, ba, bn, bc, d0, d1, d2, d3, d4, io⟩, hw⟩ := hC.at_ i hin
          obtain rfl : x = x' := Option.some.inj (hxi.symm.trans hx'.out)
          have hst : Hid (rAtB u.base (upTo u.recs cm) k = if x.gone = true then none else some ⟨x.cls, x.vs, x.bs⟩) := by
            show _ = _
            rw [hsn.out]
            unfold stepR
            simp only [hfx]
          have hxm := List.mem_of_getElem? hxi
          replace hxm : Hid _ := hxm
          clear hsn hfx hxi ei hi hz hx' hneg
          by_cases hg : x.gone = true
          · have hr0 : Hid (rAtB u.base (upTo u.recs cm) k = none) := by show _ = _; rw [hst.out, if_pos hg]
            rw [hg] at d1
            have H6 := stO_blk E6 0 (.slice none 0 0) (.slice none 0 0)
            have BD := stO_below B6 l6 0 (.slice none 0 0) (.slice none 0 0)
            clear hst
            go_wp2
            clear z0 z1 z2 zf
            obtain ⟨z0, z1, z2, zf⟩ := obj_cells H6
            exact bodyPost_ret (v := .tuple #[.agg #[.int .i64 0, .slice none 0 0, .slice none 0 0], .int .i64 25]) (results_twoP Try.results20 rfl (load49 z0 z1 z2) rfl) rfl (by rw [hr0.out]; exact ⟨_, _, _, _, _, _, rfl, ownV_nil _ _, ownB_nil' _ _, BD⟩)
          · have hg' : x.gone = false := by simpa using hg
            have hr0 : Hid (rAtB u.base (upTo u.recs cm) k = some ⟨x.cls, x.vs, x.bs⟩) := by show _ = _; rw [hst.out, if_neg hg]
            rw [hg'] at d1
            obtain ⟨hs1, hs2⟩ := okCh_len (okR_mem hokr.out hxm.out)
            have hs : sn ≤ 8796093022208 := by have := io.v.size; omega
            have hb : bn ≤ 140737488355328 := by have := io.b.size; omega
            have d3' : wr.cell? ⟨cb, off + i * 5 + 2 + 1, none⟩ = some (.slice sa sn sc) := d3
            have d4' : wr.cell? ⟨cb, off + i * 5 + 2 + 2, none⟩ = some (.slice ba bn bc) := d4
            clear hst hg hs1 hs2
            go_wp2_with fail
            refine (rcopy_shp io hs hb).mono ?_
            rintro e w4 ⟨ga, gn, gc, qa, qn, qc, rfl, oV, oB, B4⟩
            have G6 := (B4.block b6 (lt_of_block E6)).trans E6
            clear z0 z1 z2 zf
            obtain ⟨z0, z1, z2, zf⟩ := obj_cells G6
            have H6 := stO_blk G6 x.cls (.slice ga gn gc) (.slice qa qn qc)
            have BB := below_size B6 B6.size B4
            have BD := stO_below BB l6 x.cls (.slice ga gn gc) (.slice qa qn qc)
            have oV3 := ownV_of (stO_own (oV.mono B6.size).1 G6 (by decide) x.cls (.slice ga gn gc) (.slice qa qn qc)) oV.wf
            have oB3 := ownB_of (stO_own (oB.mono B6.size).1 G6 (by decide) x.cls (.slice ga gn gc) (.slice qa qn qc)) oB.byte
            clear oV oB d0 d1 d2 d3 d4 d3' d4'
            go_wp2
            clear z0 z1 z2 zf
            obtain ⟨z0, z1, z2, zf⟩ := obj_cells H6
            exact bodyPost_ret (v := .tuple #[.agg #[.int .i64 x.cls, .slice ga gn gc, .slice qa qn qc], .int .i64 0]) (results_twoP Try.results20 rfl (load49 z0 z1 z2) rfl) rfl (by rw [hr0.out]; exact ⟨_, _, _, _, _, _, rfl, oV3, oB3, BD⟩)
      · rw [if_neg hcom] at hsn
        replace hsn : Hid _ := hsn
        by_cases hz0 : (0 : Int) ≤ z
        · go_wp2
          go_roundw
          case rel => exact ⟨p, by omega, by go_num, by trivial, hsn⟩
          case measure => simp [intOf] <;> omega
        · go_wp2
          go_roundw
          case rel => exact ⟨p, by omega, by go_num, by trivial, hsn⟩
          case measure => simp [intOf] <;> omega
def ratO (u : RTf) (c k : Int) : Option Ob := if u.from_ ≤ c ∧ c ≤ u.end_ then atU u c k else none
def ratE (u : RTf) (c k : Int) : Int := if u.from_ ≤ c ∧ c ≤ u.end_ then obE (atU u c k) else 13
theorem rat_any {w : World} {U : Nat → Prop} {b kk : Nat} {u : RTf} (h : RTb w U b u kk) (hgb : ∀ x ∈ u.base, okCh x.gone x.cls x.vs x.bs = true) (hok : ∀ r ∈ u.recs, okR r.1 r.2 = true) (hk : kk ≤ 1000) (c k : Int) :
    Calls Try.prog 20 #[.pointer (some ⟨b, 0, none⟩), .int .i64 c, .int .i64 k] w (ObQ w (ratO u c k) (ratE u c k)) := by
  by_cases hc : u.from_ ≤ c ∧ c ≤ u.end_
  · have e1 : ratO u c k = rAtB u.base (upTo u.recs c) k := by unfold ratO; rw [if_pos hc, rAtB_at hok]
    have e2 : ratE u c k = obE (rAtB u.base (upTo u.recs c) k) := by unfold ratE; rw [if_pos hc, rAtB_at hok]
    rw [e1, e2]
    exact rat_in h hgb hc.1 hc.2 hok hk k
  · have ea : (decide (u.from_ ≤ c) && decide (c ≤ u.end_)) = false := by
      cases h1 : decide (u.from_ ≤ c) && decide (c ≤ u.end_) with
      | false => rfl
      | true => simp at h1; exact absurd h1 hc
    have e1 : ratO u c k = none := if_neg hc
    have e2 : ratE u c k = 13 := if_neg hc
    rw [e1, e2]
    have E6 := new1 w (objB 0 (.slice none 0 0) (.slice none 0 0))
    have B6 : Below w.heap.size w (w.alloc (objB 0 (.slice none 0 0) (.slice none 0 0))) := box_below
    have h1 := h.below B6
    obtain ⟨bv, lv, wv, hblk, _⟩ := h1.blk
    unfold objB at E6 B6 hblk
    clear h1 h e1 e2
    have aa := asked_any hblk c
    rw [ea] at aa
    go_enter Try.func20, Try.ntmps20
    go_wp2_with fail
    generalize w.alloc (.cells #[.int .i64 0, .slice none 0 0, .slice none 0 0] 49) = w1 at *
    obtain ⟨b6, hb6⟩ : ∃ q, q = w.heap.size := ⟨_, rfl⟩
    rw [← hb6] at E6 ⊢
    have l6 : w.heap.size ≤ b6 := Nat.le_of_eq hb6.symm
    clear hb6
    replace E6 : w1.heap[b6]? = some (objB 0 (.slice none 0 0) (.slice none 0 0)) := E6
    refine aa.mono ?_
    rintro e w2 ⟨rfl, rfl⟩
    obtain ⟨z0, z1, z2, zf⟩ := obj_cells E6
    have H6 := stO_blk E6 0 (.slice none 0 0) (.slice none 0 0)
    have BD := stO_below B6 l6 0 (.slice none 0 0) (.slice none 0 0)
    clear aa
    go_wp2
    clear z0 z1 z2 zf
    obtain ⟨z0, z1, z2, zf⟩ := obj_cells H6
    exact bodyPost_ret (v := .tuple #[.agg #[.int .i64 0, .slice none 0 0, .slice none 0 0], .int .i64 13]) (results_twoP Try.results20 rfl (load49 z0 z1 z2) rfl) rfl ⟨_, _, _, _, _, _, rfl, ownV_nil _ _, ownB_nil' _ _, BD⟩
end Go.Proofs.Ytajdelinfkodbaa
