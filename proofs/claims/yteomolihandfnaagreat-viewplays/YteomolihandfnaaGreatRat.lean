/- The document's At. -/
import Derived.Test.YteomolihandfnaaGreatVrd
import Derived.Test.YteomolihandfnaaGreatVpk
namespace Go.Proofs.YteomolihandfnaaGreat
open Go.RowKit
set_option maxRecDepth 100000
def findI (xs : List Ch) (k : Int) : Int := match xs.findIdx? (fun x => decide (x.oop = k)) with
  | none => -1
  | some i => (i : Int)
theorem findI_none {xs : List Ch} {k : Int} (h : ∀ x ∈ xs, x.oop ≠ k) : findI xs k = -1 := by
  unfold findI
  rw [List.findIdx?_eq_none_iff.2 (fun x hx => by simpa using h x hx)]
theorem findI_some {xs : List Ch} {k : Int} {i : Nat} {x : Ch} (h : xs[i]? = some x) (hx : x.oop = k) (hn : ∀ j y, j < i → xs[j]? = some y → y.oop ≠ k) : findI xs k = (i : Int) := by
  unfold findI
  have : xs.findIdx? (fun x => decide (x.oop = k)) = some i := by
    rw [List.findIdx?_eq_some_iff_getElem]
    obtain ⟨hl, e⟩ := List.getElem?_eq_some_iff.1 h
    refine ⟨hl, by rw [e]; simpa using hx, fun j hj => ?_⟩
    have := hn j _ hj (List.getElem?_eq_getElem (by omega))
    simpa using this
  rw [this]
set_option maxHeartbeats 2000000 in
theorem find_any {w : World} {a : Option Addr} {n c : Nat} {xs : List Ch} (h : IsC w a n c xs) (k : Int) :
    Calls Tryz.prog 62 #[.slice a n c, .int .i64 k] w fun e w' => e = .returned (.int .i64 (findI xs k)) ∧ w = w' := by
  have hnn : n ≤ 9223372036854775807 := by have h1 := h.room; have h2 := h.most; unfold maxLen at h2; omega
  have hsz : Hid (xs.length = n) := h.size
  go_enter Tryz.func62, Tryz.ntmps62
  go_wp2
  go_loopw [5] (fun iv wr => ∃ j : Nat, j ≤ n ∧ iv = .int .i64 (j : Int) ∧ wr = w ∧ Hid (∀ i y, i < j → xs[i]? = some y → y.oop ≠ k)) (fun iv _ => n - (intOf iv).toNat)
  case atStart => exact ⟨0, by omega, rfl, rfl, fun i y hi => by omega⟩
  case round =>
    obtain ⟨j, hj, rfl, rfl, hno⟩ := hrel
    by_cases hlt : j < n
    · obtain ⟨b, off, x, rfl, hb, hx, ⟨sa, sn, sc, ba, bn, bc, c0, _⟩, hw⟩ := h.at_ j hlt
      have hji : (j : Int) < (n : Int) := by omega
      by_cases he : x.oop = k
      · have hf : Hid (findI xs k = (j : Int)) := findI_some hx.out he hno.out
        go_wp2
        go_ret
        exact ⟨by rw [hf.out]; rfl, rfl⟩
      · go_wp2
        go_roundw
        case rel =>
          refine ⟨j + 1, by omega, by go_num, by trivial, fun i y hi hy => ?_⟩
          rcases Nat.lt_or_ge i j with q | q
          · exact hno.out i y q hy
          · obtain rfl : i = j := by omega
            rw [hx.out] at hy
            cases hy
            exact he
        case measure => simp [intOf]; omega
    · have hji : ¬ (j : Int) < (n : Int) := by omega
      have hf : Hid (findI xs k = -1) := findI_none (fun x hx => by
        obtain ⟨i, hi⟩ := List.mem_iff_getElem?.1 hx
        exact hno.out i x (by have := (List.getElem?_eq_some_iff.1 hi).1; have := hsz.out; omega) hi)
      go_wp2
      go_ret
      exact ⟨by rw [hf.out]; rfl, rfl⟩
theorem asked_any {w : World} {b : Nat} {f e : Int} {l m : Value} (h : w.heap[b]? = some (rtB f e l m)) (hf : f ≤ e) : Calls Tryz.prog 61 #[.pointer (some ⟨b, 0, none⟩), .int .i64 e] w fun r w' => r = .returned (.bool true) ∧ w = w' := by
  obtain ⟨x0, x1, _⟩ := rt_cells h
  go_enter Tryz.func61, Tryz.ntmps61
  go_wp2
  go_ret
  exact ⟨rfl, rfl⟩
theorem flatR_len (rs : List Rr) : (flatR rs).length = rs.length * 2 := by
  induction rs with
  | nil => rfl
  | cons r rs ih =>
    have : flatR (r :: rs) = r.cells ++ flatR rs := rfl
    rw [this, List.length_append, ih]
    simp [Rr.cells]
    omega
theorem flatR_at : ∀ {rs : List Rr} {i : Nat} {r : Rr}, rs[i]? = some r → (flatR rs)[i * 2]? = some (.int .i64 r.com) ∧ (flatR rs)[i * 2 + 1]? = some (.slice r.a r.n r.c)
  | [], i, r, h => by simp at h
  | x :: rs, 0, r, h => by
    simp at h
    subst h
    exact ⟨rfl, rfl⟩
  | x :: rs, i + 1, r, h => by
    have e : flatR (x :: rs) = x.cells ++ flatR rs := rfl
    have hl : x.cells.length = 2 := rfl
    obtain ⟨h1, h2⟩ := flatR_at (rs := rs) (i := i) (r := r) (by simpa using h)
    rw [e]
    refine ⟨?_, ?_⟩
    · rw [List.getElem?_append_right (by rw [hl]; omega), hl, show (i + 1) * 2 - 2 = i * 2 by omega]; exact h1
    · rw [List.getElem?_append_right (by rw [hl]; omega), hl, show (i + 1) * 2 + 1 - 2 = i * 2 + 1 by omega]; exact h2
theorem LrT.at_ {w : World} {U : Nat → Prop} {a : Option Addr} {n c : Nat} {l : List (Int × List Ch)} (h : LrT w U (.slice a n c) l) (j : Nat) (hj : j < l.length) : ∃ rb com ra rn rc xs, a = some ⟨rb, 0, none⟩ ∧ rb < w.heap.size ∧ w.cell? ⟨rb, j * 2, none⟩ = some (.int .i64 com) ∧ w.cell? ⟨rb, j * 2 + 1, none⟩ = some (.slice ra rn rc) ∧ IsC w ra rn rc xs ∧ Hid (l[j]? = some (com, xs)) := by
  obtain ⟨rs, rfl, h1, _, h3⟩ := h
  rw [List.length_map] at hj
  obtain ⟨r, hr⟩ : ∃ r, rs[j]? = some r := ⟨_, List.getElem?_eq_getElem hj⟩
  obtain ⟨f0, f1⟩ := flatR_at hr
  rcases h1.2 with ⟨_, h0⟩ | ⟨g, cap, cur, e, _⟩
  · omega
  · cases e
    have c0 := World.ownsRow.cells h1 (g := g) rfl _ _ f0
    have c1 := World.ownsRow.cells h1 (g := g) rfl _ _ f1
    rw [Addr.add_lit, Nat.zero_add] at c0 c1
    exact ⟨g, r.com, r.a, r.n, r.c, r.xs, rfl, lt_of_cell c0, c0, c1, (h3 r (List.mem_of_getElem? hr)).ownC.isC, by show _ = _; rw [List.getElem?_map, hr]; rfl⟩
def stepR (k : Int) (acc : Option Ob) (r : Int × List Ch) : Option Ob := match r.2.find? (fun x => decide (x.oop = k)) with
  | none => acc
  | some x => if x.gone = true then none else some ⟨x.cls, x.vs, x.bs⟩
/-- What an object is by the records. -/
def rAt (l : List (Int × List Ch)) (k : Int) : Option Ob := l.foldl (stepR k) none
def liveOb (vs : List Ch) : Option Ob := match vs.getLast? with
  | none => none
  | some x => if x.gone = true then none else some ⟨x.cls, x.vs, x.bs⟩
theorem live_with (c : Int) (x : Ch) (vs : List Ch) : liveOb (withL c x vs) = if x.gone = true then none else some ⟨x.cls, x.vs, x.bs⟩ := by
  unfold withL
  by_cases h : (!x.gone || thereC vs) = true
  · rw [if_pos h]
    unfold liveOb
    rw [List.getLast?_append]
    rfl
  · rw [if_neg h]
    simp only [Bool.or_eq_true, Bool.not_eq_true', not_or, Bool.not_eq_false, Bool.not_eq_true] at h
    obtain ⟨h1, h2⟩ := h
    rw [if_pos h1]
    unfold thereC at h2
    unfold liveOb
    cases hv : vs.getLast? with
    | none => rfl
    | some y => rw [hv] at h2; simp at h2; simp [h2]
theorem okL_gt : ∀ {l : Int} {xs : List Ch}, okL l xs = true → ∀ x ∈ xs, l < x.oop
  | _, [], _, x, hx => by simp at hx
  | l, y :: t, h, x, hx => by
    simp only [okL, Bool.and_eq_true, decide_eq_true_eq] at h
    rcases List.mem_cons.1 hx with rfl | hx
    · exact h.1.1.1
    · have := okL_gt h.2 x hx
      omega
theorem live_appl (c k : Int) : ∀ {l : Int} (xs : List Ch) (m : Int → Past), okL l xs = true → liveOb ((applM c xs m) k).vs = stepR k (liveOb (m k).vs) (c, xs)
  | _, [], m, _ => rfl
  | l, x :: r, m, h => by
    simp only [okL, Bool.and_eq_true, decide_eq_true_eq] at h
    show liveOb ((applM c r (putM c x m)) k).vs = _
    rw [live_appl c k r (putM c x m) h.2]
    by_cases hk : x.oop = k
    · have hn : r.find? (fun x => decide (x.oop = k)) = none := List.find?_eq_none.2 (fun y hy => by have := okL_gt h.2 y hy; simp; omega)
      unfold stepR
      simp only [hn]
      rw [List.find?_cons_of_pos (by simpa using hk)]
      show liveOb (putM c x m k).vs = _
      unfold putM
      rw [if_pos hk.symm]
      exact live_with c x _
    · unfold stepR
      simp only
      rw [List.find?_cons_of_neg (by simpa using hk)]
      unfold putM
      rw [if_neg (fun e => hk e.symm)]
theorem live_fold (k : Int) : ∀ (l : List (Int × List Ch)) (m : Int → Past), (∀ r ∈ l, okR r.1 r.2 = true) → liveOb ((l.foldl (fun m r => applM r.1 r.2 m) m) k).vs = l.foldl (stepR k) (liveOb (m k).vs)
  | [], _, _ => rfl
  | r :: l, m, h => by
    have h1 := h r (by simp)
    simp only [okR, Bool.and_eq_true] at h1
    simp only [List.foldl_cons]
    rw [live_fold k l _ (fun q hq => h q (by simp [hq])), live_appl r.1 k r.2 m h1.2]
theorem Rel2.at_ {t : Tab} {u : RTab} (h : Rel2 t u) {w : World} {S R : Nat → Prop} {b : Nat} (hT : Tb w S R b t) (k : Int) : toOb (atO t t.last k) = rAt u.recs k := by
  have e1 : rAt u.recs k = liveOb (t.m k).vs := by
    rw [h.rel.m, live_fold k u.recs _ h.rel.ok]
    rfl
  rw [e1]
  unfold atO
  rw [if_pos ⟨hT.first0.2.1, Int.le_refl _⟩]
  unfold atC liveOb
  rw [List.filter_eq_self.2 (fun x hx => by
    have q1 := hT.good.ver k x hx
    have q2 := hT.good.chg k
    simp
    omega)]
  cases hv : (t.m k).vs.getLast? with
  | none => rfl
  | some x =>
    simp only
    split <;> rfl
theorem rAt_snoc {l : List (Int × List Ch)} {p : Nat} {r : Int × List Ch} (k : Int) (h : l[p]? = some r) : rAt (l.take (p + 1)) k = stepR k (rAt (l.take p) k) r := by
  unfold rAt
  rw [take_at h, List.foldl_append]
  rfl
theorem findI_neg {xs : List Ch} {k : Int} (h : findI xs k < 0) : xs.find? (fun x => decide (x.oop = k)) = none := by
  unfold findI at h
  cases hf : xs.findIdx? (fun x => decide (x.oop = k)) with
  | none =>
    rw [List.findIdx?_eq_none_iff] at hf
    exact List.find?_eq_none.2 (fun x hx => by have := hf x hx; simpa using this)
  | some i => rw [hf] at h; simp at h; omega
theorem findI_pos {xs : List Ch} {k : Int} (h : ¬ findI xs k < 0) : ∃ (i : Nat) (x : Ch), findI xs k = (i : Int) ∧ i < xs.length ∧ xs[i]? = some x ∧ xs.find? (fun x => decide (x.oop = k)) = some x := by
  unfold findI at h ⊢
  cases hf : xs.findIdx? (fun x => decide (x.oop = k)) with
  | none => rw [hf] at h; simp at h
  | some i =>
    rw [List.findIdx?_eq_some_iff_getElem] at hf
    obtain ⟨hl, e1, e2⟩ := hf
    refine ⟨i, xs[i], rfl, hl, List.getElem?_eq_getElem hl, ?_⟩
    rw [List.find?_eq_some_iff_getElem]
    exact ⟨e1, i, hl, rfl, fun j hj => by have := e2 j hj; simpa using this⟩
end Go.Proofs.YteomolihandfnaaGreat
namespace Go.Proofs.YteomolihandfnaaGreat
open Go.RowKit
set_option maxRecDepth 100000
theorem Tryz.results43 : Tryz.f43.results = #[.cell 6 35, .tmp 7] := by kernel_rfl
theorem isC_nil (w : World) : IsC w none 0 0 [] := ⟨rfl, Nat.le_refl _, by decide, fun _ => rfl, by simp, fun h => absurd h (by decide)⟩
theorem okL_ch : ∀ {l : Int} {xs : List Ch}, okL l xs = true → ∀ x ∈ xs, okCh x.gone x.cls x.vs x.bs = true
  | _, [], _, x, hx => by simp at hx
  | l, y :: t, h, x, hx => by
    simp only [okL, Bool.and_eq_true, decide_eq_true_eq] at h
    rcases List.mem_cons.1 hx with rfl | hx
    · exact h.1.2
    · exact okL_ch h.2 x hx
theorem okR_len {c : Int} {xs : List Ch} (h : okR c xs = true) {x : Ch} (hx : x ∈ xs) (hg : x.gone = false) : x.vs.length ≤ 256 ∧ x.bs.length ≤ 1024 := by
  simp only [okR, Bool.and_eq_true] at h
  have h2 := okL_ch h.2 x hx
  simp only [okCh, hg, okO, Bool.false_eq_true, if_false, Bool.and_eq_true, decide_eq_true_eq] at h2
  omega
theorem rm1' (o : Ob) : clsR (some o) = o.cls := rfl
theorem rm2' (o : Ob) : vsR (some o) = o.vs := rfl
theorem rm3' (o : Ob) : bsR (some o) = o.bs := rfl
set_option maxHeartbeats 8000000 in
theorem rat_any {w : World} {U : Nat → Prop} {b : Nat} {u : RTab} (h : RTb w U b u) (hf : u.from_ ≤ u.end_) (hle : ∀ r ∈ u.recs, r.1 ≤ u.end_) (hok : ∀ r ∈ u.recs, okR r.1 r.2 = true) (hk : u.k ≤ 1000) (k : Int) :
    Calls Tryz.prog 43 #[.pointer (some ⟨b, 0, none⟩), .int .i64 u.end_, .int .i64 k] w (PkQ w (rAt u.recs k)) := by
  have E6 := new1 w (objB 0 (.slice none 0 0) (.slice none 0 0))
  have B6 : Below w.heap.size w (w.alloc (objB 0 (.slice none 0 0) (.slice none 0 0))) := box_below
  have h1 := h.below B6
  have hfew : Hid (u.recs.length ≤ 1000) := Nat.le_trans h.few hk
  unfold objB at E6 B6 h1
  clear h
  go_enter Tryz.func43, Tryz.ntmps43
  go_wp2_with fail
  generalize w.alloc (.cells #[.int .i64 0, .slice none 0 0, .slice none 0 0] 35) = w1 at *
  obtain ⟨b6, hb6⟩ : ∃ q, q = w.heap.size := ⟨_, rfl⟩
  rw [← hb6] at E6 ⊢
  have l6 : w.heap.size ≤ b6 := Nat.le_of_eq hb6.symm
  clear hb6
  replace E6 : w1.heap[b6]? = some (objB 0 (.slice none 0 0) (.slice none 0 0)) := E6
  obtain ⟨lv, wv, nw, hblk, hL, _, _⟩ := h1.blk
  obtain ⟨la, ln, lc, rfl, hln0⟩ := hL.shape
  have hln : Hid (ln = u.recs.length) := hln0
  have hl1 : ln ≤ 1000 := by have := hfew.out; omega
  clear hln0 h1
  obtain ⟨x0, x1, x2, x3, x4⟩ := rt_cells hblk
  refine (asked_any hblk hf).mono ?_
  rintro e w2 ⟨rfl, rfl⟩
  clear hblk
  go_wp2_with fail
  go_loopw [8] (fun iv wr => ∃ q : Nat, q ≤ ln ∧ iv = .int .i64 ((q : Int) - 1) ∧ wr = w1 ∧ Hid (rAt u.recs k = rAt (u.recs.take q) k)) (fun iv _ => (intOf iv + 1).toNat)
  case atStart => exact ⟨ln, Nat.le_refl _, by go_num, rfl, by show _ = _; rw [List.take_of_length_le (by have := hln.out; omega)]⟩
  case round =>
    obtain ⟨q, hq, rfl, rfl, hra⟩ := hrel
    obtain ⟨z0, z1, z2, zf⟩ := obj_cells E6
    cases q with
    | zero =>
      have hr0 : Hid (rAt u.recs k = none) := hra.out
      have e0 : ((0 : Nat) : Int) - 1 = -1 := rfl
      rw [e0]
      have H6 := stO_blk E6 0 (.slice none 0 0) (.slice none 0 0)
      have BD := stO_below B6 l6 0 (.slice none 0 0) (.slice none 0 0)
      have f0 : findI [] k = -1 := rfl
      clear hra
      go_wp2_with fail
      refine (find_any (isC_nil wr) k).mono ?_
      rintro e w3 ⟨rfl, rfl⟩
      rw [f0]
      go_wp2
      clear z0 z1 z2 zf
      obtain ⟨z0, z1, z2, zf⟩ := obj_cells H6
      exact bodyPost_ret (v := .tuple #[.agg #[.int .i64 0, .slice none 0 0, .slice none 0 0], .int .i64 25]) (results_twoP Tryz.results43 rfl (load49 z0 z1 z2) rfl) rfl (by rw [hr0.out]; exact ⟨_, _, _, _, _, _, rfl, ownV_nil _ _, ownB_nil' _ _, BD⟩)
    | succ p =>
      have e0 : ((p + 1 : Nat) : Int) - 1 = (p : Int) := by omega
      rw [e0]
      obtain ⟨rb, com, ra, rn, rc, xs, rfl, hrb, c0, c1, hC, hlp⟩ := hL.at_ p (by have := hln.out; omega)
      have hcom : com ≤ u.end_ := hle _ (List.mem_of_getElem? hlp.out)
      have hokr : Hid (okR com xs = true) := hok _ (List.mem_of_getElem? hlp.out)
      have hpi : (p : Int) < (ln : Int) := by omega
      have hp0 : (0 : Int) ≤ (p : Int) := by omega
      have hsn := rAt_snoc k hlp.out
      rw [← hra.out] at hsn
      replace hsn : Hid _ := hsn
      obtain ⟨z, hz⟩ : ∃ z, Hid (findI xs k = z) := ⟨_, rfl⟩
      go_wp2_with fail
      refine (find_any hC k).mono ?_
      rintro e w3 ⟨rfl, rfl⟩
      rw [hz.out]
      by_cases hneg : z < 0
      · have hfn := findI_neg (xs := xs) (k := k) (by rw [hz.out]; exact hneg)
        have hz0 : ¬ (0 : Int) ≤ z := by omega
        have hnx : Hid (rAt u.recs k = rAt (u.recs.take p) k) := by
          show _ = _
          rw [hsn.out]
          unfold stepR
          simp only [hfn]
        clear hfn hsn
        go_wp2
        go_roundw
        case rel => exact ⟨p, by omega, by go_num, by trivial, hnx⟩
        case measure => simp [intOf] <;> omega
      · obtain ⟨i, x, ei, hi, hxi, hfx⟩ := findI_pos (xs := xs) (k := k) (by rw [hz.out]; exact hneg)
        obtain rfl : z = (i : Int) := hz.out.symm.trans ei
        have hin : i < rn := by have := hC.size; omega
        have hz0 : (0 : Int) ≤ (i : Int) := by omega
        have hii : (i : Int) < (rn : Int) := by omega
        obtain ⟨cb, off, x', rfl, hcb, hx', ⟨sa, sn, sc, ba, bn, bc, d0, d1, d2, d3, d4, io⟩, hw⟩ := hC.at_ i hin
        obtain rfl : x = x' := Option.some.inj (hxi.symm.trans hx'.out)
        have hst : Hid (rAt u.recs k = if x.gone = true then none else some ⟨x.cls, x.vs, x.bs⟩) := by
          show _ = _
          rw [hsn.out]
          unfold stepR
          simp only [hfx]
        have hxm := List.mem_of_getElem? hxi
        replace hxm : Hid _ := hxm
        clear hsn hfx hxi ei hi hz hx' hneg
        by_cases hg : x.gone = true
        · have hr0 : Hid (rAt u.recs k = none) := by show _ = _; rw [hst.out, if_pos hg]
          rw [hg] at d1
          have H6 := stO_blk E6 0 (.slice none 0 0) (.slice none 0 0)
          have BD := stO_below B6 l6 0 (.slice none 0 0) (.slice none 0 0)
          clear hst
          go_wp2
          clear z0 z1 z2 zf
          obtain ⟨z0, z1, z2, zf⟩ := obj_cells H6
          exact bodyPost_ret (v := .tuple #[.agg #[.int .i64 0, .slice none 0 0, .slice none 0 0], .int .i64 25]) (results_twoP Tryz.results43 rfl (load49 z0 z1 z2) rfl) rfl (by rw [hr0.out]; exact ⟨_, _, _, _, _, _, rfl, ownV_nil _ _, ownB_nil' _ _, BD⟩)
        · have hg' : x.gone = false := by simpa using hg
          have hr0 : Hid (rAt u.recs k = some ⟨x.cls, x.vs, x.bs⟩) := by show _ = _; rw [hst.out, if_neg hg]
          rw [hg'] at d1
          obtain ⟨hs1, hs2⟩ := okR_len hokr.out hxm.out hg'
          have hs : sn ≤ 8796093022208 := by have := io.v.size; omega
          have hb : bn ≤ 140737488355328 := by have := io.b.size; omega
          have d3' : wr.cell? ⟨cb, off + i * 5 + 2 + 1, none⟩ = some (.slice sa sn sc) := d3
          have d4' : wr.cell? ⟨cb, off + i * 5 + 2 + 2, none⟩ = some (.slice ba bn bc) := d4
          clear hst hg hs1 hs2
          go_wp2_with fail
          refine (rcopy_shape io hs hb).mono ?_
          rintro e w4 ⟨ga, gn, gc, qa, qn, qc, rfl, oV, oB, B4⟩
          have G6 := (B4.block b6 (lt_of_block E6)).trans E6
          clear z0 z1 z2 zf
          obtain ⟨z0, z1, z2, zf⟩ := obj_cells G6
          have H6 := stO_blk G6 x.cls (.slice ga gn gc) (.slice qa qn qc)
          have BB := below_size B6 B6.size B4
          have BD := stO_below BB l6 x.cls (.slice ga gn gc) (.slice qa qn qc)
          have oV3 := ownV_of (stO_own (oV.mono B6.size).1 G6 (by decide) x.cls (.slice ga gn gc) (.slice qa qn qc)) oV.wf
          have oB3 := ownB_of (stO_own (oB.mono B6.size).1 G6 (by decide) x.cls (.slice ga gn gc) (.slice qa qn qc)) oB.byte
          clear oV oB d0 d1 d2 d3 d4 d3' d4'
          go_wp2
          clear z0 z1 z2 zf
          obtain ⟨z0, z1, z2, zf⟩ := obj_cells H6
          exact bodyPost_ret (v := .tuple #[.agg #[.int .i64 x.cls, .slice ga gn gc, .slice qa qn qc], .int .i64 0]) (results_twoP Tryz.results43 rfl (load49 z0 z1 z2) rfl) rfl (by rw [hr0.out]; exact ⟨_, _, _, _, _, _, rfl, oV3, oB3, BD⟩)
end Go.Proofs.YteomolihandfnaaGreat
