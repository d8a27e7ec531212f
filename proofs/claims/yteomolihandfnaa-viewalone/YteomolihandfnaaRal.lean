/- The document's At. -/
import Derived.Test.YteomolihandfnaaBt2
import Derived.Test.YteomolihandfnaaVpk
namespace Go.Proofs.Yteomolihandfnaa
open Go.RowKit
set_option maxRecDepth 100000
def findI (xs : List Ch) (k : Int) : Int := match xs.findIdx? (fun x => decide (x.oop = k)) with
  | none => -1
  | some i => (i : Int)
theorem findI_none {xs : List Ch} {k : Int} (h : ∀ x ∈ xs, x.oop ≠ k) : findI xs k = -1 := by
  unfold findI
  rw [List.findIdx?_eq_none_iff.2 (fun x hx => by simpa using h x hx)]
theorem findI_some {xs : List Ch} {k : Int} {i : Nat} {x : Ch} (h : xs[i]? = some x) (hx : x.oop = k) (hn : ∀ j y, j < i → xs[j]? = some y → y.oop ≠ k) : findI xs k = (i : Int) := by
  unfold findI
  have : xs.findIdx? (fun x => decide (x.oop = k)) = some i := by
    rw [List.findIdx?_eq_some_iff_getElem]
    obtain ⟨hl, e⟩ := List.getElem?_eq_some_iff.1 h
    refine ⟨hl, by rw [e]; simpa using hx, fun j hj => ?_⟩
    have := hn j _ hj (List.getElem?_eq_getElem (by omega))
    simpa using this
  rw [this]
set_option maxHeartbeats 2000000 in
theorem find_any {w : World} {a : Option Addr} {n c : Nat} {xs : List Ch} (h : IsC w a n c xs) (k : Int) :
    Calls Try.prog 50 #[.slice a n c, .int .i64 k] w fun e w' => e = .returned (.int .i64 (findI xs k)) ∧ w = w' := by
  have hnn : n ≤ 9223372036854775807 := by have h1 := h.room; have h2 := h.most; unfold maxLen at h2; omega
  have hsz : Hid (xs.length = n) := h.size
  go_enter Try.func50, Try.ntmps50
  go_wp2
  go_loopw [5] (fun iv wr => ∃ j : Nat, j ≤ n ∧ iv = .int .i64 (j : Int) ∧ wr = w ∧ Hid (∀ i y, i < j → xs[i]? = some y → y.oop ≠ k)) (fun iv _ => n - (intOf iv).toNat)
  case atStart => exact ⟨0, by omega, rfl, rfl, fun i y hi => by omega⟩
  case round =>
    obtain ⟨j, hj, rfl, rfl, hno⟩ := hrel
    by_cases hlt : j < n
    · obtain ⟨b, off, x, rfl, hb, hx, ⟨sa, sn, sc, ba, bn, bc, c0, _⟩, hw⟩ := h.at_ j hlt
      have hji : (j : Int) < (n : Int) := by omega
      by_cases he : x.oop = k
      · have hf : Hid (findI xs k = (j : Int)) := findI_some hx.out he hno.out
        go_wp2
        go_ret
        exact ⟨by rw [hf.out]; rfl, rfl⟩
      · go_wp2
        go_roundw
        case rel =>
          refine ⟨j + 1, by omega, by go_num, by trivial, fun i y hi hy => ?_⟩
          rcases Nat.lt_or_ge i j with q | q
          · exact hno.out i y q hy
          · obtain rfl : i = j := by omega
            rw [hx.out] at hy
            cases hy
            exact he
        case measure => simp [intOf]; omega
    · have hji : ¬ (j : Int) < (n : Int) := by omega
      have hf : Hid (findI xs k = -1) := findI_none (fun x hx => by
        obtain ⟨i, hi⟩ := List.mem_iff_getElem?.1 hx
        exact hno.out i x (by have := (List.getElem?_eq_some_iff.1 hi).1; have := hsz.out; omega) hi)
      go_wp2
      go_ret
      exact ⟨by rw [hf.out]; rfl, rfl⟩
theorem asked_any {w : World} {b : Nat} {f e : Int} {l m : Value} (h : w.heap[b]? = some (rtB f e l m)) (hf : f ≤ e) : Calls Try.prog 49 #[.pointer (some ⟨b, 0, none⟩), .int .i64 e] w fun r w' => r = .returned (.bool true) ∧ w = w' := by
  obtain ⟨x0, x1, _⟩ := rt_cells h
  go_enter Try.func49, Try.ntmps49
  go_wp2
  go_ret
  exact ⟨rfl, rfl⟩
theorem flatR_len (rs : List Rr) : (flatR rs).length = rs.length * 2 := by
  induction rs with
  | nil => rfl
  | cons r rs ih =>
    have : flatR (r :: rs) = r.cells ++ flatR rs := rfl
    rw [this, List.length_append, ih]
    simp [Rr.cells]
    omega
theorem flatR_at : ∀ {rs : List Rr} {i : Nat} {r : Rr}, rs[i]? = some r → (flatR rs)[i * 2]? = some (.int .i64 r.com) ∧ (flatR rs)[i * 2 + 1]? = some (.slice r.a r.n r.c)
  | [], i, r, h => by simp at h
  | x :: rs, 0, r, h => by
    simp at h
    subst h
    exact ⟨rfl, rfl⟩
  | x :: rs, i + 1, r, h => by
    have e : flatR (x :: rs) = x.cells ++ flatR rs := rfl
    have hl : x.cells.length = 2 := rfl
    obtain ⟨h1, h2⟩ := flatR_at (rs := rs) (i := i) (r := r) (by simpa using h)
    rw [e]
    refine ⟨?_, ?_⟩
    · rw [List.getElem?_append_right (by rw [hl]; omega), hl, show (i + 1) * 2 - 2 = i * 2 by omega]; exact h1
    · rw [List.getElem?_append_right (by rw [hl]; omega), hl, show (i + 1) * 2 + 1 - 2 = i * 2 + 1 by omega]; exact h2
theorem LrT.at_ {w : World} {U : Nat → Prop} {a : Option Addr} {n c : Nat} {l : List (Int × List Ch)} (h : LrT w U (.slice a n c) l) (j : Nat) (hj : j < l.length) : ∃ rb com ra rn rc xs, a = some ⟨rb, 0, none⟩ ∧ rb < w.heap.size ∧ w.cell? ⟨rb, j * 2, none⟩ = some (.int .i64 com) ∧ w.cell? ⟨rb, j * 2 + 1, none⟩ = some (.slice ra rn rc) ∧ IsC w ra rn rc xs ∧ Hid (l[j]? = some (com, xs)) := by
  obtain ⟨rs, rfl, h1, _, h3⟩ := h
  rw [List.length_map] at hj
  obtain ⟨r, hr⟩ : ∃ r, rs[j]? = some r := ⟨_, List.getElem?_eq_getElem hj⟩
  obtain ⟨f0, f1⟩ := flatR_at hr
  rcases h1.2 with ⟨_, h0⟩ | ⟨g, cap, cur, e, _⟩
  · omega
  · cases e
    have c0 := World.ownsRow.cells h1 (g := g) rfl _ _ f0
    have c1 := World.ownsRow.cells h1 (g := g) rfl _ _ f1
    rw [Addr.add_lit, Nat.zero_add] at c0 c1
    exact ⟨g, r.com, r.a, r.n, r.c, r.xs, rfl, lt_of_cell c0, c0, c1, (h3 r (List.mem_of_getElem? hr)).ownC.isC, by show _ = _; rw [List.getElem?_map, hr]; rfl⟩
def stepR (k : Int) (acc : Option Ob) (r : Int × List Ch) : Option Ob := match r.2.find? (fun x => decide (x.oop = k)) with
  | none => acc
  | some x => if x.gone = true then none else some ⟨x.cls, x.vs, x.bs⟩
/-- What an object is by the records. -/
def rAt (l : List (Int × List Ch)) (k : Int) : Option Ob := l.foldl (stepR k) none
def liveOb (vs : List Ch) : Option Ob := match vs.getLast? with
  | none => none
  | some x => if x.gone = true then none else some ⟨x.cls, x.vs, x.bs⟩
theorem live_with (c : Int) (x : Ch) (vs : List Ch) : liveOb (withL c x vs) = if x.gone = true then none else some ⟨x.cls, x.vs, x.bs⟩ := by
  unfold withL
  by_cases h : (!x.gone || thereC vs) = true
  · rw [if_pos h]
    unfold liveOb
    rw [List.getLast?_append]
    rfl
  · rw [if_neg h]
    simp only [Bool.or_eq_true, Bool.not_eq_true', not_or, Bool.not_eq_false, Bool.not_eq_true] at h
    obtain ⟨h1, h2⟩ := h
    rw [if_pos h1]
    unfold thereC at h2
    unfold liveOb
    cases hv : vs.getLast? with
    | none => rfl
    | some y => rw [hv] at h2; simp at h2; simp [h2]
theorem okL_gt : ∀ {l : Int} {xs : List Ch}, okL l xs = true → ∀ x ∈ xs, l < x.oop
  | _, [], _, x, hx => by simp at hx
  | l, y :: t, h, x, hx => by
    simp only [okL, Bool.and_eq_true, decide_eq_true_eq] at h
    rcases List.mem_cons.1 hx with rfl | hx
    · exact h.1.1.1
    · have := okL_gt h.2 x hx
      omega
theorem live_appl (c k : Int) : ∀ {l : Int} (xs : List Ch) (m : Int → Past), okL l xs = true → liveOb ((applM c xs m) k).vs = stepR k (liveOb (m k).vs) (c, xs)
  | _, [], m, _ => rfl
  | l, x :: r, m, h => by
    simp only [okL, Bool.and_eq_true, decide_eq_true_eq] at h
    show liveOb ((applM c r (putM c x m)) k).vs = _
    rw [live_appl c k r (putM c x m) h.2]
    by_cases hk : x.oop = k
    · have hn : r.find? (fun x => decide (x.oop = k)) = none := List.find?_eq_none.2 (fun y hy => by have := okL_gt h.2 y hy; simp; omega)
      unfold stepR
      simp only [hn]
      rw [List.find?_cons_of_pos (by simpa using hk)]
      show liveOb (putM c x m k).vs = _
      unfold putM
      rw [if_pos hk.symm]
      exact live_with c x _
    · unfold stepR
      simp only
      rw [List.find?_cons_of_neg (by simpa using hk)]
      unfold putM
      rw [if_neg (fun e => hk e.symm)]
theorem live_fold (k : Int) : ∀ (l : List (Int × List Ch)) (m : Int → Past), (∀ r ∈ l, okR r.1 r.2 = true) → liveOb ((l.foldl (fun m r => applM r.1 r.2 m) m) k).vs = l.foldl (stepR k) (liveOb (m k).vs)
  | [], _, _ => rfl
  | r :: l, m, h => by
    have h1 := h r (by simp)
    simp only [okR, Bool.and_eq_true] at h1
    simp only [List.foldl_cons]
    rw [live_fold k l _ (fun q hq => h q (by simp [hq])), live_appl r.1 k r.2 m h1.2]
theorem Rel2.at_ {t : Tab} {u : RTab} (h : Rel2 t u) {w : World} {S R : Nat → Prop} {b : Nat} (hT : Tb w S R b t) (k : Int) : toOb (atO t t.last k) = rAt u.recs k := by
  have e1 : rAt u.recs k = liveOb (t.m k).vs := by
    rw [h.rel.m, live_fold k u.recs _ h.rel.ok]
    rfl
  rw [e1]
  unfold atO
  rw [if_pos ⟨hT.first0.2.1, Int.le_refl _⟩]
  unfold atC liveOb
  rw [List.filter_eq_self.2 (fun x hx => by
    have q1 := hT.good.ver k x hx
    have q2 := hT.good.chg k
    simp
    omega)]
  cases hv : (t.m k).vs.getLast? with
  | none => rfl
  | some x =>
    simp only
    split <;> rfl
theorem rAt_snoc {l : List (Int × List Ch)} {p : Nat} {r : Int × List Ch} (k : Int) (h : l[p]? = some r) : rAt (l.take (p + 1)) k = stepR k (rAt (l.take p) k) r := by
  unfold rAt
  rw [take_at h, List.foldl_append]
  rfl
theorem findI_neg {xs : List Ch} {k : Int} (h : findI xs k < 0) : xs.find? (fun x => decide (x.oop = k)) = none := by
  unfold findI at h
  cases hf : xs.findIdx? (fun x => decide (x.oop = k)) with
  | none =>
    rw [List.findIdx?_eq_none_iff] at hf
    exact List.find?_eq_none.2 (fun x hx => by have := hf x hx; simpa using this)
  | some i => rw [hf] at h; simp at h; omega
theorem findI_pos {xs : List Ch} {k : Int} (h : ¬ findI xs k < 0) : ∃ (i : Nat) (x : Ch), findI xs k = (i : Int) ∧ i < xs.length ∧ xs[i]? = some x ∧ xs.find? (fun x => decide (x.oop = k)) = some x := by
  unfold findI at h ⊢
  cases hf : xs.findIdx? (fun x => decide (x.oop = k)) with
  | none => rw [hf] at h; simp at h
  | some i =>
    rw [List.findIdx?_eq_some_iff_getElem] at hf
    obtain ⟨hl, e1, e2⟩ := hf
    refine ⟨i, xs[i], rfl, hl, List.getElem?_eq_getElem hl, ?_⟩
    rw [List.find?_eq_some_iff_getElem]
    exact ⟨e1, i, hl, rfl, fun j hj => by have := e2 j hj; simpa using this⟩
end Go.Proofs.Yteomolihandfnaa
