/- The document's small calls: find, asked, Changed, Oops. -/
import Derived.Test.YtajdelinfkodbaaLiv
namespace Go.Proofs.Ytajdelinfkodbaa
open Go.RowKit
set_option maxRecDepth 100000
set_option maxRecDepth 100000
def findI (xs : List Ch) (k : Int) : Int := match xs.findIdx? (fun x => decide (x.oop = k)) with
  | none => -1
  | some i => (i : Int)
theorem findI_none {xs : List Ch} {k : Int} (h : ∀ x ∈ xs, x.oop ≠ k) : findI xs k = -1 := by
  unfold findI
  rw [List.findIdx?_eq_none_iff.2 (fun x hx => by simpa using h x hx)]
theorem findI_some {xs : List Ch} {k : Int} {i : Nat} {x : Ch} (h : xs[i]? = some x) (hx : x.oop = k) (hn : ∀ j y, j < i → xs[j]? = some y → y.oop ≠ k) : findI xs k = (i : Int) := by
  unfold findI
  have : xs.findIdx? (fun x => decide (x.oop = k)) = some i := by
    rw [List.findIdx?_eq_some_iff_getElem]
    obtain ⟨hl, e⟩ := List.getElem?_eq_some_iff.1 h
    refine ⟨hl, by rw [e]; simpa using hx, fun j hj => ?_⟩
    have := hn j _ hj (List.getElem?_eq_getElem (by omega))
    simpa using this
  rw [this]
set_option maxHeartbeats 2000000 in
theorem find_any {w : World} {a : Option Addr} {n c : Nat} {xs : List Ch} (h : IsC w a n c xs) (k : Int) :
    Calls Try.prog 48 #[.slice a n c, .int .i64 k] w fun e w' => e = .returned (.int .i64 (findI xs k)) ∧ w = w' := by
  have hnn : n ≤ 9223372036854775807 := by have h1 := h.room; have h2 := h.most; unfold maxLen at h2; omega
  have hsz : Hid (xs.length = n) := h.size
  go_enter Try.func48, Try.ntmps48
  go_wp2
  go_loopw [5] (fun iv wr => ∃ j : Nat, j ≤ n ∧ iv = .int .i64 (j : Int) ∧ wr = w ∧ Hid (∀ i y, i < j → xs[i]? = some y → y.oop ≠ k)) (fun iv _ => n - (intOf iv).toNat)
  case atStart => exact ⟨0, by omega, rfl, rfl, fun i y hi => by omega⟩
  case round =>
    obtain ⟨j, hj, rfl, rfl, hno⟩ := hrel
    by_cases hlt : j < n
    · obtain ⟨b, off, x, rfl, hb, hx, ⟨sa, sn, sc, ba, bn, bc, c0, _⟩, hw⟩ := h.at_ j hlt
      have hji : (j : Int) < (n : Int) := by omega
      by_cases he : x.oop = k
      · have hf : Hid (findI xs k = (j : Int)) := findI_some hx.out he hno.out
        go_wp2
        go_ret
        exact ⟨by rw [hf.out]; rfl, rfl⟩
      · go_wp2
        go_roundw
        case rel =>
          refine ⟨j + 1, by omega, by go_num, by trivial, fun i y hi hy => ?_⟩
          rcases Nat.lt_or_ge i j with q | q
          · exact hno.out i y q hy
          · obtain rfl : i = j := by omega
            rw [hx.out] at hy
            cases hy
            exact he
        case measure => simp [intOf]; omega
    · have hji : ¬ (j : Int) < (n : Int) := by omega
      have hf : Hid (findI xs k = -1) := findI_none (fun x hx => by
        obtain ⟨i, hi⟩ := List.mem_iff_getElem?.1 hx
        exact hno.out i x (by have := (List.getElem?_eq_some_iff.1 hi).1; have := hsz.out; omega) hi)
      go_wp2
      go_ret
      exact ⟨by rw [hf.out]; rfl, rfl⟩
theorem findI_neg {xs : List Ch} {k : Int} (h : findI xs k < 0) : xs.find? (fun x => decide (x.oop = k)) = none := by
  unfold findI at h
  cases hf : xs.findIdx? (fun x => decide (x.oop = k)) with
  | none =>
    rw [List.findIdx?_eq_none_iff] at hf
    exact List.find?_eq_none.2 (fun x hx => by have := hf x hx; simpa using this)
  | some i => rw [hf] at h; simp at h; omega
theorem findI_pos {xs : List Ch} {k : Int} (h : ¬ findI xs k < 0) : ∃ (i : Nat) (x : Ch), findI xs k = (i : Int) ∧ i < xs.length ∧ xs[i]? = some x ∧ xs.find? (fun x => decide (x.oop = k)) = some x := by
  unfold findI at h ⊢
  cases hf : xs.findIdx? (fun x => decide (x.oop = k)) with
  | none => rw [hf] at h; simp at h
  | some i =>
    rw [List.findIdx?_eq_some_iff_getElem] at hf
    obtain ⟨hl, e1, e2⟩ := hf
    refine ⟨i, xs[i], rfl, hl, List.getElem?_eq_getElem hl, ?_⟩
    rw [List.find?_eq_some_iff_getElem]
    exact ⟨e1, i, hl, rfl, fun j hj => by have := e2 j hj; simpa using this⟩
theorem asked_any {w : World} {b : Nat} {f e : Int} {B l m : Value} (h : w.heap[b]? = some (rtB f e B l m)) (c : Int) : Calls Try.prog 42 #[.pointer (some ⟨b, 0, none⟩), .int .i64 c] w fun r w' => r = .returned (.bool (decide (f ≤ c) && decide (c ≤ e))) ∧ w = w' := by
  obtain ⟨x0, x1, _⟩ := rt_cells h
  obtain ⟨r, hr⟩ : ∃ r, Hid ((decide (f ≤ c) && decide (c ≤ e)) = r) := ⟨_, rfl⟩
  rw [hr.out]
  by_cases h1 : f ≤ c
  · by_cases h2 : c ≤ e
    · obtain rfl : r = true := by rw [← hr.out, decide_eq_true h1, decide_eq_true h2]; rfl
      go_enter Try.func42, Try.ntmps42
      go_wp2
      go_ret
      exact ⟨rfl, rfl⟩
    · obtain rfl : r = false := by rw [← hr.out, decide_eq_true h1, decide_eq_false h2]; rfl
      go_enter Try.func42, Try.ntmps42
      go_wp2
      go_ret
      exact ⟨rfl, rfl⟩
  · obtain rfl : r = false := by rw [← hr.out, decide_eq_false h1]; rfl
    go_enter Try.func42, Try.ntmps42
    go_wp2
    go_ret
    exact ⟨rfl, rfl⟩
def whenW (ws : List (Int × Int)) (k : Int) : Int := match ws.reverse.find? (fun q => decide (q.1 = k)) with
  | none => 0
  | some q => q.2
theorem whenW_drop {ws : List (Int × Int)} {j : Nat} {q : Int × Int} {k : Int} (h : ws[j]? = some q) (hn : ∀ i p, j < i → ws[i]? = some p → p.1 ≠ k) (hq : q.1 = k) : whenW ws k = q.2 := by
  unfold whenW
  have e : ws = ws.take j ++ q :: ws.drop (j + 1) := by
    obtain ⟨hj, e⟩ := List.getElem?_eq_some_iff.1 h
    rw [← e, ← List.drop_eq_getElem_cons hj, List.take_append_drop]
  have hd : (ws.drop (j + 1)).reverse.find? (fun q => decide (q.1 = k)) = none := by
    rw [List.find?_eq_none]
    intro p hp
    rw [List.mem_reverse] at hp
    obtain ⟨i, hi⟩ := List.mem_iff_getElem?.1 hp
    rw [List.getElem?_drop] at hi
    have := hn (j + 1 + i) p (by omega) hi
    simpa using this
  rw [e, List.reverse_append, List.reverse_cons, List.find?_append, List.find?_append, hd]
  simp [hq]
theorem whenW_none {ws : List (Int × Int)} {k : Int} (hn : ∀ (i : Nat) (p : Int × Int), ws[i]? = some p → p.1 ≠ k) : whenW ws k = 0 := by
  unfold whenW
  have : ws.reverse.find? (fun q => decide (q.1 = k)) = none := by
    rw [List.find?_eq_none]
    intro p hp
    rw [List.mem_reverse] at hp
    obtain ⟨i, hi⟩ := List.mem_iff_getElem?.1 hp
    have := hn i p hi
    simpa using this
  rw [this]
set_option maxHeartbeats 4000000 in
theorem rchanged_any {w : World} {U : Nat → Prop} {b k : Nat} {u : RTf} (h : RTb w U b u k) (hk : k ≤ 1000) (q : Int) : Calls Try.prog 25 #[.pointer (some ⟨b, 0, none⟩), .int .i64 q] w fun e w' => e = .returned (.int .i64 (whenU u q)) ∧ w = w' := by
  obtain ⟨bv, lv, wv, hblk, _, _, hW⟩ := h.blk
  obtain ⟨wa, wc, rfl⟩ := hW.shape
  obtain ⟨n, hn⟩ : ∃ n, n = u.ws.length := ⟨_, rfl⟩
  have hfew : n ≤ 4096000 := by have := h.few.2; omega
  rw [← hn] at hblk hW
  replace hn : Hid _ := hn
  clear h
  have e0 : whenU u q = whenW u.ws q := rfl
  rw [e0]
  clear e0
  obtain ⟨y0, y1, y2, y3, y4⟩ := rt_cells hblk
  go_enter Try.func25, Try.ntmps25
  go_wp2
  go_loopw [5] (fun iv wr => ∃ j : Nat, j ≤ n ∧ iv = .int .i64 ((j : Int) - 1) ∧ wr = w ∧ Hid (∀ i p, j ≤ i → u.ws[i]? = some p → p.1 ≠ q)) (fun iv _ => (intOf iv + 1).toNat)
  case atStart => exact ⟨n, by omega, by go_num, rfl, fun i p hi hp => by have := (List.getElem?_eq_some_iff.1 hp).1; have := hn.out; omega⟩
  case round =>
    obtain ⟨j, hj, rfl, rfl, hno⟩ := hrel
    rcases Nat.eq_zero_or_pos j with rfl | hp
    · have hf : Hid (whenW u.ws q = 0) := whenW_none (fun i p hi => hno.out i p (Nat.zero_le _) hi)
      go_wp2
      go_ret
      exact ⟨by rw [hf.out]; rfl, rfl⟩
    · obtain ⟨m, rfl⟩ : ∃ m, j = m + 1 := ⟨j - 1, by omega⟩
      have e1 : ((m + 1 : Nat) : Int) - 1 = (m : Int) := by omega
      rw [e1]
      obtain ⟨rb, kk, d, rfl, hrb, c0, c1, hx⟩ := hW.at_ m (by have := hn.out; omega)
      have hmi : (m : Int) < (n : Int) := by omega
      by_cases hq : kk = q
      · have hf : Hid (whenW u.ws q = d) := whenW_drop (q := (kk, d)) hx.out (fun i p hi hp => hno.out i p (by omega) hp) hq
        go_wp2
        go_ret
        exact ⟨by rw [hf.out]; rfl, rfl⟩
      · go_wp2
        go_roundw
        case rel =>
          refine ⟨m, by omega, by go_num, by trivial, fun i p hi hpp => ?_⟩
          rcases Nat.lt_or_ge m i with z | z
          · exact hno.out i p (by omega) hpp
          · obtain rfl : m = i := by omega
            rw [hx.out] at hpp
            cases hpp
            exact hq
        case measure => simp [intOf]
end Go.Proofs.Ytajdelinfkodbaa
namespace Go.Proofs.Ytajdelinfkodbaa
open Go.RowKit
set_option maxRecDepth 100000
/-- What is well in all of it, the objects too. -/
structure OkW (u : RTf) : Prop where
  v : OkV u
  gb : ∀ x ∈ u.base, okCh x.gone x.cls x.vs x.bs = true
  gr : ∀ r ∈ u.recs, ∀ x ∈ r.2, okCh x.gone x.cls x.vs x.bs = true
theorem putL_mem {l : List Ch} {c x : Ch} (h : x ∈ putL l c) : x = c ∨ x ∈ l := by
  rcases (setF_mem (k := c.oop) (n := c) (l := l) x).1 h with q | q
  · exact .inl q
  · exact .inr q.1
theorem foldl_mem : ∀ (xs : List Ch) {l : List Ch} {x : Ch}, x ∈ xs.foldl putL l → x ∈ l ∨ x ∈ xs
  | [], _, _, h => .inl h
  | y :: r, l, x, h => by
    rcases foldl_mem r h with q | q
    · rcases putL_mem q with z | z
      · exact .inr (by rw [z]; simp)
      · exact .inl z
    · exact .inr (by simp [q])
theorem stateU_mem {u : RTf} {c : Int} {x : Ch} (h : x ∈ stateU u c) : x ∈ u.base ∨ ∃ r ∈ u.recs, x ∈ r.2 := by
  unfold stateU stL at h
  rcases foldl_mem _ h with q | q
  · exact .inl q
  · unfold flatR2 at q
    obtain ⟨r, hr, hx⟩ := List.mem_flatMap.1 q
    exact .inr ⟨r, (List.mem_filter.1 hr).1, hx⟩
theorem OkW.st {u : RTf} (h : OkW u) (c : Int) : ∀ x ∈ stateU u c, okCh x.gone x.cls x.vs x.bs = true := fun x hx => by
  rcases stateU_mem hx with q | ⟨r, hr, q⟩
  · exact h.gb x q
  · exact h.gr r hr x q
theorem OkW.stIn {u : RTf} (h : OkW u) (c : Int) : InK (stateU u c) := fun x hx => by
  rcases stateU_mem hx with q | ⟨r, hr, q⟩
  · exact h.v.b x q
  · exact h.v.r r hr x q
theorem OkW.few {u : RTf} (h : OkW u) (c : Int) : (stateU u c).length ≤ 4096 := rise_few (h.stIn c) (stateU_rise h.v.ok c)
theorem OkW.forg {u : RTf} (h : OkW u) {c : Int} (hc : u.from_ ≤ c ∧ c ≤ u.end_) : OkW (forgU u c) :=
  ⟨⟨forgU_ok h.v.ok hc, h.stIn c, fun r hr => h.v.r r (List.mem_filter.1 hr).1⟩, h.st c, fun r hr => h.gr r (List.mem_filter.1 hr).1⟩
theorem OkW.app {u : RTf} (h : OkW u) {c : Int} {xs : List Ch} (hc : u.end_ < c) (hx : okL 0 xs = true) : OkW (appU u c xs) := by
  have hin : ∀ x ∈ xs, (1 ≤ x.oop ∧ x.oop ≤ 4096) ∧ okCh x.gone x.cls x.vs x.bs = true := fun x hm => by
    obtain ⟨i, hi⟩ := List.mem_iff_getElem?.1 hm
    have := okL_at xs 0 i x hx hi
    exact ⟨⟨by omega, this.2.1⟩, this.2.2⟩
  refine ⟨⟨appU_ok h.v.ok hc xs, h.v.b, fun r hr => ?_⟩, h.gb, fun r hr => ?_⟩
  · rcases List.mem_append.1 hr with q | q
    · exact h.v.r r q
    · rw [List.mem_singleton] at q; rw [q]; exact fun x hm => (hin x hm).1
  · rcases List.mem_append.1 hr with q | q
    · exact h.gr r q
    · rw [List.mem_singleton] at q; rw [q]; exact fun x hm => (hin x hm).2
theorem OkW.new : OkW rtab0 := ⟨⟨⟨List.Pairwise.nil, List.Pairwise.nil, by simp [rtab0], by simp [rtab0], by simp [rtab0]⟩, by simp [rtab0, InK], by simp [rtab0]⟩, by simp [rtab0], by simp [rtab0]⟩
/-- The document's Oops. -/
def roopsL (u : RTf) (c : Int) : List Int := if u.from_ ≤ c ∧ c ≤ u.end_ then (liveU u c).map Ch.oop else []
theorem OwnD.at_ {w : World} {base : Nat} {a : Option Addr} {n c : Nat} {xs : List Ch} (h : OwnD w base (.slice a n c) xs) (j : Nat) (hj : j < xs.length) : ∃ (cb : Nat) (s : Cs), a = some ⟨cb, 0, none⟩ ∧ base ≤ cb ∧ cb < w.heap.size ∧ (∀ i v, s.cells[i]? = some v → w.cell? ⟨cb, j * 5 + i, none⟩ = some v) ∧ Hid (xs[j]? = some s.x) ∧ (-9223372036854775808 ≤ s.x.oop ∧ s.x.oop ≤ 9223372036854775807) := by
  obtain ⟨ss, h3, rfl, h1, h2⟩ := h
  rw [List.length_map] at hj
  obtain ⟨s, hs⟩ : ∃ s, ss[j]? = some s := ⟨_, List.getElem?_eq_getElem hj⟩
  have hm := List.mem_of_getElem? hs
  rcases h3.2 with ⟨_, h0⟩ | ⟨g, cap, cur, e, hb, _⟩
  · omega
  · cases e
    have hc : ∀ i v, s.cells[i]? = some v → w.cell? ⟨g, j * 5 + i, none⟩ = some v := fun i v hv => by
      have hi : i < 5 := by have := (List.getElem?_eq_some_iff.1 hv).1; simpa [Cs.cells] using this
      have f0 := flatC_at ss j s hs i hi
      rw [hv] at f0
      have c0 := World.ownsRow.cells h3 (g := g) rfl _ _ f0
      rw [Addr.add_lit, Nat.zero_add] at c0
      exact c0
    exact ⟨g, s, rfl, hb, lt_of_cell (hc 0 _ rfl), hc, by show _ = _; rw [List.getElem?_map, hs]; rfl, h2 s.x (List.mem_map.2 ⟨s, hm, rfl⟩)⟩
theorem app_ints {ops : Array Oper} {rest : List Oper} {o : Oper} {a : Act} {Q : Exit → Act → World → Prop} (w : World) (hgd : o.guard = none) (s x : Operand)
    (ho : o.op = .call { callee := .builtin .append, args := #[s, x], argTypes := #[60, 60] })
    (base : Nat) (v : Value) (xs : List Int) (hs : a.eval s = v) (hown : w.ownsRow base 2 1 v xs.length (xs.map (Value.int .i64))) (nb : Nat) (y : Int) (hx : a.eval x = .slice (some ⟨nb, 0, none⟩) 1 1) (hc : w.cell? ⟨nb, 0, none⟩ = some (.int .i64 y)) (hl : xs.length ≤ 1000000) (hbase : base ≤ w.heap.size)
    (h : ∀ av n c w', n = xs.length + 1 → w'.ownsRow base 2 1 (.slice av n c) (xs.length + 1) ((xs ++ [y]).map (Value.int .i64)) → Below base w w' → wpList Try.prog ops Q rest (a.put o.dst (.slice av n c)) w') : wpList Try.prog ops Q (o :: rest) a w := by
  obtain ⟨i0, hi, hz0, hz1, hz2⟩ := info_parts Try.info2
  refine wpList_append_own w hgd s x 60 ho base 2 i0 (.int .i64 0) 1 8 Try.underlying60 hi hz0 hz1 hz2 rfl (by decide) _ xs.length _ hs hown ⟨nb, 0, none⟩ 1 1 [.int .i64 y] hx rfl (fun j u hj => by
    cases j with
    | zero => cases hj; rw [addr_add]; exact hc
    | succ j => simp at hj) (fun u hu => by rw [List.mem_singleton] at hu; rw [hu]; rfl) (by unfold maxLen; omega) (by omega) hbase ?_
  intro v' w' hown' hgrow _
  have e2 : (xs ++ [y]).map (Value.int .i64) = xs.map (Value.int .i64) ++ [.int .i64 y] := by simp
  rw [← e2] at hown'
  obtain ⟨av, n, c, rfl, hn⟩ : ∃ a n c, v' = .slice a n c ∧ n = xs.length + 1 := by
    rcases hown'.2 with ⟨rfl, h0⟩ | ⟨g, cap, cur, rfl, _⟩
    · omega
    · exact ⟨_, _, _, rfl, rfl⟩
  exact h av n c w' hn hown' ((Below.refl _ _).grown hgrow hbase (fun j hj => (hown.lt j hj).1))
set_option maxHeartbeats 8000000 in
theorem roops_any {w : World} {U : Nat → Prop} {b k : Nat} {u : RTf} (h : RTb w U b u k) (ho : OkW u) (hk : k ≤ 1000) (c : Int) :
    Calls Try.prog 29 #[.pointer (some ⟨b, 0, none⟩), .int .i64 c] w (OopP w (roopsL u c)) := by
  obtain ⟨bv, lv, wv, hblk, _⟩ := h.blk
  obtain ⟨r, hr⟩ : ∃ r, Hid (roopsL u c = r) := ⟨_, rfl⟩
  rw [hr.out]
  by_cases hc : u.from_ ≤ c ∧ c ≤ u.end_
  · have ea : (decide (u.from_ ≤ c) && decide (c ≤ u.end_)) = true := by simp [hc]
    have he : r = (liveU u c).map Ch.oop := by rw [← hr.out]; unfold roopsL; rw [if_pos hc]
    replace he : Hid _ := he
    have aa := asked_any hblk c
    rw [ea] at aa
    have hfewL := ho.few c
    have hfl : (liveU u c).length ≤ 4096 := Nat.le_trans (List.length_filter_le _ _) hfewL
    go_enter Try.func29, Try.ntmps29
    go_wp2_with fail
    refine aa.mono ?_
    rintro e w' ⟨rfl, rfl⟩
    go_wp2_with fail
    refine (state_any h ho.v hk c).mono ?_
    rintro e w1 ⟨oa, on, oc, T, rfl, p1, p2, p3⟩
    go_wp2_with fail
    refine (live_any p1 (ho.st c) (by omega)).mono ?_
    rintro e w2 ⟨la, ln, lc, rfl, hln, q1, q2⟩
    have B2 := below_size p3 p3.size q2
    have hs1 : w.heap.size ≤ w1.heap.size := p3.size
    replace q1 : OwnD w2 w1.heap.size (.slice la ln lc) (liveU u c) := q1
    replace hln : Hid (ln = (liveU u c).length) := hln
    have hnn : ln ≤ 4096 := by have := hln.out; omega
    clear p1 p2 p3 q2 aa ea
    go_wp2
    go_loopw [6, 7] (fun ov iv wr => ∃ (j : Nat) (oa : Option Addr) (on oc : Nat), j ≤ ln ∧ iv = .int .i64 (j : Int) ∧ ov = .slice oa on oc ∧ Hid (on = j) ∧ wr.ownsRow w2.heap.size 2 1 ov j (((liveU u c).take j).map (fun x => Value.int .i64 x.oop)) ∧ Below w2.heap.size w2 wr) (fun _ iv _ => ln - (intOf iv).toNat)
    case atStart => exact ⟨0, none, 0, 0, by omega, rfl, rfl, rfl, World.ownsRow_nil _ _ _ _, Below.refl _ _⟩
    case round =>
      obtain ⟨j, oa, on, oc, hj, rfl, rfl, hon, own, B3⟩ := hrel
      by_cases hlt : j < ln
      · have hji : (j : Int) < (ln : Int) := by omega
        obtain ⟨cb, s, rfl, hcb0, hcb, hcl, hxj, hxb⟩ := q1.at_ j (by have := hln.out; omega)
        have d0 : wr.cell? ⟨cb, j * 5, none⟩ = some (.int .i64 s.x.oop) := (B3.cell hcb).trans (hcl 0 _ rfl)
        have hl2 : Hid (((liveU u c).take j).length = j) := by show _ = _; rw [List.length_take]; have := hln.out; omega
        have E8 := new1 wr (.cells #[.int .i64 s.x.oop] 2)
        have B8 : Below wr.heap.size wr (wr.alloc (.cells #[.int .i64 s.x.oop] 2)) := box_below
        have own8 := own_below own B8
        have c8 : (wr.alloc (.cells #[.int .i64 s.x.oop] 2)).cell? ⟨wr.heap.size, 0, none⟩ = some (.int .i64 s.x.oop) := by rw [cell_of_row _ _ _ _ _ _ E8]; rfl
        have BB := below_size B3 B3.size B8
        have hown8 : (wr.alloc (.cells #[.int .i64 s.x.oop] 2)).ownsRow w2.heap.size 2 1 (.slice oa on oc) ((((liveU u c).take j).map Ch.oop)).length ((((liveU u c).take j).map Ch.oop).map (Value.int .i64)) := by
          rw [List.length_map, hl2.out, List.map_map]
          exact own8
        have hll : ((((liveU u c).take j).map Ch.oop)).length ≤ 1000000 := by rw [List.length_map, hl2.out]; omega
        replace BB : Hid _ := BB
        have hsz8 : w2.heap.size ≤ (wr.alloc (.cells #[.int .i64 s.x.oop] 2)).heap.size := BB.out.size
        clear E8 B8 own8 own
        go_wp2_with (at_builtin; refine app_ints _ (by rfl) _ _ (by rfl) w2.heap.size _ (((liveU u c).take j).map Ch.oop) (by rfl) hown8 wr.heap.size s.x.oop (by rfl) c8 hll hsz8 ?_)
        intro o8a o8n o8c w8 hn8 r8 B9
        have hmin : Hid (min j (liveU u c).length = j) := by show _ = _; have := hln.out; omega
        have r9 : w8.ownsRow w2.heap.size 2 1 (.slice o8a o8n o8c) (j + 1) (((liveU u c).take (j + 1)).map (fun x => Value.int .i64 x.oop)) := by
          rw [hmin.out] at r8
          rw [take_at hxj.out, List.map_append, List.map_take]
          exact r8
        have hn9 : Hid (o8n = j + 1) := by show _ = _; rw [hn8, hmin.out]
        have B10 := BB.out.trans B9
        clear r8 B9 hown8 c8 hll hsz8 BB hn8
        go_wp2
        go_roundw
        case rel => exact ⟨j + 1, o8a, o8n, o8c, by omega, by go_num, rfl, hn9, r9, B10⟩
        case measure => simp [intOf]; omega
      · have hji : ¬ (j : Int) < (ln : Int) := by omega
        have fin : OopP w r (.returned (.slice oa on oc)) wr := by
          have hall : (liveU u c).take j = liveU u c := List.take_of_length_le (by have := hln.out; omega)
          have ejn : j = ln := by omega
          refine ⟨oa, on, oc, rfl, ?_, ?_, below_size B2 B2.size B3⟩
          · rw [he.out, List.length_map, hon.out, ejn, hln.out]
          · rw [hall] at own
            have e9 := hon.out
            subst e9
            rw [he.out, List.map_map]
            exact own_mono (b := w.heap.size) own B2.size
        go_wp2
        go_ret
        exact fin
  · have ea : (decide (u.from_ ≤ c) && decide (c ≤ u.end_)) = false := by
      cases h1 : decide (u.from_ ≤ c) && decide (c ≤ u.end_) with
      | false => rfl
      | true => simp at h1; exact absurd h1 hc
    have he : r = [] := by rw [← hr.out]; unfold roopsL; rw [if_neg hc]
    subst he
    have aa := asked_any hblk c
    rw [ea] at aa
    have fin : OopP w [] (.returned (.slice none 0 0)) w := ⟨none, 0, 0, rfl, rfl, World.ownsRow_nil _ _ _ _, Below.refl _ _⟩
    go_enter Try.func29, Try.ntmps29
    go_wp2_with fail
    refine aa.mono ?_
    rintro e w' ⟨rfl, rfl⟩
    go_wp2
    go_ret
    exact fin
end Go.Proofs.Ytajdelinfkodbaa
