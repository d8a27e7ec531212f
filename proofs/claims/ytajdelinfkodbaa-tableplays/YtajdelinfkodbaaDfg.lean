/- The document's Forget. -/
import Derived.Test.YtajdelinfkodbaaDoo
namespace Go.Proofs.Ytajdelinfkodbaa
open Go.RowKit
set_option maxRecDepth 100000
def rforgetE (u : RTf) (c : Int) : Int := if u.from_ ≤ c ∧ c ≤ u.end_ then 0 else 13
def rforgetT (u : RTf) (c : Int) : RTf := if u.from_ ≤ c ∧ c ≤ u.end_ then forgU u c else u
theorem app_recs {ops : Array Oper} {rest : List Oper} {o : Oper} {a : Act} {Q : Exit → Act → World → Prop} (w : World) (hgd : o.guard = none) (s x : Operand)
    (ho : o.op = .call { callee := .builtin .append, args := #[s, x], argTypes := #[32, 32] })
    (base : Nat) (v : Value) (ss : List Rr) (hs : a.eval s = v) (hown : w.ownsRow base 29 2 v ss.length (flatR ss)) (nb : Nat) (y : Rr) (hx : a.eval x = .slice (some ⟨nb, 0, none⟩) 1 1) (hc : ∀ j u, y.cells[j]? = some u → w.cell? ⟨nb, j, none⟩ = some u) (hl : ss.length ≤ 1000000) (hbase : base ≤ w.heap.size)
    (h : ∀ av n c w', w'.ownsRow base 29 2 (.slice av n c) (ss.length + 1) (flatR (ss ++ [y])) → Below base w w' → wpList Try.prog ops Q rest (a.put o.dst (.slice av n c)) w') : wpList Try.prog ops Q (o :: rest) a w := by
  obtain ⟨i0, hi, hz0, hz1, hz2⟩ := info_parts Try.info29
  refine wpList_append_own w hgd s x 32 ho base 29 i0 (.agg #[.int .i64 0, .slice none 0 0]) 2 32 Try.underlying32 hi hz0 hz1 hz2 rfl (by decide) _ ss.length _ hs hown ⟨nb, 0, none⟩ 1 1 y.cells hx rfl (fun j u hj => by rw [addr_add, Nat.zero_add]; exact hc j u hj) (fun u hu => by simp [Rr.cells] at hu; rcases hu with rfl | rfl <;> rfl) (by unfold maxLen; omega) (by omega) hbase ?_
  intro v' w' hown' hgrow _
  have e2 : flatR (ss ++ [y]) = flatR ss ++ y.cells := by rw [flatR_app]; simp [flatR]
  rw [← e2] at hown'
  obtain ⟨av, n, c, rfl⟩ : ∃ a n c, v' = .slice a n c := by
    rcases hown'.2 with ⟨rfl, _⟩ | ⟨g, cap, cur, rfl, _⟩
    · exact ⟨_, _, _, rfl⟩
    · exact ⟨_, _, _, rfl⟩
  exact h av n c w' hown' ((Below.refl _ _).grown hgrow hbase (fun j hj => (hown.lt j hj).1))
/-- All that a table of the document needs is kept. -/
theorem rforg_done {w w1 w8 w9 : World} {U T : Nat → Prop} {b k : Nat} {u : RTf} {c : Int} {bv lv wv nv ov : Value} (h : RTb w U b u k) (hblk : w.heap[b]? = some (rtB u.from_ u.end_ bv lv wv)) (hW : WrT w U wv u.ws) (hc : u.from_ ≤ c ∧ c ≤ u.end_)
    (p1 : ChT w1 T nv (stateU u c)) (p2 : Grow U T w w1) (p3 : Below w.heap.size w w1) {rs : List Rr} (hrs : rs.map (fun r => (r.com, r.xs)) = u.recs) (hch : ∀ r ∈ rs, ChT w U (.slice r.a r.n r.c) r.xs)
    (own : w8.ownsRow w1.heap.size 29 2 ov (rs.filter (fun r => decide (c < r.com))).length (flatR (rs.filter (fun r => decide (c < r.com))))) (B8 : Below w1.heap.size (w1.setCell ⟨b, 2, none⟩ nv) w8)
    (e9 : w9 = (w8.setCell ⟨b, 3, none⟩ ov).setCell ⟨b, 0, none⟩ (.int .i64 c)) :
    ∃ U', RTb w9 U' b (forgU u c) k ∧ Grow U U' w w9 ∧ Fr U w w9 := by
  have hbl := h.lt b h.own
  have s1 := p3.size
  have X1 : w1.heap[b]? = some (rtB u.from_ u.end_ bv lv wv) := (p3.block b hbl).trans hblk
  have s2 : (w1.setCell ⟨b, 2, none⟩ nv).heap.size = w1.heap.size := by simp
  have s8 : w1.heap.size ≤ w8.heap.size := by have := B8.size; omega
  have X8 : w8.heap[b]? = some (rtB u.from_ u.end_ nv lv wv) := (B8.block b (by omega)).trans (rt_set2 X1 nv)
  have X9 : w9.heap[b]? = some (rtB c u.end_ nv ov wv) := by rw [e9]; exact rt_set0 (rt_set3 X8 ov) c
  have s9 : w9.heap.size = w8.heap.size := by rw [e9]; simp
  have oth8 : ∀ q, q ≠ b → w9.heap[q]? = w8.heap[q]? := fun q hq => by rw [e9]; exact (heap_setCell_other _ ⟨b, 0, none⟩ q _ hq).trans (heap_setCell_other w8 ⟨b, 3, none⟩ q _ hq)
  have oth1 : ∀ q, q < w1.heap.size → q ≠ b → w9.heap[q]? = w1.heap[q]? := fun q hq hn => (oth8 q hn).trans ((B8.block q hq).trans (heap_setCell_other w1 ⟨b, 2, none⟩ q _ hn))
  have oth : ∀ q, q < w.heap.size → q ≠ b → w9.heap[q]? = w.heap[q]? := fun q hq hn => (oth1 q (by omega) hn).trans (p3.block q hq)
  have nb1 : ∀ (g : Nat) (cur : Array Value) (t : Nat), w1.heap[g]? = some (Obj.cells cur t (0, 0)) → t ≠ 35 → g ≠ b := fun g cur t hh ht e => by
    rw [e, X1] at hh
    unfold rtB at hh
    cases hh
    exact ht rfl
  have nb0 : ∀ (g : Nat) (cur : Array Value) (t : Nat), w.heap[g]? = some (Obj.cells cur t (0, 0)) → t ≠ 35 → g ≠ b := fun g cur t hh ht e => by
    rw [e, hblk] at hh
    unfold rtB at hh
    cases hh
    exact ht rfl
  have os9 : w9.os = w.os ∧ w9.tape = w.tape ∧ w9.output = w.output := by
    have C1 : Below 0 w1 (w1.setCell ⟨b, 2, none⟩ nv) := (Below.refl 0 w1).setCell (p := ⟨b, 2, none⟩) (Nat.zero_le _) _
    have C2 : Below 0 w8 w9 := by rw [e9]; exact ((Below.refl 0 w8).setCell (p := ⟨b, 3, none⟩) (Nat.zero_le _) _).setCell (p := ⟨b, 0, none⟩) (Nat.zero_le _) _
    exact ⟨C2.os.trans (B8.os.trans (C1.os.trans p3.os)), C2.tape.trans (B8.tape.trans (C1.tape.trans p3.tape)), C2.output.trans (B8.output.trans (C1.output.trans p3.output))⟩
  have hT : ∀ g, g < w1.heap.size → T g → U g ∨ (w.heap.size ≤ g ∧ g < w9.heap.size) := fun g hg ht => (p2.new g ht).imp_right (fun q => ⟨q.1, by omega⟩)
  refine ⟨fun g => U g ∨ (w.heap.size ≤ g ∧ g < w9.heap.size), ⟨⟨nv, ov, wv, X9, ?_, ?_, ?_⟩, .inl h.own, fun g hg => hg.elim (fun q => by have := h.lt g q; omega) (fun q => q.2), ?_, ⟨by have := h.ge0; show 0 ≤ c; omega, h.ge0.2⟩⟩, ⟨fun _ h => .inl h, fun _ h => h⟩, ⟨os9.1, os9.2.1, os9.2.2, by omega, fun q hq hn => oth q hq (fun e => hn (by rw [e]; exact h.own))⟩⟩
  · obtain ⟨ss, q0, q1, q2, q3, q4⟩ := p1
    refine ⟨ss, q0, fun s hs => ⟨(q1 s hs).el.same' (fun g hg => ?_) (fun g hg => ?_), fun g hg => hT g ((q1 s hs).el.lt.1 g hg).1 ((q1 s hs).v g hg), fun g hg => hT g ((q1 s hs).el.lt.2 g hg).1 ((q1 s hs).b g hg)⟩, q2, own_same q3 (fun g hg => ?_), fun g hg => ?_⟩
    · obtain ⟨hlt, cur, hh⟩ := (q1 s hs).el.lt.1 g hg
      exact oth1 g hlt (nb1 g cur _ hh (by decide))
    · obtain ⟨hlt, cur, hh⟩ := (q1 s hs).el.lt.2 g hg
      exact oth1 g hlt (nb1 g cur _ hh (by decide))
    · obtain ⟨_, cur, hh⟩ := own_block q3 hg
      exact oth1 g (lt_of_block hh) (nb1 g cur _ hh (by decide))
    · obtain ⟨_, cur, hh⟩ := own_block q3 hg
      exact hT g (lt_of_block hh) (q4 g hg)
  · refine ⟨rs.filter (fun r => decide (c < r.com)), ?_, own_mono (own_same own (fun g hg => oth8 g ?_)) (Nat.zero_le _), fun g hg => ?_, fun r hr => ?_⟩
    · show _ = u.recs.filter (fun r => decide (c < r.1))
      rw [← hrs, List.filter_map]
      rfl
    · have := (own_block own hg).1
      omega
    · obtain ⟨q, cur, hh⟩ := own_block own hg
      have := lt_of_block hh
      exact .inr ⟨by omega, by omega⟩
    · exact (hch r (List.mem_filter.1 hr).1).same' (fun _ h => .inl h) (fun g cur t hg hh ht => oth g (lt_of_block hh) (nb0 g cur t hh (by rcases ht with rfl | rfl | rfl <;> decide)))
  · refine ⟨own_same hW.1 (fun g hg => ?_), fun g hg => .inl (hW.2 g hg)⟩
    obtain ⟨_, cur, hh⟩ := own_block hW.1 hg
    exact oth g (lt_of_block hh) (nb0 g cur _ hh (by decide))
  · have := h.few
    refine ⟨Nat.le_trans (List.length_filter_le _ _) this.1, this.2⟩
set_option maxHeartbeats 8000000 in
theorem rforget_any {w : World} {U : Nat → Prop} {b k : Nat} {u : RTf} (h : RTb w U b u k) (ho : OkW u) (hk : k ≤ 1000) (c : Int) :
    Calls Try.prog 17 #[.pointer (some ⟨b, 0, none⟩), .int .i64 c] w fun e w' => e = .returned (.int .i64 (rforgetE u c)) ∧ ∃ U', RTb w' U' b (rforgetT u c) k ∧ Grow U U' w w' ∧ Fr U w w' := by
  obtain ⟨bv, lv, wv, hblk, _, hL, hW⟩ := h.blk
  by_cases hc : u.from_ ≤ c ∧ c ≤ u.end_
  · have ea : (decide (u.from_ ≤ c) && decide (c ≤ u.end_)) = true := by simp [hc]
    have e1 : rforgetE u c = 0 := if_pos hc
    have e2 : rforgetT u c = forgU u c := if_pos hc
    rw [e1, e2]
    obtain ⟨la, ln, lc, rfl, hln⟩ := hL.shape
    have hL0 := hL
    obtain ⟨rs, hrs, own, inT, hch⟩ := hL0
    have hlr : Hid (rs.length = ln) := by show _ = _; rw [hln, ← hrs, List.length_map]
    have hfl : ln ≤ 1000 := by have := h.few.1; omega
    have hbl := h.lt b h.own
    have aa := asked_any hblk c
    rw [ea] at aa
    clear e1 e2 ea hln
    go_enter Try.func17, Try.ntmps17
    go_wp2_with fail
    refine aa.mono ?_
    rintro e w' ⟨rfl, rfl⟩
    clear aa
    go_wp2_with fail
    refine (state_any h ho.v hk c).mono ?_
    rintro e w1 ⟨oa, on, oc, T, rfl, p1, p2, p3⟩
    have X1 : w1.heap[b]? = some (rtB u.from_ u.end_ bv (.slice la ln lc) wv) := (p3.block b hbl).trans hblk
    obtain ⟨y0, y1, y2, y3, y4⟩ := rt_cells X1
    have yf := rt_frozen X1 2
    have own1 : Hid (w1.ownsRow 0 29 2 (.slice la ln lc) rs.length (flatR rs)) := own_below own p3
    have fin : Hid (∀ (ov : Value) (w8 : World), w8.ownsRow w1.heap.size 29 2 ov (rs.filter (fun r => decide (c < r.com))).length (flatR (rs.filter (fun r => decide (c < r.com)))) → Below w1.heap.size (w1.setCell ⟨b, 2, none⟩ (.slice oa on oc)) w8 → ∃ U', RTb ((w8.setCell ⟨b, 3, none⟩ ov).setCell ⟨b, 0, none⟩ (.int .i64 c)) U' b (forgU u c) k ∧ Grow U U' w ((w8.setCell ⟨b, 3, none⟩ ov).setCell ⟨b, 0, none⟩ (.int .i64 c)) ∧ Fr U w ((w8.setCell ⟨b, 3, none⟩ ov).setCell ⟨b, 0, none⟩ (.int .i64 c))) := fun ov w8 q1 q2 => rforg_done h hblk hW hc p1 p2 p3 hrs hch q1 q2 rfl
    have hb1 : b < w1.heap.size := by have := p3.size; omega
    clear p1 p2 p3 own inT hch hrs hW hL
    go_wp2
    obtain ⟨w2, hw2⟩ : ∃ q, Hid (q = w1.setCell ⟨b, 2, none⟩ (.slice oa on oc)) := ⟨_, rfl⟩
    have X2 : w2.heap[b]? = some (rtB u.from_ u.end_ (.slice oa on oc) (.slice la ln lc) wv) := by rw [hw2.out]; exact rt_set2 X1 _
    have own2 : w2.ownsRow 0 29 2 (.slice la ln lc) rs.length (flatR rs) := own_same own1.out (fun g hg => by
      rw [hw2.out]
      refine heap_setCell_other w1 ⟨b, 2, none⟩ g _ (fun e => ?_)
      obtain ⟨_, cur, hh⟩ := own_block own1.out hg
      rw [e, X1] at hh
      unfold rtB at hh
      cases hh)
    have s2 : w2.heap.size = w1.heap.size := by rw [hw2.out]; simp
    replace s2 : Hid _ := s2
    rw [← hw2.out] at fin ⊢
    replace own2 : Hid _ := own2
    clear hw2 own1 X1 y0 y1 y2 y3 y4 yf
    go_loopw [5, 6] (fun ov iv wr => ∃ (j : Nat) (oa : Option Addr) (onc : Nat × Nat), j ≤ ln ∧ iv = .int .i64 (j : Int) ∧ ov = .slice oa onc.1 onc.2 ∧ wr.ownsRow w1.heap.size 29 2 ov ((rs.take j).filter (fun r => decide (c < r.com))).length (flatR ((rs.take j).filter (fun r => decide (c < r.com)))) ∧ Below w1.heap.size w2 wr) (fun _ iv _ => ln - (intOf iv).toNat)
    case atStart => exact ⟨0, none, (0, 0), by omega, rfl, rfl, World.ownsRow_nil _ _ _ _, Below.refl _ _⟩
    case round =>
      obtain ⟨j, va, ⟨vn, vc⟩, hj, rfl, rfl, own, B3⟩ := hrel
      have X3 : wr.heap[b]? = some (rtB u.from_ u.end_ (.slice oa on oc) (.slice la ln lc) wv) := (B3.block b hb1).trans X2
      obtain ⟨y0, y1, y2, y3, y4⟩ := rt_cells X3
      by_cases hlt : j < ln
      · have hji : (j : Int) < (ln : Int) := by omega
        obtain ⟨r, hr⟩ : ∃ r, rs[j]? = some r := ⟨_, List.getElem?_eq_getElem (by have := hlr.out; omega)⟩
        obtain ⟨f0, f1⟩ := flatR_at hr
        obtain ⟨g, rfl, c0, c1⟩ : ∃ g, la = some ⟨g, 0, none⟩ ∧ wr.cell? ⟨g, j * 2, none⟩ = some (.int .i64 r.com) ∧ wr.cell? ⟨g, j * 2 + 1, none⟩ = some (.slice r.a r.n r.c) := by
          have o2 := own2.out
          rcases o2.2 with ⟨_, h0⟩ | ⟨g, cap, cur, e, _⟩
          · have := hlr.out; omega
          · cases e
            have c0 := World.ownsRow.cells o2 (g := g) rfl _ _ f0
            have c1 := World.ownsRow.cells o2 (g := g) rfl _ _ f1
            rw [Addr.add_lit, Nat.zero_add] at c0 c1
            have hg : g < w1.heap.size := by have := lt_of_cell c0; have := s2.out; omega
            have hk : wr.heap[g]? = w2.heap[g]? := B3.block g hg
            exact ⟨g, rfl, by rw [cell_eq' hk]; exact c0, by rw [cell_eq' hk]; exact c1⟩
        clear f0 f1
        replace hr : Hid _ := hr
        by_cases hcm : c < r.com
        · have hsn : Hid ((rs.take (j + 1)).filter (fun r => decide (c < r.com)) = (rs.take j).filter (fun r => decide (c < r.com)) ++ [r]) := by
            show _ = _
            rw [take_at hr.out, List.filter_append, List.filter_cons_of_pos (by simpa using hcm)]
            rfl
          have E8 := new1 wr (.cells #[.int .i64 r.com, .slice r.a r.n r.c] 29)
          have B8 : Below wr.heap.size wr (wr.alloc (.cells #[.int .i64 r.com, .slice r.a r.n r.c] 29)) := box_below
          have own8 := own_below own B8
          have hc8 : ∀ j u, r.cells[j]? = some u → (wr.alloc (.cells #[.int .i64 r.com, .slice r.a r.n r.c] 29)).cell? ⟨wr.heap.size, j, none⟩ = some u := fun j u hj => by rw [cell_of_row _ _ _ _ _ _ E8]; simpa [Rr.cells] using hj
          have hsw : w1.heap.size ≤ wr.heap.size := by have := B3.size; have := s2.out; omega
          have BB : Hid (Below w1.heap.size w2 (wr.alloc (.cells #[.int .i64 r.com, .slice r.a r.n r.c] 29))) := below_size B3 hsw B8
          have hsz8 : w1.heap.size ≤ (wr.alloc (.cells #[.int .i64 r.com, .slice r.a r.n r.c] 29)).heap.size := by have := B8.size; omega
          have hll : ((rs.take j).filter (fun r => decide (c < r.com))).length ≤ 1000000 := by
            have h1 := List.length_filter_le (fun r : Rr => decide (c < r.com)) (rs.take j)
            rw [List.length_take] at h1
            omega
          obtain ⟨qs, hqs⟩ : ∃ q, Hid ((rs.take j).filter (fun r => decide (c < r.com)) = q) := ⟨_, rfl⟩
          rw [hqs.out] at own8 hll
          clear E8 B8 own
          go_wp2_with (at_builtin; refine app_recs _ (by rfl) _ _ (by rfl) w1.heap.size _ qs (by rfl) own8 wr.heap.size r (by rfl) hc8 hll hsz8 ?_)
          intro o8a o8n o8c w8 r8 B9
          have r9 : w8.ownsRow w1.heap.size 29 2 (.slice o8a o8n o8c) ((rs.take (j + 1)).filter (fun r => decide (c < r.com))).length (flatR ((rs.take (j + 1)).filter (fun r => decide (c < r.com)))) := by
            rw [hsn.out, hqs.out, List.length_append]
            exact r8
          have B10 := BB.out.trans B9
          clear r8 B9 own8 hc8 hll hsz8 BB hqs
          go_wp2
          go_roundw
          case rel => exact ⟨j + 1, _, (o8n, o8c), by omega, by go_num, rfl, r9, B10⟩
          case measure => simp [intOf]; omega
        · have hsn : (rs.take (j + 1)).filter (fun r => decide (c < r.com)) = (rs.take j).filter (fun r => decide (c < r.com)) := by
            rw [take_at hr.out, List.filter_append, List.filter_cons_of_neg (by simpa using hcm)]
            simp
          rw [← hsn] at own
          clear hsn
          go_wp2
          go_roundw
          case rel => exact ⟨j + 1, _, (vn, vc), by omega, by go_num, rfl, own, B3⟩
          case measure => simp [intOf]; omega
      · have hji : ¬ (j : Int) < (ln : Int) := by omega
        have hall : rs.take j = rs := List.take_of_length_le (by have := hlr.out; omega)
        rw [hall] at own
        have yf := rt_frozen X3 3
        have X4 := rt_set3 X3 (.slice va vn vc)
        obtain ⟨v0, v1, v2, v3, v4⟩ := rt_cells X4
        have vf := rt_frozen X4 0
        have F := fin.out (.slice va vn vc) wr own B3
        replace F : Hid _ := F
        clear own B3 fin X4
        go_wp2
        go_ret
        exact ⟨rfl, F.out⟩
  · have ea : (decide (u.from_ ≤ c) && decide (c ≤ u.end_)) = false := by
      cases h1 : decide (u.from_ ≤ c) && decide (c ≤ u.end_) with
      | false => rfl
      | true => simp at h1; exact absurd h1 hc
    have e1 : rforgetE u c = 13 := if_neg hc
    have e2 : rforgetT u c = u := if_neg hc
    rw [e1, e2]
    have aa := asked_any hblk c
    rw [ea] at aa
    go_enter Try.func17, Try.ntmps17
    go_wp2_with fail
    refine aa.mono ?_
    rintro e w' ⟨rfl, rfl⟩
    go_wp2
    go_ret
    exact ⟨rfl, U, h, Grow.refl _ _, Fr.refl _ _⟩
end Go.Proofs.Ytajdelinfkodbaa
