/- The document's put. -/
import Derived.Test.YtajdelinfkodbaaRtf
import Derived.BigQuiet
namespace Go.Proofs.Ytajdelinfkodbaa
open Go.RowKit
set_option maxRecDepth 100000
set_option maxRecDepth 100000
/-- All but a row is kept. -/
structure KpB (v : Value) (w w' : World) : Prop where
  out : ∀ g, (∀ q, v.ownBlock = some q → g ≠ q) → g < w.heap.size → w'.heap[g]? = w.heap[g]?
theorem app_chs {ops : Array Oper} {rest : List Oper} {o : Oper} {a : Act} {Q : Exit → Act → World → Prop} (w : World) (hgd : o.guard = none) (s x : Operand)
    (ho : o.op = .call { callee := .builtin .append, args := #[s, x], argTypes := #[27, 27] })
    (base : Nat) (v : Value) (ss : List Cs) (hs : a.eval s = v) (hown : w.ownsRow base 73 5 v ss.length (flatC ss)) (nb : Nat) (y : Cs) (hx : a.eval x = .slice (some ⟨nb, 0, none⟩) 1 1) (hc : ∀ j u, y.cells[j]? = some u → w.cell? ⟨nb, j, none⟩ = some u) (hl : ss.length ≤ 1000000) (hbase : base ≤ w.heap.size)
    (h : ∀ av n c w', w'.ownsRow base 73 5 (.slice av n c) (ss.length + 1) (flatC (ss ++ [y])) → Below base w w' → KpB v w w' → wpList Try.prog ops Q rest (a.put o.dst (.slice av n c)) w') : wpList Try.prog ops Q (o :: rest) a w := by
  obtain ⟨i0, hi, hz0, hz1, hz2⟩ := info_parts Try.info73
  refine wpList_append_own w hgd s x 27 ho base 73 i0 (.agg #[.int .i64 0, .bool false, .int .i64 0, .slice none 0 0, .slice none 0 0]) 5 72 Try.underlying27 hi hz0 hz1 hz2 rfl (by decide) _ ss.length _ hs hown ⟨nb, 0, none⟩ 1 1 y.cells hx rfl (fun j u hj => by rw [addr_add, Nat.zero_add]; exact hc j u hj) (fun u hu => flatC_one [y] u (by simpa [flatC] using hu)) (by unfold maxLen; omega) (by omega) hbase ?_
  intro v' w' hown' hgrow _
  have e2 : flatC (ss ++ [y]) = flatC ss ++ y.cells := by rw [flatC_app]; simp [flatC]
  rw [← e2] at hown'
  obtain ⟨av, n, c, rfl⟩ : ∃ a n c, v' = .slice a n c := by
    rcases hown'.2 with ⟨rfl, _⟩ | ⟨g, cap, cur, rfl, _⟩
    · exact ⟨_, _, _, rfl⟩
    · exact ⟨_, _, _, rfl⟩
  exact h av n c w' hown' ((Below.refl _ _).grown hgrow hbase (fun j hj => (hown.lt j hj).1)) ⟨fun g hg hlt => hgrow.block g hlt (fun e => hg g e.symm rfl)⟩
set_option maxRecDepth 100000
theorem ChT.at_ {w : World} {T : Nat → Prop} {a : Option Addr} {n c : Nat} {xs : List Ch} (h : ChT w T (.slice a n c) xs) (j : Nat) (hj : j < xs.length) : ∃ (cb : Nat) (s : Cs), a = some ⟨cb, 0, none⟩ ∧ cb < w.heap.size ∧ (∀ i v, s.cells[i]? = some v → w.cell? ⟨cb, j * 5 + i, none⟩ = some v) ∧ ElT w T s ∧ Hid (xs[j]? = some s.x) ∧ (-9223372036854775808 ≤ s.x.oop ∧ s.x.oop ≤ 9223372036854775807) := by
  obtain ⟨ss, rfl, h1, h2, h3, _⟩ := h
  rw [List.length_map] at hj
  obtain ⟨s, hs⟩ : ∃ s, ss[j]? = some s := ⟨_, List.getElem?_eq_getElem hj⟩
  have hm := List.mem_of_getElem? hs
  rcases h3.2 with ⟨_, h0⟩ | ⟨g, cap, cur, e, _⟩
  · omega
  · cases e
    have hc : ∀ i v, s.cells[i]? = some v → w.cell? ⟨g, j * 5 + i, none⟩ = some v := fun i v hv => by
      have hi : i < 5 := by have := (List.getElem?_eq_some_iff.1 hv).1; simpa [Cs.cells] using this
      have f0 := flatC_at ss j s hs i hi
      rw [hv] at f0
      have c0 := World.ownsRow.cells h3 (g := g) rfl _ _ f0
      rw [Addr.add_lit, Nat.zero_add] at c0
      exact c0
    exact ⟨g, s, rfl, lt_of_cell (hc 0 _ rfl), hc, h1 s hm, by show _ = _; rw [List.getElem?_map, hs]; rfl, h2 s.x (List.mem_map.2 ⟨s, hm, rfl⟩)⟩
/-- What holds while set goes through the list. -/
def SetQ (w1 : World) (T : Nat → Prop) (l0 rest : List Ch) (B : Nat) (ov : Value) (wr : World) : Prop :=
  ∃ ss : List Cs, l0 = ss.map Cs.x ++ rest ∧ (∀ s ∈ ss, ElT wr (fun g => T g ∨ w1.heap.size ≤ g) s) ∧ wr.ownsRow w1.heap.size 73 5 ov ss.length (flatC ss) ∧ (∀ s ∈ ss, -9223372036854775808 ≤ s.x.oop ∧ s.x.oop ≤ 9223372036854775807) ∧ ss.length ≤ B ∧ Below w1.heap.size w1 wr
theorem SetQ.app {w1 wr w' : World} {T : Nat → Prop} {l0 rest : List Ch} {B : Nat} {ss : List Cs} {y : Cs} {ov ov' : Value} (hl : l0 = ss.map Cs.x ++ (y.x :: rest)) (he : ∀ s ∈ ss, ElT wr (fun g => T g ∨ w1.heap.size ≤ g) s) (hb : ∀ s ∈ ss, -9223372036854775808 ≤ s.x.oop ∧ s.x.oop ≤ 9223372036854775807) (hB : ss.length ≤ B) (hw : Below w1.heap.size w1 wr) (hy : ElT wr (fun g => T g ∨ w1.heap.size ≤ g) y) (hyb : -9223372036854775808 ≤ y.x.oop ∧ y.x.oop ≤ 9223372036854775807) (hr : wr.ownsRow w1.heap.size 73 5 ov ss.length (flatC ss)) (hr' : w'.ownsRow w1.heap.size 73 5 ov' (ss.length + 1) (flatC (ss ++ [y]))) (hk : Below w1.heap.size wr w') (hk2 : ∀ g, (∀ q, ov.ownBlock = some q → g ≠ q) → g < wr.heap.size → w'.heap[g]? = wr.heap[g]?) : SetQ w1 T l0 rest (B + 1) ov' w' := by
  have keep : ∀ s, ElT wr (fun g => T g ∨ w1.heap.size ≤ g) s → ElT w' (fun g => T g ∨ w1.heap.size ≤ g) s := fun s hs => by
    refine ⟨hs.el.same' (fun g hg => ?_) (fun g hg => ?_), hs.v, hs.b⟩
    · obtain ⟨hlt, cur, hc⟩ := hs.el.lt.1 g hg
      refine hk2 g (fun q hq e => ?_) hlt
      obtain ⟨_, cur2, hc2⟩ := own_block hr hq
      rw [e, hc2] at hc
      cases hc
    · obtain ⟨hlt, cur, hc⟩ := hs.el.lt.2 g hg
      refine hk2 g (fun q hq e => ?_) hlt
      obtain ⟨_, cur2, hc2⟩ := own_block hr hq
      rw [e, hc2] at hc
      cases hc
  refine ⟨ss ++ [y], by rw [hl]; simp, fun s hs => ?_, by rw [List.length_append]; exact hr', fun s hs => ?_, by simp; omega, hw.trans hk⟩
  · rcases List.mem_append.1 hs with hs | hs
    · exact keep s (he s hs)
    · rw [List.mem_singleton] at hs; rw [hs]; exact keep y hy
  · rcases List.mem_append.1 hs with hs | hs
    · exact hb s hs
    · rw [List.mem_singleton] at hs; rw [hs]; exact hyb
theorem SetQ.world {w1 wr w' : World} {T : Nat → Prop} {l0 rest : List Ch} {B : Nat} {ov : Value} (h : SetQ w1 T l0 rest B ov wr) (hb : Below wr.heap.size wr w') : SetQ w1 T l0 rest B ov w' := by
  obtain ⟨ss, h1, h2, h3, h4, h5, h6⟩ := h
  refine ⟨ss, h1, fun s hs => ⟨(h2 s hs).el.same' (fun g hg => hb.block g ((h2 s hs).el.lt.1 g hg).1) (fun g hg => hb.block g ((h2 s hs).el.lt.2 g hg).1), (h2 s hs).v, (h2 s hs).b⟩, own_same h3 (fun g hg => hb.block g (lt_of_block (own_block h3 hg).2.choose_spec)), h4, h5, below_size h6 h6.size hb⟩
theorem SetQ.up {w1 wr : World} {T : Nat → Prop} {l0 rest : List Ch} {B B' : Nat} {ov : Value} (h : SetQ w1 T l0 rest B ov wr) (hB : B ≤ B') : SetQ w1 T l0 rest B' ov wr := by
  obtain ⟨ss, h1, h2, h3, h4, h5, h6⟩ := h
  exact ⟨ss, h1, h2, h3, h4, Nat.le_trans h5 hB, h6⟩
theorem drop_at {l : List Ch} {j : Nat} {x : Ch} (h : l[j]? = some x) : l.drop j = x :: l.drop (j + 1) := by
  obtain ⟨hj, e⟩ := List.getElem?_eq_some_iff.1 h
  rw [List.drop_eq_getElem_cons hj, e]
theorem SetQ.drew {w1 wr : World} {T : Nat → Prop} {l0 rest : List Ch} {B : Nat} {ov : Value} (h : SetQ w1 T l0 rest B ov wr) (q : Nat) : SetQ w1 T l0 rest B ov (wr.drewN q) := by
  obtain ⟨ss, h1, h2, h3, h4, h5, h6⟩ := h
  exact ⟨ss, h1, fun s hs => (h2 s hs).same (fun _ h => h) (fun _ _ _ => rfl), own_same h3 (fun _ _ => rfl), h4, h5, below_drewN' h6 q⟩
theorem SetQ.bel {w1 wr : World} {T : Nat → Prop} {l0 rest : List Ch} {B : Nat} {ov : Value} (h : SetQ w1 T l0 rest B ov wr) : Below w1.heap.size w1 wr := by
  obtain ⟨_, _, _, _, _, _, q⟩ := h
  exact q
def PutP (w : World) (T : Nat → Prop) (l : List Ch) (e : Ending) (w' : World) : Prop := ∃ oa on oc T', e = .returned (.slice oa on oc) ∧ ChT w' T' (.slice oa on oc) l ∧ Grow T T' w w' ∧ Below w.heap.size w w'
set_option maxHeartbeats 16000000 in
theorem put_any {w : World} {T : Nat → Prop} {la : Option Addr} {ln lc : Nat} {l : List Ch} (h : ChT w T (.slice la ln lc) l) (y : Cs) (hy : ElT w T y) (hyb : -9223372036854775808 ≤ y.x.oop ∧ y.x.oop ≤ 9223372036854775807) (hfew : l.length ≤ 8000) :
    Calls Try.prog 59 #[.slice la ln lc, .agg #[.int .i64 y.x.oop, .bool y.x.gone, .int .i64 y.x.cls, .slice y.sa y.sn y.sc, .slice y.ba y.bn y.bc]] w (PutP w T (putL l y.x)) := by
  have E5 := new1 w (chh y.x.oop y.x.gone y.x.cls (.slice y.sa y.sn y.sc) (.slice y.ba y.bn y.bc))
  have B5 : Below w.heap.size w (w.alloc (chh y.x.oop y.x.gone y.x.cls (.slice y.sa y.sn y.sc) (.slice y.ba y.bn y.bc))) := box_below
  have hn0 : ln = l.length := by obtain ⟨a, n, c, e, q⟩ := h.shape; cases e; exact q
  have hL : ChT (w.alloc (chh y.x.oop y.x.gone y.x.cls (.slice y.sa y.sn y.sc) (.slice y.ba y.bn y.bc))) T (.slice la ln lc) l := h.same (fun _ h => h) (fun g hg _ => B5.block g hg)
  have hY : ElT (w.alloc (chh y.x.oop y.x.gone y.x.cls (.slice y.sa y.sn y.sc) (.slice y.ba y.bn y.bc))) T y := hy.same (fun _ h => h) (fun g hg _ => B5.block g hg)
  clear h hy
  unfold chh at E5 B5 hL hY
  go_enter Try.func59, Try.ntmps59
  go_wp2_with fail
  generalize w.alloc (.cells #[.int .i64 y.x.oop, .bool y.x.gone, .int .i64 y.x.cls, .slice y.sa y.sn y.sc, .slice y.ba y.bn y.bc] 73) = w1 at *
  obtain ⟨b5, hb5⟩ : ∃ q, Hid (q = w.heap.size) := ⟨_, rfl⟩
  rw [← hb5.out] at E5 ⊢
  clear hb5
  replace E5 : w1.heap[b5]? = some (chh y.x.oop y.x.gone y.x.cls (.slice y.sa y.sn y.sc) (.slice y.ba y.bn y.bc)) := E5
  have hsz : Hid (l.length = ln) := hn0.symm
  have hnn : ln ≤ 8000 := by omega
  clear hn0
  obtain ⟨l0, hl0⟩ : ∃ q, Hid (setF y.x.oop y.x false l = q) := ⟨_, rfl⟩
  go_loopw [5, 6, 7] (fun ov inv iv wr => ∃ (j : Nat) (i : Bool) (oa : Option Addr) (onc : Nat × Nat), j ≤ ln ∧ iv = .int .i64 (j : Int) ∧ inv = .bool i ∧ ov = .slice oa onc.1 onc.2 ∧ SetQ w1 T l0 (setF y.x.oop y.x i (l.drop j)) (2 * j) ov wr) (fun _ _ iv _ => ln - (intOf iv).toNat)
  case atStart => exact ⟨0, false, none, (0, 0), by omega, rfl, rfl, rfl, [], by rw [← hl0.out]; rfl, by simp, World.ownsRow_nil _ _ _ _, by simp, by simp, Below.refl _ _⟩
  case round =>
    obtain ⟨j, i, oa, ⟨on, oc⟩, hj, rfl, rfl, rfl, SQ⟩ := hrel
    by_cases hlt : j < ln
    · have hji : (j : Int) < (ln : Int) := by omega
      obtain ⟨cb, s, rfl, hcb, hcl, hel, hxj, hxb⟩ := hL.at_ j (by have := hsz.out; omega)
      rw [drop_at hxj.out] at SQ
      simp only [setF] at SQ
      cases i with
      | true =>
        rw [if_neg (fun q => by cases q.1), Bool.true_or] at SQ
        simp only [List.nil_append] at SQ
        have B6 := SQ.bel
        obtain ⟨z0, z1, z2, z3, z4⟩ := chh_cells ((B6.block b5 (lt_of_block E5)).trans E5)
        have d0 : wr.cell? ⟨cb, j * 5, none⟩ = some (.int .i64 s.x.oop) := (B6.cell hcb).trans (hcl 0 _ rfl)
        have d1 : wr.cell? ⟨cb, j * 5 + 1, none⟩ = some (.bool s.x.gone) := (B6.cell hcb).trans (hcl 1 _ rfl)
        have d2 : wr.cell? ⟨cb, j * 5 + 2, none⟩ = some (.int .i64 s.x.cls) := (B6.cell hcb).trans (hcl 2 _ rfl)
        have d3 : wr.cell? ⟨cb, j * 5 + 3, none⟩ = some (.slice s.sa s.sn s.sc) := (B6.cell hcb).trans (hcl 3 _ rfl)
        have d4 : wr.cell? ⟨cb, j * 5 + 4, none⟩ = some (.slice s.ba s.bn s.bc) := (B6.cell hcb).trans (hcl 4 _ rfl)
        go_wp2_with fail
        go_quiet (fail)
        replace SQ := SQ.drew nq
        clear B6 z0 z1 z2 z3 z4 d0 d1 d2 d3 d4
        generalize wr.drewN nq = wa at *
        have B6 := SQ.bel
        obtain ⟨z0, z1, z2, z3, z4⟩ := chh_cells ((B6.block b5 (lt_of_block E5)).trans E5)
        have d0 : wa.cell? ⟨cb, j * 5, none⟩ = some (.int .i64 s.x.oop) := (B6.cell hcb).trans (hcl 0 _ rfl)
        have d1 : wa.cell? ⟨cb, j * 5 + 1, none⟩ = some (.bool s.x.gone) := (B6.cell hcb).trans (hcl 1 _ rfl)
        have d2 : wa.cell? ⟨cb, j * 5 + 2, none⟩ = some (.int .i64 s.x.cls) := (B6.cell hcb).trans (hcl 2 _ rfl)
        have d3 : wa.cell? ⟨cb, j * 5 + 3, none⟩ = some (.slice s.sa s.sn s.sc) := (B6.cell hcb).trans (hcl 3 _ rfl)
        have d4 : wa.cell? ⟨cb, j * 5 + 4, none⟩ = some (.slice s.ba s.bn s.bc) := (B6.cell hcb).trans (hcl 4 _ rfl)
        by_cases hne : s.x.oop = y.x.oop
        · rw [if_neg (fun q => q hne)] at SQ
          simp only [List.nil_append] at SQ
          go_wp2_with fail
          go_quiet (fail)
          replace SQ := SQ.drew nq
          clear B6 z0 z1 z2 z3 z4 d0 d1 d2 d3 d4
          generalize wa.drewN nq = wb at *
          go_wp2
          go_roundw
          case rel => exact ⟨j + 1, true, _, (on, oc), by omega, by go_num, by go_num, rfl, SQ.up (by omega)⟩
          case measure => simp [intOf]; omega
        · rw [if_pos hne] at SQ
          simp only [List.singleton_append] at SQ
          go_wp2_with fail
          go_quiet (fail)
          replace SQ := SQ.drew nq
          clear B6 z0 z1 z2 z3 z4 d0 d1 d2 d3 d4
          generalize wa.drewN nq = wb at *
          have B6 := SQ.bel
          obtain ⟨z0, z1, z2, z3, z4⟩ := chh_cells ((B6.block b5 (lt_of_block E5)).trans E5)
          have d0 : wb.cell? ⟨cb, j * 5, none⟩ = some (.int .i64 s.x.oop) := (B6.cell hcb).trans (hcl 0 _ rfl)
          have d1 : wb.cell? ⟨cb, j * 5 + 1, none⟩ = some (.bool s.x.gone) := (B6.cell hcb).trans (hcl 1 _ rfl)
          have d2 : wb.cell? ⟨cb, j * 5 + 2, none⟩ = some (.int .i64 s.x.cls) := (B6.cell hcb).trans (hcl 2 _ rfl)
          have d3 : wb.cell? ⟨cb, j * 5 + 3, none⟩ = some (.slice s.sa s.sn s.sc) := (B6.cell hcb).trans (hcl 3 _ rfl)
          have d4 : wb.cell? ⟨cb, j * 5 + 4, none⟩ = some (.slice s.ba s.bn s.bc) := (B6.cell hcb).trans (hcl 4 _ rfl)
          have E8 := new1 wb (chh s.x.oop s.x.gone s.x.cls (.slice s.sa s.sn s.sc) (.slice s.ba s.bn s.bc))
          have B8 : Below wb.heap.size wb (wb.alloc (chh s.x.oop s.x.gone s.x.cls (.slice s.sa s.sn s.sc) (.slice s.ba s.bn s.bc))) := box_below
          have Q8 : Hid (SetQ w1 T l0 (s.x :: setF y.x.oop y.x true (l.drop (j + 1))) (2 * j) (.slice oa on oc) (wb.alloc (chh s.x.oop s.x.gone s.x.cls (.slice s.sa s.sn s.sc) (.slice s.ba s.bn s.bc)))) := SetQ.world SQ B8
          have q7 := below_size B6 B6.size B8
          have y8 : ElT (wb.alloc (chh s.x.oop s.x.gone s.x.cls (.slice s.sa s.sn s.sc) (.slice s.ba s.bn s.bc))) (fun g => T g ∨ w1.heap.size ≤ g) s := hel.same (fun _ h => .inl h) (fun g hg _ => q7.block g hg)
          have hc8 : ∀ j u, s.cells[j]? = some u → (wb.alloc (chh s.x.oop s.x.gone s.x.cls (.slice s.sa s.sn s.sc) (.slice s.ba s.bn s.bc))).cell? ⟨wb.heap.size, j, none⟩ = some u := fun j u hj => by unfold chh at E8 ⊢; rw [cell_of_row _ _ _ _ _ _ E8]; simpa [Cs.cells] using hj
          clear SQ q7 E8 B8
          obtain ⟨ss2, q1, q2, q3, q4, q5, q6⟩ := Q8.out
          clear Q8
          replace q1 : Hid _ := q1
          unfold chh at q2 q3 q6 y8 hc8
          go_wp2_with (at_builtin; refine app_chs _ (by rfl) _ _ (by rfl) w1.heap.size _ ss2 (by rfl) q3 wb.heap.size s (by rfl) hc8 (by omega) q6.size ?_)
          intro o8a o8n o8c w8 r8 B9 K8
          have SQ : SetQ w1 T l0 (setF y.x.oop y.x true (l.drop (j + 1))) (2 * j + 1) (.slice o8a o8n o8c) w8 := SetQ.app q1.out q2 q4 q5 q6 y8 hxb q3 r8 B9 K8.out
          clear q1 q2 q3 q4 q5 q6 y8 hc8 r8 K8 B9 B6 z0 z1 z2 z3 z4 d0 d1 d2 d3 d4
          go_wp2
          go_roundw
          case rel => exact ⟨j + 1, true, _, (o8n, o8c), by omega, by go_num, by go_num, rfl, SQ.up (by omega)⟩
          case measure => simp [intOf]; omega
      | false =>
        rw [Bool.false_or] at SQ
        have B6 := SQ.bel
        obtain ⟨z0, z1, z2, z3, z4⟩ := chh_cells ((B6.block b5 (lt_of_block E5)).trans E5)
        have d0 : wr.cell? ⟨cb, j * 5, none⟩ = some (.int .i64 s.x.oop) := (B6.cell hcb).trans (hcl 0 _ rfl)
        have d1 : wr.cell? ⟨cb, j * 5 + 1, none⟩ = some (.bool s.x.gone) := (B6.cell hcb).trans (hcl 1 _ rfl)
        have d2 : wr.cell? ⟨cb, j * 5 + 2, none⟩ = some (.int .i64 s.x.cls) := (B6.cell hcb).trans (hcl 2 _ rfl)
        have d3 : wr.cell? ⟨cb, j * 5 + 3, none⟩ = some (.slice s.sa s.sn s.sc) := (B6.cell hcb).trans (hcl 3 _ rfl)
        have d4 : wr.cell? ⟨cb, j * 5 + 4, none⟩ = some (.slice s.ba s.bn s.bc) := (B6.cell hcb).trans (hcl 4 _ rfl)
        by_cases hk : y.x.oop ≤ s.x.oop
        · rw [if_pos ⟨rfl, hk⟩, decide_eq_true hk] at SQ
          simp only [List.cons_append] at SQ
          by_cases hne : s.x.oop = y.x.oop
          · rw [if_neg (fun q => q hne)] at SQ
            simp only [List.nil_append] at SQ
            go_wp2_with fail
            go_quiet (fail)
            replace SQ := SQ.drew nq
            clear B6 z0 z1 z2 z3 z4 d0 d1 d2 d3 d4
            generalize wr.drewN nq = wa at *
            have B6 := SQ.bel
            obtain ⟨z0, z1, z2, z3, z4⟩ := chh_cells ((B6.block b5 (lt_of_block E5)).trans E5)
            have d0 : wa.cell? ⟨cb, j * 5, none⟩ = some (.int .i64 s.x.oop) := (B6.cell hcb).trans (hcl 0 _ rfl)
            have d1 : wa.cell? ⟨cb, j * 5 + 1, none⟩ = some (.bool s.x.gone) := (B6.cell hcb).trans (hcl 1 _ rfl)
            have d2 : wa.cell? ⟨cb, j * 5 + 2, none⟩ = some (.int .i64 s.x.cls) := (B6.cell hcb).trans (hcl 2 _ rfl)
            have d3 : wa.cell? ⟨cb, j * 5 + 3, none⟩ = some (.slice s.sa s.sn s.sc) := (B6.cell hcb).trans (hcl 3 _ rfl)
            have d4 : wa.cell? ⟨cb, j * 5 + 4, none⟩ = some (.slice s.ba s.bn s.bc) := (B6.cell hcb).trans (hcl 4 _ rfl)
            have E8 := new1 wa (chh y.x.oop y.x.gone y.x.cls (.slice y.sa y.sn y.sc) (.slice y.ba y.bn y.bc))
            have B8 : Below wa.heap.size wa (wa.alloc (chh y.x.oop y.x.gone y.x.cls (.slice y.sa y.sn y.sc) (.slice y.ba y.bn y.bc))) := box_below
            have Q8 : Hid (SetQ w1 T l0 (y.x :: setF y.x.oop y.x true (l.drop (j + 1))) (2 * j) (.slice oa on oc) (wa.alloc (chh y.x.oop y.x.gone y.x.cls (.slice y.sa y.sn y.sc) (.slice y.ba y.bn y.bc)))) := SetQ.world SQ B8
            have q7 := below_size B6 B6.size B8
            have y8 : ElT (wa.alloc (chh y.x.oop y.x.gone y.x.cls (.slice y.sa y.sn y.sc) (.slice y.ba y.bn y.bc))) (fun g => T g ∨ w1.heap.size ≤ g) y := hY.same (fun _ h => .inl h) (fun g hg _ => q7.block g hg)
            have hc8 : ∀ j u, y.cells[j]? = some u → (wa.alloc (chh y.x.oop y.x.gone y.x.cls (.slice y.sa y.sn y.sc) (.slice y.ba y.bn y.bc))).cell? ⟨wa.heap.size, j, none⟩ = some u := fun j u hj => by unfold chh at E8 ⊢; rw [cell_of_row _ _ _ _ _ _ E8]; simpa [Cs.cells] using hj
            clear SQ q7 E8 B8
            obtain ⟨ss2, q1, q2, q3, q4, q5, q6⟩ := Q8.out
            clear Q8
            replace q1 : Hid _ := q1
            unfold chh at q2 q3 q6 y8 hc8
            go_wp2_with (at_builtin; refine app_chs _ (by rfl) _ _ (by rfl) w1.heap.size _ ss2 (by rfl) q3 wa.heap.size y (by rfl) hc8 (by omega) q6.size ?_)
            intro o2a o2n o2c w6 r8 B9 K8
            have SQ : SetQ w1 T l0 (setF y.x.oop y.x true (l.drop (j + 1))) (2 * j + 1) (.slice o2a o2n o2c) w6 := SetQ.app q1.out q2 q4 q5 q6 y8 hyb q3 r8 B9 K8.out
            clear q1 q2 q3 q4 q5 q6 y8 hc8 r8 K8 B9 B6 z0 z1 z2 z3 z4 d0 d1 d2 d3 d4
            have B6 := SQ.bel
            obtain ⟨z0, z1, z2, z3, z4⟩ := chh_cells ((B6.block b5 (lt_of_block E5)).trans E5)
            have d0 : w6.cell? ⟨cb, j * 5, none⟩ = some (.int .i64 s.x.oop) := (B6.cell hcb).trans (hcl 0 _ rfl)
            have d1 : w6.cell? ⟨cb, j * 5 + 1, none⟩ = some (.bool s.x.gone) := (B6.cell hcb).trans (hcl 1 _ rfl)
            have d2 : w6.cell? ⟨cb, j * 5 + 2, none⟩ = some (.int .i64 s.x.cls) := (B6.cell hcb).trans (hcl 2 _ rfl)
            have d3 : w6.cell? ⟨cb, j * 5 + 3, none⟩ = some (.slice s.sa s.sn s.sc) := (B6.cell hcb).trans (hcl 3 _ rfl)
            have d4 : w6.cell? ⟨cb, j * 5 + 4, none⟩ = some (.slice s.ba s.bn s.bc) := (B6.cell hcb).trans (hcl 4 _ rfl)
            go_wp2_with fail
            go_quiet (fail)
            replace SQ := SQ.drew nq
            clear B6 z0 z1 z2 z3 z4 d0 d1 d2 d3 d4
            generalize w6.drewN nq = wb at *
            go_wp2
            go_roundw
            case rel => exact ⟨j + 1, true, _, (o2n, o2c), by omega, by go_num, by go_num, rfl, SQ.up (by omega)⟩
            case measure => simp [intOf]; omega
          · rw [if_pos hne] at SQ
            simp only [List.singleton_append, List.nil_append] at SQ
            go_wp2_with fail
            go_quiet (fail)
            replace SQ := SQ.drew nq
            clear B6 z0 z1 z2 z3 z4 d0 d1 d2 d3 d4
            generalize wr.drewN nq = wa at *
            have B6 := SQ.bel
            obtain ⟨z0, z1, z2, z3, z4⟩ := chh_cells ((B6.block b5 (lt_of_block E5)).trans E5)
            have d0 : wa.cell? ⟨cb, j * 5, none⟩ = some (.int .i64 s.x.oop) := (B6.cell hcb).trans (hcl 0 _ rfl)
            have d1 : wa.cell? ⟨cb, j * 5 + 1, none⟩ = some (.bool s.x.gone) := (B6.cell hcb).trans (hcl 1 _ rfl)
            have d2 : wa.cell? ⟨cb, j * 5 + 2, none⟩ = some (.int .i64 s.x.cls) := (B6.cell hcb).trans (hcl 2 _ rfl)
            have d3 : wa.cell? ⟨cb, j * 5 + 3, none⟩ = some (.slice s.sa s.sn s.sc) := (B6.cell hcb).trans (hcl 3 _ rfl)
            have d4 : wa.cell? ⟨cb, j * 5 + 4, none⟩ = some (.slice s.ba s.bn s.bc) := (B6.cell hcb).trans (hcl 4 _ rfl)
            have E8 := new1 wa (chh y.x.oop y.x.gone y.x.cls (.slice y.sa y.sn y.sc) (.slice y.ba y.bn y.bc))
            have B8 : Below wa.heap.size wa (wa.alloc (chh y.x.oop y.x.gone y.x.cls (.slice y.sa y.sn y.sc) (.slice y.ba y.bn y.bc))) := box_below
            have Q8 : Hid (SetQ w1 T l0 (y.x :: s.x :: setF y.x.oop y.x true (l.drop (j + 1))) (2 * j) (.slice oa on oc) (wa.alloc (chh y.x.oop y.x.gone y.x.cls (.slice y.sa y.sn y.sc) (.slice y.ba y.bn y.bc)))) := SetQ.world SQ B8
            have q7 := below_size B6 B6.size B8
            have y8 : ElT (wa.alloc (chh y.x.oop y.x.gone y.x.cls (.slice y.sa y.sn y.sc) (.slice y.ba y.bn y.bc))) (fun g => T g ∨ w1.heap.size ≤ g) y := hY.same (fun _ h => .inl h) (fun g hg _ => q7.block g hg)
            have hc8 : ∀ j u, y.cells[j]? = some u → (wa.alloc (chh y.x.oop y.x.gone y.x.cls (.slice y.sa y.sn y.sc) (.slice y.ba y.bn y.bc))).cell? ⟨wa.heap.size, j, none⟩ = some u := fun j u hj => by unfold chh at E8 ⊢; rw [cell_of_row _ _ _ _ _ _ E8]; simpa [Cs.cells] using hj
            clear SQ q7 E8 B8
            obtain ⟨ss2, q1, q2, q3, q4, q5, q6⟩ := Q8.out
            clear Q8
            replace q1 : Hid _ := q1
            unfold chh at q2 q3 q6 y8 hc8
            go_wp2_with (at_builtin; refine app_chs _ (by rfl) _ _ (by rfl) w1.heap.size _ ss2 (by rfl) q3 wa.heap.size y (by rfl) hc8 (by omega) q6.size ?_)
            intro o2a o2n o2c w6 r8 B9 K8
            have SQ : SetQ w1 T l0 (s.x :: setF y.x.oop y.x true (l.drop (j + 1))) (2 * j + 1) (.slice o2a o2n o2c) w6 := SetQ.app q1.out q2 q4 q5 q6 y8 hyb q3 r8 B9 K8.out
            clear q1 q2 q3 q4 q5 q6 y8 hc8 r8 K8 B9 B6 z0 z1 z2 z3 z4 d0 d1 d2 d3 d4
            have B6 := SQ.bel
            obtain ⟨z0, z1, z2, z3, z4⟩ := chh_cells ((B6.block b5 (lt_of_block E5)).trans E5)
            have d0 : w6.cell? ⟨cb, j * 5, none⟩ = some (.int .i64 s.x.oop) := (B6.cell hcb).trans (hcl 0 _ rfl)
            have d1 : w6.cell? ⟨cb, j * 5 + 1, none⟩ = some (.bool s.x.gone) := (B6.cell hcb).trans (hcl 1 _ rfl)
            have d2 : w6.cell? ⟨cb, j * 5 + 2, none⟩ = some (.int .i64 s.x.cls) := (B6.cell hcb).trans (hcl 2 _ rfl)
            have d3 : w6.cell? ⟨cb, j * 5 + 3, none⟩ = some (.slice s.sa s.sn s.sc) := (B6.cell hcb).trans (hcl 3 _ rfl)
            have d4 : w6.cell? ⟨cb, j * 5 + 4, none⟩ = some (.slice s.ba s.bn s.bc) := (B6.cell hcb).trans (hcl 4 _ rfl)
            go_wp2_with fail
            go_quiet (fail)
            replace SQ := SQ.drew nq
            clear B6 z0 z1 z2 z3 z4 d0 d1 d2 d3 d4
            generalize w6.drewN nq = wb at *
            have B6 := SQ.bel
            obtain ⟨z0, z1, z2, z3, z4⟩ := chh_cells ((B6.block b5 (lt_of_block E5)).trans E5)
            have d0 : wb.cell? ⟨cb, j * 5, none⟩ = some (.int .i64 s.x.oop) := (B6.cell hcb).trans (hcl 0 _ rfl)
            have d1 : wb.cell? ⟨cb, j * 5 + 1, none⟩ = some (.bool s.x.gone) := (B6.cell hcb).trans (hcl 1 _ rfl)
            have d2 : wb.cell? ⟨cb, j * 5 + 2, none⟩ = some (.int .i64 s.x.cls) := (B6.cell hcb).trans (hcl 2 _ rfl)
            have d3 : wb.cell? ⟨cb, j * 5 + 3, none⟩ = some (.slice s.sa s.sn s.sc) := (B6.cell hcb).trans (hcl 3 _ rfl)
            have d4 : wb.cell? ⟨cb, j * 5 + 4, none⟩ = some (.slice s.ba s.bn s.bc) := (B6.cell hcb).trans (hcl 4 _ rfl)
            have E8 := new1 wb (chh s.x.oop s.x.gone s.x.cls (.slice s.sa s.sn s.sc) (.slice s.ba s.bn s.bc))
            have B8 : Below wb.heap.size wb (wb.alloc (chh s.x.oop s.x.gone s.x.cls (.slice s.sa s.sn s.sc) (.slice s.ba s.bn s.bc))) := box_below
            have Q8 : Hid (SetQ w1 T l0 (s.x :: setF y.x.oop y.x true (l.drop (j + 1))) (2 * j + 1) (.slice o2a o2n o2c) (wb.alloc (chh s.x.oop s.x.gone s.x.cls (.slice s.sa s.sn s.sc) (.slice s.ba s.bn s.bc)))) := SetQ.world SQ B8
            have q7 := below_size B6 B6.size B8
            have y8 : ElT (wb.alloc (chh s.x.oop s.x.gone s.x.cls (.slice s.sa s.sn s.sc) (.slice s.ba s.bn s.bc))) (fun g => T g ∨ w1.heap.size ≤ g) s := hel.same (fun _ h => .inl h) (fun g hg _ => q7.block g hg)
            have hc8 : ∀ j u, s.cells[j]? = some u → (wb.alloc (chh s.x.oop s.x.gone s.x.cls (.slice s.sa s.sn s.sc) (.slice s.ba s.bn s.bc))).cell? ⟨wb.heap.size, j, none⟩ = some u := fun j u hj => by unfold chh at E8 ⊢; rw [cell_of_row _ _ _ _ _ _ E8]; simpa [Cs.cells] using hj
            clear SQ q7 E8 B8
            obtain ⟨ss2, q1, q2, q3, q4, q5, q6⟩ := Q8.out
            clear Q8
            replace q1 : Hid _ := q1
            unfold chh at q2 q3 q6 y8 hc8
            go_wp2_with (at_builtin; refine app_chs _ (by rfl) _ _ (by rfl) w1.heap.size _ ss2 (by rfl) q3 wb.heap.size s (by rfl) hc8 (by omega) q6.size ?_)
            intro o8a o8n o8c w8 r8 B9 K8
            have SQ : SetQ w1 T l0 (setF y.x.oop y.x true (l.drop (j + 1))) (2 * j + 1 + 1) (.slice o8a o8n o8c) w8 := SetQ.app q1.out q2 q4 q5 q6 y8 hxb q3 r8 B9 K8.out
            clear q1 q2 q3 q4 q5 q6 y8 hc8 r8 K8 B9 B6 z0 z1 z2 z3 z4 d0 d1 d2 d3 d4
            go_wp2
            go_roundw
            case rel => exact ⟨j + 1, true, _, (o8n, o8c), by omega, by go_num, by go_num, rfl, SQ.up (by omega)⟩
            case measure => simp [intOf]; omega
        · have hne : ¬ s.x.oop = y.x.oop := by omega
          rw [if_neg (fun q => hk q.2), if_pos hne, decide_eq_false hk] at SQ
          simp only [List.nil_append, List.singleton_append] at SQ
          go_wp2_with fail
          go_quiet (fail)
          replace SQ := SQ.drew nq
          clear B6 z0 z1 z2 z3 z4 d0 d1 d2 d3 d4
          generalize wr.drewN nq = wa at *
          have B6 := SQ.bel
          obtain ⟨z0, z1, z2, z3, z4⟩ := chh_cells ((B6.block b5 (lt_of_block E5)).trans E5)
          have d0 : wa.cell? ⟨cb, j * 5, none⟩ = some (.int .i64 s.x.oop) := (B6.cell hcb).trans (hcl 0 _ rfl)
          have d1 : wa.cell? ⟨cb, j * 5 + 1, none⟩ = some (.bool s.x.gone) := (B6.cell hcb).trans (hcl 1 _ rfl)
          have d2 : wa.cell? ⟨cb, j * 5 + 2, none⟩ = some (.int .i64 s.x.cls) := (B6.cell hcb).trans (hcl 2 _ rfl)
          have d3 : wa.cell? ⟨cb, j * 5 + 3, none⟩ = some (.slice s.sa s.sn s.sc) := (B6.cell hcb).trans (hcl 3 _ rfl)
          have d4 : wa.cell? ⟨cb, j * 5 + 4, none⟩ = some (.slice s.ba s.bn s.bc) := (B6.cell hcb).trans (hcl 4 _ rfl)
          go_wp2_with fail
          go_quiet (fail)
          replace SQ := SQ.drew nq
          clear B6 z0 z1 z2 z3 z4 d0 d1 d2 d3 d4
          generalize wa.drewN nq = wb at *
          have B6 := SQ.bel
          obtain ⟨z0, z1, z2, z3, z4⟩ := chh_cells ((B6.block b5 (lt_of_block E5)).trans E5)
          have d0 : wb.cell? ⟨cb, j * 5, none⟩ = some (.int .i64 s.x.oop) := (B6.cell hcb).trans (hcl 0 _ rfl)
          have d1 : wb.cell? ⟨cb, j * 5 + 1, none⟩ = some (.bool s.x.gone) := (B6.cell hcb).trans (hcl 1 _ rfl)
          have d2 : wb.cell? ⟨cb, j * 5 + 2, none⟩ = some (.int .i64 s.x.cls) := (B6.cell hcb).trans (hcl 2 _ rfl)
          have d3 : wb.cell? ⟨cb, j * 5 + 3, none⟩ = some (.slice s.sa s.sn s.sc) := (B6.cell hcb).trans (hcl 3 _ rfl)
          have d4 : wb.cell? ⟨cb, j * 5 + 4, none⟩ = some (.slice s.ba s.bn s.bc) := (B6.cell hcb).trans (hcl 4 _ rfl)
          have E8 := new1 wb (chh s.x.oop s.x.gone s.x.cls (.slice s.sa s.sn s.sc) (.slice s.ba s.bn s.bc))
          have B8 : Below wb.heap.size wb (wb.alloc (chh s.x.oop s.x.gone s.x.cls (.slice s.sa s.sn s.sc) (.slice s.ba s.bn s.bc))) := box_below
          have Q8 : Hid (SetQ w1 T l0 (s.x :: setF y.x.oop y.x false (l.drop (j + 1))) (2 * j) (.slice oa on oc) (wb.alloc (chh s.x.oop s.x.gone s.x.cls (.slice s.sa s.sn s.sc) (.slice s.ba s.bn s.bc)))) := SetQ.world SQ B8
          have q7 := below_size B6 B6.size B8
          have y8 : ElT (wb.alloc (chh s.x.oop s.x.gone s.x.cls (.slice s.sa s.sn s.sc) (.slice s.ba s.bn s.bc))) (fun g => T g ∨ w1.heap.size ≤ g) s := hel.same (fun _ h => .inl h) (fun g hg _ => q7.block g hg)
          have hc8 : ∀ j u, s.cells[j]? = some u → (wb.alloc (chh s.x.oop s.x.gone s.x.cls (.slice s.sa s.sn s.sc) (.slice s.ba s.bn s.bc))).cell? ⟨wb.heap.size, j, none⟩ = some u := fun j u hj => by unfold chh at E8 ⊢; rw [cell_of_row _ _ _ _ _ _ E8]; simpa [Cs.cells] using hj
          clear SQ q7 E8 B8
          obtain ⟨ss2, q1, q2, q3, q4, q5, q6⟩ := Q8.out
          clear Q8
          replace q1 : Hid _ := q1
          unfold chh at q2 q3 q6 y8 hc8
          go_wp2_with (at_builtin; refine app_chs _ (by rfl) _ _ (by rfl) w1.heap.size _ ss2 (by rfl) q3 wb.heap.size s (by rfl) hc8 (by omega) q6.size ?_)
          intro o8a o8n o8c w8 r8 B9 K8
          have SQ : SetQ w1 T l0 (setF y.x.oop y.x false (l.drop (j + 1))) (2 * j + 1) (.slice o8a o8n o8c) w8 := SetQ.app q1.out q2 q4 q5 q6 y8 hxb q3 r8 B9 K8.out
          clear q1 q2 q3 q4 q5 q6 y8 hc8 r8 K8 B9 B6 z0 z1 z2 z3 z4 d0 d1 d2 d3 d4
          go_wp2
          go_roundw
          case rel => exact ⟨j + 1, false, _, (o8n, o8c), by omega, by go_num, by go_num, rfl, SQ.up (by omega)⟩
          case measure => simp [intOf]; omega
    · have hji : ¬ (j : Int) < (ln : Int) := by omega
      have hdr : l.drop j = [] := List.drop_of_length_le (by have := hsz.out; omega)
      rw [hdr] at SQ
      have fin : ∀ (va : Option Addr) (vn vc : Nat) (B : Nat) (wz : World), SetQ w1 T l0 [] B (.slice va vn vc) wz → PutP w T (putL l y.x) (.returned (.slice va vn vc)) wz := fun va vn vc B wz q => by
        obtain ⟨ss, h1, h2, h3, h4, _, h6⟩ := q
        rw [List.append_nil] at h1
        have s5 := B5.size
        have s6 := h6.size
        have in1 : ∀ g, g < wz.heap.size → (T g ∨ w1.heap.size ≤ g) → T g ∨ (w.heap.size ≤ g ∧ g < wz.heap.size) := fun g hg hT => hT.imp_right (fun q => ⟨by omega, hg⟩)
        refine ⟨va, vn, vc, fun g => T g ∨ (w.heap.size ≤ g ∧ g < wz.heap.size), rfl, ⟨ss, by rw [← h1, ← hl0.out]; rfl, fun s hs => ⟨(h2 s hs).el, fun g hg => in1 g ((h2 s hs).el.lt.1 g hg).1 ((h2 s hs).v g hg), fun g hg => in1 g ((h2 s hs).el.lt.2 g hg).1 ((h2 s hs).b g hg)⟩, ?_, own_mono h3 (Nat.zero_le _), fun g hg => ?_⟩, ⟨fun _ h => .inl h, fun _ h => h⟩, below_size B5 B5.size h6⟩
        · intro x hx
          have hx' : x ∈ ss.map Cs.x := by rw [← h1, ← hl0.out]; exact hx
          obtain ⟨s, hs, rfl⟩ := List.mem_map.1 hx'
          exact h4 s hs
        · obtain ⟨q1, cur, q2⟩ := own_block h3 hg
          have := lt_of_block q2
          exact .inr ⟨by omega, this⟩
      replace fin : Hid _ := fin
      cases i with
      | true =>
        go_wp2
        go_ret
        exact fin.out _ _ _ _ _ SQ
      | false =>
        have SQ' : SetQ w1 T l0 (y.x :: []) (2 * j) (.slice oa on oc) wr := SQ
        clear SQ
        have SQ := SQ'
        clear SQ'
        have B6 := SQ.bel
        obtain ⟨z0, z1, z2, z3, z4⟩ := chh_cells ((B6.block b5 (lt_of_block E5)).trans E5)
        have E8 := new1 wr (chh y.x.oop y.x.gone y.x.cls (.slice y.sa y.sn y.sc) (.slice y.ba y.bn y.bc))
        have B8 : Below wr.heap.size wr (wr.alloc (chh y.x.oop y.x.gone y.x.cls (.slice y.sa y.sn y.sc) (.slice y.ba y.bn y.bc))) := box_below
        have Q8 : Hid (SetQ w1 T l0 (y.x :: []) (2 * j) (.slice oa on oc) (wr.alloc (chh y.x.oop y.x.gone y.x.cls (.slice y.sa y.sn y.sc) (.slice y.ba y.bn y.bc)))) := SetQ.world SQ B8
        have q7 := below_size B6 B6.size B8
        have y8 : ElT (wr.alloc (chh y.x.oop y.x.gone y.x.cls (.slice y.sa y.sn y.sc) (.slice y.ba y.bn y.bc))) (fun g => T g ∨ w1.heap.size ≤ g) y := hY.same (fun _ h => .inl h) (fun g hg _ => q7.block g hg)
        have hc8 : ∀ j u, y.cells[j]? = some u → (wr.alloc (chh y.x.oop y.x.gone y.x.cls (.slice y.sa y.sn y.sc) (.slice y.ba y.bn y.bc))).cell? ⟨wr.heap.size, j, none⟩ = some u := fun j u hj => by unfold chh at E8 ⊢; rw [cell_of_row _ _ _ _ _ _ E8]; simpa [Cs.cells] using hj
        clear SQ q7 E8 B8
        obtain ⟨ss2, q1, q2, q3, q4, q5, q6⟩ := Q8.out
        clear Q8
        replace q1 : Hid _ := q1
        unfold chh at q2 q3 q6 y8 hc8
        go_wp2_with (at_builtin; refine app_chs _ (by rfl) _ _ (by rfl) w1.heap.size _ ss2 (by rfl) q3 wr.heap.size y (by rfl) hc8 (by omega) q6.size ?_)
        intro o2a o2n o2c w6 r8 B9 K8
        have SQ : SetQ w1 T l0 ([]) (2 * j + 1) (.slice o2a o2n o2c) w6 := SetQ.app q1.out q2 q4 q5 q6 y8 hyb q3 r8 B9 K8.out
        clear q1 q2 q3 q4 q5 q6 y8 hc8 r8 K8 B9 B6 z0 z1 z2 z3 z4
        go_wp2
        go_ret
        exact fin.out _ _ _ _ _ SQ
end Go.Proofs.Ytajdelinfkodbaa
