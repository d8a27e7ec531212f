/- The document's view: set. -/
import Derived.Test.YteomolihandfnaaGreatDap
namespace Go.Proofs.YteomolihandfnaaGreat
open Go.RowKit
set_option maxRecDepth 100000
theorem ChT.at_ {w : World} {T : Nat → Prop} {a : Option Addr} {n c : Nat} {xs : List Ch} (h : ChT w T (.slice a n c) xs) (j : Nat) (hj : j < xs.length) : ∃ (cb : Nat) (s : Cs), a = some ⟨cb, 0, none⟩ ∧ cb < w.heap.size ∧ (∀ i v, s.cells[i]? = some v → w.cell? ⟨cb, j * 5 + i, none⟩ = some v) ∧ ElT w T s ∧ Hid (xs[j]? = some s.x) ∧ (-9223372036854775808 ≤ s.x.oop ∧ s.x.oop ≤ 9223372036854775807) := by
  obtain ⟨ss, rfl, h1, h2, h3, _⟩ := h
  rw [List.length_map] at hj
  obtain ⟨s, hs⟩ : ∃ s, ss[j]? = some s := ⟨_, List.getElem?_eq_getElem hj⟩
  have hm := List.mem_of_getElem? hs
  rcases h3.2 with ⟨_, h0⟩ | ⟨g, cap, cur, e, _⟩
  · omega
  · cases e
    have hc : ∀ i v, s.cells[i]? = some v → w.cell? ⟨g, j * 5 + i, none⟩ = some v := fun i v hv => by
      have hi : i < 5 := by have := (List.getElem?_eq_some_iff.1 hv).1; simpa [Cs.cells] using this
      have f0 := flatC_at ss j s hs i hi
      rw [hv] at f0
      have c0 := World.ownsRow.cells h3 (g := g) rfl _ _ f0
      rw [Addr.add_lit, Nat.zero_add] at c0
      exact c0
    exact ⟨g, s, rfl, lt_of_cell (hc 0 _ rfl), hc, h1 s hm, by show _ = _; rw [List.getElem?_map, hs]; rfl, h2 s.x (List.mem_map.2 ⟨s, hm, rfl⟩)⟩
/-- What holds while set goes through the list. -/
def SetQ (w1 : World) (T : Nat → Prop) (l0 rest : List Ch) (B : Nat) (ov : Value) (wr : World) : Prop :=
  ∃ ss : List Cs, l0 = ss.map Cs.x ++ rest ∧ (∀ s ∈ ss, ElT wr (fun g => T g ∨ w1.heap.size ≤ g) s) ∧ wr.ownsRow w1.heap.size 86 5 ov ss.length (flatC ss) ∧ (∀ s ∈ ss, -9223372036854775808 ≤ s.x.oop ∧ s.x.oop ≤ 9223372036854775807) ∧ ss.length ≤ B ∧ Below w1.heap.size w1 wr
theorem SetQ.app {w1 wr w' : World} {T : Nat → Prop} {l0 rest : List Ch} {B : Nat} {ss : List Cs} {y : Cs} {ov ov' : Value} (hl : l0 = ss.map Cs.x ++ (y.x :: rest)) (he : ∀ s ∈ ss, ElT wr (fun g => T g ∨ w1.heap.size ≤ g) s) (hb : ∀ s ∈ ss, -9223372036854775808 ≤ s.x.oop ∧ s.x.oop ≤ 9223372036854775807) (hB : ss.length ≤ B) (hw : Below w1.heap.size w1 wr) (hy : ElT wr (fun g => T g ∨ w1.heap.size ≤ g) y) (hyb : -9223372036854775808 ≤ y.x.oop ∧ y.x.oop ≤ 9223372036854775807) (hr : wr.ownsRow w1.heap.size 86 5 ov ss.length (flatC ss)) (hr' : w'.ownsRow w1.heap.size 86 5 ov' (ss.length + 1) (flatC (ss ++ [y]))) (hk : Below w1.heap.size wr w') (hk2 : ∀ g, (∀ q, ov.ownBlock = some q → g ≠ q) → g < wr.heap.size → w'.heap[g]? = wr.heap[g]?) : SetQ w1 T l0 rest (B + 1) ov' w' := by
  have keep : ∀ s, ElT wr (fun g => T g ∨ w1.heap.size ≤ g) s → ElT w' (fun g => T g ∨ w1.heap.size ≤ g) s := fun s hs => by
    refine ⟨hs.el.same' (fun g hg => ?_) (fun g hg => ?_), hs.v, hs.b⟩
    · obtain ⟨hlt, cur, hc⟩ := hs.el.lt.1 g hg
      refine hk2 g (fun q hq e => ?_) hlt
      obtain ⟨_, cur2, hc2⟩ := own_block hr hq
      rw [e, hc2] at hc
      cases hc
    · obtain ⟨hlt, cur, hc⟩ := hs.el.lt.2 g hg
      refine hk2 g (fun q hq e => ?_) hlt
      obtain ⟨_, cur2, hc2⟩ := own_block hr hq
      rw [e, hc2] at hc
      cases hc
  refine ⟨ss ++ [y], by rw [hl]; simp, fun s hs => ?_, by rw [List.length_append]; exact hr', fun s hs => ?_, by simp; omega, hw.trans hk⟩
  · rcases List.mem_append.1 hs with hs | hs
    · exact keep s (he s hs)
    · rw [List.mem_singleton] at hs; rw [hs]; exact keep y hy
  · rcases List.mem_append.1 hs with hs | hs
    · exact hb s hs
    · rw [List.mem_singleton] at hs; rw [hs]; exact hyb
theorem SetQ.world {w1 wr w' : World} {T : Nat → Prop} {l0 rest : List Ch} {B : Nat} {ov : Value} (h : SetQ w1 T l0 rest B ov wr) (hb : Below wr.heap.size wr w') : SetQ w1 T l0 rest B ov w' := by
  obtain ⟨ss, h1, h2, h3, h4, h5, h6⟩ := h
  refine ⟨ss, h1, fun s hs => ⟨(h2 s hs).el.same' (fun g hg => hb.block g ((h2 s hs).el.lt.1 g hg).1) (fun g hg => hb.block g ((h2 s hs).el.lt.2 g hg).1), (h2 s hs).v, (h2 s hs).b⟩, own_same h3 (fun g hg => hb.block g (lt_of_block (own_block h3 hg).2.choose_spec)), h4, h5, below_size h6 h6.size hb⟩
theorem drop_at {l : List Ch} {j : Nat} {x : Ch} (h : l[j]? = some x) : l.drop j = x :: l.drop (j + 1) := by
  obtain ⟨hj, e⟩ := List.getElem?_eq_some_iff.1 h
  rw [List.drop_eq_getElem_cons hj, e]
theorem SetQ.up {w1 wr : World} {T : Nat → Prop} {l0 rest : List Ch} {B B' : Nat} {ov : Value} (h : SetQ w1 T l0 rest B ov wr) (hB : B ≤ B') : SetQ w1 T l0 rest B' ov wr := by
  obtain ⟨ss, h1, h2, h3, h4, h5, h6⟩ := h
  exact ⟨ss, h1, h2, h3, h4, Nat.le_trans h5 hB, h6⟩
theorem dv_frozen {w : World} {b ub : Nat} {c n : Int} {l r : Value} (h : w.heap[b]? = some (dvB ub c l r n)) (k : Nat) : w.frozen? ⟨b, k, none⟩ = false := by
  unfold World.frozen?
  unfold dvB at h
  rw [h]
  rfl
theorem dv_set2 {w : World} {b ub : Nat} {c n : Int} {l r : Value} (h : w.heap[b]? = some (dvB ub c l r n)) (l' : Value) : (w.setCell ⟨b, 2, none⟩ l').heap[b]? = some (dvB ub c l' r n) := by
  unfold dvB at h ⊢
  rw [heap_setCell_same w _ 2 _ _ _ h]
  simp
theorem SetQ.fin {w w1 w8 : World} {X T : Nat → Prop} {b ub rb : Nat} {v : Dv} {k c : Int} {vs : List (Int × Int)} {bs : List Int} {lv : Value} {oa : Option Addr} {on oc B : Nat} {l0 : List Ch} (h : SetQ w1 T l0 [] B (.slice oa on oc) w8) (B5 : Below w.heap.size w w1) (lX : ∀ g, X g → g < w.heap.size) (hXb : X b) (hXr : X rb) (hne : rb ≠ b) (hblk : w1.heap[b]? = some (dvB ub v.c lv (.slice (some ⟨rb, 0, none⟩) 4097 4097) v.n)) (hR : RdR w1 rb v.rd) (hT : T = fun g => X g ∧ g ≠ rb ∧ g ≠ b) (hl0 : setF k (chO k ⟨c, vs, bs⟩) false v.l = l0) (hfew : v.l.length ≤ 8000) : ∃ X', Db (w8.setCell ⟨b, 2, none⟩ (.slice oa on oc)) X' b ub (dkeep v k ⟨c, vs, bs⟩) ∧ Grow X X' w (w8.setCell ⟨b, 2, none⟩ (.slice oa on oc)) ∧ Fr X w (w8.setCell ⟨b, 2, none⟩ (.slice oa on oc)) := by
  obtain ⟨ss, h1, h2, h3, h4, _, h6⟩ := h
  rw [List.append_nil] at h1
  have lb := lX b hXb
  have lr := lX rb hXr
  have s5 := B5.size
  have s6 := h6.size
  have hb8 := (h6.block b (by omega)).trans hblk
  have C0 : Below 0 w8 (w8.setCell ⟨b, 2, none⟩ (.slice oa on oc)) := (Below.refl 0 w8).setCell (p := ⟨b, 2, none⟩) (Nat.zero_le _) _
  have oth : ∀ q, q ≠ b → (w8.setCell ⟨b, 2, none⟩ (.slice oa on oc)).heap[q]? = w8.heap[q]? := fun q hq => heap_setCell_other w8 ⟨b, 2, none⟩ q _ hq
  have sz : (w8.setCell ⟨b, 2, none⟩ (.slice oa on oc)).heap.size = w8.heap.size := by simp
  have el : ∀ s ∈ ss, ElT (w8.setCell ⟨b, 2, none⟩ (.slice oa on oc)) (fun g => (X g ∨ (w.heap.size ≤ g ∧ g < w8.heap.size)) ∧ g ≠ rb ∧ g ≠ b) s := fun s hs => by
    have e := h2 s hs
    have nb : ∀ g, (T g ∨ w1.heap.size ≤ g) → g ≠ b ∧ g ≠ rb := fun g hg => by
      rcases hg with hg | hg
      · rw [hT] at hg; exact ⟨hg.2.2, hg.2.1⟩
      · exact ⟨by omega, by omega⟩
    have inn : ∀ g, g < w8.heap.size → (T g ∨ w1.heap.size ≤ g) → (X g ∨ (w.heap.size ≤ g ∧ g < w8.heap.size)) ∧ g ≠ rb ∧ g ≠ b := fun g hlt hg => ⟨by
      rcases hg with hg | hg
      · rw [hT] at hg; exact .inl hg.1
      · exact .inr ⟨by omega, hlt⟩, (nb g hg).2, (nb g hg).1⟩
    exact ⟨e.el.same' (fun g hg => oth g (nb g (e.v g hg)).1) (fun g hg => oth g (nb g (e.b g hg)).1), fun g hg => inn g (e.el.lt.1 g hg).1 (e.v g hg), fun g hg => inn g (e.el.lt.2 g hg).1 (e.b g hg)⟩
  have row := own_same h3 (fun g hg => oth g (by have := (own_block h3 hg).1; omega))
  have inr : InT (fun g => (X g ∨ (w.heap.size ≤ g ∧ g < w8.heap.size)) ∧ g ≠ rb ∧ g ≠ b) (.slice oa on oc) := fun g hg => by
    obtain ⟨q1, cur, q2⟩ := own_block h3 hg
    have := lt_of_block q2
    exact ⟨.inr ⟨by omega, this⟩, by omega, by omega⟩
  have rr : RdR (w8.setCell ⟨b, 2, none⟩ (.slice oa on oc)) rb v.rd := by
    obtain ⟨cur, r1, r2⟩ := hR.row
    exact ⟨cur, (oth rb hne).trans ((h6.block rb (by omega)).trans r1), r2⟩
  refine ⟨fun g => X g ∨ (w.heap.size ≤ g ∧ g < w8.heap.size), ⟨⟨.slice oa on oc, rb, dv_set2 hb8 _, ⟨ss, ?_, el, ?_, own_mono row (Nat.zero_le _), inr⟩, rr, .inl hXr, hne⟩, .inl hXb, fun g hg => ?_, ?_⟩, ⟨fun g hg => .inl hg, fun g hg => ?_⟩, ⟨C0.os.trans (h6.os.trans B5.os), C0.tape.trans (h6.tape.trans B5.tape), C0.output.trans (h6.output.trans B5.output), by omega, fun g hg hn => (oth g (fun e => hn (e ▸ hXb))).trans ((h6.block g (by omega)).trans (B5.block g hg))⟩⟩
  · rw [← h1, ← hl0]; rfl
  · intro x hx
    have hx' : x ∈ ss.map Cs.x := by rw [← h1, ← hl0]; exact hx
    obtain ⟨s, hs, rfl⟩ := List.mem_map.1 hx'
    exact h4 s hs
  · rw [sz]
    rcases hg with hg | hg
    · have := lX g hg; omega
    · exact hg.2
  · have := setF_len (k := k) (n := chO k ⟨c, vs, bs⟩) (l := v.l) (i := false)
    show (setL v.l k ⟨c, vs, bs⟩).length ≤ 8192
    unfold setL
    omega
  · rw [sz]
    rcases hg with hg | hg
    · exact .inl hg
    · exact .inr hg
set_option maxHeartbeats 16000000 in
theorem dset_any {w : World} {X : Nat → Prop} {b ub : Nat} {v : Dv} (h : Db w X b ub v) (hfew : v.l.length ≤ 8000) (k : Int) (hkb : -9223372036854775808 ≤ k ∧ k ≤ 9223372036854775807) {c : Int} {sa ba : Option Addr} {sn sc bn bc : Nat} {vs : List (Int × Int)} {bs : List Int} (hO : IsO w c sa sn sc ba bn bc vs bs) (hs : sn ≤ 8796093022208) (hb : bn ≤ 140737488355328) :
    Calls Tryz.prog 47 #[.pointer (some ⟨b, 0, none⟩), .int .i64 k, .agg #[.int .i64 c, .slice sa sn sc, .slice ba bn bc]] w fun e w' => e = .returned (.tuple #[]) ∧ ∃ X', Db w' X' b ub (dkeep v k ⟨c, vs, bs⟩) ∧ Grow X X' w w' ∧ Fr X w w' := by
  have E5 := new1 w (objB c (.slice sa sn sc) (.slice ba bn bc))
  have B5 : Below w.heap.size w (w.alloc (objB c (.slice sa sn sc) (.slice ba bn bc))) := box_below
  have h1 := h.below B5
  have io := hO.below B5
  have lX : ∀ g, X g → g < w.heap.size := h.lt
  replace lX : Hid _ := lX
  clear h hO
  unfold objB at E5 B5 h1 io
  go_enter Tryz.func47, Tryz.ntmps47
  go_wp2_with fail
  generalize w.alloc (.cells #[.int .i64 c, .slice sa sn sc, .slice ba bn bc] 35) = w1 at *
  obtain ⟨b5, hb5⟩ : ∃ q, Hid (q = w.heap.size) := ⟨_, rfl⟩
  rw [← hb5.out] at E5 ⊢
  clear hb5
  replace E5 : w1.heap[b5]? = some (objB c (.slice sa sn sc) (.slice ba bn bc)) := E5
  obtain ⟨lv, rb, hblk, hL, hR, hXr, hne⟩ := h1.blk
  have hXb := h1.own
  obtain ⟨la, ln, lc, rfl, hn0⟩ := hL.shape
  obtain ⟨l, hl⟩ : ∃ l, l = v.l := ⟨_, rfl⟩
  rw [← hl] at hL hn0 hfew
  have hsz : Hid (l.length = ln) := hn0.symm
  have hnn : ln ≤ 8000 := by omega
  obtain ⟨T, hT⟩ : ∃ T : Nat → Prop, T = fun g => X g ∧ g ≠ rb ∧ g ≠ b := ⟨_, rfl⟩
  rw [← hT] at hL
  obtain ⟨l0, hl0⟩ : ∃ q, Hid (setF k (chO k ⟨c, vs, bs⟩) false l = q) := ⟨_, rfl⟩
  replace hl : Hid _ := hl
  replace hT : Hid _ := hT
  clear hn0 h1
  go_loopw [6, 7, 8] (fun ov inv iv wr => ∃ (j : Nat) (i : Bool) (oa : Option Addr) (onc : Nat × Nat), j ≤ ln ∧ iv = .int .i64 (j : Int) ∧ inv = .bool i ∧ ov = .slice oa onc.1 onc.2 ∧ SetQ w1 T l0 (setF k (chO k ⟨c, vs, bs⟩) i (l.drop j)) (2 * j) ov wr) (fun _ _ iv _ => ln - (intOf iv).toNat)
  case atStart => exact ⟨0, false, none, (0, 0), by omega, rfl, rfl, rfl, [], by rw [← hl0.out]; rfl, by simp, World.ownsRow_nil _ _ _ _, by simp, by simp, Below.refl _ _⟩
  case round =>
    obtain ⟨j, i, oa, ⟨on, oc⟩, hj, rfl, rfl, rfl, SQ⟩ := hrel
    have B6 : Below w1.heap.size w1 wr := by obtain ⟨_, _, _, _, _, _, q⟩ := SQ; exact q
    obtain ⟨x0, x1, x2, x3, x4⟩ := dv_cells ((B6.block b (lt_of_block hblk)).trans hblk)
    by_cases hlt : j < ln
    · have hji : (j : Int) < (ln : Int) := by omega
      obtain ⟨cb, s, rfl, hcb, hcl, hel, hxj, hxb⟩ := hL.at_ j (by have := hsz.out; omega)
      have d0 : wr.cell? ⟨cb, j * 5, none⟩ = some (.int .i64 s.x.oop) := (B6.cell hcb).trans (hcl 0 _ rfl)
      rw [drop_at hxj.out] at SQ
      simp only [setF] at SQ
      cases i with
      | true =>
        rw [if_neg (fun q => by cases q.1), Bool.true_or] at SQ
        simp only [List.nil_append] at SQ
        clear x0 x1 x2 x3 x4
        by_cases hne' : s.x.oop = k
        · rw [if_neg (fun q => q hne')] at SQ
          simp only [List.nil_append] at SQ
          obtain ⟨ss2, q1, q2, q3, q4, q5, q6⟩ := SQ
          have d0 : wr.cell? ⟨cb, j * 5, none⟩ = some (.int .i64 s.x.oop) := (q6.cell hcb).trans (hcl 0 _ rfl)
          obtain ⟨x0, x1, x2, x3, x4⟩ := dv_cells ((q6.block b (lt_of_block hblk)).trans hblk)
          have SQ8 : SetQ w1 T l0 (setF k (chO k ⟨c, vs, bs⟩) true (l.drop (j + 1))) (2 * j) (.slice oa on oc) wr := ⟨ss2, q1, q2, q3, q4, q5, q6⟩
          clear q1 q2 q3 q4 q5 q6
          go_wp2
          go_roundw
          case rel => exact ⟨j + 1, true, _, (on, oc), by omega, by go_num, by go_num, rfl, SQ8.up (by omega)⟩
          case measure => simp [intOf]; omega
        · rw [if_pos hne'] at SQ
          simp only [List.singleton_append] at SQ
          obtain ⟨ss2, q1, q2, q3, q4, q5, q6⟩ := SQ
          have d0 : wr.cell? ⟨cb, j * 5, none⟩ = some (.int .i64 s.x.oop) := (q6.cell hcb).trans (hcl 0 _ rfl)
          have d1 : wr.cell? ⟨cb, j * 5 + 1, none⟩ = some (.bool s.x.gone) := (q6.cell hcb).trans (hcl 1 _ rfl)
          have d2 : wr.cell? ⟨cb, j * 5 + 2, none⟩ = some (.int .i64 s.x.cls) := (q6.cell hcb).trans (hcl 2 _ rfl)
          have d3 : wr.cell? ⟨cb, j * 5 + 3, none⟩ = some (.slice s.sa s.sn s.sc) := (q6.cell hcb).trans (hcl 3 _ rfl)
          have d4 : wr.cell? ⟨cb, j * 5 + 4, none⟩ = some (.slice s.ba s.bn s.bc) := (q6.cell hcb).trans (hcl 4 _ rfl)
          obtain ⟨x0, x1, x2, x3, x4⟩ := dv_cells ((q6.block b (lt_of_block hblk)).trans hblk)
          have E8 := new1 wr (chh s.x.oop s.x.gone s.x.cls (.slice s.sa s.sn s.sc) (.slice s.ba s.bn s.bc))
          have B8 : Below wr.heap.size wr (wr.alloc (chh s.x.oop s.x.gone s.x.cls (.slice s.sa s.sn s.sc) (.slice s.ba s.bn s.bc))) := box_below
          have Q8 : Hid (SetQ w1 T l0 (s.x :: setF k (chO k ⟨c, vs, bs⟩) true (l.drop (j + 1))) (2 * j) (.slice oa on oc) (wr.alloc (chh s.x.oop s.x.gone s.x.cls (.slice s.sa s.sn s.sc) (.slice s.ba s.bn s.bc)))) := SetQ.world ⟨ss2, q1, q2, q3, q4, q5, q6⟩ B8
          have q7 := below_size q6 q6.size B8
          have y8 : ElT (wr.alloc (chh s.x.oop s.x.gone s.x.cls (.slice s.sa s.sn s.sc) (.slice s.ba s.bn s.bc))) (fun g => T g ∨ w1.heap.size ≤ g) s := ⟨hel.el.same' (fun g hg => q7.block g (hel.el.lt.1 g hg).1) (fun g hg => q7.block g (hel.el.lt.2 g hg).1), fun g hg => .inl (hel.v g hg), fun g hg => .inl (hel.b g hg)⟩
          have hc8 : ∀ j u, s.cells[j]? = some u → (wr.alloc (chh s.x.oop s.x.gone s.x.cls (.slice s.sa s.sn s.sc) (.slice s.ba s.bn s.bc))).cell? ⟨wr.heap.size, j, none⟩ = some u := fun j u hj => by unfold chh at E8 ⊢; rw [cell_of_row _ _ _ _ _ _ E8, List.getElem?_toArray]; exact hj
          clear q1 q2 q3 q4 q5 q6 q7 E8 B8
          obtain ⟨ss2, q1, q2, q3, q4, q5, q6⟩ := Q8.out
          clear Q8
          replace q1 : Hid _ := q1
          unfold chh at q2 q3 q6 y8 hc8

          go_wp2_with (at_builtin; refine app_chs _ (by rfl) _ _ (by rfl) w1.heap.size _ ss2 (by rfl) q3 wr.heap.size s (by rfl) hc8 (by omega) q6.size ?_)
          intro o8a o8n o8c w8 r8 B8 K8
          have SQ8 : SetQ w1 T l0 (setF k (chO k ⟨c, vs, bs⟩) true (l.drop (j + 1))) (2 * j + 1) (.slice o8a o8n o8c) w8 := SetQ.app q1.out q2 q4 q5 q6 y8 hxb q3 r8 B8 K8.out
          clear q1 q2 q3 q4 q5 q6 y8 hc8 r8 K8 B8 d0 d1 d2 d3 d4 x0 x1 x2 x3 x4
          go_wp2
          go_roundw
          case rel => exact ⟨j + 1, true, _, (o8n, o8c), by omega, by go_num, by go_num, rfl, SQ8.up (by omega)⟩
          case measure => simp [intOf]; omega
      | false =>
        rw [Bool.false_or] at SQ
        by_cases hk : k ≤ s.x.oop
        · rw [if_pos ⟨rfl, hk⟩, decide_eq_true hk] at SQ
          simp only [List.cons_append] at SQ
          by_cases hne' : s.x.oop = k
          · rw [if_neg (fun q => q hne')] at SQ
            simp only [List.nil_append] at SQ
            obtain ⟨ss, q1, q2, q3, q4, q5, q6⟩ := SQ
            obtain ⟨z0, z1, z2, zf⟩ := obj_cells ((q6.block b5 (lt_of_block E5)).trans E5)
            have io' := io.below q6
            go_wp2_with fail
            refine (rcopy_shape io' hs hb).mono ?_
            rintro e w4 ⟨ga, gn, gc, pa, pn, pc, rfl, oV, oB, B4⟩
            have E6 := new1 w4 (chh k false c (.slice ga gn gc) (.slice pa pn pc))
            have B6 : Below w4.heap.size w4 (w4.alloc (chh k false c (.slice ga gn gc) (.slice pa pn pc))) := box_below
            have BB := below_size B4 B4.size B6
            have Q6 : Hid (SetQ w1 T l0 (chO k ⟨c, vs, bs⟩ :: setF k (chO k ⟨c, vs, bs⟩) true (l.drop (j + 1))) (2 * j) (.slice oa on oc) (w4.alloc (chh k false c (.slice ga gn gc) (.slice pa pn pc)))) := SetQ.world ⟨ss, q1, q2, q3, q4, q5, q6⟩ BB
            have oV6 := oV.below B6
            have oB6 := oB.below B6
            have y0 : ElT (w4.alloc (chh k false c (.slice ga gn gc) (.slice pa pn pc))) (fun g => T g ∨ w1.heap.size ≤ g) (⟨chO k ⟨c, vs, bs⟩, ga, gn, gc, pa, pn, pc⟩ : Cs) := ⟨⟨io.cls, ⟨_, oV6⟩, ⟨_, oB6⟩⟩, fun g hg => .inr (Nat.le_trans q6.size (own_block oV6.1 hg).1), fun g hg => .inr (Nat.le_trans q6.size (own_block oB6.1 hg).1)⟩
            have hc6 : ∀ j u, (⟨chO k ⟨c, vs, bs⟩, ga, gn, gc, pa, pn, pc⟩ : Cs).cells[j]? = some u → (w4.alloc (chh k false c (.slice ga gn gc) (.slice pa pn pc))).cell? ⟨w4.heap.size, j, none⟩ = some u := fun j u hj => by unfold chh at E6 ⊢; rw [cell_of_row _ _ _ _ _ _ E6, List.getElem?_toArray]; exact hj
            clear q1 q2 q3 q4 q5 q6 oV oB oV6 oB6 E6 z0 z1 z2 zf io' BB B4 B6
            obtain ⟨ss, q1, q2, q3, q4, q5, q6⟩ := Q6.out
            clear Q6
            replace q1 : Hid _ := q1
            unfold chh at q2 q3 q6 y0 hc6
            go_wp2_with (at_builtin; refine app_chs _ (by rfl) _ _ (by rfl) w1.heap.size _ ss (by rfl) q3 w4.heap.size (⟨chO k ⟨c, vs, bs⟩, ga, gn, gc, pa, pn, pc⟩ : Cs) (by rfl) hc6 (by omega) q6.size ?_)
            intro o2a o2n o2c w6 r6 B6 K6
            have SQ2 : SetQ w1 T l0 (setF k (chO k ⟨c, vs, bs⟩) true (l.drop (j + 1))) (2 * j + 1) (.slice o2a o2n o2c) w6 := SetQ.app q1.out q2 q4 q5 q6 y0 hkb q3 r6 B6 K6.out
            clear q1 q2 q3 q4 q5 q6 y0 hc6 r6 K6 B6
            clear x0 x1 x2 x3 x4 d0
            obtain ⟨ss2, q1, q2, q3, q4, q5, q6⟩ := SQ2
            have d0 : w6.cell? ⟨cb, j * 5, none⟩ = some (.int .i64 s.x.oop) := (q6.cell hcb).trans (hcl 0 _ rfl)
            obtain ⟨x0, x1, x2, x3, x4⟩ := dv_cells ((q6.block b (lt_of_block hblk)).trans hblk)
            have SQ8 : SetQ w1 T l0 (setF k (chO k ⟨c, vs, bs⟩) true (l.drop (j + 1))) (2 * j + 1) (.slice o2a o2n o2c) w6 := ⟨ss2, q1, q2, q3, q4, q5, q6⟩
            clear q1 q2 q3 q4 q5 q6
            go_wp2
            go_roundw
            case rel => exact ⟨j + 1, true, _, (o2n, o2c), by omega, by go_num, by go_num, rfl, SQ8.up (by omega)⟩
            case measure => simp [intOf]; omega
          · rw [if_pos hne'] at SQ
            obtain ⟨ss, q1, q2, q3, q4, q5, q6⟩ := SQ
            obtain ⟨z0, z1, z2, zf⟩ := obj_cells ((q6.block b5 (lt_of_block E5)).trans E5)
            have io' := io.below q6
            go_wp2_with fail
            refine (rcopy_shape io' hs hb).mono ?_
            rintro e w4 ⟨ga, gn, gc, pa, pn, pc, rfl, oV, oB, B4⟩
            have E6 := new1 w4 (chh k false c (.slice ga gn gc) (.slice pa pn pc))
            have B6 : Below w4.heap.size w4 (w4.alloc (chh k false c (.slice ga gn gc) (.slice pa pn pc))) := box_below
            have BB := below_size B4 B4.size B6
            have Q6 : Hid (SetQ w1 T l0 (chO k ⟨c, vs, bs⟩ :: (s.x :: setF k (chO k ⟨c, vs, bs⟩) true (l.drop (j + 1)))) (2 * j) (.slice oa on oc) (w4.alloc (chh k false c (.slice ga gn gc) (.slice pa pn pc)))) := SetQ.world ⟨ss, q1, q2, q3, q4, q5, q6⟩ BB
            have oV6 := oV.below B6
            have oB6 := oB.below B6
            have y0 : ElT (w4.alloc (chh k false c (.slice ga gn gc) (.slice pa pn pc))) (fun g => T g ∨ w1.heap.size ≤ g) (⟨chO k ⟨c, vs, bs⟩, ga, gn, gc, pa, pn, pc⟩ : Cs) := ⟨⟨io.cls, ⟨_, oV6⟩, ⟨_, oB6⟩⟩, fun g hg => .inr (Nat.le_trans q6.size (own_block oV6.1 hg).1), fun g hg => .inr (Nat.le_trans q6.size (own_block oB6.1 hg).1)⟩
            have hc6 : ∀ j u, (⟨chO k ⟨c, vs, bs⟩, ga, gn, gc, pa, pn, pc⟩ : Cs).cells[j]? = some u → (w4.alloc (chh k false c (.slice ga gn gc) (.slice pa pn pc))).cell? ⟨w4.heap.size, j, none⟩ = some u := fun j u hj => by unfold chh at E6 ⊢; rw [cell_of_row _ _ _ _ _ _ E6, List.getElem?_toArray]; exact hj
            clear q1 q2 q3 q4 q5 q6 oV oB oV6 oB6 E6 z0 z1 z2 zf io' BB B4 B6
            obtain ⟨ss, q1, q2, q3, q4, q5, q6⟩ := Q6.out
            clear Q6
            replace q1 : Hid _ := q1
            unfold chh at q2 q3 q6 y0 hc6
            go_wp2_with (at_builtin; refine app_chs _ (by rfl) _ _ (by rfl) w1.heap.size _ ss (by rfl) q3 w4.heap.size (⟨chO k ⟨c, vs, bs⟩, ga, gn, gc, pa, pn, pc⟩ : Cs) (by rfl) hc6 (by omega) q6.size ?_)
            intro o2a o2n o2c w6 r6 B6 K6
            have SQ2 : SetQ w1 T l0 ((s.x :: setF k (chO k ⟨c, vs, bs⟩) true (l.drop (j + 1)))) (2 * j + 1) (.slice o2a o2n o2c) w6 := SetQ.app q1.out q2 q4 q5 q6 y0 hkb q3 r6 B6 K6.out
            clear q1 q2 q3 q4 q5 q6 y0 hc6 r6 K6 B6
            clear x0 x1 x2 x3 x4 d0
            obtain ⟨ss2, q1, q2, q3, q4, q5, q6⟩ := SQ2
            have d0 : w6.cell? ⟨cb, j * 5, none⟩ = some (.int .i64 s.x.oop) := (q6.cell hcb).trans (hcl 0 _ rfl)
            have d1 : w6.cell? ⟨cb, j * 5 + 1, none⟩ = some (.bool s.x.gone) := (q6.cell hcb).trans (hcl 1 _ rfl)
            have d2 : w6.cell? ⟨cb, j * 5 + 2, none⟩ = some (.int .i64 s.x.cls) := (q6.cell hcb).trans (hcl 2 _ rfl)
            have d3 : w6.cell? ⟨cb, j * 5 + 3, none⟩ = some (.slice s.sa s.sn s.sc) := (q6.cell hcb).trans (hcl 3 _ rfl)
            have d4 : w6.cell? ⟨cb, j * 5 + 4, none⟩ = some (.slice s.ba s.bn s.bc) := (q6.cell hcb).trans (hcl 4 _ rfl)
            obtain ⟨x0, x1, x2, x3, x4⟩ := dv_cells ((q6.block b (lt_of_block hblk)).trans hblk)
            have E8 := new1 w6 (chh s.x.oop s.x.gone s.x.cls (.slice s.sa s.sn s.sc) (.slice s.ba s.bn s.bc))
            have B8 : Below w6.heap.size w6 (w6.alloc (chh s.x.oop s.x.gone s.x.cls (.slice s.sa s.sn s.sc) (.slice s.ba s.bn s.bc))) := box_below
            have Q8 : Hid (SetQ w1 T l0 (s.x :: setF k (chO k ⟨c, vs, bs⟩) true (l.drop (j + 1))) (2 * j + 1) (.slice o2a o2n o2c) (w6.alloc (chh s.x.oop s.x.gone s.x.cls (.slice s.sa s.sn s.sc) (.slice s.ba s.bn s.bc)))) := SetQ.world ⟨ss2, q1, q2, q3, q4, q5, q6⟩ B8
            have q7 := below_size q6 q6.size B8
            have y8 : ElT (w6.alloc (chh s.x.oop s.x.gone s.x.cls (.slice s.sa s.sn s.sc) (.slice s.ba s.bn s.bc))) (fun g => T g ∨ w1.heap.size ≤ g) s := ⟨hel.el.same' (fun g hg => q7.block g (hel.el.lt.1 g hg).1) (fun g hg => q7.block g (hel.el.lt.2 g hg).1), fun g hg => .inl (hel.v g hg), fun g hg => .inl (hel.b g hg)⟩
            have hc8 : ∀ j u, s.cells[j]? = some u → (w6.alloc (chh s.x.oop s.x.gone s.x.cls (.slice s.sa s.sn s.sc) (.slice s.ba s.bn s.bc))).cell? ⟨w6.heap.size, j, none⟩ = some u := fun j u hj => by unfold chh at E8 ⊢; rw [cell_of_row _ _ _ _ _ _ E8, List.getElem?_toArray]; exact hj
            clear q1 q2 q3 q4 q5 q6 q7 E8 B8
            obtain ⟨ss2, q1, q2, q3, q4, q5, q6⟩ := Q8.out
            clear Q8
            replace q1 : Hid _ := q1
            unfold chh at q2 q3 q6 y8 hc8

            go_wp2_with (at_builtin; refine app_chs _ (by rfl) _ _ (by rfl) w1.heap.size _ ss2 (by rfl) q3 w6.heap.size s (by rfl) hc8 (by omega) q6.size ?_)
            intro o8a o8n o8c w8 r8 B8 K8
            have SQ8 : SetQ w1 T l0 (setF k (chO k ⟨c, vs, bs⟩) true (l.drop (j + 1))) (2 * j + 1 + 1) (.slice o8a o8n o8c) w8 := SetQ.app q1.out q2 q4 q5 q6 y8 hxb q3 r8 B8 K8.out
            clear q1 q2 q3 q4 q5 q6 y8 hc8 r8 K8 B8 d0 d1 d2 d3 d4 x0 x1 x2 x3 x4
            go_wp2
            go_roundw
            case rel => exact ⟨j + 1, true, _, (o8n, o8c), by omega, by go_num, by go_num, rfl, SQ8.up (by omega)⟩
            case measure => simp [intOf]; omega
        · have hne' : ¬ s.x.oop = k := by omega
          rw [if_neg (fun q => hk q.2), if_pos hne', decide_eq_false hk] at SQ
          simp only [List.nil_append, List.singleton_append] at SQ
          clear x0 x1 x2 x3 x4
          obtain ⟨ss2, q1, q2, q3, q4, q5, q6⟩ := SQ
          have d0 : wr.cell? ⟨cb, j * 5, none⟩ = some (.int .i64 s.x.oop) := (q6.cell hcb).trans (hcl 0 _ rfl)
          have d1 : wr.cell? ⟨cb, j * 5 + 1, none⟩ = some (.bool s.x.gone) := (q6.cell hcb).trans (hcl 1 _ rfl)
          have d2 : wr.cell? ⟨cb, j * 5 + 2, none⟩ = some (.int .i64 s.x.cls) := (q6.cell hcb).trans (hcl 2 _ rfl)
          have d3 : wr.cell? ⟨cb, j * 5 + 3, none⟩ = some (.slice s.sa s.sn s.sc) := (q6.cell hcb).trans (hcl 3 _ rfl)
          have d4 : wr.cell? ⟨cb, j * 5 + 4, none⟩ = some (.slice s.ba s.bn s.bc) := (q6.cell hcb).trans (hcl 4 _ rfl)
          obtain ⟨x0, x1, x2, x3, x4⟩ := dv_cells ((q6.block b (lt_of_block hblk)).trans hblk)
          have E8 := new1 wr (chh s.x.oop s.x.gone s.x.cls (.slice s.sa s.sn s.sc) (.slice s.ba s.bn s.bc))
          have B8 : Below wr.heap.size wr (wr.alloc (chh s.x.oop s.x.gone s.x.cls (.slice s.sa s.sn s.sc) (.slice s.ba s.bn s.bc))) := box_below
          have Q8 : Hid (SetQ w1 T l0 (s.x :: setF k (chO k ⟨c, vs, bs⟩) false (l.drop (j + 1))) (2 * j) (.slice oa on oc) (wr.alloc (chh s.x.oop s.x.gone s.x.cls (.slice s.sa s.sn s.sc) (.slice s.ba s.bn s.bc)))) := SetQ.world ⟨ss2, q1, q2, q3, q4, q5, q6⟩ B8
          have q7 := below_size q6 q6.size B8
          have y8 : ElT (wr.alloc (chh s.x.oop s.x.gone s.x.cls (.slice s.sa s.sn s.sc) (.slice s.ba s.bn s.bc))) (fun g => T g ∨ w1.heap.size ≤ g) s := ⟨hel.el.same' (fun g hg => q7.block g (hel.el.lt.1 g hg).1) (fun g hg => q7.block g (hel.el.lt.2 g hg).1), fun g hg => .inl (hel.v g hg), fun g hg => .inl (hel.b g hg)⟩
          have hc8 : ∀ j u, s.cells[j]? = some u → (wr.alloc (chh s.x.oop s.x.gone s.x.cls (.slice s.sa s.sn s.sc) (.slice s.ba s.bn s.bc))).cell? ⟨wr.heap.size, j, none⟩ = some u := fun j u hj => by unfold chh at E8 ⊢; rw [cell_of_row _ _ _ _ _ _ E8, List.getElem?_toArray]; exact hj
          clear q1 q2 q3 q4 q5 q6 q7 E8 B8
          obtain ⟨ss2, q1, q2, q3, q4, q5, q6⟩ := Q8.out
          clear Q8
          replace q1 : Hid _ := q1
          unfold chh at q2 q3 q6 y8 hc8
          have hkn : ¬ k ≤ s.x.oop := hk
          go_wp2_with (at_builtin; refine app_chs _ (by rfl) _ _ (by rfl) w1.heap.size _ ss2 (by rfl) q3 wr.heap.size s (by rfl) hc8 (by omega) q6.size ?_)
          intro o8a o8n o8c w8 r8 B8 K8
          have SQ8 : SetQ w1 T l0 (setF k (chO k ⟨c, vs, bs⟩) false (l.drop (j + 1))) (2 * j + 1) (.slice o8a o8n o8c) w8 := SetQ.app q1.out q2 q4 q5 q6 y8 hxb q3 r8 B8 K8.out
          clear q1 q2 q3 q4 q5 q6 y8 hc8 r8 K8 B8 d0 d1 d2 d3 d4 x0 x1 x2 x3 x4
          go_wp2
          go_roundw
          case rel => exact ⟨j + 1, false, _, (o8n, o8c), by omega, by go_num, by go_num, rfl, SQ8.up (by omega)⟩
          case measure => simp [intOf]; omega
    · have hji : ¬ (j : Int) < (ln : Int) := by omega
      rw [List.drop_eq_nil_of_le (by have := hsz.out; omega)] at SQ
      cases i with
      | true =>
        simp only [setF, if_true] at SQ
        have fin : Hid _ := SQ.fin (k := k) (c := c) (vs := vs) (bs := bs) B5 lX.out hXb hXr hne hblk hR hT.out (by rw [← hl.out]; exact hl0.out) (by rw [← hl.out]; exact hfew)
        have vf := dv_frozen ((B6.block b (lt_of_block hblk)).trans hblk) 2
        clear SQ
        go_wp2
        go_end0
        exact ⟨rfl, fin.out⟩
      | false =>
        simp only [setF, Bool.false_eq_true, if_false] at SQ
        obtain ⟨ss, q1, q2, q3, q4, q5, q6⟩ := SQ
        obtain ⟨z0, z1, z2, zf⟩ := obj_cells ((q6.block b5 (lt_of_block E5)).trans E5)
        have io' := io.below q6
        go_wp2_with fail
        refine (rcopy_shape io' hs hb).mono ?_
        rintro e w4 ⟨ga, gn, gc, pa, pn, pc, rfl, oV, oB, B4⟩
        have E6 := new1 w4 (chh k false c (.slice ga gn gc) (.slice pa pn pc))
        have B6 : Below w4.heap.size w4 (w4.alloc (chh k false c (.slice ga gn gc) (.slice pa pn pc))) := box_below
        have BB := below_size B4 B4.size B6
        have Q6 : Hid (SetQ w1 T l0 (chO k ⟨c, vs, bs⟩ :: []) (2 * j) (.slice oa on oc) (w4.alloc (chh k false c (.slice ga gn gc) (.slice pa pn pc)))) := SetQ.world ⟨ss, q1, q2, q3, q4, q5, q6⟩ BB
        have oV6 := oV.below B6
        have oB6 := oB.below B6
        have y0 : ElT (w4.alloc (chh k false c (.slice ga gn gc) (.slice pa pn pc))) (fun g => T g ∨ w1.heap.size ≤ g) (⟨chO k ⟨c, vs, bs⟩, ga, gn, gc, pa, pn, pc⟩ : Cs) := ⟨⟨io.cls, ⟨_, oV6⟩, ⟨_, oB6⟩⟩, fun g hg => .inr (Nat.le_trans q6.size (own_block oV6.1 hg).1), fun g hg => .inr (Nat.le_trans q6.size (own_block oB6.1 hg).1)⟩
        have hc6 : ∀ j u, (⟨chO k ⟨c, vs, bs⟩, ga, gn, gc, pa, pn, pc⟩ : Cs).cells[j]? = some u → (w4.alloc (chh k false c (.slice ga gn gc) (.slice pa pn pc))).cell? ⟨w4.heap.size, j, none⟩ = some u := fun j u hj => by unfold chh at E6 ⊢; rw [cell_of_row _ _ _ _ _ _ E6, List.getElem?_toArray]; exact hj
        clear q1 q2 q3 q4 q5 q6 oV oB oV6 oB6 E6 z0 z1 z2 zf io' BB B4 B6
        obtain ⟨ss, q1, q2, q3, q4, q5, q6⟩ := Q6.out
        clear Q6
        replace q1 : Hid _ := q1
        unfold chh at q2 q3 q6 y0 hc6
        go_wp2_with (at_builtin; refine app_chs _ (by rfl) _ _ (by rfl) w1.heap.size _ ss (by rfl) q3 w4.heap.size (⟨chO k ⟨c, vs, bs⟩, ga, gn, gc, pa, pn, pc⟩ : Cs) (by rfl) hc6 (by omega) q6.size ?_)
        intro o2a o2n o2c w6 r6 B6 K6
        have SQ2 : SetQ w1 T l0 ([]) (2 * j + 1) (.slice o2a o2n o2c) w6 := SetQ.app q1.out q2 q4 q5 q6 y0 hkb q3 r6 B6 K6.out
        clear q1 q2 q3 q4 q5 q6 y0 hc6 r6 K6 B6
        have B7 : Below w1.heap.size w1 w6 := by obtain ⟨_, _, _, _, _, _, q⟩ := SQ2; exact q
        clear x0 x1 x2 x3 x4
        obtain ⟨x0, x1, x2, x3, x4⟩ := dv_cells ((B7.block b (lt_of_block hblk)).trans hblk)
        have fin : Hid _ := SQ2.fin (k := k) (c := c) (vs := vs) (bs := bs) B5 lX.out hXb hXr hne hblk hR hT.out (by rw [← hl.out]; exact hl0.out) (by rw [← hl.out]; exact hfew)
        have vf := dv_frozen ((B7.block b (lt_of_block hblk)).trans hblk) 2
        clear SQ2
        go_wp2
        go_end0
        exact ⟨rfl, fin.out⟩
end Go.Proofs.YteomolihandfnaaGreat
