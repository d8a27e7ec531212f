/- All objects behind the last commit: All. -/
import Derived.Test.YtajdelinfkodbaaOop
import Derived.Test.YtajdelinfkodbaaFgt
namespace Go.Proofs.Ytajdelinfkodbaa
open Go.RowKit Go.Shelf
attribute [local go_sem] Oper.semAt_some
set_option maxRecDepth 100000
theorem copy_shape {w : World} {c : Int} {sa ba : Option Addr} {sn sc bn bc : Nat} {vs : List (Int × Int)} {bs : List Int} (h : IsO w c sa sn sc ba bn bc vs bs) (hs : sn ≤ 8796093022208) (hb : bn ≤ 140737488355328) :
    Calls Try.prog 47 #[.agg #[.int .i64 c, .slice sa sn sc, .slice ba bn bc]] w fun e w' => ∃ ga gn gc qa qn qc, e = .returned (.agg #[.int .i64 c, .slice ga gn gc, .slice qa qn qc]) ∧ OwnV w' w.heap.size (.slice ga gn gc) vs ∧ OwnB w' w.heap.size (.slice qa qn qc) bs ∧ Below w.heap.size w w' := by
  refine (copy_any h hs hb).mono ?_
  rintro e w' ⟨vv, bv, rfl, o1, o2, B⟩
  obtain ⟨ga, gn, gc, rfl⟩ := o1.shape'
  obtain ⟨qa, qn, qc, rfl⟩ := o2.shape'
  exact ⟨ga, gn, gc, qa, qn, qc, rfl, o1, o2, B⟩
def chK (t : Tab) (c k : Int) : Ch := match atC (t.m k).vs c with
  | none => ⟨k, false, 0, [], []⟩
  | some y => ⟨k, false, y.cls, y.vs, y.bs⟩
def allL (t : Tab) : List Ch := (liveK t t.last).map (chK t t.last)
theorem OwnC.cellsKept {w w' : World} {base : Nat} {v : Value} {xs : List Ch} (h : OwnC w base 51 v xs) (k : ∀ (g : Nat) (cur : Array Value) (e : Nat), w.heap[g]? = some (Obj.cells cur e (0, 0)) → w'.heap[g]? = w.heap[g]?) : OwnC w' base 51 v xs := by
  obtain ⟨ss, h1, h2, h3, h4⟩ := h
  refine ⟨ss, own_same h1 (fun g hg => ?_), h2, fun s hs => (h3 s hs).same (fun g cur e _ hh => k g cur e hh), h4⟩
  obtain ⟨_, cur, hh⟩ := own_block h1 hg
  exact k g cur _ hh
theorem Try.results26 : Try.f26.results = #[.cell 2 38] := by kernel_rfl
end Go.Proofs.Ytajdelinfkodbaa
namespace Go.Proofs.Ytajdelinfkodbaa
open Go.RowKit
set_option maxRecDepth 100000
theorem own_i64 {w : World} {base n c : Nat} {a : Option Addr} {xs : List Int} (h : w.ownsRow base 2 1 (.slice a n c) n (xs.map (Value.int .i64))) (hn : n = xs.length) (k : Nat) (hk : k < n) : ∃ g x, a = some ⟨g, 0, none⟩ ∧ g < w.heap.size ∧ w.cell? ⟨g, k, none⟩ = some (.int .i64 x) ∧ Hid (xs[k]? = some x) := by
  rcases h.2 with ⟨_, h0⟩ | ⟨g0, cap, cur, e, hbg, hgh, hnc, hcm, hcs, htake⟩
  · omega
  · cases e
    have hx : (xs.map (Value.int .i64))[k]? = some (.int .i64 (xs[k]'(by omega))) := by simp [List.getElem?_eq_getElem (show k < xs.length by omega)]
    have hc := World.ownsRow.cells h (g := g0) rfl k _ hx
    rw [Addr.add_lit, Nat.zero_add] at hc
    exact ⟨g0, _, rfl, lt_of_cell hc, hc, List.getElem?_eq_getElem (by omega)⟩
set_option maxHeartbeats 4000000 in
theorem lsame_yes {w : World} {base1 base2 n c1 c2 : Nat} {a1 a2 : Option Addr} {xs : List Int} (h1 : w.ownsRow base1 2 1 (.slice a1 n c1) n (xs.map (Value.int .i64))) (h2 : w.ownsRow base2 2 1 (.slice a2 n c2) n (xs.map (Value.int .i64))) (hn : n = xs.length) (h4 : n ≤ 4096) :
    Calls Try.prog 27 #[.slice a1 n c1, .slice a2 n c2] w fun e w' => e = .returned (.bool true) ∧ Below w.heap.size w w' := by
  replace hn : Hid (n = xs.length) := hn
  go_enter Try.func27, Try.ntmps27
  go_wp2
  go_loopw [5] (fun iv wr => ∃ (k q : Nat), k ≤ n ∧ iv = .int .i64 (k : Int) ∧ wr = w.drewN q) (fun iv _ => n - (intOf iv).toNat)
  case atStart => exact ⟨0, 0, by omega, rfl, rfl⟩
  case round =>
    obtain ⟨k, q, hk, rfl, rfl⟩ := hrel
    by_cases hlt : k < n
    · obtain ⟨g1, x1, rfl, hb1, d1, e1⟩ := own_i64 h1 hn.out k hlt
      obtain ⟨g2, x2, rfl, hb2, d2, e2⟩ := own_i64 h2 hn.out k hlt
      obtain rfl : x1 = x2 := Option.some.inj (e1.out.symm.trans e2.out)
      have hki : (k : Int) < (n : Int) := by omega
      go_wp2_with fail
      go_quiet (fail)
      go_wp2
      go_roundw
      case rel => exact ⟨k + 1, _, by omega, by go_num, rfl⟩
      case measure => simp [intOf]; omega
    · go_wp2
      go_ret
      exact ⟨rfl, below_drewN (Below.refl _ _) _⟩
end Go.Proofs.Ytajdelinfkodbaa
namespace Go.Proofs.Ytajdelinfkodbaa
open Go.RowKit
set_option maxRecDepth 100000
/-- A row of one change with no slots and no bytes. -/
theorem lit_own {w : World} {nb N : Nat} {oo cc : Int} {g : Bool} (h : w.heap[nb]? = some (chB oo g cc (.slice none 0 0) (.slice none 0 0))) (hN : N ≤ nb) (ho : -9223372036854775808 ≤ oo ∧ oo ≤ 9223372036854775807) (hc : -9223372036854775808 ≤ cc ∧ cc ≤ 9223372036854775807) : OwnC w N 51 (.slice (some ⟨nb, 0, none⟩) 1 1) [⟨oo, g, cc, [], []⟩] := by
  refine ⟨[⟨⟨oo, g, cc, [], []⟩, none, 0, 0, none, 0, 0⟩], ⟨rfl, .inr ⟨nb, 1, _, rfl, hN, h, Nat.le_refl _, by decide, rfl, rfl⟩⟩, rfl, fun s hs => ?_, fun x hx => ?_⟩
  · rw [List.mem_singleton] at hs
    subst hs
    exact ⟨hc, ⟨0, ownV_nil _ _⟩, ⟨0, ownB_nil' _ _⟩⟩
  · rw [List.mem_singleton] at hx
    subst hx
    exact ho
/-- A table of somebody's own, from a block on. -/
structure Tw (w0 w : World) (S R : Nat → Prop) (b : Nat) (t : Tab) : Prop where
  tb : Tb w S R b t
  lo : ∀ g, S g → w0.heap.size ≤ g
  be : Below w0.heap.size w0 w
theorem Tw.next {w0 w w' : World} {S R S' R' : Nat → Prop} {b : Nat} {t t' : Tab} (h : Tw w0 w S R b t) (ht : Tb w' S' R' b t') (gS : Grow S S' w w') (f : Fr S w w') : Tw w0 w' S' R' b t' :=
  ⟨ht, fun g hg => by
    rcases gS.new g hg with q | ⟨q, _⟩
    · exact h.lo g q
    · exact Nat.le_trans h.be.size q, f.below h.be h.be.size h.lo⟩
theorem Tw.below {w0 w w' : World} {S R : Nat → Prop} {b : Nat} {t : Tab} (h : Tw w0 w S R b t) (hb : Below w.heap.size w w') : Tw w0 w' S R b t := ⟨h.tb.below hb, h.lo, below_size h.be h.be.size hb⟩
theorem Tw.new (w : World) : Tw w (w.alloc (tabB 0 0 none)) (fun g => g = w.heap.size) (fun _ => False) w.heap.size tab0 := ⟨Tb.new w, fun g hg => by rw [hg]; exact Nat.le_refl _, box_below⟩
theorem keep_out {w w' : World} {S : Nat → Prop} {q : Nat} {o : Obj} (f : Fr S w w') (h : w.heap[q]? = some o) (hn : ¬ S q) : w'.heap[q]? = some o := (f.block q ((Array.getElem?_eq_some_iff.1 h).1) hn).trans h
def x1 : Ch := ⟨5, false, 1, [], []⟩
def x2 : Ch := ⟨5, false, 2, [], []⟩
def T1 : Tab := applyT tab0 1 [x1]
def T2 : Tab := applyT T1 2 [x2]
def T3 : Tab := forgetT T2 2
theorem e1 : applyE tab0 1 [x1] = 0 := by decide
theorem e2 : applyE T1 2 [x2] = 0 := by decide
theorem e3 : forgetE T2 2 = 0 := by decide
theorem a1 : clsO (atO T2 1 5) = 1 ∧ atE T2 1 5 = 0 := by decide
theorem a2 : clsO (atO T2 2 5) = 2 ∧ atE T2 2 5 = 0 := by decide
theorem a3 : atE T3 1 5 = 13 := by decide
theorem a4 : (T3.m 5).chg = 2 ∧ T3.last = 2 := by decide
theorem Grow.out {S S' : Nat → Prop} {w w' : World} {q : Nat} (g : Grow S S' w w') (hq : q < w.heap.size) (hn : ¬ S q) : ¬ S' q := fun h => by
  rcases g.new q h with z | ⟨z, _⟩
  · exact hn z
  · omega
set_option maxHeartbeats 8000000 in
theorem known_true (w : World) : Calls Try.prog 33 #[] w fun e w' => e = .returned (.bool true) ∧ Below w.heap.size w w' := by
  have t0 := Tw.new w
  go_enter Try.func33, Try.ntmps33
  go_wp2_with fail
  refine (new_tab w).mono ?_
  rintro e w1 ⟨rfl, rfl⟩
  obtain ⟨b, hb⟩ : ∃ q, Hid (q = w.heap.size) := ⟨_, rfl⟩
  have s1 : Hid ((w.alloc (tabB 0 0 none)).heap.size = w.heap.size + 1) := by show (w.alloc (tabB 0 0 none)).heap.size = w.heap.size + 1; simp
  generalize w.alloc (tabB 0 0 none) = w1 at *
  have E2 := old1 (new1 w1 (objB 1 (.slice none 0 0) (.slice none 0 0))) (objB 2 (.slice none 0 0) (.slice none 0 0))
  have E3 := new2 w1 (objB 1 (.slice none 0 0) (.slice none 0 0)) (objB 2 (.slice none 0 0) (.slice none 0 0))
  have B1 : Below w1.heap.size w1 ((w1.alloc (objB 1 (.slice none 0 0) (.slice none 0 0))).alloc (objB 2 (.slice none 0 0) (.slice none 0 0))) := below_size box_below box_below.size box_below
  have t1 := t0.below B1
  unfold objB at E2 E3 B1 t1
  rw [← hb.out]
  rw [← hb.out] at t1
  clear t0 B1
  go_upto_region 6 with fail
  generalize (w1.alloc (.cells #[.int .i64 1, .slice none 0 0, .slice none 0 0] 49)).alloc (.cells #[.int .i64 2, .slice none 0 0, .slice none 0 0] 49) = w2 at *
  have n2' : ¬ ((fun g => g = b) w1.heap.size) := fun e => by have e' : w1.heap.size = b := e; have h1 := s1.out; have h2 := hb.out; omega
  have n3' : ¬ ((fun g => g = b) (w1.heap.size + 1)) := fun e => by have e' : w1.heap.size + 1 = b := e; have h1 := s1.out; have h2 := hb.out; omega
  generalize (fun g => g = b) = S0 at *
  generalize (fun _ : Nat => False) = R0 at *
  clear s1 hb
  generalize w1.heap.size + 1 = b3 at *
  generalize w1.heap.size = b2 at *
  replace E2 : w2.heap[b2]? = some (objB 1 (.slice none 0 0) (.slice none 0 0)) := E2
  replace E3 : w2.heap[b3]? = some (objB 2 (.slice none 0 0) (.slice none 0 0)) := E3
  obtain ⟨z0, z1, z2, zf⟩ := obj_cells E2
  -- the first commit
  have L1 := new1 w2 (chB 5 false 1 (.slice none 0 0) (.slice none 0 0))
  have B1 : Below w2.heap.size w2 (w2.alloc (chB 5 false 1 (.slice none 0 0) (.slice none 0 0))) := box_below
  have t2 := t1.below B1
  have c1 := apply_any t2.tb 1 (lit_own L1 (Nat.le_refl _) (by decide) (by decide))
  have F2 := (B1.block b2 (lt_of_block E2)).trans E2
  have F3 := (B1.block b3 (lt_of_block E3)).trans E3
  unfold chB at c1 L1 B1 t2 F2 F3
  go_wp2_with fail
  refine c1.mono ?_
  rintro e w4 ⟨rfl, S1, R1, q1, g1, _, f1⟩
  have t4 : Tw w w4 S1 R1 b T1 := t2.next q1 g1 f1
  have G3 := keep_out f1 F3 n3'
  have m3 := g1.out (lt_of_block F3) n3'
  rw [show applyE tab0 1 [(⟨5, false, 1, [], []⟩ : Ch)] = 0 from e1]
  clear z0 z1 z2 zf c1 L1 B1 t2 t1 q1 g1 f1 F2 F3 E2 E3 n2' n3'
  replace G3 : w4.heap[b3]? = some (objB 2 (.slice none 0 0) (.slice none 0 0)) := G3
  obtain ⟨z0, z1, z2, zf⟩ := obj_cells G3
  -- the second one
  have L1 := new1 w4 (chB 5 false 2 (.slice none 0 0) (.slice none 0 0))
  have B1 : Below w4.heap.size w4 (w4.alloc (chB 5 false 2 (.slice none 0 0) (.slice none 0 0))) := box_below
  have t5 := t4.below B1
  have c1 := apply_any t5.tb 2 (lit_own L1 (Nat.le_refl _) (by decide) (by decide))
  unfold chB at c1 L1 B1 t5
  go_wp2_with fail
  refine c1.mono ?_
  rintro e w6 ⟨rfl, S2, R2, q1, g1, _, f1⟩
  have t6 : Tw w w6 S2 R2 b T2 := t5.next q1 g1 f1
  rw [show applyE T1 2 [(⟨5, false, 2, [], []⟩ : Ch)] = 0 from e2]
  clear z0 z1 z2 zf c1 L1 B1 t5 t4 q1 g1 f1 G3 m3
  -- what stands behind them
  have c1 := atT_any t6.tb 1 5
  go_wp2_with fail
  refine c1.mono ?_
  rintro e w7 ⟨vv, bv, rfl, OV, OB, B7⟩
  rw [a1.1, a1.2]
  obtain ⟨va, vn, vc, rfl⟩ := OV.shape'
  obtain ⟨ba, bn, bc, rfl⟩ := OB.shape'
  have n6 : ¬ S2 w7.heap.size := fun hS => by have h1 := t6.tb.sets.sl _ hS; have h2 := B7.size; omega
  have t7 := (t6.below B7).below (box_below (o := objB 1 (.slice va vn vc) (.slice ba bn bc)))
  have E6 := new1 w7 (objB 1 (.slice va vn vc) (.slice ba bn bc))
  clear c1 t6 OV OB B7
  unfold objB at E6 t7
  have c1 := atT_any t7.tb 2 5
  go_wp2_with fail
  refine c1.mono ?_
  rintro e w8 ⟨vv, bv, rfl, OV, OB, B8⟩
  rw [a2.1, a2.2]
  obtain ⟨va', vn', vc', rfl⟩ := OV.shape'
  obtain ⟨ba', bn', bc', rfl⟩ := OB.shape'
  have F6 := (B8.block _ (lt_of_block E6)).trans E6
  have n8 : ¬ S2 w8.heap.size := fun hS => by have h1 := t7.tb.sets.sl _ hS; have h2 := B8.size; omega
  have t8 := (t7.below B8).below (box_below (o := objB 2 (.slice va' vn' vc') (.slice ba' bn' bc')))
  have E8 := new1 w8 (objB 2 (.slice va' vn' vc') (.slice ba' bn' bc'))
  have G6 := (Below.heap_alloc w8 (objB 2 (.slice va' vn' vc') (.slice ba' bn' bc')) _ (lt_of_block F6)).trans F6
  clear c1 t7 OV OB B8 E6 F6
  unfold objB at E8 t8 G6
  have c1 := forget_any t8.tb 2
  go_wp2_with fail
  refine c1.mono ?_
  rintro e w9 ⟨rfl, S3, R3, q1, g1, _, f1⟩
  have t9 : Tw w w9 S3 R3 b T3 := t8.next q1 g1 f1
  have H6 := keep_out f1 G6 n6
  have H8 := keep_out f1 E8 n8
  rw [show forgetE T2 2 = 0 from e3]
  clear c1 t8 q1 g1 f1 G6 E8
  have c1 := atT_any t9.tb 1 5
  go_wp2_with fail
  refine c1.mono ?_
  rintro e w10 ⟨vv, bv, rfl, OV, OB, B10⟩
  rw [a3]
  obtain ⟨va2, vn2, vc2, rfl⟩ := OV.shape'
  obtain ⟨ba2, bn2, bc2, rfl⟩ := OB.shape'
  obtain ⟨cl, hcl⟩ : ∃ cl, clsO (atO T3 1 5) = cl := ⟨_, rfl⟩
  rw [hcl]
  clear hcl
  have I6 := (B10.block _ (lt_of_block H6)).trans H6
  have I8 := (B10.block _ (lt_of_block H8)).trans H8
  have t10 := (t9.below B10).below (box_below (o := objB cl (.slice va2 vn2 vc2) (.slice ba2 bn2 bc2)))
  have J6 := (Below.heap_alloc w10 (objB cl (.slice va2 vn2 vc2) (.slice ba2 bn2 bc2)) _ (lt_of_block I6)).trans I6
  have J8 := (Below.heap_alloc w10 (objB cl (.slice va2 vn2 vc2) (.slice ba2 bn2 bc2)) _ (lt_of_block I8)).trans I8
  clear c1 t9 OV OB B10 H6 H8 I6 I8
  unfold objB at t10 J6 J8
  go_upto_region 12 with fail
  generalize w10.alloc (.cells #[.int .i64 cl, .slice va2 vn2 vc2, .slice ba2 bn2 bc2] 49) = wz at *
  obtain ⟨z0, z1, z2, zf⟩ := obj_cells (show wz.heap[w7.heap.size]? = some (objB 1 (.slice va vn vc) (.slice ba bn bc)) from J6)
  obtain ⟨y0, y1, y2, yf⟩ := obj_cells (show wz.heap[w8.heap.size]? = some (objB 2 (.slice va' vn' vc') (.slice ba' bn' bc')) from J8)
  have cc := changed_any t10.tb 5
  rw [a4.1] at cc
  obtain ⟨mv, hblk, _⟩ := t10.tb.blk
  have cl' := last_any hblk
  rw [a4.2] at cl'
  have hbe := t10.be
  clear t10 J6 J8 hblk z1 z2 zf y1 y2 yf
  go_wp2_with (first
    | (go_at_call 24; refine cc.mono ?_; rintro e w' ⟨rfl, rfl⟩)
    | (go_at_call 22; refine cl'.mono ?_; rintro e w' ⟨rfl, rfl⟩))
  go_ret
  exact ⟨rfl, hbe⟩
end Go.Proofs.Ytajdelinfkodbaa
