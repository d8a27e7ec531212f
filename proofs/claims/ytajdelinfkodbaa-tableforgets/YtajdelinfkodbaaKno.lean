/- What must come of fixed calls: known. -/
import Derived.Test.YtajdelinfkodbaaFgt
namespace Go.Proofs.Ytajdelinfkodbaa
open Go.RowKit
set_option maxRecDepth 100000
/-- A row of one change with no slots and no bytes. -/
theorem lit_own {w : World} {nb N : Nat} {oo cc : Int} {g : Bool} (h : w.heap[nb]? = some (chB oo g cc (.slice none 0 0) (.slice none 0 0))) (hN : N ≤ nb) (ho : -9223372036854775808 ≤ oo ∧ oo ≤ 9223372036854775807) (hc : -9223372036854775808 ≤ cc ∧ cc ≤ 9223372036854775807) : OwnC w N 51 (.slice (some ⟨nb, 0, none⟩) 1 1) [⟨oo, g, cc, [], []⟩] := by
  refine ⟨[⟨⟨oo, g, cc, [], []⟩, none, 0, 0, none, 0, 0⟩], ⟨rfl, .inr ⟨nb, 1, _, rfl, hN, h, Nat.le_refl _, by decide, rfl, rfl⟩⟩, rfl, fun s hs => ?_, fun x hx => ?_⟩
  · rw [List.mem_singleton] at hs
    subst hs
    exact ⟨hc, ⟨0, ownV_nil _ _⟩, ⟨0, ownB_nil' _ _⟩⟩
  · rw [List.mem_singleton] at hx
    subst hx
    exact ho
/-- A table of somebody's own, from a block on. -/
structure Tw (w0 w : World) (S R : Nat → Prop) (b : Nat) (t : Tab) : Prop where
  tb : Tb w S R b t
  lo : ∀ g, S g → w0.heap.size ≤ g
  be : Below w0.heap.size w0 w
theorem Tw.next {w0 w w' : World} {S R S' R' : Nat → Prop} {b : Nat} {t t' : Tab} (h : Tw w0 w S R b t) (ht : Tb w' S' R' b t') (gS : Grow S S' w w') (f : Fr S w w') : Tw w0 w' S' R' b t' :=
  ⟨ht, fun g hg => by
    rcases gS.new g hg with q | ⟨q, _⟩
    · exact h.lo g q
    · exact Nat.le_trans h.be.size q, f.below h.be h.be.size h.lo⟩
theorem Tw.below {w0 w w' : World} {S R : Nat → Prop} {b : Nat} {t : Tab} (h : Tw w0 w S R b t) (hb : Below w.heap.size w w') : Tw w0 w' S R b t := ⟨h.tb.below hb, h.lo, below_size h.be h.be.size hb⟩
theorem Tw.new (w : World) : Tw w (w.alloc (tabB 0 0 none)) (fun g => g = w.heap.size) (fun _ => False) w.heap.size tab0 := ⟨Tb.new w, fun g hg => by rw [hg]; exact Nat.le_refl _, box_below⟩
theorem keep_out {w w' : World} {S : Nat → Prop} {q : Nat} {o : Obj} (f : Fr S w w') (h : w.heap[q]? = some o) (hn : ¬ S q) : w'.heap[q]? = some o := (f.block q ((Array.getElem?_eq_some_iff.1 h).1) hn).trans h
def x1 : Ch := ⟨5, false, 1, [], []⟩
def x2 : Ch := ⟨5, false, 2, [], []⟩
def T1 : Tab := applyT tab0 1 [x1]
def T2 : Tab := applyT T1 2 [x2]
def T3 : Tab := forgetT T2 2
theorem e1 : applyE tab0 1 [x1] = 0 := by decide
theorem e2 : applyE T1 2 [x2] = 0 := by decide
theorem e3 : forgetE T2 2 = 0 := by decide
theorem a1 : clsO (atO T2 1 5) = 1 ∧ atE T2 1 5 = 0 := by decide
theorem a2 : clsO (atO T2 2 5) = 2 ∧ atE T2 2 5 = 0 := by decide
theorem a3 : atE T3 1 5 = 13 := by decide
theorem a4 : (T3.m 5).chg = 2 ∧ T3.last = 2 := by decide
theorem Grow.out {S S' : Nat → Prop} {w w' : World} {q : Nat} (g : Grow S S' w w') (hq : q < w.heap.size) (hn : ¬ S q) : ¬ S' q := fun h => by
  rcases g.new q h with z | ⟨z, _⟩
  · exact hn z
  · omega
set_option maxHeartbeats 8000000 in
theorem known_true (w : World) : Calls Try.prog 33 #[] w fun e w' => e = .returned (.bool true) ∧ Below w.heap.size w w' := by
  have t0 := Tw.new w
  go_enter Try.func33, Try.ntmps33
  go_wp2_with fail
  refine (new_tab w).mono ?_
  rintro e w1 ⟨rfl, rfl⟩
  obtain ⟨b, hb⟩ : ∃ q, Hid (q = w.heap.size) := ⟨_, rfl⟩
  have s1 : Hid ((w.alloc (tabB 0 0 none)).heap.size = w.heap.size + 1) := by show (w.alloc (tabB 0 0 none)).heap.size = w.heap.size + 1; simp
  generalize w.alloc (tabB 0 0 none) = w1 at *
  have E2 := old1 (new1 w1 (objB 1 (.slice none 0 0) (.slice none 0 0))) (objB 2 (.slice none 0 0) (.slice none 0 0))
  have E3 := new2 w1 (objB 1 (.slice none 0 0) (.slice none 0 0)) (objB 2 (.slice none 0 0) (.slice none 0 0))
  have B1 : Below w1.heap.size w1 ((w1.alloc (objB 1 (.slice none 0 0) (.slice none 0 0))).alloc (objB 2 (.slice none 0 0) (.slice none 0 0))) := below_size box_below box_below.size box_below
  have t1 := t0.below B1
  unfold objB at E2 E3 B1 t1
  rw [← hb.out]
  rw [← hb.out] at t1
  clear t0 B1
  go_upto_region 6 with fail
  generalize (w1.alloc (.cells #[.int .i64 1, .slice none 0 0, .slice none 0 0] 49)).alloc (.cells #[.int .i64 2, .slice none 0 0, .slice none 0 0] 49) = w2 at *
  have n2' : ¬ ((fun g => g = b) w1.heap.size) := fun e => by have e' : w1.heap.size = b := e; have h1 := s1.out; have h2 := hb.out; omega
  have n3' : ¬ ((fun g => g = b) (w1.heap.size + 1)) := fun e => by have e' : w1.heap.size + 1 = b := e; have h1 := s1.out; have h2 := hb.out; omega
  generalize (fun g => g = b) = S0 at *
  generalize (fun _ : Nat => False) = R0 at *
  clear s1 hb
  generalize w1.heap.size + 1 = b3 at *
  generalize w1.heap.size = b2 at *
  replace E2 : w2.heap[b2]? = some (objB 1 (.slice none 0 0) (.slice none 0 0)) := E2
  replace E3 : w2.heap[b3]? = some (objB 2 (.slice none 0 0) (.slice none 0 0)) := E3
  obtain ⟨z0, z1, z2, zf⟩ := obj_cells E2
  -- the first commit
  have L1 := new1 w2 (chB 5 false 1 (.slice none 0 0) (.slice none 0 0))
  have B1 : Below w2.heap.size w2 (w2.alloc (chB 5 false 1 (.slice none 0 0) (.slice none 0 0))) := box_below
  have t2 := t1.below B1
  have c1 := apply_any t2.tb 1 (lit_own L1 (Nat.le_refl _) (by decide) (by decide))
  have F2 := (B1.block b2 (lt_of_block E2)).trans E2
  have F3 := (B1.block b3 (lt_of_block E3)).trans E3
  unfold chB at c1 L1 B1 t2 F2 F3
  go_wp2_with fail
  refine c1.mono ?_
  rintro e w4 ⟨rfl, S1, R1, q1, g1, _, f1⟩
  have t4 : Tw w w4 S1 R1 b T1 := t2.next q1 g1 f1
  have G3 := keep_out f1 F3 n3'
  have m3 := g1.out (lt_of_block F3) n3'
  rw [show applyE tab0 1 [(⟨5, false, 1, [], []⟩ : Ch)] = 0 from e1]
  clear z0 z1 z2 zf c1 L1 B1 t2 t1 q1 g1 f1 F2 F3 E2 E3 n2' n3'
  replace G3 : w4.heap[b3]? = some (objB 2 (.slice none 0 0) (.slice none 0 0)) := G3
  obtain ⟨z0, z1, z2, zf⟩ := obj_cells G3
  -- the second one
  have L1 := new1 w4 (chB 5 false 2 (.slice none 0 0) (.slice none 0 0))
  have B1 : Below w4.heap.size w4 (w4.alloc (chB 5 false 2 (.slice none 0 0) (.slice none 0 0))) := box_below
  have t5 := t4.below B1
  have c1 := apply_any t5.tb 2 (lit_own L1 (Nat.le_refl _) (by decide) (by decide))
  unfold chB at c1 L1 B1 t5
  go_wp2_with fail
  refine c1.mono ?_
  rintro e w6 ⟨rfl, S2, R2, q1, g1, _, f1⟩
  have t6 : Tw w w6 S2 R2 b T2 := t5.next q1 g1 f1
  rw [show applyE T1 2 [(⟨5, false, 2, [], []⟩ : Ch)] = 0 from e2]
  clear z0 z1 z2 zf c1 L1 B1 t5 t4 q1 g1 f1 G3 m3
  -- what stands behind them
  have c1 := atT_any t6.tb 1 5
  go_wp2_with fail
  refine c1.mono ?_
  rintro e w7 ⟨vv, bv, rfl, OV, OB, B7⟩
  rw [a1.1, a1.2]
  obtain ⟨va, vn, vc, rfl⟩ := OV.shape'
  obtain ⟨ba, bn, bc, rfl⟩ := OB.shape'
  have n6 : ¬ S2 w7.heap.size := fun hS => by have h1 := t6.tb.sets.sl _ hS; have h2 := B7.size; omega
  have t7 := (t6.below B7).below (box_below (o := objB 1 (.slice va vn vc) (.slice ba bn bc)))
  have E6 := new1 w7 (objB 1 (.slice va vn vc) (.slice ba bn bc))
  clear c1 t6 OV OB B7
  unfold objB at E6 t7
  have c1 := atT_any t7.tb 2 5
  go_wp2_with fail
  refine c1.mono ?_
  rintro e w8 ⟨vv, bv, rfl, OV, OB, B8⟩
  rw [a2.1, a2.2]
  obtain ⟨va', vn', vc', rfl⟩ := OV.shape'
  obtain ⟨ba', bn', bc', rfl⟩ := OB.shape'
  have F6 := (B8.block _ (lt_of_block E6)).trans E6
  have n8 : ¬ S2 w8.heap.size := fun hS => by have h1 := t7.tb.sets.sl _ hS; have h2 := B8.size; omega
  have t8 := (t7.below B8).below (box_below (o := objB 2 (.slice va' vn' vc') (.slice ba' bn' bc')))
  have E8 := new1 w8 (objB 2 (.slice va' vn' vc') (.slice ba' bn' bc'))
  have G6 := (Below.heap_alloc w8 (objB 2 (.slice va' vn' vc') (.slice ba' bn' bc')) _ (lt_of_block F6)).trans F6
  clear c1 t7 OV OB B8 E6 F6
  unfold objB at E8 t8 G6
  have c1 := forget_any t8.tb 2
  go_wp2_with fail
  refine c1.mono ?_
  rintro e w9 ⟨rfl, S3, R3, q1, g1, _, f1⟩
  have t9 : Tw w w9 S3 R3 b T3 := t8.next q1 g1 f1
  have H6 := keep_out f1 G6 n6
  have H8 := keep_out f1 E8 n8
  rw [show forgetE T2 2 = 0 from e3]
  clear c1 t8 q1 g1 f1 G6 E8
  have c1 := atT_any t9.tb 1 5
  go_wp2_with fail
  refine c1.mono ?_
  rintro e w10 ⟨vv, bv, rfl, OV, OB, B10⟩
  rw [a3]
  obtain ⟨va2, vn2, vc2, rfl⟩ := OV.shape'
  obtain ⟨ba2, bn2, bc2, rfl⟩ := OB.shape'
  obtain ⟨cl, hcl⟩ : ∃ cl, clsO (atO T3 1 5) = cl := ⟨_, rfl⟩
  rw [hcl]
  clear hcl
  have I6 := (B10.block _ (lt_of_block H6)).trans H6
  have I8 := (B10.block _ (lt_of_block H8)).trans H8
  have t10 := (t9.below B10).below (box_below (o := objB cl (.slice va2 vn2 vc2) (.slice ba2 bn2 bc2)))
  have J6 := (Below.heap_alloc w10 (objB cl (.slice va2 vn2 vc2) (.slice ba2 bn2 bc2)) _ (lt_of_block I6)).trans I6
  have J8 := (Below.heap_alloc w10 (objB cl (.slice va2 vn2 vc2) (.slice ba2 bn2 bc2)) _ (lt_of_block I8)).trans I8
  clear c1 t9 OV OB B10 H6 H8 I6 I8
  unfold objB at t10 J6 J8
  go_upto_region 12 with fail
  generalize w10.alloc (.cells #[.int .i64 cl, .slice va2 vn2 vc2, .slice ba2 bn2 bc2] 49) = wz at *
  obtain ⟨z0, z1, z2, zf⟩ := obj_cells (show wz.heap[w7.heap.size]? = some (objB 1 (.slice va vn vc) (.slice ba bn bc)) from J6)
  obtain ⟨y0, y1, y2, yf⟩ := obj_cells (show wz.heap[w8.heap.size]? = some (objB 2 (.slice va' vn' vc') (.slice ba' bn' bc')) from J8)
  have cc := changed_any t10.tb 5
  rw [a4.1] at cc
  obtain ⟨mv, hblk, _⟩ := t10.tb.blk
  have cl' := last_any hblk
  rw [a4.2] at cl'
  have hbe := t10.be
  clear t10 J6 J8 hblk z1 z2 zf y1 y2 yf
  go_wp2_with (first
    | (go_at_call 24; refine cc.mono ?_; rintro e w' ⟨rfl, rfl⟩)
    | (go_at_call 22; refine cl'.mono ?_; rintro e w' ⟨rfl, rfl⟩))
  go_ret
  exact ⟨rfl, hbe⟩
end Go.Proofs.Ytajdelinfkodbaa
