/- divide, Div and Mod, given what quotientRest makes of the two numbers. -/
import Derived.Test.YtgammgdckneoiacDoorQuo
import Derived.Test.YtgammgdckneoiacDoorEqW
import Derived.Deep.RegionWith
namespace Go.Proofs.YtgammgdckneoiacDoor
open Go.RowKit

/-- What quotientRest is asked for. -/
def QuoOk (X Y : Nat) : Prop := ∀ w, Calls Tryd.prog 37 #[W 32 X, W 32 Y] w fun e w' => e = .returned (.tuple #[W 32 (X / Y), W 32 (X % Y)]) ∧ Below w.heap.size w w'
/-- How often, away from nought, and what is left. -/
def quoN (neg : Bool) (X Y : Nat) : Nat := if neg = true ∧ X % Y ≠ 0 then X / Y + 1 else X / Y
def remN (neg : Bool) (X Y : Nat) : Nat := if neg = true ∧ X % Y ≠ 0 then Y - X % Y else X % Y

theorem wpList_want {P : Program} {ops : Array Oper} {rest : List Oper} {o : Oper} {a : Act} {w : World} {Q : Exit → Act → World → Prop} (hw : Region.wanted o (yielded ops a.tmps) = true) (h : o.wp P a w (wpList P ops Q rest) Q) : wpList P ops Q (o :: rest) a w := by
  unfold wpList
  rw [if_pos hw]
  exact .inl h
theorem run_neq_bool (a : Act) (w : World) {o : Oper} {x y : Operand} {p q : Bool} (hx : a.eval x = .bool p) (hy : a.eval y = .bool q) (ho : o.op = .binOp .neq 4 x y 4) : (execOp a.eval o).run Tryd.prog w = .ok (.value (.bool (p != q))) w := by
  simp only [execOp, ho, hx, hy]
  simp [go_sem]
  cases p <;> cases q <;> rfl
theorem run_all (a : Addr) (w : World) : (Instr.sliceAt 56 (.pointer (some a)) none none none).run Tryd.prog w = .ok (.slice (some a) 32 32) w := by
  have hl : Tryd.prog.arrayLen 56 = 32 := by kernel_rfl
  have he : Tryd.prog.elem 56 = 48 := by kernel_rfl
  have ht : Tryd.prog.underlying 56 = some (.array (Tryd.prog.arrayLen 56) (Tryd.prog.elem 56)) := by rw [hl, he]; exact Tryd.underlying56
  have hs : (Tryd.prog.info? 48).map (·.size) = some 1 := by kernel_rfl
  have hz : (sizeOf 48).run Tryd.prog w = .ok 1 w := by
    cases hq : Tryd.prog.info? 48 with
    | none => simp [hq] at hs
    | some i => simp [hq] at hs; simp [sizeOf, typeInfo, hq, hs]
  rw [run_sliceAt_array_all w 56 a ht, he, hz, hl]
  simp [slicedAt, Result.andThen, Addr.add]
theorem size25 {u v : Value} : (Tryd.prog.info? 27).map (·.size) = some (#[u, v] : Array Value).size := by
  have : (Tryd.prog.info? 27).map (·.size) = some 2 := by kernel_rfl
  exact this
theorem ownB_setRow {w : World} {base b : Nat} {v : Value} {xs : List Int} {C : Array Value} (h : OwnB w base v xs) (hb : b < base) : OwnB (w.setRow b C) base v xs := by
  have hbyte : ∀ x ∈ xs, 0 ≤ x ∧ x < 256 := by obtain ⟨_, _, _, _, hB⟩ := h; exact hB.byte
  obtain ⟨h1, h2⟩ := h.1
  refine ownB_of (n := xs.length) ⟨h1, ?_⟩ hbyte
  rcases h2 with h2 | ⟨g, cap, cur, hv, hg, hh, h3⟩
  · exact .inl h2
  · exact .inr ⟨g, cap, cur, hv, hg, (setRow_other w b g C (by omega)).trans hh, h3⟩
theorem OwnB.drew1 {w : World} {base : Nat} {v : Value} {xs : List Int} (h : OwnB w base v xs) : OwnB { w with drawn := w.drawn + 1 } base v xs := h.below (Below.refl _ _).drew
theorem eval_of {a : Act} {k : Nat} {v : Value} (h : a.tmps[k]?.getD undef = v) : a.eval (.tmp k) = v := by simpa [Act.eval] using h
theorem wp_value {P : Program} {o : Oper} {a : Act} {w w' : World} {K : Act → World → Prop} {Q : Exit → Act → World → Prop} {v : Value} (h : (execOp a.eval o).run P w = .ok (.value v) w') (hk : K (a.put o.dst v) w') : o.wp P a w K Q := by
  unfold Oper.wp; rw [h]; exact hk
theorem wp_enter {P : Program} {o : Oper} {a : Act} {w : World} {K : Act → World → Prop} {Q : Exit → Act → World → Prop} {f : FuncId} {args : Array Value} (h : (execOp a.eval o).run P w = .ok (.enter f args) w)
    (hc : Calls P f args w fun e w' => ∃ v, e = .returned v ∧ K (a.put o.dst v) w') : o.wp P a w K Q := by
  unfold Oper.wp; rw [h]
  refine hc.mono ?_
  rintro e w' ⟨v, rfl, hk⟩
  exact hk
theorem run_alloc67 (a : Act) (w : World) {o : Oper} (ho : o.op = .alloc 56) : (execOp a.eval o).run Tryd.prog w = .ok (.value (.pointer (some ⟨w.heap.size, 0, none⟩))) (w.alloc (.cells (cellsW (words 32 0)) 56)) := by
  have hz := (zero_of_info (v := .agg (cellsW (words 32 0))) (n := 32) (t := 56) (P := Tryd.prog) (by rw [← zero32]; kernel_rfl)).1
  simp [execOp, ho, go_sem, hz]

set_option maxRecDepth 100000 in
set_option maxHeartbeats 4000000 in
theorem divide_far {a1 a2 : Option Addr} {l1 l2 c1 c2 : Nat} {xs ys : List Int} {w : World} (n1 n2 : Bool) (h1 : IsB w a1 l1 c1 xs) (h2 : IsB w a2 l2 c2 ys) (r1 : rightB n1 xs = true) (r2 : rightB n2 ys = true) (h0 : 0 < l2) (hq : QuoOk (val8 xs) (val8 ys)) (hn12 : (n1 != n2) = true) (hfar : val8 xs % val8 ys ≠ 0) :
    Calls Tryd.prog 27 #[.agg #[.bool n1, .slice a1 l1 c1], .agg #[.bool n2, .slice a2 l2 c2]] w fun e w' => ∃ v1 v2, e = .returned (.tuple #[.agg #[.bool ((n1 != n2) && decide (quoN (n1 != n2) (val8 xs) (val8 ys) ≠ 0)), v1], .agg #[.bool (n2 && decide (remN (n1 != n2) (val8 xs) (val8 ys) ≠ 0)), v2], .int .i64 0]) ∧
      OwnB w' w.heap.size v1 (mag (quoN (n1 != n2) (val8 xs) (val8 ys))) ∧ OwnB w' w.heap.size v2 (mag (remN (n1 != n2) (val8 xs) (val8 ys))) ∧ Below w.heap.size w w' := by
  have m1 := (lead_right r1).2
  have m2 := (lead_right r2).2
  rw [h1.size] at m1
  rw [h2.size] at m2
  have h0' : ((l2 : Int) == 0) = false := by simp; omega
  have hm2 := h2.room
  have hmm2 := h2.most
  unfold maxLen at hmm2
  go_enter Tryd.func27, Tryd.ntmps27
  go_wp2_with fail
  obtain ⟨v0, v1, v2, v3, hb⟩ := alloc4 w (.cells #[.bool n1, .slice a1 l1 c1] 27) (.cells #[.bool n2, .slice a2 l2 c2] 27) (.cells #[.bool false, .slice none 0 0] 27) (.cells #[.bool false, .slice none 0 0] 27)
  have hs4 : ((((w.alloc (.cells #[.bool n1, .slice a1 l1 c1] 27)).alloc (.cells #[.bool n2, .slice a2 l2 c2] 27)).alloc (.cells #[.bool false, .slice none 0 0] 27)).alloc (.cells #[.bool false, .slice none 0 0] 27)).heap.size = w.heap.size + 4 := by simp
  generalize ((((w.alloc (.cells #[.bool n1, .slice a1 l1 c1] 27)).alloc (.cells #[.bool n2, .slice a2 l2 c2] 27)).alloc (.cells #[.bool false, .slice none 0 0] 27)).alloc (.cells #[.bool false, .slice none 0 0] 27)) = w1 at *
  have k1 := h1.below hb
  have k2 := h2.below hb
  refine (right_any n1 k1).mono ?_
  rintro e w2 ⟨rfl, hb2⟩
  have u0 := (hb2.block _ (lt_of_block v0)).trans v0
  have u1 := (hb2.block _ (lt_of_block v1)).trans v1
  have u2 := (hb2.block _ (lt_of_block v2)).trans v2
  have u3 := (hb2.block _ (lt_of_block v3)).trans v3
  have hB2 := below_size hb (Nat.le_refl _) hb2
  have j1 := k1.below hb2
  have j2 := k2.below hb2
  have hsz2 := hb2.size
  rw [hs4] at hsz2
  clear v0 v1 v2 v3 hb hb2 k1 k2 hs4
  obtain ⟨x0, x1, _, _⟩ := intVar u0
  obtain ⟨y0, y1, _, _⟩ := intVar u1
  rw [r1]
  go_wp2_with fail
  refine (right_any n2 j2).mono ?_
  rintro e w3 ⟨rfl, hb3⟩
  rw [r2]
  have t0 := (hb3.block _ (lt_of_block u0)).trans u0
  have t1 := (hb3.block _ (lt_of_block u1)).trans u1
  have t2 := (hb3.block _ (lt_of_block u2)).trans u2
  have t3 := (hb3.block _ (lt_of_block u3)).trans u3
  have hB3 := below_size hB2 (Nat.le_refl _) hb3
  have i1 := j1.below hb3
  have i2 := j2.below hb3
  have hsz3 := hb3.size
  clear u0 u1 u2 u3 hB2 hb3 j1 j2 x0 x1 y0 y1
  obtain ⟨x0, x1, _, _⟩ := intVar t0
  obtain ⟨y0, y1, _, _⟩ := intVar t1
  go_wp2_with fail
  refine (load_any i2 m2).mono ?_
  rintro e w4 ⟨rfl, hb4⟩
  have s0 := (hb4.block _ (lt_of_block t0)).trans t0
  have s1 := (hb4.block _ (lt_of_block t1)).trans t1
  have s2 := (hb4.block _ (lt_of_block t2)).trans t2
  have s3 := (hb4.block _ (lt_of_block t3)).trans t3
  have hB4 := below_size hB3 (Nat.le_refl _) hb4
  have g1 := i1.below hb4
  have hsz4 := hb4.size
  clear t0 t1 t2 t3 hB3 hb4 i1 i2 x0 x1 y0 y1
  have hz := (zero_of_info (v := .agg (cellsW (words 32 0))) (n := 32) (t := 56) (P := Tryd.prog) (by rw [← zero32]; kernel_rfl)).1
  have a7 : Arr (w4.alloc (.cells (cellsW (words 32 0)) 56)) w4.heap.size 56 (words 32 0) := heap_alloc_new w4 _

  have a7' := a7.setW (words 32 (val8 ys))
  have hB5 := below_setRow (hB4.alloc hB4.size (.cells (cellsW (words 32 0)) 56)) hB4.size (cellsW (words 32 (val8 ys)))
  have f0 := (setRow_other (w4.alloc (.cells (cellsW (words 32 0)) 56)) w4.heap.size w.heap.size (cellsW (words 32 (val8 ys))) (Nat.ne_of_lt (lt_of_block s0))).trans ((Below.heap_alloc _ _ _ (lt_of_block s0)).trans s0)
  have f1 := (setRow_other (w4.alloc (.cells (cellsW (words 32 0)) 56)) w4.heap.size (w.heap.size + 1) (cellsW (words 32 (val8 ys))) (Nat.ne_of_lt (lt_of_block s1))).trans ((Below.heap_alloc _ _ _ (lt_of_block s1)).trans s1)
  have f2 := (setRow_other (w4.alloc (.cells (cellsW (words 32 0)) 56)) w4.heap.size (w.heap.size + 2) (cellsW (words 32 (val8 ys))) (Nat.ne_of_lt (lt_of_block s2))).trans ((Below.heap_alloc _ _ _ (lt_of_block s2)).trans s2)
  have f3 := (setRow_other (w4.alloc (.cells (cellsW (words 32 0)) 56)) w4.heap.size (w.heap.size + 3) (cellsW (words 32 (val8 ys))) (Nat.ne_of_lt (lt_of_block s3))).trans ((Below.heap_alloc _ _ _ (lt_of_block s3)).trans s3)
  have hb45 : Below w4.heap.size w4 ((w4.alloc (.cells (cellsW (words 32 0)) 56)).setRow w4.heap.size (cellsW (words 32 (val8 ys)))) := below_setRow ((Below.refl _ _).alloc (Nat.le_refl _) _) (Nat.le_refl _) _
  have g5 := g1.below hb45
  have hsz5 := hb45.size
  unfold W
  go_wp2_with (refine wpList_store_row rfl 56 _ _ rfl w4.heap.size _ rfl rfl 56 _ a7 (size67 _) (by rw [cellsW_size, cellsW_size, words_len, words_len]) (cellsW_one _) ?_)
  have hb7 : w.heap.size + 4 ≤ w4.heap.size := by omega
  clear s0 s1 s2 s3 hB4 g1 a7 hz hb45
  generalize hw5 : (w4.alloc (.cells (cellsW (words 32 0)) 56)).setRow w4.heap.size (cellsW (words 32 (val8 ys))) = w5 at *
  clear hw5
  generalize w4.heap.size = b7 at *
  obtain ⟨q, Hq⟩ : ∃ q, Hid (val8 xs / val8 ys = q) := ⟨_, rfl⟩
  obtain ⟨r, Hr⟩ : ∃ r, Hid (val8 xs % val8 ys = r) := ⟨_, rfl⟩
  refine wp_region_inv' (fun A D a w' => ∃ v8 v9 v29 v30 v31 v32 v33 v34 v35 v36 b8 b9 z8 z9, a = ((((((((((A.put (some 8) v8).put (some 9) v9).put (some 29) v29).put (some 30) v30).put (some 31) v31).put (some 32) v32).put (some 33) v33).put (some 34) v34).put (some 35) v35).put (some 36) v36) ∧ Below w5.heap.size w5 w' ∧
    (D 0 → v30 = .pointer (some ⟨w.heap.size, 1, none⟩)) ∧ (D 1 → v31 = .slice a1 l1 c1) ∧ (D 2 → v32 = W 32 (val8 xs)) ∧ (D 3 → v33 = W 32 (val8 ys)) ∧
    (D 4 → v34 = .tuple #[W 32 q, W 32 r]) ∧ (D 5 → v29 = .tuple #[W 32 q, W 32 r]) ∧ (D 6 → v35 = W 32 q) ∧ (D 7 → v36 = W 32 r) ∧
    (D 8 → v8 = .pointer (some ⟨b8, 0, none⟩) ∧ w5.heap.size ≤ b8 ∧ Arr w' b8 56 z8 ∧ z8.length = 32) ∧ (D 9 → v9 = .pointer (some ⟨b9, 0, none⟩) ∧ w5.heap.size ≤ b9 ∧ Arr w' b9 56 z9 ∧ z9.length = 32) ∧
    (D 8 → D 9 → b8 ≠ b9) ∧ (D 10 → z8 = words 32 q) ∧ (D 11 → z9 = words 32 r)) (by kernel_rfl) (by kernel_rfl) ?mono ?start ?step ?done
  case mono =>
    rintro D D' a w' hD ⟨v8, v9, v29, v30, v31, v32, v33, v34, v35, v36, b8, b9, z8, z9, ha, hB, e0, e1, e2, e3, e4, e5, e6, e7, p8, p9, hne, q8, q9⟩
    exact ⟨v8, v9, v29, v30, v31, v32, v33, v34, v35, v36, b8, b9, z8, z9, ha, hB, fun h => e0 ((hD 0).2 h), fun h => e1 ((hD 1).2 h), fun h => e2 ((hD 2).2 h), fun h => e3 ((hD 3).2 h), fun h => e4 ((hD 4).2 h), fun h => e5 ((hD 5).2 h), fun h => e6 ((hD 6).2 h), fun h => e7 ((hD 7).2 h), fun h => p8 ((hD 8).2 h), fun h => p9 ((hD 9).2 h), fun h h' => hne ((hD 8).2 h) ((hD 9).2 h'), fun h => q8 ((hD 10).2 h), fun h => q9 ((hD 11).2 h)⟩
  case start => exact ⟨undef, undef, undef, undef, undef, undef, undef, undef, undef, undef, 0, 0, [], [], by kernel_rfl, (Below.refl _ _).drew, fun h => h.elim, fun h => h.elim, fun h => h.elim, fun h => h.elim, fun h => h.elim, fun h => h.elim, fun h => h.elim, fun h => h.elim, fun h => h.elim, fun h => h.elim, fun h => h.elim, fun h => h.elim, fun h => h.elim⟩
  case step =>
    intro i o ho D a w' hI hn hcl hd
    obtain ⟨v8, v9, v29, v30, v31, v32, v33, v34, v35, v36, b8, b9, z8, z9, ha, hB, e0, e1, e2, e3, e4, e5, e6, e7, p8, p9, hne, q8, q9⟩ := hI
    match i, ho with
    | 0, ho =>
      cases Option.some.inj ho
      have ev : a.tmps[2]?.getD undef = .pointer (some ⟨w.heap.size, 0, none⟩) := by rw [ha]; kernel_rfl
      refine wp_value (w' := w') (v := .pointer (some ⟨w.heap.size, 1, none⟩)) (by simp [execOp, ev, go_sem]) ?_
      exact ⟨v8, v9, v29, (.pointer (some ⟨w.heap.size, 1, none⟩)), v31, v32, v33, v34, v35, v36, b8, b9, z8, z9, by rw [ha]; kernel_rfl, hB, fun _ => rfl, fun h => e1 (h.resolve_left (by decide)), fun h => e2 (h.resolve_left (by decide)), fun h => e3 (h.resolve_left (by decide)), fun h => e4 (h.resolve_left (by decide)), fun h => e5 (h.resolve_left (by decide)), fun h => e6 (h.resolve_left (by decide)), fun h => e7 (h.resolve_left (by decide)), fun h => p8 (h.resolve_left (by decide)), fun h => p9 (h.resolve_left (by decide)), fun h h' => hne (h.resolve_left (by decide)) (h'.resolve_left (by decide)), fun h => q8 (h.resolve_left (by decide)), fun h => q9 (h.resolve_left (by decide))⟩
    | 1, ho =>
      cases Option.some.inj ho
      have ev : a.tmps[30]?.getD undef = .pointer (some ⟨w.heap.size, 1, none⟩) := by rw [ha, e0 (hd ⟨0, .data⟩ (by simp) rfl)]; kernel_rfl
      have hc := (intVar ((hB.block _ (lt_of_block f0)).trans f0)).2.1
      rw [Nat.zero_add] at hc
      refine wp_value (w' := w') (v := .slice a1 l1 c1) (by simp [execOp, ev, go_sem, hc]) ?_
      exact ⟨v8, v9, v29, v30, (.slice a1 l1 c1), v32, v33, v34, v35, v36, b8, b9, z8, z9, by rw [ha]; kernel_rfl, hB, fun h => e0 (h.resolve_left (by decide)), fun _ => rfl, fun h => e2 (h.resolve_left (by decide)), fun h => e3 (h.resolve_left (by decide)), fun h => e4 (h.resolve_left (by decide)), fun h => e5 (h.resolve_left (by decide)), fun h => e6 (h.resolve_left (by decide)), fun h => e7 (h.resolve_left (by decide)), fun h => p8 (h.resolve_left (by decide)), fun h => p9 (h.resolve_left (by decide)), fun h h' => hne (h.resolve_left (by decide)) (h'.resolve_left (by decide)), fun h => q8 (h.resolve_left (by decide)), fun h => q9 (h.resolve_left (by decide))⟩
    | 2, ho =>
      cases Option.some.inj ho
      have ev : a.tmps[31]?.getD undef = .slice a1 l1 c1 := by rw [ha, e1 (hd ⟨1, .data⟩ (by simp) rfl)]; kernel_rfl
      refine wp_enter (f := 32) (args := #[.slice a1 l1 c1]) (by simp [execOp, ev, go_sem]) ?_
      refine (load_any (g5.below hB) m1).mono ?_
      rintro e w6 ⟨rfl, HB⟩
      refine ⟨_, rfl, ?_⟩
      exact ⟨v8, v9, v29, v30, v31, (W 32 (val8 xs)), v33, v34, v35, v36, b8, b9, z8, z9, by rw [ha]; kernel_rfl, below_size hB (Nat.le_refl _) HB, fun h => e0 (h.resolve_left (by decide)), fun h => e1 (h.resolve_left (by decide)), fun _ => rfl, fun h => e3 (h.resolve_left (by decide)), fun h => e4 (h.resolve_left (by decide)), fun h => e5 (h.resolve_left (by decide)), fun h => e6 (h.resolve_left (by decide)), fun h => e7 (h.resolve_left (by decide)), fun h => ⟨(p8 (h.resolve_left (by decide))).1, (p8 (h.resolve_left (by decide))).2.1, (p8 (h.resolve_left (by decide))).2.2.1.below HB (p8 (h.resolve_left (by decide))).2.2.1.lt, (p8 (h.resolve_left (by decide))).2.2.2⟩, fun h => ⟨(p9 (h.resolve_left (by decide))).1, (p9 (h.resolve_left (by decide))).2.1, (p9 (h.resolve_left (by decide))).2.2.1.below HB (p9 (h.resolve_left (by decide))).2.2.1.lt, (p9 (h.resolve_left (by decide))).2.2.2⟩, fun h h' => hne (h.resolve_left (by decide)) (h'.resolve_left (by decide)), fun h => q8 (h.resolve_left (by decide)), fun h => q9 (h.resolve_left (by decide))⟩
    | 3, ho =>
      cases Option.some.inj ho
      have ev : a.tmps[7]?.getD undef = .pointer (some ⟨b7, 0, none⟩) := by rw [ha]; kernel_rfl
      refine wp_load_row 56 (.tmp 7) rfl b7 (eval_of ev) 56 _ _ _ ((hB.block _ a7'.lt).trans a7') Tryd.underlying56 rfl (size67 _) ?_
      exact ⟨v8, v9, v29, v30, v31, v32, (W 32 (val8 ys)), v34, v35, v36, b8, b9, z8, z9, by rw [ha]; kernel_rfl, hB, fun h => e0 (h.resolve_left (by decide)), fun h => e1 (h.resolve_left (by decide)), fun h => e2 (h.resolve_left (by decide)), fun _ => rfl, fun h => e4 (h.resolve_left (by decide)), fun h => e5 (h.resolve_left (by decide)), fun h => e6 (h.resolve_left (by decide)), fun h => e7 (h.resolve_left (by decide)), fun h => p8 (h.resolve_left (by decide)), fun h => p9 (h.resolve_left (by decide)), fun h h' => hne (h.resolve_left (by decide)) (h'.resolve_left (by decide)), fun h => q8 (h.resolve_left (by decide)), fun h => q9 (h.resolve_left (by decide))⟩
    | 4, ho =>
      cases Option.some.inj ho
      have ev : a.tmps[32]?.getD undef = W 32 (val8 xs) := by rw [ha, e2 (hd ⟨2, .data⟩ (by simp) rfl)]; kernel_rfl
      have ev' : a.tmps[33]?.getD undef = W 32 (val8 ys) := by rw [ha, e3 (hd ⟨3, .data⟩ (by simp) rfl)]; kernel_rfl
      refine wp_enter (f := 37) (args := #[W 32 (val8 xs), W 32 (val8 ys)]) (by simp [execOp, ev, ev', go_sem]) ?_
      refine (hq w').mono ?_
      rintro e w6 ⟨rfl, HB⟩
      rw [Hq.out, Hr.out]
      refine ⟨_, rfl, ?_⟩
      exact ⟨v8, v9, v29, v30, v31, v32, v33, (.tuple #[W 32 q, W 32 r]), v35, v36, b8, b9, z8, z9, by rw [ha]; kernel_rfl, below_size hB (Nat.le_refl _) HB, fun h => e0 (h.resolve_left (by decide)), fun h => e1 (h.resolve_left (by decide)), fun h => e2 (h.resolve_left (by decide)), fun h => e3 (h.resolve_left (by decide)), fun _ => rfl, fun h => e5 (h.resolve_left (by decide)), fun h => e6 (h.resolve_left (by decide)), fun h => e7 (h.resolve_left (by decide)), fun h => ⟨(p8 (h.resolve_left (by decide))).1, (p8 (h.resolve_left (by decide))).2.1, (p8 (h.resolve_left (by decide))).2.2.1.below HB (p8 (h.resolve_left (by decide))).2.2.1.lt, (p8 (h.resolve_left (by decide))).2.2.2⟩, fun h => ⟨(p9 (h.resolve_left (by decide))).1, (p9 (h.resolve_left (by decide))).2.1, (p9 (h.resolve_left (by decide))).2.2.1.below HB (p9 (h.resolve_left (by decide))).2.2.1.lt, (p9 (h.resolve_left (by decide))).2.2.2⟩, fun h h' => hne (h.resolve_left (by decide)) (h'.resolve_left (by decide)), fun h => q8 (h.resolve_left (by decide)), fun h => q9 (h.resolve_left (by decide))⟩
    | 5, ho =>
      cases Option.some.inj ho
      have ev : a.tmps[34]?.getD undef = .tuple #[W 32 q, W 32 r] := by rw [ha, e4 (hd ⟨4, .data⟩ (by simp) rfl)]; kernel_rfl
      refine wp_value (w' := w') (v := .tuple #[W 32 q, W 32 r]) (by simp [execOp, ev, go_sem]) ?_
      exact ⟨v8, v9, (.tuple #[W 32 q, W 32 r]), v30, v31, v32, v33, v34, v35, v36, b8, b9, z8, z9, by rw [ha]; kernel_rfl, hB, fun h => e0 (h.resolve_left (by decide)), fun h => e1 (h.resolve_left (by decide)), fun h => e2 (h.resolve_left (by decide)), fun h => e3 (h.resolve_left (by decide)), fun h => e4 (h.resolve_left (by decide)), fun _ => rfl, fun h => e6 (h.resolve_left (by decide)), fun h => e7 (h.resolve_left (by decide)), fun h => p8 (h.resolve_left (by decide)), fun h => p9 (h.resolve_left (by decide)), fun h h' => hne (h.resolve_left (by decide)) (h'.resolve_left (by decide)), fun h => q8 (h.resolve_left (by decide)), fun h => q9 (h.resolve_left (by decide))⟩
    | 6, ho =>
      cases Option.some.inj ho
      have ev : a.tmps[29]?.getD undef = .tuple #[W 32 q, W 32 r] := by rw [ha, e5 (hd ⟨5, .data⟩ (by simp) rfl)]; kernel_rfl
      refine wp_value (w' := w') (v := W 32 q) (by simp [execOp, ev, go_sem]) ?_
      exact ⟨v8, v9, v29, v30, v31, v32, v33, v34, (W 32 q), v36, b8, b9, z8, z9, by rw [ha]; kernel_rfl, hB, fun h => e0 (h.resolve_left (by decide)), fun h => e1 (h.resolve_left (by decide)), fun h => e2 (h.resolve_left (by decide)), fun h => e3 (h.resolve_left (by decide)), fun h => e4 (h.resolve_left (by decide)), fun h => e5 (h.resolve_left (by decide)), fun _ => rfl, fun h => e7 (h.resolve_left (by decide)), fun h => p8 (h.resolve_left (by decide)), fun h => p9 (h.resolve_left (by decide)), fun h h' => hne (h.resolve_left (by decide)) (h'.resolve_left (by decide)), fun h => q8 (h.resolve_left (by decide)), fun h => q9 (h.resolve_left (by decide))⟩
    | 7, ho =>
      cases Option.some.inj ho
      have ev : a.tmps[29]?.getD undef = .tuple #[W 32 q, W 32 r] := by rw [ha, e5 (hd ⟨5, .data⟩ (by simp) rfl)]; kernel_rfl
      refine wp_value (w' := w') (v := W 32 r) (by simp [execOp, ev, go_sem]) ?_
      exact ⟨v8, v9, v29, v30, v31, v32, v33, v34, v35, (W 32 r), b8, b9, z8, z9, by rw [ha]; kernel_rfl, hB, fun h => e0 (h.resolve_left (by decide)), fun h => e1 (h.resolve_left (by decide)), fun h => e2 (h.resolve_left (by decide)), fun h => e3 (h.resolve_left (by decide)), fun h => e4 (h.resolve_left (by decide)), fun h => e5 (h.resolve_left (by decide)), fun h => e6 (h.resolve_left (by decide)), fun _ => rfl, fun h => p8 (h.resolve_left (by decide)), fun h => p9 (h.resolve_left (by decide)), fun h h' => hne (h.resolve_left (by decide)) (h'.resolve_left (by decide)), fun h => q8 (h.resolve_left (by decide)), fun h => q9 (h.resolve_left (by decide))⟩
    | 8, ho =>
      cases Option.some.inj ho
      have n10 : ¬ D 10 := fun h => hn (hcl 10 _ rfl h ⟨8, .data⟩ (by simp) rfl)
      refine wp_value (w' := w'.alloc (.cells (cellsW (words 32 0)) 56)) (v := .pointer (some ⟨w'.heap.size, 0, none⟩)) (run_alloc67 a w' rfl) ?_
      exact ⟨(.pointer (some ⟨w'.heap.size, 0, none⟩)), v9, v29, v30, v31, v32, v33, v34, v35, v36, w'.heap.size, b9, (words 32 0), z9, by rw [ha]; kernel_rfl, hB.alloc hB.size _, fun h => e0 (h.resolve_left (by decide)), fun h => e1 (h.resolve_left (by decide)), fun h => e2 (h.resolve_left (by decide)), fun h => e3 (h.resolve_left (by decide)), fun h => e4 (h.resolve_left (by decide)), fun h => e5 (h.resolve_left (by decide)), fun h => e6 (h.resolve_left (by decide)), fun h => e7 (h.resolve_left (by decide)), fun _ => ⟨rfl, hB.size, heap_alloc_new w' _, words_len _ _⟩, fun h => ⟨(p9 (h.resolve_left (by decide))).1, (p9 (h.resolve_left (by decide))).2.1, (p9 (h.resolve_left (by decide))).2.2.1.alloc _, (p9 (h.resolve_left (by decide))).2.2.2⟩, fun _ h' => Nat.ne_of_gt (p9 (h'.resolve_left (by decide))).2.2.1.lt, fun h => absurd (h.resolve_left (by decide)) n10, fun h => q9 (h.resolve_left (by decide))⟩
    | 9, ho =>
      cases Option.some.inj ho
      have n11 : ¬ D 11 := fun h => hn (hcl 11 _ rfl h ⟨9, .data⟩ (by simp) rfl)
      refine wp_value (w' := w'.alloc (.cells (cellsW (words 32 0)) 56)) (v := .pointer (some ⟨w'.heap.size, 0, none⟩)) (run_alloc67 a w' rfl) ?_
      exact ⟨v8, (.pointer (some ⟨w'.heap.size, 0, none⟩)), v29, v30, v31, v32, v33, v34, v35, v36, b8, w'.heap.size, z8, (words 32 0), by rw [ha]; kernel_rfl, hB.alloc hB.size _, fun h => e0 (h.resolve_left (by decide)), fun h => e1 (h.resolve_left (by decide)), fun h => e2 (h.resolve_left (by decide)), fun h => e3 (h.resolve_left (by decide)), fun h => e4 (h.resolve_left (by decide)), fun h => e5 (h.resolve_left (by decide)), fun h => e6 (h.resolve_left (by decide)), fun h => e7 (h.resolve_left (by decide)), fun h => ⟨(p8 (h.resolve_left (by decide))).1, (p8 (h.resolve_left (by decide))).2.1, (p8 (h.resolve_left (by decide))).2.2.1.alloc _, (p8 (h.resolve_left (by decide))).2.2.2⟩, fun _ => ⟨rfl, hB.size, heap_alloc_new w' _, words_len _ _⟩, fun h _ => Nat.ne_of_lt (p8 (h.resolve_left (by decide))).2.2.1.lt, fun h => q8 (h.resolve_left (by decide)), fun h => absurd (h.resolve_left (by decide)) n11⟩
    | 10, ho =>
      cases Option.some.inj ho
      obtain ⟨rfl, hb8, A8, L8⟩ := p8 (hd ⟨8, .data⟩ (by simp) rfl)
      obtain rfl := e6 (hd ⟨6, .data⟩ (by simp) rfl)
      have hne' := hne (hd ⟨8, .data⟩ (by simp) rfl)
      refine wp_store_row 56 (.tmp 8) (.tmp 35) rfl b8 (cellsW (words 32 q)) (by rw [ha]; kernel_rfl) (by rw [ha]; kernel_rfl) 56 _ A8 (size67 _) (by rw [cellsW_size, cellsW_size, words_len, L8]) (cellsW_one _) ?_
      exact ⟨(.pointer (some ⟨b8, 0, none⟩)), v9, v29, v30, v31, v32, v33, v34, (W 32 q), v36, b8, b9, (words 32 q), z9, by rw [ha]; kernel_rfl, below_setRow hB hb8 _, fun h => e0 (h.resolve_left (by decide)), fun h => e1 (h.resolve_left (by decide)), fun h => e2 (h.resolve_left (by decide)), fun h => e3 (h.resolve_left (by decide)), fun h => e4 (h.resolve_left (by decide)), fun h => e5 (h.resolve_left (by decide)), fun _ => rfl, fun h => e7 (h.resolve_left (by decide)), fun _ => ⟨rfl, hb8, A8.setW _, words_len _ _⟩, fun h => ⟨(p9 (h.resolve_left (by decide))).1, (p9 (h.resolve_left (by decide))).2.1, (p9 (h.resolve_left (by decide))).2.2.1.otherW _ (Ne.symm (hne' (h.resolve_left (by decide)))), (p9 (h.resolve_left (by decide))).2.2.2⟩, fun h h' => hne (h.resolve_left (by decide)) (h'.resolve_left (by decide)), fun _ => rfl, fun h => q9 (h.resolve_left (by decide))⟩
    | 11, ho =>
      cases Option.some.inj ho
      obtain ⟨rfl, hb9, A9, L9⟩ := p9 (hd ⟨9, .data⟩ (by simp) rfl)
      obtain rfl := e7 (hd ⟨7, .data⟩ (by simp) rfl)
      have hne' := fun h => hne h (hd ⟨9, .data⟩ (by simp) rfl)
      refine wp_store_row 56 (.tmp 9) (.tmp 36) rfl b9 (cellsW (words 32 r)) (by rw [ha]; kernel_rfl) (by rw [ha]; kernel_rfl) 56 _ A9 (size67 _) (by rw [cellsW_size, cellsW_size, words_len, L9]) (cellsW_one _) ?_
      exact ⟨v8, (.pointer (some ⟨b9, 0, none⟩)), v29, v30, v31, v32, v33, v34, v35, (W 32 r), b8, b9, z8, (words 32 r), by rw [ha]; kernel_rfl, below_setRow hB hb9 _, fun h => e0 (h.resolve_left (by decide)), fun h => e1 (h.resolve_left (by decide)), fun h => e2 (h.resolve_left (by decide)), fun h => e3 (h.resolve_left (by decide)), fun h => e4 (h.resolve_left (by decide)), fun h => e5 (h.resolve_left (by decide)), fun h => e6 (h.resolve_left (by decide)), fun _ => rfl, fun h => ⟨(p8 (h.resolve_left (by decide))).1, (p8 (h.resolve_left (by decide))).2.1, (p8 (h.resolve_left (by decide))).2.2.1.otherW _ (hne' (h.resolve_left (by decide))), (p8 (h.resolve_left (by decide))).2.2.2⟩, fun _ => ⟨rfl, hb9, A9.setW _, words_len _ _⟩, fun h h' => hne (h.resolve_left (by decide)) (h'.resolve_left (by decide)), fun h => q8 (h.resolve_left (by decide)), fun _ => rfl⟩
    | i + 12, ho => simp at ho
  case done =>
    rintro D a w' ⟨v8, v9, v29, v30, v31, v32, v33, v34, v35, v36, b8, b9, z8, z9, ha, hB, e0, e1, e2, e3, e4, e5, e6, e7, p8, p9, hne, q8, q9⟩ hall
    obtain ⟨rfl, hb8, A8, L8⟩ := p8 (hall 8 (by decide))
    obtain ⟨rfl, hb9, A9, L9⟩ := p9 (hall 9 (by decide))
    obtain rfl := q8 (hall 10 (by decide))
    obtain rfl := q9 (hall 11 (by decide))
    have hne' := hne (hall 8 (by decide)) (hall 9 (by decide))
    clear e0 e1 e2 e3 e4 e5 e6 e7 p8 p9 q8 q9 hne hall L8 L9
    have A7 := a7'.below hB a7'.lt
    have z0 := (hB.block _ (lt_of_block f0)).trans f0
    have z1 := (hB.block _ (lt_of_block f1)).trans f1
    have z2 := (hB.block _ (lt_of_block f2)).trans f2
    have z3 := (hB.block _ (lt_of_block f3)).trans f3
    have hBB := hB5.trans (hB.mono hB5.size)
    have hl7 := a7'.lt
    clear f0 f1 f2 f3 a7' hB5 hB g5
    rw [ha]
    clear ha
    simp only [Act.put, List.setIfInBounds_toArray, List.set_cons_zero, List.set_cons_succ]
    obtain ⟨x0, x1, _, _⟩ := intVar z0
    obtain ⟨y0, y1, _, _⟩ := intVar z1
    have hY : val8 ys < 256 ^ 128 := Nat.lt_of_lt_of_le (val8_lt ys h2.byte) (Nat.pow_le_pow_right (by decide) (by rw [h2.size]; exact m2))
    have hY0 : val8 ys ≠ 0 := by
      have := lead_le h2.byte (lead_right r2).1 (by rw [h2.size]; exact h0)
      have hp : 0 < 256 ^ (ys.length - 1) := Nat.pow_pos (by decide)
      omega
    have hrY : r < val8 ys := by rw [← Hr.out]; exact Nat.mod_lt _ (by omega)
    have hE := equal_in 10000 rfl r (Nat.lt_of_lt_of_le (Nat.lt_trans hrY hY) (by decide))
    rw [← zero32] at hE
    have hs8 : b8 ≠ w.heap.size ∧ b8 ≠ w.heap.size + 1 ∧ b8 ≠ w.heap.size + 2 ∧ b8 ≠ w.heap.size + 3 ∧ b8 ≠ b7 := by omega
    have hs9 : b9 ≠ w.heap.size ∧ b9 ≠ w.heap.size + 1 ∧ b9 ≠ w.heap.size + 2 ∧ b9 ≠ w.heap.size + 3 ∧ b9 ≠ b7 := by omega
    have hr0 : r ≠ 0 := by rw [← Hr.out]; exact hfar
    have hqX : q ≤ val8 xs := by rw [← Hq.out]; exact Nat.div_le_self _ _
    have hX : val8 xs < 256 ^ 128 := Nat.lt_of_lt_of_le (val8_lt xs h1.byte) (Nat.pow_le_pow_right (by decide) (by rw [h1.size]; exact m1))
    have hq1 : q + 1 ≤ val8 xs := by
      have e := Nat.mod_add_div (val8 xs) (val8 ys)
      rw [Hr.out, Hq.out] at e
      have : 1 * q ≤ val8 ys * q := Nat.mul_le_mul_right _ (by omega)
      omega
    have Hqn : Hid (quoN true (val8 xs) (val8 ys) = q + 1) := by show _ = _; unfold quoN; rw [if_pos ⟨rfl, hfar⟩, Hq.out]
    have Hrn : Hid (remN true (val8 xs) (val8 ys) = val8 ys - r) := by show _ = _; unfold remN; rw [if_pos ⟨rfl, hfar⟩, Hr.out]
    have hQb : q + 1 < 4294967296 ^ 32 := Nat.lt_of_lt_of_le (Nat.lt_of_le_of_lt hq1 hX) (by decide)
    have hQl : blen (q + 1) ≤ 128 := (blen_le _ _).2 (Nat.lt_of_le_of_lt hq1 hX)
    have hRb : val8 ys - r < 4294967296 ^ 32 := Nat.lt_of_lt_of_le (Nat.lt_of_le_of_lt (Nat.sub_le _ _) hY) (by decide)
    have hRl : blen (val8 ys - r) ≤ 128 := (blen_le _ _).2 (Nat.lt_of_le_of_lt (Nat.sub_le _ _) hY)
    rw [decide_eq_false hr0] at hE
    have hn12' : (n1 == n2) = false := by cases n1 <;> cases n2 <;> first | rfl | exact absurd hn12 (by decide)
    have hn12'' : ¬ n1 = n2 := by cases n1 <;> cases n2 <;> first | decide | exact absurd hn12 (by decide)
    clear hq1 hqX hX hY hY0 hfar
    go_wp2_with (first | refine wpList_want (by kernel_rfl) (wp_load_row 56 (.tmp 9) rfl b9 rfl 56 _ _ _ A9 Tryd.underlying56 rfl (size67 _) ?_) | refine wpList_load_row rfl 56 _ rfl b8 rfl 56 _ _ _ A8 Tryd.underlying56 rfl (size67 _) ?_)
    refine (next_any q w').mono ?_
    rintro e w6 ⟨rfl, hb6⟩
    have B7 := A7.below hb6 A7.lt
    have B8 := A8.below hb6 A8.lt
    have B9 := A9.below hb6 A9.lt
    have C7 := B7.otherW (b' := b8) (cellsW (words 32 (q + 1))) (by omega)
    have C8 := B8.setW (words 32 (q + 1))
    have C9 := B9.otherW (b' := b8) (cellsW (words 32 (q + 1))) (by omega)
    have y0' := (setRow_other w6 b8 w.heap.size (cellsW (words 32 (q + 1))) (by omega)).trans ((hb6.block _ (lt_of_block z0)).trans z0)
    have y1' := (setRow_other w6 b8 (w.heap.size + 1) (cellsW (words 32 (q + 1))) (by omega)).trans ((hb6.block _ (lt_of_block z1)).trans z1)
    have y2' := (setRow_other w6 b8 (w.heap.size + 2) (cellsW (words 32 (q + 1))) (by omega)).trans ((hb6.block _ (lt_of_block z2)).trans z2)
    have y3' := (setRow_other w6 b8 (w.heap.size + 3) (cellsW (words 32 (q + 1))) (by omega)).trans ((hb6.block _ (lt_of_block z3)).trans z3)
    have BB6 := below_setRow (below_size hBB (Nat.le_refl _) hb6) (show w.heap.size ≤ b8 by omega) (cellsW (words 32 (q + 1)))
    unfold W
    go_wp2_with (first | refine wpList_store_row rfl 56 _ _ rfl b8 _ rfl rfl 56 _ B8 (size67 _) (by rw [cellsW_size, cellsW_size, words_len, words_len]) (cellsW_one _) ?_ | refine wpList_load_row rfl 56 (.tmp 7) rfl b7 rfl 56 _ _ _ C7 Tryd.underlying56 rfl (size67 _) ?_ | refine wpList_load_row rfl 56 (.tmp 9) rfl b9 rfl 56 _ _ _ C9 Tryd.underlying56 rfl (size67 _) ?_)
    clear z0 z1 z2 z3 x0 x1 y0 y1 hE A7 A8 A9 B7 B8 B9 hBB hb6
    generalize w6.setRow b8 (cellsW (words 32 (q + 1))) = w7 at *
    refine (diff_any (val8 ys) r w7 (by omega)).mono ?_
    rintro e w8 ⟨rfl, hb8'⟩
    have E8 := C8.below hb8' C8.lt
    have E9 := C9.below hb8' C9.lt
    have F8 := E8.otherW (b' := b9) (cellsW (words 32 (val8 ys - r))) (by omega)
    have F9 := E9.setW (words 32 (val8 ys - r))
    have z0 := (setRow_other w8 b9 w.heap.size (cellsW (words 32 (val8 ys - r))) (by omega)).trans ((hb8'.block _ (lt_of_block y0')).trans y0')
    have z1 := (setRow_other w8 b9 (w.heap.size + 1) (cellsW (words 32 (val8 ys - r))) (by omega)).trans ((hb8'.block _ (lt_of_block y1')).trans y1')
    have z2 := (setRow_other w8 b9 (w.heap.size + 2) (cellsW (words 32 (val8 ys - r))) (by omega)).trans ((hb8'.block _ (lt_of_block y2')).trans y2')
    have z3 := (setRow_other w8 b9 (w.heap.size + 3) (cellsW (words 32 (val8 ys - r))) (by omega)).trans ((hb8'.block _ (lt_of_block y3')).trans y3')
    have hBB := below_setRow (below_size BB6 (Nat.le_refl _) hb8') (show w.heap.size ≤ b9 by omega) (cellsW (words 32 (val8 ys - r)))
    have hszw : w.heap.size + 4 ≤ (w8.setRow b9 (cellsW (words 32 (val8 ys - r)))).heap.size := by have := F8.lt; omega
    unfold W
    go_wp2_with (refine wpList_store_row rfl 56 _ _ rfl b9 _ rfl rfl 56 _ E9 (size67 _) (by rw [cellsW_size, cellsW_size, words_len, words_len]) (cellsW_one _) ?_)
    clear y0' y1' y2' y3' C7 C8 C9 E8 E9 BB6 hb8'
    generalize w8.setRow b9 (cellsW (words 32 (val8 ys - r))) = w9 at *
    refine wp_region_inv' (fun A D a w' => ∃ v52 v53 v54 v55 v56 v57 v58 v59 v60 v61 pv u0 u1, a = ((((((((((A.put (some 52) v52).put (some 53) v53).put (some 54) v54).put (some 55) v55).put (some 56) v56).put (some 57) v57).put (some 58) v58).put (some 59) v59).put (some 60) v60).put (some 61) v61) ∧ Below w.heap.size w w' ∧ w.heap.size + 4 ≤ w'.heap.size ∧ w'.heap[w.heap.size]? = some (.cells #[.bool n1, .slice a1 l1 c1] 27 (0, 0)) ∧ w'.heap[w.heap.size + 1]? = some (.cells #[.bool n2, .slice a2 l2 c2] 27 (0, 0)) ∧ w'.heap[w.heap.size + 2]? = some (.cells #[u0, u1] 27 (0, 0)) ∧ w'.heap[w.heap.size + 3]? = some (.cells #[.bool false, .slice none 0 0] 27 (0, 0)) ∧ Arr w' b8 56 (words 32 (q + 1)) ∧ Arr w' b9 56 (words 32 (val8 ys - r)) ∧ (D 0 → v53 = .pointer (some ⟨w.heap.size, 0, none⟩)) ∧ (D 1 → v54 = .bool n1) ∧ (D 2 → v55 = .pointer (some ⟨w.heap.size + 1, 0, none⟩)) ∧ (D 3 → v56 = .bool n2) ∧ (D 4 → v57 = .bool (n1 != n2)) ∧ (D 5 → v58 = .slice (some ⟨b8, 0, none⟩) 32 32) ∧ (D 6 → v59 = .tuple #[.agg #[.bool ((n1 != n2) && decide (q + 1 ≠ 0)), pv], .int .i64 0]) ∧ (D 7 → v52 = .tuple #[.agg #[.bool ((n1 != n2) && decide (q + 1 ≠ 0)), pv], .int .i64 0]) ∧ (D 8 → v60 = .agg #[.bool ((n1 != n2) && decide (q + 1 ≠ 0)), pv]) ∧ (D 6 → OwnB w' (w.heap.size + 4) pv (mag (q + 1))) ∧ (D 10 → u0 = .bool ((n1 != n2) && decide (q + 1 ≠ 0)) ∧ u1 = pv)) (by kernel_rfl) (by kernel_rfl) ?mono ?start ?step ?done
    case mono =>
      rintro D D' a w' hD ⟨v52, v53, v54, v55, v56, v57, v58, v59, v60, v61, pv, u0, u1, ha, hB, hsz, k0, k1, k2, k3, k8, k9, e0, e1, e2, e3, e4, e5, e6, e7, e8, o6, u10⟩
      exact ⟨v52, v53, v54, v55, v56, v57, v58, v59, v60, v61, pv, u0, u1, ha, hB, hsz, k0, k1, k2, k3, k8, k9, fun h => e0 ((hD 0).2 h), fun h => e1 ((hD 1).2 h), fun h => e2 ((hD 2).2 h), fun h => e3 ((hD 3).2 h), fun h => e4 ((hD 4).2 h), fun h => e5 ((hD 5).2 h), fun h => e6 ((hD 6).2 h), fun h => e7 ((hD 7).2 h), fun h => e8 ((hD 8).2 h), fun h => o6 ((hD 6).2 h), fun h => u10 ((hD 10).2 h)⟩
    case start => exact ⟨undef, undef, undef, undef, undef, undef, undef, undef, undef, undef, undef, _, _, by kernel_rfl, hBB.drew, hszw, z0, z1, z2, z3, F8, F9, fun h => h.elim, fun h => h.elim, fun h => h.elim, fun h => h.elim, fun h => h.elim, fun h => h.elim, fun h => h.elim, fun h => h.elim, fun h => h.elim, fun h => h.elim, fun h => h.elim⟩
    case step =>
      intro i o ho D a w' hI hn hcl hd
      obtain ⟨v52, v53, v54, v55, v56, v57, v58, v59, v60, v61, pv, u0, u1, ha, hB, hsz, k0, k1, k2, k3, k8, k9, e0, e1, e2, e3, e4, e5, e6, e7, e8, o6, u10⟩ := hI
      match i, ho with
      | 0, ho =>
        cases Option.some.inj ho
        have ev : a.tmps[2]?.getD undef = .pointer (some ⟨w.heap.size, 0, none⟩) := by rw [ha]; kernel_rfl
        refine wp_value (w' := w') (v := .pointer (some ⟨w.heap.size, 0, none⟩)) (by simp [execOp, ev, go_sem]) ?_
        exact ⟨v52, (.pointer (some ⟨w.heap.size, 0, none⟩)), v54, v55, v56, v57, v58, v59, v60, v61, pv, u0, u1, by rw [ha]; kernel_rfl, hB, hsz, k0, k1, k2, k3, k8, k9, fun _ => rfl, fun h => e1 (h.resolve_left (by decide)), fun h => e2 (h.resolve_left (by decide)), fun h => e3 (h.resolve_left (by decide)), fun h => e4 (h.resolve_left (by decide)), fun h => e5 (h.resolve_left (by decide)), fun h => e6 (h.resolve_left (by decide)), fun h => e7 (h.resolve_left (by decide)), fun h => e8 (h.resolve_left (by decide)), fun h => o6 (h.resolve_left (by decide)), fun h => u10 (h.resolve_left (by decide))⟩
      | 1, ho =>
        cases Option.some.inj ho
        have ev : a.tmps[53]?.getD undef = .pointer (some ⟨w.heap.size, 0, none⟩) := by rw [ha, e0 (hd ⟨0, .data⟩ (by simp) rfl)]; kernel_rfl
        have hc := (intVar k0).1
        refine wp_value (w' := w') (v := .bool n1) (by simp [execOp, ev, go_sem, hc]) ?_
        exact ⟨v52, v53, (.bool n1), v55, v56, v57, v58, v59, v60, v61, pv, u0, u1, by rw [ha]; kernel_rfl, hB, hsz, k0, k1, k2, k3, k8, k9, fun h => e0 (h.resolve_left (by decide)), fun _ => rfl, fun h => e2 (h.resolve_left (by decide)), fun h => e3 (h.resolve_left (by decide)), fun h => e4 (h.resolve_left (by decide)), fun h => e5 (h.resolve_left (by decide)), fun h => e6 (h.resolve_left (by decide)), fun h => e7 (h.resolve_left (by decide)), fun h => e8 (h.resolve_left (by decide)), fun h => o6 (h.resolve_left (by decide)), fun h => u10 (h.resolve_left (by decide))⟩
      | 2, ho =>
        cases Option.some.inj ho
        have ev : a.tmps[3]?.getD undef = .pointer (some ⟨w.heap.size + 1, 0, none⟩) := by rw [ha]; kernel_rfl
        refine wp_value (w' := w') (v := .pointer (some ⟨w.heap.size + 1, 0, none⟩)) (by simp [execOp, ev, go_sem]) ?_
        exact ⟨v52, v53, v54, (.pointer (some ⟨w.heap.size + 1, 0, none⟩)), v56, v57, v58, v59, v60, v61, pv, u0, u1, by rw [ha]; kernel_rfl, hB, hsz, k0, k1, k2, k3, k8, k9, fun h => e0 (h.resolve_left (by decide)), fun h => e1 (h.resolve_left (by decide)), fun _ => rfl, fun h => e3 (h.resolve_left (by decide)), fun h => e4 (h.resolve_left (by decide)), fun h => e5 (h.resolve_left (by decide)), fun h => e6 (h.resolve_left (by decide)), fun h => e7 (h.resolve_left (by decide)), fun h => e8 (h.resolve_left (by decide)), fun h => o6 (h.resolve_left (by decide)), fun h => u10 (h.resolve_left (by decide))⟩
      | 3, ho =>
        cases Option.some.inj ho
        have ev : a.tmps[55]?.getD undef = .pointer (some ⟨w.heap.size + 1, 0, none⟩) := by rw [ha, e2 (hd ⟨2, .data⟩ (by simp) rfl)]; kernel_rfl
        have hc := (intVar k1).1
        refine wp_value (w' := w') (v := .bool n2) (by simp [execOp, ev, go_sem, hc]) ?_
        exact ⟨v52, v53, v54, v55, (.bool n2), v57, v58, v59, v60, v61, pv, u0, u1, by rw [ha]; kernel_rfl, hB, hsz, k0, k1, k2, k3, k8, k9, fun h => e0 (h.resolve_left (by decide)), fun h => e1 (h.resolve_left (by decide)), fun h => e2 (h.resolve_left (by decide)), fun _ => rfl, fun h => e4 (h.resolve_left (by decide)), fun h => e5 (h.resolve_left (by decide)), fun h => e6 (h.resolve_left (by decide)), fun h => e7 (h.resolve_left (by decide)), fun h => e8 (h.resolve_left (by decide)), fun h => o6 (h.resolve_left (by decide)), fun h => u10 (h.resolve_left (by decide))⟩
      | 4, ho =>
        cases Option.some.inj ho
        have ev : a.tmps[54]?.getD undef = .bool n1 := by rw [ha, e1 (hd ⟨1, .data⟩ (by simp) rfl)]; kernel_rfl
        have ev' : a.tmps[56]?.getD undef = .bool n2 := by rw [ha, e3 (hd ⟨3, .data⟩ (by simp) rfl)]; kernel_rfl
        refine wp_value (w' := w') (v := .bool (n1 != n2)) (run_neq_bool a w' (eval_of ev) (eval_of ev') rfl) ?_
        exact ⟨v52, v53, v54, v55, v56, (.bool (n1 != n2)), v58, v59, v60, v61, pv, u0, u1, by rw [ha]; kernel_rfl, hB, hsz, k0, k1, k2, k3, k8, k9, fun h => e0 (h.resolve_left (by decide)), fun h => e1 (h.resolve_left (by decide)), fun h => e2 (h.resolve_left (by decide)), fun h => e3 (h.resolve_left (by decide)), fun _ => rfl, fun h => e5 (h.resolve_left (by decide)), fun h => e6 (h.resolve_left (by decide)), fun h => e7 (h.resolve_left (by decide)), fun h => e8 (h.resolve_left (by decide)), fun h => o6 (h.resolve_left (by decide)), fun h => u10 (h.resolve_left (by decide))⟩
      | 5, ho =>
        cases Option.some.inj ho
        have ev : a.tmps[8]?.getD undef = .pointer (some ⟨b8, 0, none⟩) := by rw [ha]; kernel_rfl
        have hs := run_all ⟨b8, 0, none⟩ w'
        refine wp_value (w' := w') (v := .slice (some ⟨b8, 0, none⟩) 32 32) (by simp [execOp, ev, hs, go_sem]) ?_
        exact ⟨v52, v53, v54, v55, v56, v57, (.slice (some ⟨b8, 0, none⟩) 32 32), v59, v60, v61, pv, u0, u1, by rw [ha]; kernel_rfl, hB, hsz, k0, k1, k2, k3, k8, k9, fun h => e0 (h.resolve_left (by decide)), fun h => e1 (h.resolve_left (by decide)), fun h => e2 (h.resolve_left (by decide)), fun h => e3 (h.resolve_left (by decide)), fun h => e4 (h.resolve_left (by decide)), fun _ => rfl, fun h => e6 (h.resolve_left (by decide)), fun h => e7 (h.resolve_left (by decide)), fun h => e8 (h.resolve_left (by decide)), fun h => o6 (h.resolve_left (by decide)), fun h => u10 (h.resolve_left (by decide))⟩
      | 6, ho =>
        cases Option.some.inj ho
        have n7 : ¬ D 7 := fun h => hn (hcl 7 _ rfl h ⟨6, .data⟩ (by simp) rfl)
        have n8 : ¬ D 8 := fun h => n7 (hcl 8 _ rfl h ⟨7, .data⟩ (by simp) rfl)
        have n10 : ¬ D 10 := fun h => n8 (hcl 10 _ rfl h ⟨8, .data⟩ (by simp) rfl)
        have ev : a.tmps[57]?.getD undef = .bool (n1 != n2) := by rw [ha, e4 (hd ⟨4, .data⟩ (by simp) rfl)]; kernel_rfl
        have ev' : a.tmps[58]?.getD undef = .slice (some ⟨b8, 0, none⟩) 32 32 := by rw [ha, e5 (hd ⟨5, .data⟩ (by simp) rfl)]; kernel_rfl
        refine wp_enter (f := 30) (args := #[.bool (n1 != n2), .slice (some ⟨b8, 0, none⟩) 32 32]) (by simp [execOp, ev, ev', go_sem]) ?_
        refine (pack_fit (n1 != n2) (Arr.isW k8 (words_len _ _) (by decide) (words_lt _ _)) (by decide) (val32_words 32 _ hQb) hQl).mono ?_
        rintro e w6 ⟨nv, rfl, hO, HB⟩
        refine ⟨_, rfl, ?_⟩
        exact ⟨v52, v53, v54, v55, v56, v57, v58, (.tuple #[.agg #[.bool ((n1 != n2) && decide (q + 1 ≠ 0)), nv], .int .i64 0]), v60, v61, nv, u0, u1, by rw [ha]; kernel_rfl, below_size hB (Nat.le_refl _) HB, Nat.le_trans hsz HB.size, (HB.block _ (lt_of_block k0)).trans k0, (HB.block _ (lt_of_block k1)).trans k1, (HB.block _ (lt_of_block k2)).trans k2, (HB.block _ (lt_of_block k3)).trans k3, k8.below HB k8.lt, k9.below HB k9.lt, fun h => e0 (h.resolve_left (by decide)), fun h => e1 (h.resolve_left (by decide)), fun h => e2 (h.resolve_left (by decide)), fun h => e3 (h.resolve_left (by decide)), fun h => e4 (h.resolve_left (by decide)), fun h => e5 (h.resolve_left (by decide)), fun _ => rfl, fun h => absurd (h.resolve_left (by decide)) n7, fun h => absurd (h.resolve_left (by decide)) n8, fun _ => hO.mono hsz, fun h => absurd (h.resolve_left (by decide)) n10⟩
      | 7, ho =>
        cases Option.some.inj ho
        have ev : a.tmps[59]?.getD undef = .tuple #[.agg #[.bool ((n1 != n2) && decide (q + 1 ≠ 0)), pv], .int .i64 0] := by rw [ha, e6 (hd ⟨6, .data⟩ (by simp) rfl)]; kernel_rfl
        refine wp_value (w' := w') (v := .tuple #[.agg #[.bool ((n1 != n2) && decide (q + 1 ≠ 0)), pv], .int .i64 0]) (by simp [execOp, ev, go_sem]) ?_
        exact ⟨(.tuple #[.agg #[.bool ((n1 != n2) && decide (q + 1 ≠ 0)), pv], .int .i64 0]), v53, v54, v55, v56, v57, v58, v59, v60, v61, pv, u0, u1, by rw [ha]; kernel_rfl, hB, hsz, k0, k1, k2, k3, k8, k9, fun h => e0 (h.resolve_left (by decide)), fun h => e1 (h.resolve_left (by decide)), fun h => e2 (h.resolve_left (by decide)), fun h => e3 (h.resolve_left (by decide)), fun h => e4 (h.resolve_left (by decide)), fun h => e5 (h.resolve_left (by decide)), fun h => e6 (h.resolve_left (by decide)), fun _ => rfl, fun h => e8 (h.resolve_left (by decide)), fun h => o6 (h.resolve_left (by decide)), fun h => u10 (h.resolve_left (by decide))⟩
      | 8, ho =>
        cases Option.some.inj ho
        have ev : a.tmps[52]?.getD undef = .tuple #[.agg #[.bool ((n1 != n2) && decide (q + 1 ≠ 0)), pv], .int .i64 0] := by rw [ha, e7 (hd ⟨7, .data⟩ (by simp) rfl)]; kernel_rfl
        refine wp_value (w' := w') (v := .agg #[.bool ((n1 != n2) && decide (q + 1 ≠ 0)), pv]) (by simp [execOp, ev, go_sem]) ?_
        exact ⟨v52, v53, v54, v55, v56, v57, v58, v59, (.agg #[.bool ((n1 != n2) && decide (q + 1 ≠ 0)), pv]), v61, pv, u0, u1, by rw [ha]; kernel_rfl, hB, hsz, k0, k1, k2, k3, k8, k9, fun h => e0 (h.resolve_left (by decide)), fun h => e1 (h.resolve_left (by decide)), fun h => e2 (h.resolve_left (by decide)), fun h => e3 (h.resolve_left (by decide)), fun h => e4 (h.resolve_left (by decide)), fun h => e5 (h.resolve_left (by decide)), fun h => e6 (h.resolve_left (by decide)), fun h => e7 (h.resolve_left (by decide)), fun _ => rfl, fun h => o6 (h.resolve_left (by decide)), fun h => u10 (h.resolve_left (by decide))⟩
      | 9, ho =>
        cases Option.some.inj ho
        have ev : a.tmps[52]?.getD undef = .tuple #[.agg #[.bool ((n1 != n2) && decide (q + 1 ≠ 0)), pv], .int .i64 0] := by rw [ha, e7 (hd ⟨7, .data⟩ (by simp) rfl)]; kernel_rfl
        refine wp_value (w' := w') (v := .int .i64 0) (by simp [execOp, ev, go_sem]) ?_
        exact ⟨v52, v53, v54, v55, v56, v57, v58, v59, v60, (.int .i64 0), pv, u0, u1, by rw [ha]; kernel_rfl, hB, hsz, k0, k1, k2, k3, k8, k9, fun h => e0 (h.resolve_left (by decide)), fun h => e1 (h.resolve_left (by decide)), fun h => e2 (h.resolve_left (by decide)), fun h => e3 (h.resolve_left (by decide)), fun h => e4 (h.resolve_left (by decide)), fun h => e5 (h.resolve_left (by decide)), fun h => e6 (h.resolve_left (by decide)), fun h => e7 (h.resolve_left (by decide)), fun h => e8 (h.resolve_left (by decide)), fun h => o6 (h.resolve_left (by decide)), fun h => u10 (h.resolve_left (by decide))⟩
      | 10, ho =>
        cases Option.some.inj ho
        have ev : a.tmps[60]?.getD undef = .agg #[.bool ((n1 != n2) && decide (q + 1 ≠ 0)), pv] := by rw [ha, e8 (hd ⟨8, .data⟩ (by simp) rfl)]; kernel_rfl
        have ev' : a.tmps[4]?.getD undef = .pointer (some ⟨w.heap.size + 2, 0, none⟩) := by rw [ha]; kernel_rfl
        have hO := o6 (hd ⟨6, .chain⟩ (by simp) rfl)
        obtain ⟨av, cv, rfl, _⟩ := hO.2
        refine wp_store_row 27 (.tmp 4) (.tmp 60) rfl (w.heap.size + 2) _ (eval_of ev') (eval_of ev) 27 _ k2 size25 rfl (by simp [Value.oneCell']) ?_
        exact ⟨v52, v53, v54, v55, v56, v57, v58, v59, v60, v61, _, (.bool ((n1 != n2) && decide (q + 1 ≠ 0))), _, by rw [ha]; kernel_rfl, below_setRow hB (by omega) _, (by simpa using hsz), (setRow_other _ _ _ _ (by omega)).trans k0, (setRow_other _ _ _ _ (by omega)).trans k1, setRow_heap _ _ _ _ _ _ k2, (setRow_other _ _ _ _ (by omega)).trans k3, k8.otherW _ (by omega), k9.otherW _ (by omega), fun h => e0 (h.resolve_left (by decide)), fun h => e1 (h.resolve_left (by decide)), fun h => e2 (h.resolve_left (by decide)), fun h => e3 (h.resolve_left (by decide)), fun h => e4 (h.resolve_left (by decide)), fun h => e5 (h.resolve_left (by decide)), fun h => e6 (h.resolve_left (by decide)), fun h => e7 (h.resolve_left (by decide)), fun h => e8 (h.resolve_left (by decide)), fun _ => ownB_setRow hO (by omega), fun _ => ⟨rfl, rfl⟩⟩
      | i + 11, ho => simp at ho
    case done =>
      rintro D a w' ⟨v52, v53, v54, v55, v56, v57, v58, v59, v60, v61, pv, u0, u1, ha, hB, hsz, k0, k1, k2, k3, k8, k9, e0, e1, e2, e3, e4, e5, e6, e7, e8, o6, u10⟩ hall
      have oQ := o6 (hall 6 (by decide))
      obtain ⟨hu0, hu1⟩ := u10 (hall 10 (by decide))
      rw [hu0, hu1] at k2
      clear hu0 hu1
      clear e0 e1 e2 e3 e4 e5 e6 e7 e8 o6 u10 hall k0 k8
      rw [ha]
      clear ha
      simp only [Act.put, List.setIfInBounds_toArray, List.set_cons_zero, List.set_cons_succ]
      go_wp2
      refine wp_region_inv' (fun A D a w' => ∃ v62 v63 v64 v65 v66 v67 v68 rv t0 t1, a = (((((((A.put (some 62) v62).put (some 63) v63).put (some 64) v64).put (some 65) v65).put (some 66) v66).put (some 67) v67).put (some 68) v68) ∧ Below w.heap.size w w' ∧ w.heap.size + 4 ≤ w'.heap.size ∧ w'.heap[w.heap.size + 1]? = some (.cells #[.bool n2, .slice a2 l2 c2] 27 (0, 0)) ∧ w'.heap[w.heap.size + 2]? = some (.cells #[.bool ((n1 != n2) && decide (q + 1 ≠ 0)), pv] 27 (0, 0)) ∧ w'.heap[w.heap.size + 3]? = some (.cells #[t0, t1] 27 (0, 0)) ∧ Arr w' b9 56 (words 32 (val8 ys - r)) ∧ OwnB w' (w.heap.size + 4) pv (mag (q + 1)) ∧ (D 0 → v63 = .pointer (some ⟨w.heap.size + 1, 0, none⟩)) ∧ (D 1 → v64 = .bool n2) ∧ (D 2 → v65 = .slice (some ⟨b9, 0, none⟩) 32 32) ∧ (D 3 → v66 = .tuple #[.agg #[.bool (n2 && decide (val8 ys - r ≠ 0)), rv], .int .i64 0]) ∧ (D 4 → v62 = .tuple #[.agg #[.bool (n2 && decide (val8 ys - r ≠ 0)), rv], .int .i64 0]) ∧ (D 5 → v67 = .agg #[.bool (n2 && decide (val8 ys - r ≠ 0)), rv]) ∧ (D 3 → OwnB w' (w.heap.size + 4) rv (mag (val8 ys - r))) ∧ (D 7 → t0 = .bool (n2 && decide (val8 ys - r ≠ 0)) ∧ t1 = rv)) (by kernel_rfl) (by kernel_rfl) ?mono ?start ?step ?done
      case mono =>
        rintro D D' a w' hD ⟨v62, v63, v64, v65, v66, v67, v68, rv, t0, t1, ha, jB, jsz, j1, j2, j3, j9, jQ, g0, g1, g2, g3, g4, g5, o3, u7⟩
        exact ⟨v62, v63, v64, v65, v66, v67, v68, rv, t0, t1, ha, jB, jsz, j1, j2, j3, j9, jQ, fun h => g0 ((hD 0).2 h), fun h => g1 ((hD 1).2 h), fun h => g2 ((hD 2).2 h), fun h => g3 ((hD 3).2 h), fun h => g4 ((hD 4).2 h), fun h => g5 ((hD 5).2 h), fun h => o3 ((hD 3).2 h), fun h => u7 ((hD 7).2 h)⟩
      case start => exact ⟨undef, undef, undef, undef, undef, undef, undef, undef, _, _, by kernel_rfl, hB.drew, hsz, k1, k2, k3, k9, OwnB.drew1 oQ, fun h => h.elim, fun h => h.elim, fun h => h.elim, fun h => h.elim, fun h => h.elim, fun h => h.elim, fun h => h.elim, fun h => h.elim⟩
      case step =>
        intro i o ho D a w' hI hn hcl hd
        obtain ⟨v62, v63, v64, v65, v66, v67, v68, rv, t0, t1, ha, jB, jsz, j1, j2, j3, j9, jQ, g0, g1, g2, g3, g4, g5, o3, u7⟩ := hI
        match i, ho with
        | 0, ho =>
          cases Option.some.inj ho
          have ev : a.tmps[3]?.getD undef = .pointer (some ⟨w.heap.size + 1, 0, none⟩) := by rw [ha]; kernel_rfl
          refine wp_value (w' := w') (v := .pointer (some ⟨w.heap.size + 1, 0, none⟩)) (by simp [execOp, ev, go_sem]) ?_
          exact ⟨v62, (.pointer (some ⟨w.heap.size + 1, 0, none⟩)), v64, v65, v66, v67, v68, rv, t0, t1, by rw [ha]; kernel_rfl, jB, jsz, j1, j2, j3, j9, jQ, fun _ => rfl, fun h => g1 (h.resolve_left (by decide)), fun h => g2 (h.resolve_left (by decide)), fun h => g3 (h.resolve_left (by decide)), fun h => g4 (h.resolve_left (by decide)), fun h => g5 (h.resolve_left (by decide)), fun h => o3 (h.resolve_left (by decide)), fun h => u7 (h.resolve_left (by decide))⟩
        | 1, ho =>
          cases Option.some.inj ho
          have ev : a.tmps[63]?.getD undef = .pointer (some ⟨w.heap.size + 1, 0, none⟩) := by rw [ha, g0 (hd ⟨0, .data⟩ (by simp) rfl)]; kernel_rfl
          have hc := (intVar j1).1
          refine wp_value (w' := w') (v := .bool n2) (by simp [execOp, ev, go_sem, hc]) ?_
          exact ⟨v62, v63, (.bool n2), v65, v66, v67, v68, rv, t0, t1, by rw [ha]; kernel_rfl, jB, jsz, j1, j2, j3, j9, jQ, fun h => g0 (h.resolve_left (by decide)), fun _ => rfl, fun h => g2 (h.resolve_left (by decide)), fun h => g3 (h.resolve_left (by decide)), fun h => g4 (h.resolve_left (by decide)), fun h => g5 (h.resolve_left (by decide)), fun h => o3 (h.resolve_left (by decide)), fun h => u7 (h.resolve_left (by decide))⟩
        | 2, ho =>
          cases Option.some.inj ho
          have ev : a.tmps[9]?.getD undef = .pointer (some ⟨b9, 0, none⟩) := by rw [ha]; kernel_rfl
          have hs := run_all ⟨b9, 0, none⟩ w'
          refine wp_value (w' := w') (v := .slice (some ⟨b9, 0, none⟩) 32 32) (by simp [execOp, ev, hs, go_sem]) ?_
          exact ⟨v62, v63, v64, (.slice (some ⟨b9, 0, none⟩) 32 32), v66, v67, v68, rv, t0, t1, by rw [ha]; kernel_rfl, jB, jsz, j1, j2, j3, j9, jQ, fun h => g0 (h.resolve_left (by decide)), fun h => g1 (h.resolve_left (by decide)), fun _ => rfl, fun h => g3 (h.resolve_left (by decide)), fun h => g4 (h.resolve_left (by decide)), fun h => g5 (h.resolve_left (by decide)), fun h => o3 (h.resolve_left (by decide)), fun h => u7 (h.resolve_left (by decide))⟩
        | 3, ho =>
          cases Option.some.inj ho
          have n4 : ¬ D 4 := fun h => hn (hcl 4 _ rfl h ⟨3, .data⟩ (by simp) rfl)
          have n5 : ¬ D 5 := fun h => n4 (hcl 5 _ rfl h ⟨4, .data⟩ (by simp) rfl)
          have n7 : ¬ D 7 := fun h => n5 (hcl 7 _ rfl h ⟨5, .data⟩ (by simp) rfl)
          have ev : a.tmps[64]?.getD undef = .bool n2 := by rw [ha, g1 (hd ⟨1, .data⟩ (by simp) rfl)]; kernel_rfl
          have ev' : a.tmps[65]?.getD undef = .slice (some ⟨b9, 0, none⟩) 32 32 := by rw [ha, g2 (hd ⟨2, .data⟩ (by simp) rfl)]; kernel_rfl
          refine wp_enter (f := 30) (args := #[.bool n2, .slice (some ⟨b9, 0, none⟩) 32 32]) (by simp [execOp, ev, ev', go_sem]) ?_
          refine (pack_fit n2 (Arr.isW j9 (words_len _ _) (by decide) (words_lt _ _)) (by decide) (val32_words 32 _ hRb) hRl).mono ?_
          rintro e w6 ⟨nv, rfl, hO, HB⟩
          refine ⟨_, rfl, ?_⟩
          exact ⟨v62, v63, v64, v65, (.tuple #[.agg #[.bool (n2 && decide (val8 ys - r ≠ 0)), nv], .int .i64 0]), v67, v68, nv, t0, t1, by rw [ha]; kernel_rfl, below_size jB (Nat.le_refl _) HB, Nat.le_trans jsz HB.size, (HB.block _ (lt_of_block j1)).trans j1, (HB.block _ (lt_of_block j2)).trans j2, (HB.block _ (lt_of_block j3)).trans j3, j9.below HB j9.lt, jQ.below HB, fun h => g0 (h.resolve_left (by decide)), fun h => g1 (h.resolve_left (by decide)), fun h => g2 (h.resolve_left (by decide)), fun _ => rfl, fun h => absurd (h.resolve_left (by decide)) n4, fun h => absurd (h.resolve_left (by decide)) n5, fun _ => hO.mono jsz, fun h => absurd (h.resolve_left (by decide)) n7⟩
        | 4, ho =>
          cases Option.some.inj ho
          have ev : a.tmps[66]?.getD undef = .tuple #[.agg #[.bool (n2 && decide (val8 ys - r ≠ 0)), rv], .int .i64 0] := by rw [ha, g3 (hd ⟨3, .data⟩ (by simp) rfl)]; kernel_rfl
          refine wp_value (w' := w') (v := .tuple #[.agg #[.bool (n2 && decide (val8 ys - r ≠ 0)), rv], .int .i64 0]) (by simp [execOp, ev, go_sem]) ?_
          exact ⟨(.tuple #[.agg #[.bool (n2 && decide (val8 ys - r ≠ 0)), rv], .int .i64 0]), v63, v64, v65, v66, v67, v68, rv, t0, t1, by rw [ha]; kernel_rfl, jB, jsz, j1, j2, j3, j9, jQ, fun h => g0 (h.resolve_left (by decide)), fun h => g1 (h.resolve_left (by decide)), fun h => g2 (h.resolve_left (by decide)), fun h => g3 (h.resolve_left (by decide)), fun _ => rfl, fun h => g5 (h.resolve_left (by decide)), fun h => o3 (h.resolve_left (by decide)), fun h => u7 (h.resolve_left (by decide))⟩
        | 5, ho =>
          cases Option.some.inj ho
          have ev : a.tmps[62]?.getD undef = .tuple #[.agg #[.bool (n2 && decide (val8 ys - r ≠ 0)), rv], .int .i64 0] := by rw [ha, g4 (hd ⟨4, .data⟩ (by simp) rfl)]; kernel_rfl
          refine wp_value (w' := w') (v := .agg #[.bool (n2 && decide (val8 ys - r ≠ 0)), rv]) (by simp [execOp, ev, go_sem]) ?_
          exact ⟨v62, v63, v64, v65, v66, (.agg #[.bool (n2 && decide (val8 ys - r ≠ 0)), rv]), v68, rv, t0, t1, by rw [ha]; kernel_rfl, jB, jsz, j1, j2, j3, j9, jQ, fun h => g0 (h.resolve_left (by decide)), fun h => g1 (h.resolve_left (by decide)), fun h => g2 (h.resolve_left (by decide)), fun h => g3 (h.resolve_left (by decide)), fun h => g4 (h.resolve_left (by decide)), fun _ => rfl, fun h => o3 (h.resolve_left (by decide)), fun h => u7 (h.resolve_left (by decide))⟩
        | 6, ho =>
          cases Option.some.inj ho
          have ev : a.tmps[62]?.getD undef = .tuple #[.agg #[.bool (n2 && decide (val8 ys - r ≠ 0)), rv], .int .i64 0] := by rw [ha, g4 (hd ⟨4, .data⟩ (by simp) rfl)]; kernel_rfl
          refine wp_value (w' := w') (v := .int .i64 0) (by simp [execOp, ev, go_sem]) ?_
          exact ⟨v62, v63, v64, v65, v66, v67, (.int .i64 0), rv, t0, t1, by rw [ha]; kernel_rfl, jB, jsz, j1, j2, j3, j9, jQ, fun h => g0 (h.resolve_left (by decide)), fun h => g1 (h.resolve_left (by decide)), fun h => g2 (h.resolve_left (by decide)), fun h => g3 (h.resolve_left (by decide)), fun h => g4 (h.resolve_left (by decide)), fun h => g5 (h.resolve_left (by decide)), fun h => o3 (h.resolve_left (by decide)), fun h => u7 (h.resolve_left (by decide))⟩
        | 7, ho =>
          cases Option.some.inj ho
          have ev : a.tmps[67]?.getD undef = .agg #[.bool (n2 && decide (val8 ys - r ≠ 0)), rv] := by rw [ha, g5 (hd ⟨5, .data⟩ (by simp) rfl)]; kernel_rfl
          have ev' : a.tmps[5]?.getD undef = .pointer (some ⟨w.heap.size + 3, 0, none⟩) := by rw [ha]; kernel_rfl
          have hO := o3 (hd ⟨3, .chain⟩ (by simp) rfl)
          obtain ⟨av, cv, rfl, _⟩ := hO.2
          refine wp_store_row 27 (.tmp 5) (.tmp 67) rfl (w.heap.size + 3) _ (eval_of ev') (eval_of ev) 27 _ j3 size25 rfl (by simp [Value.oneCell']) ?_
          exact ⟨v62, v63, v64, v65, v66, v67, v68, _, (.bool (n2 && decide (val8 ys - r ≠ 0))), _, by rw [ha]; kernel_rfl, below_setRow jB (by omega) _, (by simpa using jsz), (setRow_other _ _ _ _ (by omega)).trans j1, (setRow_other _ _ _ _ (by omega)).trans j2, setRow_heap _ _ _ _ _ _ j3, j9.otherW _ (by omega), ownB_setRow jQ (by omega), fun h => g0 (h.resolve_left (by decide)), fun h => g1 (h.resolve_left (by decide)), fun h => g2 (h.resolve_left (by decide)), fun h => g3 (h.resolve_left (by decide)), fun h => g4 (h.resolve_left (by decide)), fun h => g5 (h.resolve_left (by decide)), fun _ => ownB_setRow hO (by omega), fun _ => ⟨rfl, rfl⟩⟩
        | i + 8, ho => simp at ho
      case done =>
        rintro D a w' ⟨v62, v63, v64, v65, v66, v67, v68, rv, t0, t1, ha, jB, jsz, j1, j2, j3, j9, jQ, g0, g1, g2, g3, g4, g5, o3, u7⟩ hall
        have oR := o3 (hall 3 (by decide))
        obtain ⟨hu0, hu1⟩ := u7 (hall 7 (by decide))
        rw [hu0, hu1] at j3
        clear hu0 hu1
        clear g0 g1 g2 g3 g4 g5 o3 u7 hall hB hsz k1 k2 k3 k9 oQ j1 j9
        rw [ha]
        clear ha
        simp only [Act.put, List.setIfInBounds_toArray, List.set_cons_zero, List.set_cons_succ]
        go_wp2
        refine wp_region_inv' (fun A D a w' => ∃ v6 v69 v70, a = (((A.put (some 6) v6).put (some 69) v69).put (some 70) v70) ∧ Below w.heap.size w w' ∧ w'.heap[w.heap.size + 2]? = some (.cells #[.bool ((n1 != n2) && decide (q + 1 ≠ 0)), pv] 27 (0, 0)) ∧ w'.heap[w.heap.size + 3]? = some (.cells #[.bool (n2 && decide (val8 ys - r ≠ 0)), rv] 27 (0, 0)) ∧ OwnB w' (w.heap.size + 4) pv (mag (q + 1)) ∧ OwnB w' (w.heap.size + 4) rv (mag (val8 ys - r)) ∧ (D 0 → v69 = .agg #[.bool ((n1 != n2) && decide (q + 1 ≠ 0)), pv]) ∧ (D 1 → v70 = .agg #[.bool (n2 && decide (val8 ys - r ≠ 0)), rv]) ∧ (D 4 → v6 = .int .i64 0)) (by kernel_rfl) (by kernel_rfl) ?mono ?start ?step ?done
        case mono =>
          rintro D D' a w' hD ⟨v6, v69, v70, ha, mB, m2, m3, mQ, mR, f0, f1, f4⟩
          exact ⟨v6, v69, v70, ha, mB, m2, m3, mQ, mR, fun h => f0 ((hD 0).2 h), fun h => f1 ((hD 1).2 h), fun h => f4 ((hD 4).2 h)⟩
        case start => exact ⟨(.int .i64 0), undef, undef, by kernel_rfl, jB.drew, j2, j3, OwnB.drew1 jQ, OwnB.drew1 oR, fun h => h.elim, fun h => h.elim, fun h => h.elim⟩
        case step =>
          intro i o ho D a w' hI hn hcl hd
          obtain ⟨v6, v69, v70, ha, mB, m2, m3, mQ, mR, f0, f1, f4⟩ := hI
          match i, ho with
          | 0, ho =>
            cases Option.some.inj ho
            have ev : a.tmps[4]?.getD undef = .pointer (some ⟨w.heap.size + 2, 0, none⟩) := by rw [ha]; kernel_rfl
            refine wp_load_row 27 (.tmp 4) rfl (w.heap.size + 2) (eval_of ev) 27 _ _ _ m2 Tryd.underlying27 rfl size25 ?_
            exact ⟨v6, (.agg #[.bool ((n1 != n2) && decide (q + 1 ≠ 0)), pv]), v70, by rw [ha]; kernel_rfl, mB, m2, m3, mQ, mR, fun _ => rfl, fun h => f1 (h.resolve_left (by decide)), fun h => f4 (h.resolve_left (by decide))⟩
          | 1, ho =>
            cases Option.some.inj ho
            have ev : a.tmps[5]?.getD undef = .pointer (some ⟨w.heap.size + 3, 0, none⟩) := by rw [ha]; kernel_rfl
            refine wp_load_row 27 (.tmp 5) rfl (w.heap.size + 3) (eval_of ev) 27 _ _ _ m3 Tryd.underlying27 rfl size25 ?_
            exact ⟨v6, v69, (.agg #[.bool (n2 && decide (val8 ys - r ≠ 0)), rv]), by rw [ha]; kernel_rfl, mB, m2, m3, mQ, mR, fun h => f0 (h.resolve_left (by decide)), fun _ => rfl, fun h => f4 (h.resolve_left (by decide))⟩
          | 2, ho =>
            cases Option.some.inj ho
            have ev : a.tmps[4]?.getD undef = .pointer (some ⟨w.heap.size + 2, 0, none⟩) := by rw [ha]; kernel_rfl
            have ev' : a.tmps[69]?.getD undef = .agg #[.bool ((n1 != n2) && decide (q + 1 ≠ 0)), pv] := by rw [ha, f0 (hd ⟨0, .data⟩ (by simp) rfl)]; kernel_rfl
            have oc := mQ.2
            obtain ⟨av, cv, rfl, _⟩ := oc
            refine wp_store_row 27 (.tmp 4) (.tmp 69) rfl (w.heap.size + 2) _ (eval_of ev) (eval_of ev') 27 _ m2 size25 rfl (by simp [Value.oneCell']) ?_
            exact ⟨v6, v69, v70, by rw [ha]; kernel_rfl, below_setRow mB (by omega) _, setRow_heap _ _ _ _ _ _ m2, (setRow_other _ _ _ _ (by omega)).trans m3, ownB_setRow mQ (by omega), ownB_setRow mR (by omega), fun h => f0 (h.resolve_left (by decide)), fun h => f1 (h.resolve_left (by decide)), fun h => f4 (h.resolve_left (by decide))⟩
          | 3, ho =>
            cases Option.some.inj ho
            have ev : a.tmps[5]?.getD undef = .pointer (some ⟨w.heap.size + 3, 0, none⟩) := by rw [ha]; kernel_rfl
            have ev' : a.tmps[70]?.getD undef = .agg #[.bool (n2 && decide (val8 ys - r ≠ 0)), rv] := by rw [ha, f1 (hd ⟨1, .data⟩ (by simp) rfl)]; kernel_rfl
            have oc := mR.2
            obtain ⟨av, cv, rfl, _⟩ := oc
            refine wp_store_row 27 (.tmp 5) (.tmp 70) rfl (w.heap.size + 3) _ (eval_of ev) (eval_of ev') 27 _ m3 size25 rfl (by simp [Value.oneCell']) ?_
            exact ⟨v6, v69, v70, by rw [ha]; kernel_rfl, below_setRow mB (by omega) _, (setRow_other _ _ _ _ (by omega)).trans m2, setRow_heap _ _ _ _ _ _ m3, ownB_setRow mQ (by omega), ownB_setRow mR (by omega), fun h => f0 (h.resolve_left (by decide)), fun h => f1 (h.resolve_left (by decide)), fun h => f4 (h.resolve_left (by decide))⟩
          | 4, ho =>
            cases Option.some.inj ho
            refine wp_value (w' := w') (v := .int .i64 0) (by simp [execOp, go_sem]) ?_
            exact ⟨(.int .i64 0), v69, v70, by rw [ha]; kernel_rfl, mB, m2, m3, mQ, mR, fun h => f0 (h.resolve_left (by decide)), fun h => f1 (h.resolve_left (by decide)), fun _ => rfl⟩
          | i + 5, ho => simp at ho
        case done =>
          rintro D a w' ⟨v6, v69, v70, ha, mB, m2, m3, mQ, mR, f0, f1, f4⟩ hall
          obtain rfl := f4 (hall 4 (by decide))
          obtain ⟨p0, p1, _, _⟩ := intVar m2
          obtain ⟨q0, q1, _, _⟩ := intVar m3
          clear f0 f1 hall
          rw [ha]
          clear ha
          simp only [Act.put, List.setIfInBounds_toArray, List.set_cons_zero, List.set_cons_succ]
          go_wp2
          exact bodyPost_ret (v := .tuple #[.agg #[.bool ((n1 != n2) && decide (q + 1 ≠ 0)), pv], .agg #[.bool (n2 && decide (val8 ys - r ≠ 0)), rv], .int .i64 0]) (by simp [results, Tryd.results27, go_sem, p0, p1, q0, q1]) rfl ⟨pv, rv, by simp [Hqn.out, Hrn.out, hn12], by rw [Hqn.out]; exact mQ.mono (by omega), by rw [Hrn.out]; exact mR.mono (by omega), mB⟩
end Go.Proofs.YtgammgdckneoiacDoor
