/- addSigned: two numbers together, of which nought may have any sign. -/
import Derived.Test.YtkpngpongbpfgaaSum
import Derived.Test.YtkpngpongbpfgaaLoad
import Derived.Test.YtkpngpongbpfgaaOper
import Derived.Deep.WholeRow
namespace Go.Proofs.Ytkpngpongbpfgaa
open Go.RowKit
theorem run_all (a : Addr) (w : World) : (Instr.sliceAt 103 (.pointer (some a)) none none none).run Try.prog w = .ok (.slice (some a) 32 32) w := by
  have hl : Try.prog.arrayLen 103 = 32 := by kernel_rfl
  have he : Try.prog.elem 103 = 96 := by kernel_rfl
  have ht : Try.prog.underlying 103 = some (.array (Try.prog.arrayLen 103) (Try.prog.elem 103)) := by rw [hl, he]; exact Try.underlying103
  have hs : (Try.prog.info? 96).map (·.size) = some 1 := by kernel_rfl
  have hz : (sizeOf 96).run Try.prog w = .ok 1 w := by
    cases hq : Try.prog.info? 96 with
    | none => simp [hq] at hs
    | some i => simp [hq] at hs; simp [sizeOf, typeInfo, hq, hs]
  rw [run_sliceAt_array_all w 103 a ht, he, hz, hl]
  simp [slicedAt, Result.andThen, Addr.add]
theorem size25 {u v : Value} : (Try.prog.info? 28).map (·.size) = some (#[u, v] : Array Value).size := by
  have : (Try.prog.info? 28).map (·.size) = some 2 := by kernel_rfl
  exact this
theorem ownB_setRow {w : World} {base b : Nat} {v : Value} {xs : List Int} {C : Array Value} (h : OwnB w base v xs) (hb : b < base) : OwnB (w.setRow b C) base v xs := by
  have hbyte : ∀ x ∈ xs, 0 ≤ x ∧ x < 256 := by obtain ⟨_, _, _, _, hB⟩ := h; exact hB.byte
  obtain ⟨h1, h2⟩ := h.1
  refine ownB_of (n := xs.length) ⟨h1, ?_⟩ hbyte
  rcases h2 with h2 | ⟨g, cap, cur, hv, hg, hh, h3⟩
  · exact .inl h2
  · exact .inr ⟨g, cap, cur, hv, hg, (setRow_other w b g C (by omega)).trans hh, h3⟩
theorem OwnB.drew1 {w : World} {base : Nat} {v : Value} {xs : List Int} (h : OwnB w base v xs) : OwnB { w with drawn := w.drawn + 1 } base v xs := h.below (Below.refl _ _).drew
theorem eval_of {a : Act} {k : Nat} {v : Value} (h : a.tmps[k]?.getD undef = v) : a.eval (.tmp k) = v := by simpa [Act.eval] using h
theorem run_alloc67 (a : Act) (w : World) {o : Oper} (ho : o.op = .alloc 103) : (execOp a.eval o).run Try.prog w = .ok (.value (.pointer (some ⟨w.heap.size, 0, none⟩))) (w.alloc (.cells (cellsW (words 32 0)) 103)) := by
  have hz := (zero_of_info (v := .agg (cellsW (words 32 0))) (n := 32) (t := 103) (P := Try.prog) (by rw [← zero32]; kernel_rfl)).1
  simp [execOp, ho, go_sem, hz]
theorem alloc3 (w : World) (o0 o1 o2 : Obj) :
    (((w.alloc o0).alloc o1).alloc o2).heap[w.heap.size]? = some o0 ∧ (((w.alloc o0).alloc o1).alloc o2).heap[w.heap.size + 1]? = some o1 ∧ (((w.alloc o0).alloc o1).alloc o2).heap[w.heap.size + 2]? = some o2 ∧ Below w.heap.size w (((w.alloc o0).alloc o1).alloc o2) ∧ (((w.alloc o0).alloc o1).alloc o2).heap.size = w.heap.size + 3 := by
  have s2 : ((w.alloc o0).alloc o1).heap.size = w.heap.size + 2 := by simp
  have e2 := heap_alloc_new ((w.alloc o0).alloc o1) o2
  rw [s2] at e2
  exact ⟨(Below.heap_alloc _ _ _ (by simp; omega)).trans (heap_alloc2_old w _ _), (Below.heap_alloc _ _ _ (by simp)).trans (heap_alloc2_new w _ _), e2, (box2 w _ _).alloc (by simp; omega) _, by simp⟩

theorem run_all85 (a : Addr) (w : World) : (Instr.sliceAt 113 (.pointer (some a)) none none none).run Try.prog w = .ok (.slice (some a) 33 33) w := by
  have hl : Try.prog.arrayLen 113 = 33 := by kernel_rfl
  have he : Try.prog.elem 113 = 96 := by kernel_rfl
  have ht : Try.prog.underlying 113 = some (.array (Try.prog.arrayLen 113) (Try.prog.elem 113)) := by rw [hl, he]; exact Try.underlying113
  have hs : (Try.prog.info? 96).map (·.size) = some 1 := by kernel_rfl
  have hz : (sizeOf 96).run Try.prog w = .ok 1 w := by
    cases hq : Try.prog.info? 96 with
    | none => simp [hq] at hs
    | some i => simp [hq] at hs; simp [sizeOf, typeInfo, hq, hs]
  rw [run_sliceAt_array_all w 113 a ht, he, hz, hl]
  simp [slicedAt, Result.andThen, Addr.add]
/-- What is made of a number that may be too large. -/
def fitB (neg : Bool) (V : Nat) : Bool := neg && decide (V ≠ 0) && decide (blen V ≤ 128)
def fitE (V : Nat) : Int := if blen V ≤ 128 then 0 else 24
def fitM (V : Nat) : List Int := if blen V ≤ 128 then mag V else []
theorem pack_any {b off len cap V : Nat} {ws : List Int} {w : World} (neg : Bool) (h : IsW w (some ⟨b, off, none⟩) len cap ws) (hl : len ≤ 1000) (hv : val32 ws = V) :
    Calls Try.prog 71 #[.bool neg, .slice (some ⟨b, off, none⟩) len cap] w fun e w' => ∃ v, e = .returned (.tuple #[.agg #[.bool (fitB neg V), v], .int .i64 (fitE V)]) ∧ OwnB w' w.heap.size v (fitM V) ∧ Below w.heap.size w w' := by
  by_cases hm : blen V ≤ 128
  · refine (pack_fit neg h hl hv hm).mono ?_
    rintro e w' ⟨v, rfl, hO, hb⟩
    refine ⟨v, ?_, ?_, hb⟩
    · unfold fitB fitE; rw [if_pos hm, decide_eq_true hm, Bool.and_true]
    · unfold fitM; rw [if_pos hm]; exact hO
  · subst hv
    have hVl : val32 ws < 4294967296 ^ len := by rw [← h.size]; exact val32_lt ws h.word
    have hb4 : blen (val32 ws) ≤ 4 * len := (blen_le _ _).2 (by rw [Nat.pow_mul]; exact hVl)
    refine (pack_large neg h hl (by omega) (by omega)).mono ?_
    rintro e w' ⟨rfl, hb⟩
    refine ⟨.slice none 0 0, ?_, ?_, hb⟩
    · unfold fitB fitE; rw [if_neg hm, decide_eq_false hm, Bool.and_false]
    · unfold fitM; rw [if_neg hm]; exact ownB_of (n := 0) (World.ownsRow_nil _ _ _ _) (by simp)

/-- The sum of two numbers with signs: its sign, and how far it is from nought. -/
def sumNeg (n1 n2 : Bool) (X Y : Nat) : Bool := if n1 = n2 then n1 else if X < Y then n2 else n1
def sumMag (n1 n2 : Bool) (X Y : Nat) : Nat := if n1 = n2 then X + Y else if X < Y then Y - X else X - Y

set_option maxRecDepth 100000 in
set_option maxHeartbeats 8000000 in
theorem addSigned_any {a1 a2 : Option Addr} {l1 l2 c1 c2 : Nat} {xs ys : List Int} {w : World} (n1 n2 : Bool) (h1 : IsB w a1 l1 c1 xs) (h2 : IsB w a2 l2 c2 ys) (d1 : Lead xs) (d2 : Lead ys) (m1 : l1 ≤ 128) (m2 : l2 ≤ 128) :
    Calls Try.prog 72 #[.agg #[.bool n1, .slice a1 l1 c1], .agg #[.bool n2, .slice a2 l2 c2]] w fun e w' => ∃ v, e = .returned (.tuple #[.agg #[.bool (fitB (sumNeg n1 n2 (val8 xs) (val8 ys)) (sumMag n1 n2 (val8 xs) (val8 ys))), v], .int .i64 (fitE (sumMag n1 n2 (val8 xs) (val8 ys)))]) ∧
      OwnB w' w.heap.size v (fitM (sumMag n1 n2 (val8 xs) (val8 ys))) ∧ Below w.heap.size w w' := by
  go_enter Try.func72, Try.ntmps72
  go_wp2
  obtain ⟨z0, z1, z2, hb, hs3⟩ := alloc3 w (.cells #[.bool n1, .slice a1 l1 c1] 28) (.cells #[.bool n2, .slice a2 l2 c2] 28) (.cells #[.bool false, .slice none 0 0] 28)
  have kx := h1.below hb
  have ky := h2.below hb
  generalize (((w.alloc (.cells #[.bool n1, .slice a1 l1 c1] 28)).alloc (.cells #[.bool n2, .slice a2 l2 c2] 28)).alloc (.cells #[.bool false, .slice none 0 0] 28)) = wb at *
  refine wp_region_inv' (fun A D a w' => ∃ v6 v7 v11 v12 v13 v14 v15 v16 b6 b7 z6 z7, a = ((((((((A.put (some 6) v6).put (some 7) v7).put (some 11) v11).put (some 12) v12).put (some 13) v13).put (some 14) v14).put (some 15) v15).put (some 16) v16) ∧ Below wb.heap.size wb w' ∧
    (D 0 → v11 = .pointer (some ⟨w.heap.size, 1, none⟩)) ∧ (D 1 → v12 = .slice a1 l1 c1) ∧ (D 2 → v13 = W 32 (val8 xs)) ∧ (D 3 → v14 = .pointer (some ⟨w.heap.size + 1, 1, none⟩)) ∧
    (D 4 → v15 = .slice a2 l2 c2) ∧ (D 5 → v16 = W 32 (val8 ys)) ∧
    (D 6 → v6 = .pointer (some ⟨b6, 0, none⟩) ∧ wb.heap.size ≤ b6 ∧ Arr w' b6 103 z6 ∧ z6.length = 32) ∧ (D 7 → v7 = .pointer (some ⟨b7, 0, none⟩) ∧ wb.heap.size ≤ b7 ∧ Arr w' b7 103 z7 ∧ z7.length = 32) ∧
    (D 6 → D 7 → b6 ≠ b7) ∧ (D 8 → z6 = words 32 (val8 xs)) ∧ (D 9 → z7 = words 32 (val8 ys))) (by kernel_rfl) (by kernel_rfl) ?mono ?start ?step ?done
  case mono =>
    rintro D D' a w' hD ⟨v6, v7, v11, v12, v13, v14, v15, v16, b6, b7, z6, z7, ha, hB, e0, e1, e2, e3, e4, e5, p6, p7, hne, q6, q7⟩
    exact ⟨v6, v7, v11, v12, v13, v14, v15, v16, b6, b7, z6, z7, ha, hB, fun h => e0 ((hD 0).2 h), fun h => e1 ((hD 1).2 h), fun h => e2 ((hD 2).2 h), fun h => e3 ((hD 3).2 h), fun h => e4 ((hD 4).2 h), fun h => e5 ((hD 5).2 h), fun h => p6 ((hD 6).2 h), fun h => p7 ((hD 7).2 h), fun h h' => hne ((hD 6).2 h) ((hD 7).2 h'), fun h => q6 ((hD 8).2 h), fun h => q7 ((hD 9).2 h)⟩
  case start => exact ⟨undef, undef, undef, undef, undef, undef, undef, undef, 0, 0, [], [], by kernel_rfl, (Below.refl _ _).drew, fun h => h.elim, fun h => h.elim, fun h => h.elim, fun h => h.elim, fun h => h.elim, fun h => h.elim, fun h => h.elim, fun h => h.elim, fun h => h.elim, fun h => h.elim, fun h => h.elim⟩
  case step =>
    intro i o ho D a w' hI hn hcl hd
    obtain ⟨v6, v7, v11, v12, v13, v14, v15, v16, b6, b7, z6, z7, ha, hB, e0, e1, e2, e3, e4, e5, p6, p7, hne, q6, q7⟩ := hI
    match i, ho with
    | 0, ho =>
      cases Option.some.inj ho
      have ev : a.tmps[2]?.getD undef = .pointer (some ⟨w.heap.size, 0, none⟩) := by rw [ha]; kernel_rfl
      refine wp_value (w' := w') (v := .pointer (some ⟨w.heap.size, 1, none⟩)) (by simp [execOp, ev, go_sem]) ?_
      exact ⟨v6, v7, (.pointer (some ⟨w.heap.size, 1, none⟩)), v12, v13, v14, v15, v16, b6, b7, z6, z7, by rw [ha]; kernel_rfl, hB, fun _ => rfl, fun h => e1 (h.resolve_left (by decide)), fun h => e2 (h.resolve_left (by decide)), fun h => e3 (h.resolve_left (by decide)), fun h => e4 (h.resolve_left (by decide)), fun h => e5 (h.resolve_left (by decide)), fun h => p6 (h.resolve_left (by decide)), fun h => p7 (h.resolve_left (by decide)), fun h h' => hne (h.resolve_left (by decide)) (h'.resolve_left (by decide)), fun h => q6 (h.resolve_left (by decide)), fun h => q7 (h.resolve_left (by decide))⟩
    | 1, ho =>
      cases Option.some.inj ho
      have ev : a.tmps[11]?.getD undef = .pointer (some ⟨w.heap.size, 1, none⟩) := by rw [ha, e0 (hd ⟨0, .data⟩ (by simp) rfl)]; kernel_rfl
      have hc := (intVar ((hB.block _ (lt_of_block z0)).trans z0)).2.1
      rw [Nat.zero_add] at hc
      refine wp_value (w' := w') (v := .slice a1 l1 c1) (by simp [execOp, ev, go_sem, hc]) ?_
      exact ⟨v6, v7, v11, (.slice a1 l1 c1), v13, v14, v15, v16, b6, b7, z6, z7, by rw [ha]; kernel_rfl, hB, fun h => e0 (h.resolve_left (by decide)), fun _ => rfl, fun h => e2 (h.resolve_left (by decide)), fun h => e3 (h.resolve_left (by decide)), fun h => e4 (h.resolve_left (by decide)), fun h => e5 (h.resolve_left (by decide)), fun h => p6 (h.resolve_left (by decide)), fun h => p7 (h.resolve_left (by decide)), fun h h' => hne (h.resolve_left (by decide)) (h'.resolve_left (by decide)), fun h => q6 (h.resolve_left (by decide)), fun h => q7 (h.resolve_left (by decide))⟩
    | 2, ho =>
      cases Option.some.inj ho
      have ev : a.tmps[12]?.getD undef = .slice a1 l1 c1 := by rw [ha, e1 (hd ⟨1, .data⟩ (by simp) rfl)]; kernel_rfl
      refine wp_enter (f := 74) (args := #[.slice a1 l1 c1]) (by simp [execOp, ev, go_sem]) ?_
      refine (load_any (kx.below hB) m1).mono ?_
      rintro e w6 ⟨rfl, HB⟩
      refine ⟨_, rfl, ?_⟩
      exact ⟨v6, v7, v11, v12, (W 32 (val8 xs)), v14, v15, v16, b6, b7, z6, z7, by rw [ha]; kernel_rfl, below_size hB (Nat.le_refl _) HB, fun h => e0 (h.resolve_left (by decide)), fun h => e1 (h.resolve_left (by decide)), fun _ => rfl, fun h => e3 (h.resolve_left (by decide)), fun h => e4 (h.resolve_left (by decide)), fun h => e5 (h.resolve_left (by decide)), fun h => ⟨(p6 (h.resolve_left (by decide))).1, (p6 (h.resolve_left (by decide))).2.1, (p6 (h.resolve_left (by decide))).2.2.1.below HB (p6 (h.resolve_left (by decide))).2.2.1.lt, (p6 (h.resolve_left (by decide))).2.2.2⟩, fun h => ⟨(p7 (h.resolve_left (by decide))).1, (p7 (h.resolve_left (by decide))).2.1, (p7 (h.resolve_left (by decide))).2.2.1.below HB (p7 (h.resolve_left (by decide))).2.2.1.lt, (p7 (h.resolve_left (by decide))).2.2.2⟩, fun h h' => hne (h.resolve_left (by decide)) (h'.resolve_left (by decide)), fun h => q6 (h.resolve_left (by decide)), fun h => q7 (h.resolve_left (by decide))⟩
    | 3, ho =>
      cases Option.some.inj ho
      have ev : a.tmps[3]?.getD undef = .pointer (some ⟨w.heap.size + 1, 0, none⟩) := by rw [ha]; kernel_rfl
      refine wp_value (w' := w') (v := .pointer (some ⟨w.heap.size + 1, 1, none⟩)) (by simp [execOp, ev, go_sem]) ?_
      exact ⟨v6, v7, v11, v12, v13, (.pointer (some ⟨w.heap.size + 1, 1, none⟩)), v15, v16, b6, b7, z6, z7, by rw [ha]; kernel_rfl, hB, fun h => e0 (h.resolve_left (by decide)), fun h => e1 (h.resolve_left (by decide)), fun h => e2 (h.resolve_left (by decide)), fun _ => rfl, fun h => e4 (h.resolve_left (by decide)), fun h => e5 (h.resolve_left (by decide)), fun h => p6 (h.resolve_left (by decide)), fun h => p7 (h.resolve_left (by decide)), fun h h' => hne (h.resolve_left (by decide)) (h'.resolve_left (by decide)), fun h => q6 (h.resolve_left (by decide)), fun h => q7 (h.resolve_left (by decide))⟩
    | 4, ho =>
      cases Option.some.inj ho
      have ev : a.tmps[14]?.getD undef = .pointer (some ⟨w.heap.size + 1, 1, none⟩) := by rw [ha, e3 (hd ⟨3, .data⟩ (by simp) rfl)]; kernel_rfl
      have hc := (intVar ((hB.block _ (lt_of_block z1)).trans z1)).2.1
      rw [Nat.zero_add] at hc
      refine wp_value (w' := w') (v := .slice a2 l2 c2) (by simp [execOp, ev, go_sem, hc]) ?_
      exact ⟨v6, v7, v11, v12, v13, v14, (.slice a2 l2 c2), v16, b6, b7, z6, z7, by rw [ha]; kernel_rfl, hB, fun h => e0 (h.resolve_left (by decide)), fun h => e1 (h.resolve_left (by decide)), fun h => e2 (h.resolve_left (by decide)), fun h => e3 (h.resolve_left (by decide)), fun _ => rfl, fun h => e5 (h.resolve_left (by decide)), fun h => p6 (h.resolve_left (by decide)), fun h => p7 (h.resolve_left (by decide)), fun h h' => hne (h.resolve_left (by decide)) (h'.resolve_left (by decide)), fun h => q6 (h.resolve_left (by decide)), fun h => q7 (h.resolve_left (by decide))⟩
    | 5, ho =>
      cases Option.some.inj ho
      have ev : a.tmps[15]?.getD undef = .slice a2 l2 c2 := by rw [ha, e4 (hd ⟨4, .data⟩ (by simp) rfl)]; kernel_rfl
      refine wp_enter (f := 74) (args := #[.slice a2 l2 c2]) (by simp [execOp, ev, go_sem]) ?_
      refine (load_any (ky.below hB) m2).mono ?_
      rintro e w6 ⟨rfl, HB⟩
      refine ⟨_, rfl, ?_⟩
      exact ⟨v6, v7, v11, v12, v13, v14, v15, (W 32 (val8 ys)), b6, b7, z6, z7, by rw [ha]; kernel_rfl, below_size hB (Nat.le_refl _) HB, fun h => e0 (h.resolve_left (by decide)), fun h => e1 (h.resolve_left (by decide)), fun h => e2 (h.resolve_left (by decide)), fun h => e3 (h.resolve_left (by decide)), fun h => e4 (h.resolve_left (by decide)), fun _ => rfl, fun h => ⟨(p6 (h.resolve_left (by decide))).1, (p6 (h.resolve_left (by decide))).2.1, (p6 (h.resolve_left (by decide))).2.2.1.below HB (p6 (h.resolve_left (by decide))).2.2.1.lt, (p6 (h.resolve_left (by decide))).2.2.2⟩, fun h => ⟨(p7 (h.resolve_left (by decide))).1, (p7 (h.resolve_left (by decide))).2.1, (p7 (h.resolve_left (by decide))).2.2.1.below HB (p7 (h.resolve_left (by decide))).2.2.1.lt, (p7 (h.resolve_left (by decide))).2.2.2⟩, fun h h' => hne (h.resolve_left (by decide)) (h'.resolve_left (by decide)), fun h => q6 (h.resolve_left (by decide)), fun h => q7 (h.resolve_left (by decide))⟩
    | 6, ho =>
      cases Option.some.inj ho
      have n8 : ¬ D 8 := fun h => hn (hcl 8 _ rfl h ⟨6, .data⟩ (by simp) rfl)
      refine wp_value (w' := w'.alloc (.cells (cellsW (words 32 0)) 103)) (v := .pointer (some ⟨w'.heap.size, 0, none⟩)) (run_alloc67 a w' rfl) ?_
      exact ⟨(.pointer (some ⟨w'.heap.size, 0, none⟩)), v7, v11, v12, v13, v14, v15, v16, w'.heap.size, b7, (words 32 0), z7, by rw [ha]; kernel_rfl, hB.alloc hB.size _, fun h => e0 (h.resolve_left (by decide)), fun h => e1 (h.resolve_left (by decide)), fun h => e2 (h.resolve_left (by decide)), fun h => e3 (h.resolve_left (by decide)), fun h => e4 (h.resolve_left (by decide)), fun h => e5 (h.resolve_left (by decide)), fun _ => ⟨rfl, hB.size, heap_alloc_new w' _, words_len _ _⟩, fun h => ⟨(p7 (h.resolve_left (by decide))).1, (p7 (h.resolve_left (by decide))).2.1, (p7 (h.resolve_left (by decide))).2.2.1.alloc _, (p7 (h.resolve_left (by decide))).2.2.2⟩, fun _ h' => Nat.ne_of_gt (p7 (h'.resolve_left (by decide))).2.2.1.lt, fun h => absurd (h.resolve_left (by decide)) n8, fun h => q7 (h.resolve_left (by decide))⟩
    | 7, ho =>
      cases Option.some.inj ho
      have n9 : ¬ D 9 := fun h => hn (hcl 9 _ rfl h ⟨7, .data⟩ (by simp) rfl)
      refine wp_value (w' := w'.alloc (.cells (cellsW (words 32 0)) 103)) (v := .pointer (some ⟨w'.heap.size, 0, none⟩)) (run_alloc67 a w' rfl) ?_
      exact ⟨v6, (.pointer (some ⟨w'.heap.size, 0, none⟩)), v11, v12, v13, v14, v15, v16, b6, w'.heap.size, z6, (words 32 0), by rw [ha]; kernel_rfl, hB.alloc hB.size _, fun h => e0 (h.resolve_left (by decide)), fun h => e1 (h.resolve_left (by decide)), fun h => e2 (h.resolve_left (by decide)), fun h => e3 (h.resolve_left (by decide)), fun h => e4 (h.resolve_left (by decide)), fun h => e5 (h.resolve_left (by decide)), fun h => ⟨(p6 (h.resolve_left (by decide))).1, (p6 (h.resolve_left (by decide))).2.1, (p6 (h.resolve_left (by decide))).2.2.1.alloc _, (p6 (h.resolve_left (by decide))).2.2.2⟩, fun _ => ⟨rfl, hB.size, heap_alloc_new w' _, words_len _ _⟩, fun h _ => Nat.ne_of_lt (p6 (h.resolve_left (by decide))).2.2.1.lt, fun h => q6 (h.resolve_left (by decide)), fun h => absurd (h.resolve_left (by decide)) n9⟩
    | 8, ho =>
      cases Option.some.inj ho
      obtain ⟨rfl, hb6, A6, L6⟩ := p6 (hd ⟨6, .data⟩ (by simp) rfl)
      obtain rfl := e2 (hd ⟨2, .data⟩ (by simp) rfl)
      have hne' := hne (hd ⟨6, .data⟩ (by simp) rfl)
      refine wp_store_row 103 (.tmp 6) (.tmp 13) rfl b6 (cellsW (words 32 (val8 xs))) (by rw [ha]; kernel_rfl) (by rw [ha]; kernel_rfl) 103 _ A6 (size67 _) (by rw [cellsW_size, cellsW_size, words_len, L6]) (cellsW_one _) ?_
      exact ⟨(.pointer (some ⟨b6, 0, none⟩)), v7, v11, v12, (W 32 (val8 xs)), v14, v15, v16, b6, b7, (words 32 (val8 xs)), z7, by rw [ha]; kernel_rfl, below_setRow hB hb6 _, fun h => e0 (h.resolve_left (by decide)), fun h => e1 (h.resolve_left (by decide)), fun _ => rfl, fun h => e3 (h.resolve_left (by decide)), fun h => e4 (h.resolve_left (by decide)), fun h => e5 (h.resolve_left (by decide)), fun _ => ⟨rfl, hb6, A6.setW _, words_len _ _⟩, fun h => ⟨(p7 (h.resolve_left (by decide))).1, (p7 (h.resolve_left (by decide))).2.1, (p7 (h.resolve_left (by decide))).2.2.1.otherW _ (Ne.symm (hne' (h.resolve_left (by decide)))), (p7 (h.resolve_left (by decide))).2.2.2⟩, fun h h' => hne (h.resolve_left (by decide)) (h'.resolve_left (by decide)), fun _ => rfl, fun h => q7 (h.resolve_left (by decide))⟩
    | 9, ho =>
      cases Option.some.inj ho
      obtain ⟨rfl, hb7, A7, L7⟩ := p7 (hd ⟨7, .data⟩ (by simp) rfl)
      obtain rfl := e5 (hd ⟨5, .data⟩ (by simp) rfl)
      have hne' := fun h => hne h (hd ⟨7, .data⟩ (by simp) rfl)
      refine wp_store_row 103 (.tmp 7) (.tmp 16) rfl b7 (cellsW (words 32 (val8 ys))) (by rw [ha]; kernel_rfl) (by rw [ha]; kernel_rfl) 103 _ A7 (size67 _) (by rw [cellsW_size, cellsW_size, words_len, L7]) (cellsW_one _) ?_
      exact ⟨v6, (.pointer (some ⟨b7, 0, none⟩)), v11, v12, v13, v14, v15, (W 32 (val8 ys)), b6, b7, z6, (words 32 (val8 ys)), by rw [ha]; kernel_rfl, below_setRow hB hb7 _, fun h => e0 (h.resolve_left (by decide)), fun h => e1 (h.resolve_left (by decide)), fun h => e2 (h.resolve_left (by decide)), fun h => e3 (h.resolve_left (by decide)), fun h => e4 (h.resolve_left (by decide)), fun _ => rfl, fun h => ⟨(p6 (h.resolve_left (by decide))).1, (p6 (h.resolve_left (by decide))).2.1, (p6 (h.resolve_left (by decide))).2.2.1.otherW _ (hne' (h.resolve_left (by decide))), (p6 (h.resolve_left (by decide))).2.2.2⟩, fun _ => ⟨rfl, hb7, A7.setW _, words_len _ _⟩, fun h h' => hne (h.resolve_left (by decide)) (h'.resolve_left (by decide)), fun h => q6 (h.resolve_left (by decide)), fun _ => rfl⟩
    | i + 10, ho => simp at ho
  case done =>
    rintro D a w' ⟨v6, v7, v11, v12, v13, v14, v15, v16, b6, b7, z6, z7, ha, hB, e0, e1, e2, e3, e4, e5, p6, p7, hne, q6, q7⟩ hall
    obtain ⟨rfl, hb6, A6, L6⟩ := p6 (hall 6 (by decide))
    obtain ⟨rfl, hb7, A7, L7⟩ := p7 (hall 7 (by decide))
    obtain rfl := q6 (hall 8 (by decide))
    obtain rfl := q7 (hall 9 (by decide))
    have hne' := hne (hall 6 (by decide)) (hall 7 (by decide))
    clear e0 e1 e2 e3 e4 e5 p6 p7 q6 q7 hne hall L6 L7
    replace z0 := (hB.block _ (lt_of_block z0)).trans z0
    replace z1 := (hB.block _ (lt_of_block z1)).trans z1
    replace z2 := (hB.block _ (lt_of_block z2)).trans z2
    have jx := kx.below hB
    have jy := ky.below hB
    have hBB := hb.trans (hB.mono hb.size)
    have hszw := hB.size
    rw [hs3] at hszw hb6 hb7
    clear hB hb kx ky hs3
    rw [ha]
    clear ha
    simp only [Act.put, List.setIfInBounds_toArray, List.set_cons_zero, List.set_cons_succ]
    obtain ⟨x0, x1, _, _⟩ := intVar z0
    obtain ⟨y0, y1, _, _⟩ := intVar z1
    have hX : val8 xs < 256 ^ 128 := Nat.lt_of_lt_of_le (val8_lt xs h1.byte) (Nat.pow_le_pow_right (by decide) (by rw [h1.size]; exact m1))
    have hY : val8 ys < 256 ^ 128 := Nat.lt_of_lt_of_le (val8_lt ys h2.byte) (Nat.pow_le_pow_right (by decide) (by rw [h2.size]; exact m2))
    have hXb : val8 xs < 4294967296 ^ 32 := Nat.lt_of_lt_of_le hX (by decide)
    have hYb : val8 ys < 4294967296 ^ 32 := Nat.lt_of_lt_of_le hY (by decide)
    by_cases hn : n1 = n2
    · subst hn
      have Hs : Hid (sumMag n1 n1 (val8 xs) (val8 ys) = val8 xs + val8 ys) := by show _ = _; unfold sumMag; rw [if_pos rfl]
      have Hn : Hid (sumNeg n1 n1 (val8 xs) (val8 ys) = n1) := by show _ = _; unfold sumNeg; rw [if_pos rfl]
      have hVb : val8 xs + val8 ys < 4294967296 ^ 33 := by
        have : (4294967296 : Nat) ^ 32 + 4294967296 ^ 32 ≤ 4294967296 ^ 33 := by decide
        omega
      clear hX hY
      go_wp2_with (first | refine wpList_load_row rfl 103 (.tmp 6) rfl b6 rfl 103 _ _ _ A6 Try.underlying103 rfl (size67 _) ?_ | refine wpList_load_row rfl 103 (.tmp 7) rfl b7 rfl 103 _ _ _ A7 Try.underlying103 rfl (size67 _) ?_)
      refine (sum_any (val8 xs) (val8 ys) w' hXb hYb).mono ?_
      rintro e w5 ⟨rfl, hb5⟩
      generalize val8 xs + val8 ys = S at *
      have a8 : Arr (w5.alloc (.cells (cellsW (words 33 0)) 113)) w5.heap.size 113 (words 33 0) := heap_alloc_new w5 _
      have a8' := a8.setW (words 33 S)
      have hB5 := below_setRow ((below_size hBB (Nat.le_refl _) hb5).alloc (below_size hBB (Nat.le_refl _) hb5).size (.cells (cellsW (words 33 0)) 113)) (below_size hBB (Nat.le_refl _) hb5).size (cellsW (words 33 S))
      have t0 := (hb5.block _ (lt_of_block z0)).trans z0
      have t2 := (hb5.block _ (lt_of_block z2)).trans z2
      have f0 := (setRow_other (w5.alloc (.cells (cellsW (words 33 0)) 113)) w5.heap.size w.heap.size (cellsW (words 33 S)) (Nat.ne_of_lt (lt_of_block t0))).trans ((Below.heap_alloc _ _ _ (lt_of_block t0)).trans t0)
      have f2 := (setRow_other (w5.alloc (.cells (cellsW (words 33 0)) 113)) w5.heap.size (w.heap.size + 2) (cellsW (words 33 S)) (Nat.ne_of_lt (lt_of_block t2))).trans ((Below.heap_alloc _ _ _ (lt_of_block t2)).trans t2)
      have hsz5 : w.heap.size + 3 ≤ ((w5.alloc (.cells (cellsW (words 33 0)) 113)).setRow w5.heap.size (cellsW (words 33 S))).heap.size := by have := hb5.size; simp; omega
      have hb8 : w.heap.size + 3 ≤ w5.heap.size := by have := hb5.size; omega
      unfold W
      have hz85 := (zero_of_info (v := .agg (cellsW (words 33 0))) (n := 33) (t := 113) (P := Try.prog) (by rw [← zero33]; kernel_rfl)).1
      go_wp2_with (refine wpList_store_row rfl 113 _ _ rfl w5.heap.size _ rfl rfl 113 _ a8 (size85 _) (by rw [cellsW_size, cellsW_size, words_len, words_len]) (cellsW_one _) ?_)
      clear hz85
      clear z0 z1 z2 x0 x1 y0 y1 A6 A7 t0 t2 hBB hb5 a8
      generalize (w5.alloc (.cells (cellsW (words 33 0)) 113)).setRow w5.heap.size (cellsW (words 33 S)) = w8 at *
      generalize w5.heap.size = b8 at *
      refine wp_region_inv' (fun A D a w' => ∃ v5 v25 v26 v27 v28 v29 v30 pv u0 u1, a = (((((((A.put (some 5) v5).put (some 25) v25).put (some 26) v26).put (some 27) v27).put (some 28) v28).put (some 29) v29).put (some 30) v30) ∧ Below w.heap.size w w' ∧ w.heap.size + 3 ≤ w'.heap.size ∧ w'.heap[w.heap.size]? = some (.cells #[.bool n1, .slice a1 l1 c1] 28 (0, 0)) ∧ w'.heap[w.heap.size + 2]? = some (.cells #[u0, u1] 28 (0, 0)) ∧ Arr w' b8 113 (words 33 S) ∧ (D 0 → v25 = .pointer (some ⟨w.heap.size, 0, none⟩)) ∧ (D 1 → v26 = .bool n1) ∧ (D 2 → v27 = .slice (some ⟨b8, 0, none⟩) 33 33) ∧ (D 3 → v28 = .tuple #[.agg #[.bool (fitB n1 S), pv], .int .i64 (fitE S)]) ∧ (D 4 → v29 = .agg #[.bool (fitB n1 S), pv]) ∧ (D 5 → v30 = .int .i64 (fitE S)) ∧ (D 3 → OwnB w' (w.heap.size + 3) pv (fitM S)) ∧ (D 6 → u0 = .bool (fitB n1 S) ∧ u1 = pv) ∧ (D 7 → v5 = .int .i64 (fitE S))) (by kernel_rfl) (by kernel_rfl) ?mono ?start ?step ?done
      case mono =>
        rintro D D' a w' hD ⟨v5, v25, v26, v27, v28, v29, v30, pv, u0, u1, ha, hB, hsz, k0, k2, kA, e0, e1, e2, e3, e4, e5, o3, u6, f7⟩
        exact ⟨v5, v25, v26, v27, v28, v29, v30, pv, u0, u1, ha, hB, hsz, k0, k2, kA, fun h => e0 ((hD 0).2 h), fun h => e1 ((hD 1).2 h), fun h => e2 ((hD 2).2 h), fun h => e3 ((hD 3).2 h), fun h => e4 ((hD 4).2 h), fun h => e5 ((hD 5).2 h), fun h => o3 ((hD 3).2 h), fun h => u6 ((hD 6).2 h), fun h => f7 ((hD 7).2 h)⟩
      case start => exact ⟨(.int .i64 0), undef, undef, undef, undef, undef, undef, undef, _, _, by kernel_rfl, hB5.drew, hsz5, f0, f2, a8', fun h => h.elim, fun h => h.elim, fun h => h.elim, fun h => h.elim, fun h => h.elim, fun h => h.elim, fun h => h.elim, fun h => h.elim, fun h => h.elim⟩
      case step =>
        intro i o ho D a w' hI hn hcl hd
        obtain ⟨v5, v25, v26, v27, v28, v29, v30, pv, u0, u1, ha, hB, hsz, k0, k2, kA, e0, e1, e2, e3, e4, e5, o3, u6, f7⟩ := hI
        match i, ho with
        | 0, ho =>
          cases Option.some.inj ho
          have ev : a.tmps[2]?.getD undef = .pointer (some ⟨w.heap.size, 0, none⟩) := by rw [ha]; kernel_rfl
          refine wp_value (w' := w') (v := .pointer (some ⟨w.heap.size, 0, none⟩)) (by simp [execOp, ev, go_sem]) ?_
          exact ⟨v5, (.pointer (some ⟨w.heap.size, 0, none⟩)), v26, v27, v28, v29, v30, pv, u0, u1, by rw [ha]; kernel_rfl, hB, hsz, k0, k2, kA, fun _ => rfl, fun h => e1 (h.resolve_left (by decide)), fun h => e2 (h.resolve_left (by decide)), fun h => e3 (h.resolve_left (by decide)), fun h => e4 (h.resolve_left (by decide)), fun h => e5 (h.resolve_left (by decide)), fun h => o3 (h.resolve_left (by decide)), fun h => u6 (h.resolve_left (by decide)), fun h => f7 (h.resolve_left (by decide))⟩
        | 1, ho =>
          cases Option.some.inj ho
          have ev : a.tmps[25]?.getD undef = .pointer (some ⟨w.heap.size, 0, none⟩) := by rw [ha, e0 (hd ⟨0, .data⟩ (by simp) rfl)]; kernel_rfl
          have hc := (intVar k0).1
          refine wp_value (w' := w') (v := .bool n1) (by simp [execOp, ev, go_sem, hc]) ?_
          exact ⟨v5, v25, (.bool n1), v27, v28, v29, v30, pv, u0, u1, by rw [ha]; kernel_rfl, hB, hsz, k0, k2, kA, fun h => e0 (h.resolve_left (by decide)), fun _ => rfl, fun h => e2 (h.resolve_left (by decide)), fun h => e3 (h.resolve_left (by decide)), fun h => e4 (h.resolve_left (by decide)), fun h => e5 (h.resolve_left (by decide)), fun h => o3 (h.resolve_left (by decide)), fun h => u6 (h.resolve_left (by decide)), fun h => f7 (h.resolve_left (by decide))⟩
        | 2, ho =>
          cases Option.some.inj ho
          have ev : a.tmps[8]?.getD undef = .pointer (some ⟨b8, 0, none⟩) := by rw [ha]; kernel_rfl
          have hs := run_all85 ⟨b8, 0, none⟩ w'
          refine wp_value (w' := w') (v := .slice (some ⟨b8, 0, none⟩) 33 33) (by simp [execOp, ev, hs, go_sem]) ?_
          exact ⟨v5, v25, v26, (.slice (some ⟨b8, 0, none⟩) 33 33), v28, v29, v30, pv, u0, u1, by rw [ha]; kernel_rfl, hB, hsz, k0, k2, kA, fun h => e0 (h.resolve_left (by decide)), fun h => e1 (h.resolve_left (by decide)), fun _ => rfl, fun h => e3 (h.resolve_left (by decide)), fun h => e4 (h.resolve_left (by decide)), fun h => e5 (h.resolve_left (by decide)), fun h => o3 (h.resolve_left (by decide)), fun h => u6 (h.resolve_left (by decide)), fun h => f7 (h.resolve_left (by decide))⟩
        | 3, ho =>
          cases Option.some.inj ho
          have n4 : ¬ D 4 := fun h => hn (hcl 4 _ rfl h ⟨3, .data⟩ (by simp) rfl)
          have n6 : ¬ D 6 := fun h => n4 (hcl 6 _ rfl h ⟨4, .data⟩ (by simp) rfl)
          have ev : a.tmps[26]?.getD undef = .bool n1 := by rw [ha, e1 (hd ⟨1, .data⟩ (by simp) rfl)]; kernel_rfl
          have ev' : a.tmps[27]?.getD undef = .slice (some ⟨b8, 0, none⟩) 33 33 := by rw [ha, e2 (hd ⟨2, .data⟩ (by simp) rfl)]; kernel_rfl
          refine wp_enter (f := 71) (args := #[.bool n1, .slice (some ⟨b8, 0, none⟩) 33 33]) (by simp [execOp, ev, ev', go_sem]) ?_
          refine (pack_any n1 (Arr.isW kA (words_len _ _) (by decide) (words_lt _ _)) (by decide) (val32_words 33 _ hVb)).mono ?_
          rintro e w6 ⟨nv, rfl, hO, HB⟩
          refine ⟨_, rfl, ?_⟩
          exact ⟨v5, v25, v26, v27, (.tuple #[.agg #[.bool (fitB n1 S), nv], .int .i64 (fitE S)]), v29, v30, nv, u0, u1, by rw [ha]; kernel_rfl, below_size hB (Nat.le_refl _) HB, Nat.le_trans hsz HB.size, (HB.block _ (lt_of_block k0)).trans k0, (HB.block _ (lt_of_block k2)).trans k2, kA.below HB kA.lt, fun h => e0 (h.resolve_left (by decide)), fun h => e1 (h.resolve_left (by decide)), fun h => e2 (h.resolve_left (by decide)), fun _ => rfl, fun h => absurd (h.resolve_left (by decide)) n4, fun h => e5 (h.resolve_left (by decide)), fun _ => hO.mono hsz, fun h => absurd (h.resolve_left (by decide)) n6, fun h => f7 (h.resolve_left (by decide))⟩
        | 4, ho =>
          cases Option.some.inj ho
          have ev : a.tmps[28]?.getD undef = .tuple #[.agg #[.bool (fitB n1 S), pv], .int .i64 (fitE S)] := by rw [ha, e3 (hd ⟨3, .data⟩ (by simp) rfl)]; kernel_rfl
          refine wp_value (w' := w') (v := .agg #[.bool (fitB n1 S), pv]) (by simp [execOp, ev, go_sem]) ?_
          exact ⟨v5, v25, v26, v27, v28, (.agg #[.bool (fitB n1 S), pv]), v30, pv, u0, u1, by rw [ha]; kernel_rfl, hB, hsz, k0, k2, kA, fun h => e0 (h.resolve_left (by decide)), fun h => e1 (h.resolve_left (by decide)), fun h => e2 (h.resolve_left (by decide)), fun h => e3 (h.resolve_left (by decide)), fun _ => rfl, fun h => e5 (h.resolve_left (by decide)), fun h => o3 (h.resolve_left (by decide)), fun h => u6 (h.resolve_left (by decide)), fun h => f7 (h.resolve_left (by decide))⟩
        | 5, ho =>
          cases Option.some.inj ho
          have ev : a.tmps[28]?.getD undef = .tuple #[.agg #[.bool (fitB n1 S), pv], .int .i64 (fitE S)] := by rw [ha, e3 (hd ⟨3, .data⟩ (by simp) rfl)]; kernel_rfl
          refine wp_value (w' := w') (v := .int .i64 (fitE S)) (by simp [execOp, ev, go_sem]) ?_
          exact ⟨v5, v25, v26, v27, v28, v29, (.int .i64 (fitE S)), pv, u0, u1, by rw [ha]; kernel_rfl, hB, hsz, k0, k2, kA, fun h => e0 (h.resolve_left (by decide)), fun h => e1 (h.resolve_left (by decide)), fun h => e2 (h.resolve_left (by decide)), fun h => e3 (h.resolve_left (by decide)), fun h => e4 (h.resolve_left (by decide)), fun _ => rfl, fun h => o3 (h.resolve_left (by decide)), fun h => u6 (h.resolve_left (by decide)), fun h => f7 (h.resolve_left (by decide))⟩
        | 6, ho =>
          cases Option.some.inj ho
          have ev : a.tmps[29]?.getD undef = .agg #[.bool (fitB n1 S), pv] := by rw [ha, e4 (hd ⟨4, .data⟩ (by simp) rfl)]; kernel_rfl
          have ev' : a.tmps[4]?.getD undef = .pointer (some ⟨w.heap.size + 2, 0, none⟩) := by rw [ha]; kernel_rfl
          have hO := o3 (hd ⟨3, .chain⟩ (by simp) rfl)
          obtain ⟨av, cv, rfl, _⟩ := hO.2
          refine wp_store_row 28 (.tmp 4) (.tmp 29) rfl (w.heap.size + 2) _ (eval_of ev') (eval_of ev) 28 _ k2 size25 rfl (by simp [Value.oneCell']) ?_
          exact ⟨v5, v25, v26, v27, v28, v29, v30, _, (.bool (fitB n1 S)), _, by rw [ha]; kernel_rfl, below_setRow hB (by omega) _, (by simpa using hsz), (setRow_other _ _ _ _ (by omega)).trans k0, setRow_heap _ _ _ _ _ _ k2, kA.otherW _ (by omega), fun h => e0 (h.resolve_left (by decide)), fun h => e1 (h.resolve_left (by decide)), fun h => e2 (h.resolve_left (by decide)), fun h => e3 (h.resolve_left (by decide)), fun h => e4 (h.resolve_left (by decide)), fun h => e5 (h.resolve_left (by decide)), fun _ => ownB_setRow hO (by omega), fun _ => ⟨rfl, rfl⟩, fun h => f7 (h.resolve_left (by decide))⟩
        | 7, ho =>
          cases Option.some.inj ho
          have ev : a.tmps[30]?.getD undef = .int .i64 (fitE S) := by rw [ha, e5 (hd ⟨5, .data⟩ (by simp) rfl)]; kernel_rfl
          refine wp_value (w' := w') (v := .int .i64 (fitE S)) (by simp [execOp, ev, go_sem]) ?_
          exact ⟨(.int .i64 (fitE S)), v25, v26, v27, v28, v29, v30, pv, u0, u1, by rw [ha]; kernel_rfl, hB, hsz, k0, k2, kA, fun h => e0 (h.resolve_left (by decide)), fun h => e1 (h.resolve_left (by decide)), fun h => e2 (h.resolve_left (by decide)), fun h => e3 (h.resolve_left (by decide)), fun h => e4 (h.resolve_left (by decide)), fun h => e5 (h.resolve_left (by decide)), fun h => o3 (h.resolve_left (by decide)), fun h => u6 (h.resolve_left (by decide)), fun _ => rfl⟩
        | i + 8, ho => simp at ho
      case done =>
        rintro D a w' ⟨v5, v25, v26, v27, v28, v29, v30, pv, u0, u1, ha, hB, hsz, k0, k2, kA, e0, e1, e2, e3, e4, e5, o3, u6, f7⟩ hall
        have oV := o3 (hall 3 (by decide))
        obtain ⟨hu0, hu1⟩ := u6 (hall 6 (by decide))
        rw [hu0, hu1] at k2
        obtain rfl := f7 (hall 7 (by decide))
        clear hu0 hu1 e0 e1 e2 e3 e4 e5 o3 u6 f7 hall k0 kA
        obtain ⟨p0, p1, _, _⟩ := intVar k2
        rw [ha]
        clear ha
        simp only [Act.put, List.setIfInBounds_toArray, List.set_cons_zero, List.set_cons_succ]
        go_wp2
        exact bodyPost_ret (v := .tuple #[.agg #[.bool (fitB n1 S), pv], .int .i64 (fitE S)]) (by simp [results, Try.results72, go_sem, p0, p1]) rfl ⟨pv, by rw [Hs.out, Hn.out], by rw [Hs.out]; exact oV.mono (by omega), hB⟩
    · have hnb : (n1 == n2) = false := by cases n1 <;> cases n2 <;> first | rfl | exact absurd rfl hn
      go_wp2_with fail
      refine (compare_any jx jy d1 d2).mono ?_
      rintro e w4 ⟨rfl, rfl⟩
      by_cases hlt : val8 xs < val8 ys
      · have Hs : Hid (sumMag n1 n2 (val8 xs) (val8 ys) = val8 ys - val8 xs) := by show _ = _; unfold sumMag; rw [if_neg hn, if_pos hlt]
        have Hn : Hid (sumNeg n1 n2 (val8 xs) (val8 ys) = n2) := by show _ = _; unfold sumNeg; rw [if_neg hn, if_pos hlt]
        have hVb : val8 ys - val8 xs < 4294967296 ^ 32 := by omega
        have hsg : sgn (val8 xs) (val8 ys) = -1 := by unfold sgn; rw [if_pos hlt]
        rw [hsg]
        clear hX hY hsg
        go_wp2_with (first | refine wpList_load_row rfl 103 (.tmp 6) rfl b6 rfl 103 _ _ _ A6 Try.underlying103 rfl (size67 _) ?_ | refine wpList_load_row rfl 103 (.tmp 7) rfl b7 rfl 103 _ _ _ A7 Try.underlying103 rfl (size67 _) ?_)
        refine (diff_any (val8 ys) (val8 xs) w' (by omega)).mono ?_
        rintro e w5 ⟨rfl, hb5⟩
        generalize val8 ys - val8 xs = S at *
        have a8 : Arr (w5.alloc (.cells (cellsW (words 32 0)) 103)) w5.heap.size 103 (words 32 0) := heap_alloc_new w5 _
        have a8' := a8.setW (words 32 S)
        have hB5 := below_setRow ((below_size hBB (Nat.le_refl _) hb5).alloc (below_size hBB (Nat.le_refl _) hb5).size (.cells (cellsW (words 32 0)) 103)) (below_size hBB (Nat.le_refl _) hb5).size (cellsW (words 32 S))
        have t0 := (hb5.block _ (lt_of_block z1)).trans z1
        have t2 := (hb5.block _ (lt_of_block z2)).trans z2
        have f0 := (setRow_other (w5.alloc (.cells (cellsW (words 32 0)) 103)) w5.heap.size (w.heap.size + 1) (cellsW (words 32 S)) (Nat.ne_of_lt (lt_of_block t0))).trans ((Below.heap_alloc _ _ _ (lt_of_block t0)).trans t0)
        have f2 := (setRow_other (w5.alloc (.cells (cellsW (words 32 0)) 103)) w5.heap.size (w.heap.size + 2) (cellsW (words 32 S)) (Nat.ne_of_lt (lt_of_block t2))).trans ((Below.heap_alloc _ _ _ (lt_of_block t2)).trans t2)
        have hsz5 : w.heap.size + 3 ≤ ((w5.alloc (.cells (cellsW (words 32 0)) 103)).setRow w5.heap.size (cellsW (words 32 S))).heap.size := by have := hb5.size; simp; omega
        have hb8 : w.heap.size + 3 ≤ w5.heap.size := by have := hb5.size; omega
        unfold W
        have hz67 := (zero_of_info (v := .agg (cellsW (words 32 0))) (n := 32) (t := 103) (P := Try.prog) (by rw [← zero32]; kernel_rfl)).1
        go_wp2_with (refine wpList_store_row rfl 103 _ _ rfl w5.heap.size _ rfl rfl 103 _ a8 (size67 _) (by rw [cellsW_size, cellsW_size, words_len, words_len]) (cellsW_one _) ?_)
        clear z0 z1 z2 x0 x1 y0 y1 A6 A7 t0 t2 hBB hb5 a8 hz67
        generalize (w5.alloc (.cells (cellsW (words 32 0)) 103)).setRow w5.heap.size (cellsW (words 32 S)) = w8 at *
        generalize w5.heap.size = b8 at *
        refine wp_region_inv' (fun A D a w' => ∃ v5 v40 v41 v42 v43 v44 v45 pv u0 u1, a = (((((((A.put (some 5) v5).put (some 40) v40).put (some 41) v41).put (some 42) v42).put (some 43) v43).put (some 44) v44).put (some 45) v45) ∧ Below w.heap.size w w' ∧ w.heap.size + 3 ≤ w'.heap.size ∧ w'.heap[w.heap.size + 1]? = some (.cells #[.bool n2, .slice a2 l2 c2] 28 (0, 0)) ∧ w'.heap[w.heap.size + 2]? = some (.cells #[u0, u1] 28 (0, 0)) ∧ Arr w' b8 103 (words 32 S) ∧ (D 0 → v40 = .pointer (some ⟨w.heap.size + 1, 0, none⟩)) ∧ (D 1 → v41 = .bool n2) ∧ (D 2 → v42 = .slice (some ⟨b8, 0, none⟩) 32 32) ∧ (D 3 → v43 = .tuple #[.agg #[.bool (fitB n2 S), pv], .int .i64 (fitE S)]) ∧ (D 4 → v44 = .agg #[.bool (fitB n2 S), pv]) ∧ (D 5 → v45 = .int .i64 (fitE S)) ∧ (D 3 → OwnB w' (w.heap.size + 3) pv (fitM S)) ∧ (D 6 → u0 = .bool (fitB n2 S) ∧ u1 = pv) ∧ (D 7 → v5 = .int .i64 (fitE S))) (by kernel_rfl) (by kernel_rfl) ?mono ?start ?step ?done
        case mono =>
          rintro D D' a w' hD ⟨v5, v40, v41, v42, v43, v44, v45, pv, u0, u1, ha, hB, hsz, k0, k2, kA, e0, e1, e2, e3, e4, e5, o3, u6, f7⟩
          exact ⟨v5, v40, v41, v42, v43, v44, v45, pv, u0, u1, ha, hB, hsz, k0, k2, kA, fun h => e0 ((hD 0).2 h), fun h => e1 ((hD 1).2 h), fun h => e2 ((hD 2).2 h), fun h => e3 ((hD 3).2 h), fun h => e4 ((hD 4).2 h), fun h => e5 ((hD 5).2 h), fun h => o3 ((hD 3).2 h), fun h => u6 ((hD 6).2 h), fun h => f7 ((hD 7).2 h)⟩
        case start => exact ⟨(.int .i64 0), undef, undef, undef, undef, undef, undef, undef, _, _, by kernel_rfl, hB5.drew, hsz5, f0, f2, a8', fun h => h.elim, fun h => h.elim, fun h => h.elim, fun h => h.elim, fun h => h.elim, fun h => h.elim, fun h => h.elim, fun h => h.elim, fun h => h.elim⟩
        case step =>
          intro i o ho D a w' hI hn hcl hd
          obtain ⟨v5, v40, v41, v42, v43, v44, v45, pv, u0, u1, ha, hB, hsz, k0, k2, kA, e0, e1, e2, e3, e4, e5, o3, u6, f7⟩ := hI
          match i, ho with
          | 0, ho =>
            cases Option.some.inj ho
            have ev : a.tmps[3]?.getD undef = .pointer (some ⟨w.heap.size + 1, 0, none⟩) := by rw [ha]; kernel_rfl
            refine wp_value (w' := w') (v := .pointer (some ⟨w.heap.size + 1, 0, none⟩)) (by simp [execOp, ev, go_sem]) ?_
            exact ⟨v5, (.pointer (some ⟨w.heap.size + 1, 0, none⟩)), v41, v42, v43, v44, v45, pv, u0, u1, by rw [ha]; kernel_rfl, hB, hsz, k0, k2, kA, fun _ => rfl, fun h => e1 (h.resolve_left (by decide)), fun h => e2 (h.resolve_left (by decide)), fun h => e3 (h.resolve_left (by decide)), fun h => e4 (h.resolve_left (by decide)), fun h => e5 (h.resolve_left (by decide)), fun h => o3 (h.resolve_left (by decide)), fun h => u6 (h.resolve_left (by decide)), fun h => f7 (h.resolve_left (by decide))⟩
          | 1, ho =>
            cases Option.some.inj ho
            have ev : a.tmps[40]?.getD undef = .pointer (some ⟨w.heap.size + 1, 0, none⟩) := by rw [ha, e0 (hd ⟨0, .data⟩ (by simp) rfl)]; kernel_rfl
            have hc := (intVar k0).1
            refine wp_value (w' := w') (v := .bool n2) (by simp [execOp, ev, go_sem, hc]) ?_
            exact ⟨v5, v40, (.bool n2), v42, v43, v44, v45, pv, u0, u1, by rw [ha]; kernel_rfl, hB, hsz, k0, k2, kA, fun h => e0 (h.resolve_left (by decide)), fun _ => rfl, fun h => e2 (h.resolve_left (by decide)), fun h => e3 (h.resolve_left (by decide)), fun h => e4 (h.resolve_left (by decide)), fun h => e5 (h.resolve_left (by decide)), fun h => o3 (h.resolve_left (by decide)), fun h => u6 (h.resolve_left (by decide)), fun h => f7 (h.resolve_left (by decide))⟩
          | 2, ho =>
            cases Option.some.inj ho
            have ev : a.tmps[9]?.getD undef = .pointer (some ⟨b8, 0, none⟩) := by rw [ha]; kernel_rfl
            have hs := run_all ⟨b8, 0, none⟩ w'
            refine wp_value (w' := w') (v := .slice (some ⟨b8, 0, none⟩) 32 32) (by simp [execOp, ev, hs, go_sem]) ?_
            exact ⟨v5, v40, v41, (.slice (some ⟨b8, 0, none⟩) 32 32), v43, v44, v45, pv, u0, u1, by rw [ha]; kernel_rfl, hB, hsz, k0, k2, kA, fun h => e0 (h.resolve_left (by decide)), fun h => e1 (h.resolve_left (by decide)), fun _ => rfl, fun h => e3 (h.resolve_left (by decide)), fun h => e4 (h.resolve_left (by decide)), fun h => e5 (h.resolve_left (by decide)), fun h => o3 (h.resolve_left (by decide)), fun h => u6 (h.resolve_left (by decide)), fun h => f7 (h.resolve_left (by decide))⟩
          | 3, ho =>
            cases Option.some.inj ho
            have n4 : ¬ D 4 := fun h => hn (hcl 4 _ rfl h ⟨3, .data⟩ (by simp) rfl)
            have n6 : ¬ D 6 := fun h => n4 (hcl 6 _ rfl h ⟨4, .data⟩ (by simp) rfl)
            have ev : a.tmps[41]?.getD undef = .bool n2 := by rw [ha, e1 (hd ⟨1, .data⟩ (by simp) rfl)]; kernel_rfl
            have ev' : a.tmps[42]?.getD undef = .slice (some ⟨b8, 0, none⟩) 32 32 := by rw [ha, e2 (hd ⟨2, .data⟩ (by simp) rfl)]; kernel_rfl
            refine wp_enter (f := 71) (args := #[.bool n2, .slice (some ⟨b8, 0, none⟩) 32 32]) (by simp [execOp, ev, ev', go_sem]) ?_
            refine (pack_any n2 (Arr.isW kA (words_len _ _) (by decide) (words_lt _ _)) (by decide) (val32_words 32 _ hVb)).mono ?_
            rintro e w6 ⟨nv, rfl, hO, HB⟩
            refine ⟨_, rfl, ?_⟩
            exact ⟨v5, v40, v41, v42, (.tuple #[.agg #[.bool (fitB n2 S), nv], .int .i64 (fitE S)]), v44, v45, nv, u0, u1, by rw [ha]; kernel_rfl, below_size hB (Nat.le_refl _) HB, Nat.le_trans hsz HB.size, (HB.block _ (lt_of_block k0)).trans k0, (HB.block _ (lt_of_block k2)).trans k2, kA.below HB kA.lt, fun h => e0 (h.resolve_left (by decide)), fun h => e1 (h.resolve_left (by decide)), fun h => e2 (h.resolve_left (by decide)), fun _ => rfl, fun h => absurd (h.resolve_left (by decide)) n4, fun h => e5 (h.resolve_left (by decide)), fun _ => hO.mono hsz, fun h => absurd (h.resolve_left (by decide)) n6, fun h => f7 (h.resolve_left (by decide))⟩
          | 4, ho =>
            cases Option.some.inj ho
            have ev : a.tmps[43]?.getD undef = .tuple #[.agg #[.bool (fitB n2 S), pv], .int .i64 (fitE S)] := by rw [ha, e3 (hd ⟨3, .data⟩ (by simp) rfl)]; kernel_rfl
            refine wp_value (w' := w') (v := .agg #[.bool (fitB n2 S), pv]) (by simp [execOp, ev, go_sem]) ?_
            exact ⟨v5, v40, v41, v42, v43, (.agg #[.bool (fitB n2 S), pv]), v45, pv, u0, u1, by rw [ha]; kernel_rfl, hB, hsz, k0, k2, kA, fun h => e0 (h.resolve_left (by decide)), fun h => e1 (h.resolve_left (by decide)), fun h => e2 (h.resolve_left (by decide)), fun h => e3 (h.resolve_left (by decide)), fun _ => rfl, fun h => e5 (h.resolve_left (by decide)), fun h => o3 (h.resolve_left (by decide)), fun h => u6 (h.resolve_left (by decide)), fun h => f7 (h.resolve_left (by decide))⟩
          | 5, ho =>
            cases Option.some.inj ho
            have ev : a.tmps[43]?.getD undef = .tuple #[.agg #[.bool (fitB n2 S), pv], .int .i64 (fitE S)] := by rw [ha, e3 (hd ⟨3, .data⟩ (by simp) rfl)]; kernel_rfl
            refine wp_value (w' := w') (v := .int .i64 (fitE S)) (by simp [execOp, ev, go_sem]) ?_
            exact ⟨v5, v40, v41, v42, v43, v44, (.int .i64 (fitE S)), pv, u0, u1, by rw [ha]; kernel_rfl, hB, hsz, k0, k2, kA, fun h => e0 (h.resolve_left (by decide)), fun h => e1 (h.resolve_left (by decide)), fun h => e2 (h.resolve_left (by decide)), fun h => e3 (h.resolve_left (by decide)), fun h => e4 (h.resolve_left (by decide)), fun _ => rfl, fun h => o3 (h.resolve_left (by decide)), fun h => u6 (h.resolve_left (by decide)), fun h => f7 (h.resolve_left (by decide))⟩
          | 6, ho =>
            cases Option.some.inj ho
            have ev : a.tmps[44]?.getD undef = .agg #[.bool (fitB n2 S), pv] := by rw [ha, e4 (hd ⟨4, .data⟩ (by simp) rfl)]; kernel_rfl
            have ev' : a.tmps[4]?.getD undef = .pointer (some ⟨w.heap.size + 2, 0, none⟩) := by rw [ha]; kernel_rfl
            have hO := o3 (hd ⟨3, .chain⟩ (by simp) rfl)
            obtain ⟨av, cv, rfl, _⟩ := hO.2
            refine wp_store_row 28 (.tmp 4) (.tmp 44) rfl (w.heap.size + 2) _ (eval_of ev') (eval_of ev) 28 _ k2 size25 rfl (by simp [Value.oneCell']) ?_
            exact ⟨v5, v40, v41, v42, v43, v44, v45, _, (.bool (fitB n2 S)), _, by rw [ha]; kernel_rfl, below_setRow hB (by omega) _, (by simpa using hsz), (setRow_other _ _ _ _ (by omega)).trans k0, setRow_heap _ _ _ _ _ _ k2, kA.otherW _ (by omega), fun h => e0 (h.resolve_left (by decide)), fun h => e1 (h.resolve_left (by decide)), fun h => e2 (h.resolve_left (by decide)), fun h => e3 (h.resolve_left (by decide)), fun h => e4 (h.resolve_left (by decide)), fun h => e5 (h.resolve_left (by decide)), fun _ => ownB_setRow hO (by omega), fun _ => ⟨rfl, rfl⟩, fun h => f7 (h.resolve_left (by decide))⟩
          | 7, ho =>
            cases Option.some.inj ho
            have ev : a.tmps[45]?.getD undef = .int .i64 (fitE S) := by rw [ha, e5 (hd ⟨5, .data⟩ (by simp) rfl)]; kernel_rfl
            refine wp_value (w' := w') (v := .int .i64 (fitE S)) (by simp [execOp, ev, go_sem]) ?_
            exact ⟨(.int .i64 (fitE S)), v40, v41, v42, v43, v44, v45, pv, u0, u1, by rw [ha]; kernel_rfl, hB, hsz, k0, k2, kA, fun h => e0 (h.resolve_left (by decide)), fun h => e1 (h.resolve_left (by decide)), fun h => e2 (h.resolve_left (by decide)), fun h => e3 (h.resolve_left (by decide)), fun h => e4 (h.resolve_left (by decide)), fun h => e5 (h.resolve_left (by decide)), fun h => o3 (h.resolve_left (by decide)), fun h => u6 (h.resolve_left (by decide)), fun _ => rfl⟩
          | i + 8, ho => simp at ho
        case done =>
          rintro D a w' ⟨v5, v40, v41, v42, v43, v44, v45, pv, u0, u1, ha, hB, hsz, k0, k2, kA, e0, e1, e2, e3, e4, e5, o3, u6, f7⟩ hall
          have oV := o3 (hall 3 (by decide))
          obtain ⟨hu0, hu1⟩ := u6 (hall 6 (by decide))
          rw [hu0, hu1] at k2
          obtain rfl := f7 (hall 7 (by decide))
          clear hu0 hu1 e0 e1 e2 e3 e4 e5 o3 u6 f7 hall k0 kA
          obtain ⟨p0, p1, _, _⟩ := intVar k2
          rw [ha]
          clear ha
          simp only [Act.put, List.setIfInBounds_toArray, List.set_cons_zero, List.set_cons_succ]
          go_wp2
          exact bodyPost_ret (v := .tuple #[.agg #[.bool (fitB n2 S), pv], .int .i64 (fitE S)]) (by simp [results, Try.results72, go_sem, p0, p1]) rfl ⟨pv, by rw [Hs.out, Hn.out], by rw [Hs.out]; exact oV.mono (by omega), hB⟩
      · have Hs : Hid (sumMag n1 n2 (val8 xs) (val8 ys) = val8 xs - val8 ys) := by show _ = _; unfold sumMag; rw [if_neg hn, if_neg hlt]
        have Hn : Hid (sumNeg n1 n2 (val8 xs) (val8 ys) = n1) := by show _ = _; unfold sumNeg; rw [if_neg hn, if_neg hlt]
        have hVb : val8 xs - val8 ys < 4294967296 ^ 32 := by omega
        obtain ⟨kk, hsg, hkk⟩ : ∃ k : Nat, sgn (val8 xs) (val8 ys) = (k : Int) ∧ k ≤ 1 := by
          unfold sgn
          rw [if_neg hlt]
          split
          · exact ⟨0, rfl, by decide⟩
          · exact ⟨1, rfl, by decide⟩
        rw [hsg]
        have hk0 : ¬ ((kk : Int) < 0) := by omega
        clear hX hY hsg
        go_wp2_with (first | refine wpList_load_row rfl 103 (.tmp 6) rfl b6 rfl 103 _ _ _ A6 Try.underlying103 rfl (size67 _) ?_ | refine wpList_load_row rfl 103 (.tmp 7) rfl b7 rfl 103 _ _ _ A7 Try.underlying103 rfl (size67 _) ?_)
        refine (diff_any (val8 xs) (val8 ys) w' (by omega)).mono ?_
        rintro e w5 ⟨rfl, hb5⟩
        generalize val8 xs - val8 ys = S at *
        have a8 : Arr (w5.alloc (.cells (cellsW (words 32 0)) 103)) w5.heap.size 103 (words 32 0) := heap_alloc_new w5 _
        have a8' := a8.setW (words 32 S)
        have hB5 := below_setRow ((below_size hBB (Nat.le_refl _) hb5).alloc (below_size hBB (Nat.le_refl _) hb5).size (.cells (cellsW (words 32 0)) 103)) (below_size hBB (Nat.le_refl _) hb5).size (cellsW (words 32 S))
        have t0 := (hb5.block _ (lt_of_block z0)).trans z0
        have t2 := (hb5.block _ (lt_of_block z2)).trans z2
        have f0 := (setRow_other (w5.alloc (.cells (cellsW (words 32 0)) 103)) w5.heap.size (w.heap.size) (cellsW (words 32 S)) (Nat.ne_of_lt (lt_of_block t0))).trans ((Below.heap_alloc _ _ _ (lt_of_block t0)).trans t0)
        have f2 := (setRow_other (w5.alloc (.cells (cellsW (words 32 0)) 103)) w5.heap.size (w.heap.size + 2) (cellsW (words 32 S)) (Nat.ne_of_lt (lt_of_block t2))).trans ((Below.heap_alloc _ _ _ (lt_of_block t2)).trans t2)
        have hsz5 : w.heap.size + 3 ≤ ((w5.alloc (.cells (cellsW (words 32 0)) 103)).setRow w5.heap.size (cellsW (words 32 S))).heap.size := by have := hb5.size; simp; omega
        have hb8 : w.heap.size + 3 ≤ w5.heap.size := by have := hb5.size; omega
        unfold W
        have hz67 := (zero_of_info (v := .agg (cellsW (words 32 0))) (n := 32) (t := 103) (P := Try.prog) (by rw [← zero32]; kernel_rfl)).1
        go_wp2_with (refine wpList_store_row rfl 103 _ _ rfl w5.heap.size _ rfl rfl 103 _ a8 (size67 _) (by rw [cellsW_size, cellsW_size, words_len, words_len]) (cellsW_one _) ?_)
        clear z0 z1 z2 x0 x1 y0 y1 A6 A7 t0 t2 hBB hb5 a8 hz67
        generalize (w5.alloc (.cells (cellsW (words 32 0)) 103)).setRow w5.heap.size (cellsW (words 32 S)) = w8 at *
        generalize w5.heap.size = b8 at *
        refine wp_region_inv' (fun A D a w' => ∃ v5 v49 v50 v51 v52 v53 v54 pv u0 u1, a = (((((((A.put (some 5) v5).put (some 49) v49).put (some 50) v50).put (some 51) v51).put (some 52) v52).put (some 53) v53).put (some 54) v54) ∧ Below w.heap.size w w' ∧ w.heap.size + 3 ≤ w'.heap.size ∧ w'.heap[w.heap.size]? = some (.cells #[.bool n1, .slice a1 l1 c1] 28 (0, 0)) ∧ w'.heap[w.heap.size + 2]? = some (.cells #[u0, u1] 28 (0, 0)) ∧ Arr w' b8 103 (words 32 S) ∧ (D 0 → v49 = .pointer (some ⟨w.heap.size, 0, none⟩)) ∧ (D 1 → v50 = .bool n1) ∧ (D 2 → v51 = .slice (some ⟨b8, 0, none⟩) 32 32) ∧ (D 3 → v52 = .tuple #[.agg #[.bool (fitB n1 S), pv], .int .i64 (fitE S)]) ∧ (D 4 → v53 = .agg #[.bool (fitB n1 S), pv]) ∧ (D 5 → v54 = .int .i64 (fitE S)) ∧ (D 3 → OwnB w' (w.heap.size + 3) pv (fitM S)) ∧ (D 6 → u0 = .bool (fitB n1 S) ∧ u1 = pv) ∧ (D 7 → v5 = .int .i64 (fitE S))) (by kernel_rfl) (by kernel_rfl) ?mono ?start ?step ?done
        case mono =>
          rintro D D' a w' hD ⟨v5, v49, v50, v51, v52, v53, v54, pv, u0, u1, ha, hB, hsz, k0, k2, kA, e0, e1, e2, e3, e4, e5, o3, u6, f7⟩
          exact ⟨v5, v49, v50, v51, v52, v53, v54, pv, u0, u1, ha, hB, hsz, k0, k2, kA, fun h => e0 ((hD 0).2 h), fun h => e1 ((hD 1).2 h), fun h => e2 ((hD 2).2 h), fun h => e3 ((hD 3).2 h), fun h => e4 ((hD 4).2 h), fun h => e5 ((hD 5).2 h), fun h => o3 ((hD 3).2 h), fun h => u6 ((hD 6).2 h), fun h => f7 ((hD 7).2 h)⟩
        case start => exact ⟨(.int .i64 0), undef, undef, undef, undef, undef, undef, undef, _, _, by kernel_rfl, hB5.drew, hsz5, f0, f2, a8', fun h => h.elim, fun h => h.elim, fun h => h.elim, fun h => h.elim, fun h => h.elim, fun h => h.elim, fun h => h.elim, fun h => h.elim, fun h => h.elim⟩
        case step =>
          intro i o ho D a w' hI hn hcl hd
          obtain ⟨v5, v49, v50, v51, v52, v53, v54, pv, u0, u1, ha, hB, hsz, k0, k2, kA, e0, e1, e2, e3, e4, e5, o3, u6, f7⟩ := hI
          match i, ho with
          | 0, ho =>
            cases Option.some.inj ho
            have ev : a.tmps[2]?.getD undef = .pointer (some ⟨w.heap.size, 0, none⟩) := by rw [ha]; kernel_rfl
            refine wp_value (w' := w') (v := .pointer (some ⟨w.heap.size, 0, none⟩)) (by simp [execOp, ev, go_sem]) ?_
            exact ⟨v5, (.pointer (some ⟨w.heap.size, 0, none⟩)), v50, v51, v52, v53, v54, pv, u0, u1, by rw [ha]; kernel_rfl, hB, hsz, k0, k2, kA, fun _ => rfl, fun h => e1 (h.resolve_left (by decide)), fun h => e2 (h.resolve_left (by decide)), fun h => e3 (h.resolve_left (by decide)), fun h => e4 (h.resolve_left (by decide)), fun h => e5 (h.resolve_left (by decide)), fun h => o3 (h.resolve_left (by decide)), fun h => u6 (h.resolve_left (by decide)), fun h => f7 (h.resolve_left (by decide))⟩
          | 1, ho =>
            cases Option.some.inj ho
            have ev : a.tmps[49]?.getD undef = .pointer (some ⟨w.heap.size, 0, none⟩) := by rw [ha, e0 (hd ⟨0, .data⟩ (by simp) rfl)]; kernel_rfl
            have hc := (intVar k0).1
            refine wp_value (w' := w') (v := .bool n1) (by simp [execOp, ev, go_sem, hc]) ?_
            exact ⟨v5, v49, (.bool n1), v51, v52, v53, v54, pv, u0, u1, by rw [ha]; kernel_rfl, hB, hsz, k0, k2, kA, fun h => e0 (h.resolve_left (by decide)), fun _ => rfl, fun h => e2 (h.resolve_left (by decide)), fun h => e3 (h.resolve_left (by decide)), fun h => e4 (h.resolve_left (by decide)), fun h => e5 (h.resolve_left (by decide)), fun h => o3 (h.resolve_left (by decide)), fun h => u6 (h.resolve_left (by decide)), fun h => f7 (h.resolve_left (by decide))⟩
          | 2, ho =>
            cases Option.some.inj ho
            have ev : a.tmps[10]?.getD undef = .pointer (some ⟨b8, 0, none⟩) := by rw [ha]; kernel_rfl
            have hs := run_all ⟨b8, 0, none⟩ w'
            refine wp_value (w' := w') (v := .slice (some ⟨b8, 0, none⟩) 32 32) (by simp [execOp, ev, hs, go_sem]) ?_
            exact ⟨v5, v49, v50, (.slice (some ⟨b8, 0, none⟩) 32 32), v52, v53, v54, pv, u0, u1, by rw [ha]; kernel_rfl, hB, hsz, k0, k2, kA, fun h => e0 (h.resolve_left (by decide)), fun h => e1 (h.resolve_left (by decide)), fun _ => rfl, fun h => e3 (h.resolve_left (by decide)), fun h => e4 (h.resolve_left (by decide)), fun h => e5 (h.resolve_left (by decide)), fun h => o3 (h.resolve_left (by decide)), fun h => u6 (h.resolve_left (by decide)), fun h => f7 (h.resolve_left (by decide))⟩
          | 3, ho =>
            cases Option.some.inj ho
            have n4 : ¬ D 4 := fun h => hn (hcl 4 _ rfl h ⟨3, .data⟩ (by simp) rfl)
            have n6 : ¬ D 6 := fun h => n4 (hcl 6 _ rfl h ⟨4, .data⟩ (by simp) rfl)
            have ev : a.tmps[50]?.getD undef = .bool n1 := by rw [ha, e1 (hd ⟨1, .data⟩ (by simp) rfl)]; kernel_rfl
            have ev' : a.tmps[51]?.getD undef = .slice (some ⟨b8, 0, none⟩) 32 32 := by rw [ha, e2 (hd ⟨2, .data⟩ (by simp) rfl)]; kernel_rfl
            refine wp_enter (f := 71) (args := #[.bool n1, .slice (some ⟨b8, 0, none⟩) 32 32]) (by simp [execOp, ev, ev', go_sem]) ?_
            refine (pack_any n1 (Arr.isW kA (words_len _ _) (by decide) (words_lt _ _)) (by decide) (val32_words 32 _ hVb)).mono ?_
            rintro e w6 ⟨nv, rfl, hO, HB⟩
            refine ⟨_, rfl, ?_⟩
            exact ⟨v5, v49, v50, v51, (.tuple #[.agg #[.bool (fitB n1 S), nv], .int .i64 (fitE S)]), v53, v54, nv, u0, u1, by rw [ha]; kernel_rfl, below_size hB (Nat.le_refl _) HB, Nat.le_trans hsz HB.size, (HB.block _ (lt_of_block k0)).trans k0, (HB.block _ (lt_of_block k2)).trans k2, kA.below HB kA.lt, fun h => e0 (h.resolve_left (by decide)), fun h => e1 (h.resolve_left (by decide)), fun h => e2 (h.resolve_left (by decide)), fun _ => rfl, fun h => absurd (h.resolve_left (by decide)) n4, fun h => e5 (h.resolve_left (by decide)), fun _ => hO.mono hsz, fun h => absurd (h.resolve_left (by decide)) n6, fun h => f7 (h.resolve_left (by decide))⟩
          | 4, ho =>
            cases Option.some.inj ho
            have ev : a.tmps[52]?.getD undef = .tuple #[.agg #[.bool (fitB n1 S), pv], .int .i64 (fitE S)] := by rw [ha, e3 (hd ⟨3, .data⟩ (by simp) rfl)]; kernel_rfl
            refine wp_value (w' := w') (v := .agg #[.bool (fitB n1 S), pv]) (by simp [execOp, ev, go_sem]) ?_
            exact ⟨v5, v49, v50, v51, v52, (.agg #[.bool (fitB n1 S), pv]), v54, pv, u0, u1, by rw [ha]; kernel_rfl, hB, hsz, k0, k2, kA, fun h => e0 (h.resolve_left (by decide)), fun h => e1 (h.resolve_left (by decide)), fun h => e2 (h.resolve_left (by decide)), fun h => e3 (h.resolve_left (by decide)), fun _ => rfl, fun h => e5 (h.resolve_left (by decide)), fun h => o3 (h.resolve_left (by decide)), fun h => u6 (h.resolve_left (by decide)), fun h => f7 (h.resolve_left (by decide))⟩
          | 5, ho =>
            cases Option.some.inj ho
            have ev : a.tmps[52]?.getD undef = .tuple #[.agg #[.bool (fitB n1 S), pv], .int .i64 (fitE S)] := by rw [ha, e3 (hd ⟨3, .data⟩ (by simp) rfl)]; kernel_rfl
            refine wp_value (w' := w') (v := .int .i64 (fitE S)) (by simp [execOp, ev, go_sem]) ?_
            exact ⟨v5, v49, v50, v51, v52, v53, (.int .i64 (fitE S)), pv, u0, u1, by rw [ha]; kernel_rfl, hB, hsz, k0, k2, kA, fun h => e0 (h.resolve_left (by decide)), fun h => e1 (h.resolve_left (by decide)), fun h => e2 (h.resolve_left (by decide)), fun h => e3 (h.resolve_left (by decide)), fun h => e4 (h.resolve_left (by decide)), fun _ => rfl, fun h => o3 (h.resolve_left (by decide)), fun h => u6 (h.resolve_left (by decide)), fun h => f7 (h.resolve_left (by decide))⟩
          | 6, ho =>
            cases Option.some.inj ho
            have ev : a.tmps[53]?.getD undef = .agg #[.bool (fitB n1 S), pv] := by rw [ha, e4 (hd ⟨4, .data⟩ (by simp) rfl)]; kernel_rfl
            have ev' : a.tmps[4]?.getD undef = .pointer (some ⟨w.heap.size + 2, 0, none⟩) := by rw [ha]; kernel_rfl
            have hO := o3 (hd ⟨3, .chain⟩ (by simp) rfl)
            obtain ⟨av, cv, rfl, _⟩ := hO.2
            refine wp_store_row 28 (.tmp 4) (.tmp 53) rfl (w.heap.size + 2) _ (eval_of ev') (eval_of ev) 28 _ k2 size25 rfl (by simp [Value.oneCell']) ?_
            exact ⟨v5, v49, v50, v51, v52, v53, v54, _, (.bool (fitB n1 S)), _, by rw [ha]; kernel_rfl, below_setRow hB (by omega) _, (by simpa using hsz), (setRow_other _ _ _ _ (by omega)).trans k0, setRow_heap _ _ _ _ _ _ k2, kA.otherW _ (by omega), fun h => e0 (h.resolve_left (by decide)), fun h => e1 (h.resolve_left (by decide)), fun h => e2 (h.resolve_left (by decide)), fun h => e3 (h.resolve_left (by decide)), fun h => e4 (h.resolve_left (by decide)), fun h => e5 (h.resolve_left (by decide)), fun _ => ownB_setRow hO (by omega), fun _ => ⟨rfl, rfl⟩, fun h => f7 (h.resolve_left (by decide))⟩
          | 7, ho =>
            cases Option.some.inj ho
            have ev : a.tmps[54]?.getD undef = .int .i64 (fitE S) := by rw [ha, e5 (hd ⟨5, .data⟩ (by simp) rfl)]; kernel_rfl
            refine wp_value (w' := w') (v := .int .i64 (fitE S)) (by simp [execOp, ev, go_sem]) ?_
            exact ⟨(.int .i64 (fitE S)), v49, v50, v51, v52, v53, v54, pv, u0, u1, by rw [ha]; kernel_rfl, hB, hsz, k0, k2, kA, fun h => e0 (h.resolve_left (by decide)), fun h => e1 (h.resolve_left (by decide)), fun h => e2 (h.resolve_left (by decide)), fun h => e3 (h.resolve_left (by decide)), fun h => e4 (h.resolve_left (by decide)), fun h => e5 (h.resolve_left (by decide)), fun h => o3 (h.resolve_left (by decide)), fun h => u6 (h.resolve_left (by decide)), fun _ => rfl⟩
          | i + 8, ho => simp at ho
        case done =>
          rintro D a w' ⟨v5, v49, v50, v51, v52, v53, v54, pv, u0, u1, ha, hB, hsz, k0, k2, kA, e0, e1, e2, e3, e4, e5, o3, u6, f7⟩ hall
          have oV := o3 (hall 3 (by decide))
          obtain ⟨hu0, hu1⟩ := u6 (hall 6 (by decide))
          rw [hu0, hu1] at k2
          obtain rfl := f7 (hall 7 (by decide))
          clear hu0 hu1 e0 e1 e2 e3 e4 e5 o3 u6 f7 hall k0 kA
          obtain ⟨p0, p1, _, _⟩ := intVar k2
          rw [ha]
          clear ha
          simp only [Act.put, List.setIfInBounds_toArray, List.set_cons_zero, List.set_cons_succ]
          go_wp2
          exact bodyPost_ret (v := .tuple #[.agg #[.bool (fitB n1 S), pv], .int .i64 (fitE S)]) (by simp [results, Try.results72, go_sem, p0, p1]) rfl ⟨pv, by rw [Hs.out, Hn.out], by rw [Hs.out]; exact oV.mono (by omega), hB⟩
end Go.Proofs.Ytkpngpongbpfgaa
