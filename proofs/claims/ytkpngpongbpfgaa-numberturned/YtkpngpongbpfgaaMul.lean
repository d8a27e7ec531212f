/- Mul, of the program. -/
import Derived.Test.YtkpngpongbpfgaaAddSub
import Derived.Test.YtkpngpongbpfgaaProd
namespace Go.Proofs.Ytkpngpongbpfgaa
open Go.RowKit

theorem run_all64 (a : Addr) (w : World) : (Instr.sliceAt 100 (.pointer (some a)) none none none).run Try.prog w = .ok (.slice (some a) 64 64) w := by
  have hl : Try.prog.arrayLen 100 = 64 := by kernel_rfl
  have he : Try.prog.elem 100 = 96 := by kernel_rfl
  have ht : Try.prog.underlying 100 = some (.array (Try.prog.arrayLen 100) (Try.prog.elem 100)) := by rw [hl, he]; exact Try.underlying100
  have hs : (Try.prog.info? 96).map (·.size) = some 1 := by kernel_rfl
  have hz : (sizeOf 96).run Try.prog w = .ok 1 w := by
    cases hq : Try.prog.info? 96 with
    | none => simp [hq] at hs
    | some i => simp [hq] at hs; simp [sizeOf, typeInfo, hq, hs]
  rw [run_sliceAt_array_all w 100 a ht, he, hz, hl]
  simp [slicedAt, Result.andThen, Addr.add]
theorem run_alloc64 (a : Act) (w : World) {o : Oper} (ho : o.op = .alloc 100) : (execOp a.eval o).run Try.prog w = .ok (.value (.pointer (some ⟨w.heap.size, 0, none⟩))) (w.alloc (.cells (cellsW (words 64 0)) 100)) := by
  have hz := (zero_of_info Try.info64).1
  simp [execOp, ho, hz, go_sem]
theorem mul_bound {xs ys : List Int} (h1 : ∀ x ∈ xs, 0 ≤ x ∧ x < 256) (h2 : ∀ x ∈ ys, 0 ≤ x ∧ x < 256) (m1 : xs.length ≤ 128) (m2 : ys.length ≤ 128) : val8 xs < 4294967296 ^ 32 ∧ val8 ys < 4294967296 ^ 32 ∧ val8 xs * val8 ys < 4294967296 ^ 64 := by
  have a := Nat.lt_of_lt_of_le (val8_lt xs h1) (Nat.pow_le_pow_right (by decide) m1)
  have b := Nat.lt_of_lt_of_le (val8_lt ys h2) (Nat.pow_le_pow_right (by decide) m2)
  have e : (256 : Nat) ^ 128 = 4294967296 ^ 32 := by decide
  rw [e] at a b
  refine ⟨a, b, ?_⟩
  rw [show (4294967296 : Nat) ^ 64 = 4294967296 ^ 32 * 4294967296 ^ 32 by rw [← Nat.pow_add]]
  exact Nat.mul_lt_mul_of_lt_of_lt a b

theorem run_neq_boolM (a : Act) (w : World) {o : Oper} {x y : Operand} {p q : Bool} (hx : a.eval x = .bool p) (hy : a.eval y = .bool q) (ho : o.op = .binOp .neq 4 x y 4) : (execOp a.eval o).run Try.prog w = .ok (.value (.bool (p != q))) w := by
  simp only [execOp, ho, hx, hy]
  simp [go_sem]
  cases p <;> cases q <;> rfl
/-- What Mul makes of two numbers. -/
def mulB (n1 : Bool) (xs : List Int) (n2 : Bool) (ys : List Int) : Bool := if rightB n1 xs && rightB n2 ys then fitB (n1 != n2) (val8 xs * val8 ys) else false
def mulE (n1 : Bool) (xs : List Int) (n2 : Bool) (ys : List Int) : Int := if rightB n1 xs && rightB n2 ys then fitE (val8 xs * val8 ys) else 1
def mulM (n1 : Bool) (xs : List Int) (n2 : Bool) (ys : List Int) : List Int := if rightB n1 xs && rightB n2 ys then fitM (val8 xs * val8 ys) else []

set_option maxRecDepth 100000 in
set_option maxHeartbeats 8000000 in
theorem mul_any {a1 a2 : Option Addr} {l1 l2 c1 c2 : Nat} {xs ys : List Int} {w : World} (n1 n2 : Bool) (h1 : IsB w a1 l1 c1 xs) (h2 : IsB w a2 l2 c2 ys) :
    Calls Try.prog 50 #[.agg #[.bool n1, .slice a1 l1 c1], .agg #[.bool n2, .slice a2 l2 c2]] w fun e w' => ∃ v, e = .returned (.tuple #[.agg #[.bool (mulB n1 xs n2 ys), v], .int .i64 (mulE n1 xs n2 ys)]) ∧ OwnB w' w.heap.size v (mulM n1 xs n2 ys) ∧ Below w.heap.size w w' := by
  go_enter Try.func50, Try.ntmps50
  go_wp2_with fail
  obtain ⟨z0, z1, z2, hb, hs3⟩ := alloc3 w (.cells #[.bool n1, .slice a1 l1 c1] 28) (.cells #[.bool n2, .slice a2 l2 c2] 28) (.cells #[.bool false, .slice none 0 0] 28)
  have k1 := h1.below hb
  have k2 := h2.below hb
  generalize (((w.alloc (.cells #[.bool n1, .slice a1 l1 c1] 28)).alloc (.cells #[.bool n2, .slice a2 l2 c2] 28)).alloc (.cells #[.bool false, .slice none 0 0] 28)) = w1 at *
  refine (right_any n1 k1).mono ?_
  rintro e w2 ⟨rfl, hb2⟩
  have u0 := (hb2.block _ (lt_of_block z0)).trans z0
  have u1 := (hb2.block _ (lt_of_block z1)).trans z1
  have u2 := (hb2.block _ (lt_of_block z2)).trans z2
  have hB2 := below_size hb (Nat.le_refl _) hb2
  have hsz2 := hb2.size
  rw [hs3] at hsz2
  replace k1 := k1.below hb2
  replace k2 := k2.below hb2
  clear z0 z1 z2 hb hb2 hs3
  obtain ⟨x0, x1, _, _⟩ := intVar u0
  obtain ⟨y0, y1, _, _⟩ := intVar u1
  obtain ⟨q0, q1, qf0, qf1⟩ := intVar u2
  cases r1 : rightB n1 xs with
  | false =>
    have e1 : Hid (mulB n1 xs n2 ys = false) := by show _ = _; simp [mulB, r1]
    have e2 : Hid (mulE n1 xs n2 ys = 1) := by show _ = _; simp [mulE, r1]
    have e3 : Hid (mulM n1 xs n2 ys = []) := by show _ = _; simp [mulM, r1]
    go_wp2
    exact bodyPost_ret (v := .tuple #[.agg #[.bool false, .slice none 0 0], .int .i64 1]) (by simp [results, Try.results50, go_sem, q0, q1]) rfl ⟨.slice none 0 0, by rw [e1.out, e2.out], by rw [e3.out]; exact ownB_of (n := 0) (World.ownsRow_nil _ _ _ _) (by simp), below_put (b := w.heap.size + 2) hB2 (by omega)⟩
  | true =>
    go_wp2_with fail
    refine (right_any n2 k2).mono ?_
    rintro e w3 ⟨rfl, hb3⟩
    replace u0 := (hb3.block _ (lt_of_block u0)).trans u0
    replace u1 := (hb3.block _ (lt_of_block u1)).trans u1
    replace u2 := (hb3.block _ (lt_of_block u2)).trans u2
    have hB3 := below_size hB2 (Nat.le_refl _) hb3
    have hsz3 := Nat.le_trans hsz2 hb3.size
    replace k1 := k1.below hb3
    replace k2 := k2.below hb3
    clear x0 x1 y0 y1 q0 q1 qf0 qf1 hb3 hB2 hsz2
    cases r2 : rightB n2 ys with
    | false =>
      obtain ⟨q0, q1, qf0, qf1⟩ := intVar u2
      have e1 : Hid (mulB n1 xs n2 ys = false) := by show _ = _; simp [mulB, r2]
      have e2 : Hid (mulE n1 xs n2 ys = 1) := by show _ = _; simp [mulE, r2]
      have e3 : Hid (mulM n1 xs n2 ys = []) := by show _ = _; simp [mulM, r2]
      go_wp2
      exact bodyPost_ret (v := .tuple #[.agg #[.bool false, .slice none 0 0], .int .i64 1]) (by simp [results, Try.results50, go_sem, q0, q1]) rfl ⟨.slice none 0 0, by rw [e1.out, e2.out], by rw [e3.out]; exact ownB_of (n := 0) (World.ownsRow_nil _ _ _ _) (by simp), below_put (b := w.heap.size + 2) hB3 (by omega)⟩
    | true =>
      have Hb : Hid (mulB n1 xs n2 ys = fitB (n1 != n2) (val8 xs * val8 ys)) := by show _ = _; simp [mulB, r1, r2]
      have He : Hid (mulE n1 xs n2 ys = fitE (val8 xs * val8 ys)) := by show _ = _; simp [mulE, r1, r2]
      have Hm : Hid (mulM n1 xs n2 ys = fitM (val8 xs * val8 ys)) := by show _ = _; simp [mulM, r1, r2]
      obtain ⟨d1, m1⟩ := lead_right r1
      obtain ⟨d2, m2⟩ := lead_right r2
      obtain ⟨hXb, hYb, hVb⟩ := mul_bound h1.byte h2.byte m1 m2
      rw [h1.size] at m1
      rw [h2.size] at m2
      go_wp2
      refine wp_region_inv' (fun A D a w' => ∃ v16 v17 v18 v19 v20 v21 v22 v6 b6 z6, a = ((((((((A.put (some 16) v16).put (some 17) v17).put (some 18) v18).put (some 19) v19).put (some 20) v20).put (some 21) v21).put (some 22) v22).put (some 6) v6) ∧ Below w3.heap.size w3 w' ∧ (D 0 → v16 = .pointer (some ⟨w.heap.size, 1, none⟩)) ∧ (D 1 → v17 = .slice a1 l1 c1) ∧ (D 2 → v18 = W 32 (val8 xs)) ∧ (D 3 → v19 = .pointer (some ⟨w.heap.size + 1, 1, none⟩)) ∧ (D 4 → v20 = .slice a2 l2 c2) ∧ (D 5 → v21 = W 32 (val8 ys)) ∧ (D 6 → v22 = W 64 (val8 xs * val8 ys)) ∧ (D 7 → v6 = .pointer (some ⟨b6, 0, none⟩)) ∧ (D 7 → w3.heap.size ≤ b6) ∧ (D 7 → Arr w' b6 100 z6) ∧ (D 7 → z6.length = 64) ∧ (D 8 → z6 = words 64 (val8 xs * val8 ys))) (by kernel_rfl) (by kernel_rfl) ?mono ?start ?step ?done
      case mono =>
        rintro D D' a w' hD ⟨v16, v17, v18, v19, v20, v21, v22, v6, b6, z6, ha, hB, e0, e1, e2, e3, e4, e5, e6, e7, r7, A7, L7, q8⟩
        exact ⟨v16, v17, v18, v19, v20, v21, v22, v6, b6, z6, ha, hB, fun h => e0 ((hD 0).2 h), fun h => e1 ((hD 1).2 h), fun h => e2 ((hD 2).2 h), fun h => e3 ((hD 3).2 h), fun h => e4 ((hD 4).2 h), fun h => e5 ((hD 5).2 h), fun h => e6 ((hD 6).2 h), fun h => e7 ((hD 7).2 h), fun h => r7 ((hD 7).2 h), fun h => A7 ((hD 7).2 h), fun h => L7 ((hD 7).2 h), fun h => q8 ((hD 8).2 h)⟩
      case start => exact ⟨undef, undef, undef, undef, undef, undef, undef, undef, 0, [], by kernel_rfl, (Below.refl _ _).drew, fun h => h.elim, fun h => h.elim, fun h => h.elim, fun h => h.elim, fun h => h.elim, fun h => h.elim, fun h => h.elim, fun h => h.elim, fun h => h.elim, fun h => h.elim, fun h => h.elim, fun h => h.elim⟩
      case step =>
        intro i o ho D a w' hI hn hcl hd
        obtain ⟨v16, v17, v18, v19, v20, v21, v22, v6, b6, z6, ha, hB, e0, e1, e2, e3, e4, e5, e6, e7, r7, A7, L7, q8⟩ := hI
        match i, ho with
        | 0, ho =>
          cases Option.some.inj ho
          have ev : a.tmps[2]?.getD undef = .pointer (some ⟨w.heap.size, 0, none⟩) := by rw [ha]; kernel_rfl
          refine wp_value (w' := w') (v := .pointer (some ⟨w.heap.size, 1, none⟩)) (by simp [execOp, ev, go_sem]) ?_
          exact ⟨(.pointer (some ⟨w.heap.size, 1, none⟩)), v17, v18, v19, v20, v21, v22, v6, b6, z6, by rw [ha]; kernel_rfl, hB, fun _ => rfl, fun h => e1 (h.resolve_left (by decide)), fun h => e2 (h.resolve_left (by decide)), fun h => e3 (h.resolve_left (by decide)), fun h => e4 (h.resolve_left (by decide)), fun h => e5 (h.resolve_left (by decide)), fun h => e6 (h.resolve_left (by decide)), fun h => e7 (h.resolve_left (by decide)), fun h => r7 (h.resolve_left (by decide)), fun h => A7 (h.resolve_left (by decide)), fun h => L7 (h.resolve_left (by decide)), fun h => q8 (h.resolve_left (by decide))⟩
        | 1, ho =>
          cases Option.some.inj ho
          have ev : a.tmps[16]?.getD undef = .pointer (some ⟨w.heap.size, 1, none⟩) := by rw [ha, e0 (hd ⟨0, .data⟩ (by simp) rfl)]; kernel_rfl
          have hc := (intVar ((hB.block _ (lt_of_block u0)).trans u0)).2.1
          rw [Nat.zero_add] at hc
          refine wp_value (w' := w') (v := .slice a1 l1 c1) (by simp [execOp, ev, go_sem, hc]) ?_
          exact ⟨v16, (.slice a1 l1 c1), v18, v19, v20, v21, v22, v6, b6, z6, by rw [ha]; kernel_rfl, hB, fun h => e0 (h.resolve_left (by decide)), fun _ => rfl, fun h => e2 (h.resolve_left (by decide)), fun h => e3 (h.resolve_left (by decide)), fun h => e4 (h.resolve_left (by decide)), fun h => e5 (h.resolve_left (by decide)), fun h => e6 (h.resolve_left (by decide)), fun h => e7 (h.resolve_left (by decide)), fun h => r7 (h.resolve_left (by decide)), fun h => A7 (h.resolve_left (by decide)), fun h => L7 (h.resolve_left (by decide)), fun h => q8 (h.resolve_left (by decide))⟩
        | 2, ho =>
          cases Option.some.inj ho
          have ev : a.tmps[17]?.getD undef = .slice a1 l1 c1 := by rw [ha, e1 (hd ⟨1, .data⟩ (by simp) rfl)]; kernel_rfl
          refine wp_enter (f := 74) (args := #[.slice a1 l1 c1]) (by simp [execOp, ev, go_sem]) ?_
          refine (load_any (k1.below hB) m1).mono ?_
          rintro e w6 ⟨rfl, HB⟩
          refine ⟨_, rfl, ?_⟩
          exact ⟨v16, v17, (W 32 (val8 xs)), v19, v20, v21, v22, v6, b6, z6, by rw [ha]; kernel_rfl, below_size hB (Nat.le_refl _) HB, fun h => e0 (h.resolve_left (by decide)), fun h => e1 (h.resolve_left (by decide)), fun _ => rfl, fun h => e3 (h.resolve_left (by decide)), fun h => e4 (h.resolve_left (by decide)), fun h => e5 (h.resolve_left (by decide)), fun h => e6 (h.resolve_left (by decide)), fun h => e7 (h.resolve_left (by decide)), fun h => r7 (h.resolve_left (by decide)), fun h => (A7 (h.resolve_left (by decide))).below HB (A7 (h.resolve_left (by decide))).lt, fun h => L7 (h.resolve_left (by decide)), fun h => q8 (h.resolve_left (by decide))⟩
        | 3, ho =>
          cases Option.some.inj ho
          have ev : a.tmps[3]?.getD undef = .pointer (some ⟨w.heap.size + 1, 0, none⟩) := by rw [ha]; kernel_rfl
          refine wp_value (w' := w') (v := .pointer (some ⟨w.heap.size + 1, 1, none⟩)) (by simp [execOp, ev, go_sem]) ?_
          exact ⟨v16, v17, v18, (.pointer (some ⟨w.heap.size + 1, 1, none⟩)), v20, v21, v22, v6, b6, z6, by rw [ha]; kernel_rfl, hB, fun h => e0 (h.resolve_left (by decide)), fun h => e1 (h.resolve_left (by decide)), fun h => e2 (h.resolve_left (by decide)), fun _ => rfl, fun h => e4 (h.resolve_left (by decide)), fun h => e5 (h.resolve_left (by decide)), fun h => e6 (h.resolve_left (by decide)), fun h => e7 (h.resolve_left (by decide)), fun h => r7 (h.resolve_left (by decide)), fun h => A7 (h.resolve_left (by decide)), fun h => L7 (h.resolve_left (by decide)), fun h => q8 (h.resolve_left (by decide))⟩
        | 4, ho =>
          cases Option.some.inj ho
          have ev : a.tmps[19]?.getD undef = .pointer (some ⟨w.heap.size + 1, 1, none⟩) := by rw [ha, e3 (hd ⟨3, .data⟩ (by simp) rfl)]; kernel_rfl
          have hc := (intVar ((hB.block _ (lt_of_block u1)).trans u1)).2.1
          rw [Nat.zero_add] at hc
          refine wp_value (w' := w') (v := .slice a2 l2 c2) (by simp [execOp, ev, go_sem, hc]) ?_
          exact ⟨v16, v17, v18, v19, (.slice a2 l2 c2), v21, v22, v6, b6, z6, by rw [ha]; kernel_rfl, hB, fun h => e0 (h.resolve_left (by decide)), fun h => e1 (h.resolve_left (by decide)), fun h => e2 (h.resolve_left (by decide)), fun h => e3 (h.resolve_left (by decide)), fun _ => rfl, fun h => e5 (h.resolve_left (by decide)), fun h => e6 (h.resolve_left (by decide)), fun h => e7 (h.resolve_left (by decide)), fun h => r7 (h.resolve_left (by decide)), fun h => A7 (h.resolve_left (by decide)), fun h => L7 (h.resolve_left (by decide)), fun h => q8 (h.resolve_left (by decide))⟩
        | 5, ho =>
          cases Option.some.inj ho
          have ev : a.tmps[20]?.getD undef = .slice a2 l2 c2 := by rw [ha, e4 (hd ⟨4, .data⟩ (by simp) rfl)]; kernel_rfl
          refine wp_enter (f := 74) (args := #[.slice a2 l2 c2]) (by simp [execOp, ev, go_sem]) ?_
          refine (load_any (k2.below hB) m2).mono ?_
          rintro e w6 ⟨rfl, HB⟩
          refine ⟨_, rfl, ?_⟩
          exact ⟨v16, v17, v18, v19, v20, (W 32 (val8 ys)), v22, v6, b6, z6, by rw [ha]; kernel_rfl, below_size hB (Nat.le_refl _) HB, fun h => e0 (h.resolve_left (by decide)), fun h => e1 (h.resolve_left (by decide)), fun h => e2 (h.resolve_left (by decide)), fun h => e3 (h.resolve_left (by decide)), fun h => e4 (h.resolve_left (by decide)), fun _ => rfl, fun h => e6 (h.resolve_left (by decide)), fun h => e7 (h.resolve_left (by decide)), fun h => r7 (h.resolve_left (by decide)), fun h => (A7 (h.resolve_left (by decide))).below HB (A7 (h.resolve_left (by decide))).lt, fun h => L7 (h.resolve_left (by decide)), fun h => q8 (h.resolve_left (by decide))⟩
        | 6, ho =>
          cases Option.some.inj ho
          have ev : a.tmps[18]?.getD undef = W 32 (val8 xs) := by rw [ha, e2 (hd ⟨2, .data⟩ (by simp) rfl)]; kernel_rfl
          have ev' : a.tmps[21]?.getD undef = W 32 (val8 ys) := by rw [ha, e5 (hd ⟨5, .data⟩ (by simp) rfl)]; kernel_rfl
          refine wp_enter (f := 73) (args := #[W 32 (val8 xs), W 32 (val8 ys)]) (by simp [execOp, ev, ev', go_sem]) ?_
          refine (prod_any (val8 xs) (val8 ys) w' hXb hYb).mono ?_
          rintro e w6 ⟨rfl, HB⟩
          refine ⟨_, rfl, ?_⟩
          exact ⟨v16, v17, v18, v19, v20, v21, (W 64 (val8 xs * val8 ys)), v6, b6, z6, by rw [ha]; kernel_rfl, below_size hB (Nat.le_refl _) HB, fun h => e0 (h.resolve_left (by decide)), fun h => e1 (h.resolve_left (by decide)), fun h => e2 (h.resolve_left (by decide)), fun h => e3 (h.resolve_left (by decide)), fun h => e4 (h.resolve_left (by decide)), fun h => e5 (h.resolve_left (by decide)), fun _ => rfl, fun h => e7 (h.resolve_left (by decide)), fun h => r7 (h.resolve_left (by decide)), fun h => (A7 (h.resolve_left (by decide))).below HB (A7 (h.resolve_left (by decide))).lt, fun h => L7 (h.resolve_left (by decide)), fun h => q8 (h.resolve_left (by decide))⟩
        | 7, ho =>
          cases Option.some.inj ho
          refine wp_value (w' := w'.alloc (.cells (cellsW (words 64 0)) 100)) (v := .pointer (some ⟨w'.heap.size, 0, none⟩)) (run_alloc64 a w' rfl) ?_
          exact ⟨v16, v17, v18, v19, v20, v21, v22, (.pointer (some ⟨w'.heap.size, 0, none⟩)), w'.heap.size, (words 64 0), by rw [ha]; kernel_rfl, hB.alloc hB.size _, fun h => e0 (h.resolve_left (by decide)), fun h => e1 (h.resolve_left (by decide)), fun h => e2 (h.resolve_left (by decide)), fun h => e3 (h.resolve_left (by decide)), fun h => e4 (h.resolve_left (by decide)), fun h => e5 (h.resolve_left (by decide)), fun h => e6 (h.resolve_left (by decide)), fun _ => rfl, fun _ => hB.size, fun _ => heap_alloc_new w' _, fun _ => words_len _ _, fun h => absurd (h.resolve_left (by decide)) (fun h => hn (hcl 8 _ rfl h ⟨7, .data⟩ (by simp) rfl))⟩
        | 8, ho =>
          cases Option.some.inj ho
          have ev : a.tmps[6]?.getD undef = .pointer (some ⟨b6, 0, none⟩) := by rw [ha, e7 (hd ⟨7, .data⟩ (by simp) rfl)]; kernel_rfl
          have ev' : a.tmps[22]?.getD undef = W 64 (val8 xs * val8 ys) := by rw [ha, e6 (hd ⟨6, .data⟩ (by simp) rfl)]; kernel_rfl
          have A := A7 (hd ⟨7, .data⟩ (by simp) rfl)
          have hr := r7 (hd ⟨7, .data⟩ (by simp) rfl)
          have hl := L7 (hd ⟨7, .data⟩ (by simp) rfl)
          refine wp_store_row 100 (.tmp 6) (.tmp 22) rfl b6 (cellsW (words 64 (val8 xs * val8 ys))) (eval_of ev) (eval_of ev') 100 _ A (size64 _) (by rw [cellsW_size, cellsW_size, words_len, hl]) (cellsW_one _) ?_
          exact ⟨v16, v17, v18, v19, v20, v21, v22, v6, b6, (words 64 (val8 xs * val8 ys)), by rw [ha]; kernel_rfl, below_setRow hB hr _, fun h => e0 (h.resolve_left (by decide)), fun h => e1 (h.resolve_left (by decide)), fun h => e2 (h.resolve_left (by decide)), fun h => e3 (h.resolve_left (by decide)), fun h => e4 (h.resolve_left (by decide)), fun h => e5 (h.resolve_left (by decide)), fun h => e6 (h.resolve_left (by decide)), fun h => e7 (h.resolve_left (by decide)), fun h => r7 (h.resolve_left (by decide)), fun _ => A.setW _, fun _ => words_len _ _, fun _ => rfl⟩
        | i + 9, ho => simp at ho
      case done =>
        rintro D a w' ⟨v16, v17, v18, v19, v20, v21, v22, v6, b6, z6, ha, hB, e0, e1, e2, e3, e4, e5, e6, e7, r7, A7, L7, q8⟩ hall
        obtain rfl := e7 (hall 7 (by decide))
        obtain rfl := q8 (hall 8 (by decide))
        have A6 := A7 (hall 7 (by decide))
        have hb6 := r7 (hall 7 (by decide))
        clear e0 e1 e2 e3 e4 e5 e6 e7 r7 A7 L7 q8 hall
        replace u0 := (hB.block _ (lt_of_block u0)).trans u0
        replace u1 := (hB.block _ (lt_of_block u1)).trans u1
        replace u2 := (hB.block _ (lt_of_block u2)).trans u2
        have hB4 := below_size hB3 (Nat.le_refl _) hB
        have hsz4 := Nat.le_trans hsz3 hB.size
        clear hB k1 k2
        generalize val8 xs * val8 ys = V at *
        rw [ha]
        clear ha
        simp only [Act.put, List.setIfInBounds_toArray, List.set_cons_zero, List.set_cons_succ]
        go_wp2
        refine wp_region_inv' (fun A D a w' => ∃ v23 v24 v25 v26 v27 v28 v29 v30 v31 v5 pv u0x u1x, a = ((((((((((A.put (some 23) v23).put (some 24) v24).put (some 25) v25).put (some 26) v26).put (some 27) v27).put (some 28) v28).put (some 29) v29).put (some 30) v30).put (some 31) v31).put (some 5) v5) ∧ Below w.heap.size w w' ∧ w.heap.size + 3 ≤ w'.heap.size ∧ w'.heap[w.heap.size]? = some (.cells #[.bool n1, .slice a1 l1 c1] 28 (0, 0)) ∧ w'.heap[w.heap.size + 1]? = some (.cells #[.bool n2, .slice a2 l2 c2] 28 (0, 0)) ∧ w'.heap[w.heap.size + 2]? = some (.cells #[u0x, u1x] 28 (0, 0)) ∧ Arr w' b6 100 (words 64 V) ∧ (D 0 → v23 = .pointer (some ⟨w.heap.size, 0, none⟩)) ∧ (D 1 → v24 = .bool n1) ∧ (D 2 → v25 = .pointer (some ⟨w.heap.size + 1, 0, none⟩)) ∧ (D 3 → v26 = .bool n2) ∧ (D 4 → v27 = .bool (n1 != n2)) ∧ (D 5 → v28 = .slice (some ⟨b6, 0, none⟩) 64 64) ∧ (D 6 → v29 = .tuple #[.agg #[.bool (fitB (n1 != n2) V), pv], .int .i64 (fitE V)]) ∧ (D 7 → v30 = .agg #[.bool (fitB (n1 != n2) V), pv]) ∧ (D 8 → v31 = .int .i64 (fitE V)) ∧ (D 10 → v5 = .int .i64 (fitE V)) ∧ (D 6 → OwnB w' (w.heap.size + 3) pv (fitM V)) ∧ (D 9 → u0x = .bool (fitB (n1 != n2) V) ∧ u1x = pv)) (by kernel_rfl) (by kernel_rfl) ?mono ?start ?step ?done
        case mono =>
          rintro D D' a w' hD ⟨v23, v24, v25, v26, v27, v28, v29, v30, v31, v5, pv, u0x, u1x, ha, gB, gsz, g0, g1, g2, gA, e0, e1, e2, e3, e4, e5, e6, e7, e8, e10, o6, u9⟩
          exact ⟨v23, v24, v25, v26, v27, v28, v29, v30, v31, v5, pv, u0x, u1x, ha, gB, gsz, g0, g1, g2, gA, fun h => e0 ((hD 0).2 h), fun h => e1 ((hD 1).2 h), fun h => e2 ((hD 2).2 h), fun h => e3 ((hD 3).2 h), fun h => e4 ((hD 4).2 h), fun h => e5 ((hD 5).2 h), fun h => e6 ((hD 6).2 h), fun h => e7 ((hD 7).2 h), fun h => e8 ((hD 8).2 h), fun h => e10 ((hD 10).2 h), fun h => o6 ((hD 6).2 h), fun h => u9 ((hD 9).2 h)⟩
        case start => exact ⟨undef, undef, undef, undef, undef, undef, undef, undef, undef, (.int .i64 0), undef, _, _, by kernel_rfl, hB4.drew, hsz4, u0, u1, u2, A6, fun h => h.elim, fun h => h.elim, fun h => h.elim, fun h => h.elim, fun h => h.elim, fun h => h.elim, fun h => h.elim, fun h => h.elim, fun h => h.elim, fun h => h.elim, fun h => h.elim, fun h => h.elim⟩
        case step =>
          intro i o ho D a w' hI hn hcl hd
          obtain ⟨v23, v24, v25, v26, v27, v28, v29, v30, v31, v5, pv, u0x, u1x, ha, gB, gsz, g0, g1, g2, gA, e0, e1, e2, e3, e4, e5, e6, e7, e8, e10, o6, u9⟩ := hI
          match i, ho with
          | 0, ho =>
            cases Option.some.inj ho
            have ev : a.tmps[2]?.getD undef = .pointer (some ⟨w.heap.size, 0, none⟩) := by rw [ha]; kernel_rfl
            refine wp_value (w' := w') (v := .pointer (some ⟨w.heap.size, 0, none⟩)) (by simp [execOp, ev, go_sem]) ?_
            exact ⟨(.pointer (some ⟨w.heap.size, 0, none⟩)), v24, v25, v26, v27, v28, v29, v30, v31, v5, pv, u0x, u1x, by rw [ha]; kernel_rfl, gB, gsz, g0, g1, g2, gA, fun _ => rfl, fun h => e1 (h.resolve_left (by decide)), fun h => e2 (h.resolve_left (by decide)), fun h => e3 (h.resolve_left (by decide)), fun h => e4 (h.resolve_left (by decide)), fun h => e5 (h.resolve_left (by decide)), fun h => e6 (h.resolve_left (by decide)), fun h => e7 (h.resolve_left (by decide)), fun h => e8 (h.resolve_left (by decide)), fun h => e10 (h.resolve_left (by decide)), fun h => o6 (h.resolve_left (by decide)), fun h => u9 (h.resolve_left (by decide))⟩
          | 1, ho =>
            cases Option.some.inj ho
            have ev : a.tmps[23]?.getD undef = .pointer (some ⟨w.heap.size, 0, none⟩) := by rw [ha, e0 (hd ⟨0, .data⟩ (by simp) rfl)]; kernel_rfl
            have hc := (intVar g0).1
            refine wp_value (w' := w') (v := .bool n1) (by simp [execOp, ev, go_sem, hc]) ?_
            exact ⟨v23, (.bool n1), v25, v26, v27, v28, v29, v30, v31, v5, pv, u0x, u1x, by rw [ha]; kernel_rfl, gB, gsz, g0, g1, g2, gA, fun h => e0 (h.resolve_left (by decide)), fun _ => rfl, fun h => e2 (h.resolve_left (by decide)), fun h => e3 (h.resolve_left (by decide)), fun h => e4 (h.resolve_left (by decide)), fun h => e5 (h.resolve_left (by decide)), fun h => e6 (h.resolve_left (by decide)), fun h => e7 (h.resolve_left (by decide)), fun h => e8 (h.resolve_left (by decide)), fun h => e10 (h.resolve_left (by decide)), fun h => o6 (h.resolve_left (by decide)), fun h => u9 (h.resolve_left (by decide))⟩
          | 2, ho =>
            cases Option.some.inj ho
            have ev : a.tmps[3]?.getD undef = .pointer (some ⟨w.heap.size + 1, 0, none⟩) := by rw [ha]; kernel_rfl
            refine wp_value (w' := w') (v := .pointer (some ⟨w.heap.size + 1, 0, none⟩)) (by simp [execOp, ev, go_sem]) ?_
            exact ⟨v23, v24, (.pointer (some ⟨w.heap.size + 1, 0, none⟩)), v26, v27, v28, v29, v30, v31, v5, pv, u0x, u1x, by rw [ha]; kernel_rfl, gB, gsz, g0, g1, g2, gA, fun h => e0 (h.resolve_left (by decide)), fun h => e1 (h.resolve_left (by decide)), fun _ => rfl, fun h => e3 (h.resolve_left (by decide)), fun h => e4 (h.resolve_left (by decide)), fun h => e5 (h.resolve_left (by decide)), fun h => e6 (h.resolve_left (by decide)), fun h => e7 (h.resolve_left (by decide)), fun h => e8 (h.resolve_left (by decide)), fun h => e10 (h.resolve_left (by decide)), fun h => o6 (h.resolve_left (by decide)), fun h => u9 (h.resolve_left (by decide))⟩
          | 3, ho =>
            cases Option.some.inj ho
            have ev : a.tmps[25]?.getD undef = .pointer (some ⟨w.heap.size + 1, 0, none⟩) := by rw [ha, e2 (hd ⟨2, .data⟩ (by simp) rfl)]; kernel_rfl
            have hc := (intVar g1).1
            refine wp_value (w' := w') (v := .bool n2) (by simp [execOp, ev, go_sem, hc]) ?_
            exact ⟨v23, v24, v25, (.bool n2), v27, v28, v29, v30, v31, v5, pv, u0x, u1x, by rw [ha]; kernel_rfl, gB, gsz, g0, g1, g2, gA, fun h => e0 (h.resolve_left (by decide)), fun h => e1 (h.resolve_left (by decide)), fun h => e2 (h.resolve_left (by decide)), fun _ => rfl, fun h => e4 (h.resolve_left (by decide)), fun h => e5 (h.resolve_left (by decide)), fun h => e6 (h.resolve_left (by decide)), fun h => e7 (h.resolve_left (by decide)), fun h => e8 (h.resolve_left (by decide)), fun h => e10 (h.resolve_left (by decide)), fun h => o6 (h.resolve_left (by decide)), fun h => u9 (h.resolve_left (by decide))⟩
          | 4, ho =>
            cases Option.some.inj ho
            have ev : a.tmps[24]?.getD undef = .bool n1 := by rw [ha, e1 (hd ⟨1, .data⟩ (by simp) rfl)]; kernel_rfl
            have ev' : a.tmps[26]?.getD undef = .bool n2 := by rw [ha, e3 (hd ⟨3, .data⟩ (by simp) rfl)]; kernel_rfl
            refine wp_value (w' := w') (v := .bool (n1 != n2)) (run_neq_boolM a w' (eval_of ev) (eval_of ev') rfl) ?_
            exact ⟨v23, v24, v25, v26, (.bool (n1 != n2)), v28, v29, v30, v31, v5, pv, u0x, u1x, by rw [ha]; kernel_rfl, gB, gsz, g0, g1, g2, gA, fun h => e0 (h.resolve_left (by decide)), fun h => e1 (h.resolve_left (by decide)), fun h => e2 (h.resolve_left (by decide)), fun h => e3 (h.resolve_left (by decide)), fun _ => rfl, fun h => e5 (h.resolve_left (by decide)), fun h => e6 (h.resolve_left (by decide)), fun h => e7 (h.resolve_left (by decide)), fun h => e8 (h.resolve_left (by decide)), fun h => e10 (h.resolve_left (by decide)), fun h => o6 (h.resolve_left (by decide)), fun h => u9 (h.resolve_left (by decide))⟩
          | 5, ho =>
            cases Option.some.inj ho
            have ev : a.tmps[6]?.getD undef = .pointer (some ⟨b6, 0, none⟩) := by rw [ha]; kernel_rfl
            have hs := run_all64 ⟨b6, 0, none⟩ w'
            refine wp_value (w' := w') (v := .slice (some ⟨b6, 0, none⟩) 64 64) (by simp [execOp, ev, go_sem, hs]) ?_
            exact ⟨v23, v24, v25, v26, v27, (.slice (some ⟨b6, 0, none⟩) 64 64), v29, v30, v31, v5, pv, u0x, u1x, by rw [ha]; kernel_rfl, gB, gsz, g0, g1, g2, gA, fun h => e0 (h.resolve_left (by decide)), fun h => e1 (h.resolve_left (by decide)), fun h => e2 (h.resolve_left (by decide)), fun h => e3 (h.resolve_left (by decide)), fun h => e4 (h.resolve_left (by decide)), fun _ => rfl, fun h => e6 (h.resolve_left (by decide)), fun h => e7 (h.resolve_left (by decide)), fun h => e8 (h.resolve_left (by decide)), fun h => e10 (h.resolve_left (by decide)), fun h => o6 (h.resolve_left (by decide)), fun h => u9 (h.resolve_left (by decide))⟩
          | 6, ho =>
            cases Option.some.inj ho
            have ev : a.tmps[27]?.getD undef = .bool (n1 != n2) := by rw [ha, e4 (hd ⟨4, .data⟩ (by simp) rfl)]; kernel_rfl
            have ev' : a.tmps[28]?.getD undef = .slice (some ⟨b6, 0, none⟩) 64 64 := by rw [ha, e5 (hd ⟨5, .data⟩ (by simp) rfl)]; kernel_rfl
            refine wp_enter (f := 71) (args := #[.bool (n1 != n2), .slice (some ⟨b6, 0, none⟩) 64 64]) (by simp [execOp, ev, ev', go_sem]) ?_
            refine (pack_any (n1 != n2) (Arr.isW gA (words_len _ _) (by decide) (words_lt _ _)) (by decide) (val32_words 64 _ hVb)).mono ?_
            rintro e w6 ⟨nv, rfl, hO, HB⟩
            refine ⟨_, rfl, ?_⟩
            exact ⟨v23, v24, v25, v26, v27, v28, (.tuple #[.agg #[.bool (fitB (n1 != n2) V), nv], .int .i64 (fitE V)]), v30, v31, v5, nv, u0x, u1x, by rw [ha]; kernel_rfl, below_size gB (Nat.le_refl _) HB, Nat.le_trans gsz HB.size, (HB.block _ (lt_of_block g0)).trans g0, (HB.block _ (lt_of_block g1)).trans g1, (HB.block _ (lt_of_block g2)).trans g2, gA.below HB gA.lt, fun h => e0 (h.resolve_left (by decide)), fun h => e1 (h.resolve_left (by decide)), fun h => e2 (h.resolve_left (by decide)), fun h => e3 (h.resolve_left (by decide)), fun h => e4 (h.resolve_left (by decide)), fun h => e5 (h.resolve_left (by decide)), fun _ => rfl, fun h => absurd (h.resolve_left (by decide)) (fun h => hn (hcl 7 _ rfl h ⟨6, .data⟩ (by simp) rfl)), fun h => e8 (h.resolve_left (by decide)), fun h => e10 (h.resolve_left (by decide)), fun _ => hO.mono gsz, fun h => absurd (h.resolve_left (by decide)) (fun h => (fun h => hn (hcl 7 _ rfl h ⟨6, .data⟩ (by simp) rfl)) (hcl 9 _ rfl h ⟨7, .data⟩ (by simp) rfl))⟩
          | 7, ho =>
            cases Option.some.inj ho
            have ev : a.tmps[29]?.getD undef = .tuple #[.agg #[.bool (fitB (n1 != n2) V), pv], .int .i64 (fitE V)] := by rw [ha, e6 (hd ⟨6, .data⟩ (by simp) rfl)]; kernel_rfl
            refine wp_value (w' := w') (v := .agg #[.bool (fitB (n1 != n2) V), pv]) (by simp [execOp, ev, go_sem]) ?_
            exact ⟨v23, v24, v25, v26, v27, v28, v29, (.agg #[.bool (fitB (n1 != n2) V), pv]), v31, v5, pv, u0x, u1x, by rw [ha]; kernel_rfl, gB, gsz, g0, g1, g2, gA, fun h => e0 (h.resolve_left (by decide)), fun h => e1 (h.resolve_left (by decide)), fun h => e2 (h.resolve_left (by decide)), fun h => e3 (h.resolve_left (by decide)), fun h => e4 (h.resolve_left (by decide)), fun h => e5 (h.resolve_left (by decide)), fun h => e6 (h.resolve_left (by decide)), fun _ => rfl, fun h => e8 (h.resolve_left (by decide)), fun h => e10 (h.resolve_left (by decide)), fun h => o6 (h.resolve_left (by decide)), fun h => u9 (h.resolve_left (by decide))⟩
          | 8, ho =>
            cases Option.some.inj ho
            have ev : a.tmps[29]?.getD undef = .tuple #[.agg #[.bool (fitB (n1 != n2) V), pv], .int .i64 (fitE V)] := by rw [ha, e6 (hd ⟨6, .data⟩ (by simp) rfl)]; kernel_rfl
            refine wp_value (w' := w') (v := .int .i64 (fitE V)) (by simp [execOp, ev, go_sem]) ?_
            exact ⟨v23, v24, v25, v26, v27, v28, v29, v30, (.int .i64 (fitE V)), v5, pv, u0x, u1x, by rw [ha]; kernel_rfl, gB, gsz, g0, g1, g2, gA, fun h => e0 (h.resolve_left (by decide)), fun h => e1 (h.resolve_left (by decide)), fun h => e2 (h.resolve_left (by decide)), fun h => e3 (h.resolve_left (by decide)), fun h => e4 (h.resolve_left (by decide)), fun h => e5 (h.resolve_left (by decide)), fun h => e6 (h.resolve_left (by decide)), fun h => e7 (h.resolve_left (by decide)), fun _ => rfl, fun h => e10 (h.resolve_left (by decide)), fun h => o6 (h.resolve_left (by decide)), fun h => u9 (h.resolve_left (by decide))⟩
          | 9, ho =>
            cases Option.some.inj ho
            have ev : a.tmps[30]?.getD undef = .agg #[.bool (fitB (n1 != n2) V), pv] := by rw [ha, e7 (hd ⟨7, .data⟩ (by simp) rfl)]; kernel_rfl
            have ev' : a.tmps[4]?.getD undef = .pointer (some ⟨w.heap.size + 2, 0, none⟩) := by rw [ha]; kernel_rfl
            have hO := o6 (hd ⟨6, .chain⟩ (by simp) rfl)
            obtain ⟨av, cv, rfl, _⟩ := hO.2
            refine wp_store_row 28 (.tmp 4) (.tmp 30) rfl (w.heap.size + 2) _ (eval_of ev') (eval_of ev) 28 _ g2 size25 rfl (by simp [Value.oneCell']) ?_
            exact ⟨v23, v24, v25, v26, v27, v28, v29, v30, v31, v5, _, (.bool (fitB (n1 != n2) V)), _, by rw [ha]; kernel_rfl, below_setRow gB (by omega) _, (by simpa using gsz), (setRow_other _ _ _ _ (by omega)).trans g0, (setRow_other _ _ _ _ (by omega)).trans g1, setRow_heap _ _ _ _ _ _ g2, gA.otherW _ (by omega), fun h => e0 (h.resolve_left (by decide)), fun h => e1 (h.resolve_left (by decide)), fun h => e2 (h.resolve_left (by decide)), fun h => e3 (h.resolve_left (by decide)), fun h => e4 (h.resolve_left (by decide)), fun h => e5 (h.resolve_left (by decide)), fun h => e6 (h.resolve_left (by decide)), fun h => e7 (h.resolve_left (by decide)), fun h => e8 (h.resolve_left (by decide)), fun h => e10 (h.resolve_left (by decide)), fun _ => ownB_setRow hO (by omega), fun _ => ⟨rfl, rfl⟩⟩
          | 10, ho =>
            cases Option.some.inj ho
            have ev : a.tmps[31]?.getD undef = .int .i64 (fitE V) := by rw [ha, e8 (hd ⟨8, .data⟩ (by simp) rfl)]; kernel_rfl
            refine wp_value (w' := w') (v := .int .i64 (fitE V)) (by simp [execOp, ev, go_sem]) ?_
            exact ⟨v23, v24, v25, v26, v27, v28, v29, v30, v31, (.int .i64 (fitE V)), pv, u0x, u1x, by rw [ha]; kernel_rfl, gB, gsz, g0, g1, g2, gA, fun h => e0 (h.resolve_left (by decide)), fun h => e1 (h.resolve_left (by decide)), fun h => e2 (h.resolve_left (by decide)), fun h => e3 (h.resolve_left (by decide)), fun h => e4 (h.resolve_left (by decide)), fun h => e5 (h.resolve_left (by decide)), fun h => e6 (h.resolve_left (by decide)), fun h => e7 (h.resolve_left (by decide)), fun h => e8 (h.resolve_left (by decide)), fun _ => rfl, fun h => o6 (h.resolve_left (by decide)), fun h => u9 (h.resolve_left (by decide))⟩
          | i + 11, ho => simp at ho
        case done =>
          rintro D a w' ⟨v23, v24, v25, v26, v27, v28, v29, v30, v31, v5, pv, u0x, u1x, ha, gB, gsz, g0, g1, g2, gA, e0, e1, e2, e3, e4, e5, e6, e7, e8, e10, o6, u9⟩ hall
          have oV := o6 (hall 6 (by decide))
          obtain ⟨hu0, hu1⟩ := u9 (hall 9 (by decide))
          rw [hu0, hu1] at g2
          obtain rfl := e10 (hall 10 (by decide))
          clear hu0 hu1 e0 e1 e2 e3 e4 e5 e6 e7 e8 e10 o6 u9 hall g0 g1 gA
          obtain ⟨p0, p1, _, _⟩ := intVar g2
          rw [ha]
          clear ha
          simp only [Act.put, List.setIfInBounds_toArray, List.set_cons_zero, List.set_cons_succ]
          go_wp2
          exact bodyPost_ret (v := .tuple #[.agg #[.bool (fitB (n1 != n2) V), pv], .int .i64 (fitE V)]) (by simp [results, Try.results50, go_sem, p0, p1]) rfl ⟨pv, by rw [Hb.out, He.out], by rw [Hm.out]; exact oV.mono (by omega), gB⟩
end Go.Proofs.Ytkpngpongbpfgaa
