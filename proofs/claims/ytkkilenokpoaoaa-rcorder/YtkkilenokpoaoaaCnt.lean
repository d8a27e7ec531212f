/- rc.counted. -/
import Derived.Test.YtkkilenokpoaoaaOps
namespace Go.Proofs.Ytkkilenokpoaoaa
open Go.RowKit
set_option maxRecDepth 100000
theorem cnt_no {p : Pp} {k n : Int} {t : List (Int × Int)} (h : ¬ (k = 3 ∧ p.k = 3 ∧ p.add = true ∧ -1152921504606846976 ≤ n + p.n ∧ n + p.n < 1152921504606846976)) : cnt ((k, n) :: t) p = none := by
  simp only [cnt]
  rw [if_neg h]
theorem cnt_yes {p : Pp} {k n : Int} {t : List (Int × Int)} (h : k = 3 ∧ p.k = 3 ∧ p.add = true ∧ -1152921504606846976 ≤ n + p.n ∧ n + p.n < 1152921504606846976) : cnt ((k, n) :: t) p = some ((k, n + p.n) :: t) := by
  simp only [cnt]
  rw [if_pos h]
theorem counted_none {w : World} {base : Nat} {v : Value} (p : Pp) (h : OwnV w base v []) :
    Calls Try.prog 37 #[v, .agg #[.int .i64 p.oop, .bool p.add, .int .i64 p.k, .int .i64 p.n]] w (Did base v w none) := by
  obtain ⟨_, a, c, rfl, _⟩ := h
  go_enter Try.func37, Try.ntmps37
  go_wp2
  go_ret2
  exact ⟨rfl, Kp.of box_below⟩
theorem below_drewN' {N : Nat} {w w' : World} (h : Below N w w') (q : Nat) : Below N w (w'.drewN q) := ⟨h.os, h.tape, h.output, h.size, h.block⟩
theorem wrap_far {x : Int} (h1 : -18446744073709551616 ≤ x) (h2 : x ≤ 18446744073709551614) (h : ¬ (-9223372036854775808 ≤ x ∧ x ≤ 9223372036854775807)) : (9223372036854775807 < x ∧ IntKind.i64.wrap x = x - 18446744073709551616) ∨ (x < -9223372036854775808 ∧ IntKind.i64.wrap x = x + 18446744073709551616) := by
  rw [IntKind.wrap_i64]
  omega
theorem wfVs_cons {v : Int × Int} {t : List (Int × Int)} (h : (-9223372036854775808 ≤ v.1 ∧ v.1 ≤ 9223372036854775807) ∧ (-9223372036854775808 ≤ v.2 ∧ v.2 ≤ 9223372036854775807)) (ht : wfVs t) : wfVs (v :: t) := by
  intro u hu
  rcases List.mem_cons.1 hu with rfl | hu
  · exact h
  · exact ht u hu
theorem kp_set {w w1 : World} {v x : Value} {g i : Nat} (B : Below w.heap.size w w1) (hv : v.ownBlock = some g) : Kp v w (w1.setCell ⟨g, i, none⟩ x) :=
  ⟨B.os, B.tape, B.output, by simpa using B.size, fun j hj hn => (heap_setCell_other _ _ _ _ (fun e => hn (by rw [hv, e]))).trans (B.block j hj)⟩
set_option maxHeartbeats 2000000 in
theorem counted_some {w : World} {base g c L : Nat} {k n : Int} {t : List (Int × Int)} (p : Pp) (hL : Hid (L = t.length + 1)) (h : OwnV w base (.slice (some ⟨g, 0, none⟩) L c) ((k, n) :: t)) (hp : p.ok) :
    Calls Try.prog 37 #[.slice (some ⟨g, 0, none⟩) L c, .agg #[.int .i64 p.oop, .bool p.add, .int .i64 p.k, .int .i64 p.n]] w (Did base (.slice (some ⟨g, 0, none⟩) L c) w (cnt ((k, n) :: t) p)) := by
  obtain ⟨oop, add, pk, pn⟩ := p
  obtain ⟨hp0, hp1, hp2⟩ := hp
  simp only at hp0 hp1 hp2 ⊢
  have hw := h.wf (k, n) (by simp)
  have c0 : w.cell? ⟨g, 0, none⟩ = some (.int .i64 k) := by
    have := World.ownsRow.cells h.1 (g := g) rfl 0 _ rfl
    rwa [addr_add] at this
  have c1 : w.cell? ⟨g, 1, none⟩ = some (.int .i64 n) := by
    have := World.ownsRow.cells h.1 (g := g) rfl 1 _ rfl
    rwa [addr_add] at this
  have hl : 0 < L := by have := hL.out; omega
  have hlb : L ≤ 9223372036854775807 := by
    obtain ⟨_, a', c', e, k⟩ := h
    simp only [Value.slice.injEq] at e
    obtain ⟨_, e1, rfl⟩ := e
    have := k.room
    have := k.most
    unfold maxLen at this
    omega
  have hg := lt_of_cell c0
  by_cases hk : k = 3
  case neg =>
    rw [cnt_no (fun h => hk h.1)]
    go_enter Try.func37, Try.ntmps37
    go_wp2
    go_ret2
    exact ⟨rfl, Kp.of box_below⟩
  subst hk
  by_cases hpk : pk = 3
  case neg =>
    rw [cnt_no (fun h => hpk h.2.1)]
    go_enter Try.func37, Try.ntmps37
    go_wp2
    go_ret2
    exact ⟨rfl, Kp.of box_below⟩
  subst hpk
  cases add
  case false =>
    rw [cnt_no (fun h => Bool.false_ne_true h.2.2.1)]
    go_enter Try.func37, Try.ntmps37
    go_wp2
    go_ret2
    exact ⟨rfl, Kp.of box_below⟩
  obtain ⟨hn1, hn2⟩ := hw.2
  obtain ⟨hq1, hq2⟩ := hp2
  by_cases ho : -9223372036854775808 ≤ n + pn ∧ n + pn ≤ 9223372036854775807
  case neg =>
    rw [cnt_no (fun h => ho ⟨by have : -1152921504606846976 ≤ n + pn := h.2.2.2.1; omega, by have : n + pn < 1152921504606846976 := h.2.2.2.2; omega⟩)]
    obtain ⟨S, hS⟩ : ∃ S, IntKind.i64.wrap (n + pn) = S := ⟨_, rfl⟩
    have hfar := wrap_far (x := n + pn) (by omega) (by omega) ho
    rw [hS] at hfar
    clear ho
    by_cases hneg : pn < 0
    · have hlt : ¬ S < n := by omega
      clear hfar
      go_enter Try.func37, Try.ntmps37
      go_wp2_with fail
      go_quiet (fail)
      go_wp2
      all_goals first
        | (exfalso; simp_all; done)
        | (exfalso; simp_all; omega)
        | (go_ret2; exact ⟨rfl, Kp.of (below_drewN' box_below _)⟩)
    · have hlt : S < n := by omega
      clear hfar
      go_enter Try.func37, Try.ntmps37
      go_wp2_with fail
      go_quiet (fail)
      go_wp2
      all_goals first
        | (exfalso; simp_all; done)
        | (exfalso; simp_all; omega)
        | (go_ret2; exact ⟨rfl, Kp.of (below_drewN' box_below _)⟩)
  have hS : IntKind.i64.wrap (n + pn) = n + pn := by rw [IntKind.wrap_i64]; omega
  by_cases hr : -1152921504606846976 ≤ n + pn ∧ n + pn < 1152921504606846976
  · rw [cnt_yes (p := ⟨oop, true, 3, pn⟩) ⟨rfl, rfl, rfl, hr.1, hr.2⟩]
    obtain ⟨hr1, hr2⟩ := hr
    have hown : w.ownsRow base 60 2 (.slice (some ⟨g, 0, none⟩) L c) L (flatV ((3, n) :: t)) := by
      have e := hL.out
      subst e
      exact h.1
    have hown1 := own_below hown (box_below (o := .cells #[.int .i64 oop, .bool true, .int .i64 3, .int .i64 pn] 66))
    have hf := hown1.frozenAt 1
    have hst := hown1.stored 1 (.int .i64 (n + pn))
    have hx : (decide (n + pn < n) == decide (pn < 0)) = true := by
      by_cases hq : pn < 0
      · rw [decide_eq_true hq, decide_eq_true (by omega)]; rfl
      · rw [decide_eq_false hq, decide_eq_false (by omega)]; rfl
    go_enter Try.func37, Try.ntmps37
    go_wp2_with fail
    go_quiet (fail)
    go_wp2
    all_goals first
      | (exfalso; simp_all; done)
      | (exfalso; omega)
      | (exfalso; simp_all; omega)
      | skip
    obtain rfl := hL.out
    go_ret2
    exact ⟨_, _, rfl, ownV_of (own_same hst.1 (fun g _ => rfl)) (wfVs_cons ⟨(⟨by decide, by decide⟩ : (-9223372036854775808 : Int) ≤ 3 ∧ (3 : Int) ≤ 9223372036854775807), ho⟩ (fun v hv => h.wf v (List.mem_cons_of_mem _ hv))), kp_set (below_drewN' box_below nq) rfl⟩
  · rw [cnt_no (fun h => hr h.2.2.2)]
    by_cases hr1 : n + pn < -1152921504606846976
    · go_enter Try.func37, Try.ntmps37
      go_wp2_with fail
      go_quiet (fail)
      go_wp2
      all_goals first
        | (exfalso; simp_all; done)
        | (exfalso; simp_all; omega)
        | (go_ret2; exact ⟨rfl, Kp.of (below_drewN' box_below _)⟩)
    · go_enter Try.func37, Try.ntmps37
      go_wp2_with fail
      go_quiet (fail)
      go_wp2
      all_goals first
        | (exfalso; simp_all; done)
        | (exfalso; simp_all; omega)
        | (go_ret2; exact ⟨rfl, Kp.of (below_drewN' box_below _)⟩)
theorem counted_any {w : World} {base : Nat} {v : Value} {vs : List (Int × Int)} (p : Pp) (h : OwnV w base v vs) (hp : p.ok) :
    Calls Try.prog 37 #[v, .agg #[.int .i64 p.oop, .bool p.add, .int .i64 p.k, .int .i64 p.n]] w (Did base v w (cnt vs p)) := by
  cases vs with
  | nil => exact counted_none p h
  | cons x t =>
    obtain ⟨k, n⟩ := x
    obtain ⟨h1, a, c, rfl, h3⟩ := h
    rcases h1.2 with ⟨e, h0⟩ | ⟨g, cap, cur, e, _⟩
    · simp at h0
    · simp only [Value.slice.injEq] at e
      obtain ⟨rfl, _, rfl⟩ := e
      exact counted_some p rfl ⟨h1, _, _, rfl, h3⟩ hp
end Go.Proofs.Ytkkilenokpoaoaa
