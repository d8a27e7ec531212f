/- The document's view: Peek, Get. -/
import Derived.Test.YteomolihandfnaaGreatRac
namespace Go.Proofs.YteomolihandfnaaGreat
open Go.RowKit
set_option maxRecDepth 100000
theorem Tryz.results12 : Tryz.f12.results = #[.cell 4 35, .tmp 5] := by kernel_rfl
theorem Tryz.results8 : Tryz.f8.results = #[.cell 4 35, .tmp 5] := by kernel_rfl
set_option maxHeartbeats 16000000 in
theorem dpeek_any {w : World} {U X : Nat → Prop} {b ub : Nat} {v : Dv} {u : RTab} (h : Db w X b ub v) (hu : RTb w U ub u) (hf : u.from_ ≤ v.c) (hf2 : v.c ≤ u.end_) (hok0 : ∀ r ∈ u.recs, okR r.1 r.2 = true) (hk0 : u.k ≤ 1000) (hg0 : ∀ x ∈ v.l, ObG (obC x)) (k : Int) :
    Calls Tryz.prog 12 #[.pointer (some ⟨b, 0, none⟩), .int .i64 k] w fun e w' => PkQ w (dpk v u k) e w' := by
  have hok : Hid (∀ r ∈ u.recs, okR r.1 r.2 = true) := hok0
  have hg : Hid (∀ x ∈ v.l, ObG (obC x)) := hg0
  clear hok0 hg0
  have E4 := new1 w (objB 0 (.slice none 0 0) (.slice none 0 0))
  have B4 : Below w.heap.size w (w.alloc (objB 0 (.slice none 0 0) (.slice none 0 0))) := box_below
  have h1 := h.below B4
  have ht1 := hu.below B4
  have l4 : w.heap.size ≤ w.heap.size := Nat.le_refl _
  unfold objB at E4 B4 h1 ht1
  clear h hu
  go_enter Tryz.func12, Tryz.ntmps12
  go_wp2_with fail
  generalize w.alloc (.cells #[.int .i64 0, .slice none 0 0, .slice none 0 0] 35) = w1 at *
  obtain ⟨b4, hb4⟩ : ∃ q, q = w.heap.size := ⟨_, rfl⟩
  rw [← hb4] at E4 ⊢
  replace l4 : w.heap.size ≤ b4 := Nat.le_of_eq hb4.symm
  clear hb4
  replace E4 : w1.heap[b4]? = some (objB 0 (.slice none 0 0) (.slice none 0 0)) := E4
  refine (dfind_any h1 k).mono ?_
  rintro e w2 ⟨rfl, rfl⟩
  obtain ⟨lv, rb, hblk, hL, _, _, _⟩ := h1.blk
  obtain ⟨la, ln, lc, rfl, hn0⟩ := hL.shape
  have hsz : Hid (v.l.length = ln) := hn0.symm
  have hnn : ln ≤ 8192 := by have := h1.few; omega
  have hC := hL.ownC.isC
  obtain ⟨x0, x1, x2, x3, x4⟩ := dv_cells hblk
  clear hn0 hL h1
  obtain ⟨z, hz⟩ : ∃ z, Hid (findI v.l k = z) := ⟨_, rfl⟩
  rw [hz.out]
  by_cases hneg : z < 0
  · have hfn := findI_neg (xs := v.l) (k := k) (by rw [hz.out]; exact hneg)
    have hz0 : ¬ (0 : Int) ≤ z := by omega
    obtain ⟨X, hX⟩ : ∃ X, Hid (rAt (upTo u.recs v.c) k = X) := ⟨_, rfl⟩
    obtain ⟨E, hE⟩ : ∃ E, Hid (errR X = E) := ⟨_, rfl⟩
    have hP : Hid (dpk v u k = X) := by show dpk v u k = _; unfold dpk; rw [hfn]; exact hX.out
    have n0 : X = none → E ≠ 0 := fun e => by rw [← hE.out, e]; decide
    have n1 : ∀ x, X = some x → E = 0 := fun x e => by rw [← hE.out, e]; rfl
    replace n0 : Hid _ := n0
    replace n1 : Hid _ := n1
    obtain ⟨base, hbase⟩ : ∃ q, q = v.c := ⟨_, rfl⟩
    rw [← hbase] at hblk hX hf hf2 x1
    clear hbase hfn hC hg hsz
    have hfb := hf
    have hfb2 := hf2
    go_upto_region 4 with fail
    clear x0 x1 x2 x3 x4
    obtain ⟨x0, x1, x2, x3, x4⟩ := dv_cells hblk
    have G4 := E4
    have BB := B4
    have ht := ht1
    have hblk6 := hblk
    clear hblk ht1 E4 B4
    refine wp_region_inv' (fun A D a w' => ∃ v24 v25 v26 v27 v28 v29 v30 v31 v32 v33 v23 v34 v35 v7 v8 va vn vc qa qn qc b8, a = (((((((((((((((A.put (some 24) v24).put (some 25) v25).put (some 26) v26).put (some 27) v27).put (some 28) v28).put (some 29) v29).put (some 30) v30).put (some 31) v31).put (some 32) v32).put (some 33) v33).put (some 23) v23).put (some 34) v34).put (some 35) v35).put (some 7) v7).put (some 8) v8) ∧ Below w1.heap.size w1 w' ∧ (D 0 → v24 = .pointer (some ⟨b, 0, none⟩)) ∧ (D 1 → v25 = .pointer (some ⟨b, 0, none⟩)) ∧ (D 2 → v26 = .pointer (some ⟨b, 0, none⟩)) ∧ (D 3 → v27 = .pointer (some ⟨ub, 0, none⟩)) ∧ (D 4 → v28 = .pointer (some ⟨b, 0, none⟩)) ∧ (D 5 → v29 = .pointer (some ⟨b, 0, none⟩)) ∧ (D 6 → v30 = .pointer (some ⟨b, 1, none⟩)) ∧ (D 7 → v31 = .int .i64 base) ∧ (D 8 → v32 = .int .i64 k) ∧ (D 9 → v33 = .tuple #[.agg #[.int .i64 (clsR X), .slice va vn vc, .slice qa qn qc], .int .i64 E]) ∧ (D 10 → v23 = .tuple #[.agg #[.int .i64 (clsR X), .slice va vn vc, .slice qa qn qc], .int .i64 E]) ∧ (D 11 → v34 = .agg #[.int .i64 (clsR X), .slice va vn vc, .slice qa qn qc]) ∧ (D 12 → v35 = .int .i64 E) ∧ (D 13 → v7 = .pointer (some ⟨b8, 0, none⟩)) ∧ (D 15 → v8 = .int .i64 E) ∧ (D 9 → OwnV w' w1.heap.size (.slice va vn vc) (vsR X) ∧ OwnB w' w1.heap.size (.slice qa qn qc) (bsR X)) ∧ (D 14 → w'.heap[b8]? = some (objB (clsR X) (.slice va vn vc) (.slice qa qn qc)) ∧ w1.heap.size ≤ b8) ∧ (D 13 → ¬ D 14 → w'.heap[b8]? = some (objB 0 (.slice none 0 0) (.slice none 0 0)) ∧ w1.heap.size ≤ b8)) (by kernel_rfl) (by kernel_rfl) ?mono ?start ?step ?done
    case mono =>
      rintro D D' a w' hD ⟨v24, v25, v26, v27, v28, v29, v30, v31, v32, v33, v23, v34, v35, v7, v8, va, vn, vc, qa, qn, qc, b8, ha, hB, e0, e1, e2, e3, e4, e5, e6, e7, e8, e9, e10, e11, e12, e13, e15, h9, hS, hN⟩
      exact ⟨v24, v25, v26, v27, v28, v29, v30, v31, v32, v33, v23, v34, v35, v7, v8, va, vn, vc, qa, qn, qc, b8, ha, hB, fun h => e0 ((hD 0).2 h), fun h => e1 ((hD 1).2 h), fun h => e2 ((hD 2).2 h), fun h => e3 ((hD 3).2 h), fun h => e4 ((hD 4).2 h), fun h => e5 ((hD 5).2 h), fun h => e6 ((hD 6).2 h), fun h => e7 ((hD 7).2 h), fun h => e8 ((hD 8).2 h), fun h => e9 ((hD 9).2 h), fun h => e10 ((hD 10).2 h), fun h => e11 ((hD 11).2 h), fun h => e12 ((hD 12).2 h), fun h => e13 ((hD 13).2 h), fun h => e15 ((hD 15).2 h), fun h => h9 ((hD 9).2 h), fun h => hS ((hD 14).2 h), fun h h' => hN ((hD 13).2 h) (fun k => h' ((hD 14).1 k))⟩
    case start => exact ⟨undef, undef, undef, undef, undef, undef, undef, undef, undef, undef, undef, undef, undef, undef, undef, none, 0, 0, none, 0, 0, 0, by kernel_rfl, (Below.refl _ _).drew, fun h => h.elim, fun h => h.elim, fun h => h.elim, fun h => h.elim, fun h => h.elim, fun h => h.elim, fun h => h.elim, fun h => h.elim, fun h => h.elim, fun h => h.elim, fun h => h.elim, fun h => h.elim, fun h => h.elim, fun h => h.elim, fun h => h.elim, fun h => h.elim, fun h => h.elim, fun h _ => h.elim⟩
    case step =>
      intro i o ho D a w' hI hn hcl hd
      obtain ⟨v24, v25, v26, v27, v28, v29, v30, v31, v32, v33, v23, v34, v35, v7, v8, va, vn, vc, qa, qn, qc, b8, ha, hB, e0, e1, e2, e3, e4, e5, e6, e7, e8, e9, e10, e11, e12, e13, e15, h9, hS, hN⟩ := hI
      match i, ho with
      | 0, ho =>
        cases Option.some.inj ho
        have ev : a.tmps[0]?.getD undef = .pointer (some ⟨b, 0, none⟩) := by rw [ha]; kernel_rfl
        refine wp_value (w' := w') (v := .pointer (some ⟨b, 0, none⟩)) (by simp [execOp, ev, go_sem]) ?_
        exact ⟨(.pointer (some ⟨b, 0, none⟩)), v25, v26, v27, v28, v29, v30, v31, v32, v33, v23, v34, v35, v7, v8, va, vn, vc, qa, qn, qc, b8, by rw [ha]; kernel_rfl, hB, fun _ => rfl, fun h => e1 (h.resolve_left (by decide)), fun h => e2 (h.resolve_left (by decide)), fun h => e3 (h.resolve_left (by decide)), fun h => e4 (h.resolve_left (by decide)), fun h => e5 (h.resolve_left (by decide)), fun h => e6 (h.resolve_left (by decide)), fun h => e7 (h.resolve_left (by decide)), fun h => e8 (h.resolve_left (by decide)), fun h => e9 (h.resolve_left (by decide)), fun h => e10 (h.resolve_left (by decide)), fun h => e11 (h.resolve_left (by decide)), fun h => e12 (h.resolve_left (by decide)), fun h => e13 (h.resolve_left (by decide)), fun h => e15 (h.resolve_left (by decide)), fun h => h9 (h.resolve_left (by decide)), fun h => hS (h.resolve_left (by decide)), fun h h' => hN (h.resolve_left (by decide)) (fun k => h' (.inr k))⟩
      | 1, ho =>
        cases Option.some.inj ho
        have ev : a.tmps[24]?.getD undef = .pointer (some ⟨b, 0, none⟩) := by rw [ha, e0 (hd ⟨0, .data⟩ (by simp) rfl)]; kernel_rfl
        refine wp_value (w' := w') (v := .pointer (some ⟨b, 0, none⟩)) (by simp [execOp, ev, go_sem]) ?_
        exact ⟨v24, (.pointer (some ⟨b, 0, none⟩)), v26, v27, v28, v29, v30, v31, v32, v33, v23, v34, v35, v7, v8, va, vn, vc, qa, qn, qc, b8, by rw [ha]; kernel_rfl, hB, fun h => e0 (h.resolve_left (by decide)), fun _ => rfl, fun h => e2 (h.resolve_left (by decide)), fun h => e3 (h.resolve_left (by decide)), fun h => e4 (h.resolve_left (by decide)), fun h => e5 (h.resolve_left (by decide)), fun h => e6 (h.resolve_left (by decide)), fun h => e7 (h.resolve_left (by decide)), fun h => e8 (h.resolve_left (by decide)), fun h => e9 (h.resolve_left (by decide)), fun h => e10 (h.resolve_left (by decide)), fun h => e11 (h.resolve_left (by decide)), fun h => e12 (h.resolve_left (by decide)), fun h => e13 (h.resolve_left (by decide)), fun h => e15 (h.resolve_left (by decide)), fun h => h9 (h.resolve_left (by decide)), fun h => hS (h.resolve_left (by decide)), fun h h' => hN (h.resolve_left (by decide)) (fun k => h' (.inr k))⟩
      | 2, ho =>
        cases Option.some.inj ho
        have ev : a.tmps[25]?.getD undef = .pointer (some ⟨b, 0, none⟩) := by rw [ha, e1 (hd ⟨1, .data⟩ (by simp) rfl)]; kernel_rfl
        refine wp_value (w' := w') (v := .pointer (some ⟨b, 0, none⟩)) (by simp [execOp, ev, go_sem]) ?_
        exact ⟨v24, v25, (.pointer (some ⟨b, 0, none⟩)), v27, v28, v29, v30, v31, v32, v33, v23, v34, v35, v7, v8, va, vn, vc, qa, qn, qc, b8, by rw [ha]; kernel_rfl, hB, fun h => e0 (h.resolve_left (by decide)), fun h => e1 (h.resolve_left (by decide)), fun _ => rfl, fun h => e3 (h.resolve_left (by decide)), fun h => e4 (h.resolve_left (by decide)), fun h => e5 (h.resolve_left (by decide)), fun h => e6 (h.resolve_left (by decide)), fun h => e7 (h.resolve_left (by decide)), fun h => e8 (h.resolve_left (by decide)), fun h => e9 (h.resolve_left (by decide)), fun h => e10 (h.resolve_left (by decide)), fun h => e11 (h.resolve_left (by decide)), fun h => e12 (h.resolve_left (by decide)), fun h => e13 (h.resolve_left (by decide)), fun h => e15 (h.resolve_left (by decide)), fun h => h9 (h.resolve_left (by decide)), fun h => hS (h.resolve_left (by decide)), fun h h' => hN (h.resolve_left (by decide)) (fun k => h' (.inr k))⟩
      | 3, ho =>
        cases Option.some.inj ho
        have ev : a.tmps[26]?.getD undef = .pointer (some ⟨b, 0, none⟩) := by rw [ha, e2 (hd ⟨2, .data⟩ (by simp) rfl)]; kernel_rfl
        have hc := (hB.cell (p := ⟨b, 0, none⟩) (lt_of_cell x0)).trans x0
        refine wp_value (w' := w') (v := .pointer (some ⟨ub, 0, none⟩)) (by simp [execOp, ev, go_sem, hc]) ?_
        exact ⟨v24, v25, v26, (.pointer (some ⟨ub, 0, none⟩)), v28, v29, v30, v31, v32, v33, v23, v34, v35, v7, v8, va, vn, vc, qa, qn, qc, b8, by rw [ha]; kernel_rfl, hB, fun h => e0 (h.resolve_left (by decide)), fun h => e1 (h.resolve_left (by decide)), fun h => e2 (h.resolve_left (by decide)), fun _ => rfl, fun h => e4 (h.resolve_left (by decide)), fun h => e5 (h.resolve_left (by decide)), fun h => e6 (h.resolve_left (by decide)), fun h => e7 (h.resolve_left (by decide)), fun h => e8 (h.resolve_left (by decide)), fun h => e9 (h.resolve_left (by decide)), fun h => e10 (h.resolve_left (by decide)), fun h => e11 (h.resolve_left (by decide)), fun h => e12 (h.resolve_left (by decide)), fun h => e13 (h.resolve_left (by decide)), fun h => e15 (h.resolve_left (by decide)), fun h => h9 (h.resolve_left (by decide)), fun h => hS (h.resolve_left (by decide)), fun h h' => hN (h.resolve_left (by decide)) (fun k => h' (.inr k))⟩
      | 4, ho =>
        cases Option.some.inj ho
        have ev : a.tmps[0]?.getD undef = .pointer (some ⟨b, 0, none⟩) := by rw [ha]; kernel_rfl
        refine wp_value (w' := w') (v := .pointer (some ⟨b, 0, none⟩)) (by simp [execOp, ev, go_sem]) ?_
        exact ⟨v24, v25, v26, v27, (.pointer (some ⟨b, 0, none⟩)), v29, v30, v31, v32, v33, v23, v34, v35, v7, v8, va, vn, vc, qa, qn, qc, b8, by rw [ha]; kernel_rfl, hB, fun h => e0 (h.resolve_left (by decide)), fun h => e1 (h.resolve_left (by decide)), fun h => e2 (h.resolve_left (by decide)), fun h => e3 (h.resolve_left (by decide)), fun _ => rfl, fun h => e5 (h.resolve_left (by decide)), fun h => e6 (h.resolve_left (by decide)), fun h => e7 (h.resolve_left (by decide)), fun h => e8 (h.resolve_left (by decide)), fun h => e9 (h.resolve_left (by decide)), fun h => e10 (h.resolve_left (by decide)), fun h => e11 (h.resolve_left (by decide)), fun h => e12 (h.resolve_left (by decide)), fun h => e13 (h.resolve_left (by decide)), fun h => e15 (h.resolve_left (by decide)), fun h => h9 (h.resolve_left (by decide)), fun h => hS (h.resolve_left (by decide)), fun h h' => hN (h.resolve_left (by decide)) (fun k => h' (.inr k))⟩
      | 5, ho =>
        cases Option.some.inj ho
        have ev : a.tmps[28]?.getD undef = .pointer (some ⟨b, 0, none⟩) := by rw [ha, e4 (hd ⟨4, .data⟩ (by simp) rfl)]; kernel_rfl
        refine wp_value (w' := w') (v := .pointer (some ⟨b, 0, none⟩)) (by simp [execOp, ev, go_sem]) ?_
        exact ⟨v24, v25, v26, v27, v28, (.pointer (some ⟨b, 0, none⟩)), v30, v31, v32, v33, v23, v34, v35, v7, v8, va, vn, vc, qa, qn, qc, b8, by rw [ha]; kernel_rfl, hB, fun h => e0 (h.resolve_left (by decide)), fun h => e1 (h.resolve_left (by decide)), fun h => e2 (h.resolve_left (by decide)), fun h => e3 (h.resolve_left (by decide)), fun h => e4 (h.resolve_left (by decide)), fun _ => rfl, fun h => e6 (h.resolve_left (by decide)), fun h => e7 (h.resolve_left (by decide)), fun h => e8 (h.resolve_left (by decide)), fun h => e9 (h.resolve_left (by decide)), fun h => e10 (h.resolve_left (by decide)), fun h => e11 (h.resolve_left (by decide)), fun h => e12 (h.resolve_left (by decide)), fun h => e13 (h.resolve_left (by decide)), fun h => e15 (h.resolve_left (by decide)), fun h => h9 (h.resolve_left (by decide)), fun h => hS (h.resolve_left (by decide)), fun h h' => hN (h.resolve_left (by decide)) (fun k => h' (.inr k))⟩
      | 6, ho =>
        cases Option.some.inj ho
        have ev : a.tmps[29]?.getD undef = .pointer (some ⟨b, 0, none⟩) := by rw [ha, e5 (hd ⟨5, .data⟩ (by simp) rfl)]; kernel_rfl
        refine wp_value (w' := w') (v := .pointer (some ⟨b, 1, none⟩)) (by simp [execOp, ev, go_sem]) ?_
        exact ⟨v24, v25, v26, v27, v28, v29, (.pointer (some ⟨b, 1, none⟩)), v31, v32, v33, v23, v34, v35, v7, v8, va, vn, vc, qa, qn, qc, b8, by rw [ha]; kernel_rfl, hB, fun h => e0 (h.resolve_left (by decide)), fun h => e1 (h.resolve_left (by decide)), fun h => e2 (h.resolve_left (by decide)), fun h => e3 (h.resolve_left (by decide)), fun h => e4 (h.resolve_left (by decide)), fun h => e5 (h.resolve_left (by decide)), fun _ => rfl, fun h => e7 (h.resolve_left (by decide)), fun h => e8 (h.resolve_left (by decide)), fun h => e9 (h.resolve_left (by decide)), fun h => e10 (h.resolve_left (by decide)), fun h => e11 (h.resolve_left (by decide)), fun h => e12 (h.resolve_left (by decide)), fun h => e13 (h.resolve_left (by decide)), fun h => e15 (h.resolve_left (by decide)), fun h => h9 (h.resolve_left (by decide)), fun h => hS (h.resolve_left (by decide)), fun h h' => hN (h.resolve_left (by decide)) (fun k => h' (.inr k))⟩
      | 7, ho =>
        cases Option.some.inj ho
        have ev : a.tmps[30]?.getD undef = .pointer (some ⟨b, 1, none⟩) := by rw [ha, e6 (hd ⟨6, .data⟩ (by simp) rfl)]; kernel_rfl
        have hc := (hB.cell (p := ⟨b, 1, none⟩) (lt_of_cell x1)).trans x1
        refine wp_value (w' := w') (v := .int .i64 base) (by simp [execOp, ev, go_sem, hc]) ?_
        exact ⟨v24, v25, v26, v27, v28, v29, v30, (.int .i64 base), v32, v33, v23, v34, v35, v7, v8, va, vn, vc, qa, qn, qc, b8, by rw [ha]; kernel_rfl, hB, fun h => e0 (h.resolve_left (by decide)), fun h => e1 (h.resolve_left (by decide)), fun h => e2 (h.resolve_left (by decide)), fun h => e3 (h.resolve_left (by decide)), fun h => e4 (h.resolve_left (by decide)), fun h => e5 (h.resolve_left (by decide)), fun h => e6 (h.resolve_left (by decide)), fun _ => rfl, fun h => e8 (h.resolve_left (by decide)), fun h => e9 (h.resolve_left (by decide)), fun h => e10 (h.resolve_left (by decide)), fun h => e11 (h.resolve_left (by decide)), fun h => e12 (h.resolve_left (by decide)), fun h => e13 (h.resolve_left (by decide)), fun h => e15 (h.resolve_left (by decide)), fun h => h9 (h.resolve_left (by decide)), fun h => hS (h.resolve_left (by decide)), fun h h' => hN (h.resolve_left (by decide)) (fun k => h' (.inr k))⟩
      | 8, ho =>
        cases Option.some.inj ho
        have ev : a.tmps[1]?.getD undef = .int .i64 k := by rw [ha]; kernel_rfl
        refine wp_value (w' := w') (v := .int .i64 k) (by simp [execOp, ev, go_sem]) ?_
        exact ⟨v24, v25, v26, v27, v28, v29, v30, v31, (.int .i64 k), v33, v23, v34, v35, v7, v8, va, vn, vc, qa, qn, qc, b8, by rw [ha]; kernel_rfl, hB, fun h => e0 (h.resolve_left (by decide)), fun h => e1 (h.resolve_left (by decide)), fun h => e2 (h.resolve_left (by decide)), fun h => e3 (h.resolve_left (by decide)), fun h => e4 (h.resolve_left (by decide)), fun h => e5 (h.resolve_left (by decide)), fun h => e6 (h.resolve_left (by decide)), fun h => e7 (h.resolve_left (by decide)), fun _ => rfl, fun h => e9 (h.resolve_left (by decide)), fun h => e10 (h.resolve_left (by decide)), fun h => e11 (h.resolve_left (by decide)), fun h => e12 (h.resolve_left (by decide)), fun h => e13 (h.resolve_left (by decide)), fun h => e15 (h.resolve_left (by decide)), fun h => h9 (h.resolve_left (by decide)), fun h => hS (h.resolve_left (by decide)), fun h h' => hN (h.resolve_left (by decide)) (fun k => h' (.inr k))⟩
      | 9, ho =>
        cases Option.some.inj ho
        have ev : a.tmps[27]?.getD undef = .pointer (some ⟨ub, 0, none⟩) := by rw [ha, e3 (hd ⟨3, .data⟩ (by simp) rfl)]; kernel_rfl
        have ev' : a.tmps[31]?.getD undef = .int .i64 base := by rw [ha, e7 (hd ⟨7, .data⟩ (by simp) rfl)]; kernel_rfl
        have ev'' : a.tmps[32]?.getD undef = .int .i64 k := by rw [ha, e8 (hd ⟨8, .data⟩ (by simp) rfl)]; kernel_rfl
        refine wp_enter (f := 43) (args := #[.pointer (some ⟨ub, 0, none⟩), .int .i64 base, .int .i64 k]) (by simp [execOp, ev, ev', ev'', go_sem]) ?_
        have hR := rat_at (ht.below hB) (cm := base) hfb hfb2 hok.out hk0 k
        rw [hX.out] at hR
        refine hR.mono ?_
        rintro e w6 ⟨va', vn', vc', qa', qn', qc', rfl, oV, oB, HB⟩
        rw [hE.out]
        refine ⟨_, rfl, ?_⟩
        exact ⟨v24, v25, v26, v27, v28, v29, v30, v31, v32, (.tuple #[.agg #[.int .i64 (clsR X), .slice va' vn' vc', .slice qa' qn' qc'], .int .i64 E]), v23, v34, v35, v7, v8, va', vn', vc', qa', qn', qc', b8, by rw [ha]; kernel_rfl, below_size hB hB.size HB, fun h => e0 (h.resolve_left (by decide)), fun h => e1 (h.resolve_left (by decide)), fun h => e2 (h.resolve_left (by decide)), fun h => e3 (h.resolve_left (by decide)), fun h => e4 (h.resolve_left (by decide)), fun h => e5 (h.resolve_left (by decide)), fun h => e6 (h.resolve_left (by decide)), fun h => e7 (h.resolve_left (by decide)), fun h => e8 (h.resolve_left (by decide)), fun _ => rfl, fun h => absurd (h.resolve_left (by decide)) (fun h => hn (hcl 10 _ rfl h ⟨9, .data⟩ (by simp) rfl)), fun h => absurd (h.resolve_left (by decide)) (fun h => (fun h => hn (hcl 10 _ rfl h ⟨9, .data⟩ (by simp) rfl)) (hcl 11 _ rfl h ⟨10, .data⟩ (by simp) rfl)), fun h => e12 (h.resolve_left (by decide)), fun h => e13 (h.resolve_left (by decide)), fun h => e15 (h.resolve_left (by decide)), fun _ => ⟨oV.mono hB.size, oB.mono hB.size⟩, fun h => absurd (h.resolve_left (by decide)) (fun h => (fun h => (fun h => hn (hcl 10 _ rfl h ⟨9, .data⟩ (by simp) rfl)) (hcl 11 _ rfl h ⟨10, .data⟩ (by simp) rfl)) (hcl 14 _ rfl h ⟨11, .data⟩ (by simp) rfl)), fun h h' => ⟨(HB.block _ (lt_of_block' (hN (h.resolve_left (by decide)) (fun k => h' (.inr k))).1)).trans (hN (h.resolve_left (by decide)) (fun k => h' (.inr k))).1, (hN (h.resolve_left (by decide)) (fun k => h' (.inr k))).2⟩⟩
      | 10, ho =>
        cases Option.some.inj ho
        have ev : a.tmps[33]?.getD undef = .tuple #[.agg #[.int .i64 (clsR X), .slice va vn vc, .slice qa qn qc], .int .i64 E] := by rw [ha, e9 (hd ⟨9, .data⟩ (by simp) rfl)]; kernel_rfl
        refine wp_value (w' := w') (v := .tuple #[.agg #[.int .i64 (clsR X), .slice va vn vc, .slice qa qn qc], .int .i64 E]) (by simp [execOp, ev, go_sem]) ?_
        exact ⟨v24, v25, v26, v27, v28, v29, v30, v31, v32, v33, (.tuple #[.agg #[.int .i64 (clsR X), .slice va vn vc, .slice qa qn qc], .int .i64 E]), v34, v35, v7, v8, va, vn, vc, qa, qn, qc, b8, by rw [ha]; kernel_rfl, hB, fun h => e0 (h.resolve_left (by decide)), fun h => e1 (h.resolve_left (by decide)), fun h => e2 (h.resolve_left (by decide)), fun h => e3 (h.resolve_left (by decide)), fun h => e4 (h.resolve_left (by decide)), fun h => e5 (h.resolve_left (by decide)), fun h => e6 (h.resolve_left (by decide)), fun h => e7 (h.resolve_left (by decide)), fun h => e8 (h.resolve_left (by decide)), fun h => e9 (h.resolve_left (by decide)), fun _ => rfl, fun h => e11 (h.resolve_left (by decide)), fun h => e12 (h.resolve_left (by decide)), fun h => e13 (h.resolve_left (by decide)), fun h => e15 (h.resolve_left (by decide)), fun h => h9 (h.resolve_left (by decide)), fun h => hS (h.resolve_left (by decide)), fun h h' => hN (h.resolve_left (by decide)) (fun k => h' (.inr k))⟩
      | 11, ho =>
        cases Option.some.inj ho
        have ev : a.tmps[23]?.getD undef = .tuple #[.agg #[.int .i64 (clsR X), .slice va vn vc, .slice qa qn qc], .int .i64 E] := by rw [ha, e10 (hd ⟨10, .data⟩ (by simp) rfl)]; kernel_rfl
        refine wp_value (w' := w') (v := .agg #[.int .i64 (clsR X), .slice va vn vc, .slice qa qn qc]) (by simp [execOp, ev, go_sem]) ?_
        exact ⟨v24, v25, v26, v27, v28, v29, v30, v31, v32, v33, v23, (.agg #[.int .i64 (clsR X), .slice va vn vc, .slice qa qn qc]), v35, v7, v8, va, vn, vc, qa, qn, qc, b8, by rw [ha]; kernel_rfl, hB, fun h => e0 (h.resolve_left (by decide)), fun h => e1 (h.resolve_left (by decide)), fun h => e2 (h.resolve_left (by decide)), fun h => e3 (h.resolve_left (by decide)), fun h => e4 (h.resolve_left (by decide)), fun h => e5 (h.resolve_left (by decide)), fun h => e6 (h.resolve_left (by decide)), fun h => e7 (h.resolve_left (by decide)), fun h => e8 (h.resolve_left (by decide)), fun h => e9 (h.resolve_left (by decide)), fun h => e10 (h.resolve_left (by decide)), fun _ => rfl, fun h => e12 (h.resolve_left (by decide)), fun h => e13 (h.resolve_left (by decide)), fun h => e15 (h.resolve_left (by decide)), fun h => h9 (h.resolve_left (by decide)), fun h => hS (h.resolve_left (by decide)), fun h h' => hN (h.resolve_left (by decide)) (fun k => h' (.inr k))⟩
      | 12, ho =>
        cases Option.some.inj ho
        have ev : a.tmps[23]?.getD undef = .tuple #[.agg #[.int .i64 (clsR X), .slice va vn vc, .slice qa qn qc], .int .i64 E] := by rw [ha, e10 (hd ⟨10, .data⟩ (by simp) rfl)]; kernel_rfl
        refine wp_value (w' := w') (v := .int .i64 E) (by simp [execOp, ev, go_sem]) ?_
        exact ⟨v24, v25, v26, v27, v28, v29, v30, v31, v32, v33, v23, v34, (.int .i64 E), v7, v8, va, vn, vc, qa, qn, qc, b8, by rw [ha]; kernel_rfl, hB, fun h => e0 (h.resolve_left (by decide)), fun h => e1 (h.resolve_left (by decide)), fun h => e2 (h.resolve_left (by decide)), fun h => e3 (h.resolve_left (by decide)), fun h => e4 (h.resolve_left (by decide)), fun h => e5 (h.resolve_left (by decide)), fun h => e6 (h.resolve_left (by decide)), fun h => e7 (h.resolve_left (by decide)), fun h => e8 (h.resolve_left (by decide)), fun h => e9 (h.resolve_left (by decide)), fun h => e10 (h.resolve_left (by decide)), fun h => e11 (h.resolve_left (by decide)), fun _ => rfl, fun h => e13 (h.resolve_left (by decide)), fun h => e15 (h.resolve_left (by decide)), fun h => h9 (h.resolve_left (by decide)), fun h => hS (h.resolve_left (by decide)), fun h h' => hN (h.resolve_left (by decide)) (fun k => h' (.inr k))⟩
      | 13, ho =>
        cases Option.some.inj ho
        refine wp_value (w' := w'.alloc (objB 0 (.slice none 0 0) (.slice none 0 0))) (v := .pointer (some ⟨w'.heap.size, 0, none⟩)) (by unfold objB; simp [execOp, go_sem]) ?_
        exact ⟨v24, v25, v26, v27, v28, v29, v30, v31, v32, v33, v23, v34, v35, (.pointer (some ⟨w'.heap.size, 0, none⟩)), v8, va, vn, vc, qa, qn, qc, w'.heap.size, by rw [ha]; kernel_rfl, hB.alloc hB.size _, fun h => e0 (h.resolve_left (by decide)), fun h => e1 (h.resolve_left (by decide)), fun h => e2 (h.resolve_left (by decide)), fun h => e3 (h.resolve_left (by decide)), fun h => e4 (h.resolve_left (by decide)), fun h => e5 (h.resolve_left (by decide)), fun h => e6 (h.resolve_left (by decide)), fun h => e7 (h.resolve_left (by decide)), fun h => e8 (h.resolve_left (by decide)), fun h => e9 (h.resolve_left (by decide)), fun h => e10 (h.resolve_left (by decide)), fun h => e11 (h.resolve_left (by decide)), fun h => e12 (h.resolve_left (by decide)), fun _ => rfl, fun h => e15 (h.resolve_left (by decide)), fun h => ⟨(h9 (h.resolve_left (by decide))).1.below box_below, (h9 (h.resolve_left (by decide))).2.below box_below⟩, fun h => absurd (h.resolve_left (by decide)) (fun h => hn (hcl 14 _ rfl h ⟨13, .data⟩ (by simp) rfl)), fun _ _ => ⟨new1 _ _, hB.size⟩⟩
      | 14, ho =>
        cases Option.some.inj ho
        have ev : a.tmps[7]?.getD undef = .pointer (some ⟨b8, 0, none⟩) := by rw [ha, e13 (hd ⟨13, .data⟩ (by simp) rfl)]; kernel_rfl
        have ev' : a.tmps[34]?.getD undef = .agg #[.int .i64 (clsR X), .slice va vn vc, .slice qa qn qc] := by rw [ha, e11 (hd ⟨11, .data⟩ (by simp) rfl)]; kernel_rfl
        obtain ⟨E8, l8⟩ := hN (hd ⟨13, .data⟩ (by simp) rfl) hn
        obtain ⟨o1, o2⟩ := h9 (hcl 10 _ rfl (hcl 11 _ rfl (hd ⟨11, .data⟩ (by simp) rfl) ⟨10, .data⟩ (by simp) rfl) ⟨9, .data⟩ (by simp) rfl)
        obtain ⟨q0, q1, q2, qf⟩ := obj_cells E8
        refine wp_skip (w' := stO w' b8 (clsR X) (.slice va vn vc) (.slice qa qn qc)) (by simp [execOp, ev, ev', go_sem, q0, q1, q2, qf, stO]) ?_
        exact ⟨v24, v25, v26, v27, v28, v29, v30, v31, v32, v33, v23, v34, v35, v7, v8, va, vn, vc, qa, qn, qc, b8, by rw [ha]; kernel_rfl, stO_below hB l8 _ _ _, fun h => e0 (h.resolve_left (by decide)), fun h => e1 (h.resolve_left (by decide)), fun h => e2 (h.resolve_left (by decide)), fun h => e3 (h.resolve_left (by decide)), fun h => e4 (h.resolve_left (by decide)), fun h => e5 (h.resolve_left (by decide)), fun h => e6 (h.resolve_left (by decide)), fun h => e7 (h.resolve_left (by decide)), fun h => e8 (h.resolve_left (by decide)), fun h => e9 (h.resolve_left (by decide)), fun h => e10 (h.resolve_left (by decide)), fun h => e11 (h.resolve_left (by decide)), fun h => e12 (h.resolve_left (by decide)), fun h => e13 (h.resolve_left (by decide)), fun h => e15 (h.resolve_left (by decide)), fun _ => ⟨ownV_of (stO_own o1.1 E8 (by decide) _ _ _) o1.wf, ownB_of (stO_own o2.1 E8 (by decide) _ _ _) o2.byte⟩, fun _ => ⟨stO_blk E8 _ _ _, l8⟩, fun _ h' => absurd (.inl rfl) h'⟩
      | 15, ho =>
        cases Option.some.inj ho
        have ev : a.tmps[35]?.getD undef = .int .i64 E := by rw [ha, e12 (hd ⟨12, .data⟩ (by simp) rfl)]; kernel_rfl
        refine wp_value (w' := w') (v := .int .i64 E) (by simp [execOp, ev, go_sem]) ?_
        exact ⟨v24, v25, v26, v27, v28, v29, v30, v31, v32, v33, v23, v34, v35, v7, (.int .i64 E), va, vn, vc, qa, qn, qc, b8, by rw [ha]; kernel_rfl, hB, fun h => e0 (h.resolve_left (by decide)), fun h => e1 (h.resolve_left (by decide)), fun h => e2 (h.resolve_left (by decide)), fun h => e3 (h.resolve_left (by decide)), fun h => e4 (h.resolve_left (by decide)), fun h => e5 (h.resolve_left (by decide)), fun h => e6 (h.resolve_left (by decide)), fun h => e7 (h.resolve_left (by decide)), fun h => e8 (h.resolve_left (by decide)), fun h => e9 (h.resolve_left (by decide)), fun h => e10 (h.resolve_left (by decide)), fun h => e11 (h.resolve_left (by decide)), fun h => e12 (h.resolve_left (by decide)), fun h => e13 (h.resolve_left (by decide)), fun _ => rfl, fun h => h9 (h.resolve_left (by decide)), fun h => hS (h.resolve_left (by decide)), fun h h' => hN (h.resolve_left (by decide)) (fun k => h' (.inr k))⟩
      | i + 16, ho => simp at ho
    case done =>
      rintro D a w' ⟨v24, v25, v26, v27, v28, v29, v30, v31, v32, v33, v23, v34, v35, v7, v8, va, vn, vc, qa, qn, qc, b8, ha, hB, e0, e1, e2, e3, e4, e5, e6, e7, e8, e9, e10, e11, e12, e13, e15, h9, hS, hN⟩ hall
      obtain rfl := e0 (hall 0 (by decide))
      obtain rfl := e1 (hall 1 (by decide))
      obtain rfl := e2 (hall 2 (by decide))
      obtain rfl := e3 (hall 3 (by decide))
      obtain rfl := e4 (hall 4 (by decide))
      obtain rfl := e5 (hall 5 (by decide))
      obtain rfl := e6 (hall 6 (by decide))
      obtain rfl := e7 (hall 7 (by decide))
      obtain rfl := e8 (hall 8 (by decide))
      obtain rfl := e9 (hall 9 (by decide))
      obtain rfl := e10 (hall 10 (by decide))
      obtain rfl := e11 (hall 11 (by decide))
      obtain rfl := e12 (hall 12 (by decide))
      obtain rfl := e13 (hall 13 (by decide))
      obtain rfl := e15 (hall 15 (by decide))
      obtain ⟨o1, o2⟩ := h9 (hall 9 (by decide))
      obtain ⟨E8, l8⟩ := hS (hall 14 (by decide))
      clear hall h9 hS hN e0 e1 e2 e3 e4 e5 e6 e7 e8 e9 e10 e11 e12 e13 e15
      rw [ha]
      clear ha
      simp only [Act.put, List.setIfInBounds_toArray, List.set_cons_zero, List.set_cons_succ]
      have H4 := (hB.block b4 (lt_of_block G4)).trans G4
      have BE := below_size BB BB.size hB
      have n48 : b8 ≠ b4 := by have := lt_of_block G4; omega
      obtain ⟨z0, z1, z2, zf⟩ := obj_cells H4
      obtain ⟨y0, y1, y2, yf⟩ := obj_cells E8
      clear x0 x1 x2 x3 x4 hblk6 ht hX hE
      cases X with
      | none =>
        have hE0 : (E == 0) = false := by simpa using n0.out rfl
        have hE1 : ¬ E = 0 := n0.out rfl
        have I4 := stO_blk H4 0 (.slice none 0 0) (.slice none 0 0)
        have BF := stO_below BE l4 0 (.slice none 0 0) (.slice none 0 0)
        go_wp2
        clear z0 z1 z2 zf
        obtain ⟨z0, z1, z2, zf⟩ := obj_cells I4
        exact bodyPost_ret (v := .tuple #[.agg #[.int .i64 0, .slice none 0 0, .slice none 0 0], .int .i64 25]) (results_twoP Tryz.results12 rfl (load49 z0 z1 z2) rfl) rfl ⟨_, _, _, _, _, _, by rw [hP.out]; rfl, by rw [hP.out]; exact ownV_nil _ _, by rw [hP.out]; exact ownB_nil' _ _, BF⟩
      | some x =>
        obtain rfl := n1.out x rfl
        have OV2 := o1.mono BB.size
        have OB2 := o2.mono BB.size
        have I4 := stO_blk H4 x.cls (.slice va vn vc) (.slice qa qn qc)
        have BF := stO_below BE l4 x.cls (.slice va vn vc) (.slice qa qn qc)
        have OV3 := ownV_of (stO_own OV2.1 H4 (by decide) x.cls (.slice va vn vc) (.slice qa qn qc)) OV2.wf
        have OB3 := ownB_of (stO_own OB2.1 H4 (by decide) x.cls (.slice va vn vc) (.slice qa qn qc)) OB2.byte
        clear o1 o2 OV2 OB2 E8
        go_wp2
        clear z0 z1 z2 zf
        obtain ⟨z0, z1, z2, zf⟩ := obj_cells I4
        exact bodyPost_ret (v := .tuple #[.agg #[.int .i64 x.cls, .slice va vn vc, .slice qa qn qc], .int .i64 0]) (results_twoP Tryz.results12 rfl (load49 z0 z1 z2) rfl) rfl ⟨_, _, _, _, _, _, by rw [hP.out]; rfl, by rw [hP.out]; exact OV3, by rw [hP.out]; exact OB3, BF⟩
  · obtain ⟨i, x, ei, hi, hxi, hfx⟩ := findI_pos (xs := v.l) (k := k) (by rw [hz.out]; exact hneg)
    obtain rfl : z = (i : Int) := hz.out.symm.trans ei
    have hin : i < ln := by have := hsz.out; omega
    have hz0 : (0 : Int) ≤ (i : Int) := by omega
    have hii : (i : Int) < (ln : Int) := by omega
    have hP : Hid (dpk v u k = some (obC x)) := by show dpk v u k = _; unfold dpk; rw [hfx]
    have hG := okWO_len (hg.out x (List.mem_of_getElem? hxi))
    obtain ⟨cb, off, x', rfl, hcb, hx', ⟨sa, sn, sc, ba, bn, bc, d0, d1, d2, d3, d4, io⟩, hw⟩ := hC.at_ i hin
    obtain rfl : x = x' := Option.some.inj (hxi.symm.trans hx'.out)
    have hs : sn ≤ 8796093022208 := by have h1 := io.v.size; have h2 := hG.1; unfold obC at h2; simp at h2; omega
    have hb : bn ≤ 140737488355328 := by have h1 := io.b.size; have h2 := hG.2.1; unfold obC at h2; simp at h2; omega
    have d3' : w1.cell? ⟨cb, off + i * 5 + 2 + 1, none⟩ = some (.slice sa sn sc) := d3
    have d4' : w1.cell? ⟨cb, off + i * 5 + 2 + 2, none⟩ = some (.slice ba bn bc) := d4
    clear hfx hxi ei hi hz hx' hneg hG hC hsz hg hok ht1
    go_wp2_with fail
    refine (rcopy_shape io hs hb).mono ?_
    rintro e w4 ⟨ga, gn, gc, qa, qn, qc, rfl, oV, oB, B3⟩
    have H4 := (B3.block b4 (lt_of_block E4)).trans E4
    have BE := below_size B4 B4.size B3
    have OV2 := oV.mono B4.size
    have OB2 := oB.mono B4.size
    obtain ⟨z0, z1, z2, zf⟩ := obj_cells H4
    have I4 := stO_blk H4 x.cls (.slice ga gn gc) (.slice qa qn qc)
    have BF := stO_below BE l4 x.cls (.slice ga gn gc) (.slice qa qn qc)
    have OV3 := ownV_of (stO_own OV2.1 H4 (by decide) x.cls (.slice ga gn gc) (.slice qa qn qc)) OV2.wf
    have OB3 := ownB_of (stO_own OB2.1 H4 (by decide) x.cls (.slice ga gn gc) (.slice qa qn qc)) OB2.byte
    clear oV oB OV2 OB2 d0 d1 d2 d3 d4 d3' d4' x0 x1 x2 x3 x4 hblk
    go_wp2
    clear z0 z1 z2 zf
    obtain ⟨z0, z1, z2, zf⟩ := obj_cells I4
    exact bodyPost_ret (v := .tuple #[.agg #[.int .i64 x.cls, .slice ga gn gc, .slice qa qn qc], .int .i64 0]) (results_twoP Tryz.results12 rfl (load49 z0 z1 z2) rfl) rfl ⟨_, _, _, _, _, _, by rw [hP.out]; rfl, by rw [hP.out]; exact OV3, by rw [hP.out]; exact OB3, BF⟩
theorem dread_peek (v : Dv) (u : RTab) (k i : Int) : dpk (dreadV v k) u i = dpk v u i := by unfold dreadV; split <;> rfl
set_option maxHeartbeats 4000000 in
theorem dget_any {w : World} {U X : Nat → Prop} {b ub : Nat} {v : Dv} {u : RTab} (h : Db w X b ub v) (hu : RTb w U ub u) (hd : ∀ g, U g → ¬ X g) (hf : u.from_ ≤ v.c) (hf2 : v.c ≤ u.end_) (hok0 : ∀ r ∈ u.recs, okR r.1 r.2 = true) (hk0 : u.k ≤ 1000) (hg0 : ∀ x ∈ v.l, ObG (obC x)) (k : Int) :
    Calls Tryz.prog 8 #[.pointer (some ⟨b, 0, none⟩), .int .i64 k] w fun e w' => ∃ sa sn sc ba bn bc, e = .returned (.tuple #[.agg #[.int .i64 (clsR (dpk v u k)), .slice sa sn sc, .slice ba bn bc], .int .i64 (errR (dpk v u k))]) ∧ OwnV w' w.heap.size (.slice sa sn sc) (vsR (dpk v u k)) ∧ OwnB w' w.heap.size (.slice ba bn bc) (bsR (dpk v u k)) ∧ Db w' X b ub (dreadV v k) ∧ Fr X w w' := by
  have ec : (dreadV v k).c = v.c := by unfold dreadV; split <;> rfl
  have el : (dreadV v k).l = v.l := by unfold dreadV; split <;> rfl
  have hok : Hid (∀ r ∈ u.recs, okR r.1 r.2 = true) := hok0
  have hg : Hid (∀ x ∈ (dreadV v k).l, ObG (obC x)) := by rw [el]; exact hg0
  rw [← ec] at hf hf2
  clear hok0 hg0 ec el
  have E4 := new1 w (objB 0 (.slice none 0 0) (.slice none 0 0))
  have B4 : Below w.heap.size w (w.alloc (objB 0 (.slice none 0 0) (.slice none 0 0))) := box_below
  have h1 := h.below B4
  have ht1 := hu.below B4
  have l4 : w.heap.size ≤ w.heap.size := Nat.le_refl _
  unfold objB at E4 B4 h1 ht1
  go_enter Tryz.func8, Tryz.ntmps8
  go_wp2_with fail
  generalize w.alloc (.cells #[.int .i64 0, .slice none 0 0, .slice none 0 0] 35) = w1 at *
  obtain ⟨b4, hb4⟩ : ∃ q, q = w.heap.size := ⟨_, rfl⟩
  rw [← hb4] at E4 ⊢
  replace l4 : w.heap.size ≤ b4 := Nat.le_of_eq hb4.symm
  replace E4 : w1.heap[b4]? = some (objB 0 (.slice none 0 0) (.slice none 0 0)) := E4
  have e4 : b4 < w1.heap.size := lt_of_block' E4
  have hv4 : ∀ g, X g → g ≠ b4 := fun g hg e => by have := h.lt g hg; omega
  clear hb4
  refine (dread_any h1 k).mono ?_
  rintro e w2 ⟨rfl, k1, k4⟩
  have ht2 : RTb w2 U ub u := ht1.same k4.size (fun g hg => k4.block g (ht1.lt g hg) (hd g hg))
  have F4 : w2.heap[b4]? = some (objB 0 (.slice none 0 0) (.slice none 0 0)) := (k4.block b4 e4 (fun hg => hv4 b4 hg rfl)).trans E4
  clear E4 ht1
  go_wp2_with fail
  refine (dpeek_any k1 ht2 hf hf2 hok.out hk0 hg.out k).mono ?_
  rw [dread_peek]
  rintro e w3 ⟨pa, pn, pc, qa, qn, qc, rfl, oV, oB, B3⟩
  have G4 := (B3.block b4 (lt_of_block F4)).trans F4
  obtain ⟨z0, z1, z2, zf⟩ := obj_cells G4
  have I4 := stO_blk G4 (clsR (dpk v u k)) (.slice pa pn pc) (.slice qa qn qc)
  have s12 : w.heap.size ≤ w2.heap.size := Nat.le_trans B4.size k4.size
  have oV3 := ownV_of (stO_own (oV.mono s12).1 G4 (by decide) (clsR (dpk v u k)) (.slice pa pn pc) (.slice qa qn qc)) oV.wf
  have oB3 := ownB_of (stO_own (oB.mono s12).1 G4 (by decide) (clsR (dpk v u k)) (.slice pa pn pc) (.slice qa qn qc)) oB.byte
  have fin : Hid (Db (stO w3 b4 (clsR (dpk v u k)) (.slice pa pn pc) (.slice qa qn qc)) X b ub (dreadV v k) ∧ Fr X w (stO w3 b4 (clsR (dpk v u k)) (.slice pa pn pc) (.slice qa qn qc))) := by
    have Bs : Below 0 w3 (stO w3 b4 (clsR (dpk v u k)) (.slice pa pn pc) (.slice qa qn qc)) := stO_below (Below.refl _ _) (Nat.zero_le _) _ _ _
    have s13 := Nat.le_trans B3.size Bs.size
    have s1 := B4.size
    exact ⟨k1.same s13 (fun g hg => (stO_other (hv4 g hg) _ _ _).trans (B3.block g (k1.lt g hg))), ⟨Bs.os.trans (B3.os.trans (k4.os.trans B4.os)), Bs.tape.trans (B3.tape.trans (k4.tape.trans B4.tape)), Bs.output.trans (B3.output.trans (k4.output.trans B4.output)), Nat.le_trans s12 s13, fun g hg hn => (stO_other (by omega) _ _ _).trans ((B3.block g (by omega)).trans ((k4.block g (by omega) hn).trans (B4.block g hg)))⟩⟩
  clear oV oB k1 ht2 F4
  go_wp2
  clear z0 z1 z2 zf
  obtain ⟨z0, z1, z2, zf⟩ := obj_cells I4
  exact bodyPost_ret (v := .tuple #[.agg #[.int .i64 (clsR (dpk v u k)), .slice pa pn pc, .slice qa qn qc], .int .i64 (errR (dpk v u k))]) (results_twoP Tryz.results8 rfl (load49 z0 z1 z2) rfl) rfl ⟨_, _, _, _, _, _, rfl, oV3, oB3, fin.out⟩
end Go.Proofs.YteomolihandfnaaGreat
