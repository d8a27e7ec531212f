/- known: the fixed calls. -/
import Derived.Test.YtkkilenokpoaoaaBag
import Derived.Test.YtkkilenokpoaoaaAnyG
namespace Go.Proofs.Ytkkilenokpoaoaa
open Go.RowKit
set_option maxRecDepth 100000
theorem val_cells {w : World} {b : Nat} {x y : Int} (h : w.heap[b]? = some (.cells #[.int .i64 x, .int .i64 y] 60 (0, 0))) : w.cell? ⟨b, 0, none⟩ = some (.int .i64 x) ∧ w.cell? ⟨b, 1, none⟩ = some (.int .i64 y) := by
  refine ⟨?_, ?_⟩ <;> (rw [cell_of_row w b _ _ _ _ h]; rfl)
theorem OwnB.isB {w : World} {base : Nat} {a : Option Addr} {n c : Nat} {xs : List Int} (h : OwnB w base (.slice a n c) xs) : IsB w a n c xs := by
  obtain ⟨_, a', c', e, k⟩ := h
  simp only [Value.slice.injEq] at e
  obtain ⟨rfl, rfl, rfl⟩ := e
  exact k
/-- A literal's ops. -/
theorem isP_lit (w : World) (ps : List Pp) (n : Nat) (hn : ps.length = n) (hm : n ≤ maxLen) (hb : ∀ p ∈ ps, p.ok) : IsP (w.alloc (.cells (flatP ps).toArray 66)) (some ⟨w.heap.size, 0, none⟩) n n ps := by
  refine ⟨hn, Nat.le_refl _, hm, by simp, hb, fun _ => ⟨_, _, rfl, fun i p hi => ?_⟩⟩
  have hc : ∀ j, j < 4 → (w.alloc (.cells (flatP ps).toArray 66)).cell? ⟨w.heap.size, i * 4 + j, none⟩ = p.cells[j]? := fun j hj => by
    rw [cell_of_row _ w.heap.size _ _ _ _ (heap_alloc_new w _), List.getElem?_toArray]
    exact flatP_at ps i p hi j hj
  have c0 := hc 0 (by decide)
  have c1 := hc 1 (by decide)
  have c2 := hc 2 (by decide)
  have c3 := hc 3 (by decide)
  unfold IsPp
  rw [Nat.zero_add]
  exact ⟨c0, c1, c2, c3⟩
theorem isI_lit (w : World) : IsI (w.alloc (.cells #[.int .i64 1, .int .i64 2] 2)) (some ⟨w.heap.size, 0, none⟩) 2 [1, 2] := by
  refine ⟨rfl, by decide, ?_, fun _ => ⟨_, _, rfl, fun i hi => ?_⟩⟩
  · intro z hz
    simp only [List.mem_cons, List.not_mem_nil, or_false] at hz
    rcases hz with rfl | rfl <;> (unfold I64; omega)
  · match i, hi with
    | 0, _ => simp
    | 1, _ => simp
theorem ok1 : ∀ p ∈ [(⟨0, true, 3, 3⟩ : Pp), ⟨0, true, 3, -1⟩], p.ok := by
  intro p hp
  simp only [List.mem_cons, List.not_mem_nil, or_false] at hp
  rcases hp with rfl | rfl <;> (unfold Pp.ok I64; simp)
theorem ok2 : ∀ p ∈ [(⟨0, false, 3, 3⟩ : Pp)], p.ok := by
  intro p hp
  simp only [List.mem_cons, List.not_mem_nil, or_false] at hp
  subst hp
  unfold Pp.ok I64
  simp
theorem replay_counter {w : World} {sa ba pa : Option Addr} {sn sc bn bc pn pc : Nat} {vs : List (Int × Int)} {bs : List Int} {ps : List Pp} (h : IsO w 13 sa sn sc ba bn bc vs bs) (hs : sn ≤ 8796093022208) (hb : bn ≤ 140737488355328) (hP : IsP w pa pn pc ps) :
    Calls Try.prog 20 #[.agg #[.int .i64 13, .slice sa sn sc, .slice ba bn bc], .slice pa pn pc] w fun e w' => Rep w.heap.size 13 bs (playS cnt vs ps) e w' ∧ Below w.heap.size w w' :=
  replay_counterG h hs hb hP cnt (fun _ => True) trivial (fun _ p _ hp => ⟨fun _ _ => trivial, fun _ _ _ hO _ => counted_any p hO (hP.wf p hp)⟩)
theorem rep_known1 {w : World} {ca pa : Option Addr} (h : IsO w 13 ca 1 1 none 0 0 [(3, 5)] []) (hP : IsP w pa 2 2 [⟨0, true, 3, 3⟩, ⟨0, true, 3, -1⟩]) :
    Calls Try.prog 20 #[.agg #[.int .i64 13, .slice ca 1 1, .slice none 0 0], .slice pa 2 2] w fun e w' => ∃ ra rp rb rn rq, e = .returned (.tuple #[.agg #[.int .i64 13, .slice ra 1 rp, .slice rb rn rq], .int .i64 0]) ∧ OwnV w' w.heap.size (.slice ra 1 rp) [(3, 7)] ∧ OwnB w' w.heap.size (.slice rb rn rq) [] ∧ Below w.heap.size w w' := by
  refine (replay_counter h (by decide) (by decide) hP).mono ?_
  rintro e w' ⟨⟨a, cap, b, n, bc, rfl, O, OB⟩, B⟩
  exact ⟨a, cap, b, n, bc, rfl, O, OB, B⟩
theorem rep_known2 {w : World} {ga pa : Option Addr} {gp : Nat} (h : IsO w 14 ga 2 gp none 0 0 [(3, 1), (3, 2)] []) (hP : IsP w pa 1 1 [⟨0, false, 3, 3⟩]) :
    Calls Try.prog 20 #[.agg #[.int .i64 14, .slice ga 2 gp, .slice none 0 0], .slice pa 1 1] w fun e w' => e = .returned (.tuple #[.agg #[.int .i64 0, .slice none 0 0, .slice none 0 0], .int .i64 30]) ∧ Below w.heap.size w w' := by
  refine (replay_bagG h (by decide) (by decide) hP (fun _ _ => none) (fun us => us = [(3, 1), (3, 2)]) rfl (fun us p hu hp => ⟨fun _ hh => by simp at hh, fun _ _ _ hO _ => ?_⟩)).mono ?_
  · subst hu
    simp only [List.mem_cons, List.not_mem_nil, or_false] at hp
    subst hp
    exact inBag_gone _ hO rfl (by decide)
  · rintro e w' ⟨he, B⟩
    exact ⟨he, B⟩
theorem same_yes {w : World} {c : Int} {sa ba ta ea : Option Addr} {sn sc bn bc tn tc en ec : Nat} {vs : List (Int × Int)} {bs : List Int} (h1 : IsO w c sa sn sc ba bn bc vs bs) (h2 : IsO w c ta tn tc ea en ec vs bs) :
    Calls Try.prog 19 #[.agg #[.int .i64 c, .slice sa sn sc, .slice ba bn bc], .agg #[.int .i64 c, .slice ta tn tc, .slice ea en ec]] w fun e w' => e = .returned (.bool true) ∧ Below w.heap.size w w' := by
  refine (rsame_any h1 h2).mono ?_
  rintro e w' ⟨rfl, B⟩
  exact ⟨by simp [alike], B⟩
set_option maxHeartbeats 4000000 in
theorem known_true (w : World) : Calls Try.prog 7 #[] w fun e w' => e = .returned (.bool true) ∧ Below w.heap.size w w' := by
  go_enter Try.func7, Try.ntmps7
  go_upto_region 3 with fail
  have E1 := old1 (new1 w (.cells #[.int .i64 3, .int .i64 3] 60)) (.cells #[.int .i64 3, .int .i64 (-1)] 60)
  have E2 := new2 w (.cells #[.int .i64 3, .int .i64 3] 60) (.cells #[.int .i64 3, .int .i64 (-1)] 60)
  have B2 : Below w.heap.size w ((w.alloc (.cells #[.int .i64 3, .int .i64 3] 60)).alloc (.cells #[.int .i64 3, .int .i64 (-1)] 60)) := below_size box_below box_below.size box_below
  generalize (w.alloc (.cells #[.int .i64 3, .int .i64 3] 60)).alloc (.cells #[.int .i64 3, .int .i64 (-1)] 60) = w2 at *
  generalize w.heap.size + 1 = b2 at *
  obtain ⟨b1, hb1⟩ : ∃ b, b = w.heap.size := ⟨_, rfl⟩
  rw [← hb1] at E1 ⊢
  have B2' := B2
  rw [← hb1] at B2'
  refine wp_region_inv' (fun A D a w' => ∃ v10 v11 v12 v13 v14 v15 v16 v9 v17 v18 v3 v4 ca np ra rp rb rn rq n3, a = ((((((((((((A.put (some 10) v10).put (some 11) v11).put (some 12) v12).put (some 13) v13).put (some 14) v14).put (some 15) v15).put (some 16) v16).put (some 9) v9).put (some 17) v17).put (some 18) v18).put (some 3) v3).put (some 4) v4) ∧ Below w2.heap.size w2 w' ∧ (D 0 → v10 = .agg #[.int .i64 13, .slice ca 1 1, .slice none 0 0]) ∧ (D 1 → v11 = .agg #[.int .i64 3, .int .i64 3]) ∧ (D 2 → v12 = .agg #[.int .i64 0, .bool true, .int .i64 3, .int .i64 3]) ∧ (D 3 → v13 = .agg #[.int .i64 3, .int .i64 (-1)]) ∧ (D 4 → v14 = .agg #[.int .i64 0, .bool true, .int .i64 3, .int .i64 (-1)]) ∧ (D 5 → v15 = .slice (some ⟨np, 0, none⟩) 2 2) ∧ (D 6 → v16 = .tuple #[.agg #[.int .i64 13, .slice ra 1 rp, .slice rb rn rq], .int .i64 0]) ∧ (D 7 → v9 = .tuple #[.agg #[.int .i64 13, .slice ra 1 rp, .slice rb rn rq], .int .i64 0]) ∧ (D 8 → v17 = .agg #[.int .i64 13, .slice ra 1 rp, .slice rb rn rq]) ∧ (D 9 → v18 = .int .i64 0) ∧ (D 10 → v3 = .pointer (some ⟨n3, 0, none⟩)) ∧ (D 12 → v4 = .int .i64 0) ∧ (D 6 → OwnV w' w2.heap.size (.slice ra 1 rp) [(3, 7)] ∧ OwnB w' w2.heap.size (.slice rb rn rq) []) ∧ (D 11 → w'.heap[n3]? = some (objB 13 (.slice ra 1 rp) (.slice rb rn rq))) ∧ (D 0 → ¬ D 6 → IsO w' 13 ca 1 1 none 0 0 [(3, 5)] []) ∧ (D 5 → ¬ D 6 → IsP w' (some ⟨np, 0, none⟩) 2 2 [⟨0, true, 3, 3⟩, ⟨0, true, 3, -1⟩]) ∧ (D 10 → ¬ D 11 → w'.heap[n3]? = some (objB 0 (.slice none 0 0) (.slice none 0 0)) ∧ w2.heap.size ≤ n3)) (by kernel_rfl) (by kernel_rfl) ?mono ?start ?step ?done
  case mono =>
    rintro D D' a w' hD ⟨v10, v11, v12, v13, v14, v15, v16, v9, v17, v18, v3, v4, ca, np, ra, rp, rb, rn, rq, n3, ha, hB, e0, e1, e2, e3, e4, e5, e6, e7, e8, e9, e10, e12, hR, hQ, hC, hP, hN⟩
    exact ⟨v10, v11, v12, v13, v14, v15, v16, v9, v17, v18, v3, v4, ca, np, ra, rp, rb, rn, rq, n3, ha, hB, fun h => e0 ((hD 0).2 h), fun h => e1 ((hD 1).2 h), fun h => e2 ((hD 2).2 h), fun h => e3 ((hD 3).2 h), fun h => e4 ((hD 4).2 h), fun h => e5 ((hD 5).2 h), fun h => e6 ((hD 6).2 h), fun h => e7 ((hD 7).2 h), fun h => e8 ((hD 8).2 h), fun h => e9 ((hD 9).2 h), fun h => e10 ((hD 10).2 h), fun h => e12 ((hD 12).2 h), fun h => hR ((hD 6).2 h), fun h => hQ ((hD 11).2 h), fun h h' => hC ((hD 0).2 h) (fun k => h' ((hD 6).1 k)), fun h h' => hP ((hD 5).2 h) (fun k => h' ((hD 6).1 k)), fun h h' => hN ((hD 10).2 h) (fun k => h' ((hD 11).1 k))⟩
  case start => exact ⟨undef, undef, undef, undef, undef, undef, undef, undef, undef, undef, undef, undef, none, 0, none, 0, none, 0, 0, 0, by kernel_rfl, (Below.refl _ _).drew, fun h => h.elim, fun h => h.elim, fun h => h.elim, fun h => h.elim, fun h => h.elim, fun h => h.elim, fun h => h.elim, fun h => h.elim, fun h => h.elim, fun h => h.elim, fun h => h.elim, fun h => h.elim, fun h => h.elim, fun h => h.elim, fun h _ => h.elim, fun h _ => h.elim, fun h _ => h.elim⟩
  case step =>
    intro i o ho D a w' hI hn hcl hd
    obtain ⟨v10, v11, v12, v13, v14, v15, v16, v9, v17, v18, v3, v4, ca, np, ra, rp, rb, rn, rq, n3, ha, hB, e0, e1, e2, e3, e4, e5, e6, e7, e8, e9, e10, e12, hR, hQ, hC, hP, hN⟩ := hI
    match i, ho with
    | 0, ho =>
      cases Option.some.inj ho
      refine wp_enter (f := 22) (args := #[.int .i64 5]) (by simp [execOp, go_sem]) ?_
      refine (counter_any 5 w' (by unfold I64; omega)).mono ?_
      rintro e w6 ⟨ca', rfl, IO, HB⟩
      refine ⟨_, rfl, ?_⟩
      exact ⟨(.agg #[.int .i64 13, .slice ca' 1 1, .slice none 0 0]), v11, v12, v13, v14, v15, v16, v9, v17, v18, v3, v4, ca', np, ra, rp, rb, rn, rq, n3, by rw [ha]; kernel_rfl, below_size hB hB.size HB, fun _ => rfl, fun h => e1 (h.resolve_left (by decide)), fun h => e2 (h.resolve_left (by decide)), fun h => e3 (h.resolve_left (by decide)), fun h => e4 (h.resolve_left (by decide)), fun h => e5 (h.resolve_left (by decide)), fun h => e6 (h.resolve_left (by decide)), fun h => e7 (h.resolve_left (by decide)), fun h => e8 (h.resolve_left (by decide)), fun h => e9 (h.resolve_left (by decide)), fun h => e10 (h.resolve_left (by decide)), fun h => e12 (h.resolve_left (by decide)), fun h => absurd (h.resolve_left (by decide)) (fun h => hn (hcl 6 _ rfl h ⟨0, .data⟩ (by simp) rfl)), fun h => absurd (h.resolve_left (by decide)) (fun h => (fun h => (fun h => (fun h => hn (hcl 6 _ rfl h ⟨0, .data⟩ (by simp) rfl)) (hcl 7 _ rfl h ⟨6, .data⟩ (by simp) rfl)) (hcl 8 _ rfl h ⟨7, .data⟩ (by simp) rfl)) (hcl 11 _ rfl h ⟨8, .data⟩ (by simp) rfl)), fun _ _ => IO, fun h h' => (hP (h.resolve_left (by decide)) (fun k => h' (.inr k))).below HB, fun h h' => ⟨(HB.block _ (lt_of_block (hN (h.resolve_left (by decide)) (fun k => h' (.inr k))).1)).trans (hN (h.resolve_left (by decide)) (fun k => h' (.inr k))).1, (hN (h.resolve_left (by decide)) (fun k => h' (.inr k))).2⟩⟩
    | 1, ho =>
      cases Option.some.inj ho
      have ev : a.tmps[1]?.getD undef = .pointer (some ⟨b1, 0, none⟩) := by rw [ha]; kernel_rfl
      obtain ⟨z0, z1⟩ := val_cells ((hB.block _ (lt_of_block E1)).trans E1)
      refine wp_value (w' := w') (v := .agg #[.int .i64 3, .int .i64 3]) (by simp [execOp, ev, go_sem, z0, z1]) ?_
      exact ⟨v10, (.agg #[.int .i64 3, .int .i64 3]), v12, v13, v14, v15, v16, v9, v17, v18, v3, v4, ca, np, ra, rp, rb, rn, rq, n3, by rw [ha]; kernel_rfl, hB, fun h => e0 (h.resolve_left (by decide)), fun _ => rfl, fun h => e2 (h.resolve_left (by decide)), fun h => e3 (h.resolve_left (by decide)), fun h => e4 (h.resolve_left (by decide)), fun h => e5 (h.resolve_left (by decide)), fun h => e6 (h.resolve_left (by decide)), fun h => e7 (h.resolve_left (by decide)), fun h => e8 (h.resolve_left (by decide)), fun h => e9 (h.resolve_left (by decide)), fun h => e10 (h.resolve_left (by decide)), fun h => e12 (h.resolve_left (by decide)), fun h => hR (h.resolve_left (by decide)), fun h => hQ (h.resolve_left (by decide)), fun h h' => hC (h.resolve_left (by decide)) (fun k => h' (.inr k)), fun h h' => hP (h.resolve_left (by decide)) (fun k => h' (.inr k)), fun h h' => hN (h.resolve_left (by decide)) (fun k => h' (.inr k))⟩
    | 2, ho =>
      cases Option.some.inj ho
      have ev : a.tmps[11]?.getD undef = .agg #[.int .i64 3, .int .i64 3] := by rw [ha, e1 (hd ⟨1, .data⟩ (by simp) rfl)]; kernel_rfl
      refine wp_value (w' := w') (v := .agg #[.int .i64 0, .bool true, .int .i64 3, .int .i64 3]) (by simp [execOp, ev, go_sem]) ?_
      exact ⟨v10, v11, (.agg #[.int .i64 0, .bool true, .int .i64 3, .int .i64 3]), v13, v14, v15, v16, v9, v17, v18, v3, v4, ca, np, ra, rp, rb, rn, rq, n3, by rw [ha]; kernel_rfl, hB, fun h => e0 (h.resolve_left (by decide)), fun h => e1 (h.resolve_left (by decide)), fun _ => rfl, fun h => e3 (h.resolve_left (by decide)), fun h => e4 (h.resolve_left (by decide)), fun h => e5 (h.resolve_left (by decide)), fun h => e6 (h.resolve_left (by decide)), fun h => e7 (h.resolve_left (by decide)), fun h => e8 (h.resolve_left (by decide)), fun h => e9 (h.resolve_left (by decide)), fun h => e10 (h.resolve_left (by decide)), fun h => e12 (h.resolve_left (by decide)), fun h => hR (h.resolve_left (by decide)), fun h => hQ (h.resolve_left (by decide)), fun h h' => hC (h.resolve_left (by decide)) (fun k => h' (.inr k)), fun h h' => hP (h.resolve_left (by decide)) (fun k => h' (.inr k)), fun h h' => hN (h.resolve_left (by decide)) (fun k => h' (.inr k))⟩
    | 3, ho =>
      cases Option.some.inj ho
      have ev : a.tmps[2]?.getD undef = .pointer (some ⟨b2, 0, none⟩) := by rw [ha]; kernel_rfl
      obtain ⟨z0, z1⟩ := val_cells ((hB.block _ (lt_of_block E2)).trans E2)
      refine wp_value (w' := w') (v := .agg #[.int .i64 3, .int .i64 (-1)]) (by simp [execOp, ev, go_sem, z0, z1]) ?_
      exact ⟨v10, v11, v12, (.agg #[.int .i64 3, .int .i64 (-1)]), v14, v15, v16, v9, v17, v18, v3, v4, ca, np, ra, rp, rb, rn, rq, n3, by rw [ha]; kernel_rfl, hB, fun h => e0 (h.resolve_left (by decide)), fun h => e1 (h.resolve_left (by decide)), fun h => e2 (h.resolve_left (by decide)), fun _ => rfl, fun h => e4 (h.resolve_left (by decide)), fun h => e5 (h.resolve_left (by decide)), fun h => e6 (h.resolve_left (by decide)), fun h => e7 (h.resolve_left (by decide)), fun h => e8 (h.resolve_left (by decide)), fun h => e9 (h.resolve_left (by decide)), fun h => e10 (h.resolve_left (by decide)), fun h => e12 (h.resolve_left (by decide)), fun h => hR (h.resolve_left (by decide)), fun h => hQ (h.resolve_left (by decide)), fun h h' => hC (h.resolve_left (by decide)) (fun k => h' (.inr k)), fun h h' => hP (h.resolve_left (by decide)) (fun k => h' (.inr k)), fun h h' => hN (h.resolve_left (by decide)) (fun k => h' (.inr k))⟩
    | 4, ho =>
      cases Option.some.inj ho
      have ev : a.tmps[13]?.getD undef = .agg #[.int .i64 3, .int .i64 (-1)] := by rw [ha, e3 (hd ⟨3, .data⟩ (by simp) rfl)]; kernel_rfl
      refine wp_value (w' := w') (v := .agg #[.int .i64 0, .bool true, .int .i64 3, .int .i64 (-1)]) (by simp [execOp, ev, go_sem]) ?_
      exact ⟨v10, v11, v12, v13, (.agg #[.int .i64 0, .bool true, .int .i64 3, .int .i64 (-1)]), v15, v16, v9, v17, v18, v3, v4, ca, np, ra, rp, rb, rn, rq, n3, by rw [ha]; kernel_rfl, hB, fun h => e0 (h.resolve_left (by decide)), fun h => e1 (h.resolve_left (by decide)), fun h => e2 (h.resolve_left (by decide)), fun h => e3 (h.resolve_left (by decide)), fun _ => rfl, fun h => e5 (h.resolve_left (by decide)), fun h => e6 (h.resolve_left (by decide)), fun h => e7 (h.resolve_left (by decide)), fun h => e8 (h.resolve_left (by decide)), fun h => e9 (h.resolve_left (by decide)), fun h => e10 (h.resolve_left (by decide)), fun h => e12 (h.resolve_left (by decide)), fun h => hR (h.resolve_left (by decide)), fun h => hQ (h.resolve_left (by decide)), fun h h' => hC (h.resolve_left (by decide)) (fun k => h' (.inr k)), fun h h' => hP (h.resolve_left (by decide)) (fun k => h' (.inr k)), fun h h' => hN (h.resolve_left (by decide)) (fun k => h' (.inr k))⟩
    | 5, ho =>
      cases Option.some.inj ho
      have ev : a.tmps[12]?.getD undef = .agg #[.int .i64 0, .bool true, .int .i64 3, .int .i64 3] := by rw [ha, e2 (hd ⟨2, .data⟩ (by simp) rfl)]; kernel_rfl
      have ev' : a.tmps[14]?.getD undef = .agg #[.int .i64 0, .bool true, .int .i64 3, .int .i64 (-1)] := by rw [ha, e4 (hd ⟨4, .data⟩ (by simp) rfl)]; kernel_rfl
      refine wp_value (w' := w'.alloc (.cells (flatP [⟨0, true, 3, 3⟩, ⟨0, true, 3, -1⟩]).toArray 66)) (v := .slice (some ⟨w'.heap.size, 0, none⟩) 2 2) (by simp [execOp, ev, ev', go_sem, flatP, Pp.cells]) ?_
      exact ⟨v10, v11, v12, v13, v14, (.slice (some ⟨w'.heap.size, 0, none⟩) 2 2), v16, v9, v17, v18, v3, v4, ca, w'.heap.size, ra, rp, rb, rn, rq, n3, by rw [ha]; kernel_rfl, below_size hB hB.size box_below, fun h => e0 (h.resolve_left (by decide)), fun h => e1 (h.resolve_left (by decide)), fun h => e2 (h.resolve_left (by decide)), fun h => e3 (h.resolve_left (by decide)), fun h => e4 (h.resolve_left (by decide)), fun _ => rfl, fun h => e6 (h.resolve_left (by decide)), fun h => e7 (h.resolve_left (by decide)), fun h => e8 (h.resolve_left (by decide)), fun h => e9 (h.resolve_left (by decide)), fun h => e10 (h.resolve_left (by decide)), fun h => e12 (h.resolve_left (by decide)), fun h => absurd (h.resolve_left (by decide)) (fun h => hn (hcl 6 _ rfl h ⟨5, .data⟩ (by simp) rfl)), fun h => absurd (h.resolve_left (by decide)) (fun h => (fun h => (fun h => (fun h => hn (hcl 6 _ rfl h ⟨5, .data⟩ (by simp) rfl)) (hcl 7 _ rfl h ⟨6, .data⟩ (by simp) rfl)) (hcl 8 _ rfl h ⟨7, .data⟩ (by simp) rfl)) (hcl 11 _ rfl h ⟨8, .data⟩ (by simp) rfl)), fun h h' => (hC (h.resolve_left (by decide)) (fun k => h' (.inr k))).below box_below, fun _ _ => isP_lit w' _ 2 rfl (by decide) ok1, fun h h' => ⟨old1 (hN (h.resolve_left (by decide)) (fun k => h' (.inr k))).1 _, (hN (h.resolve_left (by decide)) (fun k => h' (.inr k))).2⟩⟩
    | 6, ho =>
      cases Option.some.inj ho
      have ev : a.tmps[10]?.getD undef = .agg #[.int .i64 13, .slice ca 1 1, .slice none 0 0] := by rw [ha, e0 (hd ⟨0, .data⟩ (by simp) rfl)]; kernel_rfl
      have ev' : a.tmps[15]?.getD undef = .slice (some ⟨np, 0, none⟩) 2 2 := by rw [ha, e5 (hd ⟨5, .data⟩ (by simp) rfl)]; kernel_rfl
      refine wp_enter (f := 20) (args := #[.agg #[.int .i64 13, .slice ca 1 1, .slice none 0 0], .slice (some ⟨np, 0, none⟩) 2 2]) (by simp [execOp, ev, ev', go_sem]) ?_
      refine (rep_known1 (hC (hd ⟨0, .data⟩ (by simp) rfl) hn) (hP (hd ⟨5, .data⟩ (by simp) rfl) hn)).mono ?_
      rintro e w6 ⟨ra', rp', rb', rn', rq', rfl, OV, OB, HB⟩
      refine ⟨_, rfl, ?_⟩
      exact ⟨v10, v11, v12, v13, v14, v15, (.tuple #[.agg #[.int .i64 13, .slice ra' 1 rp', .slice rb' rn' rq'], .int .i64 0]), v9, v17, v18, v3, v4, ca, np, ra', rp', rb', rn', rq', n3, by rw [ha]; kernel_rfl, below_size hB hB.size HB, fun h => e0 (h.resolve_left (by decide)), fun h => e1 (h.resolve_left (by decide)), fun h => e2 (h.resolve_left (by decide)), fun h => e3 (h.resolve_left (by decide)), fun h => e4 (h.resolve_left (by decide)), fun h => e5 (h.resolve_left (by decide)), fun _ => rfl, fun h => absurd (h.resolve_left (by decide)) (fun h => hn (hcl 7 _ rfl h ⟨6, .data⟩ (by simp) rfl)), fun h => absurd (h.resolve_left (by decide)) (fun h => (fun h => hn (hcl 7 _ rfl h ⟨6, .data⟩ (by simp) rfl)) (hcl 8 _ rfl h ⟨7, .data⟩ (by simp) rfl)), fun h => e9 (h.resolve_left (by decide)), fun h => e10 (h.resolve_left (by decide)), fun h => e12 (h.resolve_left (by decide)), fun _ => ⟨OV.mono hB.size, OB.mono hB.size⟩, fun h => absurd (h.resolve_left (by decide)) (fun h => (fun h => (fun h => hn (hcl 7 _ rfl h ⟨6, .data⟩ (by simp) rfl)) (hcl 8 _ rfl h ⟨7, .data⟩ (by simp) rfl)) (hcl 11 _ rfl h ⟨8, .data⟩ (by simp) rfl)), fun _ h' => absurd (.inl rfl) h', fun _ h' => absurd (.inl rfl) h', fun h h' => ⟨(HB.block _ (lt_of_block (hN (h.resolve_left (by decide)) (fun k => h' (.inr k))).1)).trans (hN (h.resolve_left (by decide)) (fun k => h' (.inr k))).1, (hN (h.resolve_left (by decide)) (fun k => h' (.inr k))).2⟩⟩
    | 7, ho =>
      cases Option.some.inj ho
      have ev : a.tmps[16]?.getD undef = .tuple #[.agg #[.int .i64 13, .slice ra 1 rp, .slice rb rn rq], .int .i64 0] := by rw [ha, e6 (hd ⟨6, .data⟩ (by simp) rfl)]; kernel_rfl
      refine wp_value (w' := w') (v := .tuple #[.agg #[.int .i64 13, .slice ra 1 rp, .slice rb rn rq], .int .i64 0]) (by simp [execOp, ev, go_sem]) ?_
      exact ⟨v10, v11, v12, v13, v14, v15, v16, (.tuple #[.agg #[.int .i64 13, .slice ra 1 rp, .slice rb rn rq], .int .i64 0]), v17, v18, v3, v4, ca, np, ra, rp, rb, rn, rq, n3, by rw [ha]; kernel_rfl, hB, fun h => e0 (h.resolve_left (by decide)), fun h => e1 (h.resolve_left (by decide)), fun h => e2 (h.resolve_left (by decide)), fun h => e3 (h.resolve_left (by decide)), fun h => e4 (h.resolve_left (by decide)), fun h => e5 (h.resolve_left (by decide)), fun h => e6 (h.resolve_left (by decide)), fun _ => rfl, fun h => e8 (h.resolve_left (by decide)), fun h => e9 (h.resolve_left (by decide)), fun h => e10 (h.resolve_left (by decide)), fun h => e12 (h.resolve_left (by decide)), fun h => hR (h.resolve_left (by decide)), fun h => hQ (h.resolve_left (by decide)), fun h h' => hC (h.resolve_left (by decide)) (fun k => h' (.inr k)), fun h h' => hP (h.resolve_left (by decide)) (fun k => h' (.inr k)), fun h h' => hN (h.resolve_left (by decide)) (fun k => h' (.inr k))⟩
    | 8, ho =>
      cases Option.some.inj ho
      have ev : a.tmps[9]?.getD undef = .tuple #[.agg #[.int .i64 13, .slice ra 1 rp, .slice rb rn rq], .int .i64 0] := by rw [ha, e7 (hd ⟨7, .data⟩ (by simp) rfl)]; kernel_rfl
      refine wp_value (w' := w') (v := .agg #[.int .i64 13, .slice ra 1 rp, .slice rb rn rq]) (by simp [execOp, ev, go_sem]) ?_
      exact ⟨v10, v11, v12, v13, v14, v15, v16, v9, (.agg #[.int .i64 13, .slice ra 1 rp, .slice rb rn rq]), v18, v3, v4, ca, np, ra, rp, rb, rn, rq, n3, by rw [ha]; kernel_rfl, hB, fun h => e0 (h.resolve_left (by decide)), fun h => e1 (h.resolve_left (by decide)), fun h => e2 (h.resolve_left (by decide)), fun h => e3 (h.resolve_left (by decide)), fun h => e4 (h.resolve_left (by decide)), fun h => e5 (h.resolve_left (by decide)), fun h => e6 (h.resolve_left (by decide)), fun h => e7 (h.resolve_left (by decide)), fun _ => rfl, fun h => e9 (h.resolve_left (by decide)), fun h => e10 (h.resolve_left (by decide)), fun h => e12 (h.resolve_left (by decide)), fun h => hR (h.resolve_left (by decide)), fun h => hQ (h.resolve_left (by decide)), fun h h' => hC (h.resolve_left (by decide)) (fun k => h' (.inr k)), fun h h' => hP (h.resolve_left (by decide)) (fun k => h' (.inr k)), fun h h' => hN (h.resolve_left (by decide)) (fun k => h' (.inr k))⟩
    | 9, ho =>
      cases Option.some.inj ho
      have ev : a.tmps[9]?.getD undef = .tuple #[.agg #[.int .i64 13, .slice ra 1 rp, .slice rb rn rq], .int .i64 0] := by rw [ha, e7 (hd ⟨7, .data⟩ (by simp) rfl)]; kernel_rfl
      refine wp_value (w' := w') (v := .int .i64 0) (by simp [execOp, ev, go_sem]) ?_
      exact ⟨v10, v11, v12, v13, v14, v15, v16, v9, v17, (.int .i64 0), v3, v4, ca, np, ra, rp, rb, rn, rq, n3, by rw [ha]; kernel_rfl, hB, fun h => e0 (h.resolve_left (by decide)), fun h => e1 (h.resolve_left (by decide)), fun h => e2 (h.resolve_left (by decide)), fun h => e3 (h.resolve_left (by decide)), fun h => e4 (h.resolve_left (by decide)), fun h => e5 (h.resolve_left (by decide)), fun h => e6 (h.resolve_left (by decide)), fun h => e7 (h.resolve_left (by decide)), fun h => e8 (h.resolve_left (by decide)), fun _ => rfl, fun h => e10 (h.resolve_left (by decide)), fun h => e12 (h.resolve_left (by decide)), fun h => hR (h.resolve_left (by decide)), fun h => hQ (h.resolve_left (by decide)), fun h h' => hC (h.resolve_left (by decide)) (fun k => h' (.inr k)), fun h h' => hP (h.resolve_left (by decide)) (fun k => h' (.inr k)), fun h h' => hN (h.resolve_left (by decide)) (fun k => h' (.inr k))⟩
    | 10, ho =>
      cases Option.some.inj ho
      refine wp_value (w' := w'.alloc (.cells #[.int .i64 0, .slice none 0 0, .slice none 0 0] 38)) (v := .pointer (some ⟨w'.heap.size, 0, none⟩)) (by simp [execOp, go_sem]) ?_
      exact ⟨v10, v11, v12, v13, v14, v15, v16, v9, v17, v18, (.pointer (some ⟨w'.heap.size, 0, none⟩)), v4, ca, np, ra, rp, rb, rn, rq, w'.heap.size, by rw [ha]; kernel_rfl, below_size hB hB.size box_below, fun h => e0 (h.resolve_left (by decide)), fun h => e1 (h.resolve_left (by decide)), fun h => e2 (h.resolve_left (by decide)), fun h => e3 (h.resolve_left (by decide)), fun h => e4 (h.resolve_left (by decide)), fun h => e5 (h.resolve_left (by decide)), fun h => e6 (h.resolve_left (by decide)), fun h => e7 (h.resolve_left (by decide)), fun h => e8 (h.resolve_left (by decide)), fun h => e9 (h.resolve_left (by decide)), fun _ => rfl, fun h => e12 (h.resolve_left (by decide)), fun h => ⟨(hR (h.resolve_left (by decide))).1.below box_below, (hR (h.resolve_left (by decide))).2.below box_below⟩, fun h => absurd (h.resolve_left (by decide)) (fun h => hn (hcl 11 _ rfl h ⟨10, .data⟩ (by simp) rfl)), fun h h' => (hC (h.resolve_left (by decide)) (fun k => h' (.inr k))).below box_below, fun h h' => (hP (h.resolve_left (by decide)) (fun k => h' (.inr k))).below box_below, fun _ _ => ⟨new1 _ _, hB.size⟩⟩
    | 11, ho =>
      cases Option.some.inj ho
      have ev : a.tmps[3]?.getD undef = .pointer (some ⟨n3, 0, none⟩) := by rw [ha, e10 (hd ⟨10, .data⟩ (by simp) rfl)]; kernel_rfl
      have ev' : a.tmps[17]?.getD undef = .agg #[.int .i64 13, .slice ra 1 rp, .slice rb rn rq] := by rw [ha, e8 (hd ⟨8, .data⟩ (by simp) rfl)]; kernel_rfl
      obtain ⟨E9, hn3⟩ := hN (hd ⟨10, .data⟩ (by simp) rfl) hn
      obtain ⟨z0, z1, z2, zf⟩ := obj_cells E9
      have zf0 := zf 0
      have zf1 := zf 1
      have zf2 := zf 2
      have hD6 : D 6 := hcl 7 _ rfl (hcl 8 _ rfl (hd ⟨8, .data⟩ (by simp) rfl) ⟨7, .data⟩ (by simp) rfl) ⟨6, .data⟩ (by simp) rfl
      refine wp_skip (w' := stO w' n3 13 (.slice ra 1 rp) (.slice rb rn rq)) (by simp [execOp, Act.eval, ev, ev', go_sem, z0, z1, z2, zf0, zf1, zf2, stO]) ?_
      exact ⟨v10, v11, v12, v13, v14, v15, v16, v9, v17, v18, v3, v4, ca, np, ra, rp, rb, rn, rq, n3, by rw [ha]; kernel_rfl, stO_below hB hn3 _ _ _, fun h => e0 (h.resolve_left (by decide)), fun h => e1 (h.resolve_left (by decide)), fun h => e2 (h.resolve_left (by decide)), fun h => e3 (h.resolve_left (by decide)), fun h => e4 (h.resolve_left (by decide)), fun h => e5 (h.resolve_left (by decide)), fun h => e6 (h.resolve_left (by decide)), fun h => e7 (h.resolve_left (by decide)), fun h => e8 (h.resolve_left (by decide)), fun h => e9 (h.resolve_left (by decide)), fun h => e10 (h.resolve_left (by decide)), fun h => e12 (h.resolve_left (by decide)), fun _ => ⟨ownV_of (stO_own (hR hD6).1.1 E9 (by decide) _ _ _) (hR hD6).1.wf, ownB_of (stO_own (hR hD6).2.1 E9 (by decide) _ _ _) (hR hD6).2.byte⟩, fun _ => stO_blk E9 _ _ _, fun _ h' => absurd (.inr hD6) h', fun _ h' => absurd (.inr hD6) h', fun _ h' => absurd (.inl rfl) h'⟩
    | 12, ho =>
      cases Option.some.inj ho
      have ev : a.tmps[18]?.getD undef = .int .i64 0 := by rw [ha, e9 (hd ⟨9, .data⟩ (by simp) rfl)]; kernel_rfl
      refine wp_value (w' := w') (v := .int .i64 0) (by simp [execOp, ev, go_sem]) ?_
      exact ⟨v10, v11, v12, v13, v14, v15, v16, v9, v17, v18, v3, (.int .i64 0), ca, np, ra, rp, rb, rn, rq, n3, by rw [ha]; kernel_rfl, hB, fun h => e0 (h.resolve_left (by decide)), fun h => e1 (h.resolve_left (by decide)), fun h => e2 (h.resolve_left (by decide)), fun h => e3 (h.resolve_left (by decide)), fun h => e4 (h.resolve_left (by decide)), fun h => e5 (h.resolve_left (by decide)), fun h => e6 (h.resolve_left (by decide)), fun h => e7 (h.resolve_left (by decide)), fun h => e8 (h.resolve_left (by decide)), fun h => e9 (h.resolve_left (by decide)), fun h => e10 (h.resolve_left (by decide)), fun _ => rfl, fun h => hR (h.resolve_left (by decide)), fun h => hQ (h.resolve_left (by decide)), fun h h' => hC (h.resolve_left (by decide)) (fun k => h' (.inr k)), fun h h' => hP (h.resolve_left (by decide)) (fun k => h' (.inr k)), fun h h' => hN (h.resolve_left (by decide)) (fun k => h' (.inr k))⟩
    | i + 13, ho => simp at ho
  case done =>
    rintro D a w' ⟨v10, v11, v12, v13, v14, v15, v16, v9, v17, v18, v3, v4, ca, np, ra, rp, rb, rn, rq, n3, ha, hB, e0, e1, e2, e3, e4, e5, e6, e7, e8, e9, e10, e12, hR, hQ, hC, hP, hN⟩ hall
    obtain rfl := e0 (hall 0 (by decide))
    obtain rfl := e1 (hall 1 (by decide))
    obtain rfl := e2 (hall 2 (by decide))
    obtain rfl := e3 (hall 3 (by decide))
    obtain rfl := e4 (hall 4 (by decide))
    obtain rfl := e5 (hall 5 (by decide))
    obtain rfl := e6 (hall 6 (by decide))
    obtain rfl := e7 (hall 7 (by decide))
    obtain rfl := e8 (hall 8 (by decide))
    obtain rfl := e9 (hall 9 (by decide))
    obtain rfl := e10 (hall 10 (by decide))
    obtain rfl := e12 (hall 12 (by decide))
    obtain ⟨OV, OB⟩ := hR (hall 6 (by decide))
    have E3 := hQ (hall 11 (by decide))
    clear hC hP hN hR hQ hall e0 e1 e2 e3 e4 e5 e6 e7 e8 e9 e10 e12
    rw [ha]
    clear ha
    simp only [Act.put, List.setIfInBounds_toArray, List.set_cons_zero, List.set_cons_succ]
    have E1b := (hB.block _ (lt_of_block E1)).trans E1
    have B3 := below_size B2 B2.size hB
    clear hB E1 E2 B2
    go_upto_region 4 with fail
    have E1 := E1b
    clear E1b
    generalize w2.heap.size = base at *
    generalize w' = w3 at *
    clear D
    refine wp_region_inv' (fun A D a w' => ∃ v20 v21 v22 v23 v24 v25 v19 v26 v27 v5 v6 ni ga gp np n5, a = (((((((((((A.put (some 20) v20).put (some 21) v21).put (some 22) v22).put (some 23) v23).put (some 24) v24).put (some 25) v25).put (some 19) v19).put (some 26) v26).put (some 27) v27).put (some 5) v5).put (some 6) v6) ∧ Below w3.heap.size w3 w' ∧ (D 0 → v20 = .slice (some ⟨ni, 0, none⟩) 2 2) ∧ (D 1 → v21 = .agg #[.int .i64 14, .slice ga 2 gp, .slice none 0 0]) ∧ (D 2 → v22 = .agg #[.int .i64 3, .int .i64 3]) ∧ (D 3 → v23 = .agg #[.int .i64 0, .bool false, .int .i64 3, .int .i64 3]) ∧ (D 4 → v24 = .slice (some ⟨np, 0, none⟩) 1 1) ∧ (D 5 → v25 = .tuple #[.agg #[.int .i64 0, .slice none 0 0, .slice none 0 0], .int .i64 30]) ∧ (D 6 → v19 = .tuple #[.agg #[.int .i64 0, .slice none 0 0, .slice none 0 0], .int .i64 30]) ∧ (D 7 → v26 = .agg #[.int .i64 0, .slice none 0 0, .slice none 0 0]) ∧ (D 8 → v27 = .int .i64 30) ∧ (D 9 → v5 = .pointer (some ⟨n5, 0, none⟩)) ∧ (D 11 → v6 = .int .i64 30) ∧ (D 0 → ¬ D 1 → IsI w' (some ⟨ni, 0, none⟩) 2 [1, 2]) ∧ (D 1 → ¬ D 5 → IsO w' 14 ga 2 gp none 0 0 [(3, 1), (3, 2)] []) ∧ (D 4 → ¬ D 5 → IsP w' (some ⟨np, 0, none⟩) 1 1 [⟨0, false, 3, 3⟩]) ∧ (D 9 → ¬ D 10 → w'.heap[n5]? = some (objB 0 (.slice none 0 0) (.slice none 0 0)) ∧ w3.heap.size ≤ n5)) (by kernel_rfl) (by kernel_rfl) ?mono ?start ?step ?done
    case mono =>
      rintro D D' a w' hD ⟨v20, v21, v22, v23, v24, v25, v19, v26, v27, v5, v6, ni, ga, gp, np, n5, ha, hB, e0, e1, e2, e3, e4, e5, e6, e7, e8, e9, e11, hI, hC, hP, hN⟩
      exact ⟨v20, v21, v22, v23, v24, v25, v19, v26, v27, v5, v6, ni, ga, gp, np, n5, ha, hB, fun h => e0 ((hD 0).2 h), fun h => e1 ((hD 1).2 h), fun h => e2 ((hD 2).2 h), fun h => e3 ((hD 3).2 h), fun h => e4 ((hD 4).2 h), fun h => e5 ((hD 5).2 h), fun h => e6 ((hD 6).2 h), fun h => e7 ((hD 7).2 h), fun h => e8 ((hD 8).2 h), fun h => e9 ((hD 9).2 h), fun h => e11 ((hD 11).2 h), fun h h' => hI ((hD 0).2 h) (fun k => h' ((hD 1).1 k)), fun h h' => hC ((hD 1).2 h) (fun k => h' ((hD 5).1 k)), fun h h' => hP ((hD 4).2 h) (fun k => h' ((hD 5).1 k)), fun h h' => hN ((hD 9).2 h) (fun k => h' ((hD 10).1 k))⟩
    case start => exact ⟨undef, undef, undef, undef, undef, undef, undef, undef, undef, undef, undef, 0, none, 0, 0, 0, by kernel_rfl, (Below.refl _ _).drew, fun h => h.elim, fun h => h.elim, fun h => h.elim, fun h => h.elim, fun h => h.elim, fun h => h.elim, fun h => h.elim, fun h => h.elim, fun h => h.elim, fun h => h.elim, fun h => h.elim, fun h _ => h.elim, fun h _ => h.elim, fun h _ => h.elim, fun h _ => h.elim⟩
    case step =>
      intro i o ho D a w' hI hn hcl hd
      obtain ⟨v20, v21, v22, v23, v24, v25, v19, v26, v27, v5, v6, ni, ga, gp, np, n5, ha, hB, e0, e1, e2, e3, e4, e5, e6, e7, e8, e9, e11, hI, hC, hP, hN⟩ := hI
      match i, ho with
      | 0, ho =>
        cases Option.some.inj ho
        refine wp_value (w' := w'.alloc (.cells #[.int .i64 1, .int .i64 2] 2)) (v := .slice (some ⟨w'.heap.size, 0, none⟩) 2 2) (by simp [execOp, go_sem]) ?_
        exact ⟨(.slice (some ⟨w'.heap.size, 0, none⟩) 2 2), v21, v22, v23, v24, v25, v19, v26, v27, v5, v6, w'.heap.size, ga, gp, np, n5, by rw [ha]; kernel_rfl, below_size hB hB.size box_below, fun _ => rfl, fun h => e1 (h.resolve_left (by decide)), fun h => e2 (h.resolve_left (by decide)), fun h => e3 (h.resolve_left (by decide)), fun h => e4 (h.resolve_left (by decide)), fun h => e5 (h.resolve_left (by decide)), fun h => e6 (h.resolve_left (by decide)), fun h => e7 (h.resolve_left (by decide)), fun h => e8 (h.resolve_left (by decide)), fun h => e9 (h.resolve_left (by decide)), fun h => e11 (h.resolve_left (by decide)), fun _ _ => isI_lit w', fun h _ => absurd (h.resolve_left (by decide)) (fun h => hn (hcl 1 _ rfl h ⟨0, .data⟩ (by simp) rfl)), fun h h' => (hP (h.resolve_left (by decide)) (fun k => h' (.inr k))).below box_below, fun h h' => ⟨old1 (hN (h.resolve_left (by decide)) (fun k => h' (.inr k))).1 _, (hN (h.resolve_left (by decide)) (fun k => h' (.inr k))).2⟩⟩
      | 1, ho =>
        cases Option.some.inj ho
        have ev : a.tmps[20]?.getD undef = .slice (some ⟨ni, 0, none⟩) 2 2 := by rw [ha, e0 (hd ⟨0, .data⟩ (by simp) rfl)]; kernel_rfl
        refine wp_enter (f := 24) (args := #[.slice (some ⟨ni, 0, none⟩) 2 2]) (by simp [execOp, ev, go_sem]) ?_
        refine (bag_any (hI (hd ⟨0, .data⟩ (by simp) rfl) hn) (by omega)).mono ?_
        rintro e w6 ⟨ga', gp', rfl, IO, HB⟩
        refine ⟨_, rfl, ?_⟩
        exact ⟨v20, (.agg #[.int .i64 14, .slice ga' 2 gp', .slice none 0 0]), v22, v23, v24, v25, v19, v26, v27, v5, v6, ni, ga', gp', np, n5, by rw [ha]; kernel_rfl, below_size hB hB.size HB, fun h => e0 (h.resolve_left (by decide)), fun _ => rfl, fun h => e2 (h.resolve_left (by decide)), fun h => e3 (h.resolve_left (by decide)), fun h => e4 (h.resolve_left (by decide)), fun h => e5 (h.resolve_left (by decide)), fun h => e6 (h.resolve_left (by decide)), fun h => e7 (h.resolve_left (by decide)), fun h => e8 (h.resolve_left (by decide)), fun h => e9 (h.resolve_left (by decide)), fun h => e11 (h.resolve_left (by decide)), fun _ h' => absurd (.inl rfl) h', fun _ _ => IO, fun h h' => (hP (h.resolve_left (by decide)) (fun k => h' (.inr k))).below HB, fun h h' => ⟨(HB.block _ (lt_of_block (hN (h.resolve_left (by decide)) (fun k => h' (.inr k))).1)).trans (hN (h.resolve_left (by decide)) (fun k => h' (.inr k))).1, (hN (h.resolve_left (by decide)) (fun k => h' (.inr k))).2⟩⟩
      | 2, ho =>
        cases Option.some.inj ho
        have ev : a.tmps[1]?.getD undef = .pointer (some ⟨b1, 0, none⟩) := by rw [ha]; kernel_rfl
        obtain ⟨z0, z1⟩ := val_cells ((hB.block _ (lt_of_block E1)).trans E1)
        refine wp_value (w' := w') (v := .agg #[.int .i64 3, .int .i64 3]) (by simp [execOp, ev, go_sem, z0, z1]) ?_
        exact ⟨v20, v21, (.agg #[.int .i64 3, .int .i64 3]), v23, v24, v25, v19, v26, v27, v5, v6, ni, ga, gp, np, n5, by rw [ha]; kernel_rfl, hB, fun h => e0 (h.resolve_left (by decide)), fun h => e1 (h.resolve_left (by decide)), fun _ => rfl, fun h => e3 (h.resolve_left (by decide)), fun h => e4 (h.resolve_left (by decide)), fun h => e5 (h.resolve_left (by decide)), fun h => e6 (h.resolve_left (by decide)), fun h => e7 (h.resolve_left (by decide)), fun h => e8 (h.resolve_left (by decide)), fun h => e9 (h.resolve_left (by decide)), fun h => e11 (h.resolve_left (by decide)), fun h h' => hI (h.resolve_left (by decide)) (fun k => h' (.inr k)), fun h h' => hC (h.resolve_left (by decide)) (fun k => h' (.inr k)), fun h h' => hP (h.resolve_left (by decide)) (fun k => h' (.inr k)), fun h h' => hN (h.resolve_left (by decide)) (fun k => h' (.inr k))⟩
      | 3, ho =>
        cases Option.some.inj ho
        have ev : a.tmps[22]?.getD undef = .agg #[.int .i64 3, .int .i64 3] := by rw [ha, e2 (hd ⟨2, .data⟩ (by simp) rfl)]; kernel_rfl
        refine wp_value (w' := w') (v := .agg #[.int .i64 0, .bool false, .int .i64 3, .int .i64 3]) (by simp [execOp, ev, go_sem]) ?_
        exact ⟨v20, v21, v22, (.agg #[.int .i64 0, .bool false, .int .i64 3, .int .i64 3]), v24, v25, v19, v26, v27, v5, v6, ni, ga, gp, np, n5, by rw [ha]; kernel_rfl, hB, fun h => e0 (h.resolve_left (by decide)), fun h => e1 (h.resolve_left (by decide)), fun h => e2 (h.resolve_left (by decide)), fun _ => rfl, fun h => e4 (h.resolve_left (by decide)), fun h => e5 (h.resolve_left (by decide)), fun h => e6 (h.resolve_left (by decide)), fun h => e7 (h.resolve_left (by decide)), fun h => e8 (h.resolve_left (by decide)), fun h => e9 (h.resolve_left (by decide)), fun h => e11 (h.resolve_left (by decide)), fun h h' => hI (h.resolve_left (by decide)) (fun k => h' (.inr k)), fun h h' => hC (h.resolve_left (by decide)) (fun k => h' (.inr k)), fun h h' => hP (h.resolve_left (by decide)) (fun k => h' (.inr k)), fun h h' => hN (h.resolve_left (by decide)) (fun k => h' (.inr k))⟩
      | 4, ho =>
        cases Option.some.inj ho
        have ev : a.tmps[23]?.getD undef = .agg #[.int .i64 0, .bool false, .int .i64 3, .int .i64 3] := by rw [ha, e3 (hd ⟨3, .data⟩ (by simp) rfl)]; kernel_rfl
        refine wp_value (w' := w'.alloc (.cells (flatP [⟨0, false, 3, 3⟩]).toArray 66)) (v := .slice (some ⟨w'.heap.size, 0, none⟩) 1 1) (by simp [execOp, ev, go_sem, flatP, Pp.cells]) ?_
        exact ⟨v20, v21, v22, v23, (.slice (some ⟨w'.heap.size, 0, none⟩) 1 1), v25, v19, v26, v27, v5, v6, ni, ga, gp, w'.heap.size, n5, by rw [ha]; kernel_rfl, below_size hB hB.size box_below, fun h => e0 (h.resolve_left (by decide)), fun h => e1 (h.resolve_left (by decide)), fun h => e2 (h.resolve_left (by decide)), fun h => e3 (h.resolve_left (by decide)), fun _ => rfl, fun h => e5 (h.resolve_left (by decide)), fun h => e6 (h.resolve_left (by decide)), fun h => e7 (h.resolve_left (by decide)), fun h => e8 (h.resolve_left (by decide)), fun h => e9 (h.resolve_left (by decide)), fun h => e11 (h.resolve_left (by decide)), fun h h' => (hI (h.resolve_left (by decide)) (fun k => h' (.inr k))).below box_below, fun h h' => (hC (h.resolve_left (by decide)) (fun k => h' (.inr k))).below box_below, fun _ _ => isP_lit w' _ 1 rfl (by decide) ok2, fun h h' => ⟨old1 (hN (h.resolve_left (by decide)) (fun k => h' (.inr k))).1 _, (hN (h.resolve_left (by decide)) (fun k => h' (.inr k))).2⟩⟩
      | 5, ho =>
        cases Option.some.inj ho
        have ev : a.tmps[21]?.getD undef = .agg #[.int .i64 14, .slice ga 2 gp, .slice none 0 0] := by rw [ha, e1 (hd ⟨1, .data⟩ (by simp) rfl)]; kernel_rfl
        have ev' : a.tmps[24]?.getD undef = .slice (some ⟨np, 0, none⟩) 1 1 := by rw [ha, e4 (hd ⟨4, .data⟩ (by simp) rfl)]; kernel_rfl
        refine wp_enter (f := 20) (args := #[.agg #[.int .i64 14, .slice ga 2 gp, .slice none 0 0], .slice (some ⟨np, 0, none⟩) 1 1]) (by simp [execOp, ev, ev', go_sem]) ?_
        refine (rep_known2 (hC (hd ⟨1, .data⟩ (by simp) rfl) hn) (hP (hd ⟨4, .data⟩ (by simp) rfl) hn)).mono ?_
        rintro e w6 ⟨rfl, HB⟩
        refine ⟨_, rfl, ?_⟩
        exact ⟨v20, v21, v22, v23, v24, (.tuple #[.agg #[.int .i64 0, .slice none 0 0, .slice none 0 0], .int .i64 30]), v19, v26, v27, v5, v6, ni, ga, gp, np, n5, by rw [ha]; kernel_rfl, below_size hB hB.size HB, fun h => e0 (h.resolve_left (by decide)), fun h => e1 (h.resolve_left (by decide)), fun h => e2 (h.resolve_left (by decide)), fun h => e3 (h.resolve_left (by decide)), fun h => e4 (h.resolve_left (by decide)), fun _ => rfl, fun h => e6 (h.resolve_left (by decide)), fun h => e7 (h.resolve_left (by decide)), fun h => e8 (h.resolve_left (by decide)), fun h => e9 (h.resolve_left (by decide)), fun h => e11 (h.resolve_left (by decide)), fun _ h' => absurd (.inr (hd ⟨1, .data⟩ (by simp) rfl)) h', fun _ h' => absurd (.inl rfl) h', fun _ h' => absurd (.inl rfl) h', fun h h' => ⟨(HB.block _ (lt_of_block (hN (h.resolve_left (by decide)) (fun k => h' (.inr k))).1)).trans (hN (h.resolve_left (by decide)) (fun k => h' (.inr k))).1, (hN (h.resolve_left (by decide)) (fun k => h' (.inr k))).2⟩⟩
      | 6, ho =>
        cases Option.some.inj ho
        have ev : a.tmps[25]?.getD undef = .tuple #[.agg #[.int .i64 0, .slice none 0 0, .slice none 0 0], .int .i64 30] := by rw [ha, e5 (hd ⟨5, .data⟩ (by simp) rfl)]; kernel_rfl
        refine wp_value (w' := w') (v := .tuple #[.agg #[.int .i64 0, .slice none 0 0, .slice none 0 0], .int .i64 30]) (by simp [execOp, ev, go_sem]) ?_
        exact ⟨v20, v21, v22, v23, v24, v25, (.tuple #[.agg #[.int .i64 0, .slice none 0 0, .slice none 0 0], .int .i64 30]), v26, v27, v5, v6, ni, ga, gp, np, n5, by rw [ha]; kernel_rfl, hB, fun h => e0 (h.resolve_left (by decide)), fun h => e1 (h.resolve_left (by decide)), fun h => e2 (h.resolve_left (by decide)), fun h => e3 (h.resolve_left (by decide)), fun h => e4 (h.resolve_left (by decide)), fun h => e5 (h.resolve_left (by decide)), fun _ => rfl, fun h => e7 (h.resolve_left (by decide)), fun h => e8 (h.resolve_left (by decide)), fun h => e9 (h.resolve_left (by decide)), fun h => e11 (h.resolve_left (by decide)), fun h h' => hI (h.resolve_left (by decide)) (fun k => h' (.inr k)), fun h h' => hC (h.resolve_left (by decide)) (fun k => h' (.inr k)), fun h h' => hP (h.resolve_left (by decide)) (fun k => h' (.inr k)), fun h h' => hN (h.resolve_left (by decide)) (fun k => h' (.inr k))⟩
      | 7, ho =>
        cases Option.some.inj ho
        have ev : a.tmps[19]?.getD undef = .tuple #[.agg #[.int .i64 0, .slice none 0 0, .slice none 0 0], .int .i64 30] := by rw [ha, e6 (hd ⟨6, .data⟩ (by simp) rfl)]; kernel_rfl
        refine wp_value (w' := w') (v := .agg #[.int .i64 0, .slice none 0 0, .slice none 0 0]) (by simp [execOp, ev, go_sem]) ?_
        exact ⟨v20, v21, v22, v23, v24, v25, v19, (.agg #[.int .i64 0, .slice none 0 0, .slice none 0 0]), v27, v5, v6, ni, ga, gp, np, n5, by rw [ha]; kernel_rfl, hB, fun h => e0 (h.resolve_left (by decide)), fun h => e1 (h.resolve_left (by decide)), fun h => e2 (h.resolve_left (by decide)), fun h => e3 (h.resolve_left (by decide)), fun h => e4 (h.resolve_left (by decide)), fun h => e5 (h.resolve_left (by decide)), fun h => e6 (h.resolve_left (by decide)), fun _ => rfl, fun h => e8 (h.resolve_left (by decide)), fun h => e9 (h.resolve_left (by decide)), fun h => e11 (h.resolve_left (by decide)), fun h h' => hI (h.resolve_left (by decide)) (fun k => h' (.inr k)), fun h h' => hC (h.resolve_left (by decide)) (fun k => h' (.inr k)), fun h h' => hP (h.resolve_left (by decide)) (fun k => h' (.inr k)), fun h h' => hN (h.resolve_left (by decide)) (fun k => h' (.inr k))⟩
      | 8, ho =>
        cases Option.some.inj ho
        have ev : a.tmps[19]?.getD undef = .tuple #[.agg #[.int .i64 0, .slice none 0 0, .slice none 0 0], .int .i64 30] := by rw [ha, e6 (hd ⟨6, .data⟩ (by simp) rfl)]; kernel_rfl
        refine wp_value (w' := w') (v := .int .i64 30) (by simp [execOp, ev, go_sem]) ?_
        exact ⟨v20, v21, v22, v23, v24, v25, v19, v26, (.int .i64 30), v5, v6, ni, ga, gp, np, n5, by rw [ha]; kernel_rfl, hB, fun h => e0 (h.resolve_left (by decide)), fun h => e1 (h.resolve_left (by decide)), fun h => e2 (h.resolve_left (by decide)), fun h => e3 (h.resolve_left (by decide)), fun h => e4 (h.resolve_left (by decide)), fun h => e5 (h.resolve_left (by decide)), fun h => e6 (h.resolve_left (by decide)), fun h => e7 (h.resolve_left (by decide)), fun _ => rfl, fun h => e9 (h.resolve_left (by decide)), fun h => e11 (h.resolve_left (by decide)), fun h h' => hI (h.resolve_left (by decide)) (fun k => h' (.inr k)), fun h h' => hC (h.resolve_left (by decide)) (fun k => h' (.inr k)), fun h h' => hP (h.resolve_left (by decide)) (fun k => h' (.inr k)), fun h h' => hN (h.resolve_left (by decide)) (fun k => h' (.inr k))⟩
      | 9, ho =>
        cases Option.some.inj ho
        refine wp_value (w' := w'.alloc (.cells #[.int .i64 0, .slice none 0 0, .slice none 0 0] 38)) (v := .pointer (some ⟨w'.heap.size, 0, none⟩)) (by simp [execOp, go_sem]) ?_
        exact ⟨v20, v21, v22, v23, v24, v25, v19, v26, v27, (.pointer (some ⟨w'.heap.size, 0, none⟩)), v6, ni, ga, gp, np, w'.heap.size, by rw [ha]; kernel_rfl, below_size hB hB.size box_below, fun h => e0 (h.resolve_left (by decide)), fun h => e1 (h.resolve_left (by decide)), fun h => e2 (h.resolve_left (by decide)), fun h => e3 (h.resolve_left (by decide)), fun h => e4 (h.resolve_left (by decide)), fun h => e5 (h.resolve_left (by decide)), fun h => e6 (h.resolve_left (by decide)), fun h => e7 (h.resolve_left (by decide)), fun h => e8 (h.resolve_left (by decide)), fun _ => rfl, fun h => e11 (h.resolve_left (by decide)), fun h h' => (hI (h.resolve_left (by decide)) (fun k => h' (.inr k))).below box_below, fun h h' => (hC (h.resolve_left (by decide)) (fun k => h' (.inr k))).below box_below, fun h h' => (hP (h.resolve_left (by decide)) (fun k => h' (.inr k))).below box_below, fun _ _ => ⟨new1 _ _, hB.size⟩⟩
      | 10, ho =>
        cases Option.some.inj ho
        have ev : a.tmps[5]?.getD undef = .pointer (some ⟨n5, 0, none⟩) := by rw [ha, e9 (hd ⟨9, .data⟩ (by simp) rfl)]; kernel_rfl
        have ev' : a.tmps[26]?.getD undef = .agg #[.int .i64 0, .slice none 0 0, .slice none 0 0] := by rw [ha, e7 (hd ⟨7, .data⟩ (by simp) rfl)]; kernel_rfl
        obtain ⟨E9, hn5⟩ := hN (hd ⟨9, .data⟩ (by simp) rfl) hn
        obtain ⟨z0, z1, z2, zf⟩ := obj_cells E9
        have zf0 := zf 0
        have zf1 := zf 1
        have zf2 := zf 2
        have hD5 : D 5 := hcl 6 _ rfl (hcl 7 _ rfl (hd ⟨7, .data⟩ (by simp) rfl) ⟨6, .data⟩ (by simp) rfl) ⟨5, .data⟩ (by simp) rfl
        refine wp_skip (w' := stO w' n5 0 (.slice none 0 0) (.slice none 0 0)) (by simp [execOp, Act.eval, ev, ev', go_sem, z0, z1, z2, zf0, zf1, zf2, stO]) ?_
        exact ⟨v20, v21, v22, v23, v24, v25, v19, v26, v27, v5, v6, ni, ga, gp, np, n5, by rw [ha]; kernel_rfl, stO_below hB hn5 _ _ _, fun h => e0 (h.resolve_left (by decide)), fun h => e1 (h.resolve_left (by decide)), fun h => e2 (h.resolve_left (by decide)), fun h => e3 (h.resolve_left (by decide)), fun h => e4 (h.resolve_left (by decide)), fun h => e5 (h.resolve_left (by decide)), fun h => e6 (h.resolve_left (by decide)), fun h => e7 (h.resolve_left (by decide)), fun h => e8 (h.resolve_left (by decide)), fun h => e9 (h.resolve_left (by decide)), fun h => e11 (h.resolve_left (by decide)), fun _ h' => absurd (.inr (hcl 5 _ rfl hD5 ⟨1, .data⟩ (by simp) rfl)) h', fun _ h' => absurd (.inr hD5) h', fun _ h' => absurd (.inr hD5) h', fun _ h' => absurd (.inl rfl) h'⟩
      | 11, ho =>
        cases Option.some.inj ho
        have ev : a.tmps[27]?.getD undef = .int .i64 30 := by rw [ha, e8 (hd ⟨8, .data⟩ (by simp) rfl)]; kernel_rfl
        refine wp_value (w' := w') (v := .int .i64 30) (by simp [execOp, ev, go_sem]) ?_
        exact ⟨v20, v21, v22, v23, v24, v25, v19, v26, v27, v5, (.int .i64 30), ni, ga, gp, np, n5, by rw [ha]; kernel_rfl, hB, fun h => e0 (h.resolve_left (by decide)), fun h => e1 (h.resolve_left (by decide)), fun h => e2 (h.resolve_left (by decide)), fun h => e3 (h.resolve_left (by decide)), fun h => e4 (h.resolve_left (by decide)), fun h => e5 (h.resolve_left (by decide)), fun h => e6 (h.resolve_left (by decide)), fun h => e7 (h.resolve_left (by decide)), fun h => e8 (h.resolve_left (by decide)), fun h => e9 (h.resolve_left (by decide)), fun _ => rfl, fun h h' => hI (h.resolve_left (by decide)) (fun k => h' (.inr k)), fun h h' => hC (h.resolve_left (by decide)) (fun k => h' (.inr k)), fun h h' => hP (h.resolve_left (by decide)) (fun k => h' (.inr k)), fun h h' => hN (h.resolve_left (by decide)) (fun k => h' (.inr k))⟩
      | i + 12, ho => simp at ho
    case done =>
      rintro D a w' ⟨v20, v21, v22, v23, v24, v25, v19, v26, v27, v5, v6, ni, ga, gp, np, n5, ha, hB, e0, e1, e2, e3, e4, e5, e6, e7, e8, e9, e11, hI, hC, hP, hN⟩ hall
      obtain rfl := e0 (hall 0 (by decide))
      obtain rfl := e1 (hall 1 (by decide))
      obtain rfl := e2 (hall 2 (by decide))
      obtain rfl := e3 (hall 3 (by decide))
      obtain rfl := e4 (hall 4 (by decide))
      obtain rfl := e5 (hall 5 (by decide))
      obtain rfl := e6 (hall 6 (by decide))
      obtain rfl := e7 (hall 7 (by decide))
      obtain rfl := e8 (hall 8 (by decide))
      obtain rfl := e9 (hall 9 (by decide))
      obtain rfl := e11 (hall 11 (by decide))
      clear hI hC hP hN hall e0 e1 e2 e3 e4 e5 e6 e7 e8 e9 e11
      rw [ha]
      clear ha
      simp only [Act.put, List.setIfInBounds_toArray, List.set_cons_zero, List.set_cons_succ]
      have E3b := (hB.block _ (lt_of_block E3)).trans E3
      have OVb := OV.below hB
      have OBb := OB.below hB
      have B4 := below_size B3 B3.size hB
      clear E3 OV OB B3 hB E1
      go_upto_region 5 with fail
      have E3 := E3b
      have O3 : IsO w' 13 ra 1 rp rb rn rq [(3, 7)] [] := ⟨by decide, OVb.isV, OBb.isB⟩
      clear E3b OVb OBb
      generalize w' = w4 at *
      refine wp_region_inv2' (fun A D a w' => ∃ v28 v29 v30 v31 v32 v33 v34 v35 v36 v37 v38 v0 ca, a = ((((((((((((A.put (some 28) v28).put (some 29) v29).put (some 30) v30).put (some 31) v31).put (some 32) v32).put (some 33) v33).put (some 34) v34).put (some 35) v35).put (some 36) v36).put (some 37) v37).put (some 38) v38).put (some 0) v0) ∧ Below w4.heap.size w4 w' ∧ (D 0 → v28 = .int .i64 0) ∧ (D 1 → v29 = .bool true) ∧ (D 2 → v30 = .bool true) ∧ (D 3 → v31 = .agg #[.int .i64 13, .slice ra 1 rp, .slice rb rn rq]) ∧ (D 4 → v32 = .agg #[.int .i64 13, .slice ca 1 1, .slice none 0 0]) ∧ (D 5 → v33 = .bool true) ∧ (D 6 → v34 = .bool true) ∧ (D 7 → v35 = .bool true) ∧ (D 8 → v36 = .int .i64 30) ∧ (D 9 → v37 = .bool true) ∧ (D 10 → v38 = .bool true) ∧ (D 11 → v0 = .bool true) ∧ (D 4 → ¬ D 5 → IsO w' 13 ca 1 1 none 0 0 [(3, 7)] [])) (by kernel_rfl) (by kernel_rfl) ?mono ?start ?step ?done
      case mono =>
        rintro D D' a w' hD ⟨v28, v29, v30, v31, v32, v33, v34, v35, v36, v37, v38, v0, ca, ha, hB, e0, e1, e2, e3, e4, e5, e6, e7, e8, e9, e10, e11, hC⟩
        exact ⟨v28, v29, v30, v31, v32, v33, v34, v35, v36, v37, v38, v0, ca, ha, hB, fun h => e0 ((hD 0).2 h), fun h => e1 ((hD 1).2 h), fun h => e2 ((hD 2).2 h), fun h => e3 ((hD 3).2 h), fun h => e4 ((hD 4).2 h), fun h => e5 ((hD 5).2 h), fun h => e6 ((hD 6).2 h), fun h => e7 ((hD 7).2 h), fun h => e8 ((hD 8).2 h), fun h => e9 ((hD 9).2 h), fun h => e10 ((hD 10).2 h), fun h => e11 ((hD 11).2 h), fun h h' => hC ((hD 4).2 h) (fun k => h' ((hD 5).1 k))⟩
      case start => exact ⟨undef, undef, undef, undef, undef, undef, undef, undef, undef, undef, undef, .bool false, none, by kernel_rfl, (Below.refl _ _).drew, fun h => h.elim, fun h => h.elim, fun h => h.elim, fun h => h.elim, fun h => h.elim, fun h => h.elim, fun h => h.elim, fun h => h.elim, fun h => h.elim, fun h => h.elim, fun h => h.elim, fun h => h.elim, fun h _ => h.elim⟩
      case step =>
        intro i o ho D a w' hI hn hcl hd
        obtain ⟨v28, v29, v30, v31, v32, v33, v34, v35, v36, v37, v38, v0, ca, ha, hB, e0, e1, e2, e3, e4, e5, e6, e7, e8, e9, e10, e11, hC⟩ := hI
        match i, ho with
        | 0, ho =>
          cases Option.some.inj ho
          refine ⟨rfl, ?_⟩
          have ev : a.tmps[4]?.getD undef = .int .i64 0 := by rw [ha]; kernel_rfl
          refine wp_value (w' := w') (v := .int .i64 0) (by simp [execOp, ev, go_sem]) ?_
          exact ⟨(.int .i64 0), v29, v30, v31, v32, v33, v34, v35, v36, v37, v38, v0, ca, by rw [ha]; kernel_rfl, hB, fun _ => rfl, fun h => e1 (h.resolve_left (by decide)), fun h => e2 (h.resolve_left (by decide)), fun h => e3 (h.resolve_left (by decide)), fun h => e4 (h.resolve_left (by decide)), fun h => e5 (h.resolve_left (by decide)), fun h => e6 (h.resolve_left (by decide)), fun h => e7 (h.resolve_left (by decide)), fun h => e8 (h.resolve_left (by decide)), fun h => e9 (h.resolve_left (by decide)), fun h => e10 (h.resolve_left (by decide)), fun h => e11 (h.resolve_left (by decide)), fun h h' => hC (h.resolve_left (by decide)) (fun k => h' (.inr k))⟩
        | 1, ho =>
          cases Option.some.inj ho
          refine ⟨rfl, ?_⟩
          have ev : a.tmps[28]?.getD undef = .int .i64 0 := by rw [ha, e0 (hd ⟨0, .data⟩ (by simp) rfl)]; kernel_rfl
          refine wp_value (w' := w') (v := .bool true) (by simp [execOp, ev, go_sem]) ?_
          exact ⟨v28, (.bool true), v30, v31, v32, v33, v34, v35, v36, v37, v38, v0, ca, by rw [ha]; kernel_rfl, hB, fun h => e0 (h.resolve_left (by decide)), fun _ => rfl, fun h => e2 (h.resolve_left (by decide)), fun h => e3 (h.resolve_left (by decide)), fun h => e4 (h.resolve_left (by decide)), fun h => e5 (h.resolve_left (by decide)), fun h => e6 (h.resolve_left (by decide)), fun h => e7 (h.resolve_left (by decide)), fun h => e8 (h.resolve_left (by decide)), fun h => e9 (h.resolve_left (by decide)), fun h => e10 (h.resolve_left (by decide)), fun h => e11 (h.resolve_left (by decide)), fun h h' => hC (h.resolve_left (by decide)) (fun k => h' (.inr k))⟩
        | 2, ho =>
          cases Option.some.inj ho
          refine ⟨rfl, ?_⟩
          have ev : a.tmps[29]?.getD undef = .bool true := by rw [ha, e1 (hd ⟨1, .data⟩ (by simp) rfl)]; kernel_rfl
          refine wp_value (w' := w') (v := .bool true) (by simp [execOp, ev, go_sem]) ?_
          exact ⟨v28, v29, (.bool true), v31, v32, v33, v34, v35, v36, v37, v38, v0, ca, by rw [ha]; kernel_rfl, hB, fun h => e0 (h.resolve_left (by decide)), fun h => e1 (h.resolve_left (by decide)), fun _ => rfl, fun h => e3 (h.resolve_left (by decide)), fun h => e4 (h.resolve_left (by decide)), fun h => e5 (h.resolve_left (by decide)), fun h => e6 (h.resolve_left (by decide)), fun h => e7 (h.resolve_left (by decide)), fun h => e8 (h.resolve_left (by decide)), fun h => e9 (h.resolve_left (by decide)), fun h => e10 (h.resolve_left (by decide)), fun h => e11 (h.resolve_left (by decide)), fun h h' => hC (h.resolve_left (by decide)) (fun k => h' (.inr k))⟩
        | 3, ho =>
          cases Option.some.inj ho
          refine ⟨by rw [ha, e2 (hd ⟨2, .guard⟩ (by simp) rfl)]; kernel_rfl, ?_⟩
          have ev : a.tmps[3]?.getD undef = .pointer (some ⟨n3, 0, none⟩) := by rw [ha]; kernel_rfl
          obtain ⟨z0, z1, z2, zf⟩ := obj_cells ((hB.block _ (lt_of_block E3)).trans E3)
          refine wp_value (w' := w') (v := .agg #[.int .i64 13, .slice ra 1 rp, .slice rb rn rq]) (by simp [execOp, ev, go_sem, z0, z1, z2]) ?_
          exact ⟨v28, v29, v30, (.agg #[.int .i64 13, .slice ra 1 rp, .slice rb rn rq]), v32, v33, v34, v35, v36, v37, v38, v0, ca, by rw [ha]; kernel_rfl, hB, fun h => e0 (h.resolve_left (by decide)), fun h => e1 (h.resolve_left (by decide)), fun h => e2 (h.resolve_left (by decide)), fun _ => rfl, fun h => e4 (h.resolve_left (by decide)), fun h => e5 (h.resolve_left (by decide)), fun h => e6 (h.resolve_left (by decide)), fun h => e7 (h.resolve_left (by decide)), fun h => e8 (h.resolve_left (by decide)), fun h => e9 (h.resolve_left (by decide)), fun h => e10 (h.resolve_left (by decide)), fun h => e11 (h.resolve_left (by decide)), fun h h' => hC (h.resolve_left (by decide)) (fun k => h' (.inr k))⟩
        | 4, ho =>
          cases Option.some.inj ho
          refine ⟨by rw [ha, e2 (hd ⟨2, .guard⟩ (by simp) rfl)]; kernel_rfl, ?_⟩
          refine wp_enter (f := 22) (args := #[.int .i64 7]) (by simp [execOp, go_sem]) ?_
          refine (counter_any 7 w' (by unfold I64; omega)).mono ?_
          rintro e w6 ⟨ca', rfl, IO, HB⟩
          refine ⟨_, rfl, ?_⟩
          exact ⟨v28, v29, v30, v31, (.agg #[.int .i64 13, .slice ca' 1 1, .slice none 0 0]), v33, v34, v35, v36, v37, v38, v0, ca', by rw [ha]; kernel_rfl, below_size hB hB.size HB, fun h => e0 (h.resolve_left (by decide)), fun h => e1 (h.resolve_left (by decide)), fun h => e2 (h.resolve_left (by decide)), fun h => e3 (h.resolve_left (by decide)), fun _ => rfl, fun h => e5 (h.resolve_left (by decide)), fun h => e6 (h.resolve_left (by decide)), fun h => e7 (h.resolve_left (by decide)), fun h => e8 (h.resolve_left (by decide)), fun h => e9 (h.resolve_left (by decide)), fun h => e10 (h.resolve_left (by decide)), fun h => e11 (h.resolve_left (by decide)), fun _ _ => IO⟩
        | 5, ho =>
          cases Option.some.inj ho
          refine ⟨by rw [ha, e2 (hd ⟨2, .guard⟩ (by simp) rfl)]; kernel_rfl, ?_⟩
          have ev : a.tmps[31]?.getD undef = .agg #[.int .i64 13, .slice ra 1 rp, .slice rb rn rq] := by rw [ha, e3 (hd ⟨3, .data⟩ (by simp) rfl)]; kernel_rfl
          have ev' : a.tmps[32]?.getD undef = .agg #[.int .i64 13, .slice ca 1 1, .slice none 0 0] := by rw [ha, e4 (hd ⟨4, .data⟩ (by simp) rfl)]; kernel_rfl
          refine wp_enter (f := 19) (args := #[.agg #[.int .i64 13, .slice ra 1 rp, .slice rb rn rq], .agg #[.int .i64 13, .slice ca 1 1, .slice none 0 0]]) (by simp [execOp, ev, ev', go_sem]) ?_
          refine (same_yes (O3.below hB) (hC (hd ⟨4, .data⟩ (by simp) rfl) hn)).mono ?_
          rintro e w6 ⟨rfl, HB⟩
          refine ⟨_, rfl, ?_⟩
          exact ⟨v28, v29, v30, v31, v32, (.bool true), v34, v35, v36, v37, v38, v0, ca, by rw [ha]; kernel_rfl, below_size hB hB.size HB, fun h => e0 (h.resolve_left (by decide)), fun h => e1 (h.resolve_left (by decide)), fun h => e2 (h.resolve_left (by decide)), fun h => e3 (h.resolve_left (by decide)), fun h => e4 (h.resolve_left (by decide)), fun _ => rfl, fun h => e6 (h.resolve_left (by decide)), fun h => e7 (h.resolve_left (by decide)), fun h => e8 (h.resolve_left (by decide)), fun h => e9 (h.resolve_left (by decide)), fun h => e10 (h.resolve_left (by decide)), fun h => e11 (h.resolve_left (by decide)), fun _ h' => absurd (.inl rfl) h'⟩
        | 6, ho =>
          cases Option.some.inj ho
          refine ⟨rfl, ?_⟩
          have ev : a.tmps[30]?.getD undef = .bool true := by rw [ha, e2 (hd ⟨2, .data⟩ (by simp) rfl)]; kernel_rfl
          have ev' : a.tmps[33]?.getD undef = .bool true := by rw [ha, e5 (hd ⟨5, .data⟩ (by simp) rfl)]; kernel_rfl
          refine wp_value (w' := w') (v := .bool true) (by simp [execOp, ev, ev', go_sem]) ?_
          exact ⟨v28, v29, v30, v31, v32, v33, (.bool true), v35, v36, v37, v38, v0, ca, by rw [ha]; kernel_rfl, hB, fun h => e0 (h.resolve_left (by decide)), fun h => e1 (h.resolve_left (by decide)), fun h => e2 (h.resolve_left (by decide)), fun h => e3 (h.resolve_left (by decide)), fun h => e4 (h.resolve_left (by decide)), fun h => e5 (h.resolve_left (by decide)), fun _ => rfl, fun h => e7 (h.resolve_left (by decide)), fun h => e8 (h.resolve_left (by decide)), fun h => e9 (h.resolve_left (by decide)), fun h => e10 (h.resolve_left (by decide)), fun h => e11 (h.resolve_left (by decide)), fun h h' => hC (h.resolve_left (by decide)) (fun k => h' (.inr k))⟩
        | 7, ho =>
          cases Option.some.inj ho
          refine ⟨rfl, ?_⟩
          have ev : a.tmps[34]?.getD undef = .bool true := by rw [ha, e6 (hd ⟨6, .data⟩ (by simp) rfl)]; kernel_rfl
          refine wp_value (w' := w') (v := .bool true) (by simp [execOp, ev, go_sem]) ?_
          exact ⟨v28, v29, v30, v31, v32, v33, v34, (.bool true), v36, v37, v38, v0, ca, by rw [ha]; kernel_rfl, hB, fun h => e0 (h.resolve_left (by decide)), fun h => e1 (h.resolve_left (by decide)), fun h => e2 (h.resolve_left (by decide)), fun h => e3 (h.resolve_left (by decide)), fun h => e4 (h.resolve_left (by decide)), fun h => e5 (h.resolve_left (by decide)), fun h => e6 (h.resolve_left (by decide)), fun _ => rfl, fun h => e8 (h.resolve_left (by decide)), fun h => e9 (h.resolve_left (by decide)), fun h => e10 (h.resolve_left (by decide)), fun h => e11 (h.resolve_left (by decide)), fun h h' => hC (h.resolve_left (by decide)) (fun k => h' (.inr k))⟩
        | 8, ho =>
          cases Option.some.inj ho
          refine ⟨by rw [ha, e7 (hd ⟨7, .guard⟩ (by simp) rfl)]; kernel_rfl, ?_⟩
          have ev : a.tmps[6]?.getD undef = .int .i64 30 := by rw [ha]; kernel_rfl
          refine wp_value (w' := w') (v := .int .i64 30) (by simp [execOp, ev, go_sem]) ?_
          exact ⟨v28, v29, v30, v31, v32, v33, v34, v35, (.int .i64 30), v37, v38, v0, ca, by rw [ha]; kernel_rfl, hB, fun h => e0 (h.resolve_left (by decide)), fun h => e1 (h.resolve_left (by decide)), fun h => e2 (h.resolve_left (by decide)), fun h => e3 (h.resolve_left (by decide)), fun h => e4 (h.resolve_left (by decide)), fun h => e5 (h.resolve_left (by decide)), fun h => e6 (h.resolve_left (by decide)), fun h => e7 (h.resolve_left (by decide)), fun _ => rfl, fun h => e9 (h.resolve_left (by decide)), fun h => e10 (h.resolve_left (by decide)), fun h => e11 (h.resolve_left (by decide)), fun h h' => hC (h.resolve_left (by decide)) (fun k => h' (.inr k))⟩
        | 9, ho =>
          cases Option.some.inj ho
          refine ⟨by rw [ha, e7 (hd ⟨7, .guard⟩ (by simp) rfl)]; kernel_rfl, ?_⟩
          have ev : a.tmps[36]?.getD undef = .int .i64 30 := by rw [ha, e8 (hd ⟨8, .data⟩ (by simp) rfl)]; kernel_rfl
          refine wp_value (w' := w') (v := .bool true) (by simp [execOp, ev, go_sem]) ?_
          exact ⟨v28, v29, v30, v31, v32, v33, v34, v35, v36, (.bool true), v38, v0, ca, by rw [ha]; kernel_rfl, hB, fun h => e0 (h.resolve_left (by decide)), fun h => e1 (h.resolve_left (by decide)), fun h => e2 (h.resolve_left (by decide)), fun h => e3 (h.resolve_left (by decide)), fun h => e4 (h.resolve_left (by decide)), fun h => e5 (h.resolve_left (by decide)), fun h => e6 (h.resolve_left (by decide)), fun h => e7 (h.resolve_left (by decide)), fun h => e8 (h.resolve_left (by decide)), fun _ => rfl, fun h => e10 (h.resolve_left (by decide)), fun h => e11 (h.resolve_left (by decide)), fun h h' => hC (h.resolve_left (by decide)) (fun k => h' (.inr k))⟩
        | 10, ho =>
          cases Option.some.inj ho
          refine ⟨rfl, ?_⟩
          have ev : a.tmps[35]?.getD undef = .bool true := by rw [ha, e7 (hd ⟨7, .data⟩ (by simp) rfl)]; kernel_rfl
          have ev' : a.tmps[37]?.getD undef = .bool true := by rw [ha, e9 (hd ⟨9, .data⟩ (by simp) rfl)]; kernel_rfl
          refine wp_value (w' := w') (v := .bool true) (by simp [execOp, ev, ev', go_sem]) ?_
          exact ⟨v28, v29, v30, v31, v32, v33, v34, v35, v36, v37, (.bool true), v0, ca, by rw [ha]; kernel_rfl, hB, fun h => e0 (h.resolve_left (by decide)), fun h => e1 (h.resolve_left (by decide)), fun h => e2 (h.resolve_left (by decide)), fun h => e3 (h.resolve_left (by decide)), fun h => e4 (h.resolve_left (by decide)), fun h => e5 (h.resolve_left (by decide)), fun h => e6 (h.resolve_left (by decide)), fun h => e7 (h.resolve_left (by decide)), fun h => e8 (h.resolve_left (by decide)), fun h => e9 (h.resolve_left (by decide)), fun _ => rfl, fun h => e11 (h.resolve_left (by decide)), fun h h' => hC (h.resolve_left (by decide)) (fun k => h' (.inr k))⟩
        | 11, ho =>
          cases Option.some.inj ho
          refine ⟨rfl, ?_⟩
          have ev : a.tmps[38]?.getD undef = .bool true := by rw [ha, e10 (hd ⟨10, .data⟩ (by simp) rfl)]; kernel_rfl
          refine wp_value (w' := w') (v := .bool true) (by simp [execOp, ev, go_sem]) ?_
          exact ⟨v28, v29, v30, v31, v32, v33, v34, v35, v36, v37, v38, (.bool true), ca, by rw [ha]; kernel_rfl, hB, fun h => e0 (h.resolve_left (by decide)), fun h => e1 (h.resolve_left (by decide)), fun h => e2 (h.resolve_left (by decide)), fun h => e3 (h.resolve_left (by decide)), fun h => e4 (h.resolve_left (by decide)), fun h => e5 (h.resolve_left (by decide)), fun h => e6 (h.resolve_left (by decide)), fun h => e7 (h.resolve_left (by decide)), fun h => e8 (h.resolve_left (by decide)), fun h => e9 (h.resolve_left (by decide)), fun h => e10 (h.resolve_left (by decide)), fun _ => rfl, fun h h' => hC (h.resolve_left (by decide)) (fun k => h' (.inr k))⟩
        | i + 12, ho => simp at ho
      case done =>
        rintro D a w' ⟨v28, v29, v30, v31, v32, v33, v34, v35, v36, v37, v38, v0, ca, ha, hB, e0, e1, e2, e3, e4, e5, e6, e7, e8, e9, e10, e11, hC⟩ hall
        obtain rfl := e0 (hall 0 (by decide))
        obtain rfl := e1 (hall 1 (by decide))
        obtain rfl := e2 (hall 2 (by decide))
        obtain rfl := e3 (hall 3 (by decide))
        obtain rfl := e4 (hall 4 (by decide))
        obtain rfl := e5 (hall 5 (by decide))
        obtain rfl := e6 (hall 6 (by decide))
        obtain rfl := e7 (hall 7 (by decide))
        obtain rfl := e8 (hall 8 (by decide))
        obtain rfl := e9 (hall 9 (by decide))
        obtain rfl := e10 (hall 10 (by decide))
        obtain rfl := e11 (hall 11 (by decide))
        clear hC hall e0 e1 e2 e3 e4 e5 e6 e7 e8 e9 e10 e11
        rw [ha]
        clear ha
        simp only [Act.put, List.setIfInBounds_toArray, List.set_cons_zero, List.set_cons_succ]
        go_wp2
        go_ret
        exact ⟨rfl, below_size B4 B4.size hB⟩
end Go.Proofs.Ytkkilenokpoaoaa
