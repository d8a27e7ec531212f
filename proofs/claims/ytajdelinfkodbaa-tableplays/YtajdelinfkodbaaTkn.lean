/- A record as the document's: taken. -/
import Derived.Test.YtajdelinfkodbaaGvn
namespace Go.Proofs.Ytajdelinfkodbaa
open Go.RowKit
set_option maxRecDepth 100000
/-- What the operations yield. -/
def takV (b1 b3 b off k n cap nx cx : Nat) (ax : Option Addr) (oo cc : Int) (g : Bool) (sa ba : Option Addr) (sn sc bn bc : Nat) (ha1 : Option Addr) (nb hn1 hc1 : Nat) (j : Nat) : Value :=
  ([.pointer (some ⟨b3, 1, none⟩),
    .slice ax nx cx,
    .pointer (some ⟨b1, 1, none⟩),
    .slice (some ⟨b, off, none⟩) n cap,
    .int .i64 (k : Int),
    .pointer (some ⟨b, off + k * 5, none⟩),
    .pointer (some ⟨b, off + k * 5, none⟩),
    .int .i64 oo,
    .pointer (some ⟨b1, 1, none⟩),
    .slice (some ⟨b, off, none⟩) n cap,
    .int .i64 (k : Int),
    .pointer (some ⟨b, off + k * 5, none⟩),
    .pointer (some ⟨b, off + k * 5 + 1, none⟩),
    .bool g,
    .pointer (some ⟨b1, 1, none⟩),
    .slice (some ⟨b, off, none⟩) n cap,
    .int .i64 (k : Int),
    .pointer (some ⟨b, off + k * 5, none⟩),
    .pointer (some ⟨b, off + k * 5 + 2, none⟩),
    .agg #[.int .i64 cc, .slice sa sn sc, .slice ba bn bc],
    .agg #[.int .i64 oo, .bool g, .int .i64 cc, .slice sa sn sc, .slice ba bn bc],
    .slice (some ⟨nb, 0, none⟩) 1 1,
    .slice ha1 hn1 hc1,
    .pointer (some ⟨b3, 1, none⟩)] : List Value).getD j undef
theorem takV_list {l : List Value} (hh : l.length = 24) : ∃ v0 v1 v2 v3 v4 v5 v6 v7 v8 v9 v10 v11 v12 v13 v14 v15 v16 v17 v18 v19 v20 v21 v22 v23, l = [v0, v1, v2, v3, v4, v5, v6, v7, v8, v9, v10, v11, v12, v13, v14, v15, v16, v17, v18, v19, v20, v21, v22, v23] := by
  obtain ⟨v0, t0, rfl, h0⟩ := cons_of hh
  obtain ⟨v1, t1, rfl, h1⟩ := cons_of h0
  obtain ⟨v2, t2, rfl, h2⟩ := cons_of h1
  obtain ⟨v3, t3, rfl, h3⟩ := cons_of h2
  obtain ⟨v4, t4, rfl, h4⟩ := cons_of h3
  obtain ⟨v5, t5, rfl, h5⟩ := cons_of h4
  obtain ⟨v6, t6, rfl, h6⟩ := cons_of h5
  obtain ⟨v7, t7, rfl, h7⟩ := cons_of h6
  obtain ⟨v8, t8, rfl, h8⟩ := cons_of h7
  obtain ⟨v9, t9, rfl, h9⟩ := cons_of h8
  obtain ⟨v10, t10, rfl, h10⟩ := cons_of h9
  obtain ⟨v11, t11, rfl, h11⟩ := cons_of h10
  obtain ⟨v12, t12, rfl, h12⟩ := cons_of h11
  obtain ⟨v13, t13, rfl, h13⟩ := cons_of h12
  obtain ⟨v14, t14, rfl, h14⟩ := cons_of h13
  obtain ⟨v15, t15, rfl, h15⟩ := cons_of h14
  obtain ⟨v16, t16, rfl, h16⟩ := cons_of h15
  obtain ⟨v17, t17, rfl, h17⟩ := cons_of h16
  obtain ⟨v18, t18, rfl, h18⟩ := cons_of h17
  obtain ⟨v19, t19, rfl, h19⟩ := cons_of h18
  obtain ⟨v20, t20, rfl, h20⟩ := cons_of h19
  obtain ⟨v21, t21, rfl, h21⟩ := cons_of h20
  obtain ⟨v22, t22, rfl, h22⟩ := cons_of h21
  obtain ⟨v23, t23, rfl, h23⟩ := cons_of h22
  obtain rfl := List.eq_nil_of_length_eq_zero h23
  exact ⟨_, _, _, _, _, _, _, _, _, _, _, _, _, _, _, _, _, _, _, _, _, _, _, _, rfl⟩
theorem load29 {w : World} {b : Nat} {c : Int} {v : Value} (h : w.heap[b]? = some (recB c v 29)) : (loadVar 29 ⟨b, 0, none⟩).run Try.prog w = .ok (.agg #[.int .i64 c, v]) w := by
  obtain ⟨h0, h1⟩ := rec_cells h
  have hr := run_loadCells_list (P := Try.prog) w ⟨b, 0, none⟩ [.int .i64 c, v] (fun i u hi => by
    rw [addr_add]
    match i, hi with
    | 0, hi => simp at hi; subst hi; exact h0
    | 1, hi => simp at hi; subst hi; exact h1
    | _ + 2, hi => simp at hi)
  have hagg : (isAgg 29).run Try.prog w = .ok true w := by simp [isAgg, run_underlying Try.underlying29]
  have hr' : (loadCells ⟨b, 0, none⟩ 2).run Try.prog w = .ok #[.int .i64 c, v] w := hr
  simp [loadVar, hagg, hr']
theorem OwnC.at_ {w : World} {base t n c : Nat} {a : Option Addr} {xs : List Ch} (h : OwnC w base t (.slice a n c) xs) (k : Nat) (hk : k < n) : ∃ (b off : Nat) (s : Cs), a = some ⟨b, off, none⟩ ∧ Hid (xs[k]? = some s.x) ∧ (∀ j v, s.cells[j]? = some v → w.cell? ⟨b, off + k * 5 + j, none⟩ = some v) ∧ El w s ∧ (-9223372036854775808 ≤ s.x.oop ∧ s.x.oop ≤ 9223372036854775807) := by
  have hn : n = xs.length := by obtain ⟨a', n', c', e, k⟩ := h.shape'; cases e; exact k
  obtain ⟨ss, h1, rfl, h3, h4⟩ := h
  rw [List.length_map] at hn
  subst hn
  rcases h1.2 with ⟨e, h0⟩ | ⟨g, cap, cur, e, hrest⟩
  · omega
  · cases e
    obtain ⟨s, hs⟩ : ∃ s, ss[k]? = some s := ⟨_, List.getElem?_eq_getElem hk⟩
    have hm : (ss.map Cs.x)[k]? = some s.x := by rw [List.getElem?_map, hs]; rfl
    refine ⟨g, 0, s, rfl, hm, fun j v hj => ?_, h3 s (List.mem_of_getElem? hs), h4 _ (List.mem_of_getElem? hm)⟩
    have h5 : j < 5 := by have := (List.getElem?_eq_some_iff.1 hj).1; simpa [Cs.cells] using this
    have hc := World.ownsRow.cells h1 (g := g) rfl (k * 5 + j) v (by rw [flatC_at ss k s hs j h5]; exact hj)
    rw [addr_add] at hc
    rw [Nat.add_assoc]
    exact hc
theorem Try.results14 : Try.f14.results = #[.cell 2 29] := by kernel_rfl
/-- What a record's copy is. -/
def TakP (w : World) (c : Int) (xs : List Ch) (e : Ending) (w' : World) : Prop := ∃ a n cap, e = .returned (.agg #[.int .i64 c, .slice a n cap]) ∧ OwnC w' w.heap.size 73 (.slice a n cap) xs ∧ Below w.heap.size w w'
set_option maxHeartbeats 8000000 in
theorem taken_any {w : World} (c : Int) {a : Option Addr} {n cap : Nat} {xs : List Ch} {base : Nat} (h : OwnC w base 51 (.slice a n cap) xs) (hnn : n ≤ 1954687338264) :
    Calls Try.prog 14 #[.agg #[.int .i64 c, .slice a n cap]] w fun e w' => TakP w c xs e w' := by
  have hsz := h.isC.size
  have E1 : (((w.alloc (recB c (.slice a n cap) 38)).alloc (recB 0 (.slice none 0 0) 29)).alloc (recB c (.slice none 0 0) 29)).heap[w.heap.size]? = some (recB c (.slice a n cap) 38) := old1 (old1 (new1 _ _) _) _
  have E2 : (((w.alloc (recB c (.slice a n cap) 38)).alloc (recB 0 (.slice none 0 0) 29)).alloc (recB c (.slice none 0 0) 29)).heap[w.heap.size + 1]? = some (recB 0 (.slice none 0 0) 29) := old1 (new2 _ _ _) _
  have E3 : (((w.alloc (recB c (.slice a n cap) 38)).alloc (recB 0 (.slice none 0 0) 29)).alloc (recB c (.slice none 0 0) 29)).heap[w.heap.size + 1 + 1]? = some (recB c (.slice none 0 0) 29) := new3 _ _ _ _
  have B3 : Below w.heap.size w (((w.alloc (recB c (.slice a n cap) 38)).alloc (recB 0 (.slice none 0 0) 29)).alloc (recB c (.slice none 0 0) 29)) := below_size (below_size box_below box_below.size box_below) (by simp; omega) box_below
  go_enter Try.func14, Try.ntmps14
  unfold recB at E1 E2 E3 B3
  go_wp2
  generalize ((w.alloc (.cells #[.int .i64 c, .slice a n cap] 38)).alloc (.cells #[.int .i64 0, .slice none 0 0] 29)).alloc (.cells #[.int .i64 c, .slice none 0 0] 29) = w3 at *
  have l3 : w.heap.size ≤ w.heap.size + 1 + 1 := by omega
  have l2 : w.heap.size ≤ w.heap.size + 1 := by omega
  have h13 : w.heap.size ≠ w.heap.size + 1 + 1 := by omega
  have h23 : w.heap.size + 1 ≠ w.heap.size + 1 + 1 := by omega
  generalize w.heap.size + 1 + 1 = b3 at *
  generalize w.heap.size + 1 = b2 at *
  obtain ⟨b1, hb1⟩ : ∃ b, b = w.heap.size := ⟨_, rfl⟩
  rw [← hb1] at E1 h13 ⊢
  clear hb1
  replace E1 : w3.heap[b1]? = some (recB c (.slice a n cap) 38) := E1
  replace E2 : w3.heap[b2]? = some (recB 0 (.slice none 0 0) 29) := E2
  replace E3 : w3.heap[b3]? = some (recB c (.slice none 0 0) 29) := E3
  have q1 := lt_of_block E1
  have q2 := lt_of_block E2
  have q3 := lt_of_block E3
  have N0 := B3.size
  obtain ⟨N, hN0⟩ : ∃ N, Hid (N = w3.heap.size) := ⟨_, rfl⟩
  go_loopw [4] (fun iv wr => ∃ (k : Nat) (sv : Value), k ≤ n ∧ iv = .int .i64 (k : Int) ∧ wr.heap[b3]? = some (recB c sv 29) ∧ OwnC wr N 73 sv (xs.take k) ∧ FrN N b3 w3 wr) (fun iv _ => n - (intOf iv).toNat)
  case atStart => exact ⟨0, _, by omega, rfl, E3, by simpa using ownC_nil _ _ _, FrN.refl _ _ _⟩
  case round =>
    clear E3
    obtain ⟨k, sv, hk, rfl, E3, OC, F⟩ := hrel
    obtain ⟨ax, nx, cx, rfl, _⟩ := OC.shape'
    rename_i hnx
    clear hnx
    have hNw : N ≤ wr.heap.size := by have h1 := hN0.out; have h2 := F.size; omega
    have E1r := (F.block b1 (by have h1 := hN0.out; omega) h13).trans E1
    have Bw := F.below B3 (by have h1 := hN0.out; omega) l3
    obtain ⟨y0, y1⟩ := rec_cells E1r
    by_cases hlt : k < n
    · have hki : (k : Int) < (n : Int) := by omega
      obtain ⟨b, off, s, rfl, hx, hcs, EL, hox⟩ := (h.below Bw).at_ k hlt
      have hsnoc : Hid (xs.take (k + 1) = xs.take k ++ [s.x]) := take_at hx.out
      obtain ⟨⟨oo, g, cc, vs, bs⟩, sa, sn, sc, ba, bn, bc⟩ := s
      have c0 := hcs 0 _ rfl
      have c1 := hcs 1 _ rfl
      have c2 := hcs 2 _ rfl
      have c3 := hcs 3 _ rfl
      have c4 := hcs 4 _ rfl
      clear hcs
      simp only at c0 c1 c2 c3 c4 hox hsnoc
      rw [Nat.add_zero] at c0
      obtain ⟨x0, x1⟩ := rec_cells E3
      have hb3 : b3 < N := by have h1 := hN0.out; omega
      have hN := hNw
      go_upto_region 5 with fail
      refine abstract_act fun A hA => ?_
      have hsz : A.tmps.size = 40 := by rw [hA]; rfl
      have s1 : A.tmps[1]? = some (.pointer (some ⟨b1, 0, none⟩)) := by rw [hA]; rfl
      have s3 : A.tmps[3]? = some (.pointer (some ⟨b3, 0, none⟩)) := by rw [hA]; rfl
      have s4 : A.tmps[4]? = some (.int .i64 (k : Int)) := by rw [hA]; rfl
      refine wp_region_inv' (fun A D a w' => ∃ (l : List Value) (ha1 : Option Addr) (nb : Nat) (hn1 : Nat) (hc1 : Nat), a = putAll A 15 l ∧ l.length = 24 ∧ (∀ j, j < 24 → D j → l[j]? = some (takV b1 b3 b off k n cap nx cx ax oo cc g sa ba sn sc bn bc ha1 nb hn1 hc1 j)) ∧ (D 22 ∨ Below wr.heap.size wr w') ∧ (D 24 → w'.heap[b3]? = some (recB c (.slice ha1 hn1 hc1) 29) ∧ OwnC w' N 73 (.slice ha1 hn1 hc1) (xs.take k ++ [⟨oo, g, cc, vs, bs⟩]) ∧ FrN N b3 wr w') ∧ (D 21 → ¬ D 22 → ∀ (j : Nat) (v : Value), (⟨⟨oo, g, cc, vs, bs⟩, sa, sn, sc, ba, bn, bc⟩ : Cs).cells[j]? = some v → w'.cell? ⟨nb, j, none⟩ = some v) ∧ (D 22 → ¬ D 24 → OwnC w' N 73 (.slice ha1 hn1 hc1) (xs.take k ++ [⟨oo, g, cc, vs, bs⟩]) ∧ Below N wr w')) (by kernel_rfl) (by kernel_rfl) ?mono ?start ?step ?done
      case mono =>
        rintro D D' a w' hD ⟨l, ha1, nb, hn1, hc1, ha, hlen, hl, hB, hQ, hCl, hOC⟩
        exact ⟨l, ha1, nb, hn1, hc1, ha, hlen, fun j hj h => hl j hj ((hD j).2 h), hB.imp_left (hD 22).1, fun h => hQ ((hD 24).2 h), fun h h' => hCl ((hD 21).2 h) (fun k => h' ((hD 22).1 k)), fun h h' => hOC ((hD 22).2 h) (fun k => h' ((hD 24).1 k))⟩
      case start => exact ⟨_, none, 0, 0, 0, (putAll_start A 15 24 (by omega)).1, (putAll_start A 15 24 (by omega)).2, fun _ _ h => h.elim, .inr ((Below.refl _ _).drew), fun h => h.elim, fun h _ => h.elim, fun h _ => h.elim⟩
      case step =>
        clear hA
        intro i o ho D a w' hI hn hcl hd
        obtain ⟨l, ha1, nb, hn1, hc1, ha, hlen, hl, hB, hQ, hCl, hOC⟩ := hI
        match i, ho with
        | 0, ho =>
          cases Option.some.inj ho
          have ev : a.tmps[3]? = some (.pointer (some ⟨b3, 0, none⟩)) := by rw [ha, putAll_low A 15 3 l (by omega) (by decide)]; exact s3
          refine wp_value (w' := w') (v := .pointer (some ⟨b3, 1, none⟩)) (by simp [execOp, ev, go_sem]) ?_
          exact ⟨_, ha1, nb, hn1, hc1, by rw [ha]; exact putAll_put A 15 0 l _ (by omega) (by omega), by rw [List.length_set]; exact hlen, set_known hlen (by decide) hl, hB.imp_left .inr, fun h => hQ (h.resolve_left (by decide)), fun h h' => hCl (h.resolve_left (by decide)) (fun k => h' (.inr k)), fun h h' => hOC (h.resolve_left (by decide)) (fun k => h' (.inr k))⟩
        | 1, ho =>
          cases Option.some.inj ho
          have ev : a.tmps[15]? = some (.pointer (some ⟨b3, 1, none⟩)) := known_at ha hsz hlen hl 0 (by decide) (hd ⟨0, .data⟩ (by simp) rfl)
          have hc := ((hB.resolve_left (fun h => hn (hcl 22 _ rfl h ⟨1, .data⟩ (by simp) rfl))).cell (p := ⟨b3, 1, none⟩) (lt_of_cell x1)).trans x1
          refine wp_value (w' := w') (v := .slice ax nx cx) (by simp [execOp, ev, go_sem, hc]) ?_
          exact ⟨_, ha1, nb, hn1, hc1, by rw [ha]; exact putAll_put A 15 1 l _ (by omega) (by omega), by rw [List.length_set]; exact hlen, set_known hlen (by decide) hl, hB.imp_left .inr, fun h => hQ (h.resolve_left (by decide)), fun h h' => hCl (h.resolve_left (by decide)) (fun k => h' (.inr k)), fun h h' => hOC (h.resolve_left (by decide)) (fun k => h' (.inr k))⟩
        | 2, ho =>
          cases Option.some.inj ho
          have ev : a.tmps[1]? = some (.pointer (some ⟨b1, 0, none⟩)) := by rw [ha, putAll_low A 15 1 l (by omega) (by decide)]; exact s1
          refine wp_value (w' := w') (v := .pointer (some ⟨b1, 1, none⟩)) (by simp [execOp, ev, go_sem]) ?_
          exact ⟨_, ha1, nb, hn1, hc1, by rw [ha]; exact putAll_put A 15 2 l _ (by omega) (by omega), by rw [List.length_set]; exact hlen, set_known hlen (by decide) hl, hB.imp_left .inr, fun h => hQ (h.resolve_left (by decide)), fun h h' => hCl (h.resolve_left (by decide)) (fun k => h' (.inr k)), fun h h' => hOC (h.resolve_left (by decide)) (fun k => h' (.inr k))⟩
        | 3, ho =>
          cases Option.some.inj ho
          have ev : a.tmps[17]? = some (.pointer (some ⟨b1, 1, none⟩)) := known_at ha hsz hlen hl 2 (by decide) (hd ⟨2, .data⟩ (by simp) rfl)
          have hc := ((hB.resolve_left (fun h => (fun h => (fun h => (fun h => (fun h => (fun h => hn (hcl 5 _ rfl h ⟨3, .data⟩ (by simp) rfl)) (hcl 6 _ rfl h ⟨5, .data⟩ (by simp) rfl)) (hcl 7 _ rfl h ⟨6, .data⟩ (by simp) rfl)) (hcl 20 _ rfl h ⟨7, .data⟩ (by simp) rfl)) (hcl 21 _ rfl h ⟨20, .data⟩ (by simp) rfl)) (hcl 22 _ rfl h ⟨21, .data⟩ (by simp) rfl))).cell (p := ⟨b1, 1, none⟩) (lt_of_cell y1)).trans y1
          refine wp_value (w' := w') (v := .slice (some ⟨b, off, none⟩) n cap) (by simp [execOp, ev, go_sem, hc]) ?_
          exact ⟨_, ha1, nb, hn1, hc1, by rw [ha]; exact putAll_put A 15 3 l _ (by omega) (by omega), by rw [List.length_set]; exact hlen, set_known hlen (by decide) hl, hB.imp_left .inr, fun h => hQ (h.resolve_left (by decide)), fun h h' => hCl (h.resolve_left (by decide)) (fun k => h' (.inr k)), fun h h' => hOC (h.resolve_left (by decide)) (fun k => h' (.inr k))⟩
        | 4, ho =>
          cases Option.some.inj ho
          have ev : a.tmps[4]? = some (.int .i64 (k : Int)) := by rw [ha, putAll_low A 15 4 l (by omega) (by decide)]; exact s4
          refine wp_value (w' := w') (v := .int .i64 (k : Int)) (by simp [execOp, ev, go_sem]) ?_
          exact ⟨_, ha1, nb, hn1, hc1, by rw [ha]; exact putAll_put A 15 4 l _ (by omega) (by omega), by rw [List.length_set]; exact hlen, set_known hlen (by decide) hl, hB.imp_left .inr, fun h => hQ (h.resolve_left (by decide)), fun h h' => hCl (h.resolve_left (by decide)) (fun k => h' (.inr k)), fun h h' => hOC (h.resolve_left (by decide)) (fun k => h' (.inr k))⟩
        | 5, ho =>
          cases Option.some.inj ho
          have ev : a.tmps[18]? = some (.slice (some ⟨b, off, none⟩) n cap) := known_at ha hsz hlen hl 3 (by decide) (hd ⟨3, .data⟩ (by simp) rfl)
          have ev' : a.tmps[19]? = some (.int .i64 (k : Int)) := known_at ha hsz hlen hl 4 (by decide) (hd ⟨4, .data⟩ (by simp) rfl)
          refine wp_value (w' := w') (v := .pointer (some ⟨b, off + k * 5, none⟩)) (by simp [execOp, ev, ev', go_sem, hki]) ?_
          exact ⟨_, ha1, nb, hn1, hc1, by rw [ha]; exact putAll_put A 15 5 l _ (by omega) (by omega), by rw [List.length_set]; exact hlen, set_known hlen (by decide) hl, hB.imp_left .inr, fun h => hQ (h.resolve_left (by decide)), fun h h' => hCl (h.resolve_left (by decide)) (fun k => h' (.inr k)), fun h h' => hOC (h.resolve_left (by decide)) (fun k => h' (.inr k))⟩
        | 6, ho =>
          cases Option.some.inj ho
          have ev : a.tmps[20]? = some (.pointer (some ⟨b, off + k * 5, none⟩)) := known_at ha hsz hlen hl 5 (by decide) (hd ⟨5, .data⟩ (by simp) rfl)
          refine wp_value (w' := w') (v := .pointer (some ⟨b, off + k * 5, none⟩)) (by simp [execOp, ev, go_sem]) ?_
          exact ⟨_, ha1, nb, hn1, hc1, by rw [ha]; exact putAll_put A 15 6 l _ (by omega) (by omega), by rw [List.length_set]; exact hlen, set_known hlen (by decide) hl, hB.imp_left .inr, fun h => hQ (h.resolve_left (by decide)), fun h h' => hCl (h.resolve_left (by decide)) (fun k => h' (.inr k)), fun h h' => hOC (h.resolve_left (by decide)) (fun k => h' (.inr k))⟩
        | 7, ho =>
          cases Option.some.inj ho
          have ev : a.tmps[21]? = some (.pointer (some ⟨b, off + k * 5, none⟩)) := known_at ha hsz hlen hl 6 (by decide) (hd ⟨6, .data⟩ (by simp) rfl)
          have hc := ((hB.resolve_left (fun h => (fun h => (fun h => hn (hcl 20 _ rfl h ⟨7, .data⟩ (by simp) rfl)) (hcl 21 _ rfl h ⟨20, .data⟩ (by simp) rfl)) (hcl 22 _ rfl h ⟨21, .data⟩ (by simp) rfl))).cell (p := ⟨b, off + k * 5, none⟩) (lt_of_cell c0)).trans c0
          refine wp_value (w' := w') (v := .int .i64 oo) (by simp [execOp, ev, go_sem, hc]) ?_
          exact ⟨_, ha1, nb, hn1, hc1, by rw [ha]; exact putAll_put A 15 7 l _ (by omega) (by omega), by rw [List.length_set]; exact hlen, set_known hlen (by decide) hl, hB.imp_left .inr, fun h => hQ (h.resolve_left (by decide)), fun h h' => hCl (h.resolve_left (by decide)) (fun k => h' (.inr k)), fun h h' => hOC (h.resolve_left (by decide)) (fun k => h' (.inr k))⟩
        | 8, ho =>
          cases Option.some.inj ho
          have ev : a.tmps[1]? = some (.pointer (some ⟨b1, 0, none⟩)) := by rw [ha, putAll_low A 15 1 l (by omega) (by decide)]; exact s1
          refine wp_value (w' := w') (v := .pointer (some ⟨b1, 1, none⟩)) (by simp [execOp, ev, go_sem]) ?_
          exact ⟨_, ha1, nb, hn1, hc1, by rw [ha]; exact putAll_put A 15 8 l _ (by omega) (by omega), by rw [List.length_set]; exact hlen, set_known hlen (by decide) hl, hB.imp_left .inr, fun h => hQ (h.resolve_left (by decide)), fun h h' => hCl (h.resolve_left (by decide)) (fun k => h' (.inr k)), fun h h' => hOC (h.resolve_left (by decide)) (fun k => h' (.inr k))⟩
        | 9, ho =>
          cases Option.some.inj ho
          have ev : a.tmps[23]? = some (.pointer (some ⟨b1, 1, none⟩)) := known_at ha hsz hlen hl 8 (by decide) (hd ⟨8, .data⟩ (by simp) rfl)
          have hc := ((hB.resolve_left (fun h => (fun h => (fun h => (fun h => (fun h => (fun h => hn (hcl 11 _ rfl h ⟨9, .data⟩ (by simp) rfl)) (hcl 12 _ rfl h ⟨11, .data⟩ (by simp) rfl)) (hcl 13 _ rfl h ⟨12, .data⟩ (by simp) rfl)) (hcl 20 _ rfl h ⟨13, .data⟩ (by simp) rfl)) (hcl 21 _ rfl h ⟨20, .data⟩ (by simp) rfl)) (hcl 22 _ rfl h ⟨21, .data⟩ (by simp) rfl))).cell (p := ⟨b1, 1, none⟩) (lt_of_cell y1)).trans y1
          refine wp_value (w' := w') (v := .slice (some ⟨b, off, none⟩) n cap) (by simp [execOp, ev, go_sem, hc]) ?_
          exact ⟨_, ha1, nb, hn1, hc1, by rw [ha]; exact putAll_put A 15 9 l _ (by omega) (by omega), by rw [List.length_set]; exact hlen, set_known hlen (by decide) hl, hB.imp_left .inr, fun h => hQ (h.resolve_left (by decide)), fun h h' => hCl (h.resolve_left (by decide)) (fun k => h' (.inr k)), fun h h' => hOC (h.resolve_left (by decide)) (fun k => h' (.inr k))⟩
        | 10, ho =>
          cases Option.some.inj ho
          have ev : a.tmps[4]? = some (.int .i64 (k : Int)) := by rw [ha, putAll_low A 15 4 l (by omega) (by decide)]; exact s4
          refine wp_value (w' := w') (v := .int .i64 (k : Int)) (by simp [execOp, ev, go_sem]) ?_
          exact ⟨_, ha1, nb, hn1, hc1, by rw [ha]; exact putAll_put A 15 10 l _ (by omega) (by omega), by rw [List.length_set]; exact hlen, set_known hlen (by decide) hl, hB.imp_left .inr, fun h => hQ (h.resolve_left (by decide)), fun h h' => hCl (h.resolve_left (by decide)) (fun k => h' (.inr k)), fun h h' => hOC (h.resolve_left (by decide)) (fun k => h' (.inr k))⟩
        | 11, ho =>
          cases Option.some.inj ho
          have ev : a.tmps[24]? = some (.slice (some ⟨b, off, none⟩) n cap) := known_at ha hsz hlen hl 9 (by decide) (hd ⟨9, .data⟩ (by simp) rfl)
          have ev' : a.tmps[25]? = some (.int .i64 (k : Int)) := known_at ha hsz hlen hl 10 (by decide) (hd ⟨10, .data⟩ (by simp) rfl)
          refine wp_value (w' := w') (v := .pointer (some ⟨b, off + k * 5, none⟩)) (by simp [execOp, ev, ev', go_sem, hki]) ?_
          exact ⟨_, ha1, nb, hn1, hc1, by rw [ha]; exact putAll_put A 15 11 l _ (by omega) (by omega), by rw [List.length_set]; exact hlen, set_known hlen (by decide) hl, hB.imp_left .inr, fun h => hQ (h.resolve_left (by decide)), fun h h' => hCl (h.resolve_left (by decide)) (fun k => h' (.inr k)), fun h h' => hOC (h.resolve_left (by decide)) (fun k => h' (.inr k))⟩
        | 12, ho =>
          cases Option.some.inj ho
          have ev : a.tmps[26]? = some (.pointer (some ⟨b, off + k * 5, none⟩)) := known_at ha hsz hlen hl 11 (by decide) (hd ⟨11, .data⟩ (by simp) rfl)
          refine wp_value (w' := w') (v := .pointer (some ⟨b, off + k * 5 + 1, none⟩)) (by simp [execOp, ev, go_sem]) ?_
          exact ⟨_, ha1, nb, hn1, hc1, by rw [ha]; exact putAll_put A 15 12 l _ (by omega) (by omega), by rw [List.length_set]; exact hlen, set_known hlen (by decide) hl, hB.imp_left .inr, fun h => hQ (h.resolve_left (by decide)), fun h h' => hCl (h.resolve_left (by decide)) (fun k => h' (.inr k)), fun h h' => hOC (h.resolve_left (by decide)) (fun k => h' (.inr k))⟩
        | 13, ho =>
          cases Option.some.inj ho
          have ev : a.tmps[27]? = some (.pointer (some ⟨b, off + k * 5 + 1, none⟩)) := known_at ha hsz hlen hl 12 (by decide) (hd ⟨12, .data⟩ (by simp) rfl)
          have hc := ((hB.resolve_left (fun h => (fun h => (fun h => hn (hcl 20 _ rfl h ⟨13, .data⟩ (by simp) rfl)) (hcl 21 _ rfl h ⟨20, .data⟩ (by simp) rfl)) (hcl 22 _ rfl h ⟨21, .data⟩ (by simp) rfl))).cell (p := ⟨b, off + k * 5 + 1, none⟩) (lt_of_cell c1)).trans c1
          refine wp_value (w' := w') (v := .bool g) (by simp [execOp, ev, go_sem, hc]) ?_
          exact ⟨_, ha1, nb, hn1, hc1, by rw [ha]; exact putAll_put A 15 13 l _ (by omega) (by omega), by rw [List.length_set]; exact hlen, set_known hlen (by decide) hl, hB.imp_left .inr, fun h => hQ (h.resolve_left (by decide)), fun h h' => hCl (h.resolve_left (by decide)) (fun k => h' (.inr k)), fun h h' => hOC (h.resolve_left (by decide)) (fun k => h' (.inr k))⟩
        | 14, ho =>
          cases Option.some.inj ho
          have ev : a.tmps[1]? = some (.pointer (some ⟨b1, 0, none⟩)) := by rw [ha, putAll_low A 15 1 l (by omega) (by decide)]; exact s1
          refine wp_value (w' := w') (v := .pointer (some ⟨b1, 1, none⟩)) (by simp [execOp, ev, go_sem]) ?_
          exact ⟨_, ha1, nb, hn1, hc1, by rw [ha]; exact putAll_put A 15 14 l _ (by omega) (by omega), by rw [List.length_set]; exact hlen, set_known hlen (by decide) hl, hB.imp_left .inr, fun h => hQ (h.resolve_left (by decide)), fun h h' => hCl (h.resolve_left (by decide)) (fun k => h' (.inr k)), fun h h' => hOC (h.resolve_left (by decide)) (fun k => h' (.inr k))⟩
        | 15, ho =>
          cases Option.some.inj ho
          have ev : a.tmps[29]? = some (.pointer (some ⟨b1, 1, none⟩)) := known_at ha hsz hlen hl 14 (by decide) (hd ⟨14, .data⟩ (by simp) rfl)
          have hc := ((hB.resolve_left (fun h => (fun h => (fun h => (fun h => (fun h => (fun h => hn (hcl 17 _ rfl h ⟨15, .data⟩ (by simp) rfl)) (hcl 18 _ rfl h ⟨17, .data⟩ (by simp) rfl)) (hcl 19 _ rfl h ⟨18, .data⟩ (by simp) rfl)) (hcl 20 _ rfl h ⟨19, .data⟩ (by simp) rfl)) (hcl 21 _ rfl h ⟨20, .data⟩ (by simp) rfl)) (hcl 22 _ rfl h ⟨21, .data⟩ (by simp) rfl))).cell (p := ⟨b1, 1, none⟩) (lt_of_cell y1)).trans y1
          refine wp_value (w' := w') (v := .slice (some ⟨b, off, none⟩) n cap) (by simp [execOp, ev, go_sem, hc]) ?_
          exact ⟨_, ha1, nb, hn1, hc1, by rw [ha]; exact putAll_put A 15 15 l _ (by omega) (by omega), by rw [List.length_set]; exact hlen, set_known hlen (by decide) hl, hB.imp_left .inr, fun h => hQ (h.resolve_left (by decide)), fun h h' => hCl (h.resolve_left (by decide)) (fun k => h' (.inr k)), fun h h' => hOC (h.resolve_left (by decide)) (fun k => h' (.inr k))⟩
        | 16, ho =>
          cases Option.some.inj ho
          have ev : a.tmps[4]? = some (.int .i64 (k : Int)) := by rw [ha, putAll_low A 15 4 l (by omega) (by decide)]; exact s4
          refine wp_value (w' := w') (v := .int .i64 (k : Int)) (by simp [execOp, ev, go_sem]) ?_
          exact ⟨_, ha1, nb, hn1, hc1, by rw [ha]; exact putAll_put A 15 16 l _ (by omega) (by omega), by rw [List.length_set]; exact hlen, set_known hlen (by decide) hl, hB.imp_left .inr, fun h => hQ (h.resolve_left (by decide)), fun h h' => hCl (h.resolve_left (by decide)) (fun k => h' (.inr k)), fun h h' => hOC (h.resolve_left (by decide)) (fun k => h' (.inr k))⟩
        | 17, ho =>
          cases Option.some.inj ho
          have ev : a.tmps[30]? = some (.slice (some ⟨b, off, none⟩) n cap) := known_at ha hsz hlen hl 15 (by decide) (hd ⟨15, .data⟩ (by simp) rfl)
          have ev' : a.tmps[31]? = some (.int .i64 (k : Int)) := known_at ha hsz hlen hl 16 (by decide) (hd ⟨16, .data⟩ (by simp) rfl)
          refine wp_value (w' := w') (v := .pointer (some ⟨b, off + k * 5, none⟩)) (by simp [execOp, ev, ev', go_sem, hki]) ?_
          exact ⟨_, ha1, nb, hn1, hc1, by rw [ha]; exact putAll_put A 15 17 l _ (by omega) (by omega), by rw [List.length_set]; exact hlen, set_known hlen (by decide) hl, hB.imp_left .inr, fun h => hQ (h.resolve_left (by decide)), fun h h' => hCl (h.resolve_left (by decide)) (fun k => h' (.inr k)), fun h h' => hOC (h.resolve_left (by decide)) (fun k => h' (.inr k))⟩
        | 18, ho =>
          cases Option.some.inj ho
          have ev : a.tmps[32]? = some (.pointer (some ⟨b, off + k * 5, none⟩)) := known_at ha hsz hlen hl 17 (by decide) (hd ⟨17, .data⟩ (by simp) rfl)
          refine wp_value (w' := w') (v := .pointer (some ⟨b, off + k * 5 + 2, none⟩)) (by simp [execOp, ev, go_sem]) ?_
          exact ⟨_, ha1, nb, hn1, hc1, by rw [ha]; exact putAll_put A 15 18 l _ (by omega) (by omega), by rw [List.length_set]; exact hlen, set_known hlen (by decide) hl, hB.imp_left .inr, fun h => hQ (h.resolve_left (by decide)), fun h h' => hCl (h.resolve_left (by decide)) (fun k => h' (.inr k)), fun h h' => hOC (h.resolve_left (by decide)) (fun k => h' (.inr k))⟩
        | 19, ho =>
          cases Option.some.inj ho
          have ev : a.tmps[33]? = some (.pointer (some ⟨b, off + k * 5 + 2, none⟩)) := known_at ha hsz hlen hl 18 (by decide) (hd ⟨18, .data⟩ (by simp) rfl)
          have hb := hB.resolve_left (fun h => (fun h => (fun h => hn (hcl 20 _ rfl h ⟨19, .data⟩ (by simp) rfl)) (hcl 21 _ rfl h ⟨20, .data⟩ (by simp) rfl)) (hcl 22 _ rfl h ⟨21, .data⟩ (by simp) rfl))
          have z2 := (hb.cell (p := ⟨b, off + k * 5 + 2, none⟩) (lt_of_cell c2)).trans c2
          have z3 := (hb.cell (p := ⟨b, off + k * 5 + 3, none⟩) (lt_of_cell c3)).trans c3
          have z4 := (hb.cell (p := ⟨b, off + k * 5 + 4, none⟩) (lt_of_cell c4)).trans c4
          refine wp_value (w' := w') (v := .agg #[.int .i64 cc, .slice sa sn sc, .slice ba bn bc]) (by simp [execOp, ev, go_sem, z2, z3, z4]) ?_
          exact ⟨_, ha1, nb, hn1, hc1, by rw [ha]; exact putAll_put A 15 19 l _ (by omega) (by omega), by rw [List.length_set]; exact hlen, set_known hlen (by decide) hl, hB.imp_left .inr, fun h => hQ (h.resolve_left (by decide)), fun h h' => hCl (h.resolve_left (by decide)) (fun k => h' (.inr k)), fun h h' => hOC (h.resolve_left (by decide)) (fun k => h' (.inr k))⟩
        | 20, ho =>
          cases Option.some.inj ho
          have ev : a.tmps[22]? = some (.int .i64 oo) := known_at ha hsz hlen hl 7 (by decide) (hd ⟨7, .data⟩ (by simp) rfl)
          have ev' : a.tmps[28]? = some (.bool g) := known_at ha hsz hlen hl 13 (by decide) (hd ⟨13, .data⟩ (by simp) rfl)
          have ev'' : a.tmps[34]? = some (.agg #[.int .i64 cc, .slice sa sn sc, .slice ba bn bc]) := known_at ha hsz hlen hl 19 (by decide) (hd ⟨19, .data⟩ (by simp) rfl)
          refine wp_value (w' := w') (v := .agg #[.int .i64 oo, .bool g, .int .i64 cc, .slice sa sn sc, .slice ba bn bc]) (by simp [execOp, ev, ev', ev'', go_sem]) ?_
          exact ⟨_, ha1, nb, hn1, hc1, by rw [ha]; exact putAll_put A 15 20 l _ (by omega) (by omega), by rw [List.length_set]; exact hlen, set_known hlen (by decide) hl, hB.imp_left .inr, fun h => hQ (h.resolve_left (by decide)), fun h h' => hCl (h.resolve_left (by decide)) (fun k => h' (.inr k)), fun h h' => hOC (h.resolve_left (by decide)) (fun k => h' (.inr k))⟩
        | 21, ho =>
          cases Option.some.inj ho
          have ev : a.tmps[35]? = some (.agg #[.int .i64 oo, .bool g, .int .i64 cc, .slice sa sn sc, .slice ba bn bc]) := known_at ha hsz hlen hl 20 (by decide) (hd ⟨20, .data⟩ (by simp) rfl)
          have hb := hB.resolve_left (fun h => hn (hcl 22 _ rfl h ⟨21, .data⟩ (by simp) rfl))
          refine wp_value (w' := w'.alloc (.cells #[.int .i64 oo, .bool g, .int .i64 cc, .slice sa sn sc, .slice ba bn bc] 73)) (v := .slice (some ⟨w'.heap.size, 0, none⟩) 1 1) (by simp [execOp, ev, go_sem]) ?_
          exact ⟨_, ha1, w'.heap.size, hn1, hc1, by rw [ha]; exact putAll_put A 15 21 l _ (by omega) (by omega), by rw [List.length_set]; exact hlen, set_known' (val' := takV b1 b3 b off k n cap nx cx ax oo cc g sa ba sn sc bn bc ha1 w'.heap.size hn1 hc1) hlen (by decide) hl (fun j hj hne => match j, hj, hne with | 0, _, _ => rfl | 1, _, _ => rfl | 2, _, _ => rfl | 3, _, _ => rfl | 4, _, _ => rfl | 5, _, _ => rfl | 6, _, _ => rfl | 7, _, _ => rfl | 8, _, _ => rfl | 9, _, _ => rfl | 10, _, _ => rfl | 11, _, _ => rfl | 12, _, _ => rfl | 13, _, _ => rfl | 14, _, _ => rfl | 15, _, _ => rfl | 16, _, _ => rfl | 17, _, _ => rfl | 18, _, _ => rfl | 19, _, _ => rfl | 20, _, _ => rfl | 21, _, hne => absurd rfl hne | 22, _, _ => rfl | 23, _, _ => rfl | j + 24, _, _ => rfl), hB.imp .inr (fun h => below_size h h.size box_below), fun h => absurd (h.resolve_left (by decide)) (fun h => (fun h => hn (hcl 22 _ rfl h ⟨21, .data⟩ (by simp) rfl)) (hcl 24 _ rfl h ⟨22, .data⟩ (by simp) rfl)), fun _ _ => lit_cells (y := (⟨⟨oo, g, cc, vs, bs⟩, sa, sn, sc, ba, bn, bc⟩ : Cs)), fun h _ => absurd (h.resolve_left (by decide)) (fun h => hn (hcl 22 _ rfl h ⟨21, .data⟩ (by simp) rfl))⟩
        | 22, ho =>
          cases Option.some.inj ho
          have ev : a.tmps[16]? = some (.slice ax nx cx) := known_at ha hsz hlen hl 1 (by decide) (hd ⟨1, .data⟩ (by simp) rfl)
          have ev' : a.tmps[36]? = some (.slice (some ⟨nb, 0, none⟩) 1 1) := known_at ha hsz hlen hl 21 (by decide) (hd ⟨21, .data⟩ (by simp) rfl)
          have hb := hB.resolve_left hn
          have Cl1 := hCl (hd ⟨21, .data⟩ (by simp) rfl) hn
          have hz := Nat.le_trans hN hb.size
          refine app_ch Try.underlying27 Try.info73 w' (.tmp 16) (.tmp 36) rfl N _ _ (eval_some ev) (OC.below hb) nb (⟨⟨oo, g, cc, vs, bs⟩, sa, sn, sc, ba, bn, bc⟩ : Cs) (eval_some ev') Cl1 (EL.below hb) (by decide) (by decide) hox (by rw [List.length_take]; omega) hz ?_
          intro ha' hn' hc' w6 OC6 HG
          exact ⟨_, ha', nb, hn', hc', by rw [ha]; exact putAll_put A 15 22 l _ (by omega) (by omega), by rw [List.length_set]; exact hlen, set_known' (val' := takV b1 b3 b off k n cap nx cx ax oo cc g sa ba sn sc bn bc ha' nb hn' hc') hlen (by decide) hl (fun j hj hne => match j, hj, hne with | 0, _, _ => rfl | 1, _, _ => rfl | 2, _, _ => rfl | 3, _, _ => rfl | 4, _, _ => rfl | 5, _, _ => rfl | 6, _, _ => rfl | 7, _, _ => rfl | 8, _, _ => rfl | 9, _, _ => rfl | 10, _, _ => rfl | 11, _, _ => rfl | 12, _, _ => rfl | 13, _, _ => rfl | 14, _, _ => rfl | 15, _, _ => rfl | 16, _, _ => rfl | 17, _, _ => rfl | 18, _, _ => rfl | 19, _, _ => rfl | 20, _, _ => rfl | 21, _, _ => rfl | 22, _, hne => absurd rfl hne | 23, _, _ => rfl | j + 24, _, _ => rfl), .inl (.inl rfl), fun h => absurd (h.resolve_left (by decide)) (fun h => hn (hcl 24 _ rfl h ⟨22, .data⟩ (by simp) rfl)), fun _ h' => absurd (.inl rfl) h', fun _ _ => ⟨OC6, (hb.mono hN).trans ((Below.refl N w').grown HG hz (fun j hj => by obtain ⟨ss, h1, _⟩ := OC.below hb; exact (own_block h1 hj).1))⟩⟩
        | 23, ho =>
          cases Option.some.inj ho
          have ev : a.tmps[3]? = some (.pointer (some ⟨b3, 0, none⟩)) := by rw [ha, putAll_low A 15 3 l (by omega) (by decide)]; exact s3
          refine wp_value (w' := w') (v := .pointer (some ⟨b3, 1, none⟩)) (by simp [execOp, ev, go_sem]) ?_
          exact ⟨_, ha1, nb, hn1, hc1, by rw [ha]; exact putAll_put A 15 23 l _ (by omega) (by omega), by rw [List.length_set]; exact hlen, set_known hlen (by decide) hl, hB.imp_left .inr, fun h => hQ (h.resolve_left (by decide)), fun h h' => hCl (h.resolve_left (by decide)) (fun k => h' (.inr k)), fun h h' => hOC (h.resolve_left (by decide)) (fun k => h' (.inr k))⟩
        | 24, ho =>
          cases Option.some.inj ho
          have ev : a.tmps[38]? = some (.pointer (some ⟨b3, 1, none⟩)) := known_at ha hsz hlen hl 23 (by decide) (hd ⟨23, .data⟩ (by simp) rfl)
          have ev' : a.tmps[37]? = some (.slice ha1 hn1 hc1) := known_at ha hsz hlen hl 22 (by decide) (hd ⟨22, .data⟩ (by simp) rfl)
          obtain ⟨OC6, B6⟩ := hOC (hd ⟨22, .data⟩ (by simp) rfl) hn
          have E6 := (B6.block b3 hb3).trans E3
          obtain ⟨z0, z1⟩ := rec_cells E6
          have zf1 := rec_frozen E6 1
          refine wp_skip (w' := w'.setCell ⟨b3, 1, none⟩ (.slice ha1 hn1 hc1)) (by simp [execOp, Act.eval, ev, ev', go_sem, z1, zf1]) ?_
          exact ⟨l, ha1, nb, hn1, hc1, ha, hlen, fun j hj h => hl j hj (h.resolve_left (by omega)), .inl (.inr (hd ⟨22, .data⟩ (by simp) rfl)), fun _ => ⟨rec_set1 E6 _, OC6.set E6 (by decide) (by decide) (by decide), (FrN.of B6).trans FrN.set⟩, fun _ h' => absurd (Or.inr (hd ⟨22, .data⟩ (by simp) rfl)) h', fun _ h' => absurd (.inl rfl) h'⟩
        | i + 25, ho => simp at ho
      case done =>
        rintro D a w' ⟨l, ha1, nb, hn1, hc1, ha, hlen, hl, hB, hQ, hCl, hOC⟩ hall
        obtain ⟨v0, v1, v2, v3, v4, v5, v6, v7, v8, v9, v10, v11, v12, v13, v14, v15, v16, v17, v18, v19, v20, v21, v22, v23, rfl⟩ := takV_list hlen
        obtain ⟨E9, OC9, F9⟩ := hQ (hall 24 (by decide))
        subst hA
        have hfr : a = _ := ha
        rw [hfr]
        clear hfr ha
        simp only [putAll, List.take_succ_cons, List.take_zero, List.drop_succ_cons, List.drop_zero, List.cons_append, List.nil_append, List.length_cons, List.length_nil]
        clear hl hB hQ hCl hOC hall
        have F10 := F.trans F9
        rw [← hsnoc.out] at OC9
        clear c0 c1 c2 c3 c4 EL y0 y1 x0 x1 E3 OC F F9
        go_wp2_with fail
        go_roundw
        case rel => exact ⟨k + 1, _, by omega, by go_num, E9, OC9, F10⟩
        case measure => simp [intOf]; omega
    · have hki : ¬ (k : Int) < (n : Int) := by omega
      rw [List.take_of_length_le (by omega)] at OC
      have E2r := (F.block b2 (by have h1 := hN0.out; omega) h23).trans E2
      obtain ⟨x0, x1⟩ := rec_cells E3
      obtain ⟨t0, t1⟩ := rec_cells E2r
      have tf := rec_frozen E2r
      have E9 := rec_set01 E2r c (.slice ax nx cx)
      have OC9 := (OC.set (i := 0) (x := .int .i64 c) E2r (by decide) (by decide) (by decide)).set (i := 1) (x := .slice ax nx cx) (rec_set0 E2r c) (by decide) (by decide) (by decide)
      have B9 := below_setCell (i := 1) (x := .slice ax nx cx) (below_setCell (i := 0) (x := .int .i64 c) Bw l2) l2
      clear OC
      go_wp2
      exact bodyPost_ret (v := .agg #[.int .i64 c, .slice ax nx cx]) (results_cell Try.results14 rfl (load29 E9)) rfl ⟨ax, nx, cx, rfl, OC9.mono (Nat.le_trans N0 (Nat.le_of_eq hN0.out.symm)), B9⟩
end Go.Proofs.Ytajdelinfkodbaa
