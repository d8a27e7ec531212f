/- given, and All: the rows of what comes out are new. -/
import Derived.Test.YtajdelinfkodbaaGvn
namespace Go.Proofs.Ytajdelinfkodbaa
open Go.RowKit
set_option maxRecDepth 100000
/-- A change's slots and bytes are rows above a place. -/
structure ElB (n : Nat) (w : World) (s : Cs) : Prop where
  cls : -9223372036854775808 ≤ s.x.cls ∧ s.x.cls ≤ 9223372036854775807
  v : OwnV w n (.slice s.sa s.sn s.sc) s.x.vs
  b : OwnB w n (.slice s.ba s.bn s.bc) s.x.bs
theorem ElB.el {n : Nat} {w : World} {s : Cs} (h : ElB n w s) : El w s := ⟨h.cls, ⟨_, h.v⟩, ⟨_, h.b⟩⟩
theorem ElB.below {n : Nat} {w w' : World} {s : Cs} (h : ElB n w s) (hb : Below w.heap.size w w') : ElB n w' s := ⟨h.cls, h.v.below hb, h.b.below hb⟩
theorem ElB.mono {n m : Nat} {w : World} {s : Cs} (h : ElB n w s) (hm : m ≤ n) : ElB m w s := ⟨h.cls, h.v.mono hm, h.b.mono hm⟩
theorem ElB.same {n : Nat} {w w' : World} {s : Cs} (h : ElB n w s) (hk : ∀ (g : Nat) (cur : Array Value) (e : Nat), (e = 84 ∨ e = 5) → w.heap[g]? = some (Obj.cells cur e (0, 0)) → w'.heap[g]? = w.heap[g]?) : ElB n w' s :=
  ⟨h.cls, ownV_of (own_same h.v.1 (fun g hg => by obtain ⟨_, cur, hc⟩ := own_block h.v.1 hg; exact hk g cur 84 (.inl rfl) hc)) h.v.isV.wf, ownB_of (own_same h.b.1 (fun g hg => by obtain ⟨_, cur, hc⟩ := own_block h.b.1 hg; exact hk g cur 5 (.inr rfl) hc)) h.b.byte⟩
def OwnE (w : World) (base t : Nat) (v : Value) (xs : List Ch) : Prop := ∃ ss : List Cs, w.ownsRow base t 5 v ss.length (flatC ss) ∧ ss.map Cs.x = xs ∧ (∀ s ∈ ss, ElB base w s) ∧ ∀ x ∈ xs, -9223372036854775808 ≤ x.oop ∧ x.oop ≤ 9223372036854775807
theorem OwnE.ownC {w : World} {base t : Nat} {v : Value} {xs : List Ch} (h : OwnE w base t v xs) : OwnC w base t v xs := by
  obtain ⟨ss, h1, h2, h3, h4⟩ := h
  exact ⟨ss, h1, h2, fun s hs => (h3 s hs).el, h4⟩
theorem ownE_nil (w : World) (base t : Nat) : OwnE w base t (.slice none 0 0) [] := ⟨[], World.ownsRow_nil _ _ _ _, rfl, by simp, by simp⟩
theorem OwnE.shape' {w : World} {base t : Nat} {v : Value} {xs : List Ch} (h : OwnE w base t v xs) : ∃ a n c, v = .slice a n c ∧ n = xs.length := by
  obtain ⟨ss, h1, rfl, _⟩ := h
  rcases h1.2 with ⟨rfl, h0⟩ | ⟨g, cap, cur, rfl, _⟩
  · exact ⟨none, 0, 0, rfl, by rw [List.length_map, h0]⟩
  · exact ⟨_, _, _, rfl, by rw [List.length_map]⟩
theorem OwnE.below {w w' : World} {base t : Nat} {v : Value} {xs : List Ch} (h : OwnE w base t v xs) (hb : Below w.heap.size w w') : OwnE w' base t v xs := by
  obtain ⟨ss, h1, h2, h3, h4⟩ := h
  exact ⟨ss, own_below h1 hb, h2, fun s hs => (h3 s hs).below hb, h4⟩
theorem app_chE {t e : Nat} (ht : Try.prog.underlying t = some (.slice e)) (hinfo : (Try.prog.info? e).map (fun i => (i.zero, i.size, i.bytes)) = some (some (.agg #[.int .i64 0, .bool false, .int .i64 0, .slice none 0 0, .slice none 0 0]), 5, 72))
    {o : Oper} {a : Act} {K : Act → World → Prop} {Q : Exit → Act → World → Prop} (w : World) (s x : Operand)
    (ho : o.op = .call { callee := .builtin .append, args := #[s, x], argTypes := #[t, t] })
    (base : Nat) (v : Value) (xs : List Ch) (hs : a.eval s = v) (hown : OwnE w base e v xs)
    (b : Nat) (y : Cs) (hx : a.eval x = .slice (some ⟨b, 0, none⟩) 1 1) (hc : ∀ j v, y.cells[j]? = some v → w.cell? ⟨b, j, none⟩ = some v) (hy : ElB base w y) (h23 : e ≠ 84) (h5 : e ≠ 5) (hyo : -9223372036854775808 ≤ y.x.oop ∧ y.x.oop ≤ 9223372036854775807)
    (h47 : xs.length ≤ 1954687338265) (hbase : base ≤ w.heap.size)
    (h : ∀ a' n' c' w', OwnE w' base e (.slice a' n' c') (xs ++ [y.x]) → w.grownBy w' v.ownBlock → K (a.put o.dst (.slice a' n' c')) w') : o.wp Try.prog a w K Q := by
  obtain ⟨i0, hi, hz0, hz1, hz2⟩ := info_parts hinfo
  obtain ⟨ss, h1, h2, h3, h4⟩ := hown
  have hl : ss.length = xs.length := by rw [← h2, List.length_map]
  refine wp_append_own w s x t ho base e i0 (.agg #[.int .i64 0, .bool false, .int .i64 0, .slice none 0 0, .slice none 0 0]) 5 72 ht hi hz0 hz1 hz2 rfl (by decide) _ ss.length _ hs h1 ⟨b, 0, none⟩ 1 1 (flatC [y]) hx rfl (cell_at rfl hc) (flatC_one _) (by unfold maxLen; omega) (by omega) hbase ?_
  intro v' w' hown' hgrow _
  rw [← flatC_app] at hown'
  have hown2 : w'.ownsRow base e 5 v' (ss ++ [y]).length (flatC (ss ++ [y])) := by rw [List.length_append]; exact hown'
  obtain ⟨a', n', c', hv⟩ : ∃ a n c, v' = .slice a n c := by
    rcases hown2.2 with ⟨rfl, h0⟩ | ⟨g, cap, cur, rfl, _⟩
    · exact ⟨none, 0, 0, rfl⟩
    · exact ⟨_, _, _, rfl⟩
  subst hv
  have hsame : ∀ s : Cs, ElB base w s → ElB base w' s := fun s hs => hs.same fun g cur e' he hg => hgrow.block g (lt_of_block hg) (fun k => own_ne h1 hg (by rcases he with rfl | rfl <;> omega) k.symm)
  refine h a' n' c' w' ⟨ss ++ [y], hown2, by rw [List.map_append, h2]; rfl, fun s hs => ?_, fun z hz => ?_⟩ hgrow
  · rcases List.mem_append.1 hs with hs | hs
    · exact hsame s (h3 s hs)
    · rw [List.mem_singleton] at hs
      subst hs
      exact hsame _ hy
  · rcases List.mem_append.1 hz with hz | hz
    · exact h4 z hz
    · rw [List.mem_singleton] at hz
      subst hz
      exact hyo
theorem OwnE.set {w : World} {base e b i t : Nat} {v x : Value} {xs : List Ch} {c : Array Value} (h : OwnE w base e v xs) (hb : w.heap[b]? = some (.cells c t (0, 0))) (h1 : t ≠ e) (h2 : t ≠ 84) (h3 : t ≠ 5) : OwnE (w.setCell ⟨b, i, none⟩ x) base e v xs := by
  obtain ⟨ss, k1, k2, k3, k4⟩ := h
  refine ⟨ss, own_setCell k1 hb h1, k2, fun s hs => (k3 s hs).same fun g cur e' he hg => heap_setCell_other _ _ _ _ ?_, k4⟩
  rintro rfl
  rw [hb] at hg
  have := cells_ty hg
  omega
theorem OwnE.mono {w : World} {b b' e : Nat} {v : Value} {xs : List Ch} (h : OwnE w b' e v xs) (hb : b ≤ b') : OwnE w b e v xs := by
  obtain ⟨ss, k1, k2, k3, k4⟩ := h
  exact ⟨ss, own_mono k1 hb, k2, fun s hs => (k3 s hs).mono hb, k4⟩
def GivE (w : World) (c : Int) (xs : List Ch) (e : Ending) (w' : World) : Prop := ∃ a n cap, e = .returned (.agg #[.int .i64 c, .slice a n cap]) ∧ OwnE w' w.heap.size 51 (.slice a n cap) xs ∧ Below w.heap.size w w'
set_option maxHeartbeats 8000000 in
theorem given_anyE {w : World} (c : Int) {a : Option Addr} {n cap : Nat} {xs : List Ch} (h : IsC w a n cap xs) (hnn : n ≤ 1954687338264) (hpart : ∀ x ∈ xs, x.vs.length ≤ 8796093022208 ∧ x.bs.length ≤ 140737488355328) :
    Calls Try.prog 10 #[.agg #[.int .i64 c, .slice a n cap]] w fun e w' => GivE w c xs e w' := by
  have hsz := h.size
  have E1 : (((w.alloc (recB c (.slice a n cap) 29)).alloc (recB 0 (.slice none 0 0) 38)).alloc (recB c (.slice none 0 0) 38)).heap[w.heap.size]? = some (recB c (.slice a n cap) 29) := old1 (old1 (new1 _ _) _) _
  have E2 : (((w.alloc (recB c (.slice a n cap) 29)).alloc (recB 0 (.slice none 0 0) 38)).alloc (recB c (.slice none 0 0) 38)).heap[w.heap.size + 1]? = some (recB 0 (.slice none 0 0) 38) := old1 (new2 _ _ _) _
  have E3 : (((w.alloc (recB c (.slice a n cap) 29)).alloc (recB 0 (.slice none 0 0) 38)).alloc (recB c (.slice none 0 0) 38)).heap[w.heap.size + 1 + 1]? = some (recB c (.slice none 0 0) 38) := new3 _ _ _ _
  have B3 : Below w.heap.size w (((w.alloc (recB c (.slice a n cap) 29)).alloc (recB 0 (.slice none 0 0) 38)).alloc (recB c (.slice none 0 0) 38)) := below_size (below_size box_below box_below.size box_below) (by simp; omega) box_below
  go_enter Try.func10, Try.ntmps10
  unfold recB at E1 E2 E3 B3
  go_wp2
  generalize ((w.alloc (.cells #[.int .i64 c, .slice a n cap] 29)).alloc (.cells #[.int .i64 0, .slice none 0 0] 38)).alloc (.cells #[.int .i64 c, .slice none 0 0] 38) = w3 at *
  have l3 : w.heap.size ≤ w.heap.size + 1 + 1 := by omega
  have l2 : w.heap.size ≤ w.heap.size + 1 := by omega
  have h13 : w.heap.size ≠ w.heap.size + 1 + 1 := by omega
  have h23 : w.heap.size + 1 ≠ w.heap.size + 1 + 1 := by omega
  generalize w.heap.size + 1 + 1 = b3 at *
  generalize w.heap.size + 1 = b2 at *
  obtain ⟨b1, hb1⟩ : ∃ b, b = w.heap.size := ⟨_, rfl⟩
  rw [← hb1] at E1 h13 ⊢
  clear hb1
  replace E1 : w3.heap[b1]? = some (recB c (.slice a n cap) 29) := E1
  replace E2 : w3.heap[b2]? = some (recB 0 (.slice none 0 0) 38) := E2
  replace E3 : w3.heap[b3]? = some (recB c (.slice none 0 0) 38) := E3
  have q1 := lt_of_block E1
  have q2 := lt_of_block E2
  have q3 := lt_of_block E3
  have N0 := B3.size
  obtain ⟨N, hN0⟩ : ∃ N, Hid (N = w3.heap.size) := ⟨_, rfl⟩
  go_loopw [4] (fun iv wr => ∃ (k : Nat) (sv : Value), k ≤ n ∧ iv = .int .i64 (k : Int) ∧ wr.heap[b3]? = some (recB c sv 38) ∧ OwnE wr N 51 sv (xs.take k) ∧ FrN N b3 w3 wr) (fun iv _ => n - (intOf iv).toNat)
  case atStart => exact ⟨0, _, by omega, rfl, E3, by simpa using ownE_nil _ _ _, FrN.refl _ _ _⟩
  case round =>
    clear E3
    obtain ⟨k, sv, hk, rfl, E3, OC, F⟩ := hrel
    obtain ⟨ax, nx, cx, rfl, _⟩ := OC.shape'
    rename_i hnx
    clear hnx
    have hNw : N ≤ wr.heap.size := by have h1 := hN0.out; have h2 := F.size; omega
    have E1r := (F.block b1 (by have h1 := hN0.out; omega) h13).trans E1
    have Bw := F.below B3 (by have h1 := hN0.out; omega) l3
    obtain ⟨y0, y1⟩ := rec_cells E1r
    by_cases hlt : k < n
    · have hki : (k : Int) < (n : Int) := by omega
      obtain ⟨b, off, x, rfl, hbl, hx, hcx, hox⟩ := (h.below Bw).at_ k hlt
      have hpx := hpart x (List.mem_of_getElem? hx.out)
      have hsnoc : Hid (xs.take (k + 1) = xs.take k ++ [x]) := take_at hx.out
      obtain ⟨oo, g, cc, vs, bs⟩ := x
      obtain ⟨sa, sn, sc, ba, bn, bc, c0, c1, c2, c3, c4, io⟩ := hcx
      simp only at c0 c1 c2 io hox hpx
      have hsn : sn ≤ 8796093022208 := by have := io.v.size; omega
      have hbn : bn ≤ 140737488355328 := by have := io.b.size; omega
      obtain ⟨x0, x1⟩ := rec_cells E3
      have hb3 : b3 < N := by have h1 := hN0.out; omega
      have hN := hNw
      go_upto_region 5 with fail
      refine abstract_act fun A hA => ?_
      have hsz : A.tmps.size = 41 := by rw [hA]; rfl
      have s1 : A.tmps[1]? = some (.pointer (some ⟨b1, 0, none⟩)) := by rw [hA]; rfl
      have s3 : A.tmps[3]? = some (.pointer (some ⟨b3, 0, none⟩)) := by rw [hA]; rfl
      have s4 : A.tmps[4]? = some (.int .i64 (k : Int)) := by rw [hA]; rfl
      refine wp_region_inv' (fun A D a w' => ∃ (l : List Value) (ga : Option Addr) (qa : Option Addr) (ha1 : Option Addr) (gn : Nat) (gc : Nat) (qn : Nat) (qc : Nat) (nb : Nat) (hn1 : Nat) (hc1 : Nat), a = putAll A 15 l ∧ l.length = 25 ∧ (∀ j, j < 25 → D j → l[j]? = some (givV b1 b3 b off k n cap nx cx ax oo cc g sa ba sn sc bn bc ga qa ha1 gn gc qn qc nb hn1 hc1 j)) ∧ (D 23 ∨ Below wr.heap.size wr w') ∧ (D 25 → w'.heap[b3]? = some (recB c (.slice ha1 hn1 hc1) 38) ∧ OwnE w' N 51 (.slice ha1 hn1 hc1) (xs.take k ++ [⟨oo, g, cc, vs, bs⟩]) ∧ FrN N b3 wr w') ∧ (D 20 → ¬ D 23 → ElB N w' (⟨⟨oo, g, cc, vs, bs⟩, ga, gn, gc, qa, qn, qc⟩ : Cs)) ∧ (D 22 → ¬ D 23 → ∀ (j : Nat) (v : Value), (⟨⟨oo, g, cc, vs, bs⟩, ga, gn, gc, qa, qn, qc⟩ : Cs).cells[j]? = some v → w'.cell? ⟨nb, j, none⟩ = some v) ∧ (D 23 → ¬ D 25 → OwnE w' N 51 (.slice ha1 hn1 hc1) (xs.take k ++ [⟨oo, g, cc, vs, bs⟩]) ∧ Below N wr w')) (by kernel_rfl) (by kernel_rfl) ?mono ?start ?step ?done
      case mono =>
        rintro D D' a w' hD ⟨l, ga, qa, ha1, gn, gc, qn, qc, nb, hn1, hc1, ha, hlen, hl, hB, hQ, hEl, hCl, hOC⟩
        exact ⟨l, ga, qa, ha1, gn, gc, qn, qc, nb, hn1, hc1, ha, hlen, fun j hj h => hl j hj ((hD j).2 h), hB.imp_left (hD 23).1, fun h => hQ ((hD 25).2 h), fun h h' => hEl ((hD 20).2 h) (fun k => h' ((hD 23).1 k)), fun h h' => hCl ((hD 22).2 h) (fun k => h' ((hD 23).1 k)), fun h h' => hOC ((hD 23).2 h) (fun k => h' ((hD 25).1 k))⟩
      case start => exact ⟨_, none, none, none, 0, 0, 0, 0, 0, 0, 0, (putAll_start A 15 25 (by omega)).1, (putAll_start A 15 25 (by omega)).2, fun _ _ h => h.elim, .inr ((Below.refl _ _).drew), fun h => h.elim, fun h _ => h.elim, fun h _ => h.elim, fun h _ => h.elim⟩
      case step =>
        clear hA
        intro i o ho D a w' hI hn hcl hd
        obtain ⟨l, ga, qa, ha1, gn, gc, qn, qc, nb, hn1, hc1, ha, hlen, hl, hB, hQ, hEl, hCl, hOC⟩ := hI
        match i, ho with
        | 0, ho =>
          cases Option.some.inj ho
          have ev : a.tmps[3]? = some (.pointer (some ⟨b3, 0, none⟩)) := by rw [ha, putAll_low A 15 3 l (by omega) (by decide)]; exact s3
          refine wp_value (w' := w') (v := .pointer (some ⟨b3, 1, none⟩)) (by simp [execOp, ev, go_sem]) ?_
          exact ⟨_, ga, qa, ha1, gn, gc, qn, qc, nb, hn1, hc1, by rw [ha]; exact putAll_put A 15 0 l _ (by omega) (by omega), by rw [List.length_set]; exact hlen, set_known hlen (by decide) hl, hB.imp_left .inr, fun h => hQ (h.resolve_left (by decide)), fun h h' => hEl (h.resolve_left (by decide)) (fun k => h' (.inr k)), fun h h' => hCl (h.resolve_left (by decide)) (fun k => h' (.inr k)), fun h h' => hOC (h.resolve_left (by decide)) (fun k => h' (.inr k))⟩
        | 1, ho =>
          cases Option.some.inj ho
          have ev : a.tmps[15]? = some (.pointer (some ⟨b3, 1, none⟩)) := known_at ha hsz hlen hl 0 (by decide) (hd ⟨0, .data⟩ (by simp) rfl)
          have hc := ((hB.resolve_left (fun h => hn (hcl 23 _ rfl h ⟨1, .data⟩ (by simp) rfl))).cell (p := ⟨b3, 1, none⟩) (lt_of_cell x1)).trans x1
          refine wp_value (w' := w') (v := .slice ax nx cx) (by simp [execOp, ev, go_sem, hc]) ?_
          exact ⟨_, ga, qa, ha1, gn, gc, qn, qc, nb, hn1, hc1, by rw [ha]; exact putAll_put A 15 1 l _ (by omega) (by omega), by rw [List.length_set]; exact hlen, set_known hlen (by decide) hl, hB.imp_left .inr, fun h => hQ (h.resolve_left (by decide)), fun h h' => hEl (h.resolve_left (by decide)) (fun k => h' (.inr k)), fun h h' => hCl (h.resolve_left (by decide)) (fun k => h' (.inr k)), fun h h' => hOC (h.resolve_left (by decide)) (fun k => h' (.inr k))⟩
        | 2, ho =>
          cases Option.some.inj ho
          have ev : a.tmps[1]? = some (.pointer (some ⟨b1, 0, none⟩)) := by rw [ha, putAll_low A 15 1 l (by omega) (by decide)]; exact s1
          refine wp_value (w' := w') (v := .pointer (some ⟨b1, 1, none⟩)) (by simp [execOp, ev, go_sem]) ?_
          exact ⟨_, ga, qa, ha1, gn, gc, qn, qc, nb, hn1, hc1, by rw [ha]; exact putAll_put A 15 2 l _ (by omega) (by omega), by rw [List.length_set]; exact hlen, set_known hlen (by decide) hl, hB.imp_left .inr, fun h => hQ (h.resolve_left (by decide)), fun h h' => hEl (h.resolve_left (by decide)) (fun k => h' (.inr k)), fun h h' => hCl (h.resolve_left (by decide)) (fun k => h' (.inr k)), fun h h' => hOC (h.resolve_left (by decide)) (fun k => h' (.inr k))⟩
        | 3, ho =>
          cases Option.some.inj ho
          have ev : a.tmps[17]? = some (.pointer (some ⟨b1, 1, none⟩)) := known_at ha hsz hlen hl 2 (by decide) (hd ⟨2, .data⟩ (by simp) rfl)
          have hc := ((hB.resolve_left (fun h => (fun h => (fun h => (fun h => (fun h => (fun h => hn (hcl 5 _ rfl h ⟨3, .data⟩ (by simp) rfl)) (hcl 6 _ rfl h ⟨5, .data⟩ (by simp) rfl)) (hcl 7 _ rfl h ⟨6, .data⟩ (by simp) rfl)) (hcl 21 _ rfl h ⟨7, .data⟩ (by simp) rfl)) (hcl 22 _ rfl h ⟨21, .data⟩ (by simp) rfl)) (hcl 23 _ rfl h ⟨22, .data⟩ (by simp) rfl))).cell (p := ⟨b1, 1, none⟩) (lt_of_cell y1)).trans y1
          refine wp_value (w' := w') (v := .slice (some ⟨b, off, none⟩) n cap) (by simp [execOp, ev, go_sem, hc]) ?_
          exact ⟨_, ga, qa, ha1, gn, gc, qn, qc, nb, hn1, hc1, by rw [ha]; exact putAll_put A 15 3 l _ (by omega) (by omega), by rw [List.length_set]; exact hlen, set_known hlen (by decide) hl, hB.imp_left .inr, fun h => hQ (h.resolve_left (by decide)), fun h h' => hEl (h.resolve_left (by decide)) (fun k => h' (.inr k)), fun h h' => hCl (h.resolve_left (by decide)) (fun k => h' (.inr k)), fun h h' => hOC (h.resolve_left (by decide)) (fun k => h' (.inr k))⟩
        | 4, ho =>
          cases Option.some.inj ho
          have ev : a.tmps[4]? = some (.int .i64 (k : Int)) := by rw [ha, putAll_low A 15 4 l (by omega) (by decide)]; exact s4
          refine wp_value (w' := w') (v := .int .i64 (k : Int)) (by simp [execOp, ev, go_sem]) ?_
          exact ⟨_, ga, qa, ha1, gn, gc, qn, qc, nb, hn1, hc1, by rw [ha]; exact putAll_put A 15 4 l _ (by omega) (by omega), by rw [List.length_set]; exact hlen, set_known hlen (by decide) hl, hB.imp_left .inr, fun h => hQ (h.resolve_left (by decide)), fun h h' => hEl (h.resolve_left (by decide)) (fun k => h' (.inr k)), fun h h' => hCl (h.resolve_left (by decide)) (fun k => h' (.inr k)), fun h h' => hOC (h.resolve_left (by decide)) (fun k => h' (.inr k))⟩
        | 5, ho =>
          cases Option.some.inj ho
          have ev : a.tmps[18]? = some (.slice (some ⟨b, off, none⟩) n cap) := known_at ha hsz hlen hl 3 (by decide) (hd ⟨3, .data⟩ (by simp) rfl)
          have ev' : a.tmps[19]? = some (.int .i64 (k : Int)) := known_at ha hsz hlen hl 4 (by decide) (hd ⟨4, .data⟩ (by simp) rfl)
          refine wp_value (w' := w') (v := .pointer (some ⟨b, off + k * 5, none⟩)) (by simp [execOp, ev, ev', go_sem, hki]) ?_
          exact ⟨_, ga, qa, ha1, gn, gc, qn, qc, nb, hn1, hc1, by rw [ha]; exact putAll_put A 15 5 l _ (by omega) (by omega), by rw [List.length_set]; exact hlen, set_known hlen (by decide) hl, hB.imp_left .inr, fun h => hQ (h.resolve_left (by decide)), fun h h' => hEl (h.resolve_left (by decide)) (fun k => h' (.inr k)), fun h h' => hCl (h.resolve_left (by decide)) (fun k => h' (.inr k)), fun h h' => hOC (h.resolve_left (by decide)) (fun k => h' (.inr k))⟩
        | 6, ho =>
          cases Option.some.inj ho
          have ev : a.tmps[20]? = some (.pointer (some ⟨b, off + k * 5, none⟩)) := known_at ha hsz hlen hl 5 (by decide) (hd ⟨5, .data⟩ (by simp) rfl)
          refine wp_value (w' := w') (v := .pointer (some ⟨b, off + k * 5, none⟩)) (by simp [execOp, ev, go_sem]) ?_
          exact ⟨_, ga, qa, ha1, gn, gc, qn, qc, nb, hn1, hc1, by rw [ha]; exact putAll_put A 15 6 l _ (by omega) (by omega), by rw [List.length_set]; exact hlen, set_known hlen (by decide) hl, hB.imp_left .inr, fun h => hQ (h.resolve_left (by decide)), fun h h' => hEl (h.resolve_left (by decide)) (fun k => h' (.inr k)), fun h h' => hCl (h.resolve_left (by decide)) (fun k => h' (.inr k)), fun h h' => hOC (h.resolve_left (by decide)) (fun k => h' (.inr k))⟩
        | 7, ho =>
          cases Option.some.inj ho
          have ev : a.tmps[21]? = some (.pointer (some ⟨b, off + k * 5, none⟩)) := known_at ha hsz hlen hl 6 (by decide) (hd ⟨6, .data⟩ (by simp) rfl)
          have hc := ((hB.resolve_left (fun h => (fun h => (fun h => hn (hcl 21 _ rfl h ⟨7, .data⟩ (by simp) rfl)) (hcl 22 _ rfl h ⟨21, .data⟩ (by simp) rfl)) (hcl 23 _ rfl h ⟨22, .data⟩ (by simp) rfl))).cell (p := ⟨b, off + k * 5, none⟩) (lt_of_cell c0)).trans c0
          refine wp_value (w' := w') (v := .int .i64 oo) (by simp [execOp, ev, go_sem, hc]) ?_
          exact ⟨_, ga, qa, ha1, gn, gc, qn, qc, nb, hn1, hc1, by rw [ha]; exact putAll_put A 15 7 l _ (by omega) (by omega), by rw [List.length_set]; exact hlen, set_known hlen (by decide) hl, hB.imp_left .inr, fun h => hQ (h.resolve_left (by decide)), fun h h' => hEl (h.resolve_left (by decide)) (fun k => h' (.inr k)), fun h h' => hCl (h.resolve_left (by decide)) (fun k => h' (.inr k)), fun h h' => hOC (h.resolve_left (by decide)) (fun k => h' (.inr k))⟩
        | 8, ho =>
          cases Option.some.inj ho
          have ev : a.tmps[1]? = some (.pointer (some ⟨b1, 0, none⟩)) := by rw [ha, putAll_low A 15 1 l (by omega) (by decide)]; exact s1
          refine wp_value (w' := w') (v := .pointer (some ⟨b1, 1, none⟩)) (by simp [execOp, ev, go_sem]) ?_
          exact ⟨_, ga, qa, ha1, gn, gc, qn, qc, nb, hn1, hc1, by rw [ha]; exact putAll_put A 15 8 l _ (by omega) (by omega), by rw [List.length_set]; exact hlen, set_known hlen (by decide) hl, hB.imp_left .inr, fun h => hQ (h.resolve_left (by decide)), fun h h' => hEl (h.resolve_left (by decide)) (fun k => h' (.inr k)), fun h h' => hCl (h.resolve_left (by decide)) (fun k => h' (.inr k)), fun h h' => hOC (h.resolve_left (by decide)) (fun k => h' (.inr k))⟩
        | 9, ho =>
          cases Option.some.inj ho
          have ev : a.tmps[23]? = some (.pointer (some ⟨b1, 1, none⟩)) := known_at ha hsz hlen hl 8 (by decide) (hd ⟨8, .data⟩ (by simp) rfl)
          have hc := ((hB.resolve_left (fun h => (fun h => (fun h => (fun h => (fun h => (fun h => hn (hcl 11 _ rfl h ⟨9, .data⟩ (by simp) rfl)) (hcl 12 _ rfl h ⟨11, .data⟩ (by simp) rfl)) (hcl 13 _ rfl h ⟨12, .data⟩ (by simp) rfl)) (hcl 21 _ rfl h ⟨13, .data⟩ (by simp) rfl)) (hcl 22 _ rfl h ⟨21, .data⟩ (by simp) rfl)) (hcl 23 _ rfl h ⟨22, .data⟩ (by simp) rfl))).cell (p := ⟨b1, 1, none⟩) (lt_of_cell y1)).trans y1
          refine wp_value (w' := w') (v := .slice (some ⟨b, off, none⟩) n cap) (by simp [execOp, ev, go_sem, hc]) ?_
          exact ⟨_, ga, qa, ha1, gn, gc, qn, qc, nb, hn1, hc1, by rw [ha]; exact putAll_put A 15 9 l _ (by omega) (by omega), by rw [List.length_set]; exact hlen, set_known hlen (by decide) hl, hB.imp_left .inr, fun h => hQ (h.resolve_left (by decide)), fun h h' => hEl (h.resolve_left (by decide)) (fun k => h' (.inr k)), fun h h' => hCl (h.resolve_left (by decide)) (fun k => h' (.inr k)), fun h h' => hOC (h.resolve_left (by decide)) (fun k => h' (.inr k))⟩
        | 10, ho =>
          cases Option.some.inj ho
          have ev : a.tmps[4]? = some (.int .i64 (k : Int)) := by rw [ha, putAll_low A 15 4 l (by omega) (by decide)]; exact s4
          refine wp_value (w' := w') (v := .int .i64 (k : Int)) (by simp [execOp, ev, go_sem]) ?_
          exact ⟨_, ga, qa, ha1, gn, gc, qn, qc, nb, hn1, hc1, by rw [ha]; exact putAll_put A 15 10 l _ (by omega) (by omega), by rw [List.length_set]; exact hlen, set_known hlen (by decide) hl, hB.imp_left .inr, fun h => hQ (h.resolve_left (by decide)), fun h h' => hEl (h.resolve_left (by decide)) (fun k => h' (.inr k)), fun h h' => hCl (h.resolve_left (by decide)) (fun k => h' (.inr k)), fun h h' => hOC (h.resolve_left (by decide)) (fun k => h' (.inr k))⟩
        | 11, ho =>
          cases Option.some.inj ho
          have ev : a.tmps[24]? = some (.slice (some ⟨b, off, none⟩) n cap) := known_at ha hsz hlen hl 9 (by decide) (hd ⟨9, .data⟩ (by simp) rfl)
          have ev' : a.tmps[25]? = some (.int .i64 (k : Int)) := known_at ha hsz hlen hl 10 (by decide) (hd ⟨10, .data⟩ (by simp) rfl)
          refine wp_value (w' := w') (v := .pointer (some ⟨b, off + k * 5, none⟩)) (by simp [execOp, ev, ev', go_sem, hki]) ?_
          exact ⟨_, ga, qa, ha1, gn, gc, qn, qc, nb, hn1, hc1, by rw [ha]; exact putAll_put A 15 11 l _ (by omega) (by omega), by rw [List.length_set]; exact hlen, set_known hlen (by decide) hl, hB.imp_left .inr, fun h => hQ (h.resolve_left (by decide)), fun h h' => hEl (h.resolve_left (by decide)) (fun k => h' (.inr k)), fun h h' => hCl (h.resolve_left (by decide)) (fun k => h' (.inr k)), fun h h' => hOC (h.resolve_left (by decide)) (fun k => h' (.inr k))⟩
        | 12, ho =>
          cases Option.some.inj ho
          have ev : a.tmps[26]? = some (.pointer (some ⟨b, off + k * 5, none⟩)) := known_at ha hsz hlen hl 11 (by decide) (hd ⟨11, .data⟩ (by simp) rfl)
          refine wp_value (w' := w') (v := .pointer (some ⟨b, off + k * 5 + 1, none⟩)) (by simp [execOp, ev, go_sem]) ?_
          exact ⟨_, ga, qa, ha1, gn, gc, qn, qc, nb, hn1, hc1, by rw [ha]; exact putAll_put A 15 12 l _ (by omega) (by omega), by rw [List.length_set]; exact hlen, set_known hlen (by decide) hl, hB.imp_left .inr, fun h => hQ (h.resolve_left (by decide)), fun h h' => hEl (h.resolve_left (by decide)) (fun k => h' (.inr k)), fun h h' => hCl (h.resolve_left (by decide)) (fun k => h' (.inr k)), fun h h' => hOC (h.resolve_left (by decide)) (fun k => h' (.inr k))⟩
        | 13, ho =>
          cases Option.some.inj ho
          have ev : a.tmps[27]? = some (.pointer (some ⟨b, off + k * 5 + 1, none⟩)) := known_at ha hsz hlen hl 12 (by decide) (hd ⟨12, .data⟩ (by simp) rfl)
          have hc := ((hB.resolve_left (fun h => (fun h => (fun h => hn (hcl 21 _ rfl h ⟨13, .data⟩ (by simp) rfl)) (hcl 22 _ rfl h ⟨21, .data⟩ (by simp) rfl)) (hcl 23 _ rfl h ⟨22, .data⟩ (by simp) rfl))).cell (p := ⟨b, off + k * 5 + 1, none⟩) (lt_of_cell c1)).trans c1
          refine wp_value (w' := w') (v := .bool g) (by simp [execOp, ev, go_sem, hc]) ?_
          exact ⟨_, ga, qa, ha1, gn, gc, qn, qc, nb, hn1, hc1, by rw [ha]; exact putAll_put A 15 13 l _ (by omega) (by omega), by rw [List.length_set]; exact hlen, set_known hlen (by decide) hl, hB.imp_left .inr, fun h => hQ (h.resolve_left (by decide)), fun h h' => hEl (h.resolve_left (by decide)) (fun k => h' (.inr k)), fun h h' => hCl (h.resolve_left (by decide)) (fun k => h' (.inr k)), fun h h' => hOC (h.resolve_left (by decide)) (fun k => h' (.inr k))⟩
        | 14, ho =>
          cases Option.some.inj ho
          have ev : a.tmps[1]? = some (.pointer (some ⟨b1, 0, none⟩)) := by rw [ha, putAll_low A 15 1 l (by omega) (by decide)]; exact s1
          refine wp_value (w' := w') (v := .pointer (some ⟨b1, 1, none⟩)) (by simp [execOp, ev, go_sem]) ?_
          exact ⟨_, ga, qa, ha1, gn, gc, qn, qc, nb, hn1, hc1, by rw [ha]; exact putAll_put A 15 14 l _ (by omega) (by omega), by rw [List.length_set]; exact hlen, set_known hlen (by decide) hl, hB.imp_left .inr, fun h => hQ (h.resolve_left (by decide)), fun h h' => hEl (h.resolve_left (by decide)) (fun k => h' (.inr k)), fun h h' => hCl (h.resolve_left (by decide)) (fun k => h' (.inr k)), fun h h' => hOC (h.resolve_left (by decide)) (fun k => h' (.inr k))⟩
        | 15, ho =>
          cases Option.some.inj ho
          have ev : a.tmps[29]? = some (.pointer (some ⟨b1, 1, none⟩)) := known_at ha hsz hlen hl 14 (by decide) (hd ⟨14, .data⟩ (by simp) rfl)
          have hc := ((hB.resolve_left (fun h => (fun h => (fun h => (fun h => (fun h => (fun h => (fun h => hn (hcl 17 _ rfl h ⟨15, .data⟩ (by simp) rfl)) (hcl 18 _ rfl h ⟨17, .data⟩ (by simp) rfl)) (hcl 19 _ rfl h ⟨18, .data⟩ (by simp) rfl)) (hcl 20 _ rfl h ⟨19, .data⟩ (by simp) rfl)) (hcl 21 _ rfl h ⟨20, .data⟩ (by simp) rfl)) (hcl 22 _ rfl h ⟨21, .data⟩ (by simp) rfl)) (hcl 23 _ rfl h ⟨22, .data⟩ (by simp) rfl))).cell (p := ⟨b1, 1, none⟩) (lt_of_cell y1)).trans y1
          refine wp_value (w' := w') (v := .slice (some ⟨b, off, none⟩) n cap) (by simp [execOp, ev, go_sem, hc]) ?_
          exact ⟨_, ga, qa, ha1, gn, gc, qn, qc, nb, hn1, hc1, by rw [ha]; exact putAll_put A 15 15 l _ (by omega) (by omega), by rw [List.length_set]; exact hlen, set_known hlen (by decide) hl, hB.imp_left .inr, fun h => hQ (h.resolve_left (by decide)), fun h h' => hEl (h.resolve_left (by decide)) (fun k => h' (.inr k)), fun h h' => hCl (h.resolve_left (by decide)) (fun k => h' (.inr k)), fun h h' => hOC (h.resolve_left (by decide)) (fun k => h' (.inr k))⟩
        | 16, ho =>
          cases Option.some.inj ho
          have ev : a.tmps[4]? = some (.int .i64 (k : Int)) := by rw [ha, putAll_low A 15 4 l (by omega) (by decide)]; exact s4
          refine wp_value (w' := w') (v := .int .i64 (k : Int)) (by simp [execOp, ev, go_sem]) ?_
          exact ⟨_, ga, qa, ha1, gn, gc, qn, qc, nb, hn1, hc1, by rw [ha]; exact putAll_put A 15 16 l _ (by omega) (by omega), by rw [List.length_set]; exact hlen, set_known hlen (by decide) hl, hB.imp_left .inr, fun h => hQ (h.resolve_left (by decide)), fun h h' => hEl (h.resolve_left (by decide)) (fun k => h' (.inr k)), fun h h' => hCl (h.resolve_left (by decide)) (fun k => h' (.inr k)), fun h h' => hOC (h.resolve_left (by decide)) (fun k => h' (.inr k))⟩
        | 17, ho =>
          cases Option.some.inj ho
          have ev : a.tmps[30]? = some (.slice (some ⟨b, off, none⟩) n cap) := known_at ha hsz hlen hl 15 (by decide) (hd ⟨15, .data⟩ (by simp) rfl)
          have ev' : a.tmps[31]? = some (.int .i64 (k : Int)) := known_at ha hsz hlen hl 16 (by decide) (hd ⟨16, .data⟩ (by simp) rfl)
          refine wp_value (w' := w') (v := .pointer (some ⟨b, off + k * 5, none⟩)) (by simp [execOp, ev, ev', go_sem, hki]) ?_
          exact ⟨_, ga, qa, ha1, gn, gc, qn, qc, nb, hn1, hc1, by rw [ha]; exact putAll_put A 15 17 l _ (by omega) (by omega), by rw [List.length_set]; exact hlen, set_known hlen (by decide) hl, hB.imp_left .inr, fun h => hQ (h.resolve_left (by decide)), fun h h' => hEl (h.resolve_left (by decide)) (fun k => h' (.inr k)), fun h h' => hCl (h.resolve_left (by decide)) (fun k => h' (.inr k)), fun h h' => hOC (h.resolve_left (by decide)) (fun k => h' (.inr k))⟩
        | 18, ho =>
          cases Option.some.inj ho
          have ev : a.tmps[32]? = some (.pointer (some ⟨b, off + k * 5, none⟩)) := known_at ha hsz hlen hl 17 (by decide) (hd ⟨17, .data⟩ (by simp) rfl)
          refine wp_value (w' := w') (v := .pointer (some ⟨b, off + k * 5 + 2, none⟩)) (by simp [execOp, ev, go_sem]) ?_
          exact ⟨_, ga, qa, ha1, gn, gc, qn, qc, nb, hn1, hc1, by rw [ha]; exact putAll_put A 15 18 l _ (by omega) (by omega), by rw [List.length_set]; exact hlen, set_known hlen (by decide) hl, hB.imp_left .inr, fun h => hQ (h.resolve_left (by decide)), fun h h' => hEl (h.resolve_left (by decide)) (fun k => h' (.inr k)), fun h h' => hCl (h.resolve_left (by decide)) (fun k => h' (.inr k)), fun h h' => hOC (h.resolve_left (by decide)) (fun k => h' (.inr k))⟩
        | 19, ho =>
          cases Option.some.inj ho
          have ev : a.tmps[33]? = some (.pointer (some ⟨b, off + k * 5 + 2, none⟩)) := known_at ha hsz hlen hl 18 (by decide) (hd ⟨18, .data⟩ (by simp) rfl)
          have hb := hB.resolve_left (fun h => (fun h => (fun h => (fun h => hn (hcl 20 _ rfl h ⟨19, .data⟩ (by simp) rfl)) (hcl 21 _ rfl h ⟨20, .data⟩ (by simp) rfl)) (hcl 22 _ rfl h ⟨21, .data⟩ (by simp) rfl)) (hcl 23 _ rfl h ⟨22, .data⟩ (by simp) rfl))
          have z2 := (hb.cell (p := ⟨b, off + k * 5 + 2, none⟩) (lt_of_cell c2)).trans c2
          have z3 := (hb.cell (p := ⟨b, off + k * 5 + 3, none⟩) (lt_of_cell c3)).trans c3
          have z4 := (hb.cell (p := ⟨b, off + k * 5 + 4, none⟩) (lt_of_cell c4)).trans c4
          refine wp_value (w' := w') (v := .agg #[.int .i64 cc, .slice sa sn sc, .slice ba bn bc]) (by simp [execOp, ev, go_sem, z2, z3, z4]) ?_
          exact ⟨_, ga, qa, ha1, gn, gc, qn, qc, nb, hn1, hc1, by rw [ha]; exact putAll_put A 15 19 l _ (by omega) (by omega), by rw [List.length_set]; exact hlen, set_known hlen (by decide) hl, hB.imp_left .inr, fun h => hQ (h.resolve_left (by decide)), fun h h' => hEl (h.resolve_left (by decide)) (fun k => h' (.inr k)), fun h h' => hCl (h.resolve_left (by decide)) (fun k => h' (.inr k)), fun h h' => hOC (h.resolve_left (by decide)) (fun k => h' (.inr k))⟩
        | 20, ho =>
          cases Option.some.inj ho
          have ev : a.tmps[34]? = some (.agg #[.int .i64 cc, .slice sa sn sc, .slice ba bn bc]) := known_at ha hsz hlen hl 19 (by decide) (hd ⟨19, .data⟩ (by simp) rfl)
          have hb := hB.resolve_left (fun h => (fun h => (fun h => hn (hcl 21 _ rfl h ⟨20, .data⟩ (by simp) rfl)) (hcl 22 _ rfl h ⟨21, .data⟩ (by simp) rfl)) (hcl 23 _ rfl h ⟨22, .data⟩ (by simp) rfl))
          refine wp_enter (f := 34) (args := #[.agg #[.int .i64 cc, .slice sa sn sc, .slice ba bn bc]]) (by simp [execOp, ev, go_sem]) ?_
          refine (rcopy_any (io.below hb) hsn hbn).mono ?_
          rintro e w6 ⟨vv, bv, rfl, OV, OB, HB⟩
          refine ⟨_, rfl, ?_⟩
          obtain ⟨ga', gn', gc', rfl⟩ : ∃ a n c, vv = .slice a n c := by obtain ⟨a, c, e, _⟩ := OV.2; exact ⟨_, _, _, e⟩
          obtain ⟨qa', qn', qc', rfl⟩ := OB.shape'
          exact ⟨_, ga', qa', ha1, gn', gc', qn', qc', nb, hn1, hc1, by rw [ha]; exact putAll_put A 15 20 l _ (by omega) (by omega), by rw [List.length_set]; exact hlen, set_known' (val' := givV b1 b3 b off k n cap nx cx ax oo cc g sa ba sn sc bn bc ga' qa' ha1 gn' gc' qn' qc' nb hn1 hc1) hlen (by decide) hl (fun j hj hne => match j, hj, hne with | 0, _, _ => rfl | 1, _, _ => rfl | 2, _, _ => rfl | 3, _, _ => rfl | 4, _, _ => rfl | 5, _, _ => rfl | 6, _, _ => rfl | 7, _, _ => rfl | 8, _, _ => rfl | 9, _, _ => rfl | 10, _, _ => rfl | 11, _, _ => rfl | 12, _, _ => rfl | 13, _, _ => rfl | 14, _, _ => rfl | 15, _, _ => rfl | 16, _, _ => rfl | 17, _, _ => rfl | 18, _, _ => rfl | 19, _, _ => rfl | 20, _, hne => absurd rfl hne | 21, hj, _ => absurd hj (fun h => hn (hcl 21 _ rfl h ⟨20, .data⟩ (by simp) rfl)) | 22, _, _ => rfl | 23, _, _ => rfl | 24, _, _ => rfl | j + 25, _, _ => rfl), hB.imp .inr (fun h => below_size h h.size HB), fun h => absurd (h.resolve_left (by decide)) (fun h => (fun h => (fun h => (fun h => hn (hcl 21 _ rfl h ⟨20, .data⟩ (by simp) rfl)) (hcl 22 _ rfl h ⟨21, .data⟩ (by simp) rfl)) (hcl 23 _ rfl h ⟨22, .data⟩ (by simp) rfl)) (hcl 25 _ rfl h ⟨23, .data⟩ (by simp) rfl)), fun _ _ => ⟨io.cls, OV.mono (Nat.le_trans hNw hb.size), OB.mono (Nat.le_trans hNw hb.size)⟩, fun h _ => absurd (h.resolve_left (by decide)) (fun h => (fun h => hn (hcl 21 _ rfl h ⟨20, .data⟩ (by simp) rfl)) (hcl 22 _ rfl h ⟨21, .data⟩ (by simp) rfl)), fun h _ => absurd (h.resolve_left (by decide)) (fun h => (fun h => (fun h => hn (hcl 21 _ rfl h ⟨20, .data⟩ (by simp) rfl)) (hcl 22 _ rfl h ⟨21, .data⟩ (by simp) rfl)) (hcl 23 _ rfl h ⟨22, .data⟩ (by simp) rfl))⟩
        | 21, ho =>
          cases Option.some.inj ho
          have ev : a.tmps[22]? = some (.int .i64 oo) := known_at ha hsz hlen hl 7 (by decide) (hd ⟨7, .data⟩ (by simp) rfl)
          have ev' : a.tmps[28]? = some (.bool g) := known_at ha hsz hlen hl 13 (by decide) (hd ⟨13, .data⟩ (by simp) rfl)
          have ev'' : a.tmps[35]? = some (.agg #[.int .i64 cc, .slice ga gn gc, .slice qa qn qc]) := known_at ha hsz hlen hl 20 (by decide) (hd ⟨20, .data⟩ (by simp) rfl)
          refine wp_value (w' := w') (v := .agg #[.int .i64 oo, .bool g, .int .i64 cc, .slice ga gn gc, .slice qa qn qc]) (by simp [execOp, ev, ev', ev'', go_sem]) ?_
          exact ⟨_, ga, qa, ha1, gn, gc, qn, qc, nb, hn1, hc1, by rw [ha]; exact putAll_put A 15 21 l _ (by omega) (by omega), by rw [List.length_set]; exact hlen, set_known hlen (by decide) hl, hB.imp_left .inr, fun h => hQ (h.resolve_left (by decide)), fun h h' => hEl (h.resolve_left (by decide)) (fun k => h' (.inr k)), fun h h' => hCl (h.resolve_left (by decide)) (fun k => h' (.inr k)), fun h h' => hOC (h.resolve_left (by decide)) (fun k => h' (.inr k))⟩
        | 22, ho =>
          cases Option.some.inj ho
          have ev : a.tmps[36]? = some (.agg #[.int .i64 oo, .bool g, .int .i64 cc, .slice ga gn gc, .slice qa qn qc]) := known_at ha hsz hlen hl 21 (by decide) (hd ⟨21, .data⟩ (by simp) rfl)
          have hb := hB.resolve_left (fun h => hn (hcl 23 _ rfl h ⟨22, .data⟩ (by simp) rfl))
          refine wp_value (w' := w'.alloc (.cells #[.int .i64 oo, .bool g, .int .i64 cc, .slice ga gn gc, .slice qa qn qc] 51)) (v := .slice (some ⟨w'.heap.size, 0, none⟩) 1 1) (by simp [execOp, ev, go_sem]) ?_
          exact ⟨_, ga, qa, ha1, gn, gc, qn, qc, w'.heap.size, hn1, hc1, by rw [ha]; exact putAll_put A 15 22 l _ (by omega) (by omega), by rw [List.length_set]; exact hlen, set_known' (val' := givV b1 b3 b off k n cap nx cx ax oo cc g sa ba sn sc bn bc ga qa ha1 gn gc qn qc w'.heap.size hn1 hc1) hlen (by decide) hl (fun j hj hne => match j, hj, hne with | 0, _, _ => rfl | 1, _, _ => rfl | 2, _, _ => rfl | 3, _, _ => rfl | 4, _, _ => rfl | 5, _, _ => rfl | 6, _, _ => rfl | 7, _, _ => rfl | 8, _, _ => rfl | 9, _, _ => rfl | 10, _, _ => rfl | 11, _, _ => rfl | 12, _, _ => rfl | 13, _, _ => rfl | 14, _, _ => rfl | 15, _, _ => rfl | 16, _, _ => rfl | 17, _, _ => rfl | 18, _, _ => rfl | 19, _, _ => rfl | 20, _, _ => rfl | 21, _, _ => rfl | 22, _, hne => absurd rfl hne | 23, _, _ => rfl | 24, _, _ => rfl | j + 25, _, _ => rfl), hB.imp .inr (fun h => below_size h h.size box_below), fun h => absurd (h.resolve_left (by decide)) (fun h => (fun h => hn (hcl 23 _ rfl h ⟨22, .data⟩ (by simp) rfl)) (hcl 25 _ rfl h ⟨23, .data⟩ (by simp) rfl)), fun h h' => (hEl (h.resolve_left (by decide)) (fun k => h' (.inr k))).below box_below, fun _ _ => lit_cells (y := (⟨⟨oo, g, cc, vs, bs⟩, ga, gn, gc, qa, qn, qc⟩ : Cs)), fun h _ => absurd (h.resolve_left (by decide)) (fun h => hn (hcl 23 _ rfl h ⟨22, .data⟩ (by simp) rfl))⟩
        | 23, ho =>
          cases Option.some.inj ho
          have ev : a.tmps[16]? = some (.slice ax nx cx) := known_at ha hsz hlen hl 1 (by decide) (hd ⟨1, .data⟩ (by simp) rfl)
          have ev' : a.tmps[37]? = some (.slice (some ⟨nb, 0, none⟩) 1 1) := known_at ha hsz hlen hl 22 (by decide) (hd ⟨22, .data⟩ (by simp) rfl)
          have hb := hB.resolve_left hn
          have El1 := hEl (hcl 22 _ rfl (hd ⟨22, .data⟩ (by simp) rfl) ⟨21, .data⟩ (by simp) rfl |> fun h => hcl 21 _ rfl h ⟨20, .data⟩ (by simp) rfl) hn
          have Cl1 := hCl (hd ⟨22, .data⟩ (by simp) rfl) hn
          have hz := Nat.le_trans hN hb.size
          refine app_chE Try.underlying36 Try.info51 w' (.tmp 16) (.tmp 37) rfl N _ _ (eval_some ev) (OC.below hb) nb (⟨⟨oo, g, cc, vs, bs⟩, ga, gn, gc, qa, qn, qc⟩ : Cs) (eval_some ev') Cl1 El1 (by decide) (by decide) hox (by rw [List.length_take]; omega) hz ?_
          intro ha' hn' hc' w6 OC6 HG
          exact ⟨_, ga, qa, ha', gn, gc, qn, qc, nb, hn', hc', by rw [ha]; exact putAll_put A 15 23 l _ (by omega) (by omega), by rw [List.length_set]; exact hlen, set_known' (val' := givV b1 b3 b off k n cap nx cx ax oo cc g sa ba sn sc bn bc ga qa ha' gn gc qn qc nb hn' hc') hlen (by decide) hl (fun j hj hne => match j, hj, hne with | 0, _, _ => rfl | 1, _, _ => rfl | 2, _, _ => rfl | 3, _, _ => rfl | 4, _, _ => rfl | 5, _, _ => rfl | 6, _, _ => rfl | 7, _, _ => rfl | 8, _, _ => rfl | 9, _, _ => rfl | 10, _, _ => rfl | 11, _, _ => rfl | 12, _, _ => rfl | 13, _, _ => rfl | 14, _, _ => rfl | 15, _, _ => rfl | 16, _, _ => rfl | 17, _, _ => rfl | 18, _, _ => rfl | 19, _, _ => rfl | 20, _, _ => rfl | 21, _, _ => rfl | 22, _, _ => rfl | 23, _, hne => absurd rfl hne | 24, _, _ => rfl | j + 25, _, _ => rfl), .inl (.inl rfl), fun h => absurd (h.resolve_left (by decide)) (fun h => hn (hcl 25 _ rfl h ⟨23, .data⟩ (by simp) rfl)), fun _ h' => absurd (.inl rfl) h', fun _ h' => absurd (.inl rfl) h', fun _ _ => ⟨OC6, (hb.mono hN).trans ((Below.refl N w').grown HG hz (fun j hj => by obtain ⟨ss, h1, _⟩ := OC.below hb; exact (own_block h1 hj).1))⟩⟩
        | 24, ho =>
          cases Option.some.inj ho
          have ev : a.tmps[3]? = some (.pointer (some ⟨b3, 0, none⟩)) := by rw [ha, putAll_low A 15 3 l (by omega) (by decide)]; exact s3
          refine wp_value (w' := w') (v := .pointer (some ⟨b3, 1, none⟩)) (by simp [execOp, ev, go_sem]) ?_
          exact ⟨_, ga, qa, ha1, gn, gc, qn, qc, nb, hn1, hc1, by rw [ha]; exact putAll_put A 15 24 l _ (by omega) (by omega), by rw [List.length_set]; exact hlen, set_known hlen (by decide) hl, hB.imp_left .inr, fun h => hQ (h.resolve_left (by decide)), fun h h' => hEl (h.resolve_left (by decide)) (fun k => h' (.inr k)), fun h h' => hCl (h.resolve_left (by decide)) (fun k => h' (.inr k)), fun h h' => hOC (h.resolve_left (by decide)) (fun k => h' (.inr k))⟩
        | 25, ho =>
          cases Option.some.inj ho
          have ev : a.tmps[39]? = some (.pointer (some ⟨b3, 1, none⟩)) := known_at ha hsz hlen hl 24 (by decide) (hd ⟨24, .data⟩ (by simp) rfl)
          have ev' : a.tmps[38]? = some (.slice ha1 hn1 hc1) := known_at ha hsz hlen hl 23 (by decide) (hd ⟨23, .data⟩ (by simp) rfl)
          obtain ⟨OC6, B6⟩ := hOC (hd ⟨23, .data⟩ (by simp) rfl) hn
          have E6 := (B6.block b3 hb3).trans E3
          obtain ⟨z0, z1⟩ := rec_cells E6
          have zf1 := rec_frozen E6 1
          refine wp_skip (w' := w'.setCell ⟨b3, 1, none⟩ (.slice ha1 hn1 hc1)) (by simp [execOp, Act.eval, ev, ev', go_sem, z1, zf1]) ?_
          exact ⟨l, ga, qa, ha1, gn, gc, qn, qc, nb, hn1, hc1, ha, hlen, fun j hj h => hl j hj (h.resolve_left (by omega)), .inl (.inr (hd ⟨23, .data⟩ (by simp) rfl)), fun _ => ⟨rec_set1 E6 _, OC6.set E6 (by decide) (by decide) (by decide), (FrN.of B6).trans FrN.set⟩, fun _ h' => absurd (Or.inr (hd ⟨23, .data⟩ (by simp) rfl)) h', fun _ h' => absurd (Or.inr (hd ⟨23, .data⟩ (by simp) rfl)) h', fun _ h' => absurd (.inl rfl) h'⟩
        | i + 26, ho => simp at ho
      case done =>
        rintro D a w' ⟨l, ga, qa, ha1, gn, gc, qn, qc, nb, hn1, hc1, ha, hlen, hl, hB, hQ, hEl, hCl, hOC⟩ hall
        obtain ⟨v0, v1, v2, v3, v4, v5, v6, v7, v8, v9, v10, v11, v12, v13, v14, v15, v16, v17, v18, v19, v20, v21, v22, v23, v24, rfl⟩ := givV_list hlen
        obtain ⟨E9, OC9, F9⟩ := hQ (hall 25 (by decide))
        subst hA
        have hfr : a = _ := ha
        rw [hfr]
        clear hfr ha
        simp only [putAll, List.take_succ_cons, List.take_zero, List.drop_succ_cons, List.drop_zero, List.cons_append, List.nil_append, List.length_cons, List.length_nil]
        clear hl hB hQ hEl hCl hOC hall
        have F10 := F.trans F9
        rw [← hsnoc.out] at OC9
        clear c0 c1 c2 c3 c4 io y0 y1 x0 x1 E3 OC F F9
        go_wp2_with fail
        go_roundw
        case rel => exact ⟨k + 1, _, by omega, by go_num, E9, OC9, F10⟩
        case measure => simp [intOf]; omega
    · have hki : ¬ (k : Int) < (n : Int) := by omega
      rw [List.take_of_length_le (by omega)] at OC
      have E2r := (F.block b2 (by have h1 := hN0.out; omega) h23).trans E2
      obtain ⟨x0, x1⟩ := rec_cells E3
      obtain ⟨t0, t1⟩ := rec_cells E2r
      have tf := rec_frozen E2r
      have E9 := rec_set01 E2r c (.slice ax nx cx)
      have OC9 := (OC.set (i := 0) (x := .int .i64 c) E2r (by decide) (by decide) (by decide)).set (i := 1) (x := .slice ax nx cx) (rec_set0 E2r c) (by decide) (by decide) (by decide)
      have B9 := below_setCell (i := 1) (x := .slice ax nx cx) (below_setCell (i := 0) (x := .int .i64 c) Bw l2) l2
      clear OC
      go_wp2
      exact bodyPost_ret (v := .agg #[.int .i64 c, .slice ax nx cx]) (results_cell Try.results10 rfl (load38 E9)) rfl ⟨ax, nx, cx, rfl, OC9.mono (Nat.le_trans N0 (Nat.le_of_eq hN0.out.symm)), B9⟩
end Go.Proofs.Ytajdelinfkodbaa
