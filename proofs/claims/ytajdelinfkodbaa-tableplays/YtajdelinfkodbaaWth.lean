/- A past with one change more: with. -/
import Derived.Test.YtajdelinfkodbaaTab
namespace Go.Proofs.Ytajdelinfkodbaa
open Go.RowKit
set_option maxRecDepth 100000
/-- What the operations yield. -/
def wthV (b3 b5 n cap : Nat) (ra : Option Addr) (c cc : Int) (g : Bool) (sa ba : Option Addr) (sn sc bn bc : Nat) (ga qa ha1 : Option Addr) (gn gc qn qc nb hn1 hc1 : Nat) (j : Nat) : Value :=
  ([.pointer (some ⟨b3, 1, none⟩),
    .slice ra n cap,
    .int .i64 c,
    .pointer (some ⟨b5, 1, none⟩),
    .bool g,
    .pointer (some ⟨b5, 2, none⟩),
    .agg #[.int .i64 cc, .slice sa sn sc, .slice ba bn bc],
    .agg #[.int .i64 cc, .slice ga gn gc, .slice qa qn qc],
    .agg #[.int .i64 c, .bool g, .int .i64 cc, .slice ga gn gc, .slice qa qn qc],
    .slice (some ⟨nb, 0, none⟩) 1 1,
    .slice ha1 hn1 hc1,
    .pointer (some ⟨b3, 1, none⟩)] : List Value).getD j undef
theorem wthV_list {l : List Value} (hh : l.length = 12) : ∃ v0 v1 v2 v3 v4 v5 v6 v7 v8 v9 v10 v11, l = [v0, v1, v2, v3, v4, v5, v6, v7, v8, v9, v10, v11] := by
  obtain ⟨v0, t0, rfl, h0⟩ := cons_of hh
  obtain ⟨v1, t1, rfl, h1⟩ := cons_of h0
  obtain ⟨v2, t2, rfl, h2⟩ := cons_of h1
  obtain ⟨v3, t3, rfl, h3⟩ := cons_of h2
  obtain ⟨v4, t4, rfl, h4⟩ := cons_of h3
  obtain ⟨v5, t5, rfl, h5⟩ := cons_of h4
  obtain ⟨v6, t6, rfl, h6⟩ := cons_of h5
  obtain ⟨v7, t7, rfl, h7⟩ := cons_of h6
  obtain ⟨v8, t8, rfl, h8⟩ := cons_of h7
  obtain ⟨v9, t9, rfl, h9⟩ := cons_of h8
  obtain ⟨v10, t10, rfl, h10⟩ := cons_of h9
  obtain ⟨v11, t11, rfl, h11⟩ := cons_of h10
  obtain rfl := List.eq_nil_of_length_eq_zero h11
  exact ⟨_, _, _, _, _, _, _, _, _, _, _, _, rfl⟩
theorem with_row {w w' : World} {S R : Nat → Prop} {v : Value} {xs : List Ch} (hb : Below w.heap.size w w') (h : RowT w S R v xs) (_hSl : ∀ g, S g → g < w.heap.size) : RowT w' S (plusR R w w') v xs :=
  h.same (fun _ h => h) (fun _ _ h => h) (fun _ h => .inl h) (fun g hg _ => hb.block g hg) (fun g hg => hb.block g (h.block hg).2.1)
theorem with_el {w w' : World} {R : Nat → Prop} {N : Nat} {c cc : Int} {g : Bool} {ga qa : Option Addr} {gn gc qn qc : Nat} {vs : List (Int × Int)} {bs : List Int} (hN : w.heap.size ≤ N) (hc : -9223372036854775808 ≤ cc ∧ cc ≤ 9223372036854775807) (h1 : OwnV w' N (.slice ga gn gc) vs) (h2 : OwnB w' N (.slice qa qn qc) bs) : ElT w' (plusR R w w') (⟨⟨c, g, cc, vs, bs⟩, ga, gn, gc, qa, qn, qc⟩ : Cs) := by
  refine ⟨⟨hc, ⟨_, h1⟩, ⟨_, h2⟩⟩, fun q hq => ?_, fun q hq => ?_⟩
  · obtain ⟨hl, cur, hh⟩ := own_block h1.1 hq
    exact .inr ⟨Nat.le_trans hN hl, cur, 84, .inl rfl, hh⟩
  · obtain ⟨hl, cur, hh⟩ := own_block h2.1 hq
    exact .inr ⟨Nat.le_trans hN hl, cur, 5, .inr rfl, hh⟩
theorem with_ty {w w' : World} {S : Nat → Prop} (hb : Below w.heap.size w w') (hSl : ∀ g, S g → g < w.heap.size) (hSt : ∀ g cur e, S g → w.heap[g]? = some (.cells cur e (0, 0)) → e = 72 ∨ e = 104) : ∀ g cur e, S g → w'.heap[g]? = some (.cells cur e (0, 0)) → e ≠ 84 ∧ e ≠ 5 := by
  intro g cur e hg hh
  rw [hb.block g (hSl g hg)] at hh
  rcases hSt g cur e hg hh with rfl | rfl <;> decide
theorem with_blk {w : World} {wr : World} {b3 : Nat} {c : Int} {v : Value} {S : Nat → Prop} {sv : Value} {A : World → Option Nat → Prop} (h : ∃ (wp : World) (row : Option Nat), Below wr.heap.size wr wp ∧ wp.grownBy w row ∧ (∀ q, row = some q → S q ∧ sv.ownBlock = some q ∧ ∃ cur, w.heap[q]? = some (.cells cur 104 (0, 0))) ∧ A wp row) (E : wr.heap[b3]? = some (recB c v 78)) (hn : sv.ownBlock ≠ some b3) : w.heap[b3]? = some (recB c v 78) := by
  obtain ⟨wp, row, hb, hg, hr, _⟩ := h
  have h1 := (hb.block b3 (lt_of_block E)).trans E
  exact (hg.block b3 (lt_of_block h1) (fun e => hn (hr b3 e.symm).2.1)).trans h1
/-- What is left behind: a row, and which blocks turned. -/
def WFin (w : World) (S R : Nat → Prop) (sv nv : Value) (ys : List Ch) (w' : World) : Prop :=
  RowT w' (fun q => S q ∨ (w.heap.size ≤ q ∧ nv.ownBlock = some q)) (plusR R w w') nv ys ∧ Fr (fun q => S q ∧ sv.ownBlock = some q) w w' ∧ (∀ q, nv.ownBlock = some q → sv.ownBlock = some q ∨ w.heap.size ≤ q) ∧ ∀ q, S q → sv.ownBlock = some q → ∃ cur, w'.heap[q]? = some (.cells cur 104 (0, 0))
theorem with_keep {w w' : World} {S R : Nat → Prop} {v : Value} {xs : List Ch} (hb : Below w.heap.size w w') (h : RowT w S R v xs) : RowT w' (fun q => S q ∨ (w.heap.size ≤ q ∧ v.ownBlock = some q)) (plusR R w w') v xs :=
  h.same (fun _ h => .inl h) (fun q hq h k => k.elim h (fun k => absurd hq (by omega))) (fun _ h => .inl h) (fun g hg _ => hb.block g hg) (fun g hg => hb.block g (h.block hg).2.1)
theorem WFin.set {w w7 : World} {S R : Nat → Prop} {sv nv x : Value} {ys : List Ch} {b k : Nat} {cur : Array Value} (hRl : ∀ g, R g → g < w.heap.size) (h : WFin w S R sv nv ys w7) (E : w7.heap[b]? = some (.cells cur 78 (0, 0))) (hw : w.heap.size ≤ b) : WFin w S R sv nv ys (w7.setCell ⟨b, k, none⟩ x) := by
  obtain ⟨h1, h2, h3, h4⟩ := h
  have oth : ∀ q, q ≠ b → (w7.setCell ⟨b, k, none⟩ x).heap[q]? = w7.heap[q]? := fun q hq => heap_setCell_other w7 ⟨b, k, none⟩ q x hq
  have nb : ∀ q cu e, w7.heap[q]? = some (.cells cu e (0, 0)) → e ≠ 78 → q ≠ b := fun q cu e hh he hq => by
    subst hq
    rw [E] at hh
    cases hh
    exact he rfl
  refine ⟨h1.same (fun _ h => h) (fun _ _ h => h) (fun q hq => ?_) (fun q hq hr => ?_) (fun q hq => ?_), ?_, h3, fun q hS hq => ?_⟩
  · rcases hq with hq | ⟨hq, cu, e, he, hh⟩
    · exact .inl hq
    · exact .inr ⟨hq, cu, e, he, (oth q (nb q cu e hh (by rcases he with rfl | rfl <;> decide))).trans hh⟩
  · rcases hr with hr | ⟨_, cu, e, he, hh⟩
    · exact oth q (by have := hRl q hr; omega)
    · exact oth q (nb q cu e hh (by rcases he with rfl | rfl <;> decide))
  · obtain ⟨_, _, cu, hh⟩ := h1.block hq
    exact oth q (nb q cu 104 hh (by decide))
  · exact ⟨h2.os, h2.tape, h2.output, by have := h2.size; simp; omega, fun q hq hn => (oth q (by omega)).trans (h2.block q hq hn)⟩
  · obtain ⟨cu, hh⟩ := h4 q hS hq
    exact ⟨cu, (oth q (nb q cu 104 hh (by decide))).trans hh⟩
theorem with_fin0 {w wr w6 : World} {S R : Nat → Prop} {sv nv : Value} {ys : List Ch} (hb : Below w.heap.size w wr) (hSl : ∀ g, S g → g < w.heap.size) (hrow : ∀ q, sv.ownBlock = some q → ∃ cur, w.heap[q]? = some (.cells cur 104 (0, 0)))
    (h : ∃ (wp : World) (row : Option Nat), Below wr.heap.size wr wp ∧ wp.grownBy w6 row ∧ (∀ q, row = some q → S q ∧ sv.ownBlock = some q ∧ ∃ cur, w6.heap[q]? = some (.cells cur 104 (0, 0))) ∧ RowT w6 (fun q => S q ∨ (wp.heap.size ≤ q ∧ nv.ownBlock = some q)) (plusR R wr wp) nv ys ∧ (∀ q, nv.ownBlock = some q → (S q ∧ sv.ownBlock = some q) ∨ wp.heap.size ≤ q)) : WFin w S R sv nv ys w6 := by
  obtain ⟨wp, row, h1, h2, h3, h4, h5⟩ := h
  have k1 := h1.size
  have k2 := hb.size
  refine ⟨h4.same (fun q hq => ?_) (fun q _ hq k => ?_) (fun q hq => ?_) (fun q hq hr => rfl) (fun q hq => rfl), ?_, fun q hq => ?_, fun q hS hq => ?_⟩
  · rcases hq with hq | ⟨hq, hq'⟩
    · exact .inl hq
    · exact .inr ⟨by omega, hq'⟩
  · rcases k with k | ⟨k, k'⟩
    · exact hq (.inl k)
    · rcases h5 q k' with ⟨s, _⟩ | s
      · exact hq (.inl s)
      · exact hq (.inr ⟨s, k'⟩)
  · rcases hq with hq | ⟨hq, cur, e, he, hh⟩
    · exact .inl hq
    · have hne : row ≠ some q := fun er => by
        have := hSl q (h3 q er).1
        omega
      exact .inr ⟨by omega, cur, e, he, (h2.block q (lt_of_block hh) (fun er => hne er.symm)).trans hh⟩
  · refine ⟨h2.os.trans (h1.os.trans hb.os), h2.tape.trans (h1.tape.trans hb.tape), h2.output.trans (h1.output.trans hb.output), by have := h2.size; omega, fun q hq hn => ?_⟩
    exact (h2.block q (by omega) (fun e => hn ⟨(h3 q e.symm).1, (h3 q e.symm).2.1⟩)).trans ((h1.block q (by omega)).trans (hb.block q hq))
  · rcases h5 q hq with ⟨_, s⟩ | s
    · exact .inl s
    · exact .inr (by omega)
  · by_cases hr : row = some q
    · exact (h3 q hr).2.2
    · obtain ⟨cur, hh⟩ := hrow q hq
      have hl := lt_of_block hh
      exact ⟨cur, (h2.block q (by omega) (fun e => hr e.symm)).trans ((h1.block q (by omega)).trans ((hb.block q hl).trans hh))⟩
/-- The versions with one change more. -/
def withL (c : Int) (x : Ch) (xs : List Ch) : List Ch := if (!x.gone || thereC xs) = true then xs ++ [⟨c, x.gone, x.cls, x.vs, x.bs⟩] else xs
theorem load78 {w : World} {b : Nat} {c : Int} {v : Value} (h : w.heap[b]? = some (recB c v 78)) : (loadVar 78 ⟨b, 0, none⟩).run Try.prog w = .ok (.agg #[.int .i64 c, v]) w := by
  obtain ⟨h0, h1⟩ := rec_cells h
  have hr := run_loadCells_list (P := Try.prog) w ⟨b, 0, none⟩ [.int .i64 c, v] (fun i u hi => by
    rw [addr_add]
    match i, hi with
    | 0, hi => simp at hi; subst hi; exact h0
    | 1, hi => simp at hi; subst hi; exact h1
    | _ + 2, hi => simp at hi)
  have hagg : (isAgg 78).run Try.prog w = .ok true w := by simp [isAgg, run_underlying Try.underlying78]
  have hr' : (loadCells ⟨b, 0, none⟩ 2).run Try.prog w = .ok #[.int .i64 c, v] w := hr
  simp [loadVar, hagg, hr']
theorem Try.results36 : Try.f36.results = #[.cell 6 78] := by kernel_rfl
/-- What with leaves. -/
def WthP (w : World) (S R : Nat → Prop) (c : Int) (sv : Value) (ys : List Ch) (e : Ending) (w' : World) : Prop :=
  ∃ a' n' c', e = .returned (.agg #[.int .i64 c, .slice a' n' c']) ∧ WFin w S R sv (.slice a' n' c') ys w'
def chB (o : Int) (g : Bool) (c : Int) (v1 v2 : Value) : Obj := .cells #[.int .i64 o, .bool g, .int .i64 c, v1, v2] 51 (0, 0)
theorem chB_cells {w : World} {b : Nat} {o c : Int} {g : Bool} {v1 v2 : Value} (h : w.heap[b]? = some (chB o g c v1 v2)) : w.cell? ⟨b, 0, none⟩ = some (.int .i64 o) ∧ w.cell? ⟨b, 1, none⟩ = some (.bool g) ∧ w.cell? ⟨b, 2, none⟩ = some (.int .i64 c) ∧ w.cell? ⟨b, 3, none⟩ = some v1 ∧ w.cell? ⟨b, 4, none⟩ = some v2 := by
  unfold chB at h
  refine ⟨?_, ?_, ?_, ?_, ?_⟩ <;> rw [cell_of_row w b _ _ _ _ h] <;> rfl
set_option maxHeartbeats 8000000 in
theorem with_any {w : World} {S R : Nat → Prop} {ra : Option Addr} {n cap : Nat} {xs : List Ch} (chg c oo cc : Int) (g : Bool) {sa ba : Option Addr} {sn sc bn bc : Nat} {vs : List (Int × Int)} {bs : List Int}
    (hR0 : RowT w S R (.slice ra n cap) xs) (io0 : IsO w cc sa sn sc ba bn bc vs bs) (hsn : sn ≤ 8796093022208) (hbn : bn ≤ 140737488355328) (hc64 : -9223372036854775808 ≤ c ∧ c ≤ 9223372036854775807) (hxl : xs.length ≤ 1099511627776)
    (hSl0 : ∀ g, S g → g < w.heap.size) (hRl0 : ∀ g, R g → g < w.heap.size) (hSt0 : ∀ g cur e, S g → w.heap[g]? = some (.cells cur e (0, 0)) → e = 72 ∨ e = 104) :
    Calls Try.prog 36 #[.agg #[.int .i64 chg, .slice ra n cap], .int .i64 c, .agg #[.int .i64 oo, .bool g, .int .i64 cc, .slice sa sn sc, .slice ba bn bc]] w fun e w' => WthP w S R c (.slice ra n cap) (withL c ⟨oo, g, cc, vs, bs⟩ xs) e w' := by
  have E3 : (((w.alloc (recB chg (.slice ra n cap) 78)).alloc (chB oo g cc (.slice sa sn sc) (.slice ba bn bc))).alloc (recB 0 (.slice none 0 0) 78)).heap[w.heap.size]? = some (recB chg (.slice ra n cap) 78) := old1 (old1 (new1 _ _) _) _
  have E5 : (((w.alloc (recB chg (.slice ra n cap) 78)).alloc (chB oo g cc (.slice sa sn sc) (.slice ba bn bc))).alloc (recB 0 (.slice none 0 0) 78)).heap[w.heap.size + 1]? = some (chB oo g cc (.slice sa sn sc) (.slice ba bn bc)) := old1 (new2 _ _ _) _
  have E6 : (((w.alloc (recB chg (.slice ra n cap) 78)).alloc (chB oo g cc (.slice sa sn sc) (.slice ba bn bc))).alloc (recB 0 (.slice none 0 0) 78)).heap[w.heap.size + 1 + 1]? = some (recB 0 (.slice none 0 0) 78) := new3 _ _ _ _
  have B3 : Below w.heap.size w (((w.alloc (recB chg (.slice ra n cap) 78)).alloc (chB oo g cc (.slice sa sn sc) (.slice ba bn bc))).alloc (recB 0 (.slice none 0 0) 78)) := below_size (below_size box_below box_below.size box_below) (by simp; omega) box_below
  go_enter Try.func36, Try.ntmps36
  unfold recB chB at E3 E5 E6 B3
  go_upto_region 1 with fail
  generalize ((w.alloc (.cells #[.int .i64 chg, .slice ra n cap] 78)).alloc (.cells #[.int .i64 oo, .bool g, .int .i64 cc, .slice sa sn sc, .slice ba bn bc] 51)).alloc (.cells #[.int .i64 0, .slice none 0 0] 78) = w3 at *
  have l3 : w.heap.size ≤ w.heap.size := Nat.le_refl _
  have l5 : w.heap.size ≤ w.heap.size + 1 := by omega
  have l6 : w.heap.size ≤ w.heap.size + 1 + 1 := by omega
  have h35 : w.heap.size ≠ w.heap.size + 1 := by omega
  have h36 : w.heap.size ≠ w.heap.size + 1 + 1 := by omega
  have h56 : w.heap.size + 1 ≠ w.heap.size + 1 + 1 := by omega
  generalize w.heap.size + 1 + 1 = b6 at *
  generalize w.heap.size + 1 = b5 at *
  obtain ⟨b3, hb3⟩ : ∃ b, b = w.heap.size := ⟨_, rfl⟩
  rw [← hb3] at E3 h35 h36 ⊢
  replace hb3 : w.heap.size ≤ b3 := Nat.le_of_eq hb3.symm
  replace E3 : w3.heap[b3]? = some (recB chg (.slice ra n cap) 78) := E3
  replace E5 : w3.heap[b5]? = some (chB oo g cc (.slice sa sn sc) (.slice ba bn bc)) := E5
  replace E6 : w3.heap[b6]? = some (recB 0 (.slice none 0 0) 78) := E6
  obtain ⟨t0, t1⟩ := rec_cells E3
  have tf := rec_frozen E3
  have F3 := rec_set0 E3 c
  have F5 := (heap_setCell_other w3 ⟨b3, 0, none⟩ b5 (.int .i64 c) (fun e => h35 e.symm)).trans E5
  have F6 := (heap_setCell_other w3 ⟨b3, 0, none⟩ b6 (.int .i64 c) (fun e => h36 e.symm)).trans E6
  have B4 := below_setCell (i := 0) (x := .int .i64 c) B3 hb3
  clear E3 E5 E6 B3
  go_upto_region 2 with fail
  clear t0 t1 tf
  generalize w3.setCell ⟨b3, 0, none⟩ (.int .i64 c) = w4 at *
  have R4 : RowT w4 S R (.slice ra n cap) xs := hR0.same (fun _ h => h) (fun _ _ h => h) (fun _ h => h) (fun g hg _ => B4.block g hg) (fun g hg => B4.block g (hR0.block hg).2.1)
  have c4 := R4.isC
  obtain ⟨u0, u1⟩ := rec_cells F3
  obtain ⟨y0, y1, y2, y3, y4⟩ := chB_cells F5
  go_cut [15] from 9 to 15 (fun v wx => v = .bool (!g || thereC xs) ∧ Below w4.heap.size w4 wx)
  case first =>
    cases g with
    | false =>
      go_wp2
      go_meet
      exact ⟨rfl, Below.refl _ _⟩
    | true =>
      go_wp2_with (go_at_call 53; refine (there_any c c4).mono ?_; rintro e w5 ⟨rfl, B5⟩)
      go_meet
      exact ⟨by simp, B5⟩
  case rest =>
  obtain ⟨rfl, B5⟩ := hcut
  obtain ⟨wr, rfl⟩ : ∃ wr, wr = wc := ⟨_, rfl⟩
  have B6 := below_size B4 B4.size B5
  have E3 := (B5.block b3 (lt_of_block F3)).trans F3
  have E5 := (B5.block b5 (lt_of_block F5)).trans F5
  have E6 := (B5.block b6 (lt_of_block F6)).trans F6
  have hR : RowT wr S R (.slice ra n cap) xs := R4.same (fun _ h => h) (fun _ _ h => h) (fun _ h => h) (fun g hg _ => B5.block g hg) (fun g hg => B5.block g (R4.block hg).2.1)
  have io := io0.below B6
  have hSl : ∀ g, S g → g < wr.heap.size := fun g hg => Nat.lt_of_lt_of_le (hSl0 g hg) B6.size
  have hSt : ∀ g cur e, S g → wr.heap[g]? = some (.cells cur e (0, 0)) → e = 72 ∨ e = 104 := fun g cur e hg hh => hSt0 g cur e hg (by rw [← B6.block g (hSl0 g hg)]; exact hh)
  have hne3 : (Value.slice ra n cap).ownBlock ≠ some b3 := fun e => by have := (hR0.block e).2.1; omega
  have hne6 : (Value.slice ra n cap).ownBlock ≠ some b6 := fun e => by have := (hR0.block e).2.1; omega
  clear F3 F5 F6 B4 R4 c4 u0 u1 y0 y1 y2 y3 y4 B5 w4 w3
  obtain ⟨x0, x1⟩ := rec_cells E3
  obtain ⟨y0, y1, y2, y3, y4⟩ := chB_cells E5
  have hlw : w.heap.size ≤ wr.heap.size := B6.size
  have wl : Hid (withL c ⟨oo, g, cc, vs, bs⟩ xs = if (!g || thereC xs) = true then xs ++ [⟨c, g, cc, vs, bs⟩] else xs) := rfl
  cases hcond : (!g || thereC xs) with
  | false =>
    rw [hcond] at wl
    clear hcond
    obtain ⟨v0, v1⟩ := rec_cells E6
    have vf := rec_frozen E6
    have G6 := rec_set01 E6 c (.slice ra n cap)
    have B9 := below_setCell (i := 1) (x := .slice ra n cap) (below_setCell (i := 0) (x := .int .i64 c) B6 l6) l6
    clear hne3 io hR hSl hSt
    go_wp2
    exact bodyPost_ret (v := .agg #[.int .i64 c, .slice ra n cap]) (results_cell Try.results36 rfl (load78 G6)) rfl ⟨ra, n, cap, rfl, by rw [wl.out]; exact ⟨with_keep B9 hR0, Fr.of_below B9, fun q hq => .inl hq, fun q _ hq => by obtain ⟨_, hl, cur, hh⟩ := hR0.block hq; exact ⟨cur, (B9.block q hl).trans hh⟩⟩⟩
  | true =>
    rw [hcond] at wl
    clear hcond
    go_upto_region 3 with fail
    refine abstract_act fun A hA => ?_
    have hsz : A.tmps.size = 29 := by rw [hA]; rfl
    have s1 : A.tmps[1]? = some (.int .i64 c) := by rw [hA]; rfl
    have s3 : A.tmps[3]? = some (.pointer (some ⟨b3, 0, none⟩)) := by rw [hA]; rfl
    have s5 : A.tmps[5]? = some (.pointer (some ⟨b5, 0, none⟩)) := by rw [hA]; rfl
    refine wp_region_inv' (fun A D a w' => ∃ (l : List Value) (ga : Option Addr) (qa : Option Addr) (ha1 : Option Addr) (gn : Nat) (gc : Nat) (qn : Nat) (qc : Nat) (nb : Nat) (hn1 : Nat) (hc1 : Nat), a = putAll A 16 l ∧ l.length = 12 ∧ (∀ j, j < 12 → D j → l[j]? = some (wthV b3 b5 n cap ra c cc g sa ba sn sc bn bc ga qa ha1 gn gc qn qc nb hn1 hc1 j)) ∧ (D 10 ∨ Below wr.heap.size wr w') ∧ (D 12 → ∃ w6, w' = w6.setCell ⟨b3, 1, none⟩ (.slice ha1 hn1 hc1) ∧ ∃ (wp : World) (row : Option Nat), Below wr.heap.size wr wp ∧ wp.grownBy w6 row ∧ (∀ q, row = some q → S q ∧ (Value.slice ra n cap).ownBlock = some q ∧ ∃ cur, w6.heap[q]? = some (.cells cur 104 (0, 0))) ∧ RowT w6 (fun q => S q ∨ (wp.heap.size ≤ q ∧ (Value.slice ha1 hn1 hc1).ownBlock = some q)) (plusR R wr wp) (.slice ha1 hn1 hc1) (xs ++ [⟨c, g, cc, vs, bs⟩]) ∧ (∀ q, (Value.slice ha1 hn1 hc1).ownBlock = some q → (S q ∧ (Value.slice ra n cap).ownBlock = some q) ∨ wp.heap.size ≤ q)) ∧ (D 7 → ¬ D 10 → ∃ N, wr.heap.size ≤ N ∧ OwnV w' N (.slice ga gn gc) vs ∧ OwnB w' N (.slice qa qn qc) bs) ∧ (D 9 → ¬ D 10 → ∀ (j : Nat) (v : Value), (⟨⟨c, g, cc, vs, bs⟩, ga, gn, gc, qa, qn, qc⟩ : Cs).cells[j]? = some v → w'.cell? ⟨nb, j, none⟩ = some v) ∧ (D 10 → ¬ D 12 → ∃ (wp : World) (row : Option Nat), Below wr.heap.size wr wp ∧ wp.grownBy w' row ∧ (∀ q, row = some q → S q ∧ (Value.slice ra n cap).ownBlock = some q ∧ ∃ cur, w'.heap[q]? = some (.cells cur 104 (0, 0))) ∧ RowT w' (fun q => S q ∨ (wp.heap.size ≤ q ∧ (Value.slice ha1 hn1 hc1).ownBlock = some q)) (plusR R wr wp) (.slice ha1 hn1 hc1) (xs ++ [⟨c, g, cc, vs, bs⟩]) ∧ (∀ q, (Value.slice ha1 hn1 hc1).ownBlock = some q → (S q ∧ (Value.slice ra n cap).ownBlock = some q) ∨ wp.heap.size ≤ q))) (by kernel_rfl) (by kernel_rfl) ?mono ?start ?step ?done
    case mono =>
      rintro D D' a w' hD ⟨l, ga, qa, ha1, gn, gc, qn, qc, nb, hn1, hc1, ha, hlen, hl, hB, hQ, hEl, hCl, hOC⟩
      exact ⟨l, ga, qa, ha1, gn, gc, qn, qc, nb, hn1, hc1, ha, hlen, fun j hj h => hl j hj ((hD j).2 h), hB.imp_left (hD 10).1, fun h => hQ ((hD 12).2 h), fun h h' => hEl ((hD 7).2 h) (fun k => h' ((hD 10).1 k)), fun h h' => hCl ((hD 9).2 h) (fun k => h' ((hD 10).1 k)), fun h h' => hOC ((hD 10).2 h) (fun k => h' ((hD 12).1 k))⟩
    case start => exact ⟨_, none, none, none, 0, 0, 0, 0, 0, 0, 0, (putAll_start A 16 12 (by omega)).1, (putAll_start A 16 12 (by omega)).2, fun _ _ h => h.elim, .inr ((Below.refl _ _).drew), fun h => h.elim, fun h _ => h.elim, fun h _ => h.elim, fun h _ => h.elim⟩
    case step =>
      clear hA
      intro i o ho D a w' hI hn hcl hd
      obtain ⟨l, ga, qa, ha1, gn, gc, qn, qc, nb, hn1, hc1, ha, hlen, hl, hB, hQ, hEl, hCl, hOC⟩ := hI
      match i, ho with
      | 0, ho =>
        cases Option.some.inj ho
        have ev : a.tmps[3]? = some (.pointer (some ⟨b3, 0, none⟩)) := by rw [ha, putAll_low A 16 3 l (by omega) (by decide)]; exact s3
        refine wp_value (w' := w') (v := .pointer (some ⟨b3, 1, none⟩)) (by simp [execOp, ev, go_sem]) ?_
        exact ⟨_, ga, qa, ha1, gn, gc, qn, qc, nb, hn1, hc1, by rw [ha]; exact putAll_put A 16 0 l _ (by omega) (by omega), by rw [List.length_set]; exact hlen, set_known hlen (by decide) hl, hB.imp_left .inr, fun h => hQ (h.resolve_left (by decide)), fun h h' => hEl (h.resolve_left (by decide)) (fun k => h' (.inr k)), fun h h' => hCl (h.resolve_left (by decide)) (fun k => h' (.inr k)), fun h h' => hOC (h.resolve_left (by decide)) (fun k => h' (.inr k))⟩
      | 1, ho =>
        cases Option.some.inj ho
        have ev : a.tmps[16]? = some (.pointer (some ⟨b3, 1, none⟩)) := known_at ha hsz hlen hl 0 (by decide) (hd ⟨0, .data⟩ (by simp) rfl)
        have hc := ((hB.resolve_left (fun h => hn (hcl 10 _ rfl h ⟨1, .data⟩ (by simp) rfl))).cell (p := ⟨b3, 1, none⟩) (lt_of_cell x1)).trans x1
        refine wp_value (w' := w') (v := .slice ra n cap) (by simp [execOp, ev, go_sem, hc]) ?_
        exact ⟨_, ga, qa, ha1, gn, gc, qn, qc, nb, hn1, hc1, by rw [ha]; exact putAll_put A 16 1 l _ (by omega) (by omega), by rw [List.length_set]; exact hlen, set_known hlen (by decide) hl, hB.imp_left .inr, fun h => hQ (h.resolve_left (by decide)), fun h h' => hEl (h.resolve_left (by decide)) (fun k => h' (.inr k)), fun h h' => hCl (h.resolve_left (by decide)) (fun k => h' (.inr k)), fun h h' => hOC (h.resolve_left (by decide)) (fun k => h' (.inr k))⟩
      | 2, ho =>
        cases Option.some.inj ho
        have ev : a.tmps[1]? = some (.int .i64 c) := by rw [ha, putAll_low A 16 1 l (by omega) (by decide)]; exact s1
        refine wp_value (w' := w') (v := .int .i64 c) (by simp [execOp, ev, go_sem]) ?_
        exact ⟨_, ga, qa, ha1, gn, gc, qn, qc, nb, hn1, hc1, by rw [ha]; exact putAll_put A 16 2 l _ (by omega) (by omega), by rw [List.length_set]; exact hlen, set_known hlen (by decide) hl, hB.imp_left .inr, fun h => hQ (h.resolve_left (by decide)), fun h h' => hEl (h.resolve_left (by decide)) (fun k => h' (.inr k)), fun h h' => hCl (h.resolve_left (by decide)) (fun k => h' (.inr k)), fun h h' => hOC (h.resolve_left (by decide)) (fun k => h' (.inr k))⟩
      | 3, ho =>
        cases Option.some.inj ho
        have ev : a.tmps[5]? = some (.pointer (some ⟨b5, 0, none⟩)) := by rw [ha, putAll_low A 16 5 l (by omega) (by decide)]; exact s5
        refine wp_value (w' := w') (v := .pointer (some ⟨b5, 1, none⟩)) (by simp [execOp, ev, go_sem]) ?_
        exact ⟨_, ga, qa, ha1, gn, gc, qn, qc, nb, hn1, hc1, by rw [ha]; exact putAll_put A 16 3 l _ (by omega) (by omega), by rw [List.length_set]; exact hlen, set_known hlen (by decide) hl, hB.imp_left .inr, fun h => hQ (h.resolve_left (by decide)), fun h h' => hEl (h.resolve_left (by decide)) (fun k => h' (.inr k)), fun h h' => hCl (h.resolve_left (by decide)) (fun k => h' (.inr k)), fun h h' => hOC (h.resolve_left (by decide)) (fun k => h' (.inr k))⟩
      | 4, ho =>
        cases Option.some.inj ho
        have ev : a.tmps[19]? = some (.pointer (some ⟨b5, 1, none⟩)) := known_at ha hsz hlen hl 3 (by decide) (hd ⟨3, .data⟩ (by simp) rfl)
        have hc := ((hB.resolve_left (fun h => (fun h => (fun h => hn (hcl 8 _ rfl h ⟨4, .data⟩ (by simp) rfl)) (hcl 9 _ rfl h ⟨8, .data⟩ (by simp) rfl)) (hcl 10 _ rfl h ⟨9, .data⟩ (by simp) rfl))).cell (p := ⟨b5, 1, none⟩) (lt_of_cell y1)).trans y1
        refine wp_value (w' := w') (v := .bool g) (by simp [execOp, ev, go_sem, hc]) ?_
        exact ⟨_, ga, qa, ha1, gn, gc, qn, qc, nb, hn1, hc1, by rw [ha]; exact putAll_put A 16 4 l _ (by omega) (by omega), by rw [List.length_set]; exact hlen, set_known hlen (by decide) hl, hB.imp_left .inr, fun h => hQ (h.resolve_left (by decide)), fun h h' => hEl (h.resolve_left (by decide)) (fun k => h' (.inr k)), fun h h' => hCl (h.resolve_left (by decide)) (fun k => h' (.inr k)), fun h h' => hOC (h.resolve_left (by decide)) (fun k => h' (.inr k))⟩
      | 5, ho =>
        cases Option.some.inj ho
        have ev : a.tmps[5]? = some (.pointer (some ⟨b5, 0, none⟩)) := by rw [ha, putAll_low A 16 5 l (by omega) (by decide)]; exact s5
        refine wp_value (w' := w') (v := .pointer (some ⟨b5, 2, none⟩)) (by simp [execOp, ev, go_sem]) ?_
        exact ⟨_, ga, qa, ha1, gn, gc, qn, qc, nb, hn1, hc1, by rw [ha]; exact putAll_put A 16 5 l _ (by omega) (by omega), by rw [List.length_set]; exact hlen, set_known hlen (by decide) hl, hB.imp_left .inr, fun h => hQ (h.resolve_left (by decide)), fun h h' => hEl (h.resolve_left (by decide)) (fun k => h' (.inr k)), fun h h' => hCl (h.resolve_left (by decide)) (fun k => h' (.inr k)), fun h h' => hOC (h.resolve_left (by decide)) (fun k => h' (.inr k))⟩
      | 6, ho =>
        cases Option.some.inj ho
        have ev : a.tmps[21]? = some (.pointer (some ⟨b5, 2, none⟩)) := known_at ha hsz hlen hl 5 (by decide) (hd ⟨5, .data⟩ (by simp) rfl)
        have hb := hB.resolve_left (fun h => (fun h => (fun h => (fun h => hn (hcl 7 _ rfl h ⟨6, .data⟩ (by simp) rfl)) (hcl 8 _ rfl h ⟨7, .data⟩ (by simp) rfl)) (hcl 9 _ rfl h ⟨8, .data⟩ (by simp) rfl)) (hcl 10 _ rfl h ⟨9, .data⟩ (by simp) rfl))
        have z2 := (hb.cell (p := ⟨b5, 2, none⟩) (lt_of_cell y2)).trans y2
        have z3 := (hb.cell (p := ⟨b5, 3, none⟩) (lt_of_cell y3)).trans y3
        have z4 := (hb.cell (p := ⟨b5, 4, none⟩) (lt_of_cell y4)).trans y4
        refine wp_value (w' := w') (v := .agg #[.int .i64 cc, .slice sa sn sc, .slice ba bn bc]) (by simp [execOp, ev, go_sem, z2, z3, z4]) ?_
        exact ⟨_, ga, qa, ha1, gn, gc, qn, qc, nb, hn1, hc1, by rw [ha]; exact putAll_put A 16 6 l _ (by omega) (by omega), by rw [List.length_set]; exact hlen, set_known hlen (by decide) hl, hB.imp_left .inr, fun h => hQ (h.resolve_left (by decide)), fun h h' => hEl (h.resolve_left (by decide)) (fun k => h' (.inr k)), fun h h' => hCl (h.resolve_left (by decide)) (fun k => h' (.inr k)), fun h h' => hOC (h.resolve_left (by decide)) (fun k => h' (.inr k))⟩
      | 7, ho =>
        cases Option.some.inj ho
        have ev : a.tmps[22]? = some (.agg #[.int .i64 cc, .slice sa sn sc, .slice ba bn bc]) := known_at ha hsz hlen hl 6 (by decide) (hd ⟨6, .data⟩ (by simp) rfl)
        have hb := hB.resolve_left (fun h => (fun h => (fun h => hn (hcl 8 _ rfl h ⟨7, .data⟩ (by simp) rfl)) (hcl 9 _ rfl h ⟨8, .data⟩ (by simp) rfl)) (hcl 10 _ rfl h ⟨9, .data⟩ (by simp) rfl))
        refine wp_enter (f := 47) (args := #[.agg #[.int .i64 cc, .slice sa sn sc, .slice ba bn bc]]) (by simp [execOp, ev, go_sem]) ?_
        refine (copy_any (io.below hb) hsn hbn).mono ?_
        rintro e w6 ⟨vv, bv, rfl, OV, OB, HB⟩
        refine ⟨_, rfl, ?_⟩
        obtain ⟨ga', gn', gc', rfl⟩ : ∃ a n c, vv = .slice a n c := by obtain ⟨a, c, e, _⟩ := OV.2; exact ⟨_, _, _, e⟩
        obtain ⟨qa', qn', qc', rfl⟩ := OB.shape'
        exact ⟨_, ga', qa', ha1, gn', gc', qn', qc', nb, hn1, hc1, by rw [ha]; exact putAll_put A 16 7 l _ (by omega) (by omega), by rw [List.length_set]; exact hlen, set_known' (val' := wthV b3 b5 n cap ra c cc g sa ba sn sc bn bc ga' qa' ha1 gn' gc' qn' qc' nb hn1 hc1) hlen (by decide) hl (fun j hj hne => match j, hj, hne with | 0, _, _ => rfl | 1, _, _ => rfl | 2, _, _ => rfl | 3, _, _ => rfl | 4, _, _ => rfl | 5, _, _ => rfl | 6, _, _ => rfl | 7, _, hne => absurd rfl hne | 8, hj, _ => absurd hj (fun h => hn (hcl 8 _ rfl h ⟨7, .data⟩ (by simp) rfl)) | 9, _, _ => rfl | 10, _, _ => rfl | 11, _, _ => rfl | j + 12, _, _ => rfl), hB.imp .inr (fun h => below_size h h.size HB), fun h => absurd (h.resolve_left (by decide)) (fun h => (fun h => (fun h => (fun h => hn (hcl 8 _ rfl h ⟨7, .data⟩ (by simp) rfl)) (hcl 9 _ rfl h ⟨8, .data⟩ (by simp) rfl)) (hcl 10 _ rfl h ⟨9, .data⟩ (by simp) rfl)) (hcl 12 _ rfl h ⟨10, .data⟩ (by simp) rfl)), fun _ _ => ⟨_, hb.size, OV, OB⟩, fun h _ => absurd (h.resolve_left (by decide)) (fun h => (fun h => hn (hcl 8 _ rfl h ⟨7, .data⟩ (by simp) rfl)) (hcl 9 _ rfl h ⟨8, .data⟩ (by simp) rfl)), fun h _ => absurd (h.resolve_left (by decide)) (fun h => (fun h => (fun h => hn (hcl 8 _ rfl h ⟨7, .data⟩ (by simp) rfl)) (hcl 9 _ rfl h ⟨8, .data⟩ (by simp) rfl)) (hcl 10 _ rfl h ⟨9, .data⟩ (by simp) rfl))⟩
      | 8, ho =>
        cases Option.some.inj ho
        have ev : a.tmps[18]? = some (.int .i64 c) := known_at ha hsz hlen hl 2 (by decide) (hd ⟨2, .data⟩ (by simp) rfl)
        have ev' : a.tmps[20]? = some (.bool g) := known_at ha hsz hlen hl 4 (by decide) (hd ⟨4, .data⟩ (by simp) rfl)
        have ev'' : a.tmps[23]? = some (.agg #[.int .i64 cc, .slice ga gn gc, .slice qa qn qc]) := known_at ha hsz hlen hl 7 (by decide) (hd ⟨7, .data⟩ (by simp) rfl)
        refine wp_value (w' := w') (v := .agg #[.int .i64 c, .bool g, .int .i64 cc, .slice ga gn gc, .slice qa qn qc]) (by simp [execOp, ev, ev', ev'', go_sem]) ?_
        exact ⟨_, ga, qa, ha1, gn, gc, qn, qc, nb, hn1, hc1, by rw [ha]; exact putAll_put A 16 8 l _ (by omega) (by omega), by rw [List.length_set]; exact hlen, set_known hlen (by decide) hl, hB.imp_left .inr, fun h => hQ (h.resolve_left (by decide)), fun h h' => hEl (h.resolve_left (by decide)) (fun k => h' (.inr k)), fun h h' => hCl (h.resolve_left (by decide)) (fun k => h' (.inr k)), fun h h' => hOC (h.resolve_left (by decide)) (fun k => h' (.inr k))⟩
      | 9, ho =>
        cases Option.some.inj ho
        have ev : a.tmps[24]? = some (.agg #[.int .i64 c, .bool g, .int .i64 cc, .slice ga gn gc, .slice qa qn qc]) := known_at ha hsz hlen hl 8 (by decide) (hd ⟨8, .data⟩ (by simp) rfl)
        have hb := hB.resolve_left (fun h => hn (hcl 10 _ rfl h ⟨9, .data⟩ (by simp) rfl))
        refine wp_value (w' := w'.alloc (.cells #[.int .i64 c, .bool g, .int .i64 cc, .slice ga gn gc, .slice qa qn qc] 104)) (v := .slice (some ⟨w'.heap.size, 0, none⟩) 1 1) (by simp [execOp, ev, go_sem]) ?_
        exact ⟨_, ga, qa, ha1, gn, gc, qn, qc, w'.heap.size, hn1, hc1, by rw [ha]; exact putAll_put A 16 9 l _ (by omega) (by omega), by rw [List.length_set]; exact hlen, set_known' (val' := wthV b3 b5 n cap ra c cc g sa ba sn sc bn bc ga qa ha1 gn gc qn qc w'.heap.size hn1 hc1) hlen (by decide) hl (fun j hj hne => match j, hj, hne with | 0, _, _ => rfl | 1, _, _ => rfl | 2, _, _ => rfl | 3, _, _ => rfl | 4, _, _ => rfl | 5, _, _ => rfl | 6, _, _ => rfl | 7, _, _ => rfl | 8, _, _ => rfl | 9, _, hne => absurd rfl hne | 10, _, _ => rfl | 11, _, _ => rfl | j + 12, _, _ => rfl), hB.imp .inr (fun h => below_size h h.size box_below), fun h => absurd (h.resolve_left (by decide)) (fun h => (fun h => hn (hcl 10 _ rfl h ⟨9, .data⟩ (by simp) rfl)) (hcl 12 _ rfl h ⟨10, .data⟩ (by simp) rfl)), fun h h' => (hEl (h.resolve_left (by decide)) (fun k => h' (.inr k))).imp (fun _ q => ⟨q.1, q.2.1.below box_below, q.2.2.below box_below⟩), fun _ _ => lit_cells (y := (⟨⟨c, g, cc, vs, bs⟩, ga, gn, gc, qa, qn, qc⟩ : Cs)), fun h _ => absurd (h.resolve_left (by decide)) (fun h => hn (hcl 10 _ rfl h ⟨9, .data⟩ (by simp) rfl))⟩
      | 10, ho =>
        cases Option.some.inj ho
        have ev : a.tmps[17]? = some (.slice ra n cap) := known_at ha hsz hlen hl 1 (by decide) (hd ⟨1, .data⟩ (by simp) rfl)
        have ev' : a.tmps[25]? = some (.slice (some ⟨nb, 0, none⟩) 1 1) := known_at ha hsz hlen hl 9 (by decide) (hd ⟨9, .data⟩ (by simp) rfl)
        have hb := hB.resolve_left hn
        obtain ⟨N, hN, El1, El2⟩ := hEl (hcl 9 _ rfl (hd ⟨9, .data⟩ (by simp) rfl) ⟨8, .data⟩ (by simp) rfl |> fun h => hcl 8 _ rfl h ⟨7, .data⟩ (by simp) rfl) hn
        have Cl1 := hCl (hd ⟨9, .data⟩ (by simp) rfl) hn
        have R1 := with_row hb hR hSl
        obtain ⟨ha', hn', hc', w6, row, hr6, O6, g6, r6, at6⟩ := app_ver w' R1 76 (⟨⟨c, g, cc, vs, bs⟩, ga, gn, gc, qa, qn, qc⟩ : Cs) nb Cl1 (with_el hN io.cls El1 El2) hc64 hxl (with_ty hb hSl hSt)
        refine Lib.wp_append_run w' (.tmp 17) (.tmp 25) 76 76 rfl _ _ (by simpa [Act.eval] using eval_some ev) (by simpa [Act.eval] using eval_some ev') _ w6 hr6 ?_
        exact ⟨_, ga, qa, ha', gn, gc, qn, qc, nb, hn', hc', by rw [ha]; exact putAll_put A 16 10 l _ (by omega) (by omega), by rw [List.length_set]; exact hlen, set_known' (val' := wthV b3 b5 n cap ra c cc g sa ba sn sc bn bc ga qa ha' gn gc qn qc nb hn' hc') hlen (by decide) hl (fun j hj hne => match j, hj, hne with | 0, _, _ => rfl | 1, _, _ => rfl | 2, _, _ => rfl | 3, _, _ => rfl | 4, _, _ => rfl | 5, _, _ => rfl | 6, _, _ => rfl | 7, _, _ => rfl | 8, _, _ => rfl | 9, _, _ => rfl | 10, _, hne => absurd rfl hne | 11, _, _ => rfl | j + 12, _, _ => rfl), .inl (.inl rfl), fun h => absurd (h.resolve_left (by decide)) (fun h => hn (hcl 12 _ rfl h ⟨10, .data⟩ (by simp) rfl)), fun _ h' => absurd (.inl rfl) h', fun _ h' => absurd (.inl rfl) h', fun _ _ => ⟨w', row, hb, g6, r6, O6, at6⟩⟩
      | 11, ho =>
        cases Option.some.inj ho
        have ev : a.tmps[3]? = some (.pointer (some ⟨b3, 0, none⟩)) := by rw [ha, putAll_low A 16 3 l (by omega) (by decide)]; exact s3
        refine wp_value (w' := w') (v := .pointer (some ⟨b3, 1, none⟩)) (by simp [execOp, ev, go_sem]) ?_
        exact ⟨_, ga, qa, ha1, gn, gc, qn, qc, nb, hn1, hc1, by rw [ha]; exact putAll_put A 16 11 l _ (by omega) (by omega), by rw [List.length_set]; exact hlen, set_known hlen (by decide) hl, hB.imp_left .inr, fun h => hQ (h.resolve_left (by decide)), fun h h' => hEl (h.resolve_left (by decide)) (fun k => h' (.inr k)), fun h h' => hCl (h.resolve_left (by decide)) (fun k => h' (.inr k)), fun h h' => hOC (h.resolve_left (by decide)) (fun k => h' (.inr k))⟩
      | 12, ho =>
        cases Option.some.inj ho
        have ev : a.tmps[27]? = some (.pointer (some ⟨b3, 1, none⟩)) := known_at ha hsz hlen hl 11 (by decide) (hd ⟨11, .data⟩ (by simp) rfl)
        have ev' : a.tmps[26]? = some (.slice ha1 hn1 hc1) := known_at ha hsz hlen hl 10 (by decide) (hd ⟨10, .data⟩ (by simp) rfl)
        have A6 := hOC (hd ⟨10, .data⟩ (by simp) rfl) hn
        have E6 : w'.heap[b3]? = some (recB c (.slice ra n cap) 78) := with_blk A6 E3 hne3
        obtain ⟨z0, z1⟩ := rec_cells E6
        have zf1 := rec_frozen E6 1
        refine wp_skip (w' := w'.setCell ⟨b3, 1, none⟩ (.slice ha1 hn1 hc1)) (by simp [execOp, Act.eval, ev, ev', go_sem, z1, zf1]) ?_
        exact ⟨l, ga, qa, ha1, gn, gc, qn, qc, nb, hn1, hc1, ha, hlen, fun j hj h => hl j hj (h.resolve_left (by omega)), .inl (.inr (hd ⟨10, .data⟩ (by simp) rfl)), fun _ => ⟨w', rfl, A6⟩, fun _ h' => absurd (Or.inr (hd ⟨10, .data⟩ (by simp) rfl)) h', fun _ h' => absurd (Or.inr (hd ⟨10, .data⟩ (by simp) rfl)) h', fun _ h' => absurd (.inl rfl) h'⟩
      | i + 13, ho => simp at ho
    case done =>
      rintro D a w' ⟨l, ga, qa, ha1, gn, gc, qn, qc, nb, hn1, hc1, ha, hlen, hl, hB, hQ, hEl, hCl, hOC⟩ hall
      obtain ⟨v0, v1, v2, v3, v4, v5, v6, v7, v8, v9, v10, v11, rfl⟩ := wthV_list hlen
      obtain ⟨w6, rfl, A6⟩ := hQ (hall 12 (by decide))
      subst hA
      have hfr : a = _ := ha
      rw [hfr]
      clear hfr ha
      simp only [putAll, List.take_succ_cons, List.take_zero, List.drop_succ_cons, List.drop_zero, List.cons_append, List.nil_append, List.length_cons, List.length_nil]
      clear hl hB hQ hEl hCl hOC hall
      have E3' := with_blk (v := .slice ra n cap) A6 E3 hne3
      have E6' := with_blk (v := .slice none 0 0) A6 E6 hne6
      have G3 := rec_set1 E3' (.slice ha1 hn1 hc1)
      have G6 := (heap_setCell_other w6 ⟨b3, 1, none⟩ b6 (.slice ha1 hn1 hc1) (fun e => h36 e.symm)).trans E6'
      have K6 := (with_fin0 B6 hSl0 (fun q hq => (hR0.block hq).2.2) A6).set (x := .slice ha1 hn1 hc1) (k := 1) hRl0 E3' hb3
      clear E3 E6 A6 E3' E6' hne3 hne6 io hR hSl hSt x0 x1 y0 y1 y2 y3 y4 E5
      generalize w6.setCell ⟨b3, 1, none⟩ (.slice ha1 hn1 hc1) = w7 at *
      obtain ⟨x0, x1⟩ := rec_cells G3
      obtain ⟨v0, v1⟩ := rec_cells G6
      have vf := rec_frozen G6
      have H6 := rec_set01 G6 c (.slice ha1 hn1 hc1)
      have K9 := (K6.set (x := .int .i64 c) (k := 0) hRl0 G6 l6).set (x := .slice ha1 hn1 hc1) (k := 1) hRl0 (rec_set0 G6 c) l6
      clear K6 G6
      go_wp2
      exact bodyPost_ret (v := .agg #[.int .i64 c, .slice ha1 hn1 hc1]) (results_cell Try.results36 rfl (load78 H6)) rfl ⟨ha1, hn1, hc1, rfl, by rw [wl.out]; exact K9⟩
end Go.Proofs.Ytajdelinfkodbaa
