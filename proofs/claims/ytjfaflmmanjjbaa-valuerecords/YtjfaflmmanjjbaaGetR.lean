/- A record out of bytes. -/
import Derived.Test.YtjfaflmmanjjbaaChgR2
namespace Go.Proofs.Ytjfaflmmanjjbaa
open Go.RowKit
set_option maxRecDepth 100000
/-- A record read: its commit, its changes, what is left. -/
def recR (s : Option (List Int)) : Int × List Ch × Option (List Int) :=
  (((nR 1099511627776 s).1 : Int), (chsR (nR 4096 (nR 1099511627776 s).2).1 (nR 4096 (nR 1099511627776 s).2).2).1, (chsR (nR 4096 (nR 1099511627776 s).2).1 (nR 4096 (nR 1099511627776 s).2).2).2)
/-- Are these bytes a record's? -/
def okGR (xs : List Int) : Bool := decide ((recR (some xs)).2.2 = some []) && okR (recR (some xs)).1 (recR (some xs)).2.1
def GetRP (w : World) (xs : List Int) (e : Ending) (w' : World) : Prop := Below w.heap.size w w' ∧ ((okGR xs = true ∧ ∃ a n c, e = .returned (.tuple #[.agg #[.int .i64 (recR (some xs)).1, .slice a n c], .int .i64 0]) ∧ OwnC w' w.heap.size 77 (.slice a n c) (recR (some xs)).2.1) ∨ (okGR xs = false ∧ e = .returned (.tuple #[.agg #[.int .i64 0, .slice none 0 0], .int .i64 11])))
theorem Try.results36 : Try.f36.results = #[.cell 2 52, .tmp 3] := by kernel_rfl
def stR (w : World) (b : Nat) (c : Int) (v : Value) : World := (w.setCell ⟨b, 0, none⟩ (.int .i64 c)).setCell ⟨b, 1, none⟩ v
theorem stR_blk {w : World} {b t : Nat} {c0 : Int} {u : Value} (h : w.heap[b]? = some (recB c0 u t)) (c : Int) (v : Value) : (stR w b c v).heap[b]? = some (recB c v t) := rec_set01 h c v
theorem stR_other {w : World} {b g : Nat} (h : g ≠ b) (c : Int) (v : Value) : (stR w b c v).heap[g]? = w.heap[g]? := (heap_setCell_other _ ⟨b, 1, none⟩ g v h).trans (heap_setCell_other _ ⟨b, 0, none⟩ g _ h)
theorem stR_below {B b : Nat} {w w' : World} (h : Below B w w') (hb : B ≤ b) (c : Int) (v : Value) : Below B w (stR w' b c v) := below_setCell (below_setCell h hb) hb
set_option maxHeartbeats 4000000 in
theorem getRecord_any {w : World} {a : Option Addr} {n c : Nat} {xs : List Int} (I : IsB w a n c xs) (hl : n ≤ 140737488500000) : Calls Try.prog 36 #[.slice a n c] w fun e w' => GetRP w xs e w' := by
  unfold GetRP okGR recR
  have l1 := nR_len 1099511627776 (some xs)
  obtain ⟨m, s1, h1⟩ : ∃ m s1, Hid (nR 1099511627776 (some xs) = (m, s1)) := ⟨_, _, rfl⟩
  rw [h1.out] at l1 ⊢
  dsimp only at l1 ⊢
  obtain ⟨cs, st, hC⟩ : ∃ cs st, Hid (chsR (nR 4096 s1).1 (nR 4096 s1).2 = (cs, st)) := ⟨_, _, rfl⟩
  rw [hC.out]
  dsimp only
  obtain ⟨mi, hmi⟩ : ∃ mi : Int, Hid ((m : Int) = mi) := ⟨_, rfl⟩
  rw [hmi.out]
  generalize hPost : (fun (e : Ending) (w' : World) => Below w.heap.size w w' ∧ (((decide (st = some []) && okR mi cs) = true ∧ ∃ a n c, e = .returned (.tuple #[.agg #[.int .i64 mi, .slice a n c], .int .i64 0]) ∧ OwnC w' w.heap.size 77 (.slice a n c) cs) ∨ ((decide (st = some []) && okR mi cs) = false ∧ e = .returned (.tuple #[.agg #[.int .i64 0, .slice none 0 0], .int .i64 11])))) = Post
  have E1 := old1 (old1 (new1 w (recB 0 (.slice none 0 0) 52)) (rdO (.slice a n c) false)) (recB 0 (.slice none 0 0) 52)
  have E2 := old1 (new2 w (recB 0 (.slice none 0 0) 52) (rdO (.slice a n c) false)) (recB 0 (.slice none 0 0) 52)
  have E3 := new1 ((w.alloc (recB 0 (.slice none 0 0) 52)).alloc (rdO (.slice a n c) false)) (recB 0 (.slice none 0 0) 52)
  have B2 : Below w.heap.size w (((w.alloc (recB 0 (.slice none 0 0) 52)).alloc (rdO (.slice a n c) false)).alloc (recB 0 (.slice none 0 0) 52)) := below_size (below_size box_below box_below.size box_below) (below_size box_below box_below.size box_below).size box_below
  have sz2 : w.heap.size + 1 + 1 + 1 = (((w.alloc (recB 0 (.slice none 0 0) 52)).alloc (rdO (.slice a n c) false)).alloc (recB 0 (.slice none 0 0) 52)).heap.size := by rw [size1, size1, size1]
  rw [size1, size1] at E3
  unfold recB rdO at E1 E2 E3 B2 sz2
  go_enter Try.func36, Try.ntmps36
  go_wp2_with fail
  generalize ((w.alloc (.cells #[.int .i64 0, .slice none 0 0] 52)).alloc (.cells #[.slice a n c, .bool false] 70)).alloc (.cells #[.int .i64 0, .slice none 0 0] 52) = w2 at *
  replace E1 : w2.heap[w.heap.size]? = some (recB 0 (.slice none 0 0) 52) := E1
  replace E2 : w2.heap[w.heap.size + 1]? = some (rdO (.slice a n c) false) := E2
  replace E3 : w2.heap[w.heap.size + 1 + 1]? = some (recB 0 (.slice none 0 0) 52) := E3
  have R2 : Rd w w2 (w.heap.size + 1) (some xs) := ⟨a, n, c, E2, I⟩
  have hr1 : w.heap.size ≤ w.heap.size + 1 := by omega
  have hr2 : w.heap.size ≠ w.heap.size + 1 := by omega
  have hr3 : w.heap.size + 1 + 1 ≠ w.heap.size + 1 := by omega
  have hr4 : w.heap.size + 1 + 1 ≠ w.heap.size := by omega
  have hr5 : w.heap.size ≤ w.heap.size + 1 + 1 := by omega
  have hsz := I.size
  replace sz2 : w.heap.size + 1 + 1 < w2.heap.size := by omega
  generalize w.heap.size + 1 + 1 = rr at *
  generalize w.heap.size + 1 = rb at *
  refine (number_lit R2 B2 1099511627776 1099511627776 rfl (by decide)).mono ?_
  rintro e w3 ⟨rfl, R3, K3⟩
  rw [h1.out] at R3 ⊢
  dsimp only at R3 ⊢
  rw [hmi.out]
  have B3 := K3.below B2 B2.size hr1
  have F3 := (K3.block _ (lt_of_block E1) hr2).trans E1
  have G3 := (K3.block _ (lt_of_block E3) hr3).trans E3
  have G4 := rec_set0 G3 mi
  have F4 := (heap_setCell_other w3 ⟨rr, 0, none⟩ w.heap.size (.int .i64 mi) (Ne.symm hr4)).trans F3
  have R4 := R3.keep (w' := w3.setCell ⟨rr, 0, none⟩ (.int .i64 mi)) (heap_setCell_other _ _ _ _ (Ne.symm hr3))
  have B4 : Below w.heap.size w (w3.setCell ⟨rr, 0, none⟩ (.int .i64 mi)) := below_setCell B3 hr5
  have sz4 : rr < (w3.setCell ⟨rr, 0, none⟩ (.int .i64 mi)).heap.size := lt_of_block G4
  obtain ⟨z0, z1⟩ := rec_cells G3
  have zf := rec_frozen G3
  clear R2 E1 E2 E3 R3 K3 B3 F3 B2 sz2
  go_wp2_with fail
  clear z0 z1 zf G3
  generalize w3.setCell ⟨rr, 0, none⟩ (.int .i64 mi) = w4 at *
  refine (changes_rd R4 B4 hr1 (by have : lenS (some xs) = n := hsz; omega)).mono ?_
  rintro e w5 ⟨v, rfl, O5, R5, K5⟩
  rw [hC.out] at O5 R5
  dsimp only at O5 R5
  have hw4 : w.heap.size ≤ w4.heap.size := B4.size
  have B5 := K5.below B4 B4.size hr1
  have F5 := (K5.block _ (lt_of_block F4) hr2).trans F4
  have G5 := (K5.block _ (lt_of_block G4) hr3).trans G4
  obtain ⟨a5, n5, c5, rfl, -⟩ := O5.shape'
  have G6 := rec_set1 G5 (.slice a5 n5 c5)
  have F6 := (heap_setCell_other w5 ⟨rr, 1, none⟩ w.heap.size (.slice a5 n5 c5) (Ne.symm hr4)).trans F5
  have R6 := R5.keep (w' := w5.setCell ⟨rr, 1, none⟩ (.slice a5 n5 c5)) (heap_setCell_other _ _ _ _ (Ne.symm hr3))
  have B6 : Below w.heap.size w (w5.setCell ⟨rr, 1, none⟩ (.slice a5 n5 c5)) := below_setCell B5 hr5
  have O6 : OwnC (w5.setCell ⟨rr, 1, none⟩ (.slice a5 n5 c5)) w.heap.size 77 (.slice a5 n5 c5) cs := (O5.mono hw4).set G5 (by decide) (by decide) (by decide)
  obtain ⟨z0, z1⟩ := rec_cells G5
  have zf := rec_frozen G5
  clear R4 B4 F4 G4 O5 R5 K5 B5 F5 sz4 hw4
  go_wp2_with fail
  clear z0 z1 zf G5
  generalize w5.setCell ⟨rr, 1, none⟩ (.slice a5 n5 c5) = w6 at *
  refine (atEnd_rd R6).mono ?_
  rintro e w7 ⟨rfl, rfl⟩
  obtain ⟨y0, y1⟩ := rec_cells F6
  have yf := rec_frozen F6
  obtain ⟨z0, z1⟩ := rec_cells G6
  have zf := rec_frozen G6
  by_cases hst : st = some []
  · simp only [decide_eq_true hst]
    go_wp2_with fail
    refine (rightRecord_any mi O6.isC).mono ?_
    rintro e w8 ⟨rfl, B8⟩
    have F8 := (B8.block _ (lt_of_block F6)).trans F6
    have G8 := (B8.block _ (lt_of_block G6)).trans G6
    have O8 := O6.below B8
    have B9 := below_size B6 B6.size B8
    clear y0 y1 yf z0 z1 zf F6 G6 O6 R6 B8 B6
    cases hok : okR mi cs with
    | false =>
      obtain ⟨y0, y1⟩ := rec_cells F8
      have yf := rec_frozen F8
      go_wp2
      clear y0 y1 yf
      have E9 := stR_blk F8 0 (.slice none 0 0)
      rw [← hPost]
      exact bodyPost_ret (v := .tuple #[.agg #[.int .i64 0, .slice none 0 0], .int .i64 11]) (results_two Try.results36 rfl (load52 E9) rfl) rfl ⟨stR_below B9 (Nat.le_refl _) _ _, .inr ⟨by rw [hok]; simp, rfl⟩⟩
    | true =>
      obtain ⟨y0, y1⟩ := rec_cells F8
      have yf := rec_frozen F8
      obtain ⟨z0, z1⟩ := rec_cells G8
      go_wp2
      clear y0 y1 yf z0 z1
      have E9 := stR_blk F8 mi (.slice a5 n5 c5)
      rw [← hPost]
      exact bodyPost_ret (v := .tuple #[.agg #[.int .i64 mi, .slice a5 n5 c5], .int .i64 0]) (results_two Try.results36 rfl (load52 E9) rfl) rfl ⟨stR_below B9 (Nat.le_refl _) _ _, .inl ⟨by rw [hok, decide_eq_true hst]; rfl, _, _, _, rfl, (O8.set F8 (by decide) (by decide) (by decide)).set (rec_set0 F8 mi) (by decide) (by decide) (by decide)⟩⟩
  · simp only [decide_eq_false hst]
    go_wp2
    clear z0 z1 zf y0 y1 yf
    have E9 := stR_blk F6 0 (.slice none 0 0)
    rw [← hPost]
    exact bodyPost_ret (v := .tuple #[.agg #[.int .i64 0, .slice none 0 0], .int .i64 11]) (results_two Try.results36 rfl (load52 E9) rfl) rfl ⟨stR_below B6 (Nat.le_refl _) _ _, .inr ⟨by rw [decide_eq_false hst]; rfl, rfl⟩⟩
end Go.Proofs.Ytjfaflmmanjjbaa
