/- one: a transaction as the program has it. -/
import Derived.Test.YtigmpmichhghdaaTxn
namespace Go.Proofs.Ytigmpmichhghdaa
open Go.RowKit
set_option maxRecDepth 100000
/-- Four cells of a transaction. -/
def tv (c d : Int) (v1 v2 : Value) (t : Nat) : Obj := .cells #[.int .i64 c, .int .i64 d, v1, v2] t (0, 0)
theorem tv_cells {w : World} {b t : Nat} {c d : Int} {v1 v2 : Value} (h : w.heap[b]? = some (tv c d v1 v2 t)) : w.cell? ⟨b, 0, none⟩ = some (.int .i64 c) ∧ w.cell? ⟨b, 1, none⟩ = some (.int .i64 d) ∧ w.cell? ⟨b, 2, none⟩ = some v1 ∧ w.cell? ⟨b, 3, none⟩ = some v2 ∧ ∀ i, w.frozen? ⟨b, i, none⟩ = false := by
  unfold tv at h
  refine ⟨?_, ?_, ?_, ?_, fun i => ?_⟩
  · rw [cell_of_row w b 0 _ _ _ h]; rfl
  · rw [cell_of_row w b 1 _ _ _ h]; rfl
  · rw [cell_of_row w b 2 _ _ _ h]; rfl
  · rw [cell_of_row w b 3 _ _ _ h]; rfl
  · unfold World.frozen?
    rw [h]
    rfl
theorem tv_set0 {w : World} {b t : Nat} {c d : Int} {v1 v2 : Value} (h : w.heap[b]? = some (tv c d v1 v2 t)) (x : Int) : (w.setCell ⟨b, 0, none⟩ (.int .i64 x)).heap[b]? = some (tv x d v1 v2 t) := by
  unfold tv at h ⊢
  rw [heap_setCell_same w b 0 _ _ _ h]
  simp
theorem tv_set1 {w : World} {b t : Nat} {c d : Int} {v1 v2 : Value} (h : w.heap[b]? = some (tv c d v1 v2 t)) (x : Int) : (w.setCell ⟨b, 1, none⟩ (.int .i64 x)).heap[b]? = some (tv c x v1 v2 t) := by
  unfold tv at h ⊢
  rw [heap_setCell_same w b 1 _ _ _ h]
  simp
theorem tv_set2 {w : World} {b t : Nat} {c d : Int} {v1 v2 : Value} (h : w.heap[b]? = some (tv c d v1 v2 t)) (v : Value) : (w.setCell ⟨b, 2, none⟩ v).heap[b]? = some (tv c d v v2 t) := by
  unfold tv at h ⊢
  rw [heap_setCell_same w b 2 _ _ _ h]
  simp
theorem tv_set3 {w : World} {b t : Nat} {c d : Int} {v1 v2 : Value} (h : w.heap[b]? = some (tv c d v1 v2 t)) (v : Value) : (w.setCell ⟨b, 3, none⟩ v).heap[b]? = some (tv c d v1 v t) := by
  unfold tv at h ⊢
  rw [heap_setCell_same w b 3 _ _ _ h]
  simp
def stT (w : World) (b : Nat) (c d : Int) (v1 v2 : Value) : World := (((w.setCell ⟨b, 0, none⟩ (.int .i64 c)).setCell ⟨b, 1, none⟩ (.int .i64 d)).setCell ⟨b, 2, none⟩ v1).setCell ⟨b, 3, none⟩ v2
theorem stT_blk {w : World} {b t : Nat} {c0 d0 : Int} {u1 u2 : Value} (h : w.heap[b]? = some (tv c0 d0 u1 u2 t)) (c d : Int) (v1 v2 : Value) : (stT w b c d v1 v2).heap[b]? = some (tv c d v1 v2 t) := tv_set3 (tv_set2 (tv_set1 (tv_set0 h c) d) v1) v2
theorem stT_own {w : World} {n₀ e sz n b t : Nat} {v : Value} {xs : List Value} (h : w.ownsRow n₀ e sz v n xs) {c0 d0 : Int} {u1 u2 : Value} (hb : w.heap[b]? = some (tv c0 d0 u1 u2 t)) (ht : t ≠ e) (c d : Int) (v1 v2 : Value) : (stT w b c d v1 v2).ownsRow n₀ e sz v n xs :=
  own_setCell (own_setCell (own_setCell (own_setCell h hb ht) (tv_set0 hb c) ht) (tv_set1 (tv_set0 hb c) d) ht) (tv_set2 (tv_set1 (tv_set0 hb c) d) v1) ht
theorem stT_below {B b : Nat} {w w' : World} (h : Below B w w') (hb : B ≤ b) (c d : Int) (v1 v2 : Value) : Below B w (stT w' b c d v1 v2) := below_setCell (below_setCell (below_setCell (below_setCell h hb) hb) hb) hb
theorem load31 {w : World} {b off : Nat} {v0 v1 v2 v3 : Value} (h0 : w.cell? ⟨b, off, none⟩ = some v0) (h1 : w.cell? ⟨b, off + 1, none⟩ = some v1) (h2 : w.cell? ⟨b, off + 2, none⟩ = some v2) (h3 : w.cell? ⟨b, off + 3, none⟩ = some v3) : (loadVar 31 ⟨b, off, none⟩).run Try.prog w = .ok (.agg #[v0, v1, v2, v3]) w := by
  have hag : ∀ w, (isAgg 31).run Try.prog w = .ok true w := Try.isAgg31
  have hsz : ∀ w, (sizeOf 31).run Try.prog w = .ok 4 w := Try.sizeOf31
  simp [loadVar, loadCells, loadCellsFrom, hag, hsz, go_sem, Addr.add, h0, h1, h2, h3]
theorem Try.results11 : Try.f11.results = #[.cell 2 31] := by kernel_rfl
set_option maxHeartbeats 4000000 in
theorem one_own {w : World} {m : Tm} (h : m.In w) (hr : m.rn ≤ 1048576) (hw : m.wn ≤ 1048576) :
    Calls Try.prog 11 #[.agg #[.int .i64 m.base, .int .i64 m.com, .slice m.ra m.rn m.rc, .slice m.wa m.wn m.wc]] w fun e w' => ∃ m' : Tm, e = .returned (.agg #[.int .i64 m'.base, .int .i64 m'.com, .slice m'.ra m'.rn m'.rc, .slice m'.wa m'.wn m'.wc]) ∧ m'.d = m.d ∧ OwnI w' w.heap.size (.slice m'.ra m'.rn m'.rc) m.rs ∧ OwnI w' w.heap.size (.slice m'.wa m'.wn m'.wc) m.ws ∧ St 0 w' m' ∧ (∀ g, (Value.slice m'.ra m'.rn m'.rc).ownBlock = some g → (Value.slice m'.wa m'.wn m'.wc).ownBlock ≠ some g) ∧ Below w.heap.size w w' := by
  obtain ⟨c, d, ra, rn, rc, wa, wn, wc, rs, ws⟩ := m
  dsimp only at hr hw ⊢
  go_enter Try.func11, Try.ntmps11
  go_wp2_with (at_builtin; refine app_ints _ rfl _ _ rfl (w.heap.size + 1 + 1 + 1) _ [] rfl (ownI_nil _ _) _ _ _ _ rfl (((h.r.1.below box_below).below box_below).below box_below) (by simp; omega) (by simp) ?_)
  intro a1 n1 c1 w3 O3 B3 _
  have E0 : w3.heap[w.heap.size]? = some (tv c d (.slice ra rn rc) (.slice wa wn wc) 25) := (B3.block _ (by omega)).trans (old1 (old1 (new1 _ _) _) _)
  have E1 : w3.heap[w.heap.size + 1]? = some (tv 0 0 (.slice none 0 0) (.slice none 0 0) 31) := (B3.block _ (by omega)).trans (old1 (new2 _ _ _) _)
  have E2 : w3.heap[w.heap.size + 1 + 1]? = some (tv c d (.slice none 0 0) (.slice none 0 0) 31) := (B3.block _ (by omega)).trans (new3 _ _ _ _)
  have B4 : Below w.heap.size w w3 := (below_size (below_size box_below box_below.size box_below) (by simp; omega) box_below).trans (B3.mono (by omega))
  have g3 : w.heap.size + 1 + 1 + 1 ≤ w3.heap.size := by have := B3.size; simpa using this
  clear B3
  have h01 : w.heap.size ≠ w.heap.size + 1 + 1 := by omega
  have h11 : w.heap.size + 1 ≠ w.heap.size + 1 + 1 := by omega
  have l0 : w.heap.size ≤ w.heap.size := Nat.le_refl _
  have l1 : w.heap.size ≤ w.heap.size + 1 := by omega
  have l2 : w.heap.size ≤ w.heap.size + 1 + 1 := by omega
  generalize w.heap.size + 1 + 1 = b2 at *
  generalize w.heap.size + 1 = b1 at *
  have O4 := own_setCell (i := 2) (x := .slice a1 n1 c1) O3.1 E2 (by decide)
  have E2' := tv_set2 E2 (.slice a1 n1 c1)
  have E0' := (heap_setCell_other w3 ⟨b2, 2, none⟩ w.heap.size (.slice a1 n1 c1) h01).trans E0
  have E1' := (heap_setCell_other w3 ⟨b2, 2, none⟩ b1 (.slice a1 n1 c1) h11).trans E1
  have B5 := below_setCell (i := 2) (x := .slice a1 n1 c1) B4 l2
  have k5 := h.w.1.below B5
  obtain ⟨z0, z1, z2, z3, zf⟩ := tv_cells E2
  obtain ⟨y0, y1, y2, y3, yf⟩ := tv_cells E0
  have sz4 : (w3.setCell ⟨b2, 2, none⟩ (.slice a1 n1 c1)).heap.size = w3.heap.size := by simp
  go_wp2_with (at_builtin; refine app_ints _ rfl _ _ rfl w3.heap.size _ [] rfl (ownI_nil _ _) _ _ _ _ rfl k5 (by simp; omega) (by simp) ?_)
  intro a2 n2 c2 w5 O5 B6 _
  have B6' : Below (w3.setCell ⟨b2, 2, none⟩ (.slice a1 n1 c1)).heap.size (w3.setCell ⟨b2, 2, none⟩ (.slice a1 n1 c1)) w5 := by rw [sz4]; exact B6
  have Q4 := own_below O4 B6'
  have E6 := (B6.block b2 (lt_of_block E2)).trans E2'
  have F6 := (B6.block b1 (lt_of_block E1)).trans E1'
  have B7 := B5.trans (B6.mono (by omega))
  have O3wf := O3.2
  have apart : ∀ g, (Value.slice a1 n1 c1).ownBlock = some g → (Value.slice a2 n2 c2).ownBlock ≠ some g := fun g h1 h2 => by
    obtain ⟨_, cur, hc⟩ := own_block O3.1 h1
    have := lt_of_block hc
    have := (own_block O5.1 h2).1
    omega
  clear z0 z1 z2 z3 zf y0 y1 y2 y3 yf B6 B6' E0 E1 E2 E0' E1' E2' O3 O4 B4 B5 k5 sz4
  have Q5 := own_setCell (i := 3) (x := .slice a2 n2 c2) O5.1 E6 (by decide)
  have Q6 := own_setCell (i := 3) (x := .slice a2 n2 c2) Q4 E6 (by decide)
  have E7 := tv_set3 E6 (.slice a2 n2 c2)
  have F7 := (heap_setCell_other w5 ⟨b2, 3, none⟩ b1 (.slice a2 n2 c2) h11).trans F6
  have B8 := below_setCell (i := 3) (x := .slice a2 n2 c2) B7 l2
  obtain ⟨z0, z1, z2, z3, zf⟩ := tv_cells E6
  obtain ⟨y0, y1, y2, y3, yf⟩ := tv_cells F6
  go_wp2
  clear z0 z1 z2 z3 zf y0 y1 y2 y3 yf
  have E9 := stT_blk F7 c d (.slice a1 n1 c1) (.slice a2 n2 c2)
  obtain ⟨z0, z1, z2, z3, zf⟩ := tv_cells E9
  have P1 : OwnI _ w.heap.size (.slice a1 n1 c1) rs := ⟨own_mono (stT_own Q6 F7 (by decide) c d (.slice a1 n1 c1) (.slice a2 n2 c2)) (by omega), O3wf⟩
  have P2 : OwnI _ w.heap.size (.slice a2 n2 c2) ws := ⟨own_mono (stT_own Q5 F7 (by decide) c d (.slice a1 n1 c1) (.slice a2 n2 c2)) (by omega), O5.2⟩
  exact bodyPost_ret (v := .agg #[.int .i64 c, .int .i64 d, .slice a1 n1 c1, .slice a2 n2 c2]) (results_cell Try.results11 rfl (load31 z0 z1 z2 z3)) rfl ⟨⟨c, d, a1, n1, c1, a2, n2, c2, rs, ws⟩, rfl, rfl, P1, P2, ⟨h.b64, h.c64, P1.st, P2.st⟩, apart, stT_below B8 l1 c d _ _⟩
theorem one_any {w : World} {m : Tm} (h : m.In w) (hr : m.rn ≤ 1048576) (hw : m.wn ≤ 1048576) :
    Calls Try.prog 11 #[.agg #[.int .i64 m.base, .int .i64 m.com, .slice m.ra m.rn m.rc, .slice m.wa m.wn m.wc]] w fun e w' => ∃ m' : Tm, e = .returned (.agg #[.int .i64 m'.base, .int .i64 m'.com, .slice m'.ra m'.rn m'.rc, .slice m'.wa m'.wn m'.wc]) ∧ m'.d = m.d ∧ OwnI w' w.heap.size (.slice m'.ra m'.rn m'.rc) m.rs ∧ OwnI w' w.heap.size (.slice m'.wa m'.wn m'.wc) m.ws ∧ St 0 w' m' ∧ Below w.heap.size w w' :=
  (one_own h hr hw).mono (fun _ _ ⟨m', h1, h2, h3, h4, h5, _, h6⟩ => ⟨m', h1, h2, h3, h4, h5, h6⟩)
end Go.Proofs.Ytigmpmichhghdaa
