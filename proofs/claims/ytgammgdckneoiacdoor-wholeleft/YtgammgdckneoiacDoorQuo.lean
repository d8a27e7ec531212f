/- quotientRest by a number of one word. -/
import Derived.Test.YtgammgdckneoiacDoorTrim
import Derived.Test.YtgammgdckneoiacDoorAny
import Derived.StillTailTactics
import Derived.BigQuiet
import Derived.Deep.RegionWith
namespace Go.Proofs.YtgammgdckneoiacDoor
open Go.RowKit

theorem alloc4 (w : World) (o0 o1 o2 o3 : Obj) :
    ((((w.alloc o0).alloc o1).alloc o2).alloc o3).heap[w.heap.size]? = some o0 ∧ ((((w.alloc o0).alloc o1).alloc o2).alloc o3).heap[w.heap.size + 1]? = some o1 ∧ ((((w.alloc o0).alloc o1).alloc o2).alloc o3).heap[w.heap.size + 2]? = some o2 ∧ ((((w.alloc o0).alloc o1).alloc o2).alloc o3).heap[w.heap.size + 3]? = some o3 ∧ Below w.heap.size w ((((w.alloc o0).alloc o1).alloc o2).alloc o3) := by
  have s2 : ((w.alloc o0).alloc o1).heap.size = w.heap.size + 2 := by simp
  have e2 := heap_alloc2_old ((w.alloc o0).alloc o1) o2 o3
  have e3 := heap_alloc2_new ((w.alloc o0).alloc o1) o2 o3
  rw [s2] at e2 e3
  refine ⟨?_, ?_, e2, e3, ((box2 w _ _).alloc (by simp; omega) _).alloc (by simp; omega) _⟩
  · exact (Below.heap_alloc _ _ _ (by simp; omega)).trans ((Below.heap_alloc _ _ _ (by simp; omega)).trans (heap_alloc2_old w _ _))
  · exact (Below.heap_alloc _ _ _ (by simp)).trans ((Below.heap_alloc _ _ _ (by simp)).trans (heap_alloc2_new w _ _))

theorem results_cells2 {fn : Func} {p p' : Tmp} (h : fn.results = #[.cell p 56, .cell p' 56]) (tmps : Array Value) (w : World) (g g' : Nat) {u v : Nat}
    (hp : tmps.getD p undef = .pointer (some ⟨g, 0, none⟩)) (hp' : tmps.getD p' undef = .pointer (some ⟨g', 0, none⟩)) (h1 : Arr w g 56 (words 32 u)) (h2 : Arr w g' 56 (words 32 v)) :
    (results fn tmps).run Tryd.prog w = .ok (.tuple #[.agg (cellsW (words 32 u)), .agg (cellsW (words 32 v))]) w := by
  have hp1 : tmps[p]?.getD undef = .pointer (some ⟨g, 0, none⟩) := by simpa using hp
  have hp2 : tmps[p']?.getD undef = .pointer (some ⟨g', 0, none⟩) := by simpa using hp'
  simp [results, h, hp1, hp2, asAddr, run_loadVar_row w g 56 56 _ _ _ h1 Tryd.underlying56 rfl (size67 _), run_loadVar_row w g' 56 56 _ _ _ h2 Tryd.underlying56 rfl (size67 _)]

set_option maxRecDepth 100000 in
set_option maxHeartbeats 2000000 in
theorem quo_one (x y : Nat) (w : World) (hx : x < 4294967296 ^ 32) (hy : y < 4294967296) (hy0 : y ≠ 0) :
    Calls Tryd.prog 37 #[W 32 x, W 32 y] w fun e w' => e = .returned (.tuple #[W 32 (x / y), W 32 (x % y)]) ∧ Below w.heap.size w w' := by
  unfold W
  have hwy : wlen y = 1 := wlen_unique y 0 (by simpa using hy) (by simp; omega)
  have hwx := wlen_le x 32 hx
  have hxw := wlen_spec x
  obtain ⟨m, Hm⟩ : ∃ m, Hid (wlen x = m) := ⟨_, rfl⟩
  rw [Hm.out] at hwx hxw
  go_enter Tryd.func37, Tryd.ntmps37
  go_wp2
  rw [zero32]
  obtain ⟨a0, a1, a2, a3, hb⟩ := alloc4 w (.cells (cellsW (words 32 x)) 56) (.cells (cellsW (words 32 y)) 56) (.cells (cellsW (words 32 0)) 56) (.cells (cellsW (words 32 0)) 56)
  generalize (((w.alloc (.cells (cellsW (words 32 x)) 56)).alloc (.cells (cellsW (words 32 y)) 56)).alloc (.cells (cellsW (words 32 0)) 56)).alloc (.cells (cellsW (words 32 0)) 56) = w1 at *
  have b0 : Arr w1 w.heap.size 56 (words 32 x) := a0
  have b1 : Arr w1 (w.heap.size + 1) 56 (words 32 y) := a1
  have b2 : Arr w1 (w.heap.size + 2) 56 (words 32 0) := a2
  have b3 : Arr w1 (w.heap.size + 3) 56 (words 32 0) := a3
  clear a0 a1 a2 a3
  have u0 : ∀ j, Calls Tryd.prog 41 #[.slice (some ⟨w.heap.size, 0, none⟩) 32 32] (w1.drewN j) fun e w' => e = .returned (.int .i64 (m : Int)) ∧ w' = w1.drewN j := fun j => by
    have := used_part w.heap.size 56 32 x (w1.drewN j) b0 (by decide) hx
    rw [Hm.out] at this
    exact this.mono fun _ _ h => ⟨h.1, h.2.symm⟩
  have u1 : ∀ j, Calls Tryd.prog 41 #[.slice (some ⟨w.heap.size + 1, 0, none⟩) 32 32] (w1.drewN j) fun e w' => e = .returned (.int .i64 1) ∧ w' = w1.drewN j := fun j => by
    have := used_part (w.heap.size + 1) 56 32 y (w1.drewN j) b1 (by decide) (Nat.lt_of_lt_of_le hy (by decide))
    rw [hwy] at this
    exact this.mono fun _ _ h => ⟨h.1, h.2.symm⟩
  refine wp_region_quiet_lit (by kernel_rfl) (by kernel_rfl) ?_
  quiet_step (fail)
  refine wpQuiet_step (fun K hK => ?_)
  go_simp
  refine ⟨.int .i64 1, fun n => Calls.quiet_of_same (u1 n), hK _ ?_⟩
  clear hK K
  quiet_step (fail)
  refine wpQuiet_step (fun K hK => ?_)
  go_simp
  refine ⟨.int .i64 (m : Int), fun n => Calls.quiet_of_same (u0 n), hK _ ?_⟩
  clear hK K
  quiet_step (fail)
  quiet_step (fail)
  refine wpQuiet_nil ?_
  intro _ hw'
  obtain ⟨nq, hw''⟩ := hw'
  subst hw''
  clear u0 u1
  have c0 : Arr (w1.drewN nq) w.heap.size 56 (words 32 x) := b0
  have c1 : Arr (w1.drewN nq) (w.heap.size + 1) 56 (words 32 y) := b1
  have c2 : Arr (w1.drewN nq) (w.heap.size + 2) 56 (words 32 0) := b2
  have c3 : Arr (w1.drewN nq) (w.heap.size + 3) 56 (words 32 0) := b3
  have hB := below_drewN hb nq
  clear b0 b1 b2 b3 hb
  generalize w1.drewN nq = w2 at *
  have hy0' : w2.cell? ⟨w.heap.size + 1, 0, none⟩ = some (.int .u32 (y : Int)) := by
    rw [c1.cell 0 (by rw [words_len]; decide), List.getD_eq_getElem?_getD, words_get 32 y 0 (by decide)]
    simp [Nat.mod_eq_of_lt hy]
  have hsl := run_upto ⟨w.heap.size, 0, none⟩ m hwx
  go_wp2
  go_still_tail 4, (by kernel_rfl)
  go_wp2_with fail
  have c0d : Arr w2.drew w.heap.size 56 (words 32 x) := c0
  refine (divShort_used w.heap.size 56 m x y _ c0d hwx hxw (by omega) hy).mono ?_
  rintro e w3 ⟨rfl, rfl⟩
  have d0 := Arr.setW (w := w2.drew) c0 (words 32 (x / y))
  have d2 := Arr.otherW (w := w2.drew) c2 (cellsW (words 32 (x / y))) (show w.heap.size + 2 ≠ w.heap.size by omega)
  have d3 := Arr.otherW (w := w2.drew) c3 (cellsW (words 32 (x / y))) (show w.heap.size + 3 ≠ w.heap.size by omega)
  have hB3 := below_setRow hB.drew (Nat.le_refl _) (cellsW (words 32 (x / y)))
  clear c0 c1 c2 c3 c0d hB hy0' hsl
  generalize w2.drew.setRow w.heap.size (cellsW (words 32 (x / y))) = w3 at *
  have hz0 : w3.cell? ⟨w.heap.size + 3, 0, none⟩ = some (.int .u32 0) := by
    rw [d3.cell 0 (by rw [words_len]; decide), List.getD_eq_getElem?_getD, words_get 32 0 0 (by decide)]
    rfl
  have hf0 := d3.frozen 0
  have hxy : x % y < y := Nat.mod_lt _ (by omega)
  have hw0 : (words 32 0).set 0 ((x % y : Nat) : Int) = words 32 (x % y) := by
    have := words_put 32 0 (x % y) 0 (by decide) (by simp; omega)
    simpa using this
  have g3 := d3.set 0 ((x % y : Nat) : Int)
  rw [hw0] at g3
  have g0 := d0.other (b' := w.heap.size + 3) (i := 0) (v := .int .u32 ((x % y : Nat) : Int)) (by omega)
  have g2 := d2.other (b' := w.heap.size + 3) (i := 0) (v := .int .u32 ((x % y : Nat) : Int)) (by omega)
  have gB : Below w.heap.size w (w3.setCell ⟨w.heap.size + 3, 0, none⟩ (.int .u32 ((x % y : Nat) : Int))) := hB3.setCell (by simp) _
  obtain ⟨R, HR⟩ : ∃ R, Hid (x % y = R) := ⟨_, rfl⟩
  obtain ⟨q, Hq⟩ : ∃ q, Hid (x / y = q) := ⟨_, rfl⟩
  rw [HR.out] at g0 g2 g3 gB hxy ⊢
  rw [Hq.out] at g0
  clear d0 d2 d3 hB3 hw0
  go_wp2
  generalize w3.setCell ⟨w.heap.size + 3, 0, none⟩ (.int .u32 (R : Int)) = w4 at *
  refine wp_region_inv' (fun A D a w' => ∃ v25 v26 zs, a = (A.put (some 25) v25).put (some 26) v26 ∧ Below w.heap.size w w' ∧ Arr w' w.heap.size 56 (words 32 q) ∧ Arr w' (w.heap.size + 2) 56 zs ∧ zs.length = 32 ∧ Arr w' (w.heap.size + 3) 56 (words 32 R) ∧ (D 0 → v25 = .agg (cellsW (words 32 q))) ∧ (D 1 → v26 = .agg (cellsW (words 32 R))) ∧ (D 2 → zs = words 32 q)) (by kernel_rfl) (by kernel_rfl) ?mono ?start ?step ?done
  case mono =>
    rintro D D' a w' hD ⟨v25, v26, zs, rfl, h1, h2, h3, h4, h5, h6, h7, h8⟩
    exact ⟨v25, v26, zs, rfl, h1, h2, h3, h4, h5, fun h => h6 ((hD 0).2 h), fun h => h7 ((hD 1).2 h), fun h => h8 ((hD 2).2 h)⟩
  case start => exact ⟨undef, undef, _, by rfl, gB.drew, g0, g2, words_len _ _, g3, fun h => h.elim, fun h => h.elim, fun h => h.elim⟩
  case step =>
    intro i o ho D a w' hI hn hcl hd
    obtain ⟨v25, v26, zs, rfl, h1, h2, h3, h4, h5, h6, h7, h8⟩ := hI
    match i, ho with
    | 0, ho =>
      cases Option.some.inj ho
      refine wp_load_row 56 (.tmp 2) rfl w.heap.size (by rfl) 56 _ _ _ h2 Tryd.underlying56 rfl (size67 _) ?_
      exact ⟨_, v26, zs, by rfl, h1, h2, h3, h4, h5, fun _ => rfl, fun h => h7 (h.resolve_left (by decide)), fun h => h8 (h.resolve_left (by decide))⟩
    | 1, ho =>
      cases Option.some.inj ho
      refine wp_load_row 56 (.tmp 5) rfl (w.heap.size + 3) (by rfl) 56 _ _ _ h5 Tryd.underlying56 rfl (size67 _) ?_
      exact ⟨v25, _, zs, by rfl, h1, h2, h3, h4, h5, fun h => h6 (h.resolve_left (by decide)), fun _ => rfl, fun h => h8 (h.resolve_left (by decide))⟩
    | 2, ho =>
      cases Option.some.inj ho
      have hv := h6 (hd ⟨0, .data⟩ (by simp) rfl)
      subst hv
      refine wp_store_row 56 (.tmp 4) (.tmp 25) rfl (w.heap.size + 2) _ (by rfl) (by rfl) 56 _ h3 (size67 _) (by rw [cellsW_size, cellsW_size, words_len, h4]) (cellsW_one _) ?_
      exact ⟨_, v26, _, by rfl, below_setRow h1 (by omega) _, h2.otherW _ (by omega), h3.setW _, words_len _ _, h5.otherW _ (by omega), fun _ => rfl, fun h => h7 (h.resolve_left (by decide)), fun _ => rfl⟩
    | 3, ho =>
      cases Option.some.inj ho
      have hv := h7 (hd ⟨1, .data⟩ (by simp) rfl)
      subst hv
      refine wp_store_row 56 (.tmp 5) (.tmp 26) rfl (w.heap.size + 3) _ (by rfl) (by rfl) 56 _ h5 (size67 _) (by rw [cellsW_size]) (cellsW_one _) ?_
      exact ⟨v25, _, zs, by rfl, below_setRow h1 (by omega) _, h2.otherW _ (by omega), h3.otherW _ (by omega), h4, h5.setW _, fun h => h6 (h.resolve_left (by decide)), fun _ => rfl, fun h => h8 (h.resolve_left (by decide))⟩
    | i + 4, ho => simp at ho
  case done =>
    rintro D a w' ⟨v25, v26, zs, rfl, h1, h2, h3, h4, h5, h6, h7, h8⟩ hall
    have hz := h8 (hall 2 (by decide))
    subst hz
    go_wp2
    exact bodyPost_ret (v := .tuple #[.agg (cellsW (words 32 q)), .agg (cellsW (words 32 R))]) (results_cells2 (p := 4) (p' := 5) (by rfl) _ _ (w.heap.size + 2) (w.heap.size + 3) rfl rfl h3 h5) rfl ⟨by rw [Hq.out, HR.out], h1⟩
end Go.Proofs.YtgammgdckneoiacDoor
