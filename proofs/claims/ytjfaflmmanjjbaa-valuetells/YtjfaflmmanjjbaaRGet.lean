/- The document's Get. -/
import Derived.Test.YtjfaflmmanjjbaaSObj2
namespace Go.Proofs.Ytjfaflmmanjjbaa
open Go.RowKit
set_option maxRecDepth 100000
theorem okG_fin {xs : List Int} : okG xs = decide (fin (some xs) = some []) := by
  unfold okG fin
  cases okO (objR (some xs)).1 (objR (some xs)).2.1 (objR (some xs)).2.2.1.length with
  | true => simp
  | false => simp
/-- What comes of Get. -/
def GetP (w : World) (xs : List Int) (e : Ending) (w' : World) : Prop := Below w.heap.size w w' ∧ ((okG xs = true ∧ ∃ vv bv, e = .returned (.tuple #[.agg #[.int .i64 (objR (some xs)).1, vv, bv], .int .i64 0]) ∧ OwnV w' w.heap.size vv (objR (some xs)).2.1 ∧ OwnB w' w.heap.size bv (objR (some xs)).2.2.1) ∨ (okG xs = false ∧ e = .returned (.tuple #[.agg #[.int .i64 0, .slice none 0 0, .slice none 0 0], .int .i64 11])))
set_option maxHeartbeats 4000000 in
theorem rget_any {w : World} {a : Option Addr} {n c : Nat} {xs : List Int} (I : IsB w a n c xs) (hl : n ≤ 140737488351232) : Calls Try.prog 27 #[.slice a n c] w fun e w' => GetP w xs e w' := by
  have hsz := I.size
  have E1 := old1 (new1 w (objB 0 (.slice none 0 0) (.slice none 0 0))) (scO (.slice none 0 0) false)
  have E2 := new2 w (objB 0 (.slice none 0 0) (.slice none 0 0)) (scO (.slice none 0 0) false)
  have B2 : Below w.heap.size w ((w.alloc (objB 0 (.slice none 0 0) (.slice none 0 0))).alloc (scO (.slice none 0 0) false)) := below_size box_below box_below.size box_below
  have sz2 : w.heap.size + 1 + 1 = ((w.alloc (objB 0 (.slice none 0 0) (.slice none 0 0))).alloc (scO (.slice none 0 0) false)).heap.size := by rw [size1, size1]
  have I2 := I.below B2
  unfold objB scO at E1 E2 B2 sz2 I2
  go_enter Try.func27, Try.ntmps27
  go_wp2_with (at_builtin; refine app_own _ rfl _ _ rfl (w.heap.size + 1 + 1) _ [] rfl (ownB_nil _ _) _ _ _ _ rfl I2 (by simp; omega) (by simp) ?_)
  intro a3 n3 c3 w3 O3 G3
  generalize (w.alloc (.cells #[.int .i64 0, .slice none 0 0, .slice none 0 0] 27)).alloc (.cells #[.slice none 0 0, .bool false] 74) = w2 at *
  replace E1 : w2.heap[w.heap.size]? = some (objB 0 (.slice none 0 0) (.slice none 0 0)) := E1
  replace E2 : w2.heap[w.heap.size + 1]? = some (scO (.slice none 0 0) false) := E2
  have E3 := G3.keep _ _ 27 (by decide) E1
  have F3 := G3.keep _ _ 74 (by decide) E2
  have B3 := B2.trans (G3.below.mono (by omega))
  have hlt3 := O3.lt
  have hr1 : w.heap.size ≤ w.heap.size + 1 := by omega
  have hr2 : w.heap.size ≠ w.heap.size + 1 := by omega
  have hr4 : w.heap.size + 1 < w3.heap.size := lt_of_block F3
  clear G3 E1 E2 I2 B2 sz2
  replace E3 : w3.heap[w.heap.size]? = some (objB 0 (.slice none 0 0) (.slice none 0 0)) := E3
  replace F3 : w3.heap[w.heap.size + 1]? = some (scO (.slice none 0 0) false) := F3
  obtain ⟨z0, z1, zf⟩ := sc_cells F3
  have E4 := (heap_setCell_other w3 ⟨w.heap.size + 1, 0, none⟩ w.heap.size (.slice a3 n3 c3) hr2).trans E3
  have F4 := sc_set0 F3 (.slice a3 n3 c3)
  have B4 := below_setCell (i := 0) (x := .slice a3 n3 c3) B3 hr1
  have O4 := O3.same (w' := w3.setCell ⟨w.heap.size + 1, 0, none⟩ (.slice a3 n3 c3)) (fun g hg => heap_setCell_other _ _ _ _ (by have := (hlt3 g hg).1; show g ≠ w.heap.size + 1; omega))
  have hr5 : w.heap.size + 1 < (w3.setCell ⟨w.heap.size + 1, 0, none⟩ (.slice a3 n3 c3)).heap.size := by simpa using hr4
  clear E3 F3 B3
  rw [List.nil_append] at O4
  have hn3 : n3 = n := by have := O4.isB.size; omega
  subst hn3
  have R4 : Sc (w3.setCell ⟨w.heap.size + 1, 0, none⟩ (.slice a3 n3 c3)) (w3.setCell ⟨w.heap.size + 1, 0, none⟩ (.slice a3 n3 c3)) (w.heap.size + 1) (some xs) := ⟨⟨a3, n3, c3, xs, F4, O4.isB, (fun ad e => by
    subst e
    have := (O4.lt ad.block rfl).1
    omega), (fun ys e => Option.some.inj e), by omega⟩, But.refl _ _⟩
  clear O3 O4 F4 hlt3 hr4
  go_wp2_with fail
  clear z0 z1 zf
  generalize w3.setCell ⟨w.heap.size + 1, 0, none⟩ (.slice a3 n3 c3) = w4 at *
  generalize w.heap.size + 1 = sb at *
  refine (sObj R4).mono ?_
  rintro e w5 ⟨cc, vv, bv, vs, bs, rfl, V5, O5, R5, K5, hfin⟩
  have hG := okG_fin (xs := xs)
  obtain ⟨fs, hfs⟩ : ∃ fs, Hid (fin (some xs) = fs) := ⟨_, rfl⟩
  rw [hfs.out] at R5 hfin hG
  have E5 := (K5.block _ (lt_of_block E4) hr2).trans E4
  have B5 := K5.below B4 B4.size hr1
  obtain ⟨va, vn, vc, rfl⟩ := V5.shape'
  obtain ⟨ba, bn, bc, rfl⟩ := O5.shape'
  replace V5 := V5.mono B4.size
  replace O5 := O5.mono B4.size
  have hsb5 := R5.lt
  have B6 : Below w5.heap.size w5 (w5.alloc (objB cc (.slice va vn vc) (.slice ba bn bc))) := box_below
  have E6 := old1 E5 (objB cc (.slice va vn vc) (.slice ba bn bc))
  have F6 := new1 w5 (objB cc (.slice va vn vc) (.slice ba bn bc))
  have V6 := V5.below B6
  have O6 := O5.below B6
  have R6 := R5.keep (B6.block sb hsb5) (But.of B6)
  have B6' := below_size B5 B5.size B6
  unfold objB at E6 F6 V6 O6 R6 B6'
  clear R4 K5 E4 B4 V5 O5 R5 E5 B5 B6
  obtain ⟨a7, n7, c7, x7, C7, I7, ne7, hs7, hl7⟩ := R6.blk
  obtain ⟨d0, d1, df⟩ := sc_cells C7
  have hx7 := I7.size
  clear R6 I7
  cases fs with
  | none =>
    rw [show decide ((none : Option (List Int)) = some []) = false from rfl] at hG
    obtain ⟨y0, y1, y2, yf⟩ := obj_cells (c := 0) E6
    go_wp2
    have E9 := stO_blk E6 0 (.slice none 0 0) (.slice none 0 0)
    obtain ⟨z0, z1, z2, zf⟩ := obj_cells E9
    exact bodyPost_ret (v := .tuple #[.agg #[.int .i64 0, .slice none 0 0, .slice none 0 0], .int .i64 11]) (results_two Try.results27 rfl (load27 z0 z1 z2) rfl) rfl ⟨stO_below B6' (Nat.le_refl _) _ _ _, .inr ⟨hG, rfl⟩⟩
  | some r =>
    have hx := hs7 r rfl
    subst hx
    by_cases hr : x7 = []
    · subst hr
      have hn7 : n7 = 0 := hx7.symm
      subst hn7
      rw [show decide ((some [] : Option (List Int)) = some []) = true from rfl] at hG
      obtain ⟨rfl, rfl, rfl⟩ := hfin (by simp)
      obtain ⟨y0, y1, y2, yf⟩ := obj_cells (c := 0) E6
      obtain ⟨q0, q1, q2, qf⟩ := obj_cells (c := (objR (some xs)).1) F6
      go_wp2
      have E9 := stO_blk E6 (objR (some xs)).1 (.slice va vn vc) (.slice ba bn bc)
      obtain ⟨z0, z1, z2, zf⟩ := obj_cells E9
      exact bodyPost_ret (v := .tuple #[.agg #[.int .i64 (objR (some xs)).1, .slice va vn vc, .slice ba bn bc], .int .i64 0]) (results_two Try.results27 rfl (load27 z0 z1 z2) rfl) rfl ⟨stO_below B6' (Nat.le_refl _) _ _ _, .inl ⟨hG, _, _, rfl, V6.same (fun g hg => stO_other (V6.ne E6 g hg) _ _ _), O6.same (fun g hg => stO_other (O6.ne E6 g hg) _ _ _)⟩⟩
    · have hn7 : (0 : Int) < (n7 : Int) := by
        have : x7.length ≠ 0 := fun h => hr (List.eq_nil_of_length_eq_zero h)
        omega
      rw [decide_eq_false (by simpa using hr)] at hG
      obtain ⟨y0, y1, y2, yf⟩ := obj_cells (c := 0) E6
      go_wp2
      have E9 := stO_blk E6 0 (.slice none 0 0) (.slice none 0 0)
      obtain ⟨z0, z1, z2, zf⟩ := obj_cells E9
      exact bodyPost_ret (v := .tuple #[.agg #[.int .i64 0, .slice none 0 0, .slice none 0 0], .int .i64 11]) (results_two Try.results27 rfl (load27 z0 z1 z2) rfl) rfl ⟨stO_below B6' (Nat.le_refl _) _ _ _, .inr ⟨hG, rfl⟩⟩
end Go.Proofs.Ytjfaflmmanjjbaa
