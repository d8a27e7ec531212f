/- An object out of bytes. -/
import Derived.Test.YtjfaflmmanjjbaaObject
namespace Go.Proofs.Ytjfaflmmanjjbaa
open Go.RowKit
set_option maxRecDepth 100000
theorem results_two {P : Program} {fn : Func} {tmps : Array Value} {a t c : Nat} {ad : Addr} {w : World} {v u : Value} (hf : fn.results = #[.cell a t, .tmp c]) (ha : tmps[a]?.getD undef = .pointer (some ad)) (hl : (loadVar t ad).run P w = .ok v w) (hu : tmps[c]?.getD undef = u) : (results fn tmps).run P w = .ok (.tuple #[v, u]) w := by
  unfold results
  rw [hf]
  simp [ha, asAddr, hl, hu]
theorem OwnV.isV {w : World} {base : Nat} {a : Option Addr} {n c : Nat} {vs : List (Int × Int)} (h : OwnV w base (.slice a n c) vs) : IsV w a n c vs := by
  obtain ⟨_, a', c', e, k⟩ := h
  simp only [Value.slice.injEq] at e
  obtain ⟨rfl, rfl, rfl⟩ := e
  exact k
theorem OwnB.isB {w : World} {base : Nat} {a : Option Addr} {n c : Nat} {xs : List Int} (h : OwnB w base (.slice a n c) xs) : IsB w a n c xs := by
  obtain ⟨_, a', c', e, k⟩ := h
  simp only [Value.slice.injEq] at e
  obtain ⟨rfl, rfl, rfl⟩ := e
  exact k
/-- Are these bytes an object's? -/
def okG (xs : List Int) : Bool := decide ((objR (some xs)).2.2.2 = some []) && okO (objR (some xs)).1 (objR (some xs)).2.1 (objR (some xs)).2.2.1.length
set_option maxHeartbeats 4000000 in
theorem get_any {w : World} {a : Option Addr} {n c : Nat} {xs : List Int} (I : IsB w a n c xs) (hl : n ≤ 140737488500000) : Calls Try.prog 25 #[.slice a n c] w fun e w' => Below w.heap.size w w' ∧ ((okG xs = true ∧ ∃ vv bv, e = .returned (.tuple #[.agg #[.int .i64 (objR (some xs)).1, vv, bv], .int .i64 0]) ∧ OwnV w' w.heap.size vv (objR (some xs)).2.1 ∧ OwnB w' w.heap.size bv (objR (some xs)).2.2.1) ∨ (okG xs = false ∧ e = .returned (.tuple #[.agg #[.int .i64 0, .slice none 0 0, .slice none 0 0], .int .i64 11]))) := by
  unfold okG
  obtain ⟨oc, vs, bs, st, hO⟩ : ∃ oc vs bs st, Hid (objR (some xs) = (oc, vs, bs, st)) := ⟨_, _, _, _, rfl⟩
  rw [hO.out]
  dsimp only
  have E1 := old1 (new1 w (objB 0 (.slice none 0 0) (.slice none 0 0))) (rdO (.slice a n c) false)
  have E2 := new2 w (objB 0 (.slice none 0 0) (.slice none 0 0)) (rdO (.slice a n c) false)
  have B2 : Below w.heap.size w ((w.alloc (objB 0 (.slice none 0 0) (.slice none 0 0))).alloc (rdO (.slice a n c) false)) := below_size box_below box_below.size box_below
  have sz2 : w.heap.size + 1 + 1 = ((w.alloc (objB 0 (.slice none 0 0) (.slice none 0 0))).alloc (rdO (.slice a n c) false)).heap.size := by rw [size1, size1]
  unfold objB rdO at E1 E2 B2 sz2
  go_enter Try.func25, Try.ntmps25
  go_wp2_with fail
  generalize (w.alloc (.cells #[.int .i64 0, .slice none 0 0, .slice none 0 0] 27)).alloc (.cells #[.slice a n c, .bool false] 70) = w2 at *
  replace E1 : w2.heap[w.heap.size]? = some (objB 0 (.slice none 0 0) (.slice none 0 0)) := E1
  replace E2 : w2.heap[w.heap.size + 1]? = some (rdO (.slice a n c) false) := E2
  have R2 : Rd w w2 (w.heap.size + 1) (some xs) := ⟨a, n, c, E2, I⟩
  have hr1 : w.heap.size ≤ w.heap.size + 1 := by omega
  have hr2 : w.heap.size ≠ w.heap.size + 1 := by omega
  have hsz := I.size
  replace sz2 : w.heap.size + 1 < w2.heap.size := by omega
  generalize w.heap.size + 1 = rb at *
  refine (object_rd R2 B2 hr1 (by show xs.length ≤ _; omega)).mono ?_
  rintro e w3 ⟨vv, bv, rfl, V3, O3, R3, K3⟩
  rw [hO.out] at V3 O3 R3 ⊢
  dsimp only at V3 O3 R3 ⊢
  have B3 := K3.below B2 B2.size hr1
  have E3 := (K3.block _ (lt_of_block E1) hr2).trans E1
  replace V3 := V3.mono (Nat.le_of_lt (Nat.lt_of_le_of_lt hr1 sz2))
  replace O3 := O3.mono (Nat.le_of_lt (Nat.lt_of_le_of_lt hr1 sz2))
  obtain ⟨va, vn, vc, rfl⟩ := V3.shape'
  obtain ⟨ba, bn, bc, rfl⟩ := O3.shape'
  have hrw : rb < w3.heap.size := by have := K3.size; omega
  clear E1 E2 R2 K3 B2
  have B4 : Below w3.heap.size w3 (w3.alloc (objB oc (.slice va vn vc) (.slice ba bn bc))) := box_below
  have E4 := old1 E3 (objB oc (.slice va vn vc) (.slice ba bn bc))
  have F4 := new1 w3 (objB oc (.slice va vn vc) (.slice ba bn bc))
  have V4 := V3.below B4
  have O4 := O3.below B4
  have R4 := R3.keep (B4.block rb hrw)
  have B5 := below_size B3 B3.size B4
  have ho4 : w3.heap.size < (w3.alloc (objB oc (.slice va vn vc) (.slice ba bn bc))).heap.size := by rw [size1]; omega
  unfold objB at E4 F4 V4 O4 R4 B5 ho4
  clear V3 O3 R3 B3 B4 E3
  go_wp2_with fail
  generalize w3.alloc (.cells #[.int .i64 oc, .slice va vn vc, .slice ba bn bc] 27) = w4 at *
  replace E4 : w4.heap[w.heap.size]? = some (objB 0 (.slice none 0 0) (.slice none 0 0)) := E4
  replace F4 : w4.heap[w3.heap.size]? = some (objB oc (.slice va vn vc) (.slice ba bn bc)) := F4
  generalize w3.heap.size = ob at *
  refine (atEnd_rd R4).mono ?_
  rintro e w5 ⟨rfl, rfl⟩
  obtain ⟨y0, y1, y2, yf⟩ := obj_cells E4
  obtain ⟨z0, z1, z2, zf⟩ := obj_cells F4
  have hbn : bs.length = bn := O4.isB.size
  have hbm : bn ≤ maxLen := Nat.le_trans O4.isB.room O4.isB.most
  by_cases hst : st = some []
  · simp only [decide_eq_true hst]
    go_wp2_with fail
    refine (rightObj_any oc V4.isV hbm).mono ?_
    rintro e w6 ⟨rfl, B6⟩
    have E6 := (B6.block _ (lt_of_block E4)).trans E4
    have F6 := (B6.block _ ho4).trans F4
    have V6 := V4.below B6
    have O6 := O4.below B6
    have B7 := below_size B5 B5.size B6
    clear y0 y1 y2 yf z0 z1 z2 zf E4 F4 V4 O4 R4 B6 B5
    cases hok : okO oc vs bn with
    | false =>
      obtain ⟨y0, y1, y2, yf⟩ := obj_cells E6
      obtain ⟨z0, z1, z2, zf⟩ := obj_cells F6
      go_wp2
      clear z0 z1 z2 zf y0 y1 y2 yf
      have E9 := stO_blk E6 0 (.slice none 0 0) (.slice none 0 0)
      obtain ⟨z0, z1, z2, zf⟩ := obj_cells E9
      exact bodyPost_ret (v := .tuple #[.agg #[.int .i64 0, .slice none 0 0, .slice none 0 0], .int .i64 11]) (results_two Try.results25 rfl (load27 z0 z1 z2) rfl) rfl ⟨stO_below B7 (Nat.le_refl _) _ _ _, .inr ⟨by rw [hbn, hok]; simp, rfl⟩⟩
    | true =>
      obtain ⟨y0, y1, y2, yf⟩ := obj_cells E6
      obtain ⟨z0, z1, z2, zf⟩ := obj_cells F6
      go_wp2
      clear z0 z1 z2 zf y0 y1 y2 yf
      have E9 := stO_blk E6 oc (.slice va vn vc) (.slice ba bn bc)
      obtain ⟨z0, z1, z2, zf⟩ := obj_cells E9
      exact bodyPost_ret (v := .tuple #[.agg #[.int .i64 oc, .slice va vn vc, .slice ba bn bc], .int .i64 0]) (results_two Try.results25 rfl (load27 z0 z1 z2) rfl) rfl ⟨stO_below B7 (Nat.le_refl _) _ _ _, .inl ⟨by rw [hbn, hok, decide_eq_true hst]; rfl, _, _, rfl, V6.same (fun g hg => stO_other (V6.ne E6 g hg) _ _ _), O6.same (fun g hg => stO_other (O6.ne E6 g hg) _ _ _)⟩⟩
  · simp only [decide_eq_false hst]
    go_wp2
    clear z0 z1 z2 zf y0 y1 y2 yf
    have E9 := stO_blk E4 0 (.slice none 0 0) (.slice none 0 0)
    obtain ⟨z0, z1, z2, zf⟩ := obj_cells E9
    exact bodyPost_ret (v := .tuple #[.agg #[.int .i64 0, .slice none 0 0, .slice none 0 0], .int .i64 11]) (results_two Try.results25 rfl (load27 z0 z1 z2) rfl) rfl ⟨stO_below B5 (Nat.le_refl _) _ _ _, .inr ⟨by rw [decide_eq_false hst]; rfl, rfl⟩⟩
end Go.Proofs.Ytjfaflmmanjjbaa
