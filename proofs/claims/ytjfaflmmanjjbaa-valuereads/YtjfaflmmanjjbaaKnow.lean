/- Fixed calls. -/
import Derived.Test.YtjfaflmmanjjbaaGet
namespace Go.Proofs.Ytjfaflmmanjjbaa
open Go.RowKit
set_option maxRecDepth 100000
theorem k_bytes : objY 7 [(3, -1), (4, 300)] [] = [7, 2, 3, 1, 4, 172, 2, 0] := by decide +kernel
theorem k_ok : okO 7 [(3, -1), (4, 300)] 0 = true := by decide +kernel
theorem k_okG : okG [7, 2, 3, 1, 4, 172, 2, 0] = true := by decide +kernel
theorem k_objR : objR (some [7, 2, 3, 1, 4, 172, 2, 0]) = (7, [(3, -1), (4, 300)], [], some []) := by decide +kernel
theorem k_isV (w : World) (o : Obj) : IsV ((w.alloc (.cells #[.int .i64 3, .int .i64 (-1), .int .i64 4, .int .i64 300] 23)).alloc o) (some ⟨w.heap.size, 0, none⟩) 2 2 [(3, -1), (4, 300)] := by
  refine IsV.below (w := w.alloc (.cells #[.int .i64 3, .int .i64 (-1), .int .i64 4, .int .i64 300] 23)) ⟨rfl, Nat.le_refl _, by decide, by simp, by intro v hv; simp at hv; rcases hv with rfl | rfl <;> simp, fun _ => ⟨_, _, rfl, fun i hi => ?_⟩⟩ box_below
  rcases i with _ | _ | i
  · simp
  · simp
  · omega
set_option maxHeartbeats 4000000 in
theorem known_true (w : World) : Calls Try.prog 21 #[] w fun e w' => e = .returned (.bool true) ∧ Below w.heap.size w w' := by
  have V1 := k_isV w (.cells #[.int .i64 7, .slice (some ⟨w.heap.size, 0, none⟩) 2 2, .slice none 0 0] 27)
  have E1 := new2 w (.cells #[.int .i64 3, .int .i64 (-1), .int .i64 4, .int .i64 300] 23) (.cells #[.int .i64 7, .slice (some ⟨w.heap.size, 0, none⟩) 2 2, .slice none 0 0] 27)
  have B1 : Below w.heap.size w ((w.alloc (.cells #[.int .i64 3, .int .i64 (-1), .int .i64 4, .int .i64 300] 23)).alloc (.cells #[.int .i64 7, .slice (some ⟨w.heap.size, 0, none⟩) 2 2, .slice none 0 0] 27)) := below_size box_below box_below.size box_below
  go_enter Try.func21, Try.ntmps21
  go_wp2_with fail
  generalize (w.alloc (.cells #[.int .i64 3, .int .i64 (-1), .int .i64 4, .int .i64 300] 23)).alloc (.cells #[.int .i64 7, .slice (some ⟨w.heap.size, 0, none⟩) 2 2, .slice none 0 0] 27) = w1 at *
  replace E1 : w1.heap[w.heap.size + 1]? = some (objB 7 (.slice (some ⟨w.heap.size, 0, none⟩) 2 2) (.slice none 0 0)) := E1
  generalize w.heap.size + 1 = ob at *
  have h1 : IsO w1 7 (some ⟨w.heap.size, 0, none⟩) 2 2 none 0 0 [(3, -1), (4, 300)] [] := ⟨by decide, V1, ⟨rfl, Nat.le_refl _, by decide, fun _ => rfl, by simp, fun h => absurd h (by decide)⟩⟩
  refine (put_ok h1 k_ok).mono ?_
  rintro e w2 ⟨v2, rfl, O2, B2⟩
  rw [k_bytes] at O2
  have h2 := h1.below B2
  have E2 := (B2.block _ (lt_of_block E1)).trans E1
  have B2' := below_size B1 B1.size B2
  obtain ⟨a2, n2, c2, rfl⟩ := O2.shape'
  clear V1 B1 E1 h1 B2
  go_wp2_with fail
  refine (get_any O2.isB (by have := O2.isB.size; simp at this; omega)).mono ?_
  rintro e w3 ⟨B3, ⟨_, vv, bv, rfl, V3, O3⟩ | ⟨hno, _⟩⟩
  · rw [k_objR] at V3 O3 ⊢
    dsimp only at V3 O3 ⊢
    have h3 := h2.below B3
    have E3 := (B3.block _ (lt_of_block E2)).trans E2
    have I3 := O2.isB.below B3
    have B3' := below_size B2' B2'.size B3
    obtain ⟨va, vn, vc, rfl⟩ := V3.shape'
    obtain ⟨ba, bn, bc, rfl⟩ := O3.shape'
    have B4 : Below w3.heap.size w3 (w3.alloc (objB 7 (.slice va vn vc) (.slice ba bn bc))) := box_below
    have hst := (I3.below B4).str
    rw [show strOfNums [7, 2, 3, 1, 4, 172, 2, 0] = ⟨#[7, 2, 3, 1, 4, 172, 2, 0]⟩ from rfl] at hst
    have h4 := h3.below B4
    have g4 : IsO (w3.alloc (objB 7 (.slice va vn vc) (.slice ba bn bc))) 7 va vn vc ba bn bc [(3, -1), (4, 300)] [] := ⟨by decide, V3.isV.below B4, O3.isB.below B4⟩
    have E4 := old1 E3 (objB 7 (.slice va vn vc) (.slice ba bn bc))
    have B4' := below_size B3' B3'.size B4
    obtain ⟨y0, y1, y2, yf⟩ := obj_cells E4
    unfold objB at hst h4 g4 E4 B4' y0 y1 y2 yf
    clear B4 h3 E3 I3 B3' V3 O3 h2 E2 B2' B3 O2
    go_wp2_with fail
    clear hst
    generalize w3.alloc (.cells #[.int .i64 7, .slice va vn vc, .slice ba bn bc] 27) = w4 at *
    refine (same_any g4 h4).mono ?_
    rintro e w5 ⟨rfl, B5⟩
    rw [show alike 7 7 [(3, -1), (4, 300)] [(3, -1), (4, 300)] [] [] = true from rfl]
    have E5 := (B5.block _ (lt_of_block E4)).trans E4
    replace E5 : w5.heap[ob]? = some (objB 7 (.slice (some ⟨w.heap.size, 0, none⟩) 2 2) (.slice none 0 0)) := E5
    have h5 := h4.below B5
    have B5' := below_size B4' B4'.size B5
    clear y0 y1 y2 yf
    obtain ⟨y0, y1, y2, yf⟩ := obj_cells E5
    go_wp2_with fail
    refine (rightObj_any 7 h5.v (by decide)).mono ?_
    rintro e w6 ⟨rfl, B6⟩
    rw [k_ok]
    have B6' := below_size B5' B5'.size B6
    clear y0 y1 y2 yf
    go_wp2
    go_ret
    exact ⟨rfl, B6'⟩
  · rw [k_okG] at hno
    cases hno
end Go.Proofs.Ytjfaflmmanjjbaa
