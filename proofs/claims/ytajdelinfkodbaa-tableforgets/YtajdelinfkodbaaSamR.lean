/- Records that are the same. -/
import Derived.Test.YtajdelinfkodbaaRecV
namespace Go.Proofs.Ytajdelinfkodbaa
open Go.RowKit 
set_option maxRecDepth 100000
def recB (c : Int) (v : Value) (t : Nat) : Obj := .cells #[.int .i64 c, v] t (0, 0)
theorem rec_cells {w : World} {b t : Nat} {c : Int} {v : Value} (h : w.heap[b]? = some (recB c v t)) : w.cell? ⟨b, 0, none⟩ = some (.int .i64 c) ∧ w.cell? ⟨b, 1, none⟩ = some v := by
  refine ⟨?_, ?_⟩ <;> (rw [cell_of_row _ b _ _ _ _ h]; rfl)
set_option maxRecDepth 100000
def chh (o : Int) (g : Bool) (c : Int) (v1 v2 : Value) : Obj := .cells #[.int .i64 o, .bool g, .int .i64 c, v1, v2] 73 (0, 0)
theorem chh_cells {w : World} {b : Nat} {o c : Int} {g : Bool} {v1 v2 : Value} (h : w.heap[b]? = some (chh o g c v1 v2)) : w.cell? ⟨b, 0, none⟩ = some (.int .i64 o) ∧ w.cell? ⟨b, 1, none⟩ = some (.bool g) ∧ w.cell? ⟨b, 2, none⟩ = some (.int .i64 c) ∧ w.cell? ⟨b, 3, none⟩ = some v1 ∧ w.cell? ⟨b, 4, none⟩ = some v2 := by
  refine ⟨?_, ?_, ?_, ?_, ?_⟩ <;> (rw [cell_of_row _ b _ _ _ _ h]; rfl)
set_option maxRecDepth 100000
theorem rsame_eq {w : World} {c : Int} {sa ba ta ea : Option Addr} {sn sc bn bc tn tc en ec : Nat} {vs : List (Int × Int)} {bs : List Int} (h1 : IsO w c sa sn sc ba bn bc vs bs) (h2 : IsO w c ta tn tc ea en ec vs bs) :
    Calls Try.prog 21 #[.agg #[.int .i64 c, .slice sa sn sc, .slice ba bn bc], .agg #[.int .i64 c, .slice ta tn tc, .slice ea en ec]] w fun e w' => e = .returned (.bool true) ∧ Below w.heap.size w w' := by
  have h := rsame_any h1 h2
  rw [show alike c c vs vs bs bs = true by simp [alike]] at h
  exact h
set_option maxHeartbeats 4000000 in
theorem sameRecord_true {w : World} (c : Int) {a a' : Option Addr} {n cap n' cap' : Nat} {xs : List Ch} (h : IsC w a n cap xs) (k : IsC w a' n' cap' xs) :
    Calls Try.prog 13 #[.agg #[.int .i64 c, .slice a n cap], .agg #[.int .i64 c, .slice a' n' cap']] w fun e w' => e = .returned (.bool true) ∧ Below w.heap.size w w' := by
  obtain rfl : n' = n := by have h1 := h.size; have h2 := k.size; omega
  have hsz := h.size
  have hrm := h.room
  have hmm := h.most
  unfold maxLen at hmm
  have hB1 : Below w.heap.size w ((w.alloc (recB c (.slice a n' cap) 29)).alloc (recB c (.slice a' n' cap') 29)) := below_size box_below box_below.size box_below
  have E1 : ((w.alloc (recB c (.slice a n' cap) 29)).alloc (recB c (.slice a' n' cap') 29)).heap[w.heap.size]? = some (recB c (.slice a n' cap) 29) := old1 (new1 _ _) _
  have E2 : ((w.alloc (recB c (.slice a n' cap) 29)).alloc (recB c (.slice a' n' cap') 29)).heap[w.heap.size + 1]? = some (recB c (.slice a' n' cap') 29) := new2 _ _ _
  have h1 := h.below hB1
  have k1 := k.below hB1
  go_enter Try.func13, Try.ntmps13
  go_upto_region 1 with fail
  unfold recB at hB1 E1 E2 h1 k1
  generalize (w.alloc (.cells #[.int .i64 c, .slice a n' cap] 29)).alloc (.cells #[.int .i64 c, .slice a' n' cap'] 29) = w1 at *
  generalize w.heap.size + 1 = q2 at *
  obtain ⟨q1, hq1⟩ : ∃ b, b = w.heap.size := ⟨_, rfl⟩
  rw [← hq1] at E1 ⊢
  clear hq1
  replace E1 : w1.heap[q1]? = some (recB c (.slice a n' cap) 29) := E1
  replace E2 : w1.heap[q2]? = some (recB c (.slice a' n' cap') 29) := E2
  obtain ⟨z0, z1⟩ := rec_cells E1
  obtain ⟨y0, y1⟩ := rec_cells E2
  go_wp2
  clear z0 z1 y0 y1
  go_loopw [5] (fun iv wr => ∃ j : Nat, j ≤ n' ∧ iv = .int .i64 (j : Int) ∧ Below w1.heap.size w1 wr) (fun iv _ => n' - (intOf iv).toNat)
  case atStart => exact ⟨0, by omega, rfl, Below.refl _ _⟩
  case round =>
    obtain ⟨j, hj, rfl, hB⟩ := hrel
    have E1r := (hB.block q1 (lt_of_block E1)).trans E1
    have E2r := (hB.block q2 (lt_of_block E2)).trans E2
    obtain ⟨z0, z1⟩ := rec_cells E1r
    obtain ⟨y0, y1⟩ := rec_cells E2r
    by_cases hlt : j < n'
    · obtain ⟨b, off, x, rfl, hbl, hx, hcx, hox⟩ := (h1.below hB).at_ j hlt
      obtain ⟨b', off', x', rfl, hbl', hx', hcx', _⟩ := (k1.below hB).at_ j hlt
      obtain rfl : x' = x := by have e := hx.out; rw [hx'.out] at e; exact Option.some.inj e
      obtain ⟨o, g, cc, vs, bs⟩ := x'
      obtain ⟨sa, sn, sc, ba, bn, bc, c0, c1, c2, c3, c4, io⟩ := hcx
      obtain ⟨ta, tn, tc, ea, en, ec, d0, d1, d2, d3, d4, jo⟩ := hcx'
      simp only at c0 c1 c2 io d0 d1 d2 jo
      have hji : (j : Int) < (n' : Int) := by omega
      have X1 : (wr.alloc (chh o g cc (.slice sa sn sc) (.slice ba bn bc))).heap[wr.heap.size]? = some (chh o g cc (.slice sa sn sc) (.slice ba bn bc)) := new1 _ _
      have Y1 : (wr.alloc (chh o g cc (.slice sa sn sc) (.slice ba bn bc))).heap[q2]? = some (recB c (.slice (some ⟨b', off', none⟩) n' cap') 29) := old1 E2r _
      have BB : Below wr.heap.size wr (wr.alloc (chh o g cc (.slice sa sn sc) (.slice ba bn bc))) := box_below
      unfold chh at X1 Y1 BB
      go_upto_region 7 with fail
      have B2 := below_size hB hB.size BB
      have io1 := io.below BB
      have jo1 := jo.below BB
      have e0 := (BB.cell (p := ⟨b', off' + j * 5, none⟩) hbl').trans d0
      have e1 := (BB.cell (p := ⟨b', off' + j * 5 + 1, none⟩) hbl').trans d1
      have e2 := (BB.cell (p := ⟨b', off' + j * 5 + 2, none⟩) hbl').trans d2
      have e3 := (BB.cell (p := ⟨b', off' + j * 5 + 3, none⟩) hbl').trans d3
      have e4 := (BB.cell (p := ⟨b', off' + j * 5 + 4, none⟩) hbl').trans d4
      clear c0 c1 c2 c3 c4 d0 d1 d2 d3 d4 z0 z1 y0 y1 BB io jo
      generalize wr.alloc (.cells #[.int .i64 o, .bool g, .int .i64 cc, .slice sa sn sc, .slice ba bn bc] 73) = wa at *
      generalize wr.heap.size = xb at *
      replace X1 : wa.heap[xb]? = some (chh o g cc (.slice sa sn sc) (.slice ba bn bc)) := X1
      obtain ⟨y0, y1⟩ := rec_cells Y1
      have X2 : (wa.alloc (chh o g cc (.slice ta tn tc) (.slice ea en ec))).heap[xb]? = some (chh o g cc (.slice sa sn sc) (.slice ba bn bc)) := old1 X1 _
      have Z2 : (wa.alloc (chh o g cc (.slice ta tn tc) (.slice ea en ec))).heap[wa.heap.size]? = some (chh o g cc (.slice ta tn tc) (.slice ea en ec)) := new1 _ _
      have BB : Below wa.heap.size wa (wa.alloc (chh o g cc (.slice ta tn tc) (.slice ea en ec))) := box_below
      unfold chh at X2 Z2 BB
      go_upto_region 8 with fail
      have B3 := below_size B2 B2.size BB
      have io2 := io1.below BB
      have jo2 := jo1.below BB
      clear e0 e1 e2 e3 e4 y0 y1 BB io1 jo1 X1 Y1 hbl hbl'
      generalize wa.alloc (.cells #[.int .i64 o, .bool g, .int .i64 cc, .slice ta tn tc, .slice ea en ec] 73) = wb at *
      generalize wa.heap.size = yb at *
      replace X2 : wb.heap[xb]? = some (chh o g cc (.slice sa sn sc) (.slice ba bn bc)) := X2
      replace Z2 : wb.heap[yb]? = some (chh o g cc (.slice ta tn tc) (.slice ea en ec)) := Z2
      obtain ⟨f0, f1, f2, f3, f4⟩ := chh_cells X2
      obtain ⟨g0, g1, g2, g3, g4⟩ := chh_cells Z2
      go_wp2_with fail
      refine (rsame_eq io2 jo2).mono ?_
      rintro e w5 ⟨rfl, B5⟩
      have B6 := below_size B3 B3.size B5
      clear f0 f1 f2 f3 f4 g0 g1 g2 g3 g4 B5 B3 B2 hB
      go_wp2
      go_roundw
      case rel => exact ⟨j + 1, by omega, by go_num, B6⟩
      case measure => simp [intOf]; omega
    · have hji : ¬ (j : Int) < (n' : Int) := by omega
      go_wp2
      go_ret
      exact ⟨rfl, below_size hB1 hB1.size hB⟩
end Go.Proofs.Ytajdelinfkodbaa
