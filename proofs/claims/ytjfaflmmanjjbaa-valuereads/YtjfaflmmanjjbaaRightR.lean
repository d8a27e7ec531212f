/- Can a record be? -/
import Derived.Test.YtjfaflmmanjjbaaRec
namespace Go.Proofs.Ytjfaflmmanjjbaa
open Go.RowKit
set_option maxRecDepth 100000
set_option maxHeartbeats 4000000 in
theorem rightRecord_any {w : World} (c : Int) {a : Option Addr} {n cap : Nat} {xs : List Ch} (h : IsC w a n cap xs) :
    Calls Try.prog 32 #[.agg #[.int .i64 c, .slice a n cap]] w fun e w' => e = .returned (.bool (okR c xs)) ∧ Below w.heap.size w w' := by
  have hsz := h.size
  have hrm := h.room
  have hmm := h.most
  unfold maxLen at hmm
  have B1 : Below w.heap.size w (w.alloc (.cells #[.int .i64 c, .slice a n cap] 52)) := box_below
  have h1 := h.below B1
  by_cases hc1 : c < 1
  · have e : Hid (okR c xs = false) := by unfold Hid okR; rw [decide_eq_false (by omega)]; rfl
    go_enter Try.func32, Try.ntmps32
    go_wp2
    go_ret
    exact ⟨by rw [e.out]; rfl, B1⟩
  · by_cases hc2 : 1099511627776 < c
    · have e : Hid (okR c xs = false) := by unfold Hid okR; rw [decide_eq_false (by omega)]; rfl
      go_enter Try.func32, Try.ntmps32
      go_wp2
      go_ret
      exact ⟨by rw [e.out]; rfl, B1⟩
    · by_cases hn : 4096 < n
      · have e : Hid (okR c xs = false) := by unfold Hid okR; rw [decide_eq_false (show ¬ xs.length ≤ 4096 by omega)]; simp
        have hn' : (4096 : Int) < (n : Int) := by omega
        go_enter Try.func32, Try.ntmps32
        go_wp2
        go_ret
        exact ⟨by rw [e.out]; rfl, B1⟩
      · have e : Hid (okR c xs = okL 0 xs) := by unfold Hid okR; rw [decide_eq_true (by omega), decide_eq_true (show xs.length ≤ 4096 by omega)]; rfl
        have hn' : ¬ (4096 : Int) < (n : Int) := by omega
        go_enter Try.func32, Try.ntmps32
        go_wp2
        generalize w.alloc (.cells #[.int .i64 c, .slice a n cap] 52) = w1 at *
        go_loopw [3, 23] (fun lv iv wr => ∃ (k : Nat) (l : Int), k ≤ n ∧ iv = .int .i64 (k : Int) ∧ lv = .int .i64 l ∧ Hid (okL 0 xs = okL l (xs.drop k)) ∧ Below w1.heap.size w1 wr) (fun _ iv _ => n - (intOf iv).toNat)
        case atStart => exact ⟨0, 0, by omega, rfl, rfl, rfl, Below.refl _ _⟩
        case round =>
          obtain ⟨k, l, hk, rfl, rfl, hok, hB⟩ := hrel
          by_cases hlt : k < n
          · obtain ⟨b, off, x, rfl, hbl, hx, hcx, hox⟩ := (h1.below hB).at_ k hlt
            obtain ⟨o, g, c', vs, bs⟩ := x
            obtain ⟨sa, sn, sc, ba, bn, bc, c0, c1, c2, c3, c4, io⟩ := hcx
            simp only at c0 c1 c2 io hox
            have io1 := io.below (box_below (o := .cells #[.int .i64 o, .bool g, .int .i64 c', .slice sa sn sc, .slice ba bn bc] 77))
            have B2 : Below w1.heap.size w1 (wr.alloc (.cells #[.int .i64 o, .bool g, .int .i64 c', .slice sa sn sc, .slice ba bn bc] 77)) := below_size hB hB.size box_below
            have hki : (k : Int) < (n : Int) := by omega
            by_cases hl : o ≤ l
            · have e3 : Hid (okL 0 xs = false) := by unfold Hid; rw [hok.out]; exact okL_no hx.out (by simp only; omega)
              go_wp2
              go_ret
              exact ⟨by rw [e.out, e3.out]; rfl, below_size B1 B1.size B2⟩
            · by_cases hm : 4096 < o
              · have e3 : Hid (okL 0 xs = false) := by unfold Hid; rw [hok.out]; exact okL_no hx.out (by simp only; omega)
                go_wp2
                go_ret
                exact ⟨by rw [e.out, e3.out]; rfl, below_size B1 B1.size B2⟩
              · go_wp2_with fail
                refine (rightChange_any o g io1).mono ?_
                rintro e' w2 ⟨rfl, B3⟩
                have B4 := below_size B2 B2.size B3
                have cc : w2.cell? ⟨wr.heap.size, 0, none⟩ = some (.int .i64 o) := (B3.cell (p := ⟨wr.heap.size, 0, none⟩) (by simp)).trans (by simp)
                clear c0 c1 c2 c3 c4 io io1 hB B2 B3
                generalize wr.heap.size = rb at *
                cases hg : okCh g c' vs bs with
                | false =>
                  have e3 : Hid (okL 0 xs = false) := by unfold Hid; rw [hok.out]; exact okL_no hx.out (by simp [hg])
                  go_wp2
                  go_ret
                  exact ⟨by rw [e.out, e3.out]; rfl, below_size B1 B1.size B4⟩
                | true =>
                  have e3 : Hid (okL 0 xs = okL o (xs.drop (k + 1))) := by unfold Hid; rw [hok.out]; exact okL_yes hx.out (by simp only; omega) (by simp only; omega) hg
                  go_wp2
                  go_roundw
                  case rel => exact ⟨k + 1, o, by omega, by go_num, rfl, e3, B4⟩
                  case measure => simp [intOf]; omega
          · have hlt' : ¬ (k : Int) < (n : Int) := by omega
            have ed : Hid (okL 0 xs = true) := by unfold Hid; rw [hok.out, List.drop_of_length_le (by omega)]; rfl
            go_wp2
            go_ret
            exact ⟨by rw [e.out, ed.out]; rfl, below_size B1 B1.size hB⟩
end Go.Proofs.Ytjfaflmmanjjbaa
