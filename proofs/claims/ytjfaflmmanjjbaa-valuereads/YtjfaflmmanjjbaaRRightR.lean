/- Can a record be? The document's. -/
import Derived.Test.YtjfaflmmanjjbaaRightR
import Derived.Deep.QuietTactic
namespace Go.Proofs.Ytjfaflmmanjjbaa
open Go.RowKit
set_option maxRecDepth 100000
set_option maxHeartbeats 4000000 in
theorem rrightRecord_any {w : World} (c : Int) {a : Option Addr} {n cap : Nat} {xs : List Ch} (h : IsC w a n cap xs) :
    Calls Try.prog 33 #[.agg #[.int .i64 c, .slice a n cap]] w fun e w' => e = .returned (.bool (okR c xs)) ∧ Below w.heap.size w w' := by
  have hsz := h.size
  have hrm := h.room
  have hmm := h.most
  unfold maxLen at hmm
  have B1 : Below w.heap.size w (w.alloc (.cells #[.int .i64 c, .slice a n cap] 49)) := box_below
  have h1 := h.below B1
  by_cases hc1 : c < 1
  · have e : Hid (okR c xs = false) := by unfold Hid okR; rw [decide_eq_false (by omega)]; rfl
    go_enter Try.func33, Try.ntmps33
    go_wp2
    go_ret
    exact ⟨by rw [e.out]; rfl, B1⟩
  · by_cases hc2 : 1099511627776 < c
    · have e : Hid (okR c xs = false) := by unfold Hid okR; rw [decide_eq_false (by omega)]; rfl
      go_enter Try.func33, Try.ntmps33
      go_wp2
      go_ret
      exact ⟨by rw [e.out]; rfl, B1⟩
    · by_cases hn : 4096 < n
      · have e : Hid (okR c xs = false) := by unfold Hid okR; rw [decide_eq_false (show ¬ xs.length ≤ 4096 by omega)]; simp
        have hn' : (4096 : Int) < (n : Int) := by omega
        go_enter Try.func33, Try.ntmps33
        go_wp2
        go_ret
        exact ⟨by rw [e.out]; rfl, B1⟩
      · have e : Hid (okR c xs = okL 0 xs) := by unfold Hid okR; rw [decide_eq_true (by omega), decide_eq_true (show xs.length ≤ 4096 by omega)]; rfl
        have hn' : ¬ (4096 : Int) < (n : Int) := by omega
        go_enter Try.func33, Try.ntmps33
        go_wp2
        have hl1 : w.heap.size < (w.alloc (.cells #[.int .i64 c, .slice a n cap] 49)).heap.size := by simp
        have hc1' : (w.alloc (.cells #[.int .i64 c, .slice a n cap] 49)).cell? ⟨w.heap.size, 1, none⟩ = some (.slice a n cap) := by simp
        generalize w.alloc (.cells #[.int .i64 c, .slice a n cap] 49) = w1 at *
        go_loopw [3] (fun iv wr => ∃ (k : Nat) (l : Int), k ≤ n ∧ iv = .int .i64 (k : Int) ∧ 0 ≤ l ∧ (k = 0 → l = 0) ∧ (∀ x, 0 < k → xs[k - 1]? = some x → x.oop = l) ∧ Hid (okL 0 xs = okL l (xs.drop k)) ∧ Below w1.heap.size w1 wr) (fun iv _ => n - (intOf iv).toNat)
        case atStart => exact ⟨0, 0, by omega, rfl, by omega, fun _ => rfl, fun _ h => absurd h (by omega), rfl, Below.refl _ _⟩
        case round =>
          obtain ⟨k, l, hk, rfl, hl0, hlz, hlp, hok, hB⟩ := hrel
          have hcr := (hB.cell (p := ⟨w.heap.size, 1, none⟩) hl1).trans hc1'
          by_cases hlt : k < n
          · have hi1 := h1.below hB
            obtain ⟨b, off, x, rfl, hbl, hx, hcx, hox⟩ := hi1.at_ k hlt
            obtain ⟨o, g, c', vs, bs⟩ := x
            obtain ⟨sa, sn, sc, ba, bn, bc, c0, c1, c2, c3, c4, io⟩ := hcx
            simp only at c0 c1 c2 io hox
            have io1 := io.below (box_below (o := .cells #[.int .i64 o, .bool g, .int .i64 c', .slice sa sn sc, .slice ba bn bc] 76))
            have hi2 := hi1.below (box_below (o := .cells #[.int .i64 o, .bool g, .int .i64 c', .slice sa sn sc, .slice ba bn bc] 76))
            have B2 : Below w1.heap.size w1 (wr.alloc (.cells #[.int .i64 o, .bool g, .int .i64 c', .slice sa sn sc, .slice ba bn bc] 76)) := below_size hB hB.size box_below
            have hki : (k : Int) < (n : Int) := by omega
            go_upto_region 7 with fail
            have y0 : (wr.alloc (.cells #[.int .i64 o, .bool g, .int .i64 c', .slice sa sn sc, .slice ba bn bc] 76)).cell? ⟨wr.heap.size, 0, none⟩ = some (.int .i64 o) := by simp
            have y1 : (wr.alloc (.cells #[.int .i64 o, .bool g, .int .i64 c', .slice sa sn sc, .slice ba bn bc] 76)).cell? ⟨wr.heap.size, 1, none⟩ = some (.bool g) := by simp
            have y2 : (wr.alloc (.cells #[.int .i64 o, .bool g, .int .i64 c', .slice sa sn sc, .slice ba bn bc] 76)).cell? ⟨wr.heap.size, 2, none⟩ = some (.int .i64 c') := by simp
            have y3 : (wr.alloc (.cells #[.int .i64 o, .bool g, .int .i64 c', .slice sa sn sc, .slice ba bn bc] 76)).cell? ⟨wr.heap.size, 3, none⟩ = some (.slice sa sn sc) := by simp
            have y4 : (wr.alloc (.cells #[.int .i64 o, .bool g, .int .i64 c', .slice sa sn sc, .slice ba bn bc] 76)).cell? ⟨wr.heap.size, 4, none⟩ = some (.slice ba bn bc) := by simp
            have hcr2 := (B2.cell (p := ⟨w.heap.size, 1, none⟩) hl1).trans hc1'
            clear c0 c1 c2 c3 c4 io hcr
            generalize wr.alloc (.cells #[.int .i64 o, .bool g, .int .i64 c', .slice sa sn sc, .slice ba bn bc] 76) = wa at *
            generalize wr.heap.size = rb at *
            clear hi1 hB
            by_cases ho1 : o < 1
            · have e3 : Hid (okL 0 xs = false) := by unfold Hid; rw [hok.out]; exact okL_no hx.out (by simp only; omega)
              go_quiet (fail)
              go_wp2
              go_ret
              exact ⟨by rw [e.out, e3.out]; rfl, below_drewN (below_size B1 B1.size B2) _⟩
            · by_cases ho2 : 4096 < o
              · have e3 : Hid (okL 0 xs = false) := by unfold Hid; rw [hok.out]; exact okL_no hx.out (by simp only; omega)
                go_quiet (fail)
                go_wp2
                go_ret
                exact ⟨by rw [e.out, e3.out]; rfl, below_drewN (below_size B1 B1.size B2) _⟩
              · go_cut [54] from 31 to 54 (fun v54 wx => v54 = .bool (decide (o ≤ l)) ∧ ∃ q, wx = wa.drewN q)
                case first =>
                  by_cases hk0 : k = 0
                  · have hd : Hid (decide (o ≤ l) = false) := decide_eq_false (by have := hlz hk0; omega)
                    subst hk0
                    clear hlz hlp
                    go_quiet (fail)
                    go_wp2
                    go_meet
                    exact ⟨by rw [hd.out], _, rfl⟩
                  · obtain ⟨b', off', x', e', hbl', hx', hcx', hox'⟩ := hi2.at_ (k - 1) (by omega)
                    cases e'
                    have hp := hlp x' (by omega) hx'.out
                    obtain ⟨o', g', c'', vs', bs'⟩ := x'
                    obtain ⟨_, _, _, _, _, _, d0, _⟩ := hcx'
                    simp only at d0 hp
                    subst hp
                    obtain ⟨k', rfl⟩ : ∃ k', k = k' + 1 := ⟨k - 1, by omega⟩
                    rw [Nat.add_sub_cancel] at d0
                    have hkz : (0 : Int) < ((k' + 1 : Nat) : Int) := by omega
                    have hwk : IntKind.i64.wrap (((k' + 1 : Nat) : Int) - 1) = (k' : Int) := by rw [IntKind.wrap_i64]; omega
                    have hk2 : (k' : Int) < (n : Int) := by omega
                    clear hlz hlp hk0
                    by_cases hle : o ≤ o'
                    · have hd : Hid (decide (o ≤ o') = true) := decide_eq_true hle
                      go_quiet (fail)
                      go_wp2
                      go_meet
                      exact ⟨by rw [hd.out], _, rfl⟩
                    · have hd : Hid (decide (o ≤ o') = false) := decide_eq_false hle
                      go_quiet (fail)
                      go_wp2
                      go_meet
                      exact ⟨by rw [hd.out], _, rfl⟩
                case rest =>
                  obtain ⟨rfl, q, hwd⟩ := hcut
                  have Bd : Below wa.heap.size wa wc := by rw [hwd]; exact below_drewN (Below.refl _ _) q
                  clear hwd
                  have hrb := lt_of_cell y0
                  have io2 := io1.below Bd
                  have z1 := (Bd.cell (p := ⟨rb, 1, none⟩) hrb).trans y1
                  have z2 := (Bd.cell (p := ⟨rb, 2, none⟩) hrb).trans y2
                  have z3 := (Bd.cell (p := ⟨rb, 3, none⟩) hrb).trans y3
                  have z4 := (Bd.cell (p := ⟨rb, 4, none⟩) hrb).trans y4
                  have B4 := below_size B2 B2.size Bd
                  have hbm : bn ≤ maxLen := Nat.le_trans io2.b.room io2.b.most
                  have hbs := io2.b.size
                  clear y0 y1 y2 y3 y4 Bd io1 hi2 hcr2 B2
                  by_cases hle : o ≤ l
                  · have hd : decide (o ≤ l) = true := decide_eq_true hle
                    have e3 : Hid (okL 0 xs = false) := by unfold Hid; rw [hok.out]; exact okL_no hx.out (by simp only; omega)
                    rw [hd]
                    go_wp2
                    go_ret
                    exact ⟨by rw [e.out, e3.out]; rfl, below_size B1 B1.size B4⟩
                  · have hd : decide (o ≤ l) = false := decide_eq_false hle
                    rw [hd]
                    clear hd
                    cases g with
                    | true =>
                      have eg : Hid (okCh true c' vs bs = alike c' 0 vs [] bs []) := rfl
                      go_wp2_with fail
                      refine (rsame_any io2 (isO_none _)).mono ?_
                      rintro e' w2 ⟨rfl, B3⟩
                      have B5 := below_size B4 B4.size B3
                      have z1' := (B3.cell (p := ⟨rb, 1, none⟩) (lt_of_cell z1)).trans z1
                      clear z1 z2 z3 z4 B3 B4 io2
                      cases hg : alike c' 0 vs [] bs [] with
                      | false =>
                        have e3 : Hid (okL 0 xs = false) := by unfold Hid; rw [hok.out]; exact okL_no hx.out (by simp only; rw [eg.out, hg]; simp)
                        go_wp2
                        go_ret
                        exact ⟨by rw [e.out, e3.out]; rfl, below_size B1 B1.size B5⟩
                      | true =>
                        have e3 : Hid (okL 0 xs = okL o (xs.drop (k + 1))) := by unfold Hid; rw [hok.out]; exact okL_yes hx.out (by simp only; omega) (by simp only; omega) (by simp only; rw [eg.out, hg])
                        have hlq : ∀ x, 0 < k + 1 → xs[k + 1 - 1]? = some x → x.oop = o := fun x _ h => by rw [Nat.add_sub_cancel, hx.out] at h; cases h; rfl
                        go_wp2
                        go_roundw
                        case rel => exact ⟨k + 1, o, by omega, by go_num, by omega, fun h => absurd h (by omega), hlq, e3, B5⟩
                        case measure => simp [intOf]; omega
                    | false =>
                      have eg : Hid (okCh false c' vs bs = okO c' vs bn) := by unfold Hid okCh; rw [hbs]; rfl
                      go_wp2_with fail
                      refine (rrightObj_any c' io2.v hbm).mono ?_
                      rintro e' w2 ⟨rfl, B3⟩
                      have B5 := below_size B4 B4.size B3
                      clear z1 z2 z3 z4 B3 B4 io2
                      cases hg : okO c' vs bn with
                      | false =>
                        have e3 : Hid (okL 0 xs = false) := by unfold Hid; rw [hok.out]; exact okL_no hx.out (by simp only; rw [eg.out, hg]; simp)
                        go_wp2
                        go_ret
                        exact ⟨by rw [e.out, e3.out]; rfl, below_size B1 B1.size B5⟩
                      | true =>
                        have e3 : Hid (okL 0 xs = okL o (xs.drop (k + 1))) := by unfold Hid; rw [hok.out]; exact okL_yes hx.out (by simp only; omega) (by simp only; omega) (by simp only; rw [eg.out, hg])
                        have hlq : ∀ x, 0 < k + 1 → xs[k + 1 - 1]? = some x → x.oop = o := fun x _ h => by rw [Nat.add_sub_cancel, hx.out] at h; cases h; rfl
                        go_wp2
                        go_roundw
                        case rel => exact ⟨k + 1, o, by omega, by go_num, by omega, fun h => absurd h (by omega), hlq, e3, B5⟩
                        case measure => simp [intOf]; omega
          · have hlt' : ¬ (k : Int) < (n : Int) := by omega
            have ed : Hid (okL 0 xs = true) := by unfold Hid; rw [hok.out, List.drop_of_length_le (by omega)]; rfl
            go_wp2
            go_ret
            exact ⟨by rw [e.out, ed.out]; rfl, below_size B1 B1.size hB⟩
end Go.Proofs.Ytjfaflmmanjjbaa
