/- Are two slices of values alike? -/
import Derived.Test.YtjfaflmmanjjbaaObj
import Derived.Deep.QuietTactic
import Derived.BigQuiet
import Derived.ChangeKeysEq
namespace Go.Proofs.Ytjfaflmmanjjbaa
open Go.RowKit
set_option maxRecDepth 100000
set_option maxHeartbeats 2000000 in
theorem rrightObj_any {w : World} (c : Int) {sa ba : Option Addr} {sn sc bn bc : Nat} {vs : List (Int × Int)} (hv : IsV w sa sn sc vs) (hb : bn ≤ maxLen) :
    Calls Try.prog 15 #[.agg #[.int .i64 c, .slice sa sn sc, .slice ba bn bc]] w fun e w' => e = .returned (.bool (okO c vs bn)) ∧ Below w.heap.size w w' := by
  have hsz := hv.size
  have hsm := hv.room
  have hsx := hv.most
  unfold maxLen at hb hsx
  by_cases h1 : 1 ≤ c ∧ c ≤ 4096
  · obtain ⟨h1a, h1b⟩ := h1
    have h1c : okC c = true := by simp [okC]; omega
    by_cases h2 : sn ≤ 256
    · by_cases h3 : bn ≤ 1024
      · have e : okO c vs bn = okVs vs := by unfold okO; rw [h1c, decide_eq_true (by omega), decide_eq_true h3]; rfl
        rw [e]
        clear e h1c
        go_enter Try.func15, Try.ntmps15
        go_wp2
        have hv1 := hv.below (box_below (o := .cells #[.int .i64 c, .slice sa sn sc, .slice ba bn bc] 27))
        have hB1 : Below w.heap.size w (w.alloc (.cells #[.int .i64 c, .slice sa sn sc, .slice ba bn bc] 27)) := box_below
        have hl1 : w.heap.size < (w.alloc (.cells #[.int .i64 c, .slice sa sn sc, .slice ba bn bc] 27)).heap.size := by simp
        have hc1 : (w.alloc (.cells #[.int .i64 c, .slice sa sn sc, .slice ba bn bc] 27)).cell? ⟨w.heap.size, 1, none⟩ = some (.slice sa sn sc) := by simp
        generalize w.alloc (.cells #[.int .i64 c, .slice sa sn sc, .slice ba bn bc] 27) = w1 at *
        go_loopw [3] (fun iv wr => ∃ k : Nat, k ≤ sn ∧ iv = .int .i64 (k : Int) ∧ okVs (vs.take k) = true ∧ Below w1.heap.size w1 wr) (fun iv _ => sn - (intOf iv).toNat)
        case atStart => exact ⟨0, by omega, rfl, rfl, Below.refl _ _⟩
        case round =>
          obtain ⟨k, hk, rfl, hok, hB⟩ := hrel
          have hcr := (hB.cell (p := ⟨w.heap.size, 1, none⟩) hl1).trans hc1
          by_cases hlt : k < sn
          · obtain ⟨b, off, x, y, rfl, hbl, c0, c1, hx, _, _⟩ := (hv1.below hB).at_ k hlt
            go_wp2_with fail
            refine (rright_any _ _ _).mono ?_
            rintro e w2 ⟨rfl, B2⟩
            have B3 : Below w1.heap.size w1 w2 := below_size hB hB.size B2
            clear hB B2 c0 c1 hcr
            by_cases hy : okV x y = true
            · rw [hy]
              have hs := okVs_snoc hx.out
              rw [hok, hy] at hs
              replace hs : Hid (okVs (vs.take (k + 1)) = true) := hs
              clear hok
              go_wp2
              go_roundw
              case rel => exact ⟨k + 1, by omega, by go_num, hs.out, B3⟩
              case measure => simp [intOf]; omega
            · rw [Bool.not_eq_true] at hy
              rw [hy]
              go_wp2
              go_ret
              exact ⟨by rw [okVs_bad hx.out hy]; rfl, below_size hB1 hB1.size B3⟩
          · go_wp2
            go_ret
            rw [List.take_of_length_le (by omega)] at hok
            exact ⟨by rw [hok]; rfl, below_size hB1 hB1.size hB⟩
      · have e : okO c vs bn = false := by unfold okO; rw [decide_eq_false h3]; simp
        rw [e]
        clear e
        go_enter Try.func15, Try.ntmps15
        go_wp2
        go_ret
        exact ⟨rfl, box_below⟩
    · have e : okO c vs bn = false := by unfold okO; rw [decide_eq_false (show ¬ vs.length ≤ 256 by omega)]; simp
      rw [e]
      clear e
      go_enter Try.func15, Try.ntmps15
      go_wp2
      go_ret
      exact ⟨rfl, box_below⟩
  · have e : okO c vs bn = false := by unfold okO okC; rw [decide_eq_false h1]; simp
    rw [e]
    clear e
    by_cases h1a : c < 1
    · clear h1
      go_enter Try.func15, Try.ntmps15
      go_wp2
      go_ret
      exact ⟨rfl, box_below⟩
    · have h1b : 4096 < c := by omega
      clear h1
      go_enter Try.func15, Try.ntmps15
      go_wp2
      go_ret
      exact ⟨rfl, box_below⟩
end Go.Proofs.Ytjfaflmmanjjbaa
