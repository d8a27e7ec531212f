/- The document's Same. -/
import Derived.Test.YtjfaflmmanjjbaaAlike
namespace Go.Proofs.Ytjfaflmmanjjbaa
open Go.RowKit
set_option maxRecDepth 100000
theorem alike_no {c d : Int} {vs us : List (Int × Int)} {bs ds : List Int} (h : ¬ (c = d ∧ vs = us ∧ bs = ds)) : alike c d vs us bs ds = false := by
  simp only [alike, Bool.and_eq_false_iff, decide_eq_false_iff_not]
  by_cases h1 : c = d
  · by_cases h2 : vs = us
    · exact .inr fun h3 => h ⟨h1, h2, h3⟩
    · exact .inl (.inr h2)
  · exact .inl (.inl h1)
set_option maxHeartbeats 4000000 in
theorem rsame_any {w : World} {c d : Int} {sa ba ta ea : Option Addr} {sn sc bn bc tn tc en ec : Nat} {vs us : List (Int × Int)} {bs ds : List Int} (h1 : IsO w c sa sn sc ba bn bc vs bs) (h2 : IsO w d ta tn tc ea en ec us ds) :
    Calls Try.prog 17 #[.agg #[.int .i64 c, .slice sa sn sc, .slice ba bn bc], .agg #[.int .i64 d, .slice ta tn tc, .slice ea en ec]] w fun e w' => e = .returned (.bool (alike c d vs us bs ds)) ∧ Below w.heap.size w w' := by
  have B : Below w.heap.size w ((w.alloc (.cells #[.int .i64 c, .slice sa sn sc, .slice ba bn bc] 27)).alloc (.cells #[.int .i64 d, .slice ta tn tc, .slice ea en ec] 27)) := below_size box_below box_below.size box_below
  have s1 := h1.v.size
  have s2 := h2.v.size
  have m1 := h1.v.most
  have m2 := h2.v.most
  have r1 := h1.v.room
  have r2 := h2.v.room
  unfold maxLen at m1 m2
  by_cases hc : c = d
  · subst hc
    by_cases hl : sn = tn
    · subst hl
      have k1 := (h1.below (box_below (o := .cells #[.int .i64 c, .slice sa sn sc, .slice ba bn bc] 27))).below (box_below (o := .cells #[.int .i64 c, .slice ta sn tc, .slice ea en ec] 27))
      have k2 := (h2.below (box_below (o := .cells #[.int .i64 c, .slice sa sn sc, .slice ba bn bc] 27))).below (box_below (o := .cells #[.int .i64 c, .slice ta sn tc, .slice ea en ec] 27))
      have e1 := k1.b.str
      have e2 := k2.b.str
      have hbq := str_beq k1.b.byte k2.b.byte
      by_cases hb : bs = ds
      · have e : alike c c vs us bs ds = decide (vs = us) := by simp [alike, hb]
        rw [e]
        clear e
        rw [decide_eq_true hb] at hbq
        have hca : ((w.alloc (.cells #[.int .i64 c, .slice sa sn sc, .slice ba bn bc] 27)).alloc (.cells #[.int .i64 c, .slice ta sn tc, .slice ea en ec] 27)).cell? ⟨w.heap.size, 1, none⟩ = some (.slice sa sn sc) := by simp
        have hcb : ((w.alloc (.cells #[.int .i64 c, .slice sa sn sc, .slice ba bn bc] 27)).alloc (.cells #[.int .i64 c, .slice ta sn tc, .slice ea en ec] 27)).cell? ⟨w.heap.size + 1, 1, none⟩ = some (.slice ta sn tc) := by simp
        go_enter Try.func17, Try.ntmps17
        go_wp2
        clear e1 e2 hbq
        have v1 := k1.v
        have v2 := k2.v
        clear k1 k2 h1 h2 hb
        generalize (w.alloc (.cells #[.int .i64 c, .slice sa sn sc, .slice ba bn bc] 27)).alloc (.cells #[.int .i64 c, .slice ta sn tc, .slice ea en ec] 27) = w1 at *
        go_loopw [5] (fun iv wr => ∃ (k q : Nat), k ≤ sn ∧ iv = .int .i64 (k : Int) ∧ wr = w1.drewN q ∧ vs.take k = us.take k) (fun iv _ => sn - (intOf iv).toNat)
        case atStart => exact ⟨0, 0, by omega, rfl, rfl, by simp⟩
        case round =>
          obtain ⟨k, q, hk, rfl, rfl, hok⟩ := hrel
          by_cases hlt : k < sn
          · obtain ⟨b1, o1, x1, y1, rfl, hb1, c1, d1, e1, _, _⟩ := v1.at_ k hlt
            obtain ⟨b2, o2, x2, y2, rfl, hb2, c2, d2, e2, _, _⟩ := v2.at_ k hlt
            replace hok : Hid (vs.take k = us.take k) := hok
            have hki : (k : Int) < (sn : Int) := by omega
            by_cases he : x1 = x2 ∧ y1 = y2
            · obtain ⟨rfl, rfl⟩ := he
              go_wp2_with fail
              go_quiet (fail)
              go_wp2
              go_roundw
              case rel => exact ⟨k + 1, _, by omega, by go_num, rfl, take_eq e1.out e2.out hok.out⟩
              case measure => simp [intOf]; omega
            · have hne : vs ≠ us := ne_at e1.out e2.out (fun h => he (by simpa using h))
              replace hne : Hid (vs ≠ us) := hne
              by_cases hx : x1 = x2
              · subst hx
                have hy : ¬ y1 = y2 := fun h => he ⟨rfl, h⟩
                clear he
                go_wp2_with fail
                go_quiet (fail)
                go_wp2
                go_ret
                exact ⟨by rw [decide_eq_false hne.out]; rfl, below_drewN (below_drewN B _) _⟩
              · clear he
                go_wp2_with fail
                go_quiet (fail)
                go_wp2
                go_ret
                exact ⟨by rw [decide_eq_false hne.out]; rfl, below_drewN (below_drewN B _) _⟩
          · rw [List.take_of_length_le (by omega), List.take_of_length_le (by omega)] at hok
            replace hok : Hid (vs = us) := hok
            go_wp2
            go_ret
            exact ⟨by rw [decide_eq_true hok.out]; rfl, below_drewN B _⟩
      · rw [decide_eq_false hb] at hbq
        rw [alike_no (fun h => hb h.2.2)]
        go_enter Try.func17, Try.ntmps17
        go_wp2
        go_ret
        exact ⟨rfl, B⟩
    · rw [alike_no (fun h => hl (by rw [← s1, ← s2, h.2.1]))]
      go_enter Try.func17, Try.ntmps17
      go_wp2
      go_ret
      exact ⟨rfl, B⟩
  · rw [alike_no (fun h => hc h.1)]
    go_enter Try.func17, Try.ntmps17
    go_wp2
    go_ret
    exact ⟨rfl, B⟩
end Go.Proofs.Ytjfaflmmanjjbaa
