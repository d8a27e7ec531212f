/- Records: whether they can be. -/
import Derived.Test.YtajdelinfkodbaaBase
namespace Go.Proofs.Ytajdelinfkodbaa
open Go.RowKit 
set_option maxRecDepth 100000
/-- Can a value be kept? -/
def okV (k n : Int) : Bool := if k = 0 ∨ k = 1 ∨ k = 2 then decide (n = 0) else if k = 3 then decide (-1152921504606846976 ≤ n ∧ n < 1152921504606846976) else if k = 4 then decide (1 ≤ n ∧ n ≤ 4096) else false
def okC (n : Int) : Bool := decide (1 ≤ n ∧ n ≤ 4096)
theorem rightOop_any (n : Int) (w : World) : Calls Try.prog 75 #[.int .i64 n] w fun e w' => e = .returned (.bool (okC n)) ∧ w = w' := by
  go_enter Try.func75, Try.ntmps75
  by_cases h1 : 1 ≤ n
  · by_cases h2 : n ≤ 4096
    · go_wp2
      go_ret
      exact ⟨by simp [okC, h1, h2], rfl⟩
    · go_wp2
      go_ret
      exact ⟨by simp [okC, h1]; omega, rfl⟩
  · go_wp2
    go_ret
    exact ⟨by simp [okC]; omega, rfl⟩
theorem okV0 {k n : Int} (h : k = 0 ∨ k = 1 ∨ k = 2) : okV k n = (n == 0) := by unfold okV; rw [if_pos h]; exact Bool.eq_iff_iff.2 (by simp)
theorem okV3 {n : Int} : okV 3 n = decide (-1152921504606846976 ≤ n ∧ n < 1152921504606846976) := by simp [okV]
theorem okV4 {n : Int} : okV 4 n = okC n := by simp [okV, okC]
theorem okVx {k n : Int} (h : ¬ (k = 0 ∨ k = 1 ∨ k = 2)) (h3 : ¬ k = 3) (h4 : ¬ k = 4) : okV k n = false := by unfold okV; rw [if_neg h, if_neg h3, if_neg h4]
set_option maxHeartbeats 1000000 in
theorem right_any (k n : Int) (w : World) : Calls Try.prog 76 #[.agg #[.int .i64 k, .int .i64 n]] w fun e w' => e = .returned (.bool (okV k n)) ∧ Below w.heap.size w w' := by
  by_cases h0 : k = 0 ∨ k = 1 ∨ k = 2
  · rw [okV0 h0]
    rcases h0 with rfl | rfl | rfl
    all_goals
      go_enter Try.func76, Try.ntmps76
      go_wp2
      go_ret
      exact ⟨rfl, box_below⟩
  by_cases h3 : k = 3
  · subst h3
    rw [okV3]
    clear h0
    go_enter Try.func76, Try.ntmps76
    by_cases h1 : -1152921504606846976 ≤ n
    · by_cases h2 : n < 1152921504606846976
      · go_wp2
        go_ret
        exact ⟨by simp [h1, h2], box_below⟩
      · go_wp2
        go_ret
        exact ⟨by simp; omega, box_below⟩
    · go_wp2
      go_ret
      exact ⟨by simp; omega, box_below⟩
  by_cases h4 : k = 4
  · subst h4
    rw [okV4]
    clear h0 h3
    go_enter Try.func76, Try.ntmps76
    go_wp2_with (go_at_call 75; refine (rightOop_any _ _).mono ?_; rintro e w' ⟨rfl, rfl⟩)
    go_ret
    exact ⟨rfl, box_below⟩
  rw [okVx h0 h3 h4]
  have b0 : (k == 0) = false := by simp; omega
  have b1 : (k == 1) = false := by simp; omega
  have b2 : (k == 2) = false := by simp; omega
  have b3 : (k == 3) = false := by simp; omega
  have b4 : (k == 4) = false := by simp; omega
  clear h0 h3 h4
  go_enter Try.func76, Try.ntmps76
  go_wp2
  go_ret
  exact ⟨rfl, box_below⟩
set_option maxHeartbeats 1000000 in
theorem rright_any (k n : Int) (w : World) : Calls Try.prog 67 #[.agg #[.int .i64 k, .int .i64 n]] w fun e w' => e = .returned (.bool (okV k n)) ∧ Below w.heap.size w w' := by
  by_cases h0 : k = 0 ∨ k = 1 ∨ k = 2
  · rw [okV0 h0]
    rcases h0 with rfl | rfl | rfl
    all_goals
      go_enter Try.func67, Try.ntmps67
      go_wp2
      go_ret
      exact ⟨rfl, box_below⟩
  by_cases h3 : k = 3
  · subst h3
    rw [okV3]
    clear h0
    go_enter Try.func67, Try.ntmps67
    by_cases h1 : -1152921504606846976 ≤ n
    · by_cases h2 : n ≤ 1152921504606846975
      · go_wp2
        go_ret
        exact ⟨by simp [h1]; omega, box_below⟩
      · go_wp2
        go_ret
        exact ⟨by simp; omega, box_below⟩
    · go_wp2
      go_ret
      exact ⟨by simp; omega, box_below⟩
  by_cases h4 : k = 4
  · subst h4
    rw [okV4]
    clear h0 h3
    go_enter Try.func67, Try.ntmps67
    by_cases h1 : 1 ≤ n
    · by_cases h2 : n ≤ 4096
      · go_wp2
        go_ret
        exact ⟨by simp [okC, h1, h2], box_below⟩
      · go_wp2
        go_ret
        exact ⟨by simp [okC, h1]; omega, box_below⟩
    · go_wp2
      go_ret
      exact ⟨by simp [okC]; omega, box_below⟩
  rw [okVx h0 h3 h4]
  have b0 : (k == 0) = false := by simp; omega
  have b1 : (k == 1) = false := by simp; omega
  have b2 : (k == 2) = false := by simp; omega
  have b3 : (k == 3) = false := by simp; omega
  have b4 : (k == 4) = false := by simp; omega
  clear h0 h3 h4
  go_enter Try.func67, Try.ntmps67
  go_wp2
  go_ret
  exact ⟨rfl, box_below⟩
/-- Can all values be kept? -/
def okVs (vs : List (Int × Int)) : Bool := vs.all fun v => okV v.1 v.2
/-- Can an object be kept? -/
def okO (c : Int) (vs : List (Int × Int)) (n : Nat) : Bool := okC c && decide (vs.length ≤ 256) && decide (n ≤ 1024) && okVs vs
theorem okVs_snoc {vs : List (Int × Int)} {k : Nat} {x y : Int} (h : vs[k]? = some (x, y)) : okVs (vs.take (k + 1)) = (okVs (vs.take k) && okV x y) := by
  rw [take_at h]
  simp [okVs]
theorem okVs_bad {vs : List (Int × Int)} {k : Nat} {x y : Int} (h : vs[k]? = some (x, y)) (hb : okV x y = false) : okVs vs = false := by
  unfold okVs
  rw [List.all_eq_false]
  exact ⟨_, List.mem_of_getElem? h, by rw [Bool.not_eq_true]; exact hb⟩
set_option maxHeartbeats 2000000 in
theorem rightObj_any {w : World} (c : Int) {sa ba : Option Addr} {sn sc bn bc : Nat} {vs : List (Int × Int)} (hv : IsV w sa sn sc vs) (hb : bn ≤ maxLen) :
    Calls Try.prog 66 #[.agg #[.int .i64 c, .slice sa sn sc, .slice ba bn bc]] w fun e w' => e = .returned (.bool (okO c vs bn)) ∧ Below w.heap.size w w' := by
  have hsz := hv.size
  have hsm := hv.room
  have hsx := hv.most
  unfold maxLen at hb hsx
  by_cases h1 : okC c = true
  · by_cases h2 : sn ≤ 256
    · by_cases h3 : bn ≤ 1024
      · have e : okO c vs bn = okVs vs := by unfold okO; rw [h1, decide_eq_true (by omega), decide_eq_true h3]; rfl
        rw [e]
        clear e
        go_enter Try.func66, Try.ntmps66
        go_wp2_with (go_at_call 75; refine (rightOop_any _ _).mono ?_; rintro e w' ⟨rfl, rfl⟩; rw [h1])
        have hv1 := hv.below (box_below (o := .cells #[.int .i64 c, .slice sa sn sc, .slice ba bn bc] 49))
        have hB1 : Below w.heap.size w (w.alloc (.cells #[.int .i64 c, .slice sa sn sc, .slice ba bn bc] 49)) := box_below
        generalize w.alloc (.cells #[.int .i64 c, .slice sa sn sc, .slice ba bn bc] 49) = w1 at *
        go_loopw [24] (fun iv wr => ∃ k : Nat, k ≤ sn ∧ iv = .int .i64 (k : Int) ∧ okVs (vs.take k) = true ∧ Below w1.heap.size w1 wr) (fun iv _ => sn - (intOf iv).toNat)
        case atStart => exact ⟨0, by omega, rfl, rfl, Below.refl _ _⟩
        case round =>
          obtain ⟨k, hk, rfl, hok, hB⟩ := hrel
          by_cases hlt : k < sn
          · obtain ⟨b, off, x, y, rfl, hbl, c0, c1, hx, _, _⟩ := (hv1.below hB).at_ k hlt
            go_wp2_with fail
            refine (right_any _ _ _).mono ?_
            rintro e w2 ⟨rfl, B2⟩
            have B3 : Below w1.heap.size w1 w2 := below_size (below_size hB hB.size box_below) (Nat.le_trans hB.size box_below.size) B2
            clear hB B2 c0 c1
            by_cases hy : okV x y = true
            · rw [hy]
              have hs := okVs_snoc hx.out
              rw [hok, hy] at hs
              replace hs : Hid (okVs (vs.take (k + 1)) = true) := hs
              clear hok
              go_wp2
              go_roundw
              case rel => exact ⟨k + 1, by omega, by go_num, hs.out, B3⟩
              case measure => simp [intOf]; omega
            · rw [Bool.not_eq_true] at hy
              rw [hy]
              go_wp2
              go_ret
              exact ⟨by rw [okVs_bad hx.out hy]; rfl, below_size hB1 hB1.size B3⟩
          · go_wp2
            go_ret
            rw [List.take_of_length_le (by omega)] at hok
            exact ⟨by rw [hok]; rfl, below_size hB1 hB1.size hB⟩
      · have e : okO c vs bn = false := by unfold okO; rw [decide_eq_false h3]; simp
        rw [e]
        clear e
        go_enter Try.func66, Try.ntmps66
        go_wp2_with (go_at_call 75; refine (rightOop_any _ _).mono ?_; rintro e w' ⟨rfl, rfl⟩; rw [h1])
        go_ret
        exact ⟨rfl, box_below⟩
    · have e : okO c vs bn = false := by unfold okO; rw [decide_eq_false (show ¬ vs.length ≤ 256 by omega)]; simp
      rw [e]
      clear e
      go_enter Try.func66, Try.ntmps66
      go_wp2_with (go_at_call 75; refine (rightOop_any _ _).mono ?_; rintro e w' ⟨rfl, rfl⟩; rw [h1])
      go_ret
      exact ⟨rfl, box_below⟩
  · rw [Bool.not_eq_true] at h1
    have e : okO c vs bn = false := by unfold okO; rw [h1]; simp
    rw [e]
    clear e
    go_enter Try.func66, Try.ntmps66
    go_wp2_with (go_at_call 75; refine (rightOop_any _ _).mono ?_; rintro e w' ⟨rfl, rfl⟩; rw [h1])
    go_ret
    exact ⟨rfl, box_below⟩
set_option maxRecDepth 100000
set_option maxHeartbeats 2000000 in
theorem rrightObj_any {w : World} (c : Int) {sa ba : Option Addr} {sn sc bn bc : Nat} {vs : List (Int × Int)} (hv : IsV w sa sn sc vs) (hb : bn ≤ maxLen) :
    Calls Try.prog 54 #[.agg #[.int .i64 c, .slice sa sn sc, .slice ba bn bc]] w fun e w' => e = .returned (.bool (okO c vs bn)) ∧ Below w.heap.size w w' := by
  have hsz := hv.size
  have hsm := hv.room
  have hsx := hv.most
  unfold maxLen at hb hsx
  by_cases h1 : 1 ≤ c ∧ c ≤ 4096
  · obtain ⟨h1a, h1b⟩ := h1
    have h1c : okC c = true := by simp [okC]; omega
    by_cases h2 : sn ≤ 256
    · by_cases h3 : bn ≤ 1024
      · have e : okO c vs bn = okVs vs := by unfold okO; rw [h1c, decide_eq_true (by omega), decide_eq_true h3]; rfl
        rw [e]
        clear e h1c
        go_enter Try.func54, Try.ntmps54
        go_wp2
        have hv1 := hv.below (box_below (o := .cells #[.int .i64 c, .slice sa sn sc, .slice ba bn bc] 49))
        have hB1 : Below w.heap.size w (w.alloc (.cells #[.int .i64 c, .slice sa sn sc, .slice ba bn bc] 49)) := box_below
        have hl1 : w.heap.size < (w.alloc (.cells #[.int .i64 c, .slice sa sn sc, .slice ba bn bc] 49)).heap.size := by simp
        have hc1 : (w.alloc (.cells #[.int .i64 c, .slice sa sn sc, .slice ba bn bc] 49)).cell? ⟨w.heap.size, 1, none⟩ = some (.slice sa sn sc) := by simp
        generalize w.alloc (.cells #[.int .i64 c, .slice sa sn sc, .slice ba bn bc] 49) = w1 at *
        go_loopw [3] (fun iv wr => ∃ k : Nat, k ≤ sn ∧ iv = .int .i64 (k : Int) ∧ okVs (vs.take k) = true ∧ Below w1.heap.size w1 wr) (fun iv _ => sn - (intOf iv).toNat)
        case atStart => exact ⟨0, by omega, rfl, rfl, Below.refl _ _⟩
        case round =>
          obtain ⟨k, hk, rfl, hok, hB⟩ := hrel
          have hcr := (hB.cell (p := ⟨w.heap.size, 1, none⟩) hl1).trans hc1
          by_cases hlt : k < sn
          · obtain ⟨b, off, x, y, rfl, hbl, c0, c1, hx, _, _⟩ := (hv1.below hB).at_ k hlt
            go_wp2_with fail
            refine (rright_any _ _ _).mono ?_
            rintro e w2 ⟨rfl, B2⟩
            have B3 : Below w1.heap.size w1 w2 := below_size hB hB.size B2
            clear hB B2 c0 c1 hcr
            by_cases hy : okV x y = true
            · rw [hy]
              have hs := okVs_snoc hx.out
              rw [hok, hy] at hs
              replace hs : Hid (okVs (vs.take (k + 1)) = true) := hs
              clear hok
              go_wp2
              go_roundw
              case rel => exact ⟨k + 1, by omega, by go_num, hs.out, B3⟩
              case measure => simp [intOf]; omega
            · rw [Bool.not_eq_true] at hy
              rw [hy]
              go_wp2
              go_ret
              exact ⟨by rw [okVs_bad hx.out hy]; rfl, below_size hB1 hB1.size B3⟩
          · go_wp2
            go_ret
            rw [List.take_of_length_le (by omega)] at hok
            exact ⟨by rw [hok]; rfl, below_size hB1 hB1.size hB⟩
      · have e : okO c vs bn = false := by unfold okO; rw [decide_eq_false h3]; simp
        rw [e]
        clear e
        go_enter Try.func54, Try.ntmps54
        go_wp2
        go_ret
        exact ⟨rfl, box_below⟩
    · have e : okO c vs bn = false := by unfold okO; rw [decide_eq_false (show ¬ vs.length ≤ 256 by omega)]; simp
      rw [e]
      clear e
      go_enter Try.func54, Try.ntmps54
      go_wp2
      go_ret
      exact ⟨rfl, box_below⟩
  · have e : okO c vs bn = false := by unfold okO okC; rw [decide_eq_false h1]; simp
    rw [e]
    clear e
    by_cases h1a : c < 1
    · clear h1
      go_enter Try.func54, Try.ntmps54
      go_wp2
      go_ret
      exact ⟨rfl, box_below⟩
    · have h1b : 4096 < c := by omega
      clear h1
      go_enter Try.func54, Try.ntmps54
      go_wp2
      go_ret
      exact ⟨rfl, box_below⟩
set_option maxHeartbeats 2000000 in
theorem equal_any {w : World} {a b : Option Addr} {n c m d : Nat} {vs us : List (Int × Int)} (hv : IsV w a n c vs) (hu : IsV w b m d us) :
    Calls Try.prog 73 #[.slice a n c, .slice b m d] w fun e w' => e = .returned (.bool (decide (vs = us))) ∧ ∃ q, w' = w.drewN q := by
  have s1 := hv.size
  have s2 := hu.size
  have m1 := hv.most
  have m2 := hu.most
  have r1 := hv.room
  have r2 := hu.room
  unfold maxLen at m1 m2
  by_cases hn : n = m
  · subst hn
    go_enter Try.func73, Try.ntmps73
    go_wp2
    go_loopw [13] (fun iv wr => ∃ (k q : Nat), k ≤ n ∧ iv = .int .i64 (k : Int) ∧ wr = w.drewN q ∧ vs.take k = us.take k) (fun iv _ => n - (intOf iv).toNat)
    case atStart => exact ⟨0, 0, by omega, rfl, rfl, by simp⟩
    case round =>
      obtain ⟨k, q, hk, rfl, rfl, hok⟩ := hrel
      by_cases hlt : k < n
      · obtain ⟨b1, o1, x1, y1, rfl, hb1, c1, d1, e1, _, _⟩ := hv.at_ k hlt
        obtain ⟨b2, o2, x2, y2, rfl, hb2, c2, d2, e2, _, _⟩ := hu.at_ k hlt
        replace hok : Hid (vs.take k = us.take k) := hok
        have hki : (k : Int) < (n : Int) := by omega
        by_cases he : x1 = x2 ∧ y1 = y2
        · obtain ⟨rfl, rfl⟩ := he
          go_wp2_with fail
          go_quiet (fail)
          go_wp2
          go_roundw
          case rel => exact ⟨k + 1, _, by omega, by go_num, rfl, take_eq e1.out e2.out hok.out⟩
          case measure => simp [intOf]; omega
        · have hne : vs ≠ us := ne_at e1.out e2.out (fun h => he (by simpa using h))
          replace hne : Hid (vs ≠ us) := hne
          by_cases hx : x1 = x2
          · subst hx
            have hy : ¬ y1 = y2 := fun h => he ⟨rfl, h⟩
            clear he
            go_wp2_with fail
            go_quiet (fail)
            go_wp2
            go_ret
            exact ⟨by rw [decide_eq_false hne.out]; rfl, _, World.drewN_drewN ..⟩
          · clear he
            go_wp2_with fail
            go_quiet (fail)
            go_wp2
            go_ret
            exact ⟨by rw [decide_eq_false hne.out]; rfl, _, World.drewN_drewN ..⟩
      · rw [List.take_of_length_le (by omega), List.take_of_length_le (by omega)] at hok
        replace hok : Hid (vs = us) := hok
        go_wp2
        go_ret
        exact ⟨by rw [decide_eq_true hok.out]; rfl, _, rfl⟩
  · have hne : vs ≠ us := by rintro rfl; omega
    rw [decide_eq_false hne]
    go_enter Try.func73, Try.ntmps73
    go_wp2
    go_ret
    exact ⟨rfl, 0, rfl⟩
theorem bytesEq_any {w : World} {a b : Option Addr} {n c m d : Nat} {xs ys : List Int} (h1 : IsB w a n c xs) (h2 : IsB w b m d ys) :
    Calls Try.prog 74 #[.slice a n c, .slice b m d] w fun e w' => e = .returned (.bool (decide (xs = ys))) ∧ w = w' := by
  have e1 := h1.str
  have e2 := h2.str
  rw [← str_beq h1.byte h2.byte]
  go_enter Try.func74, Try.ntmps74
  go_wp2
  go_ret
  exact ⟨rfl, rfl⟩
set_option maxHeartbeats 2000000 in
theorem same_any {w : World} {c d : Int} {sa ba ta ea : Option Addr} {sn sc bn bc tn tc en ec : Nat} {vs us : List (Int × Int)} {bs ds : List Int} (h1 : IsO w c sa sn sc ba bn bc vs bs) (h2 : IsO w d ta tn tc ea en ec us ds) :
    Calls Try.prog 65 #[.agg #[.int .i64 c, .slice sa sn sc, .slice ba bn bc], .agg #[.int .i64 d, .slice ta tn tc, .slice ea en ec]] w fun e w' => e = .returned (.bool (alike c d vs us bs ds)) ∧ Below w.heap.size w w' := by
  by_cases hc : c = d
  · have e1 : alike c d vs us bs ds = (decide (vs = us) && decide (bs = ds)) := by simp [alike, hc]
    rw [e1]
    clear e1
    subst hc
    obtain ⟨E, hE⟩ : ∃ E, Hid (decide (vs = us) = E) := ⟨_, rfl⟩
    rw [hE.out]
    go_enter Try.func65, Try.ntmps65
    go_wp2_with fail
    have k1 := (h1.below (box_below (o := .cells #[.int .i64 c, .slice sa sn sc, .slice ba bn bc] 49))).below (box_below (o := .cells #[.int .i64 c, .slice ta tn tc, .slice ea en ec] 49))
    have k2 := (h2.below (box_below (o := .cells #[.int .i64 c, .slice sa sn sc, .slice ba bn bc] 49))).below (box_below (o := .cells #[.int .i64 c, .slice ta tn tc, .slice ea en ec] 49))
    have B := below_size (box_below (w := w) (o := .cells #[.int .i64 c, .slice sa sn sc, .slice ba bn bc] 49)) box_below.size (box_below (o := .cells #[.int .i64 c, .slice ta tn tc, .slice ea en ec] 49))
    refine (equal_any k1.v k2.v).mono ?_
    rintro e w' ⟨rfl, q, rfl⟩
    rw [hE.out]
    cases E
    · go_wp2
      go_ret
      exact ⟨rfl, below_drewN B _⟩
    · go_wp2_with fail
      refine (bytesEq_any (k1.b.drewN q) (k2.b.drewN q)).mono ?_
      rintro e w' ⟨rfl, rfl⟩
      go_wp2
      go_ret
      exact ⟨by simp, below_drewN B _⟩
  · have e1 : alike c d vs us bs ds = false := by simp [alike, hc]
    rw [e1]
    clear e1
    go_enter Try.func65, Try.ntmps65
    go_wp2
    go_ret
    exact ⟨rfl, below_size box_below box_below.size box_below⟩
set_option maxRecDepth 100000
theorem OwnB.shape {w : World} {base : Nat} {v : Value} {xs : List Int} (h : OwnB w base v xs) : ∃ a c, v = .slice a xs.length c := by
  obtain ⟨_, a, c, e, _⟩ := h
  exact ⟨a, c, e⟩
set_option maxRecDepth 100000
/-- A change: the object's number, whether it is gone, its class, slots and bytes. -/
structure Ch where
  oop : Int
  gone : Bool
  cls : Int
  vs : List (Int × Int)
  bs : List Int
/-- A change in memory. -/
def IsCh (w : World) (b off : Nat) (x : Ch) : Prop := ∃ sa sn sc ba bn bc, w.cell? ⟨b, off, none⟩ = some (.int .i64 x.oop) ∧ w.cell? ⟨b, off + 1, none⟩ = some (.bool x.gone) ∧ w.cell? ⟨b, off + 2, none⟩ = some (.int .i64 x.cls) ∧ w.cell? ⟨b, off + 3, none⟩ = some (.slice sa sn sc) ∧ w.cell? ⟨b, off + 4, none⟩ = some (.slice ba bn bc) ∧ IsO w x.cls sa sn sc ba bn bc x.vs x.bs
theorem IsCh.below {w w' : World} {b off : Nat} {x : Ch} (h : IsCh w b off x) (hb : Below w.heap.size w w') : IsCh w' b off x := by
  obtain ⟨sa, sn, sc, ba, bn, bc, h0, h1, h2, h3, h4, ho⟩ := h
  have hl := lt_of_cell h0
  exact ⟨sa, sn, sc, ba, bn, bc, (hb.cell (p := ⟨b, _, none⟩) hl).trans h0, (hb.cell (p := ⟨b, _, none⟩) hl).trans h1, (hb.cell (p := ⟨b, _, none⟩) hl).trans h2, (hb.cell (p := ⟨b, _, none⟩) hl).trans h3, (hb.cell (p := ⟨b, _, none⟩) hl).trans h4, ho.below hb⟩
/-- A slice of changes that is only read. -/
structure IsC (w : World) (a : Option Addr) (len cap : Nat) (xs : List Ch) : Prop where
  size : xs.length = len
  room : len ≤ cap
  most : cap ≤ maxLen
  nil0 : a = none → cap = 0
  wf : ∀ x ∈ xs, -9223372036854775808 ≤ x.oop ∧ x.oop ≤ 9223372036854775807
  cells : 0 < len → ∃ b off, a = some ⟨b, off, none⟩ ∧ ∀ i x, xs[i]? = some x → IsCh w b (off + i * 5) x
theorem IsC.below {w w' : World} {a : Option Addr} {len cap : Nat} {xs : List Ch} (h : IsC w a len cap xs) (hb : Below w.heap.size w w') : IsC w' a len cap xs :=
  ⟨h.size, h.room, h.most, h.nil0, h.wf, fun h0 => by obtain ⟨b, off, e, k⟩ := h.cells h0; exact ⟨b, off, e, fun i x hx => (k i x hx).below hb⟩⟩
theorem IsC.at_ {w : World} {a : Option Addr} {len cap : Nat} {xs : List Ch} (h : IsC w a len cap xs) (k : Nat) (hk : k < len) : ∃ b off x, a = some ⟨b, off, none⟩ ∧ b < w.heap.size ∧ Hid (xs[k]? = some x) ∧ IsCh w b (off + k * 5) x ∧ (-9223372036854775808 ≤ x.oop ∧ x.oop ≤ 9223372036854775807) := by
  obtain ⟨b, off, e, c⟩ := h.cells (by omega)
  have hs := h.size
  obtain ⟨x, hx⟩ : ∃ x, xs[k]? = some x := ⟨_, List.getElem?_eq_getElem (by omega)⟩
  have hc := c k x hx
  refine ⟨b, off, x, e, ?_, hx, hc, h.wf x (List.mem_of_getElem? hx)⟩
  obtain ⟨_, _, _, _, _, _, h0, _⟩ := hc
  exact lt_of_cell h0
/-- Can a change's object be? -/
def okCh (g : Bool) (c : Int) (vs : List (Int × Int)) (bs : List Int) : Bool := if g = true then alike c 0 vs [] bs [] else okO c vs bs.length
/-- Can the changes be, behind one of a number? -/
def okL : Int → List Ch → Bool
  | _, [] => true
  | l, x :: t => decide (l < x.oop) && decide (x.oop ≤ 4096) && okCh x.gone x.cls x.vs x.bs && okL x.oop t
def okR (c : Int) (xs : List Ch) : Bool := decide (1 ≤ c ∧ c ≤ 1099511627776) && decide (xs.length ≤ 4096) && okL 0 xs
theorem okL_yes {l : Int} {xs : List Ch} {k : Nat} {x : Ch} (h : xs[k]? = some x) (h1 : l < x.oop) (h2 : x.oop ≤ 4096) (h3 : okCh x.gone x.cls x.vs x.bs = true) : okL l (xs.drop k) = okL x.oop (xs.drop (k + 1)) := by
  obtain ⟨hk, e⟩ := List.getElem?_eq_some_iff.1 h
  rw [List.drop_eq_getElem_cons hk, e]
  simp [okL, h1, h2, h3]
theorem okL_no {l : Int} {xs : List Ch} {k : Nat} {x : Ch} (h : xs[k]? = some x) (hn : ¬ (l < x.oop ∧ x.oop ≤ 4096 ∧ okCh x.gone x.cls x.vs x.bs = true)) : okL l (xs.drop k) = false := by
  obtain ⟨hk, e⟩ := List.getElem?_eq_some_iff.1 h
  rw [List.drop_eq_getElem_cons hk, e]
  cases hc : okL l (x :: xs.drop (k + 1)) with
  | false => rfl
  | true => simp [okL] at hc; exact absurd ⟨hc.1.1.1, hc.1.1.2, hc.1.2⟩ hn
theorem isO_none (w : World) : IsO w 0 none 0 0 none 0 0 [] [] := ⟨by decide, ⟨rfl, Nat.le_refl _, by decide, fun _ => rfl, by simp, fun h => absurd h (by decide)⟩, ⟨rfl, Nat.le_refl _, by decide, fun _ => rfl, by simp, fun h => absurd h (by decide)⟩⟩
set_option maxHeartbeats 2000000 in
theorem rightChange_any {w : World} (o : Int) (g : Bool) {c : Int} {sa ba : Option Addr} {sn sc bn bc : Nat} {vs : List (Int × Int)} {bs : List Int} (h : IsO w c sa sn sc ba bn bc vs bs) :
    Calls Try.prog 52 #[.agg #[.int .i64 o, .bool g, .int .i64 c, .slice sa sn sc, .slice ba bn bc]] w fun e w' => e = .returned (.bool (okCh g c vs bs)) ∧ Below w.heap.size w w' := by
  have k1 := h.below (box_below (o := .cells #[.int .i64 o, .bool g, .int .i64 c, .slice sa sn sc, .slice ba bn bc] 51))
  have hbm : bn ≤ maxLen := Nat.le_trans h.b.room h.b.most
  have hbs := h.b.size
  cases g with
  | true =>
    have e : Hid (okCh true c vs bs = alike c 0 vs [] bs []) := rfl
    go_enter Try.func52, Try.ntmps52
    go_wp2_with fail
    refine (same_any k1 (isO_none _)).mono ?_
    rintro e w1 ⟨rfl, B1⟩
    go_wp2
    go_ret
    exact ⟨rfl, below_size box_below box_below.size B1⟩
  | false =>
    have e : Hid (okCh false c vs bs = okO c vs bn) := by unfold Hid okCh; rw [hbs]; rfl
    go_enter Try.func52, Try.ntmps52
    go_wp2_with fail
    refine (rightObj_any c k1.v hbm).mono ?_
    rintro e' w1 ⟨rfl, B1⟩
    go_wp2
    go_ret
    exact ⟨by rw [e.out]; rfl, below_size box_below box_below.size B1⟩
set_option maxRecDepth 100000
set_option maxHeartbeats 4000000 in
theorem rightRecord_any {w : World} (c : Int) {a : Option Addr} {n cap : Nat} {xs : List Ch} (h : IsC w a n cap xs) :
    Calls Try.prog 35 #[.agg #[.int .i64 c, .slice a n cap]] w fun e w' => e = .returned (.bool (okR c xs)) ∧ Below w.heap.size w w' := by
  have hsz := h.size
  have hrm := h.room
  have hmm := h.most
  unfold maxLen at hmm
  have B1 : Below w.heap.size w (w.alloc (.cells #[.int .i64 c, .slice a n cap] 38)) := box_below
  have h1 := h.below B1
  by_cases hc1 : c < 1
  · have e : Hid (okR c xs = false) := by unfold Hid okR; rw [decide_eq_false (by omega)]; rfl
    go_enter Try.func35, Try.ntmps35
    go_wp2
    go_ret
    exact ⟨by rw [e.out]; rfl, B1⟩
  · by_cases hc2 : 1099511627776 < c
    · have e : Hid (okR c xs = false) := by unfold Hid okR; rw [decide_eq_false (by omega)]; rfl
      go_enter Try.func35, Try.ntmps35
      go_wp2
      go_ret
      exact ⟨by rw [e.out]; rfl, B1⟩
    · by_cases hn : 4096 < n
      · have e : Hid (okR c xs = false) := by unfold Hid okR; rw [decide_eq_false (show ¬ xs.length ≤ 4096 by omega)]; simp
        have hn' : (4096 : Int) < (n : Int) := by omega
        go_enter Try.func35, Try.ntmps35
        go_wp2
        go_ret
        exact ⟨by rw [e.out]; rfl, B1⟩
      · have e : Hid (okR c xs = okL 0 xs) := by unfold Hid okR; rw [decide_eq_true (by omega), decide_eq_true (show xs.length ≤ 4096 by omega)]; rfl
        have hn' : ¬ (4096 : Int) < (n : Int) := by omega
        go_enter Try.func35, Try.ntmps35
        go_wp2
        generalize w.alloc (.cells #[.int .i64 c, .slice a n cap] 38) = w1 at *
        go_loopw [3, 23] (fun lv iv wr => ∃ (k : Nat) (l : Int), k ≤ n ∧ iv = .int .i64 (k : Int) ∧ lv = .int .i64 l ∧ Hid (okL 0 xs = okL l (xs.drop k)) ∧ Below w1.heap.size w1 wr) (fun _ iv _ => n - (intOf iv).toNat)
        case atStart => exact ⟨0, 0, by omega, rfl, rfl, rfl, Below.refl _ _⟩
        case round =>
          obtain ⟨k, l, hk, rfl, rfl, hok, hB⟩ := hrel
          by_cases hlt : k < n
          · obtain ⟨b, off, x, rfl, hbl, hx, hcx, hox⟩ := (h1.below hB).at_ k hlt
            obtain ⟨o, g, c', vs, bs⟩ := x
            obtain ⟨sa, sn, sc, ba, bn, bc, c0, c1, c2, c3, c4, io⟩ := hcx
            simp only at c0 c1 c2 io hox
            have io1 := io.below (box_below (o := .cells #[.int .i64 o, .bool g, .int .i64 c', .slice sa sn sc, .slice ba bn bc] 51))
            have B2 : Below w1.heap.size w1 (wr.alloc (.cells #[.int .i64 o, .bool g, .int .i64 c', .slice sa sn sc, .slice ba bn bc] 51)) := below_size hB hB.size box_below
            have hki : (k : Int) < (n : Int) := by omega
            by_cases hl : o ≤ l
            · have e3 : Hid (okL 0 xs = false) := by unfold Hid; rw [hok.out]; exact okL_no hx.out (by simp only; omega)
              go_wp2
              go_ret
              exact ⟨by rw [e.out, e3.out]; rfl, below_size B1 B1.size B2⟩
            · by_cases hm : 4096 < o
              · have e3 : Hid (okL 0 xs = false) := by unfold Hid; rw [hok.out]; exact okL_no hx.out (by simp only; omega)
                go_wp2
                go_ret
                exact ⟨by rw [e.out, e3.out]; rfl, below_size B1 B1.size B2⟩
              · go_wp2_with fail
                refine (rightChange_any o g io1).mono ?_
                rintro e' w2 ⟨rfl, B3⟩
                have B4 := below_size B2 B2.size B3
                have cc : w2.cell? ⟨wr.heap.size, 0, none⟩ = some (.int .i64 o) := (B3.cell (p := ⟨wr.heap.size, 0, none⟩) (by simp)).trans (by simp)
                clear c0 c1 c2 c3 c4 io io1 hB B2 B3
                generalize wr.heap.size = rb at *
                cases hg : okCh g c' vs bs with
                | false =>
                  have e3 : Hid (okL 0 xs = false) := by unfold Hid; rw [hok.out]; exact okL_no hx.out (by simp [hg])
                  go_wp2
                  go_ret
                  exact ⟨by rw [e.out, e3.out]; rfl, below_size B1 B1.size B4⟩
                | true =>
                  have e3 : Hid (okL 0 xs = okL o (xs.drop (k + 1))) := by unfold Hid; rw [hok.out]; exact okL_yes hx.out (by simp only; omega) (by simp only; omega) hg
                  go_wp2
                  go_roundw
                  case rel => exact ⟨k + 1, o, by omega, by go_num, rfl, e3, B4⟩
                  case measure => simp [intOf]; omega
          · have hlt' : ¬ (k : Int) < (n : Int) := by omega
            have ed : Hid (okL 0 xs = true) := by unfold Hid; rw [hok.out, List.drop_of_length_le (by omega)]; rfl
            go_wp2
            go_ret
            exact ⟨by rw [e.out, ed.out]; rfl, below_size B1 B1.size hB⟩
theorem OwnB.size {w : World} {base n c : Nat} {a : Option Addr} {xs : List Int} (h : OwnB w base (.slice a n c) xs) : n = xs.length := by
  obtain ⟨a', c', e⟩ := h.shape
  cases e
  rfl
set_option maxRecDepth 100000
set_option maxHeartbeats 4000000 in
theorem rrightRecord_any {w : World} (c : Int) {a : Option Addr} {n cap : Nat} {xs : List Ch} (h : IsC w a n cap xs) :
    Calls Try.prog 37 #[.agg #[.int .i64 c, .slice a n cap]] w fun e w' => e = .returned (.bool (okR c xs)) ∧ Below w.heap.size w w' := by
  have hsz := h.size
  have hrm := h.room
  have hmm := h.most
  unfold maxLen at hmm
  have B1 : Below w.heap.size w (w.alloc (.cells #[.int .i64 c, .slice a n cap] 29)) := box_below
  have h1 := h.below B1
  by_cases hc1 : c < 1
  · have e : Hid (okR c xs = false) := by unfold Hid okR; rw [decide_eq_false (by omega)]; rfl
    go_enter Try.func37, Try.ntmps37
    go_wp2
    go_ret
    exact ⟨by rw [e.out]; rfl, B1⟩
  · by_cases hc2 : 1099511627776 < c
    · have e : Hid (okR c xs = false) := by unfold Hid okR; rw [decide_eq_false (by omega)]; rfl
      go_enter Try.func37, Try.ntmps37
      go_wp2
      go_ret
      exact ⟨by rw [e.out]; rfl, B1⟩
    · by_cases hn : 4096 < n
      · have e : Hid (okR c xs = false) := by unfold Hid okR; rw [decide_eq_false (show ¬ xs.length ≤ 4096 by omega)]; simp
        have hn' : (4096 : Int) < (n : Int) := by omega
        go_enter Try.func37, Try.ntmps37
        go_wp2
        go_ret
        exact ⟨by rw [e.out]; rfl, B1⟩
      · have e : Hid (okR c xs = okL 0 xs) := by unfold Hid okR; rw [decide_eq_true (by omega), decide_eq_true (show xs.length ≤ 4096 by omega)]; rfl
        have hn' : ¬ (4096 : Int) < (n : Int) := by omega
        go_enter Try.func37, Try.ntmps37
        go_wp2
        have hl1 : w.heap.size < (w.alloc (.cells #[.int .i64 c, .slice a n cap] 29)).heap.size := by simp
        have hc1' : (w.alloc (.cells #[.int .i64 c, .slice a n cap] 29)).cell? ⟨w.heap.size, 1, none⟩ = some (.slice a n cap) := by simp
        generalize w.alloc (.cells #[.int .i64 c, .slice a n cap] 29) = w1 at *
        go_loopw [3] (fun iv wr => ∃ (k : Nat) (l : Int), k ≤ n ∧ iv = .int .i64 (k : Int) ∧ 0 ≤ l ∧ (k = 0 → l = 0) ∧ (∀ x, 0 < k → xs[k - 1]? = some x → x.oop = l) ∧ Hid (okL 0 xs = okL l (xs.drop k)) ∧ Below w1.heap.size w1 wr) (fun iv _ => n - (intOf iv).toNat)
        case atStart => exact ⟨0, 0, by omega, rfl, by omega, fun _ => rfl, fun _ h => absurd h (by omega), rfl, Below.refl _ _⟩
        case round =>
          obtain ⟨k, l, hk, rfl, hl0, hlz, hlp, hok, hB⟩ := hrel
          have hcr := (hB.cell (p := ⟨w.heap.size, 1, none⟩) hl1).trans hc1'
          by_cases hlt : k < n
          · have hi1 := h1.below hB
            obtain ⟨b, off, x, rfl, hbl, hx, hcx, hox⟩ := hi1.at_ k hlt
            obtain ⟨o, g, c', vs, bs⟩ := x
            obtain ⟨sa, sn, sc, ba, bn, bc, c0, c1, c2, c3, c4, io⟩ := hcx
            simp only at c0 c1 c2 io hox
            have io1 := io.below (box_below (o := .cells #[.int .i64 o, .bool g, .int .i64 c', .slice sa sn sc, .slice ba bn bc] 73))
            have hi2 := hi1.below (box_below (o := .cells #[.int .i64 o, .bool g, .int .i64 c', .slice sa sn sc, .slice ba bn bc] 73))
            have B2 : Below w1.heap.size w1 (wr.alloc (.cells #[.int .i64 o, .bool g, .int .i64 c', .slice sa sn sc, .slice ba bn bc] 73)) := below_size hB hB.size box_below
            have hki : (k : Int) < (n : Int) := by omega
            go_upto_region 7 with fail
            have y0 : (wr.alloc (.cells #[.int .i64 o, .bool g, .int .i64 c', .slice sa sn sc, .slice ba bn bc] 73)).cell? ⟨wr.heap.size, 0, none⟩ = some (.int .i64 o) := by simp
            have y1 : (wr.alloc (.cells #[.int .i64 o, .bool g, .int .i64 c', .slice sa sn sc, .slice ba bn bc] 73)).cell? ⟨wr.heap.size, 1, none⟩ = some (.bool g) := by simp
            have y2 : (wr.alloc (.cells #[.int .i64 o, .bool g, .int .i64 c', .slice sa sn sc, .slice ba bn bc] 73)).cell? ⟨wr.heap.size, 2, none⟩ = some (.int .i64 c') := by simp
            have y3 : (wr.alloc (.cells #[.int .i64 o, .bool g, .int .i64 c', .slice sa sn sc, .slice ba bn bc] 73)).cell? ⟨wr.heap.size, 3, none⟩ = some (.slice sa sn sc) := by simp
            have y4 : (wr.alloc (.cells #[.int .i64 o, .bool g, .int .i64 c', .slice sa sn sc, .slice ba bn bc] 73)).cell? ⟨wr.heap.size, 4, none⟩ = some (.slice ba bn bc) := by simp
            have hcr2 := (B2.cell (p := ⟨w.heap.size, 1, none⟩) hl1).trans hc1'
            clear c0 c1 c2 c3 c4 io hcr
            generalize wr.alloc (.cells #[.int .i64 o, .bool g, .int .i64 c', .slice sa sn sc, .slice ba bn bc] 73) = wa at *
            generalize wr.heap.size = rb at *
            clear hi1 hB
            by_cases ho1 : o < 1
            · have e3 : Hid (okL 0 xs = false) := by unfold Hid; rw [hok.out]; exact okL_no hx.out (by simp only; omega)
              go_quiet (fail)
              go_wp2
              go_ret
              exact ⟨by rw [e.out, e3.out]; rfl, below_drewN (below_size B1 B1.size B2) _⟩
            · by_cases ho2 : 4096 < o
              · have e3 : Hid (okL 0 xs = false) := by unfold Hid; rw [hok.out]; exact okL_no hx.out (by simp only; omega)
                go_quiet (fail)
                go_wp2
                go_ret
                exact ⟨by rw [e.out, e3.out]; rfl, below_drewN (below_size B1 B1.size B2) _⟩
              · go_cut [54] from 31 to 54 (fun v54 wx => v54 = .bool (decide (o ≤ l)) ∧ ∃ q, wx = wa.drewN q)
                case first =>
                  by_cases hk0 : k = 0
                  · have hd : Hid (decide (o ≤ l) = false) := decide_eq_false (by have := hlz hk0; omega)
                    subst hk0
                    clear hlz hlp
                    go_quiet (fail)
                    go_wp2
                    go_meet
                    exact ⟨by rw [hd.out], _, rfl⟩
                  · obtain ⟨b', off', x', e', hbl', hx', hcx', hox'⟩ := hi2.at_ (k - 1) (by omega)
                    cases e'
                    have hp := hlp x' (by omega) hx'.out
                    obtain ⟨o', g', c'', vs', bs'⟩ := x'
                    obtain ⟨_, _, _, _, _, _, d0, _⟩ := hcx'
                    simp only at d0 hp
                    subst hp
                    obtain ⟨k', rfl⟩ : ∃ k', k = k' + 1 := ⟨k - 1, by omega⟩
                    rw [Nat.add_sub_cancel] at d0
                    have hkz : (0 : Int) < ((k' + 1 : Nat) : Int) := by omega
                    have hwk : IntKind.i64.wrap (((k' + 1 : Nat) : Int) - 1) = (k' : Int) := by rw [IntKind.wrap_i64]; omega
                    have hk2 : (k' : Int) < (n : Int) := by omega
                    clear hlz hlp hk0
                    by_cases hle : o ≤ o'
                    · have hd : Hid (decide (o ≤ o') = true) := decide_eq_true hle
                      go_quiet (fail)
                      go_wp2
                      go_meet
                      exact ⟨by rw [hd.out], _, rfl⟩
                    · have hd : Hid (decide (o ≤ o') = false) := decide_eq_false hle
                      go_quiet (fail)
                      go_wp2
                      go_meet
                      exact ⟨by rw [hd.out], _, rfl⟩
                case rest =>
                  obtain ⟨rfl, q, hwd⟩ := hcut
                  have Bd : Below wa.heap.size wa wc := by rw [hwd]; exact below_drewN (Below.refl _ _) q
                  clear hwd
                  have hrb := lt_of_cell y0
                  have io2 := io1.below Bd
                  have z1 := (Bd.cell (p := ⟨rb, 1, none⟩) hrb).trans y1
                  have z2 := (Bd.cell (p := ⟨rb, 2, none⟩) hrb).trans y2
                  have z3 := (Bd.cell (p := ⟨rb, 3, none⟩) hrb).trans y3
                  have z4 := (Bd.cell (p := ⟨rb, 4, none⟩) hrb).trans y4
                  have B4 := below_size B2 B2.size Bd
                  have hbm : bn ≤ maxLen := Nat.le_trans io2.b.room io2.b.most
                  have hbs := io2.b.size
                  clear y0 y1 y2 y3 y4 Bd io1 hi2 hcr2 B2
                  by_cases hle : o ≤ l
                  · have hd : decide (o ≤ l) = true := decide_eq_true hle
                    have e3 : Hid (okL 0 xs = false) := by unfold Hid; rw [hok.out]; exact okL_no hx.out (by simp only; omega)
                    rw [hd]
                    go_wp2
                    go_ret
                    exact ⟨by rw [e.out, e3.out]; rfl, below_size B1 B1.size B4⟩
                  · have hd : decide (o ≤ l) = false := decide_eq_false hle
                    rw [hd]
                    clear hd
                    cases g with
                    | true =>
                      have eg : Hid (okCh true c' vs bs = alike c' 0 vs [] bs []) := rfl
                      go_wp2_with fail
                      refine (rsame_any io2 (isO_none _)).mono ?_
                      rintro e' w2 ⟨rfl, B3⟩
                      have B5 := below_size B4 B4.size B3
                      have z1' := (B3.cell (p := ⟨rb, 1, none⟩) (lt_of_cell z1)).trans z1
                      clear z1 z2 z3 z4 B3 B4 io2
                      cases hg : alike c' 0 vs [] bs [] with
                      | false =>
                        have e3 : Hid (okL 0 xs = false) := by unfold Hid; rw [hok.out]; exact okL_no hx.out (by simp only; rw [eg.out, hg]; simp)
                        go_wp2
                        go_ret
                        exact ⟨by rw [e.out, e3.out]; rfl, below_size B1 B1.size B5⟩
                      | true =>
                        have e3 : Hid (okL 0 xs = okL o (xs.drop (k + 1))) := by unfold Hid; rw [hok.out]; exact okL_yes hx.out (by simp only; omega) (by simp only; omega) (by simp only; rw [eg.out, hg])
                        have hlq : ∀ x, 0 < k + 1 → xs[k + 1 - 1]? = some x → x.oop = o := fun x _ h => by rw [Nat.add_sub_cancel, hx.out] at h; cases h; rfl
                        go_wp2
                        go_roundw
                        case rel => exact ⟨k + 1, o, by omega, by go_num, by omega, fun h => absurd h (by omega), hlq, e3, B5⟩
                        case measure => simp [intOf]; omega
                    | false =>
                      have eg : Hid (okCh false c' vs bs = okO c' vs bn) := by unfold Hid okCh; rw [hbs]; rfl
                      go_wp2_with fail
                      refine (rrightObj_any c' io2.v hbm).mono ?_
                      rintro e' w2 ⟨rfl, B3⟩
                      have B5 := below_size B4 B4.size B3
                      clear z1 z2 z3 z4 B3 B4 io2
                      cases hg : okO c' vs bn with
                      | false =>
                        have e3 : Hid (okL 0 xs = false) := by unfold Hid; rw [hok.out]; exact okL_no hx.out (by simp only; rw [eg.out, hg]; simp)
                        go_wp2
                        go_ret
                        exact ⟨by rw [e.out, e3.out]; rfl, below_size B1 B1.size B5⟩
                      | true =>
                        have e3 : Hid (okL 0 xs = okL o (xs.drop (k + 1))) := by unfold Hid; rw [hok.out]; exact okL_yes hx.out (by simp only; omega) (by simp only; omega) (by simp only; rw [eg.out, hg])
                        have hlq : ∀ x, 0 < k + 1 → xs[k + 1 - 1]? = some x → x.oop = o := fun x _ h => by rw [Nat.add_sub_cancel, hx.out] at h; cases h; rfl
                        go_wp2
                        go_roundw
                        case rel => exact ⟨k + 1, o, by omega, by go_num, by omega, fun h => absurd h (by omega), hlq, e3, B5⟩
                        case measure => simp [intOf]; omega
          · have hlt' : ¬ (k : Int) < (n : Int) := by omega
            have ed : Hid (okL 0 xs = true) := by unfold Hid; rw [hok.out, List.drop_of_length_le (by omega)]; rfl
            go_wp2
            go_ret
            exact ⟨by rw [e.out, ed.out]; rfl, below_size B1 B1.size hB⟩
end Go.Proofs.Ytajdelinfkodbaa
