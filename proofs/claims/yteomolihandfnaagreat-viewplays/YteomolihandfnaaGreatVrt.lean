/- What can be in a view: Right, RightObj, fits. -/
import Derived.Test.YteomolihandfnaaGreatSty
namespace Go.Proofs.YteomolihandfnaaGreat
open Go.RowKit
set_option maxRecDepth 100000
def okR2 (n : Int) : Bool := decide (1 ≤ n ∧ n ≤ 8192)
def okW (k n : Int) : Bool := if k = 4 then okR2 n else okV k n
def okWs (vs : List (Int × Int)) : Bool := vs.all fun v => okW v.1 v.2
def okWO (c : Int) (vs : List (Int × Int)) (n : Nat) : Bool := okR2 c && decide (vs.length ≤ 256) && decide (n ≤ 1024) && okWs vs
def badW (v : Int × Int) : Bool := !okW v.1 v.2
def isBlk (v : Int × Int) : Bool := v.1 == 5
def fitsE (c : Int) (vs : List (Int × Int)) (n : Nat) : Int := if vs.any isBlk = true then 32 else if okWO c vs n = true then 0 else 1
theorem okWs_any (vs : List (Int × Int)) : (!vs.any badW) = okWs vs := by
  unfold okWs
  induction vs with
  | nil => rfl
  | cons v r ih => rw [List.any_cons, List.all_cons, ← ih]; simp [badW, Bool.not_or]
theorem vrightOop_any (n : Int) (w : World) : Calls Tryz.prog 78 #[.int .i64 n] w fun e w' => e = .returned (.bool (okR2 n)) ∧ w = w' := by
  go_enter Tryz.func78, Tryz.ntmps78
  by_cases h1 : 1 ≤ n
  · by_cases h2 : n ≤ 8192
    · go_wp2
      go_ret
      exact ⟨by simp [okR2, h1, h2], rfl⟩
    · go_wp2
      go_ret
      exact ⟨by simp [okR2, h1]; omega, rfl⟩
  · go_wp2
    go_ret
    exact ⟨by simp [okR2]; omega, rfl⟩
set_option maxHeartbeats 1000000 in
theorem vright_any (k n : Int) (w : World) : Calls Tryz.prog 80 #[.agg #[.int .i64 k, .int .i64 n]] w fun e w' => e = .returned (.bool (okW k n)) ∧ Below w.heap.size w w' := by
  have B1 : Below w.heap.size w (w.alloc (.cells #[.int .i64 k, .int .i64 n] 80)) := box_below
  by_cases h0 : k = 4
  · subst h0
    go_enter Tryz.func80, Tryz.ntmps80
    go_wp2_with fail
    refine (vrightOop_any n _).mono ?_
    rintro e w' ⟨rfl, rfl⟩
    go_wp2
    go_ret
    exact ⟨by simp [okW], B1⟩
  · have hk : (k == 4) = false := by simpa using h0
    go_enter Tryz.func80, Tryz.ntmps80
    go_wp2_with fail
    refine (right_any k n _).mono ?_
    rintro e w' ⟨rfl, B2⟩
    go_wp2
    go_ret
    exact ⟨by simp [okW, h0], below_size B1 B1.size B2⟩
set_option maxHeartbeats 1000000 in
theorem vrright_any (k n : Int) (w : World) : Calls Tryz.prog 81 #[.agg #[.int .i64 k, .int .i64 n]] w fun e w' => e = .returned (.bool (okW k n)) ∧ Below w.heap.size w w' := by
  have B1 : Below w.heap.size w (w.alloc (.cells #[.int .i64 k, .int .i64 n] 80)) := box_below
  by_cases h0 : k = 4
  · subst h0
    by_cases h1 : 1 ≤ n
    · by_cases h2 : n ≤ 8192
      · go_enter Tryz.func81, Tryz.ntmps81
        go_wp2
        go_ret
        exact ⟨by simp [okW, okR2, h1, h2], B1⟩
      · go_enter Tryz.func81, Tryz.ntmps81
        go_wp2
        go_ret
        exact ⟨by simp [okW, okR2, h1]; omega, B1⟩
    · go_enter Tryz.func81, Tryz.ntmps81
      go_wp2
      go_ret
      exact ⟨by simp [okW, okR2]; omega, B1⟩
  · have hk : (k == 4) = false := by simpa using h0
    go_enter Tryz.func81, Tryz.ntmps81
    go_wp2_with fail
    refine (rright_any k n _).mono ?_
    rintro e w' ⟨rfl, B2⟩
    go_wp2
    go_ret
    exact ⟨by simp [okW, h0], below_size B1 B1.size B2⟩
theorem okWs_snoc {vs : List (Int × Int)} {k : Nat} {x y : Int} (h : vs[k]? = some (x, y)) : okWs (vs.take (k + 1)) = (okWs (vs.take k) && okW x y) := by
  rw [take_at h]
  simp [okWs]
theorem okWs_bad {vs : List (Int × Int)} {k : Nat} {x y : Int} (h : vs[k]? = some (x, y)) (hb : okW x y = false) : okWs vs = false := by
  unfold okWs
  rw [List.all_eq_false]
  exact ⟨_, List.mem_of_getElem? h, by rw [Bool.not_eq_true]; exact hb⟩
set_option maxHeartbeats 2000000 in
theorem vrrightObj_any {w : World} (c : Int) {sa ba : Option Addr} {sn sc bn bc : Nat} {vs : List (Int × Int)} (hv : IsV w sa sn sc vs) (hb : bn ≤ maxLen) :
    Calls Tryz.prog 66 #[.agg #[.int .i64 c, .slice sa sn sc, .slice ba bn bc]] w fun e w' => e = .returned (.bool (okWO c vs bn)) ∧ Below w.heap.size w w' := by
  have hsz := hv.size
  have hsm := hv.room
  have hsx := hv.most
  unfold maxLen at hb hsx
  by_cases h1 : 1 ≤ c ∧ c ≤ 8192
  · obtain ⟨h1a, h1b⟩ := h1
    have h1c : okR2 c = true := by simp [okR2]; omega
    by_cases h2 : sn ≤ 256
    · by_cases h3 : bn ≤ 1024
      · have e : okWO c vs bn = okWs vs := by unfold okWO; rw [h1c, decide_eq_true (by omega), decide_eq_true h3]; rfl
        rw [e]
        clear e h1c
        go_enter Tryz.func66, Tryz.ntmps66
        go_wp2
        have hv1 := hv.below (box_below (o := .cells #[.int .i64 c, .slice sa sn sc, .slice ba bn bc] 35))
        have hB1 : Below w.heap.size w (w.alloc (.cells #[.int .i64 c, .slice sa sn sc, .slice ba bn bc] 35)) := box_below
        have hl1 : w.heap.size < (w.alloc (.cells #[.int .i64 c, .slice sa sn sc, .slice ba bn bc] 35)).heap.size := by simp
        have hc1 : (w.alloc (.cells #[.int .i64 c, .slice sa sn sc, .slice ba bn bc] 35)).cell? ⟨w.heap.size, 1, none⟩ = some (.slice sa sn sc) := by simp
        generalize w.alloc (.cells #[.int .i64 c, .slice sa sn sc, .slice ba bn bc] 35) = w1 at *
        go_loopw [3] (fun iv wr => ∃ k : Nat, k ≤ sn ∧ iv = .int .i64 (k : Int) ∧ okWs (vs.take k) = true ∧ Below w1.heap.size w1 wr) (fun iv _ => sn - (intOf iv).toNat)
        case atStart => exact ⟨0, by omega, rfl, rfl, Below.refl _ _⟩
        case round =>
          obtain ⟨k, hk, rfl, hok, hB⟩ := hrel
          have hcr := (hB.cell (p := ⟨w.heap.size, 1, none⟩) hl1).trans hc1
          by_cases hlt : k < sn
          · obtain ⟨b, off, x, y, rfl, hbl, c0, c1, hx, _, _⟩ := (hv1.below hB).at_ k hlt
            go_wp2_with fail
            refine (vrright_any _ _ _).mono ?_
            rintro e w2 ⟨rfl, B2⟩
            have B3 : Below w1.heap.size w1 w2 := below_size hB hB.size B2
            clear hB B2 c0 c1 hcr
            by_cases hy : okW x y = true
            · rw [hy]
              have hs := okWs_snoc hx.out
              rw [hok, hy] at hs
              replace hs : Hid (okWs (vs.take (k + 1)) = true) := hs
              clear hok
              go_wp2
              go_roundw
              case rel => exact ⟨k + 1, by omega, by go_num, hs.out, B3⟩
              case measure => simp [intOf]; omega
            · rw [Bool.not_eq_true] at hy
              rw [hy]
              go_wp2
              go_ret
              exact ⟨by rw [okWs_bad hx.out hy]; rfl, below_size hB1 hB1.size B3⟩
          · go_wp2
            go_ret
            rw [List.take_of_length_le (by omega)] at hok
            exact ⟨by rw [hok]; rfl, below_size hB1 hB1.size hB⟩
      · have e : okWO c vs bn = false := by unfold okWO; rw [decide_eq_false h3]; simp
        rw [e]
        clear e
        go_enter Tryz.func66, Tryz.ntmps66
        go_wp2
        go_ret
        exact ⟨rfl, box_below⟩
    · have e : okWO c vs bn = false := by unfold okWO; rw [decide_eq_false (show ¬ vs.length ≤ 256 by omega)]; simp
      rw [e]
      clear e
      go_enter Tryz.func66, Tryz.ntmps66
      go_wp2
      go_ret
      exact ⟨rfl, box_below⟩
  · have e : okWO c vs bn = false := by unfold okWO okR2; rw [decide_eq_false h1]; simp
    rw [e]
    clear e
    by_cases h1a : c < 1
    · clear h1
      go_enter Tryz.func66, Tryz.ntmps66
      go_wp2
      go_ret
      exact ⟨rfl, box_below⟩
    · have h1b : 8192 < c := by omega
      clear h1
      go_enter Tryz.func66, Tryz.ntmps66
      go_wp2
      go_ret
      exact ⟨rfl, box_below⟩
theorem clos37_any (k n : Int) (w : World) : Calls Tryz.prog 79 #[.agg #[.int .i64 k, .int .i64 n]] w fun e w' => e = .returned (.bool (badW (k, n))) ∧ Below w.heap.size w w' := by
  have B1 : Below w.heap.size w (w.alloc (.cells #[.int .i64 k, .int .i64 n] 80)) := box_below
  go_enter Tryz.func79, Tryz.ntmps79
  go_wp2_with fail
  refine (vright_any k n _).mono ?_
  rintro e w' ⟨rfl, B2⟩
  go_wp2
  go_ret
  exact ⟨rfl, below_size B1 B1.size B2⟩
theorem clos65_any (k n : Int) (w : World) : Calls Tryz.prog 64 #[.agg #[.int .i64 k, .int .i64 n]] w fun e w' => e = .returned (.bool (isBlk (k, n))) ∧ Below w.heap.size w w' := by
  have B1 : Below w.heap.size w (w.alloc (.cells #[.int .i64 k, .int .i64 n] 80)) := box_below
  go_enter Tryz.func64, Tryz.ntmps64
  go_wp2
  go_ret
  exact ⟨rfl, B1⟩
/-- Where the first such one stands, from a place on; -1: nowhere. -/
def pIdx (p : Int × Int → Bool) : List (Int × Int) → Nat → Int
  | [], _ => -1
  | v :: t, i => if p v = true then (i : Int) else pIdx p t (i + 1)
theorem pIdx_hit {p : Int × Int → Bool} {vs : List (Int × Int)} {k : Nat} {v : Int × Int} (h : vs[k]? = some v) (hg : p v = true) : pIdx p (vs.drop k) k = (k : Int) := by
  obtain ⟨hk, e⟩ := List.getElem?_eq_some_iff.1 h
  rw [List.drop_eq_getElem_cons hk, e, pIdx, if_pos hg]
theorem pIdx_miss {p : Int × Int → Bool} {vs : List (Int × Int)} {k : Nat} {v : Int × Int} (h : vs[k]? = some v) (hg : ¬ p v = true) : pIdx p (vs.drop k) k = pIdx p (vs.drop (k + 1)) (k + 1) := by
  obtain ⟨hk, e⟩ := List.getElem?_eq_some_iff.1 h
  rw [List.drop_eq_getElem_cons hk, e, pIdx, if_neg hg]
theorem pIdx_any (p : Int × Int → Bool) : ∀ (vs : List (Int × Int)) (i : Nat), decide (0 ≤ pIdx p vs i) = vs.any p
  | [], i => by simp [pIdx]
  | v :: r, i => by
    unfold pIdx
    by_cases h : p v = true
    · rw [if_pos h]; simp [h]
    · rw [if_neg h, pIdx_any p r (i + 1)]; simp [h]
set_option maxHeartbeats 2000000 in
theorem index37_any {w : World} {a : Option Addr} {n c : Nat} {vs : List (Int × Int)} (hv : IsV w a n c vs) :
    Calls Tryz.prog 77 #[.slice a n c, .func (.func 79) #[] #[]] w fun e w' => e = .returned (.int .i64 (pIdx badW vs 0)) ∧ Below w.heap.size w w' := by
  have s1 := hv.size
  have m1 := hv.most
  have r1 := hv.room
  unfold maxLen at m1
  obtain ⟨R, hR⟩ : ∃ R, Hid (pIdx badW vs 0 = R) := ⟨_, rfl⟩
  rw [hR.out]
  go_enter Tryz.func77, Tryz.ntmps77
  go_wp2
  go_loopw [8] (fun iv wr => ∃ (k : Nat), k ≤ n ∧ iv = .int .i64 (k : Int) ∧ Below w.heap.size w wr ∧ pIdx badW (vs.drop k) k = R) (fun iv _ => n - (intOf iv).toNat)
  case atStart => exact ⟨0, by omega, rfl, Below.refl _ _, by simpa using hR.out⟩
  case round =>
    obtain ⟨k, hk, rfl, hB, hok⟩ := hrel
    replace hok : Hid (pIdx badW (vs.drop k) k = R) := hok
    by_cases hlt : k < n
    · obtain ⟨b1, off, x1, y1, rfl, hb1, c1, d1, e1, _, _⟩ := (hv.below hB).at_ k hlt
      have hki : (k : Int) < (n : Int) := by omega
      go_wp2_with fail
      refine (clos37_any x1 y1 wr).mono ?_
      rintro e w' ⟨rfl, B2⟩
      have B3 := below_size hB hB.size B2
      clear c1 d1 hB B2
      by_cases hg : badW (x1, y1) = true
      · have hRk : Hid (R = (k : Int)) := by rw [pIdx_hit e1.out hg] at hok; exact hok.out.symm
        rw [hg]
        go_wp2
        go_ret
        exact ⟨by rw [hRk.out]; rfl, B3⟩
      · have hne : Hid (pIdx badW (vs.drop (k + 1)) (k + 1) = R) := by rw [← pIdx_miss e1.out hg]; exact hok
        rw [Bool.not_eq_true] at hg
        rw [hg]
        go_wp2
        go_roundw
        case rel => exact ⟨k + 1, by omega, by go_num, B3, hne.out⟩
        case measure => simp [intOf]; omega
    · have hok' : Hid (-1 = R) := by
        have e := hok.out
        rw [List.drop_of_length_le (by omega)] at e
        exact e
      go_wp2
      go_ret
      exact ⟨by rw [← hok'.out]; rfl, hB⟩
set_option maxHeartbeats 2000000 in
theorem contains37_any {w : World} {a : Option Addr} {n c : Nat} {vs : List (Int × Int)} (hv : IsV w a n c vs) :
    Calls Tryz.prog 63 #[.slice a n c, .func (.func 79) #[] #[]] w fun e w' => e = .returned (.bool (vs.any badW)) ∧ Below w.heap.size w w' := by
  have hp := pIdx_any badW vs 0
  go_enter Tryz.func63, Tryz.ntmps63
  go_wp2_with fail
  refine (index37_any hv).mono ?_
  rintro e w' ⟨rfl, B⟩
  go_wp2
  go_ret
  refine ⟨?_, B⟩
  rw [← hp]
  rfl
set_option maxHeartbeats 2000000 in
theorem index65_any {w : World} {a : Option Addr} {n c : Nat} {vs : List (Int × Int)} (hv : IsV w a n c vs) :
    Calls Tryz.prog 77 #[.slice a n c, .func (.func 64) #[] #[]] w fun e w' => e = .returned (.int .i64 (pIdx isBlk vs 0)) ∧ Below w.heap.size w w' := by
  have s1 := hv.size
  have m1 := hv.most
  have r1 := hv.room
  unfold maxLen at m1
  obtain ⟨R, hR⟩ : ∃ R, Hid (pIdx isBlk vs 0 = R) := ⟨_, rfl⟩
  rw [hR.out]
  go_enter Tryz.func77, Tryz.ntmps77
  go_wp2
  go_loopw [8] (fun iv wr => ∃ (k : Nat), k ≤ n ∧ iv = .int .i64 (k : Int) ∧ Below w.heap.size w wr ∧ pIdx isBlk (vs.drop k) k = R) (fun iv _ => n - (intOf iv).toNat)
  case atStart => exact ⟨0, by omega, rfl, Below.refl _ _, by simpa using hR.out⟩
  case round =>
    obtain ⟨k, hk, rfl, hB, hok⟩ := hrel
    replace hok : Hid (pIdx isBlk (vs.drop k) k = R) := hok
    by_cases hlt : k < n
    · obtain ⟨b1, off, x1, y1, rfl, hb1, c1, d1, e1, _, _⟩ := (hv.below hB).at_ k hlt
      have hki : (k : Int) < (n : Int) := by omega
      go_wp2_with fail
      refine (clos65_any x1 y1 wr).mono ?_
      rintro e w' ⟨rfl, B2⟩
      have B3 := below_size hB hB.size B2
      clear c1 d1 hB B2
      by_cases hg : isBlk (x1, y1) = true
      · have hRk : Hid (R = (k : Int)) := by rw [pIdx_hit e1.out hg] at hok; exact hok.out.symm
        rw [hg]
        go_wp2
        go_ret
        exact ⟨by rw [hRk.out]; rfl, B3⟩
      · have hne : Hid (pIdx isBlk (vs.drop (k + 1)) (k + 1) = R) := by rw [← pIdx_miss e1.out hg]; exact hok
        rw [Bool.not_eq_true] at hg
        rw [hg]
        go_wp2
        go_roundw
        case rel => exact ⟨k + 1, by omega, by go_num, B3, hne.out⟩
        case measure => simp [intOf]; omega
    · have hok' : Hid (-1 = R) := by
        have e := hok.out
        rw [List.drop_of_length_le (by omega)] at e
        exact e
      go_wp2
      go_ret
      exact ⟨by rw [← hok'.out]; rfl, hB⟩
set_option maxHeartbeats 2000000 in
theorem contains65_any {w : World} {a : Option Addr} {n c : Nat} {vs : List (Int × Int)} (hv : IsV w a n c vs) :
    Calls Tryz.prog 63 #[.slice a n c, .func (.func 64) #[] #[]] w fun e w' => e = .returned (.bool (vs.any isBlk)) ∧ Below w.heap.size w w' := by
  have hp := pIdx_any isBlk vs 0
  go_enter Tryz.func63, Tryz.ntmps63
  go_wp2_with fail
  refine (index65_any hv).mono ?_
  rintro e w' ⟨rfl, B⟩
  go_wp2
  go_ret
  refine ⟨?_, B⟩
  rw [← hp]
  rfl
set_option maxHeartbeats 4000000 in
theorem vrightObj_any {w : World} (c : Int) {sa ba : Option Addr} {sn sc bn bc : Nat} {vs : List (Int × Int)} (hv : IsV w sa sn sc vs) (hb : bn ≤ maxLen) :
    Calls Tryz.prog 65 #[.agg #[.int .i64 c, .slice sa sn sc, .slice ba bn bc]] w fun e w' => e = .returned (.bool (okWO c vs bn)) ∧ Below w.heap.size w w' := by
  have hsz := hv.size
  have hsm := hv.room
  have hsx := hv.most
  unfold maxLen at hb hsx
  have B1 : Below w.heap.size w (w.alloc (.cells #[.int .i64 c, .slice sa sn sc, .slice ba bn bc] 35)) := box_below
  have hv1 := hv.below B1
  have hE := okWs_any vs
  replace hE : Hid _ := hE
  cases h1 : okR2 c with
  | false =>
    have e : okWO c vs bn = false := by unfold okWO; rw [h1]; rfl
    rw [e]
    clear e
    go_enter Tryz.func65, Tryz.ntmps65
    go_wp2_with fail
    refine (vrightOop_any c _).mono ?_
    rintro e w' ⟨rfl, rfl⟩
    rw [h1]
    go_wp2
    go_ret
    exact ⟨rfl, B1⟩
  | true =>
    by_cases h2 : sn ≤ 256
    · by_cases h3 : bn ≤ 1024
      · have e : okWO c vs bn = okWs vs := by unfold okWO; rw [h1, decide_eq_true (by omega), decide_eq_true h3]; rfl
        rw [e]
        clear e
        go_enter Tryz.func65, Tryz.ntmps65
        go_wp2_with fail
        refine (vrightOop_any c _).mono ?_
        rintro e w' ⟨rfl, rfl⟩
        rw [h1]
        go_wp2_with fail
        refine (contains37_any hv1).mono ?_
        rintro e w' ⟨rfl, B2⟩
        go_wp2
        go_ret
        exact ⟨by rw [← hE.out]; rfl, below_size B1 B1.size B2⟩
      · have e : okWO c vs bn = false := by unfold okWO; rw [decide_eq_false h3]; simp
        rw [e]
        clear e
        go_enter Tryz.func65, Tryz.ntmps65
        go_wp2_with fail
        refine (vrightOop_any c _).mono ?_
        rintro e w' ⟨rfl, rfl⟩
        rw [h1]
        go_wp2
        go_ret
        exact ⟨rfl, B1⟩
    · have e : okWO c vs bn = false := by unfold okWO; rw [decide_eq_false (show ¬ vs.length ≤ 256 by omega)]; simp
      rw [e]
      clear e
      go_enter Tryz.func65, Tryz.ntmps65
      go_wp2_with fail
      refine (vrightOop_any c _).mono ?_
      rintro e w' ⟨rfl, rfl⟩
      rw [h1]
      go_wp2
      go_ret
      exact ⟨rfl, B1⟩
set_option maxHeartbeats 4000000 in
theorem fits_any {w : World} (c : Int) {sa ba : Option Addr} {sn sc bn bc : Nat} {vs : List (Int × Int)} (hv : IsV w sa sn sc vs) (hb : bn ≤ maxLen) :
    Calls Tryz.prog 44 #[.agg #[.int .i64 c, .slice sa sn sc, .slice ba bn bc]] w fun e w' => e = .returned (.int .i64 (fitsE c vs bn)) ∧ Below w.heap.size w w' := by
  have E1 := new1 w (.cells #[.int .i64 c, .slice sa sn sc, .slice ba bn bc] 35 (0, 0))
  have B1 : Below w.heap.size w (w.alloc (.cells #[.int .i64 c, .slice sa sn sc, .slice ba bn bc] 35 (0, 0))) := box_below
  have hv1 := hv.below B1
  obtain ⟨x0, x1, x2, _⟩ := obj_cells (c := c) (v1 := .slice sa sn sc) (v2 := .slice ba bn bc) E1
  obtain ⟨w1, hw1⟩ : ∃ q, q = w.alloc (.cells #[.int .i64 c, .slice sa sn sc, .slice ba bn bc] 35 (0, 0)) := ⟨_, rfl⟩
  rw [← hw1] at E1 B1 hv1 x0 x1 x2
  go_enter Tryz.func44, Tryz.ntmps44
  go_wp2_with fail
  rw [← hw1]
  clear hw1
  refine (contains65_any hv1).mono ?_
  rintro e w2 ⟨rfl, B2⟩
  obtain ⟨y0, y1, y2, _⟩ := obj_cells (c := c) (v1 := .slice sa sn sc) (v2 := .slice ba bn bc) ((B2.block w.heap.size (lt_of_block E1)).trans E1)
  clear x0 x1 x2
  have B3 : Below w.heap.size w w2 := below_size B1 B1.size B2
  cases h1 : vs.any isBlk with
  | true =>
    go_wp2
    go_ret
    exact ⟨by simp [fitsE, h1], B3⟩
  | false =>
    go_wp2_with fail
    refine (vrightObj_any c (hv1.below B2) hb).mono ?_
    rintro e w4 ⟨rfl, B4⟩
    cases h2 : okWO c vs bn with
    | true =>
      go_wp2
      go_ret
      exact ⟨by simp [fitsE, h1, h2], below_size B3 B3.size B4⟩
    | false =>
      go_wp2
      go_ret
      exact ⟨by simp [fitsE, h1, h2], below_size B3 B3.size B4⟩
end Go.Proofs.YteomolihandfnaaGreat
