/- ahead: what stands in a transaction's way. -/
import Derived.Test.YtigmpmichhghdaaAbv
import Derived.Test.YtigmpmichhghdaaCat
namespace Go.Proofs.Ytigmpmichhghdaa
open Go.RowKit
set_option maxRecDepth 100000
/-- Does an object stand in the way? -/
def hit (f : Int → List Int) (base : Int) (cnt : Int → Bool) (o : Int) : Bool := match abv (f o) base with
  | none => false
  | some x => cnt x
/-- The least one of some. -/
def leastO : List Int → Option Int
  | [] => none
  | x :: r => some (minL x r)
/-- What stands in the way of reads and writes. -/
def aheadR (f : Int → List Int) (base : Int) (rs ws : List Int) (cnt : Int → Bool) : Option Int := leastO ((rs ++ ws).filter (hit f base cnt))
theorem filter_yes {p : Int → Bool} {l : List Int} {k : Nat} {x : Int} (h : l[k]? = some x) (hp : p x = true) : (l.take (k + 1)).filter p = (l.take k).filter p ++ [x] := by
  rw [take_at h, List.filter_append]
  simp [hp]
theorem filter_no {p : Int → Bool} {l : List Int} {k : Nat} {x : Int} (h : l[k]? = some x) (hp : p x = false) : (l.take (k + 1)).filter p = (l.take k).filter p := by
  rw [take_at h, List.filter_append]
  simp [hp]
set_option maxHeartbeats 4000000 in
theorem ahead_any {w : World} {S : Nat → Prop} {bp g : Nat} {lb : Array Value} {f : Int → List Int} {m : Tm} {cnt : Int → Bool} (P : Pl w S bp f) (hr : ∀ o, RiseI (f o)) (hfl : ∀ o, (f o).length ≤ 900000000) (hm : m.In w) (hrn : m.rn ≤ 1048576) (hwn : m.wn ≤ 1048576)
    (eg : ∀ args w, (callFunc g args).run Try.prog w = .ok (.enter g args) w) (hcnt : ∀ W x, Below w.heap.size w W → Calls Try.prog g (#[.int .i64 x] ++ lb) W fun e w' => e = .returned (.bool (cnt x)) ∧ Below W.heap.size W w') :
    Calls Try.prog 26 #[.pointer (some ⟨bp, 0, none⟩), .agg #[.int .i64 m.base, .int .i64 m.com, .slice m.ra m.rn m.rc, .slice m.wa m.wn m.wc], .func (.func g) #[] lb] w fun e w' => e = .returned (wayV (aheadR f m.base m.rs m.ws cnt)) ∧ Below w.heap.size w w' := by
  obtain ⟨base, com, ra, rn, rc, wa, wn, wc, rs, ws⟩ := m
  have hI1 := hm.r.1
  have hI2 := hm.w.1
  dsimp only at hrn hwn hI1 hI2 ⊢
  have B1 : Below w.heap.size w (w.alloc (.cells #[.int .i64 base, .int .i64 com, .slice ra rn rc, .slice wa wn wc] 31)) := box_below
  have B2 := below_size B1 B1.size (box_below (o := .cells #[.slice ra rn rc, .slice wa wn wc] 23))
  have E1 : ((w.alloc (.cells #[.int .i64 base, .int .i64 com, .slice ra rn rc, .slice wa wn wc] 31)).alloc (.cells #[.slice ra rn rc, .slice wa wn wc] 23)).cell? ⟨w.heap.size, 0, none⟩ = some (.int .i64 base) := by simp
  have hcat := concat2 (b := w.heap.size + 1) (hI1.below B2) (hI2.below B2) (by simp) (by simp) hrn hwn
  have hsz : rs.length + ws.length ≤ 2097152 := by have := hI1.size; have := hI2.size; omega
  go_enter Try.func26, Try.ntmps26
  go_wp2_with fail
  refine hcat.mono ?_
  rintro e w3 ⟨la, ln, lc, rfl, OL, B3⟩
  have bsz : w.heap.size < ((w.alloc (.cells #[.int .i64 base, .int .i64 com, .slice ra rn rc, .slice wa wn wc] 31)).alloc (.cells #[.slice ra rn rc, .slice wa wn wc] 23)).heap.size := by simp; omega
  have E3 := (B3.cell (p := ⟨w.heap.size, 0, none⟩) bsz).trans E1
  have B4 := below_size B2 (Nat.le_of_lt bsz) B3
  have IL := OL.isI
  have lsz := IL.size
  rw [List.length_append] at lsz
  have hln : ln ≤ 2097152 := by omega
  have b0lt : w.heap.size < w3.heap.size := Nat.lt_of_lt_of_le bsz B3.size
  clear hcat OL B1 B2 E1 B3 bsz
  obtain ⟨L, hL⟩ : ∃ L, Hid (rs ++ ws = L) := ⟨_, rfl⟩
  rw [hL.out] at IL
  have hLl : Hid (L.length = ln) := IL.size
  go_wp2
  go_loopw [7, 19] (fun mv iv wr => ∃ k : Nat, k ≤ ln ∧ iv = .int .i64 (k : Int) ∧ OwnI wr w3.heap.size mv ((L.take k).filter (hit f base cnt)) ∧ Below w3.heap.size w3 wr) (fun _ iv _ => ln - (intOf iv).toNat)
  case atStart => exact ⟨0, by omega, rfl, ownI_nil _ _, Below.refl _ _⟩
  case round =>
    obtain ⟨k, hk, rfl, O, B⟩ := hrel
    obtain ⟨ma, mn, mc, rfl, hmn⟩ := O.shape
    replace hmn : Hid (mn = ((L.take k).filter (hit f base cnt)).length) := hmn
    have hfl2 : ((L.take k).filter (hit f base cnt)).length ≤ 2097152 := by
      have h1 := List.length_filter_le (hit f base cnt) (L.take k)
      rw [List.length_take] at h1
      omega
    have E4 := (B.cell (p := ⟨w.heap.size, 0, none⟩) b0lt).trans E3
    have B5 : Below w.heap.size w wr := B4.trans (B.mono B4.size)
    by_cases hlt : k < ln
    · obtain ⟨b, off, x, rfl, _, cx, hx, hx64⟩ := (IL.below B).at_ k hlt
      have hkI : (k : Int) < (ln : Int) := by omega
      have hab := above_any x base (P.below B5) (hr x) (by have := hfl x; omega)
      have sB := B.size
      go_wp2_with fail
      refine hab.mono ?_
      rintro e w5 ⟨rfl, B6⟩
      have B7 := below_size B sB B6
      have B8 := below_size B5 B5.size B6
      have O1 := O.below B6
      clear hab
      cases hv : abv (f x) base with
      | none =>
        have hno : Hid ((L.take (k + 1)).filter (hit f base cnt) = (L.take k).filter (hit f base cnt)) := filter_no hx.out (by unfold hit; rw [hv])
        clear hv hx
        dsimp only [Option.getD, Option.isSome]
        go_wp2
        go_roundw
        case rel => exact ⟨k + 1, by omega, by go_num, by rw [hno.out]; exact O1, B7⟩
        case measure => simp [intOf]; omega
      | some y =>
        dsimp only [Option.getD, Option.isSome]
        have hc := hcnt w5 y B8
        go_wp2_with fail
        refine hc.mono ?_
        rintro e w6 ⟨rfl, B9⟩
        have B10 := below_size B7 B7.size B9
        have O2 := O1.below B9
        clear hc
        cases hcy : cnt y with
        | false =>
          have hno : Hid ((L.take (k + 1)).filter (hit f base cnt) = (L.take k).filter (hit f base cnt)) := filter_no hx.out (by unfold hit; rw [hv]; exact hcy)
          clear hv hx hcy
          go_wp2
          go_roundw
          case rel => exact ⟨k + 1, by omega, by go_num, by rw [hno.out]; exact O2, B10⟩
          case measure => simp [intOf]; omega
        | true =>
          have hyes : Hid ((L.take (k + 1)).filter (hit f base cnt) = (L.take k).filter (hit f base cnt) ++ [x]) := filter_yes hx.out (by unfold hit; rw [hv]; exact hcy)
          have O3 := O2.below (box_below (o := .cells #[.int .i64 x] 2))
          have B11 := below_size B10 B10.size (box_below (o := .cells #[.int .i64 x] 2))
          have IX : IsI (w6.alloc (.cells #[.int .i64 x] 2)) (some ⟨w6.heap.size, 0, none⟩) 1 1 [x] := by
            refine ⟨rfl, Nat.le_refl _, by decide, by simp, ?_, fun _ => ⟨_, _, rfl, fun i hi => ?_⟩⟩
            · intro z hz
              rw [List.mem_singleton] at hz
              subst hz
              exact hx64
            · obtain rfl : i = 0 := by omega
              simp
          clear hv hx hcy
          go_wp2_with (at_builtin; refine app_ints _ rfl _ _ rfl w3.heap.size _ _ rfl O3 _ _ _ _ rfl IX (by omega) B11.size ?_)
          intro a' n' c' w7 O4 B12 _
          have B13 := B11.trans B12
          clear O O1 O2 O3 B7 B8 B10 B11 B12 IX
          go_wp2
          go_roundw
          case rel => exact ⟨k + 1, by omega, by go_num, by rw [hyes.out]; exact O4, B13⟩
          case measure => simp [intOf]; omega
    · have hge : ¬ (k : Int) < (ln : Int) := by omega
      have hall : Hid (L.take k = L) := List.take_of_length_le (by rw [hLl.out]; omega)
      rw [hall.out] at O hmn hfl2
      obtain ⟨H, hH⟩ : ∃ H, Hid (L.filter (hit f base cnt) = H) := ⟨_, rfl⟩
      rw [hH.out] at O hmn hfl2
      cases H with
      | nil =>
        obtain rfl : mn = 0 := hmn.out
        clear hmn
        go_wp2
        go_ret
        refine ⟨?_, B5⟩
        unfold aheadR
        rw [hL.out, hH.out]
        rfl
      | cons x r =>
        have hmin := min_any O.isI (by rw [hmn.out]; omega)
        have hm0 : ¬ (mn : Int) = 0 := by have := hmn.out; rw [List.length_cons] at this; omega
        go_wp2_with fail
        refine hmin.mono ?_
        rintro e w5 ⟨rfl, rfl⟩
        clear hmin
        go_wp2
        go_ret
        refine ⟨?_, B5⟩
        unfold aheadR
        rw [hL.out, hH.out]
        rfl
end Go.Proofs.Ytigmpmichhghdaa
