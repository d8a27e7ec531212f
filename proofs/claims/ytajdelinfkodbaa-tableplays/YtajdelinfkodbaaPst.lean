/- Pasts of objects: there, place, at. -/
import Derived.Test.YtajdelinfkodbaaGvn
namespace Go.Proofs.Ytajdelinfkodbaa
open Go.RowKit
set_option maxRecDepth 100000
theorem below_drewN' {N : Nat} {w w' : World} (h : Below N w w') (q : Nat) : Below N w (w'.drewN q) := ⟨h.os, h.tape, h.output, h.size, h.block⟩
set_option maxHeartbeats 1000000 in
theorem closureP_any {w : World} {bp bc n cap i : Nat} {a : Option Addr} {xs : List Ch} {x : Ch} (c : Int) (h : IsC w a n cap xs) (h1 : w.cell? ⟨bp, 1, none⟩ = some (.slice a n cap)) (hc : w.cell? ⟨bc, 0, none⟩ = some (.int .i64 c)) (hx : xs[i]? = some x) :
    Calls Try.prog 72 #[.int .i64 (i : Int), .pointer (some ⟨bp, 0, none⟩), .pointer (some ⟨bc, 0, none⟩)] w fun e w' => e = .returned (.bool (decide (c < x.oop))) ∧ ∃ q, w' = w.drewN q := by
  have hi : i < n := by have := (List.getElem?_eq_some_iff.1 hx).1; rw [h.size] at this; exact this
  have hiI : (i : Int) < (n : Int) := by omega
  obtain ⟨b, off, rfl, hcell⟩ := h.cells (by omega)
  obtain ⟨_, _, _, _, _, _, q0, _⟩ := hcell i x hx
  clear h hx
  go_enter Try.func72, Try.ntmps72
  go_wp2_with fail
  go_quiet (fail)
  go_wp2
  go_ret
  exact ⟨rfl, _, rfl⟩
theorem IsC.drewN {w : World} {a : Option Addr} {len cap : Nat} {xs : List Ch} (h : IsC w a len cap xs) (q : Nat) : IsC (w.drewN q) a len cap xs := h.below ⟨rfl, rfl, rfl, Nat.le_refl _, fun _ _ => rfl⟩
/-- The versions rise. -/
def RiseC (xs : List Ch) : Prop := ∀ (i j : Nat) (x y : Ch), i < j → xs[i]? = some x → xs[j]? = some y → x.oop < y.oop
/-- What a search for the first one behind a commit finds. -/
def Fnd (xs : List Ch) (c : Int) (L : Nat) : Prop := L ≤ xs.length ∧ ∀ (i : Nat) (x : Ch), xs[i]? = some x → (i < L ↔ x.oop ≤ c)
set_option maxHeartbeats 2000000 in
theorem search_any {w : World} {bp bc n cap : Nat} {a : Option Addr} {xs : List Ch} (c : Int) (h : IsC w a n cap xs) (h1 : w.cell? ⟨bp, 1, none⟩ = some (.slice a n cap)) (hc : w.cell? ⟨bc, 0, none⟩ = some (.int .i64 c)) (hr : RiseC xs) (hn : n ≤ 4611686018427387903) :
    Calls Try.prog 71 #[.int .i64 (n : Int), .func (.func 72) #[] #[.pointer (some ⟨bp, 0, none⟩), .pointer (some ⟨bc, 0, none⟩)]] w fun e w' => ∃ (L q : Nat), e = .returned (.int .i64 (L : Int)) ∧ Fnd xs c L ∧ w' = w.drewN q := by
  have s1 : Hid (xs.length = n) := h.size
  go_enter Try.func71, Try.ntmps71
  go_wp2
  go_loopw [5, 6] (fun lv hv wr => ∃ (lo hi q : Nat), lo ≤ hi ∧ hi ≤ n ∧ lv = .int .i64 (lo : Int) ∧ hv = .int .i64 (hi : Int) ∧ wr = w.drewN q ∧ (∀ i x, xs[i]? = some x → i < lo → x.oop ≤ c) ∧ (∀ i x, xs[i]? = some x → hi ≤ i → c < x.oop)) (fun lv hv _ => (intOf hv).toNat - (intOf lv).toNat)
  case atStart => exact ⟨0, n, 0, by omega, by omega, rfl, rfl, rfl, fun i x _ hi => by omega, fun i x hx hi => by have := (List.getElem?_eq_some_iff.1 hx).1; rw [s1.out] at this; omega⟩
  case round =>
    obtain ⟨lo, hi, q, hlh, hhn, rfl, rfl, rfl, hA, hB⟩ := hrel
    by_cases hlt : lo < hi
    · have hltI : (lo : Int) < (hi : Int) := by omega
      obtain ⟨m, hm⟩ : ∃ m : Nat, ((lo : Int) + (hi : Int)) / 2 = (m : Int) := ⟨(lo + hi) / 2, by omega⟩
      have hml : lo ≤ m := by omega
      have hmh : m < hi := by omega
      replace hm : Hid (((lo : Int) + (hi : Int)) / 2 = (m : Int)) := hm
      obtain ⟨x, hx⟩ : ∃ x, xs[m]? = some x := ⟨_, List.getElem?_eq_getElem (by rw [s1.out]; omega)⟩
      have hcl := closureP_any (w := w.drewN q) c (h.drewN q) h1 hc hx
      replace hx : Hid (xs[m]? = some x) := hx
      go_wp2_with fail
      rw [hm.out]
      refine hcl.mono ?_
      rintro e w2 ⟨rfl, q2, rfl⟩
      have hw1 : IntKind.i64.wrap ((m : Int) + 1) = (m : Int) + 1 := by rw [IntKind.wrap_i64]; omega
      replace hA : Hid (∀ (i : Nat) (x : Ch), xs[i]? = some x → i < lo → x.oop ≤ c) := hA
      replace hB : Hid (∀ (i : Nat) (x : Ch), xs[i]? = some x → hi ≤ i → c < x.oop) := hB
      clear hcl
      by_cases hg : c < x.oop
      · rw [decide_eq_true hg]
        go_wp2
        go_roundw
        case rel =>
          refine ⟨lo, m, q + q2, hml, by omega, rfl, rfl, rfl, hA.out, fun i y hy hi' => ?_⟩
          by_cases e : i = m
          · subst e
            rw [hx.out] at hy
            cases hy
            exact hg
          · have := hr m i x y (by omega) hx.out hy
            omega
        case measure => simp [intOf]; omega
      · rw [decide_eq_false hg]
        go_wp2
        go_roundw
        case rel =>
          refine ⟨m + 1, hi, q + q2, by omega, hhn, by go_num, rfl, rfl, fun i y hy hi' => ?_, hB.out⟩
          by_cases e : i = m
          · subst e
            rw [hx.out] at hy
            cases hy
            omega
          · have := hr i m y x (by omega) hy hx.out
            omega
        case measure => simp [intOf]; omega
    · have hltI : ¬ (lo : Int) < (hi : Int) := by omega
      have hF : Hid (Fnd xs c lo) := ⟨by rw [s1.out]; omega, fun i x hx => ⟨fun hi' => hA i x hx hi', fun hle => by
        rcases Nat.lt_or_ge i lo with h' | h'
        · exact h'
        · have := hB i x hx (by omega)
          omega⟩⟩
      clear hA hB
      go_wp2
      go_ret
      exact ⟨lo, rfl, hF.out, q, rfl⟩
/-- The last one is an object. -/
def thereC (xs : List Ch) : Bool := match xs.getLast? with
  | none => false
  | some x => !x.gone
set_option maxHeartbeats 1000000 in
theorem there_any {w : World} {n cap : Nat} {a : Option Addr} {xs : List Ch} (chg : Int) (h : IsC w a n cap xs) :
    Calls Try.prog 53 #[.agg #[.int .i64 chg, .slice a n cap]] w fun e w' => e = .returned (.bool (thereC xs)) ∧ Below w.heap.size w w' := by
  have s1 : Hid (xs.length = n) := h.size
  have B1 : Below w.heap.size w (w.alloc (.cells #[.int .i64 chg, .slice a n cap] 78)) := box_below
  have hm : n ≤ 9223372036854775807 := by have h1 := h.most; have h2 := h.room; unfold maxLen at h1; omega
  rcases Nat.eq_zero_or_pos n with rfl | hpos
  · have : xs = [] := List.eq_nil_of_length_eq_zero s1.out
    subst this
    go_enter Try.func53, Try.ntmps53
    go_wp2
    go_ret
    exact ⟨rfl, B1⟩
  · obtain ⟨m, hmn⟩ : ∃ m, n = m + 1 := ⟨n - 1, by omega⟩
    have hlt : m < xs.length := by rw [s1.out]; omega
    obtain ⟨x, hx⟩ : ∃ x, xs[m]? = some x := ⟨_, List.getElem?_eq_getElem hlt⟩
    have ht : thereC xs = !x.gone := by
      unfold thereC
      rw [List.getLast?_eq_getElem?, s1.out, hmn, Nat.add_sub_cancel, hx]
    obtain ⟨b, off, rfl, hcell⟩ := (h.below B1).cells hpos
    obtain ⟨_, _, _, _, _, _, _, q1, _⟩ := hcell m x hx
    rw [ht]
    have hw1 : IntKind.i64.wrap ((n : Int) - 1) = (m : Int) := by rw [IntKind.wrap_i64]; omega
    have hnm : (n : Int) - 1 = (m : Int) := by omega
    have hmI : (m : Int) < (n : Int) := by omega
    replace hmn : Hid (n = m + 1) := hmn
    clear ht hx hcell hlt h
    go_enter Try.func53, Try.ntmps53
    go_wp2
    go_ret
    exact ⟨rfl, B1⟩
set_option maxHeartbeats 1000000 in
theorem place_any {w : World} {n cap : Nat} {a : Option Addr} {xs : List Ch} (chg c : Int) (h : IsC w a n cap xs) (hr : RiseC xs) (hn : n ≤ 4611686018427387903) :
    Calls Try.prog 58 #[.agg #[.int .i64 chg, .slice a n cap], .int .i64 c] w fun e w' => ∃ L : Nat, e = .returned (.int .i64 ((L : Int) - 1)) ∧ Fnd xs c L ∧ Below w.heap.size w w' := by
  have B1 : Below w.heap.size w (w.alloc (.cells #[.int .i64 chg, .slice a n cap] 78)) := box_below
  have B2 := below_size B1 B1.size (box_below (o := .cells #[.int .i64 c] 2))
  have s1 : Hid (xs.length = n) := h.size
  have h2 := h.below B2
  have c1 : ((w.alloc (.cells #[.int .i64 chg, .slice a n cap] 78)).alloc (.cells #[.int .i64 c] 2)).cell? ⟨w.heap.size, 1, none⟩ = some (.slice a n cap) := by simp
  have c2 : ((w.alloc (.cells #[.int .i64 chg, .slice a n cap] 78)).alloc (.cells #[.int .i64 c] 2)).cell? ⟨w.heap.size + 1, 0, none⟩ = some (.int .i64 c) := by simp
  have hs := search_any c h2 c1 c2 hr hn
  go_enter Try.func58, Try.ntmps58
  go_wp2_with fail
  refine hs.mono ?_
  rintro e w2 ⟨L, q, rfl, hF, rfl⟩
  have hL : L ≤ n := by rw [← s1.out]; exact hF.1
  have hw1 : IntKind.i64.wrap ((L : Int) - 1) = (L : Int) - 1 := by rw [IntKind.wrap_i64]; omega
  replace hF : Hid (Fnd xs c L) := hF
  go_wp2
  go_ret
  exact ⟨L, rfl, hF.out, below_drewN' B2 _⟩
theorem results_twoP {P : Program} {fn : Func} {tmps : Array Value} {a t c : Nat} {ad : Addr} {w : World} {v u : Value} (hf : fn.results = #[.cell a t, .tmp c]) (ha : tmps[a]?.getD undef = .pointer (some ad)) (hl : (loadVar t ad).run P w = .ok v w) (hu : tmps[c]?.getD undef = u) : (results fn tmps).run P w = .ok (.tuple #[v, u]) w := by
  unfold results
  rw [hf]
  simp [ha, asAddr, hl, hu]
theorem Try.results46 : Try.f46.results = #[.cell 4 49, .tmp 5] := by kernel_rfl
/-- What at answers: no object, or the one of the last version up to a commit. -/
def AtP (w : World) (xs : List Ch) (c : Int) (e : Ending) (w' : World) : Prop :=
  (∃ L : Nat, Fnd xs c L ∧ ((e = .returned (.tuple #[.agg #[.int .i64 0, .slice none 0 0, .slice none 0 0], .bool false]) ∧ ∀ m x, L = m + 1 → xs[m]? = some x → x.gone = true) ∨ ∃ m x sa sn sc ba bn bc, L = m + 1 ∧ xs[m]? = some x ∧ x.gone = false ∧ e = .returned (.tuple #[.agg #[.int .i64 x.cls, .slice sa sn sc, .slice ba bn bc], .bool true]) ∧ IsO w' x.cls sa sn sc ba bn bc x.vs x.bs)) ∧ Below w.heap.size w w'
set_option maxHeartbeats 2000000 in
theorem at_any {w : World} {n cap : Nat} {a : Option Addr} {xs : List Ch} (chg c : Int) (h : IsC w a n cap xs) (hr : RiseC xs) (hn : n ≤ 4611686018427387903) :
    Calls Try.prog 46 #[.agg #[.int .i64 chg, .slice a n cap], .int .i64 c] w (AtP w xs c) := by
  have s1 : Hid (xs.length = n) := h.size
  have B2 : Below w.heap.size w ((w.alloc (.cells #[.int .i64 chg, .slice a n cap] 78)).alloc (objB 0 (.slice none 0 0) (.slice none 0 0))) := below_size box_below box_below.size box_below
  have E2 := new2 w (.cells #[.int .i64 chg, .slice a n cap] 78) (objB 0 (.slice none 0 0) (.slice none 0 0))
  have c1 : ((w.alloc (.cells #[.int .i64 chg, .slice a n cap] 78)).alloc (objB 0 (.slice none 0 0) (.slice none 0 0))).cell? ⟨w.heap.size, 1, none⟩ = some (.slice a n cap) := by simp
  have h2 := h.below B2
  have hp := place_any chg c h2 hr hn
  have l1 : w.heap.size ≤ w.heap.size + 1 := by omega
  unfold objB at B2 E2 c1 h2 hp
  go_enter Try.func46, Try.ntmps46
  go_wp2_with fail
  generalize (w.alloc (.cells #[.int .i64 chg, .slice a n cap] 78)).alloc (.cells #[.int .i64 0, .slice none 0 0, .slice none 0 0] 49) = w2 at *
  refine hp.mono ?_
  rintro e w3 ⟨L, rfl, hF, B3⟩
  have E3 := (B3.block _ (lt_of_block E2)).trans E2
  have c3 := (B3.cell (p := ⟨w.heap.size, 1, none⟩) (lt_of_cell c1)).trans c1
  have B4 := below_size B2 B2.size B3
  have h3 := h2.below B3
  have hL : L ≤ n := by rw [← s1.out]; exact hF.1
  replace hF : Hid (Fnd xs c L) := hF
  clear hp E2 c1 B2 B3 h2
  obtain ⟨z0, z1, z2, zf⟩ := obj_cells E3
  cases L with
  | zero =>
    go_wp2_with fail
    clear z0 z1 z2 zf
    have E6 := stO_blk E3 0 (.slice none 0 0) (.slice none 0 0)
    obtain ⟨z0, z1, z2, zf⟩ := obj_cells E6
    exact bodyPost_ret (v := .tuple #[.agg #[.int .i64 0, .slice none 0 0, .slice none 0 0], .bool false]) (results_twoP Try.results46 rfl (load49 z0 z1 z2) rfl) rfl ⟨⟨0, hF.out, .inl ⟨rfl, fun m x e => by omega⟩⟩, stO_below B4 l1 _ _ _⟩
  | succ m =>
    obtain ⟨x, hx⟩ : ∃ x, xs[m]? = some x := ⟨_, List.getElem?_eq_getElem (by rw [s1.out]; omega)⟩
    obtain ⟨b, off, rfl, hcell⟩ := h.cells (by omega)
    obtain ⟨sa, sn, sc, ba, bn, bc, q0, q1, q2, q3, q4, hO⟩ := hcell m x hx
    have hbl := lt_of_cell q0
    replace q1 := (B4.cell (p := ⟨b, off + m * 5 + 1, none⟩) hbl).trans q1
    replace q2 := (B4.cell (p := ⟨b, off + m * 5 + 2, none⟩) hbl).trans q2
    replace q3 := (B4.cell (p := ⟨b, off + m * 5 + 3, none⟩) hbl).trans q3
    replace q4 := (B4.cell (p := ⟨b, off + m * 5 + 4, none⟩) hbl).trans q4
    clear q0
    have hmI : (m : Int) < (n : Int) := by omega
    have hm1 : ((m + 1 : Nat) : Int) - 1 = (m : Int) := by omega
    replace hx : Hid (xs[m]? = some x) := hx
    rw [hm1]
    clear hcell hL
    cases hg : x.gone with
    | true =>
      rw [hg] at q1
      go_wp2_with fail
      clear z0 z1 z2 zf
      have E6 := stO_blk E3 0 (.slice none 0 0) (.slice none 0 0)
      obtain ⟨z0, z1, z2, zf⟩ := obj_cells E6
      exact bodyPost_ret (v := .tuple #[.agg #[.int .i64 0, .slice none 0 0, .slice none 0 0], .bool false]) (results_twoP Try.results46 rfl (load49 z0 z1 z2) rfl) rfl ⟨⟨m + 1, hF.out, .inl ⟨rfl, fun m' x' e hx' => by
        obtain rfl : m' = m := by omega
        rw [hx.out] at hx'
        cases hx'
        exact hg⟩⟩, stO_below B4 l1 _ _ _⟩
    | false =>
      rw [hg] at q1
      go_wp2_with fail
      clear z0 z1 z2 zf
      have E6 := stO_blk E3 x.cls (.slice sa sn sc) (.slice ba bn bc)
      obtain ⟨z0, z1, z2, zf⟩ := obj_cells E6
      exact bodyPost_ret (v := .tuple #[.agg #[.int .i64 x.cls, .slice sa sn sc, .slice ba bn bc], .bool true]) (results_twoP Try.results46 rfl (load49 z0 z1 z2) rfl) rfl ⟨⟨m + 1, hF.out, .inr ⟨m, x, sa, sn, sc, ba, bn, bc, rfl, hx.out, hg, rfl, hO.below (stO_below B4 l1 _ _ _)⟩⟩, stO_below B4 l1 _ _ _⟩
end Go.Proofs.Ytajdelinfkodbaa
