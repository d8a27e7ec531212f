/- behind: those of rising commits that are above one. -/
import Derived.Test.YtigmpmichhghdaaTxn
namespace Go.Proofs.Ytigmpmichhghdaa
open Go.RowKit
set_option maxRecDepth 100000
set_option maxHeartbeats 1000000 in
theorem closure53 {w : World} {bp bc n cap i : Nat} {a : Option Addr} {xs : List Int} {x : Int} (c : Int) (h : IsI w a n cap xs) (h1 : w.cell? ⟨bp, 0, none⟩ = some (.slice a n cap)) (hc : w.cell? ⟨bc, 0, none⟩ = some (.int .i64 c)) (hx : xs[i]? = some x) :
    Calls Try.prog 53 #[.int .i64 (i : Int), .pointer (some ⟨bp, 0, none⟩), .pointer (some ⟨bc, 0, none⟩)] w fun e w' => e = .returned (.bool (decide (c < x))) ∧ ∃ q, w' = w.drewN q := by
  have hi : i < n := by have := (List.getElem?_eq_some_iff.1 hx).1; rw [h.size] at this; exact this
  have hiI : (i : Int) < (n : Int) := by omega
  obtain ⟨b, off, y, rfl, _, q0, hy, _⟩ := h.at_ i hi
  obtain rfl : y = x := by have := hy.out; rw [hx] at this; cases this; rfl
  clear h hx hy
  go_enter Try.func53, Try.ntmps53
  go_wp2_with fail
  go_quiet (fail)
  go_wp2
  go_ret
  exact ⟨rfl, _, rfl⟩
theorem IsI.drewN {w : World} {a : Option Addr} {len cap : Nat} {xs : List Int} (h : IsI w a len cap xs) (q : Nat) : IsI (w.drewN q) a len cap xs := h.below ⟨rfl, rfl, rfl, Nat.le_refl _, fun _ _ => rfl⟩
/-- They rise. -/
def RiseI (xs : List Int) : Prop := ∀ (i j : Nat) (x y : Int), i < j → xs[i]? = some x → xs[j]? = some y → x < y
/-- What a search for the first one above a commit finds. -/
def Fnd (xs : List Int) (c : Int) (L : Nat) : Prop := L ≤ xs.length ∧ ∀ (i : Nat) (x : Int), xs[i]? = some x → (i < L ↔ x ≤ c)
set_option maxHeartbeats 2000000 in
theorem search_any {w : World} {bp bc n cap : Nat} {a : Option Addr} {xs : List Int} (c : Int) (h : IsI w a n cap xs) (h1 : w.cell? ⟨bp, 0, none⟩ = some (.slice a n cap)) (hc : w.cell? ⟨bc, 0, none⟩ = some (.int .i64 c)) (hr : RiseI xs) (hn : n ≤ 4611686018427387903) :
    Calls Try.prog 52 #[.int .i64 (n : Int), .func (.func 53) #[] #[.pointer (some ⟨bp, 0, none⟩), .pointer (some ⟨bc, 0, none⟩)]] w fun e w' => ∃ (L q : Nat), e = .returned (.int .i64 (L : Int)) ∧ Fnd xs c L ∧ w' = w.drewN q := by
  have s1 : Hid (xs.length = n) := h.size
  go_enter Try.func52, Try.ntmps52
  go_wp2
  go_loopw [5, 6] (fun lv hv wr => ∃ (lo hi q : Nat), lo ≤ hi ∧ hi ≤ n ∧ lv = .int .i64 (lo : Int) ∧ hv = .int .i64 (hi : Int) ∧ wr = w.drewN q ∧ (∀ i x, xs[i]? = some x → i < lo → x ≤ c) ∧ (∀ i x, xs[i]? = some x → hi ≤ i → c < x)) (fun lv hv _ => (intOf hv).toNat - (intOf lv).toNat)
  case atStart => exact ⟨0, n, 0, by omega, by omega, rfl, rfl, rfl, fun i x _ hi => by omega, fun i x hx hi => by have := (List.getElem?_eq_some_iff.1 hx).1; rw [s1.out] at this; omega⟩
  case round =>
    obtain ⟨lo, hi, q, hlh, hhn, rfl, rfl, rfl, hA, hB⟩ := hrel
    by_cases hlt : lo < hi
    · have hltI : (lo : Int) < (hi : Int) := by omega
      obtain ⟨m, hm⟩ : ∃ m : Nat, ((lo : Int) + (hi : Int)) / 2 = (m : Int) := ⟨(lo + hi) / 2, by omega⟩
      have hml : lo ≤ m := by omega
      have hmh : m < hi := by omega
      replace hm : Hid (((lo : Int) + (hi : Int)) / 2 = (m : Int)) := hm
      obtain ⟨x, hx⟩ : ∃ x, xs[m]? = some x := ⟨_, List.getElem?_eq_getElem (by rw [s1.out]; omega)⟩
      have hcl := closure53 (w := w.drewN q) c (h.drewN q) h1 hc hx
      replace hx : Hid (xs[m]? = some x) := hx
      go_wp2_with fail
      rw [hm.out]
      refine hcl.mono ?_
      rintro e w2 ⟨rfl, q2, rfl⟩
      have hw1 : IntKind.i64.wrap ((m : Int) + 1) = (m : Int) + 1 := by rw [IntKind.wrap_i64]; omega
      replace hA : Hid (∀ (i : Nat) (x : Int), xs[i]? = some x → i < lo → x ≤ c) := hA
      replace hB : Hid (∀ (i : Nat) (x : Int), xs[i]? = some x → hi ≤ i → c < x) := hB
      clear hcl
      by_cases hg : c < x
      · rw [decide_eq_true hg]
        go_wp2
        go_roundw
        case rel =>
          refine ⟨lo, m, q + q2, hml, by omega, rfl, rfl, rfl, hA.out, fun i y hy hi' => ?_⟩
          by_cases e : i = m
          · subst e
            rw [hx.out] at hy
            cases hy
            exact hg
          · have := hr m i x y (by omega) hx.out hy
            omega
        case measure => simp [intOf]; omega
      · rw [decide_eq_false hg]
        go_wp2
        go_roundw
        case rel =>
          refine ⟨m + 1, hi, q + q2, by omega, hhn, by go_num, rfl, rfl, fun i y hy hi' => ?_, hB.out⟩
          by_cases e : i = m
          · subst e
            rw [hx.out] at hy
            cases hy
            omega
          · have := hr i m y x (by omega) hy hx.out
            omega
        case measure => simp [intOf]; omega
    · have hltI : ¬ (lo : Int) < (hi : Int) := by omega
      have hF : Hid (Fnd xs c lo) := ⟨by rw [s1.out]; omega, fun i x hx => ⟨fun hi' => hA i x hx hi', fun hle => by
        rcases Nat.lt_or_ge i lo with h' | h'
        · exact h'
        · have := hB i x hx (by omega)
          omega⟩⟩
      clear hA hB
      go_wp2
      go_ret
      exact ⟨lo, rfl, hF.out, q, rfl⟩
theorem IsI.drop {w : World} {b off n cap L : Nat} {xs : List Int} (h : IsI w (some ⟨b, off, none⟩) n cap xs) (hL : L ≤ n) : IsI w (some ⟨b, off + L, none⟩) (n - L) (cap - L) (xs.drop L) := by
  have h1 := h.size
  have h2 := h.room
  have h3 := h.most
  refine ⟨by rw [List.length_drop]; omega, by omega, by omega, by simp, fun z hz => h.wf z (List.mem_of_mem_drop hz), fun h0 => ⟨b, off + L, rfl, fun i hi => ?_⟩⟩
  obtain ⟨b', off', e, hc⟩ := h.cells (by omega)
  cases e
  have := hc (L + i) (by omega)
  rw [show off + (L + i) = off + L + i by omega] at this
  rw [this]
  simp [List.getD_eq_getElem?_getD, List.getElem?_drop]
set_option maxHeartbeats 1000000 in
theorem behind_any {w : World} {n cap : Nat} {a : Option Addr} {xs : List Int} (c : Int) (h : IsI w a n cap xs) (hsp : ∀ ad, a = some ad → ∃ b off, ad = ⟨b, off, none⟩) (hr : RiseI xs) (hn : n ≤ 4611686018427387903) :
    Calls Try.prog 46 #[.slice a n cap, .int .i64 c] w fun e w' => ∃ (L : Nat) (a' : Option Addr) (n' c' : Nat), e = .returned (.slice a' n' c') ∧ Fnd xs c L ∧ IsI w' a' n' c' (xs.drop L) ∧ Below w.heap.size w w' := by
  have B1 : Below w.heap.size w (w.alloc (.cells #[.slice a n cap] 23)) := box_below
  have B2 := below_size B1 B1.size (box_below (o := .cells #[.int .i64 c] 2))
  have s1 : Hid (xs.length = n) := h.size
  have r1 := h.room
  have m1 := h.most
  unfold maxLen at m1
  have h2 := h.below B2
  have c1 : ((w.alloc (.cells #[.slice a n cap] 23)).alloc (.cells #[.int .i64 c] 2)).cell? ⟨w.heap.size, 0, none⟩ = some (.slice a n cap) := by simp
  have c2 : ((w.alloc (.cells #[.slice a n cap] 23)).alloc (.cells #[.int .i64 c] 2)).cell? ⟨w.heap.size + 1, 0, none⟩ = some (.int .i64 c) := by simp
  have hs := search_any c h2 c1 c2 hr hn
  go_enter Try.func46, Try.ntmps46
  go_wp2_with fail
  refine hs.mono ?_
  rintro e w2 ⟨L, q, rfl, hF, rfl⟩
  have hL : L ≤ n := by rw [← s1.out]; exact hF.1
  replace hF : Hid (Fnd xs c L) := hF
  have h3 := h.below (below_drewN' B2 q)
  have B3 := below_drewN' B2 q
  have hb1 : (0 : Int) ≤ (L : Int) := by omega
  have hb2 : (L : Int) ≤ (n : Int) := by omega
  have hb3 : (n : Int) ≤ (cap : Int) := by omega
  clear hs h2 B1 B2
  by_cases hcap : cap = L
  · have e0 : n = L := by omega
    have hd : Hid (xs.drop L = []) := by unfold Hid; rw [List.drop_eq_nil_iff, s1.out]; omega
    subst hcap
    obtain rfl : n = cap := e0
    go_wp2
    go_ret
    exact ⟨_, _, _, _, rfl, hF.out, by rw [hd.out]; exact ⟨by simp, by simp, by simp [maxLen], fun _ => by simp, by simp, fun h => absurd h (by simp)⟩, B3⟩
  · cases a with
    | none =>
      exfalso
      have := h.nil0 rfl
      omega
    | some ad =>
      obtain ⟨b, off, rfl⟩ := hsp ad rfl
      have h4 := h3.drop hL
      have hcn : ¬ (cap : Int) = (L : Int) := by omega
      go_wp2
      go_ret
      exact ⟨_, _, _, _, rfl, hF.out, h4, B3⟩
theorem OwnI.spot {w : World} {base n c : Nat} {a : Option Addr} {xs : List Int} (h : OwnI w base (.slice a n c) xs) : ∀ ad, a = some ad → ∃ b off, ad = ⟨b, off, none⟩ := by
  intro ad ha
  rcases h.1.2 with ⟨e, _⟩ | ⟨g, cap, cur, e, _⟩
  · cases e; cases ha
  · cases e; cases ha; exact ⟨_, _, rfl⟩
end Go.Proofs.Ytigmpmichhghdaa
