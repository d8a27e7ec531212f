/- Slices of values, objects. -/
import Derived.Test.YtjfaflmmanjjbaaVal
namespace Go.Proofs.Ytjfaflmmanjjbaa
open Go.RowKit
set_option maxRecDepth 100000

/-- What is known of a slice of values that is only read: kinds and numbers. -/
structure IsV (w : World) (a : Option Addr) (len cap : Nat) (vs : List (Int × Int)) : Prop where
  size : vs.length = len
  room : len ≤ cap
  most : cap ≤ maxLen
  nil0 : a = none → cap = 0
  wf : ∀ v ∈ vs, (-9223372036854775808 ≤ v.1 ∧ v.1 ≤ 9223372036854775807) ∧ (-9223372036854775808 ≤ v.2 ∧ v.2 ≤ 9223372036854775807)
  cells : 0 < len → ∃ b off, a = some ⟨b, off, none⟩ ∧ ∀ i, i < len → w.cell? ⟨b, off + i * 2, none⟩ = some (.int .i64 (vs.getD i (0, 0)).1) ∧ w.cell? ⟨b, off + i * 2 + 1, none⟩ = some (.int .i64 (vs.getD i (0, 0)).2)
theorem lt_of_cell {w : World} {b o : Nat} {v : Value} (h : w.cell? ⟨b, o, none⟩ = some v) : b < w.heap.size := block_lt_of_cell h
theorem IsV.below {w w' : World} {a : Option Addr} {len cap : Nat} {vs : List (Int × Int)} (h : IsV w a len cap vs) (hb : Below w.heap.size w w') : IsV w' a len cap vs :=
  ⟨h.size, h.room, h.most, h.nil0, h.wf, fun h0 => by
    obtain ⟨b, off, ha, hc⟩ := h.cells h0
    exact ⟨b, off, ha, fun i hi => ⟨(hb.cell (lt_of_cell (hc i hi).1)).trans (hc i hi).1, (hb.cell (lt_of_cell (hc i hi).2)).trans (hc i hi).2⟩⟩⟩
theorem load23 {w : World} {b off : Nat} {v0 v1 : Value} (h0 : w.cell? ⟨b, off, none⟩ = some v0) (h1 : w.cell? ⟨b, off + 1, none⟩ = some v1) : (loadVar 23 ⟨b, off, none⟩).run Try.prog w = .ok (.agg #[v0, v1]) w := by
  have hr := run_loadCells_list (P := Try.prog) w ⟨b, off, none⟩ [v0, v1] (fun i v hi => by
    have hadd : (⟨b, off, none⟩ : Addr).add i = ⟨b, off + i, none⟩ := by unfold Addr.add; split <;> simp_all
    rw [hadd]
    match i, hi with
    | 0, hi => simp at hi; subst hi; exact h0
    | 1, hi => simp at hi; subst hi; exact h1
    | _ + 2, hi => simp at hi)
  have hagg : (isAgg 23).run Try.prog w = .ok true w := by simp [isAgg, run_underlying Try.underlying23]
  have hr' : (loadCells ⟨b, off, none⟩ 2).run Try.prog w = .ok #[v0, v1] w := hr
  simp [loadVar, hagg, hr']
/-- Can all values be kept? -/
def okVs (vs : List (Int × Int)) : Bool := vs.all fun v => okV v.1 v.2
/-- Can an object be kept? -/
def okO (c : Int) (vs : List (Int × Int)) (n : Nat) : Bool := okC c && decide (vs.length ≤ 256) && decide (n ≤ 1024) && okVs vs
theorem take_at {α : Type} {l : List α} {x : α} {k : Nat} (h : l[k]? = some x) : l.take (k + 1) = l.take k ++ [x] := by
  obtain ⟨hl, e⟩ := List.getElem?_eq_some_iff.1 h
  rw [List.take_succ_eq_append_getElem hl, e]
theorem okVs_snoc {vs : List (Int × Int)} {k : Nat} {x y : Int} (h : vs[k]? = some (x, y)) : okVs (vs.take (k + 1)) = (okVs (vs.take k) && okV x y) := by
  rw [take_at h]
  simp [okVs]
theorem okVs_bad {vs : List (Int × Int)} {k : Nat} {x y : Int} (h : vs[k]? = some (x, y)) (hb : okV x y = false) : okVs vs = false := by
  unfold okVs
  rw [List.all_eq_false]
  exact ⟨_, List.mem_of_getElem? h, by rw [Bool.not_eq_true]; exact hb⟩
theorem bcell {W w1 : World} (hb : Below W.heap.size W w1) : (∀ b o, b < W.heap.size → w1.cell? ⟨b, o, none⟩ = W.cell? ⟨b, o, none⟩) ∧ (∀ b o, b < W.heap.size → w1.frozen? ⟨b, o, none⟩ = W.frozen? ⟨b, o, none⟩) :=
  ⟨fun b o h => hb.cell (p := ⟨b, o, none⟩) h, fun b o h => hb.frozen (p := ⟨b, o, none⟩) h⟩
theorem below_size {N : Nat} {w w1 w2 : World} (h : Below N w w1) (hN : N ≤ w1.heap.size) (k : Below w1.heap.size w1 w2) : Below N w w2 := h.trans (k.mono hN)
theorem IsV.at_ {w : World} {a : Option Addr} {len cap : Nat} {vs : List (Int × Int)} (h : IsV w a len cap vs) (k : Nat) (hk : k < len) : ∃ b off x y, a = some ⟨b, off, none⟩ ∧ b < w.heap.size ∧ w.cell? ⟨b, off + k * 2, none⟩ = some (.int .i64 x) ∧ w.cell? ⟨b, off + k * 2 + 1, none⟩ = some (.int .i64 y) ∧ Hid (vs[k]? = some (x, y)) ∧ (-9223372036854775808 ≤ x ∧ x ≤ 9223372036854775807) ∧ (-9223372036854775808 ≤ y ∧ y ≤ 9223372036854775807) := by
  obtain ⟨b, off, ha, hc⟩ := h.cells (by omega)
  have hl : k < vs.length := by have := h.size; omega
  have e : vs[k]? = some (vs.getD k (0, 0)) := by simp [hl]
  have hw := h.wf _ (List.mem_of_getElem? e)
  exact ⟨b, off, _, _, ha, lt_of_cell (hc k hk).1, (hc k hk).1, (hc k hk).2, e, hw⟩
set_option maxHeartbeats 2000000 in
theorem rightObj_any {w : World} (c : Int) {sa ba : Option Addr} {sn sc bn bc : Nat} {vs : List (Int × Int)} (hv : IsV w sa sn sc vs) (hb : bn ≤ maxLen) :
    Calls Try.prog 14 #[.agg #[.int .i64 c, .slice sa sn sc, .slice ba bn bc]] w fun e w' => e = .returned (.bool (okO c vs bn)) ∧ Below w.heap.size w w' := by
  have hsz := hv.size
  have hsm := hv.room
  have hsx := hv.most
  unfold maxLen at hb hsx
  by_cases h1 : okC c = true
  · by_cases h2 : sn ≤ 256
    · by_cases h3 : bn ≤ 1024
      · have e : okO c vs bn = okVs vs := by unfold okO; rw [h1, decide_eq_true (by omega), decide_eq_true h3]; rfl
        rw [e]
        clear e
        go_enter Try.func14, Try.ntmps14
        go_wp2_with (go_at_call 40; refine (rightOop_any _ _).mono ?_; rintro e w' ⟨rfl, rfl⟩; rw [h1])
        have hv1 := hv.below (box_below (o := .cells #[.int .i64 c, .slice sa sn sc, .slice ba bn bc] 27))
        have hB1 : Below w.heap.size w (w.alloc (.cells #[.int .i64 c, .slice sa sn sc, .slice ba bn bc] 27)) := box_below
        generalize w.alloc (.cells #[.int .i64 c, .slice sa sn sc, .slice ba bn bc] 27) = w1 at *
        go_loopw [24] (fun iv wr => ∃ k : Nat, k ≤ sn ∧ iv = .int .i64 (k : Int) ∧ okVs (vs.take k) = true ∧ Below w1.heap.size w1 wr) (fun iv _ => sn - (intOf iv).toNat)
        case atStart => exact ⟨0, by omega, rfl, rfl, Below.refl _ _⟩
        case round =>
          obtain ⟨k, hk, rfl, hok, hB⟩ := hrel
          by_cases hlt : k < sn
          · obtain ⟨b, off, x, y, rfl, hbl, c0, c1, hx, _, _⟩ := (hv1.below hB).at_ k hlt
            go_wp2_with fail
            refine (right_any _ _ _).mono ?_
            rintro e w2 ⟨rfl, B2⟩
            have B3 : Below w1.heap.size w1 w2 := below_size (below_size hB hB.size box_below) (Nat.le_trans hB.size box_below.size) B2
            clear hB B2 c0 c1
            by_cases hy : okV x y = true
            · rw [hy]
              have hs := okVs_snoc hx.out
              rw [hok, hy] at hs
              replace hs : Hid (okVs (vs.take (k + 1)) = true) := hs
              clear hok
              go_wp2
              go_roundw
              case rel => exact ⟨k + 1, by omega, by go_num, hs.out, B3⟩
              case measure => simp [intOf]; omega
            · rw [Bool.not_eq_true] at hy
              rw [hy]
              go_wp2
              go_ret
              exact ⟨by rw [okVs_bad hx.out hy]; rfl, below_size hB1 hB1.size B3⟩
          · go_wp2
            go_ret
            rw [List.take_of_length_le (by omega)] at hok
            exact ⟨by rw [hok]; rfl, below_size hB1 hB1.size hB⟩
      · have e : okO c vs bn = false := by unfold okO; rw [decide_eq_false h3]; simp
        rw [e]
        clear e
        go_enter Try.func14, Try.ntmps14
        go_wp2_with (go_at_call 40; refine (rightOop_any _ _).mono ?_; rintro e w' ⟨rfl, rfl⟩; rw [h1])
        go_ret
        exact ⟨rfl, box_below⟩
    · have e : okO c vs bn = false := by unfold okO; rw [decide_eq_false (show ¬ vs.length ≤ 256 by omega)]; simp
      rw [e]
      clear e
      go_enter Try.func14, Try.ntmps14
      go_wp2_with (go_at_call 40; refine (rightOop_any _ _).mono ?_; rintro e w' ⟨rfl, rfl⟩; rw [h1])
      go_ret
      exact ⟨rfl, box_below⟩
  · rw [Bool.not_eq_true] at h1
    have e : okO c vs bn = false := by unfold okO; rw [h1]; simp
    rw [e]
    clear e
    go_enter Try.func14, Try.ntmps14
    go_wp2_with (go_at_call 40; refine (rightOop_any _ _).mono ?_; rintro e w' ⟨rfl, rfl⟩; rw [h1])
    go_ret
    exact ⟨rfl, box_below⟩
end Go.Proofs.Ytjfaflmmanjjbaa
