/- Free oops, by the program and by the document. -/
import Derived.Test.YtajdelinfkodbaaDoo
namespace Go.Proofs.Ytajdelinfkodbaa
open Go.RowKit
set_option maxRecDepth 100000
/-- The row of what was read. -/
structure RdR (w : World) (rb : Nat) (rd : Nat → Bool) : Prop where
  row : ∃ cur, w.heap[rb]? = some (.cells cur 4 (0, 0)) ∧ cur.size = 4097 ∧ ∀ k, k < 4097 → cur[k]? = some (.bool (rd k))
theorem RdR.at_ {w : World} {rb : Nat} {rd : Nat → Bool} (h : RdR w rb rd) {k : Nat} (hk : k < 4097) : w.cell? ⟨rb, k, none⟩ = some (.bool (rd k)) ∧ w.frozen? ⟨rb, k, none⟩ = false := by
  obtain ⟨cur, h1, h2, h3⟩ := h.row
  exact ⟨by rw [cell_of_row w rb _ _ _ _ h1]; exact h3 k hk, frozen_of_row w rb k _ _ h1⟩
theorem RdR.set {w : World} {rb : Nat} {rd : Nat → Bool} (h : RdR w rb rd) (k : Nat) : RdR (w.setCell ⟨rb, k, none⟩ (.bool true)) rb (fun i => rd i || decide (i = k)) := by
  obtain ⟨cur, h1, h2, h3⟩ := h.row
  refine ⟨_, heap_setCell_same w rb k _ _ _ h1, by simpa using h2, fun i hi => ?_⟩
  by_cases e : i = k
  · subst e
    simp [h2, hi]
  · rw [Array.getElem?_setIfInBounds_ne (fun q => e q.symm), h3 i hi]
    simp [e]
theorem Try.info4 : (Try.prog.info? 4).map (fun i => (i.zero, i.size, i.bytes)) = some (some (.bool false), 1, 1) := by kernel_rfl
set_option maxRecDepth 100000
def rd0 : Array Value := madeCells (Value.bool false).cells 4097
theorem rd0_make (w : World) : (Instr.makeSlice 101 (.int .i64 4097) (.int .i64 4097)).run Try.prog w = .ok (.slice (some ⟨w.heap.size, 0, none⟩) 4097 4097) (w.alloc (.cells rd0 4)) := by
  obtain ⟨i, hi, hz, hs, hbb⟩ := info_parts Try.info4
  have := Go.run_make (P := Try.prog) (w := w) 101 4 i (.bool false) Try.underlying101 hi hz .i64 .i64 4097 4097 (by decide) (by decide) (by rw [hbb]; decide) (by decide)
  rw [hs] at this
  exact this
/-- Oops that are free among the first ones. -/
def frK (p : Int → Bool) (k : Nat) : List Int := ((List.range k).map fun i : Nat => (i : Int) + 1).filter p
theorem frK_succ (p : Int → Bool) (k : Nat) : frK p (k + 1) = frK p k ++ (if p ((k : Int) + 1) = true then [(k : Int) + 1] else []) := by
  unfold frK
  rw [List.range_succ, List.map_append, List.filter_append]
  by_cases h : p ((k : Int) + 1) = true <;> simp [h]
theorem frK_pre (p : Int → Bool) (k : Nat) : ∀ d, ∃ r, frK p (k + d) = frK p k ++ r
  | 0 => ⟨[], by simp⟩
  | d + 1 => by
    obtain ⟨r, hr⟩ := frK_pre p k d
    exact ⟨r ++ _, by rw [show k + (d + 1) = k + d + 1 by omega, frK_succ, hr, List.append_assoc]⟩
def fr3 (p : Int → Bool) : List Int := (frK p 4096).take 3
theorem fr3_full {p : Int → Bool} {k : Nat} (hk : k ≤ 4096) (h : (frK p k).length = 3) : fr3 p = frK p k := by
  unfold fr3
  obtain ⟨r, hr⟩ := frK_pre p k (4096 - k)
  rw [show k + (4096 - k) = 4096 by omega] at hr
  rw [hr, List.take_append_of_le_length (by omega), List.take_of_length_le (by omega)]
theorem fr3_end {p : Int → Bool} (h : (frK p 4096).length ≤ 3) : fr3 p = frK p 4096 := List.take_of_length_le h
/-- While free oops are gathered. -/
structure FrQ (W : World) (p : Int → Bool) (k : Nat) (ov : Value) (wr : World) : Prop where
  own : wr.ownsRow W.heap.size 2 1 ov (frK p k).length ((frK p k).map (Value.int .i64))
  len : (frK p k).length ≤ 3
  bel : Below W.heap.size W wr
theorem FrQ.fin {W wr : World} {p : Int → Bool} {k : Nat} {a : Option Addr} {n c : Nat} (h : FrQ W p k (.slice a n c) wr) (hn : n = (frK p k).length) (he : fr3 p = frK p k) : OopP W (fr3 p) (.returned (.slice a n c)) wr := by
  refine ⟨a, n, c, rfl, by rw [he]; exact hn, ?_, h.bel⟩
  rw [he, hn]
  have := h.own
  rw [hn] at this
  exact this
theorem empty_any {w : World} (c : Int) (va : Option Addr) (vn vc : Nat) (hv : vn ≤ 1099511627776) : Calls Try.prog 51 #[.agg #[.int .i64 c, .slice va vn vc]] w fun e w' => e = .returned (.bool (decide (vn = 0))) ∧ Below w.heap.size w w' := by
  have E1 := new1 w (.cells #[.int .i64 c, .slice va vn vc] 78)
  have B1 : Below w.heap.size w (w.alloc (.cells #[.int .i64 c, .slice va vn vc] 78)) := box_below
  have z1 : (w.alloc (.cells #[.int .i64 c, .slice va vn vc] 78)).cell? ⟨w.heap.size, 1, none⟩ = some (.slice va vn vc) := by rw [cell_of_row _ _ _ _ _ _ E1]; rfl
  by_cases h : vn = 0
  · subst h
    go_enter Try.func51, Try.ntmps51
    go_wp2
    go_ret
    exact ⟨rfl, B1⟩
  · have h' : ((vn : Int) == 0) = false := by simpa using h
    rw [decide_eq_false h]
    go_enter Try.func51, Try.ntmps51
    go_wp2
    go_ret
    exact ⟨rfl, B1⟩
/-- One oop more. -/
theorem FrQ.push {W wr w' : World} {p : Int → Bool} {k : Nat} {ov ov' : Value} (_h : FrQ W p k ov wr) (hp : p ((k : Int) + 1) = true) (h3 : (frK p k).length < 3) (own : w'.ownsRow W.heap.size 2 1 ov' ((frK p k).length + 1) ((frK p k ++ [(k : Int) + 1]).map (Value.int .i64))) (hb : Below W.heap.size W w') : FrQ W p (k + 1) ov' w' := by
  have e : frK p (k + 1) = frK p k ++ [(k : Int) + 1] := by rw [frK_succ, if_pos hp]
  refine ⟨?_, ?_, hb⟩
  · rw [e, List.length_append]; exact own
  · rw [e, List.length_append]; simp; omega
theorem FrQ.skip {W wr w' : World} {p : Int → Bool} {k : Nat} {ov : Value} (h : FrQ W p k ov wr) (hp : p ((k : Int) + 1) = false) (hb : Below wr.heap.size wr w') : FrQ W p (k + 1) ov w' := by
  have e : frK p (k + 1) = frK p k := by rw [frK_succ, if_neg (by rw [hp]; simp), List.append_nil]
  exact ⟨by rw [e]; exact own_below h.own hb, by rw [e]; exact h.len, below_size h.bel h.bel.size hb⟩
def freeP (t : Tab) (k : Int) : Bool := decide ((t.m k).vs.length = 0)
set_option maxHeartbeats 8000000 in
theorem free_any {w : World} {S R : Nat → Prop} {b : Nat} {t : Tab} (h : Tb w S R b t) : Calls Try.prog 30 #[.pointer (some ⟨b, 0, none⟩), .int .i64 3] w (OopP w (fr3 (freeP t))) := by
  obtain ⟨p, hp⟩ : ∃ p, Hid (freeP t = p) := ⟨_, rfl⟩
  rw [hp.out]
  go_enter Try.func30, Try.ntmps30
  go_wp2
  go_loopw [5, 6] (fun ov iv wr => ∃ (k : Nat) (oa : Option Addr) (on oc : Nat), k ≤ 4096 ∧ iv = .int .i64 ((k : Int) + 1) ∧ ov = .slice oa on oc ∧ Hid (on = (frK p k).length) ∧ FrQ w p k ov wr) (fun _ iv _ => 5000 - (intOf iv).toNat)
  case atStart => exact ⟨0, none, 0, 0, by omega, by go_num, rfl, rfl, World.ownsRow_nil _ _ _ _, by simp [frK], Below.refl _ _⟩
  case round =>
    obtain ⟨k, oa, on, oc, hk, rfl, rfl, hon, FQ⟩ := hrel
    by_cases hk2 : k < 4096
    · have c1 : (k : Int) + 1 ≤ 4096 := by omega
      by_cases h3 : on < 3
      · have c2 : (on : Int) < 3 := by omega
        have hT := h.below FQ.bel
        obtain ⟨mv, hblk, hV⟩ := hT.blk
        obtain ⟨y0, y1, y2⟩ := tab_cells hblk
        obtain ⟨va, vn, vc, hlook, hrow, hvn⟩ := hV.look hT.sets ((k : Int) + 1)
        have hvl : vn ≤ 1099511627776 := by rw [hvn]; exact hT.good.len hT.first0.2.2 _
        have hpk : Hid (p ((k : Int) + 1) = decide (vn = 0)) := by show _ = _; rw [← hp.out, hvn]; rfl
        clear hrow hvn hV hblk
        go_wp2_with fail
        refine (empty_any _ va vn vc hvl).mono ?_
        rintro e w' ⟨rfl, B2⟩
        by_cases hv : vn = 0
        · have hpt : Hid (p ((k : Int) + 1) = true) := by show _ = _; rw [hpk.out, decide_eq_true hv]
          rw [decide_eq_true hv]
          have E8 := new1 w' (.cells #[.int .i64 ((k : Int) + 1)] 2)
          have B8 : Below w'.heap.size w' (w'.alloc (.cells #[.int .i64 ((k : Int) + 1)] 2)) := box_below
          have BB := below_size B2 B2.size B8
          have own8 := own_below FQ.own BB
          have c8 : (w'.alloc (.cells #[.int .i64 ((k : Int) + 1)] 2)).cell? ⟨w'.heap.size, 0, none⟩ = some (.int .i64 ((k : Int) + 1)) := by rw [cell_of_row _ _ _ _ _ _ E8]; rfl
          have B9 : Hid (Below w.heap.size w (w'.alloc (.cells #[.int .i64 ((k : Int) + 1)] 2))) := below_size FQ.bel FQ.bel.size BB
          have hsz8 : w.heap.size ≤ (w'.alloc (.cells #[.int .i64 ((k : Int) + 1)] 2)).heap.size := B9.out.size
          obtain ⟨fl, hfl⟩ : ∃ q, Hid (frK p k = q) := ⟨_, rfl⟩
          rw [hfl.out] at own8
          have hll : fl.length ≤ 1000000 := by have h1 := FQ.len; rw [hfl.out] at h1; omega
          clear E8 B8 BB y0 y1 y2 hlook hT B2 hv hpk
          go_wp2_with (at_builtin; refine app_ints _ (by rfl) _ _ (by rfl) w.heap.size _ fl (by rfl) own8 w'.heap.size ((k : Int) + 1) (by rfl) c8 hll hsz8 ?_)
          intro o8a o8n o8c w8 hn8 r8 B10
          have FQ8 : FrQ w p (k + 1) (.slice o8a o8n o8c) w8 := FQ.push hpt.out (by have := hon.out; omega) (by rw [hfl.out, List.map_append]; exact r8) (B9.out.trans B10)
          have hn9 : Hid (o8n = (frK p (k + 1)).length) := by show _ = _; rw [hn8, frK_succ, if_pos hpt.out, List.length_append, hfl.out]; rfl
          clear r8 B10 B9 own8 c8 hll hsz8 hn8 hfl FQ hpt
          go_wp2
          go_roundw
          case rel => exact ⟨k + 1, o8a, o8n, o8c, by omega, by go_num, rfl, hn9, FQ8⟩
          case measure => simp [intOf]; omega
        · have hpt : p ((k : Int) + 1) = false := by rw [hpk.out, decide_eq_false hv]
          rw [decide_eq_false hv]
          have FQ8 := FQ.skip hpt B2
          have hn9 : Hid (on = (frK p (k + 1)).length) := by show _ = _; rw [frK_succ, if_neg (by rw [hpt]; simp), List.append_nil]; exact hon.out
          clear y0 y1 y2 hlook hT B2 hpk FQ hpt
          go_wp2
          go_roundw
          case rel => exact ⟨k + 1, oa, on, oc, by omega, by go_num, rfl, hn9, FQ8⟩
          case measure => simp [intOf]; omega
      · have c2 : ¬ (on : Int) < 3 := by omega
        have fin := FQ.fin hon.out (fr3_full hk (by have := FQ.len; have := hon.out; omega))
        go_wp2
        go_ret
        exact fin
    · have c1 : ¬ (k : Int) + 1 ≤ 4096 := by omega
      have ek : k = 4096 := by omega
      have fin := FQ.fin hon.out (by subst ek; exact fr3_end FQ.len)
      go_wp2
      go_ret
      exact fin
end Go.Proofs.Ytajdelinfkodbaa
