/- append of one change, of one number, in a straight region; the document's wrong. -/
import Derived.Test.YteomolihandfnaaGreatDpk
namespace Go.Proofs.YteomolihandfnaaGreat
open Go.RowKit
set_option maxRecDepth 100000
/-- All but a row is kept. -/
structure KpB (v : Value) (w w' : World) : Prop where
  out : ∀ g, (∀ q, v.ownBlock = some q → g ≠ q) → g < w.heap.size → w'.heap[g]? = w.heap[g]?
theorem app_chs {ops : Array Oper} {rest : List Oper} {o : Oper} {a : Act} {Q : Exit → Act → World → Prop} (w : World) (hgd : o.guard = none) (s x : Operand)
    (ho : o.op = .call { callee := .builtin .append, args := #[s, x], argTypes := #[36, 36] })
    (base : Nat) (v : Value) (ss : List Cs) (hs : a.eval s = v) (hown : w.ownsRow base 86 5 v ss.length (flatC ss)) (nb : Nat) (y : Cs) (hx : a.eval x = .slice (some ⟨nb, 0, none⟩) 1 1) (hc : ∀ j u, y.cells[j]? = some u → w.cell? ⟨nb, j, none⟩ = some u) (hl : ss.length ≤ 1000000) (hbase : base ≤ w.heap.size)
    (h : ∀ av n c w', w'.ownsRow base 86 5 (.slice av n c) (ss.length + 1) (flatC (ss ++ [y])) → Below base w w' → KpB v w w' → wpList Tryz.prog ops Q rest (a.put o.dst (.slice av n c)) w') : wpList Tryz.prog ops Q (o :: rest) a w := by
  obtain ⟨i0, hi, hz0, hz1, hz2⟩ := info_parts Tryz.info86
  refine wpList_append_own w hgd s x 36 ho base 86 i0 (.agg #[.int .i64 0, .bool false, .int .i64 0, .slice none 0 0, .slice none 0 0]) 5 72 Tryz.underlying36 hi hz0 hz1 hz2 rfl (by decide) _ ss.length _ hs hown ⟨nb, 0, none⟩ 1 1 y.cells hx rfl (fun j u hj => by rw [addr_add, Nat.zero_add]; exact hc j u hj) (fun u hu => flatC_one [y] u (by simpa [flatC] using hu)) (by unfold maxLen; omega) (by omega) hbase ?_
  intro v' w' hown' hgrow _
  have e2 : flatC (ss ++ [y]) = flatC ss ++ y.cells := by rw [flatC_app]; simp [flatC]
  rw [← e2] at hown'
  obtain ⟨av, n, c, rfl⟩ : ∃ a n c, v' = .slice a n c := by
    rcases hown'.2 with ⟨rfl, _⟩ | ⟨g, cap, cur, rfl, _⟩
    · exact ⟨_, _, _, rfl⟩
    · exact ⟨_, _, _, rfl⟩
  exact h av n c w' hown' ((Below.refl _ _).grown hgrow hbase (fun j hj => (hown.lt j hj).1)) ⟨fun g hg hlt => hgrow.block g hlt (fun e => hg g e.symm rfl)⟩
theorem app_ints {ops : Array Oper} {rest : List Oper} {o : Oper} {a : Act} {Q : Exit → Act → World → Prop} (w : World) (hgd : o.guard = none) (s x : Operand)
    (ho : o.op = .call { callee := .builtin .append, args := #[s, x], argTypes := #[66, 66] })
    (base : Nat) (v : Value) (xs : List Int) (hs : a.eval s = v) (hown : w.ownsRow base 2 1 v xs.length (xs.map (Value.int .i64))) (nb : Nat) (y : Int) (hx : a.eval x = .slice (some ⟨nb, 0, none⟩) 1 1) (hc : w.cell? ⟨nb, 0, none⟩ = some (.int .i64 y)) (hl : xs.length ≤ 1000000) (hbase : base ≤ w.heap.size)
    (h : ∀ av n c w', w'.ownsRow base 2 1 (.slice av n c) (xs.length + 1) ((xs ++ [y]).map (Value.int .i64)) → Below base w w' → wpList Tryz.prog ops Q rest (a.put o.dst (.slice av n c)) w') : wpList Tryz.prog ops Q (o :: rest) a w := by
  obtain ⟨i0, hi, hz0, hz1, hz2⟩ := info_parts Tryz.info2
  refine wpList_append_own w hgd s x 66 ho base 2 i0 (.int .i64 0) 1 8 Tryz.underlying66 hi hz0 hz1 hz2 rfl (by decide) _ xs.length _ hs hown ⟨nb, 0, none⟩ 1 1 [.int .i64 y] hx rfl (fun j u hj => by
    cases j with
    | zero => cases hj; rw [addr_add]; exact hc
    | succ j => simp at hj) (fun u hu => by rw [List.mem_singleton] at hu; rw [hu]; rfl) (by unfold maxLen; omega) (by omega) hbase ?_
  intro v' w' hown' hgrow _
  have e2 : (xs ++ [y]).map (Value.int .i64) = xs.map (Value.int .i64) ++ [.int .i64 y] := by simp
  rw [← e2] at hown'
  obtain ⟨av, n, c, rfl⟩ : ∃ a n c, v' = .slice a n c := by
    rcases hown'.2 with ⟨rfl, _⟩ | ⟨g, cap, cur, rfl, _⟩
    · exact ⟨_, _, _, rfl⟩
    · exact ⟨_, _, _, rfl⟩
  exact h av n c w' hown' ((Below.refl _ _).grown hgrow hbase (fun j hj => (hown.lt j hj).1))
theorem blk_snoc {vs : List (Int × Int)} {j : Nat} {x y : Int} (h : vs[j]? = some (x, y)) : (vs.take (j + 1)).any isBlk = ((vs.take j).any isBlk || (x == 5)) := by
  obtain ⟨hj, e⟩ := List.getElem?_eq_some_iff.1 h
  rw [List.take_succ_eq_append_getElem hj, List.any_append, e]
  simp [isBlk]
theorem blk_hit {vs : List (Int × Int)} {j : Nat} {y : Int} (h : vs[j]? = some (5, y)) : vs.any isBlk = true := List.any_eq_true.2 ⟨_, List.mem_of_getElem? h, rfl⟩
set_option maxHeartbeats 4000000 in
theorem wrong_any {w : World} (c : Int) {sa ba : Option Addr} {sn sc bn bc : Nat} {vs : List (Int × Int)} (hv : IsV w sa sn sc vs) (hb : bn ≤ maxLen) :
    Calls Tryz.prog 46 #[.agg #[.int .i64 c, .slice sa sn sc, .slice ba bn bc]] w fun e w' => e = .returned (.int .i64 (fitsE c vs bn)) ∧ Below w.heap.size w w' := by
  have E1 := new1 w (objB c (.slice sa sn sc) (.slice ba bn bc))
  have B1 : Below w.heap.size w (w.alloc (objB c (.slice sa sn sc) (.slice ba bn bc))) := box_below
  have hv1 := hv.below B1
  have hsz : Hid (vs.length = sn) := hv.size
  have hmx : sn ≤ 9223372036854775807 := by have h1 := hv.room; have h2 := hv.most; unfold maxLen at h2; omega
  clear hv
  unfold objB at E1 B1 hv1
  go_enter Tryz.func46, Tryz.ntmps46
  go_wp2_with fail
  generalize w.alloc (.cells #[.int .i64 c, .slice sa sn sc, .slice ba bn bc] 35) = w1 at *
  obtain ⟨b1, hb1⟩ : ∃ q, Hid (q = w.heap.size) := ⟨_, rfl⟩
  rw [← hb1.out] at E1 ⊢
  clear hb1
  replace E1 : w1.heap[b1]? = some (objB c (.slice sa sn sc) (.slice ba bn bc)) := E1
  obtain ⟨z0, z1, z2, zf⟩ := obj_cells E1
  go_loopw [3] (fun iv wr => ∃ j : Nat, j ≤ sn ∧ iv = .int .i64 (j : Int) ∧ wr = w1 ∧ Hid ((vs.take j).any isBlk = false)) (fun iv _ => sn - (intOf iv).toNat)
  case atStart => exact ⟨0, by omega, rfl, rfl, rfl⟩
  case round =>
    obtain ⟨j, hj, rfl, rfl, hno⟩ := hrel
    by_cases hlt : j < sn
    · obtain ⟨sb, off, x, y, rfl, hsb, c0, c1, hx, hw⟩ := hv1.at_ j hlt
      have hji : (j : Int) < (sn : Int) := by omega
      by_cases h5 : x = 5
      · subst h5
        have hf : Hid (fitsE c vs bn = 32) := by show _ = _; unfold fitsE; rw [if_pos (blk_hit hx.out)]
        go_wp2
        go_ret
        exact ⟨by rw [hf.out]; rfl, B1⟩
      · have h5' : (x == 5) = false := by simpa using h5
        have hn1 : Hid ((vs.take (j + 1)).any isBlk = false) := by show _ = _; rw [blk_snoc hx.out, hno.out, h5']; rfl
        go_wp2
        go_roundw
        case rel => exact ⟨j + 1, by omega, by go_num, by trivial, hn1⟩
        case measure => simp [intOf]; omega
    · have hji : ¬ (j : Int) < (sn : Int) := by omega
      have hn1 : vs.any isBlk = false := by have := hno.out; rw [List.take_of_length_le (by have := hsz.out; omega)] at this; exact this
      have hf : Hid (fitsE c vs bn = if okWO c vs bn = true then 0 else 1) := by show _ = _; unfold fitsE; rw [hn1]; rfl
      clear hn1 hno
      go_wp2_with fail
      refine (vrrightObj_any c (bc := bc) (ba := ba) hv1 hb).mono ?_
      rintro e w2 ⟨rfl, B2⟩
      have BB := below_size B1 B1.size B2
      cases hk : okWO c vs bn with
      | true =>
        rw [hk] at hf
        go_wp2
        go_ret
        exact ⟨by rw [hf.out]; rfl, BB⟩
      | false =>
        rw [hk] at hf
        go_wp2
        go_ret
        exact ⟨by rw [hf.out]; rfl, BB⟩
end Go.Proofs.YteomolihandfnaaGreat
