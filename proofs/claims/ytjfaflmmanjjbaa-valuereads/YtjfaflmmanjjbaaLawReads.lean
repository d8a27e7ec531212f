/- Changes that were read so far, in the document's reader. -/
import Derived.Test.YtjfaflmmanjjbaaSObj2
import Derived.Test.YtjfaflmmanjjbaaGetR
import Derived.Test.YtjfaflmmanjjbaaPutR
import Derived.Test.YtjfaflmmanjjbaaCanon
import Derived.Test.YtjfaflmmanjjbaaRRightR
import Derived.Test.YtjfaflmmanjjbaaKnow
import Derived.Test.YtjfaflmmanjjbaaLent
namespace Go.Proofs.Ytjfaflmmanjjbaa
open Go.RowKit
set_option maxRecDepth 100000
theorem bR1_some {s : Option (List Int)} {o : Int} {t : List Int} (h : bR 1 s = (o, some t)) : oR s = (o, some t) ∧ o ≤ 1 ∧ o ∈ s.getD [] := by
  unfold bR at h
  split at h
  · simp at h
  · next x t' hx =>
    split at h
    · simp at h
    · next h4 =>
      simp at h
      obtain ⟨rfl, rfl⟩ := h
      exact ⟨by unfold oR; rw [hx], by omega, by rw [hx]; simp⟩
theorem bR1_none {s : Option (List Int)} {o : Int} (h : bR 1 s = (o, none)) : o = 0 ∧ (oR s = (0, none) ∨ ∃ x t, oR s = (x, some t) ∧ 1 < x) := by
  unfold bR at h
  split at h
  · next hx => simp at h; exact ⟨h.symm, .inl (by unfold oR; rw [hx])⟩
  · next x t' hx =>
    split at h
    · next h4 => simp at h; exact ⟨h.symm, .inr ⟨x, t', by unfold oR; rw [hx], h4⟩⟩
    · simp at h
theorem objR_none : (objR none).2.2.2 = none := by
  have e1 : ∀ m, nR m none = (0, none) := fun m => by simp [nR, uR, rd]
  have e2 : tR none = ([], none) := rfl
  unfold objR
  rw [e1]
  dsimp only
  rw [e1]
  dsimp only
  rw [show slotsR 0 none = ([], none) from rfl]
  dsimp only
  rw [e2]
theorem fin_none : fin none = none := by
  unfold fin
  split
  · exact objR_none
  · rfl
/-- These changes are none that can be. -/
def CBad (N : Nat) (s0 : Option (List Int)) : Prop := (chsR N s0).2 = none ∨ ∃ x ∈ (chsR N s0).1, okCh x.gone x.cls x.vs x.bs = false
def CInv (N : Nat) (s0 : Option (List Int)) (k : Nat) (vs : List Ch) (s : Option (List Int)) : Prop :=
  (s ≠ none ∧ chsR N s0 = (vs ++ (chsR (N - k) s).1, (chsR (N - k) s).2)) ∨ (s = none ∧ CBad N s0)
theorem CInv.good {N : Nat} {s0 : Option (List Int)} {k : Nat} {vs : List Ch} {t : List Int} (h : CInv N s0 k vs (some t)) : chsR N s0 = (vs ++ (chsR (N - k) (some t)).1, (chsR (N - k) (some t)).2) := by
  rcases h with ⟨_, h⟩ | ⟨h, _⟩
  · exact h
  · cases h
theorem CInv.bad {N : Nat} {s0 : Option (List Int)} {k : Nat} {vs : List Ch} (h : CInv N s0 k vs none) : CBad N s0 := by
  rcases h with ⟨h, _⟩ | ⟨_, h⟩
  · exact absurd rfl h
  · exact h
theorem CInv.next {N : Nat} {s0 : Option (List Int)} {k : Nat} {vs : List Ch} {t u : List Int} {x : Ch} (h : CInv N s0 k vs (some t)) (hk : k < N) (hc : chR (some t) = (x, some u)) : CInv N s0 (k + 1) (vs ++ [x]) (some u) := by
  refine .inl ⟨by simp, ?_⟩
  have e := h.good
  obtain ⟨j, hj⟩ : ∃ j, N - k = j + 1 := ⟨N - k - 1, by omega⟩
  rw [hj, chsR_go hc] at e
  rw [e, show N - (k + 1) = j by omega]
  simp
theorem CInv.stop {N : Nat} {s0 : Option (List Int)} {k : Nat} {vs us : List Ch} {t : List Int} (h : CInv N s0 k vs (some t)) (hk : k < N) (hc : (chR (some t)).2 = none ∨ okCh (chR (some t)).1.gone (chR (some t)).1.cls (chR (some t)).1.vs (chR (some t)).1.bs = false) : CInv N s0 (k + 1) us none := by
  refine .inr ⟨rfl, ?_⟩
  have e := h.good
  obtain ⟨j, hj⟩ : ∃ j, N - k = j + 1 := ⟨N - k - 1, by omega⟩
  rw [hj] at e
  unfold CBad
  cases hr : (chR (some t)).2 with
  | none =>
    left
    rw [e, chsR_stop (p := (chR (some t)).1) (by rw [← hr])]
  | some u =>
    right
    rw [hr] at hc
    have hc' := hc.resolve_left (by simp)
    rw [e, chsR_go (p := (chR (some t)).1) (t := u) (by rw [← hr])]
    exact ⟨(chR (some t)).1, by simp, hc'⟩
/-- A change that is gone. -/
theorem CInv.gone {N : Nat} {s0 : Option (List Int)} {k m : Nat} {vs : List Ch} {t u : List Int} {s1 : Option (List Int)} (h : CInv N s0 k vs (some t)) (hk : k < N) (h1 : nR 4096 (some t) = (m, s1)) (h2 : bR 1 s1 = (1, some u)) : CInv N s0 (k + 1) (vs ++ [⟨(m : Int), true, 0, [], []⟩]) (some u) := by
  refine h.next hk ?_
  unfold chR
  rw [h1]
  dsimp only
  rw [(bR1_some h2).1]
  rfl
/-- One with an object. -/
theorem CInv.obj {N : Nat} {s0 : Option (List Int)} {k m : Nat} {vs : List Ch} {t : List Int} {s1 s2 : Option (List Int)} {o cc : Int} {us : List (Int × Int)} {ds : List Int} (h : CInv N s0 k vs (some t)) (hk : k < N) (h1 : nR 4096 (some t) = (m, s1)) (h2 : bR 1 s1 = (o, s2)) (ho : o ≠ 1) (hb : ∀ x ∈ s1.getD [], 0 ≤ x) (hf : fin s2 ≠ none → (objR s2).1 = cc ∧ (objR s2).2.1 = us ∧ (objR s2).2.2.1 = ds) : CInv N s0 (k + 1) (vs ++ [⟨(m : Int), false, cc, us, ds⟩]) (fin s2) := by
  cases s2 with
  | none =>
    rw [fin_none]
    refine h.stop hk (.inl ?_)
    unfold chR
    rw [h1]
    dsimp only
    rcases (bR1_none h2).2 with e | ⟨x, u, e, hx⟩
    · rw [e]
      exact objR_none
    · rw [e]
      dsimp only
      rw [if_neg (by omega), if_neg (by omega)]
  | some u =>
    obtain ⟨e, ho1, hm⟩ := bR1_some h2
    have h0 : o = 0 := by have := hb o hm; omega
    subst h0
    have hc : chR (some t) = (⟨(m : Int), false, (objR (some u)).1, (objR (some u)).2.1, (objR (some u)).2.2.1⟩, (objR (some u)).2.2.2) := by
      unfold chR
      rw [h1]
      dsimp only
      rw [e]
      rfl
    cases hfu : fin (some u) with
    | none =>
      refine h.stop hk ?_
      rw [hc]
      dsimp only
      unfold fin at hfu
      split at hfu
      · exact .inl hfu
      · next hn => exact .inr (by show okO _ _ _ = false; simpa using hn)
    | some r =>
      obtain ⟨rfl, rfl, rfl⟩ := hf (by rw [hfu]; simp)
      refine h.next hk ?_
      rw [hc]
      unfold fin at hfu
      split at hfu
      · rw [hfu]
      · cases hfu
theorem okR_bad {N : Nat} {s0 : Option (List Int)} {c : Int} (h : CBad N s0) : (decide ((chsR N s0).2 = some []) && okR c (chsR N s0).1) = false := by
  rcases h with h | ⟨x, hx, h⟩
  · rw [h]
    rfl
  · cases hr : okR c (chsR N s0).1 with
    | false => simp
    | true =>
      obtain ⟨_, _, hl⟩ := okR_parts hr
      have := (okL_all hl (by omega) x hx).2.2
      rw [h] at this
      cases this
end Go.Proofs.Ytjfaflmmanjjbaa
namespace Go.Proofs.Ytjfaflmmanjjbaa
open Go.RowKit
set_option maxRecDepth 100000
theorem oR_no : oR none = (0, none) := rfl
theorem oR_none0 {s : Option (List Int)} {o : Int} (h : oR s = (o, none)) : o = 0 := by
  unfold oR at h
  split at h
  · simp at h; omega
  · simp at h
theorem chR_canon {xs ys : List Int} {x : Ch} (h : chR (some xs) = (x, some ys)) (hb : ∀ x ∈ xs, 0 ≤ x ∧ x < 256) : xs = chB x.oop x.gone x.cls x.vs x.bs ++ ys := by
  obtain ⟨m, s1, h1⟩ : ∃ m s1, nR 4096 (some xs) = (m, s1) := ⟨_, _, rfl⟩
  obtain ⟨o, s2, h2⟩ : ∃ o s2, oR s1 = (o, s2) := ⟨_, _, rfl⟩
  unfold chR at h
  rw [h1] at h
  dsimp only at h
  rw [h2] at h
  dsimp only at h
  cases s2 with
  | none =>
    rw [oR_none0 h2, if_pos rfl] at h
    have := congrArg Prod.snd h
    dsimp only at this
    rw [objR_none] at this
    cases this
  | some u =>
    cases s1 with
    | none => rw [oR_no] at h2; cases h2
    | some t =>
      have e1 := nR_canon h1 hb
      have e2 := oR_canon h2
      have hbu : ∀ x ∈ u, 0 ≤ x ∧ x < 256 := fun x hx => hb x (by rw [e1, e2]; simp [hx])
      by_cases h0 : o = 0
      · rw [if_pos h0] at h
        obtain ⟨c, vs, bs, st, hO⟩ : ∃ c vs bs st, objR (some u) = (c, vs, bs, st) := ⟨_, _, _, _, rfl⟩
        rw [hO] at h
        simp only [Prod.mk.injEq] at h
        obtain ⟨rfl, rfl⟩ := h
        have e3 := objY_objR hO hbu
        dsimp only
        rw [e1, e2, e3, h0]
        unfold chB
        simp
      · rw [if_neg h0] at h
        by_cases h1' : o = 1
        · rw [if_pos h1'] at h
          simp only [Prod.mk.injEq, Option.some.injEq] at h
          obtain ⟨rfl, rfl⟩ := h
          dsimp only
          rw [e1, e2, h1']
          unfold chB
          simp
        · rw [if_neg h1'] at h
          simp at h
theorem chsR_canon : ∀ (n : Nat) {xs ys : List Int} {vs : List Ch}, chsR n (some xs) = (vs, some ys) → (∀ x ∈ xs, 0 ≤ x ∧ x < 256) → vs.length = n ∧ xs = chsB vs ++ ys
  | 0, xs, ys, vs, h, _ => by
    simp only [chsR, Prod.mk.injEq, Option.some.injEq] at h
    obtain ⟨rfl, rfl⟩ := h
    exact ⟨rfl, rfl⟩
  | n + 1, xs, ys, vs, h, hb => by
    obtain ⟨p, t', hs⟩ : ∃ p t', chR (some xs) = (p, t') := ⟨_, _, rfl⟩
    cases t' with
    | none =>
      rw [chsR_stop hs] at h
      simp at h
    | some t =>
      have hx := chR_canon hs hb
      rw [chsR_go hs] at h
      obtain ⟨us, s2, h2⟩ : ∃ us s2, chsR n (some t) = (us, s2) := ⟨_, _, rfl⟩
      rw [h2] at h
      simp only [Prod.mk.injEq] at h
      obtain ⟨rfl, rfl⟩ := h
      have ih := chsR_canon n h2 (fun x hx' => hb x (by rw [hx]; simp [hx']))
      refine ⟨by rw [List.length_cons, ih.1], ?_⟩
      show xs = (chB p.oop p.gone p.cls p.vs p.bs ++ chsB us) ++ ys
      rw [List.append_assoc, ← ih.2, ← hx]
theorem chsR_none : ∀ (n : Nat) {vs : List Ch} {ys : List Int}, chsR n none = (vs, some ys) → False
  | 0, vs, ys, h => by simp [chsR] at h
  | n + 1, vs, ys, h => by
    have e : (chR none).2 = none := by
      have e1 : nR 4096 none = (0, none) := by simp [nR, uR, rd]
      unfold chR
      rw [e1]
      dsimp only
      rw [oR_no]
      exact objR_none
    simp [chsR, e] at h
theorem recY_recR {xs ys : List Int} {c : Int} {vs : List Ch} (h : recR (some xs) = (c, vs, some ys)) (hb : ∀ x ∈ xs, 0 ≤ x ∧ x < 256) : xs = recY c vs ++ ys := by
  obtain ⟨m, s1, h1⟩ : ∃ m s1, nR 1099511627776 (some xs) = (m, s1) := ⟨_, _, rfl⟩
  obtain ⟨N, s2, h2⟩ : ∃ n s2, nR 4096 s1 = (n, s2) := ⟨_, _, rfl⟩
  unfold recR at h
  rw [h1] at h
  dsimp only at h
  rw [h2] at h
  dsimp only at h
  simp only [Prod.mk.injEq] at h
  obtain ⟨rfl, hv, hy⟩ := h
  have hC : chsR N s2 = (vs, some ys) := Prod.ext hv hy
  cases s2 with
  | none => exact (chsR_none N hC).elim
  | some t2 =>
    obtain ⟨t1, rfl⟩ := nR_none h2
    have e1 := nR_canon h1 hb
    have hb1 : ∀ x ∈ t1, 0 ≤ x ∧ x < 256 := fun x hx => hb x (by rw [e1]; simp [hx])
    have e2 := nR_canon h2 hb1
    have hb2 : ∀ x ∈ t2, 0 ≤ x ∧ x < 256 := fun x hx => hb1 x (by rw [e2]; simp [hx])
    obtain ⟨hl, e3⟩ := chsR_canon N hC hb2
    subst hl
    rw [e1, e2, e3]
    unfold recY
    simp
end Go.Proofs.Ytjfaflmmanjjbaa
namespace Go.Proofs.Ytjfaflmmanjjbaa
open Go.RowKit
set_option maxRecDepth 100000
/-- append of one change. -/
theorem app_chK {ops : Array Oper} {rest : List Oper} {o : Oper} {a : Act} {Q : Exit → Act → World → Prop} (w : World) (hgd : o.guard = none) (s x : Operand)
    (ho : o.op = .call { callee := .builtin .append, args := #[s, x], argTypes := #[47, 47] })
    (base : Nat) (v : Value) (xs : List Ch) (hs : a.eval s = v) (hown : OwnC w base 76 v xs)
    (b : Nat) (y : Cs) (hx : a.eval x = .slice (some ⟨b, 0, none⟩) 1 1) (hc : ∀ j v, y.cells[j]? = some v → w.cell? ⟨b, j, none⟩ = some v) (hy : El w y) (hyo : -9223372036854775808 ≤ y.x.oop ∧ y.x.oop ≤ 9223372036854775807)
    (h47 : xs.length ≤ 1954687338265) (hbase : base ≤ w.heap.size)
    (h : ∀ a' n' c' w', OwnC w' base 76 (.slice a' n' c') (xs ++ [y.x]) → Below base w w' → (∀ (g : Nat) (cur : Array Value) (t : Nat), t ≠ 76 → w.heap[g]? = some (.cells cur t (0, 0)) → w'.heap[g]? = some (.cells cur t (0, 0))) → wpList Try.prog ops Q rest (a.put o.dst (.slice a' n' c')) w') : wpList Try.prog ops Q (o :: rest) a w := by
  obtain ⟨i0, hi, hz0, hz1, hz2⟩ := info_parts Try.info76
  obtain ⟨ss, h1, h2, h3, h4⟩ := hown
  have hl : ss.length = xs.length := by rw [← h2, List.length_map]
  refine wpList_append_own w hgd s x 47 ho base 76 i0 (.agg #[.int .i64 0, .bool false, .int .i64 0, .slice none 0 0, .slice none 0 0]) 5 72 Try.underlying47 hi hz0 hz1 hz2 rfl (by decide) _ ss.length _ hs h1 ⟨b, 0, none⟩ 1 1 (flatC [y]) hx rfl (cell_at rfl hc) (flatC_one _) (by unfold maxLen; omega) (by omega) hbase ?_
  intro v' w' hown' hgrow _
  rw [← flatC_app] at hown'
  have hown2 : w'.ownsRow base 76 5 v' (ss ++ [y]).length (flatC (ss ++ [y])) := by rw [List.length_append]; exact hown'
  obtain ⟨a', n', c', hv⟩ : ∃ a n c, v' = .slice a n c := by
    rcases hown2.2 with ⟨rfl, h0⟩ | ⟨g, cap, cur, rfl, _⟩
    · exact ⟨none, 0, 0, rfl⟩
    · exact ⟨_, _, _, rfl⟩
  subst hv
  have hsame : ∀ s : Cs, El w s → El w' s := fun s hs => hs.same fun g cur e' he hg => hgrow.block g (lt_of_block hg) (fun k => own_ne h1 hg (by rcases he with rfl | rfl <;> omega) k.symm)
  refine h a' n' c' w' ⟨ss ++ [y], hown2, by rw [List.map_append, h2]; rfl, fun s hs => ?_, fun z hz => ?_⟩ ((Below.refl _ _).grown hgrow hbase (fun j hj => (h1.lt j hj).1)) (fun g cur t ht hg => (hgrow.block g (lt_of_block hg) (fun k => own_ne h1 hg ht k.symm)).trans hg)
  · rcases List.mem_append.1 hs with hs | hs
    · exact hsame s (h3 s hs)
    · rw [List.mem_singleton] at hs
      subst hs
      exact hsame _ hy
  · rcases List.mem_append.1 hz with hz | hz
    · exact h4 z hz
    · rw [List.mem_singleton] at hz
      subst hz
      exact hyo
/-- A change's block. -/
def chK (o : Int) (g : Bool) (c : Int) (v1 v2 : Value) : Obj := .cells #[.int .i64 o, .bool g, .int .i64 c, v1, v2] 76 (0, 0)
theorem chK_cells {w : World} {b : Nat} {o c : Int} {g : Bool} {v1 v2 : Value} (h : w.heap[b]? = some (chK o g c v1 v2)) : w.cell? ⟨b, 0, none⟩ = some (.int .i64 o) ∧ w.cell? ⟨b, 1, none⟩ = some (.bool g) ∧ w.cell? ⟨b, 2, none⟩ = some (.int .i64 c) ∧ w.cell? ⟨b, 3, none⟩ = some v1 ∧ w.cell? ⟨b, 4, none⟩ = some v2 ∧ ∀ i, w.frozen? ⟨b, i, none⟩ = false := by
  unfold chK at h
  refine ⟨?_, ?_, ?_, ?_, ?_, fun i => frozen_of_row w b i _ _ h⟩ <;> (rw [cell_of_row w b _ _ _ _ h]; rfl)
theorem chK_set1 {w : World} {b : Nat} {o c : Int} {g : Bool} {v1 v2 : Value} (h : w.heap[b]? = some (chK o g c v1 v2)) (g' : Bool) : (w.setCell ⟨b, 1, none⟩ (.bool g')).heap[b]? = some (chK o g' c v1 v2) := by
  unfold chK at h ⊢
  rw [heap_setCell_same w b 1 _ _ _ h]
  simp
theorem stK_blk {w : World} {b : Nat} {o c0 : Int} {g : Bool} {u1 u2 : Value} (h : w.heap[b]? = some (chK o g c0 u1 u2)) (c : Int) (v1 v2 : Value) : (stC w b c v1 v2).heap[b]? = some (chK o g c v1 v2) := by
  have h1 : (w.setCell ⟨b, 2, none⟩ (.int .i64 c)).heap[b]? = some (chK o g c u1 u2) := by
    unfold chK at h ⊢
    rw [heap_setCell_same w b 2 _ _ _ h]
    simp
  have h2 : ((w.setCell ⟨b, 2, none⟩ (.int .i64 c)).setCell ⟨b, 3, none⟩ v1).heap[b]? = some (chK o g c v1 u2) := by
    unfold chK at h1 ⊢
    rw [heap_setCell_same _ b 3 _ _ _ h1]
    simp
  unfold stC chK at *
  rw [heap_setCell_same _ b 4 _ _ _ h2]
  simp
def RGetRP (w : World) (xs : List Int) (e : Ending) (w' : World) : Prop := Below w.heap.size w w' ∧ ((okGR xs = true ∧ ∃ a n c, e = .returned (.tuple #[.agg #[.int .i64 (recR (some xs)).1, .slice a n c], .int .i64 0]) ∧ OwnC w' w.heap.size 76 (.slice a n c) (recR (some xs)).2.1) ∨ (okGR xs = false ∧ e = .returned (.tuple #[.agg #[.int .i64 0, .slice none 0 0], .int .i64 11])))
theorem Try.results37 : Try.f37.results = #[.cell 2 49, .tmp 3] := by kernel_rfl
set_option maxHeartbeats 8000000 in
theorem rgetRecord_any {w : World} {ja : Option Addr} {jn jc : Nat} {xs : List Int} (I : IsB w ja jn jc xs) (hl : jn ≤ 140737488351232) : Calls Try.prog 37 #[.slice ja jn jc] w fun e w' => RGetRP w xs e w' := by
  have hsz := I.size
  unfold RGetRP okGR recR
  have hc := nR_le (most := 1099511627776) (s := some xs)
  obtain ⟨c, s1, h1⟩ : ∃ m s1, Hid (nR 1099511627776 (some xs) = (m, s1)) := ⟨_, _, rfl⟩
  rw [h1.out] at hc ⊢
  dsimp only at hc ⊢
  have hN := nR_le (most := 4096) (s := s1)
  obtain ⟨N, s2, h2⟩ : ∃ n s2, Hid (nR 4096 s1 = (n, s2)) := ⟨_, _, rfl⟩
  rw [h2.out] at hN ⊢
  dsimp only at hN ⊢
  have hcw : IntKind.i64.wrap (c : Int) = (c : Int) := by rw [IntKind.wrap_i64]; omega
  generalize hPost : (fun (e : Ending) (w' : World) => Below w.heap.size w w' ∧ (((decide ((chsR N s2).2 = some []) && okR (c : Int) (chsR N s2).1) = true ∧ ∃ a n q, e = .returned (.tuple #[.agg #[.int .i64 (c : Int), .slice a n q], .int .i64 0]) ∧ OwnC w' w.heap.size 76 (.slice a n q) (chsR N s2).1) ∨ ((decide ((chsR N s2).2 = some []) && okR (c : Int) (chsR N s2).1) = false ∧ e = .returned (.tuple #[.agg #[.int .i64 0, .slice none 0 0], .int .i64 11])))) = Post
  have E1 := old1 (new1 w (recB 0 (.slice none 0 0) 49)) (scO (.slice none 0 0) false)
  have E2 := new2 w (recB 0 (.slice none 0 0) 49) (scO (.slice none 0 0) false)
  have B2 : Below w.heap.size w ((w.alloc (recB 0 (.slice none 0 0) 49)).alloc (scO (.slice none 0 0) false)) := below_size box_below box_below.size box_below
  have sz2 : w.heap.size + 1 + 1 = ((w.alloc (recB 0 (.slice none 0 0) 49)).alloc (scO (.slice none 0 0) false)).heap.size := by rw [size1, size1]
  have I2 := I.below B2
  unfold recB scO at E1 E2 B2 sz2 I2
  go_enter Try.func37, Try.ntmps37
  go_wp2_with (at_builtin; refine app_own _ rfl _ _ rfl (w.heap.size + 1 + 1) _ [] rfl (ownB_nil _ _) _ _ _ _ rfl I2 (by simp; omega) (by simp) ?_)
  intro a3 n3 c3 w3 O3 G3
  generalize (w.alloc (.cells #[.int .i64 0, .slice none 0 0] 49)).alloc (.cells #[.slice none 0 0, .bool false] 74) = w2 at *
  replace E1 : w2.heap[w.heap.size]? = some (recB 0 (.slice none 0 0) 49) := E1
  replace E2 : w2.heap[w.heap.size + 1]? = some (scO (.slice none 0 0) false) := E2
  have E3 := G3.keep _ _ 49 (by decide) E1
  have F3 := G3.keep _ _ 74 (by decide) E2
  have B3 := B2.trans (G3.below.mono (by omega))
  have hlt3 := O3.lt
  have hr1 : w.heap.size ≤ w.heap.size + 1 := by omega
  have hr2 : w.heap.size ≠ w.heap.size + 1 := by omega
  have hr4 : w.heap.size + 1 < w3.heap.size := lt_of_block F3
  clear G3 E1 E2 I2 B2 sz2
  replace E3 : w3.heap[w.heap.size]? = some (recB 0 (.slice none 0 0) 49) := E3
  replace F3 : w3.heap[w.heap.size + 1]? = some (scO (.slice none 0 0) false) := F3
  obtain ⟨z0, z1, zf⟩ := sc_cells F3
  have E4 := (heap_setCell_other w3 ⟨w.heap.size + 1, 0, none⟩ w.heap.size (.slice a3 n3 c3) hr2).trans E3
  have F4 := sc_set0 F3 (.slice a3 n3 c3)
  have B4 := below_setCell (i := 0) (x := .slice a3 n3 c3) B3 hr1
  have O4 := O3.same (w' := w3.setCell ⟨w.heap.size + 1, 0, none⟩ (.slice a3 n3 c3)) (fun g hg => heap_setCell_other _ _ _ _ (by have := (hlt3 g hg).1; show g ≠ w.heap.size + 1; omega))
  have hr5 : w.heap.size + 1 < (w3.setCell ⟨w.heap.size + 1, 0, none⟩ (.slice a3 n3 c3)).heap.size := by simpa using hr4
  clear E3 F3 B3
  rw [List.nil_append] at O4
  have hn3 : n3 = jn := by have := O4.isB.size; omega
  subst hn3
  have R4 : Sc (w3.setCell ⟨w.heap.size + 1, 0, none⟩ (.slice a3 n3 c3)) (w3.setCell ⟨w.heap.size + 1, 0, none⟩ (.slice a3 n3 c3)) (w.heap.size + 1) (some xs) := ⟨⟨a3, n3, c3, xs, F4, O4.isB, (fun ad e => by
    subst e
    have := (O4.lt ad.block rfl).1
    omega), (fun ys e => Option.some.inj e), by omega⟩, But.refl _ _⟩
  clear O3 O4 F4 hlt3 hr4
  go_wp2_with fail
  clear z0 z1 zf
  generalize w3.setCell ⟨w.heap.size + 1, 0, none⟩ (.slice a3 n3 c3) = w4 at *
  generalize w.heap.size + 1 = sb at *
  refine (sUint R4 1099511627776 1099511627776 rfl).mono ?_
  rintro e w5 ⟨rfl, R5, K5⟩
  rw [h1.out] at R5 ⊢
  dsimp only at R5 ⊢
  have E5 := (K5.block _ (lt_of_block E4) hr2).trans E4
  have B5 := K5.below B4 B4.size hr1
  have hw45 : w4.heap.size ≤ w5.heap.size := K5.size
  have B6 : Below w5.heap.size w5 (w5.alloc (recB (c : Int) (.slice none 0 0) 49)) := box_below
  have F6 := old1 E5 (recB (c : Int) (.slice none 0 0) 49)
  have G6 := new1 w5 (recB (c : Int) (.slice none 0 0) 49)
  have R6 := R5.keep (B6.block sb R5.lt) (But.of B6)
  have B6' := below_size B5 B5.size B6
  unfold recB at F6 G6 R6 B6'
  clear R4 K5 E4 R5 E5 B5 B6
  go_wp2_with fail
  generalize w5.alloc (.cells #[.int .i64 (c : Int), .slice none 0 0] 49) = w6 at *
  generalize w5.heap.size = rr at *
  replace F6 : w6.heap[w.heap.size]? = some (recB 0 (.slice none 0 0) 49) := F6
  replace G6 : w6.heap[rr]? = some (recB (c : Int) (.slice none 0 0) 49) := G6
  have hw4 : w.heap.size ≤ w4.heap.size := B4.size
  have hrs : rr ≠ sb := by omega
  have hr0 : w.heap.size ≠ rr := by omega
  have hrw : w.heap.size ≤ rr := by omega
  clear B4
  refine (sUint R6 4096 4096 rfl).mono ?_
  rintro e w7 ⟨rfl, R7, K7⟩
  rw [h2.out] at R7 ⊢
  dsimp only at R7 ⊢
  have F7 := (K7.block _ (lt_of_block F6) hr2).trans F6
  have G7 := (K7.block _ (lt_of_block G6) hrs).trans G6
  have B7 := K7.below B6' B6'.size hr1
  clear R6 F6 G6 B6' K7
  go_wp2
  go_loopw [7] (fun iv wr => ∃ (k : Nat) (a : Option Addr) (n q : Nat) (vs : List Ch) (s' : Option (List Int)), k ≤ N ∧ iv = .int .u64 (k : Int) ∧ wr.heap[rr]? = some (recB (c : Int) (.slice a n q) 49) ∧ wr.heap[w.heap.size]? = some (recB 0 (.slice none 0 0) 49) ∧ OwnC wr w4.heap.size 76 (.slice a n q) vs ∧ vs.length = k ∧ Sc w4 wr sb s' ∧ Below w.heap.size w wr ∧ CInv N s2 k vs s') (fun iv _ => N - (intOf iv).toNat)
  case atStart =>
    have hI : CInv N s2 0 [] s2 := by
      cases s2 with
      | none =>
        refine .inr ⟨rfl, .inl ?_⟩
        cases N with
        | zero => rfl
        | succ N =>
          have e : (chR none).2 = none := by
            have e1 : nR 4096 none = (0, none) := by simp [nR, uR, rd]
            unfold chR
            rw [e1]
            dsimp only
            rw [show oR none = (0, none) from rfl]
            exact objR_none
          simp [chsR, e]
      | some t => exact .inl ⟨by simp, by simp⟩
    exact ⟨0, none, 0, 0, [], s2, by omega, rfl, G7, F7, ownC_nil _ _ _, rfl, R7, B7, hI⟩
  case round =>
    clear R7 B7 F7 G7
    obtain ⟨k, a, n, q, vs, s', hk, rfl, G, F, O, hvl, R, Bw, hI⟩ := hrel
    have hcell := R.cell1
    by_cases hlt : k < N
    · have hlti : (k : Int) < (N : Int) := by omega
      cases s' with
      | none =>
        have hbad := okR_bad (c := (c : Int)) hI.bad
        obtain ⟨a7, n7, c7, x7, C7, I7, ne7, hs7, hl7⟩ := R.blk
        obtain ⟨d0, d1, df⟩ := sc_cells C7
        obtain ⟨y0, y1⟩ := rec_cells F
        have yf := rec_frozen F
        clear R C7 I7 hI G
        go_wp2
        clear y0 y1 yf
        have E9 := stR_blk F 0 (.slice none 0 0)
        rw [← hPost]
        exact bodyPost_ret (v := .tuple #[.agg #[.int .i64 0, .slice none 0 0], .int .i64 11]) (results_two Try.results37 rfl (load49 E9) rfl) rfl ⟨stR_below Bw (Nat.le_refl _) _ _, .inr ⟨hbad, rfl⟩⟩
      | some t0 =>
        have hkw : IntKind.u64.wrap ((k : Int) + 1) = (k : Int) + 1 := by rw [IntKind.wrap_u64]; omega
        have hm := nR_le (most := 4096) (s := some t0)
        obtain ⟨m, u1, hmt⟩ : ∃ m u1, Hid (nR 4096 (some t0) = (m, u1)) := ⟨_, _, rfl⟩
        rw [hmt.out] at hm
        dsimp only at hm
        obtain ⟨o, u2, ho⟩ : ∃ o u2, Hid (bR 1 u1 = (o, u2)) := ⟨_, _, rfl⟩
        have hmw : IntKind.i64.wrap (m : Int) = (m : Int) := by rw [IntKind.wrap_i64]; omega
        have hbt := R.byte
        obtain ⟨_, _, _, _, rE, _⟩ := R.blk
        unfold scO at rE
        go_wp2_with fail
        refine (sUint R 4096 4096 rfl).mono ?_
        rintro e w8 ⟨rfl, R8, K8⟩
        rw [hmt.out] at R8 ⊢
        dsimp only at R8 ⊢
        have hbu : ∀ x ∈ u1.getD [], 0 ≤ x := by
          intro x hx
          cases u1 with
          | none => simp at hx
          | some t1 => exact (R8.byte x (by simpa using hx)).1
        have O8 := O.but K8 rE hr5 (by decide) (by decide)
        have G8 := (K8.block _ (lt_of_block G) hrs).trans G
        have F8 := (K8.block _ (lt_of_block F) hr2).trans F
        have B8 := K8.below Bw Bw.size hr1
        have hz8 : w4.heap.size ≤ w8.heap.size := R8.but.size
        clear O R K8 rE G F Bw hcell
        have B9 : Below w8.heap.size w8 (w8.alloc (chK (m : Int) false 0 (.slice none 0 0) (.slice none 0 0))) := box_below
        have E9 := new1 w8 (chK (m : Int) false 0 (.slice none 0 0) (.slice none 0 0))
        have G9 := old1 G8 (chK (m : Int) false 0 (.slice none 0 0) (.slice none 0 0))
        have F9 := old1 F8 (chK (m : Int) false 0 (.slice none 0 0) (.slice none 0 0))
        have O9 := O8.below B9
        have R9 := R8.keep (B9.block sb R8.lt) (But.of B9)
        have B9' := below_size B8 B8.size B9
        have hgv : ∀ g, (Value.slice a n q).ownBlock = some g → g ≠ w8.heap.size := fun g hg => Nat.ne_of_lt (O8.lt g hg).2
        have hcs : w8.heap.size ≠ sb := by have := R8.lt; omega
        have hcr : w8.heap.size ≠ rr := by have := lt_of_block G8; omega
        have hc0 : w8.heap.size ≠ w.heap.size := by omega
        clear O8 R8 B8 G8 F8 B9
        unfold chK at E9 G9 F9 O9 R9 B9'
        go_wp2_with fail
        generalize w8.alloc (.cells #[.int .i64 (m : Int), .bool false, .int .i64 0, .slice none 0 0, .slice none 0 0] 76) = w9 at *
        generalize w8.heap.size = cb at *
        replace E9 : w9.heap[cb]? = some (chK (m : Int) false 0 (.slice none 0 0) (.slice none 0 0)) := E9
        have hcw4 : w.heap.size ≤ cb := by omega
        obtain ⟨_, _, _, _, rE, _⟩ := R9.blk
        unfold scO at rE
        refine (sByte R9 1).mono ?_
        rintro e w10 ⟨rfl, R10, K10⟩
        rw [ho.out] at R10 ⊢
        dsimp only at R10 ⊢
        have O10 := O9.but K10 rE hr5 (by decide) (by decide)
        have E10 := (K10.block _ (lt_of_block E9) hcs).trans E9
        have G10 := (K10.block _ (lt_of_block G9) hrs).trans G9
        have F10 := (K10.block _ (lt_of_block F9) hr2).trans F9
        have B10 := K10.below B9' B9'.size hr1
        clear O9 R9 K10 rE E9 G9 F9 B9'
        obtain ⟨v0, v1, v2, v3, v4, vf⟩ := chK_cells E10
        by_cases h1o : o = 1
        · subst h1o
          have hcb4 : w4.heap.size ≤ cb := hz8
          have E11 := chK_set1 E10 true
          have G11 := (heap_setCell_other w10 ⟨cb, 1, none⟩ rr (.bool true) (Ne.symm hcr)).trans G10
          have F11 := (heap_setCell_other w10 ⟨cb, 1, none⟩ w.heap.size (.bool true) (Ne.symm hc0)).trans F10
          have O11 : OwnC (w10.setCell ⟨cb, 1, none⟩ (.bool true)) w4.heap.size 76 (.slice a n q) vs := O10.put E10 hgv (by decide) (by decide)
          have R11 := R10.keep' (w' := w10.setCell ⟨cb, 1, none⟩ (.bool true)) (heap_setCell_other _ _ _ _ (Ne.symm hcs)) (R10.but.then_below (below_setCell (Below.refl _ _) hcb4))
          have B11 : Below w.heap.size w (w10.setCell ⟨cb, 1, none⟩ (.bool true)) := below_setCell B10 hcw4
          have hI2 : CInv N s2 (k + 1) (vs ++ [⟨(m : Int), true, 0, [], []⟩]) u2 := by
            cases u2 with
            | none => have := (bR1_none ho.out).1; cases this
            | some u => exact hI.gone hlt hmt.out ho.out
          obtain ⟨v0', v1'⟩ := rec_cells G10
          clear O10 R10 F10 B10 E10
          have B14 : Below (w10.setCell ⟨cb, 1, none⟩ (.bool true)).heap.size (w10.setCell ⟨cb, 1, none⟩ (.bool true)) ((w10.setCell ⟨cb, 1, none⟩ (.bool true)).alloc (.cells #[.int .i64 (m : Int), .bool true, .int .i64 0, .slice none 0 0, .slice none 0 0] 76)) := box_below
          have I14 := lit_cells (w := (w10.setCell ⟨cb, 1, none⟩ (.bool true))) (y := (⟨⟨(m : Int), true, 0, [], []⟩, none, 0, 0, none, 0, 0⟩ : Cs)) (t := 76)
          rw [show (w10.setCell ⟨cb, 1, none⟩ (.bool true)).heap.size = w10.heap.size by simp] at I14
          have L14 : El (w10.setCell ⟨cb, 1, none⟩ (.bool true)) (⟨⟨(m : Int), true, 0, [], []⟩, none, 0, 0, none, 0, 0⟩ : Cs) := ⟨by dsimp only; omega, ⟨_, ownV_nil _ 0⟩, ⟨_, ownB_nil _ 0⟩⟩
          have L14' := L14.below B14
          have O14 := OwnC.below (w := (w10.setCell ⟨cb, 1, none⟩ (.bool true))) O11 B14
          have R14 := Sc.keep (w := (w10.setCell ⟨cb, 1, none⟩ (.bool true))) R11 (B14.block sb R11.lt) (But.of B14)
          have G14 := old1 (w := (w10.setCell ⟨cb, 1, none⟩ (.bool true))) G11 (.cells #[.int .i64 (m : Int), .bool true, .int .i64 0, .slice none 0 0, .slice none 0 0] 76)
          have F14 := old1 (w := (w10.setCell ⟨cb, 1, none⟩ (.bool true))) F11 (.cells #[.int .i64 (m : Int), .bool true, .int .i64 0, .slice none 0 0, .slice none 0 0] 76)
          have B14' := below_size (w1 := (w10.setCell ⟨cb, 1, none⟩ (.bool true))) B11 B11.size B14
          have hz14 : w4.heap.size ≤ ((w10.setCell ⟨cb, 1, none⟩ (.bool true)).alloc (.cells #[.int .i64 (m : Int), .bool true, .int .i64 0, .slice none 0 0, .slice none 0 0] 76)).heap.size := R14.but.size
          obtain ⟨x0, x1, x2, x3, x4, xf⟩ := chK_cells (w := (w10.setCell ⟨cb, 1, none⟩ (.bool true))) E11
          obtain ⟨z0, z1⟩ := rec_cells (w := (w10.setCell ⟨cb, 1, none⟩ (.bool true))) G11
          clear O11 L14 B14
          go_wp2_with (at_builtin; refine app_chK _ rfl _ _ rfl w4.heap.size _ vs rfl O14 _ (⟨⟨(m : Int), true, 0, [], []⟩, none, 0, 0, none, 0, 0⟩ : Cs) rfl I14 L14' (by dsimp only; omega) (by omega) hz14 ?_)
          intro a5 n5 c5 w15 O15 B15 K15
          have G15 := K15 _ _ 49 (by decide) G14
          have F15 := K15 _ _ 49 (by decide) F14
          have R15 := R14.keep' (B15.block sb hr5) (R14.but.then_below B15)
          have B16 := B14'.trans (B15.mono hw4)
          clear x0 x1 x2 x3 x4 xf z0 z1 v0 v1 v2 v3 v4 vf v0' v1' O14 R14 G14 F14 B14' I14 L14' B15 K15 hz14 E11 G11 F11 R11 B11
          replace G15 : w15.heap[rr]? = some (recB (c : Int) (.slice a n q) 49) := G15
          replace F15 : w15.heap[w.heap.size]? = some (recB 0 (.slice none 0 0) 49) := F15
          have G17 := rec_set1 G15 (.slice a5 n5 c5)
          have F17 := (heap_setCell_other w15 ⟨rr, 1, none⟩ w.heap.size (.slice a5 n5 c5) hr0).trans F15
          have O17 : OwnC (w15.setCell ⟨rr, 1, none⟩ (.slice a5 n5 c5)) w4.heap.size 76 (.slice a5 n5 c5) (vs ++ [⟨(m : Int), true, 0, [], []⟩]) := O15.set G15 (by decide) (by decide) (by decide)
          have R17 := R15.keep' (w' := w15.setCell ⟨rr, 1, none⟩ (.slice a5 n5 c5)) (heap_setCell_other _ _ _ _ (Ne.symm hrs)) (R15.but.then_below (below_setCell (Below.refl _ _) hw45))
          have B17 : Below w.heap.size w (w15.setCell ⟨rr, 1, none⟩ (.slice a5 n5 c5)) := below_setCell B16 hrw
          obtain ⟨z0, z1⟩ := rec_cells G15
          have zf := rec_frozen G15
          clear O15 R15 F15 B16
          go_wp2
          go_roundw
          case rel => exact ⟨k + 1, a5, n5, c5, vs ++ [⟨(m : Int), true, 0, [], []⟩], u2, by omega, by go_num, G17, F17, O17, by simp [hvl], R17, B17, hI2⟩
          case measure => simp [intOf]; omega
        have hb1 : (o == 1) = false := by simp; omega
        have hcb4 : w4.heap.size ≤ cb := hz8
        have E11 := chK_set1 E10 false
        have G11 := (heap_setCell_other w10 ⟨cb, 1, none⟩ rr (.bool false) (Ne.symm hcr)).trans G10
        have F11 := (heap_setCell_other w10 ⟨cb, 1, none⟩ w.heap.size (.bool false) (Ne.symm hc0)).trans F10
        have O11 : OwnC (w10.setCell ⟨cb, 1, none⟩ (.bool false)) w4.heap.size 76 (.slice a n q) vs := O10.put E10 hgv (by decide) (by decide)
        have R11 := R10.keep' (w' := w10.setCell ⟨cb, 1, none⟩ (.bool false)) (heap_setCell_other _ _ _ _ (Ne.symm hcs)) (R10.but.then_below (below_setCell (Below.refl _ _) hcb4))
        have B11 : Below w.heap.size w (w10.setCell ⟨cb, 1, none⟩ (.bool false)) := below_setCell B10 hcw4
        obtain ⟨v0', v1', v2', v3', v4', vf'⟩ := chK_cells E11
        clear O10 R10 E10 G10 F10 B10
        go_wp2_with fail
        clear v0 v1 v2 v3 v4 vf v0' v1' v2' v3' v4' vf'
        generalize w10.setCell ⟨cb, 1, none⟩ (.bool false) = w11 at *
        obtain ⟨_, _, _, _, rE, _⟩ := R11.blk
        unfold scO at rE
        refine (sObj R11).mono ?_
        rintro e w12 ⟨cc, vv, bv, us, ds, rfl, V12, P12, R12, K12, hcc, hfin⟩
        have hI2 := hI.obj hlt hmt.out ho.out h1o hbu hfin
        obtain ⟨f2, hf2⟩ : ∃ f, Hid (fin u2 = f) := ⟨_, rfl⟩
        rw [hf2.out] at R12 hI2
        obtain ⟨va, vn, vc, rfl⟩ := V12.shape'
        obtain ⟨ba, bn, bc, rfl⟩ := P12.shape'
        have O12 := O11.but K12 rE hr5 (by decide) (by decide)
        have E12 := (K12.block _ (lt_of_block E11) hcs).trans E11
        have G12 := (K12.block _ (lt_of_block G11) hrs).trans G11
        have F12 := (K12.block _ (lt_of_block F11) hr2).trans F11
        have B12 := K12.below B11 B11.size hr1
        have hce : cb < w11.heap.size := lt_of_block E11
        clear O11 R11 K12 rE E11 G11 F11 B11 hfin
        have E13 := stK_blk E12 cc (.slice va vn vc) (.slice ba bn bc)
        have G13 := (stC_other (w := w12) (Ne.symm hcr) cc (.slice va vn vc) (.slice ba bn bc)).trans G12
        have F13 := (stC_other (w := w12) (Ne.symm hc0) cc (.slice va vn vc) (.slice ba bn bc)).trans F12
        have O13 : OwnC (stC w12 cb cc (.slice va vn vc) (.slice ba bn bc)) w4.heap.size 76 (.slice a n q) vs := by
          refine O12.keep (fun g hg => stC_other (hgv g hg) _ _ _) fun g cur e' he hg => stC_other ?_ _ _ _
          rintro rfl
          rw [E12] at hg
          have := cells_ty hg
          omega
        have V13 := V12.same (w' := stC w12 cb cc (.slice va vn vc) (.slice ba bn bc)) (fun g hg => stC_other (by have := (V12.lt g hg).1; omega) _ _ _)
        have P13 := P12.same (w' := stC w12 cb cc (.slice va vn vc) (.slice ba bn bc)) (fun g hg => stC_other (by have := (P12.lt g hg).1; omega) _ _ _)
        have S13 : Below w4.heap.size w12 (stC w12 cb cc (.slice va vn vc) (.slice ba bn bc)) := stC_below (Below.refl _ _) hcb4 _ _ _
        have R13 := R12.keep' (w' := stC w12 cb cc (.slice va vn vc) (.slice ba bn bc)) (stC_other (Ne.symm hcs) _ _ _) (R12.but.then_below S13)
        have B13 : Below w.heap.size w (stC w12 cb cc (.slice va vn vc) (.slice ba bn bc)) := stC_below B12 hcw4 _ _ _
        obtain ⟨v0, v1, v2, v3, v4, vf⟩ := chK_cells E12
        obtain ⟨v0', v1'⟩ := rec_cells G12
        clear O12 R12 F12 B12 E12 V12 P12 S13
        have B14 : Below (((w12.setCell ⟨cb, 2, none⟩ (.int .i64 cc)).setCell ⟨cb, 3, none⟩ (.slice va vn vc)).setCell ⟨cb, 4, none⟩ (.slice ba bn bc)).heap.size (((w12.setCell ⟨cb, 2, none⟩ (.int .i64 cc)).setCell ⟨cb, 3, none⟩ (.slice va vn vc)).setCell ⟨cb, 4, none⟩ (.slice ba bn bc)) ((((w12.setCell ⟨cb, 2, none⟩ (.int .i64 cc)).setCell ⟨cb, 3, none⟩ (.slice va vn vc)).setCell ⟨cb, 4, none⟩ (.slice ba bn bc)).alloc (.cells #[.int .i64 (m : Int), .bool false, .int .i64 cc, .slice va vn vc, .slice ba bn bc] 76)) := box_below
        have I14 := lit_cells (w := (((w12.setCell ⟨cb, 2, none⟩ (.int .i64 cc)).setCell ⟨cb, 3, none⟩ (.slice va vn vc)).setCell ⟨cb, 4, none⟩ (.slice ba bn bc))) (y := (⟨⟨(m : Int), false, cc, us, ds⟩, va, vn, vc, ba, bn, bc⟩ : Cs)) (t := 76)
        rw [show (((w12.setCell ⟨cb, 2, none⟩ (.int .i64 cc)).setCell ⟨cb, 3, none⟩ (.slice va vn vc)).setCell ⟨cb, 4, none⟩ (.slice ba bn bc)).heap.size = w12.heap.size by simp] at I14
        have L14 : El (((w12.setCell ⟨cb, 2, none⟩ (.int .i64 cc)).setCell ⟨cb, 3, none⟩ (.slice va vn vc)).setCell ⟨cb, 4, none⟩ (.slice ba bn bc)) (⟨⟨(m : Int), false, cc, us, ds⟩, va, vn, vc, ba, bn, bc⟩ : Cs) := ⟨by dsimp only; omega, ⟨_, V13⟩, ⟨_, P13⟩⟩
        have L14' := L14.below B14
        have O14 := OwnC.below (w := (((w12.setCell ⟨cb, 2, none⟩ (.int .i64 cc)).setCell ⟨cb, 3, none⟩ (.slice va vn vc)).setCell ⟨cb, 4, none⟩ (.slice ba bn bc))) O13 B14
        have R14 := Sc.keep (w := (((w12.setCell ⟨cb, 2, none⟩ (.int .i64 cc)).setCell ⟨cb, 3, none⟩ (.slice va vn vc)).setCell ⟨cb, 4, none⟩ (.slice ba bn bc))) R13 (B14.block sb R13.lt) (But.of B14)
        have G14 := old1 (w := (((w12.setCell ⟨cb, 2, none⟩ (.int .i64 cc)).setCell ⟨cb, 3, none⟩ (.slice va vn vc)).setCell ⟨cb, 4, none⟩ (.slice ba bn bc))) G13 (.cells #[.int .i64 (m : Int), .bool false, .int .i64 cc, .slice va vn vc, .slice ba bn bc] 76)
        have F14 := old1 (w := (((w12.setCell ⟨cb, 2, none⟩ (.int .i64 cc)).setCell ⟨cb, 3, none⟩ (.slice va vn vc)).setCell ⟨cb, 4, none⟩ (.slice ba bn bc))) F13 (.cells #[.int .i64 (m : Int), .bool false, .int .i64 cc, .slice va vn vc, .slice ba bn bc] 76)
        have B14' := below_size (w1 := (((w12.setCell ⟨cb, 2, none⟩ (.int .i64 cc)).setCell ⟨cb, 3, none⟩ (.slice va vn vc)).setCell ⟨cb, 4, none⟩ (.slice ba bn bc))) B13 B13.size B14
        have hz14 : w4.heap.size ≤ ((((w12.setCell ⟨cb, 2, none⟩ (.int .i64 cc)).setCell ⟨cb, 3, none⟩ (.slice va vn vc)).setCell ⟨cb, 4, none⟩ (.slice ba bn bc)).alloc (.cells #[.int .i64 (m : Int), .bool false, .int .i64 cc, .slice va vn vc, .slice ba bn bc] 76)).heap.size := R14.but.size
        obtain ⟨x0, x1, x2, x3, x4, xf⟩ := chK_cells (w := (((w12.setCell ⟨cb, 2, none⟩ (.int .i64 cc)).setCell ⟨cb, 3, none⟩ (.slice va vn vc)).setCell ⟨cb, 4, none⟩ (.slice ba bn bc))) E13
        obtain ⟨z0, z1⟩ := rec_cells (w := (((w12.setCell ⟨cb, 2, none⟩ (.int .i64 cc)).setCell ⟨cb, 3, none⟩ (.slice va vn vc)).setCell ⟨cb, 4, none⟩ (.slice ba bn bc))) G13
        clear O13 L14 B14
        go_wp2_with (at_builtin; refine app_chK _ rfl _ _ rfl w4.heap.size _ vs rfl O14 _ (⟨⟨(m : Int), false, cc, us, ds⟩, va, vn, vc, ba, bn, bc⟩ : Cs) rfl I14 L14' (by dsimp only; omega) (by omega) hz14 ?_)
        intro a5 n5 c5 w15 O15 B15 K15
        have G15 := K15 _ _ 49 (by decide) G14
        have F15 := K15 _ _ 49 (by decide) F14
        have R15 := R14.keep' (B15.block sb hr5) (R14.but.then_below B15)
        have B16 := B14'.trans (B15.mono hw4)
        clear x0 x1 x2 x3 x4 xf z0 z1 v0 v1 v2 v3 v4 vf v0' v1' O14 R14 G14 F14 B14' I14 L14' B15 K15 hz14 E13 G13 F13 R13 B13
        replace G15 : w15.heap[rr]? = some (recB (c : Int) (.slice a n q) 49) := G15
        replace F15 : w15.heap[w.heap.size]? = some (recB 0 (.slice none 0 0) 49) := F15
        have G17 := rec_set1 G15 (.slice a5 n5 c5)
        have F17 := (heap_setCell_other w15 ⟨rr, 1, none⟩ w.heap.size (.slice a5 n5 c5) hr0).trans F15
        have O17 : OwnC (w15.setCell ⟨rr, 1, none⟩ (.slice a5 n5 c5)) w4.heap.size 76 (.slice a5 n5 c5) (vs ++ [⟨(m : Int), false, cc, us, ds⟩]) := O15.set G15 (by decide) (by decide) (by decide)
        have R17 := R15.keep' (w' := w15.setCell ⟨rr, 1, none⟩ (.slice a5 n5 c5)) (heap_setCell_other _ _ _ _ (Ne.symm hrs)) (R15.but.then_below (below_setCell (Below.refl _ _) hw45))
        have B17 : Below w.heap.size w (w15.setCell ⟨rr, 1, none⟩ (.slice a5 n5 c5)) := below_setCell B16 hrw
        obtain ⟨z0, z1⟩ := rec_cells G15
        have zf := rec_frozen G15
        clear O15 R15 F15 B16
        go_wp2
        go_roundw
        case rel => exact ⟨k + 1, a5, n5, c5, vs ++ [⟨(m : Int), false, cc, us, ds⟩], f2, by omega, by go_num, G17, F17, O17, by simp [hvl], R17, B17, hI2⟩
        case measure => simp [intOf]; omega
    · obtain rfl : k = N := by omega
      have hkk : ¬ ((k : Int) < (k : Int)) := by omega
      cases s' with
      | none =>
        have hbad := okR_bad (c := (c : Int)) hI.bad
        obtain ⟨a7, n7, c7, x7, C7, I7, ne7, hs7, hl7⟩ := R.blk
        obtain ⟨d0, d1, df⟩ := sc_cells C7
        obtain ⟨y0, y1⟩ := rec_cells F
        have yf := rec_frozen F
        clear R C7 I7 hI G
        go_wp2
        clear y0 y1 yf
        have E9 := stR_blk F 0 (.slice none 0 0)
        rw [← hPost]
        exact bodyPost_ret (v := .tuple #[.agg #[.int .i64 0, .slice none 0 0], .int .i64 11]) (results_two Try.results37 rfl (load49 E9) rfl) rfl ⟨stR_below Bw (Nat.le_refl _) _ _, .inr ⟨hbad, rfl⟩⟩
      | some r =>
        have hg := hI.good
        rw [show k - k = 0 by omega] at hg
        have hg' : Hid (chsR k s2 = (vs, some r)) := by show chsR k s2 = _; rw [hg]; simp [chsR]
        obtain ⟨a7, n7, c7, x7, C7, I7, ne7, hs7, hl7⟩ := R.blk
        obtain ⟨d0, d1, df⟩ := sc_cells C7
        have hx7 := I7.size
        have hx := hs7 r rfl
        subst hx
        obtain ⟨y0, y1⟩ := rec_cells F
        have yf := rec_frozen F
        obtain ⟨z0, z1⟩ := rec_cells G
        by_cases hr : x7 = []
        · subst hr
          have hn7 : n7 = 0 := hx7.symm
          subst hn7
          clear hg hI R C7
          go_wp2_with fail
          refine (rrightRecord_any (c : Int) O.isC).mono ?_
          rintro e w8 ⟨rfl, B8⟩
          have F8 := (B8.block _ (lt_of_block F)).trans F
          have G8 := (B8.block _ (lt_of_block G)).trans G
          have O8 := (O.below B8).mono hw4
          have B9 := below_size Bw Bw.size B8
          clear y0 y1 yf z0 z1 d0 d1 df F G O B8 Bw
          cases hok : okR (c : Int) vs with
          | false =>
            obtain ⟨y0, y1⟩ := rec_cells F8
            have yf := rec_frozen F8
            go_wp2
            clear y0 y1 yf
            have E9 := stR_blk F8 0 (.slice none 0 0)
            rw [← hPost]
            exact bodyPost_ret (v := .tuple #[.agg #[.int .i64 0, .slice none 0 0], .int .i64 11]) (results_two Try.results37 rfl (load49 E9) rfl) rfl ⟨stR_below B9 (Nat.le_refl _) _ _, .inr ⟨by rw [hg'.out]; dsimp only; rw [hok]; simp, rfl⟩⟩
          | true =>
            obtain ⟨y0, y1⟩ := rec_cells F8
            have yf := rec_frozen F8
            obtain ⟨z0, z1⟩ := rec_cells G8
            go_wp2
            clear y0 y1 yf z0 z1
            have E9 := stR_blk F8 (c : Int) (.slice a n q)
            rw [← hPost]
            exact bodyPost_ret (v := .tuple #[.agg #[.int .i64 (c : Int), .slice a n q], .int .i64 0]) (results_two Try.results37 rfl (load49 E9) rfl) rfl ⟨stR_below B9 (Nat.le_refl _) _ _, .inl ⟨by rw [hg'.out]; dsimp only; rw [hok]; rfl, _, _, _, rfl, by rw [hg'.out]; exact (O8.set F8 (by decide) (by decide) (by decide)).set (rec_set0 F8 (c : Int)) (by decide) (by decide) (by decide)⟩⟩
        · have hn7 : (0 : Int) < (n7 : Int) := by
            have : x7.length ≠ 0 := fun h => hr (List.eq_nil_of_length_eq_zero h)
            omega
          clear hg hI R C7
          go_wp2
          clear y0 y1 yf z0 z1
          have E9 := stR_blk F 0 (.slice none 0 0)
          rw [← hPost]
          exact bodyPost_ret (v := .tuple #[.agg #[.int .i64 0, .slice none 0 0], .int .i64 11]) (results_two Try.results37 rfl (load49 E9) rfl) rfl ⟨stR_below Bw (Nat.le_refl _) _ _, .inr ⟨by rw [hg'.out]; dsimp only; rw [decide_eq_false (by simpa using hr)]; rfl, rfl⟩⟩
end Go.Proofs.Ytjfaflmmanjjbaa
namespace Go.Proofs.Ytjfaflmmanjjbaa
open Go.RowKit
set_option maxRecDepth 100000
def perr (c : Int) (xs : List Ch) : Int := if okR c xs = true then (if 60000 < (recY c xs).length then 3 else 0) else 1
def pbytes (c : Int) (xs : List Ch) : List Int := if perr c xs = 0 then recY c xs else []
theorem isB_nilR (w : World) : IsB w none 0 0 [] := ⟨rfl, Nat.le_refl _, by decide, fun _ => rfl, by simp, fun h => absurd h (by decide)⟩
theorem PutP.out {w w' : World} {c : Int} {xs : List Ch} {e : Ending} (h : PutP w c xs e w') : ∃ a n cc, e = .returned (.tuple #[.slice a n cc, .int .i64 (perr c xs)]) ∧ IsB w' a n cc (pbytes c xs) ∧ Below w.heap.size w w' := by
  obtain ⟨h, B⟩ := h
  rcases h with ⟨h1, rfl⟩ | ⟨h1, h2, rfl⟩ | ⟨h1, h2, v, rfl, O⟩
  · have e : perr c xs = 1 := by unfold perr; rw [h1]; rfl
    exact ⟨none, 0, 0, by rw [e], by unfold pbytes; rw [e]; exact isB_nilR _, B⟩
  · have e : perr c xs = 3 := by unfold perr; rw [if_pos h1, if_pos h2]
    exact ⟨none, 0, 0, by rw [e], by unfold pbytes; rw [e]; exact isB_nilR _, B⟩
  · have e : perr c xs = 0 := by unfold perr; rw [if_pos h1, if_neg (by omega)]
    obtain ⟨a, n, cc, rfl⟩ := O.shape'
    exact ⟨a, n, cc, by rw [e], by unfold pbytes; rw [if_pos e]; exact O.isB, B⟩
theorem kept_b {a : Option Addr} {g len cap : Nat} {xs : List Int} {w : World} (ho : IsB w (some ⟨g, 0, none⟩) (len + 8) (len + 8) (xs ++ pad)) (h : IsB w a len cap xs) (hl : len ≤ 140737488351232) :
    Calls Try.prog 28 #[.slice (some ⟨g, 0, none⟩) len (len + 8), .slice a len cap] w fun e w' => e = .returned (.bool true) ∧ Below w.heap.size w w' :=
  (kept_true ho h hl).mono fun _ _ ⟨he, q, hw⟩ => ⟨he, by rw [hw]; exact below_drewN (Below.refl _ _) q⟩
/-- What GetRecord answers. -/
def grC (bs : List Int) : Int := if okGR bs = true then (recR (some bs)).1 else 0
def grX (bs : List Int) : List Ch := if okGR bs = true then (recR (some bs)).2.1 else []
def grE (bs : List Int) : Int := if okGR bs = true then 0 else 11
theorem GetRP.out {w w' : World} {bs : List Int} {e : Ending} (h : GetRP w bs e w') : ∃ a n c, e = .returned (.tuple #[.agg #[.int .i64 (grC bs), .slice a n c], .int .i64 (grE bs)]) ∧ OwnC w' w.heap.size 77 (.slice a n c) (grX bs) ∧ Below w.heap.size w w' := by
  obtain ⟨B, h⟩ := h
  unfold grC grX grE
  rcases h with ⟨ok, a, n, c, rfl, O⟩ | ⟨no, rfl⟩
  · rw [if_pos ok, if_pos ok, if_pos ok]
    exact ⟨a, n, c, rfl, O, B⟩
  · rw [if_neg (by simp [no]), if_neg (by simp [no]), if_neg (by simp [no])]
    exact ⟨none, 0, 0, rfl, ownC_nil _ _ _, B⟩
theorem RGetRP.out {w w' : World} {bs : List Int} {e : Ending} (h : RGetRP w bs e w') : ∃ a n c, e = .returned (.tuple #[.agg #[.int .i64 (grC bs), .slice a n c], .int .i64 (grE bs)]) ∧ OwnC w' w.heap.size 76 (.slice a n c) (grX bs) ∧ Below w.heap.size w w' := by
  obtain ⟨B, h⟩ := h
  unfold grC grX grE
  rcases h with ⟨ok, a, n, c, rfl, O⟩ | ⟨no, rfl⟩
  · rw [if_pos ok, if_pos ok, if_pos ok]
    exact ⟨a, n, c, rfl, O, B⟩
  · rw [if_neg (by simp [no]), if_neg (by simp [no]), if_neg (by simp [no])]
    exact ⟨none, 0, 0, rfl, ownC_nil _ _ _, B⟩
theorem gr_good {bs : List Int} (hb : ∀ x ∈ bs, 0 ≤ x ∧ x < 256) (h : grE bs = 0) : okR (grC bs) (grX bs) = true ∧ recY (grC bs) (grX bs) = bs := by
  unfold grE at h
  split at h
  · next ok =>
    unfold grC grX
    rw [if_pos ok, if_pos ok]
    unfold okGR at ok
    rw [Bool.and_eq_true, decide_eq_true_eq] at ok
    obtain ⟨c, vs, st, hR⟩ : ∃ c vs st, recR (some bs) = (c, vs, st) := ⟨_, _, _, rfl⟩
    rw [hR] at ok ⊢
    dsimp only at ok ⊢
    obtain ⟨rfl, hok⟩ := ok
    have := recY_recR hR hb
    rw [List.append_nil] at this
    exact ⟨hok, this.symm⟩
  · cases h
theorem gr_len {bs : List Int} : (grX bs).length ≤ 4096 := by
  unfold grX
  split
  · next ok =>
    unfold okGR at ok
    rw [Bool.and_eq_true] at ok
    exact (okR_parts ok.2).2.1
  · simp
/-- What the operations yield. -/
def readsV (c er : Int) (ja xa ya ta : Option Addr) (g3 jn jc xn xc yn yc tn tc : Nat) (j : Nat) : Value :=
  ([.agg #[.int .i64 c, .slice xa xn xc],
    .agg #[.int .i64 c, .slice ta tn tc],
    .agg #[.int .i64 c, .slice ya yn yc],
    .bool true,
    .bool false,
    .bool false,
    .int .i64 er,
    .int .i64 er,
    .bool false,
    .bool false,
    .bool false,
    .slice (some ⟨g3, 0, none⟩) jn (jn + 8),
    .slice ja jn jc,
    .bool true,
    .bool false,
    .bool false] : List Value).getD j undef
theorem readsV_list {l : List Value} (hh : l.length = 16) : ∃ v0 v1 v2 v3 v4 v5 v6 v7 v8 v9 v10 v11 v12 v13 v14 v15, l = [v0, v1, v2, v3, v4, v5, v6, v7, v8, v9, v10, v11, v12, v13, v14, v15] := by
  obtain ⟨v0, t0, rfl, h0⟩ := cons_of hh
  obtain ⟨v1, t1, rfl, h1⟩ := cons_of h0
  obtain ⟨v2, t2, rfl, h2⟩ := cons_of h1
  obtain ⟨v3, t3, rfl, h3⟩ := cons_of h2
  obtain ⟨v4, t4, rfl, h4⟩ := cons_of h3
  obtain ⟨v5, t5, rfl, h5⟩ := cons_of h4
  obtain ⟨v6, t6, rfl, h6⟩ := cons_of h5
  obtain ⟨v7, t7, rfl, h7⟩ := cons_of h6
  obtain ⟨v8, t8, rfl, h8⟩ := cons_of h7
  obtain ⟨v9, t9, rfl, h9⟩ := cons_of h8
  obtain ⟨v10, t10, rfl, h10⟩ := cons_of h9
  obtain ⟨v11, t11, rfl, h11⟩ := cons_of h10
  obtain ⟨v12, t12, rfl, h12⟩ := cons_of h11
  obtain ⟨v13, t13, rfl, h13⟩ := cons_of h12
  obtain ⟨v14, t14, rfl, h14⟩ := cons_of h13
  obtain ⟨v15, t15, rfl, h15⟩ := cons_of h14
  obtain rfl := List.eq_nil_of_length_eq_zero h15
  exact ⟨_, _, _, _, _, _, _, _, _, _, _, _, _, _, _, _, rfl⟩
set_option maxHeartbeats 8000000 in
theorem reads_law {w : World} {ja : Option Addr} {jn jc : Nat} {bs : List Int} (h : IsB w ja jn jc bs) (hjl : jn ≤ 140737488351232) :
    Calls Try.prog 7 #[.slice ja jn jc] w fun e w' => e = .returned (.bool true) ∧ Below w.heap.size w w' := by
  have hbs := h.size
  have hbb := h.byte
  obtain ⟨c, hc⟩ : ∃ c, Hid (grC bs = c) := ⟨_, rfl⟩
  obtain ⟨xs, hx⟩ : ∃ xs, Hid (grX bs = xs) := ⟨_, rfl⟩
  obtain ⟨er, hEr⟩ : ∃ er, Hid (grE bs = er) := ⟨_, rfl⟩
  have hxl : xs.length ≤ 4096 := by rw [← hx.out]; exact gr_len
  have hgood : er = 0 → okR c xs = true ∧ recY c xs = bs := fun h => by
    have := gr_good hbb (hEr.out.trans h)
    rw [hc.out, hx.out] at this
    exact this
  go_enter Try.func7, Try.ntmps7
  go_wp2_with fail
  refine (lent_any h (by omega)).mono ?_
  rintro e w1 ⟨rfl, IL, B1⟩
  have IB := h.below B1
  obtain ⟨g3, hg3⟩ : ∃ b, b = w.heap.size := ⟨_, rfl⟩
  rw [← hg3] at IL ⊢
  clear hg3
  have IL1 : IsB w1 (some ⟨g3, 0, none⟩) jn (jn + 8) bs := IL.front (ys := pad) hbs
  go_wp2_with fail
  refine (getRecord_any IL1 (by omega)).mono ?_
  intro e w2 hP
  obtain ⟨xa, xn, xc, rfl, OX, B2⟩ := hP.out
  rw [hc.out, hEr.out]
  rw [hx.out] at OX
  clear hP IL1
  have hxn : xn ≤ 1954687338264 := by obtain ⟨_, _, _, e, k⟩ := OX.shape'; cases e; omega
  replace OX := OX.below (box_below (o := recB c (.slice xa xn xc) 52))
  have E4 := new1 w2 (recB c (.slice xa xn xc) 52)
  replace IB := (IB.below B2).below (box_below (o := recB c (.slice xa xn xc) 52))
  replace IL := (IL.below B2).below (box_below (o := recB c (.slice xa xn xc) 52))
  have B3 := below_size (below_size B1 B1.size B2) (below_size B1 B1.size B2).size (box_below (o := recB c (.slice xa xn xc) 52))
  clear B1 B2
  unfold recB at E4 IB IL B3 OX
  go_wp2_with fail
  replace E4 : _ = some (recB c (.slice xa xn xc) 52) := E4
  generalize w2.alloc (.cells #[.int .i64 c, .slice xa xn xc] 52) = w3 at *
  generalize w2.heap.size = b4 at *
  refine (rgetRecord_any IB (by omega)).mono ?_
  intro e w4 hP
  obtain ⟨ya, yn, yc, rfl, OY, B4⟩ := hP.out
  rw [hc.out, hEr.out]
  rw [hx.out] at OY
  clear hP
  replace OY := OY.below (box_below (o := recB c (.slice ya yn yc) 49))
  have E6 := new1 w4 (recB c (.slice ya yn yc) 49)
  replace E4 := old1 ((B4.block _ (lt_of_block E4)).trans E4) (recB c (.slice ya yn yc) 49)
  replace OX := (OX.below B4).below (box_below (o := recB c (.slice ya yn yc) 49))
  replace IB := (IB.below B4).below (box_below (o := recB c (.slice ya yn yc) 49))
  replace IL := (IL.below B4).below (box_below (o := recB c (.slice ya yn yc) 49))
  have Bq := below_size (below_size B3 B3.size B4) (below_size B3 B3.size B4).size (box_below (o := recB c (.slice ya yn yc) 49))
  clear B3 B4
  unfold recB at E4 E6 IB IL Bq OX OY
  go_upto_region 4 with fail
  replace E4 : _ = some (recB c (.slice xa xn xc) 52) := E4
  replace E6 : _ = some (recB c (.slice ya yn yc) 49) := E6
  generalize w4.alloc (.cells #[.int .i64 c, .slice ya yn yc] 49) = wq at *
  generalize w4.heap.size = b6 at *
  refine abstract_act fun A hA => ?_
  have hsz : A.tmps.size = 63 := by rw [hA]; rfl
  have s0 : A.tmps[0]? = some (.slice ja jn jc) := by rw [hA]; rfl
  have s3 : A.tmps[3]? = some (.slice (some ⟨g3, 0, none⟩) jn (jn + 8)) := by rw [hA]; rfl
  have s4 : A.tmps[4]? = some (.pointer (some ⟨b4, 0, none⟩)) := by rw [hA]; rfl
  have s5 : A.tmps[5]? = some (.int .i64 er) := by rw [hA]; rfl
  have s6 : A.tmps[6]? = some (.pointer (some ⟨b6, 0, none⟩)) := by rw [hA]; rfl
  have s7 : A.tmps[7]? = some (.int .i64 er) := by rw [hA]; rfl
  refine wp_region_inv2' (fun A D a w' => ∃ (l : List Value) (ta : Option Addr) (tn : Nat) (tc : Nat), a = putAll A 22 l ∧ l.length = 16 ∧ Below wq.heap.size wq w' ∧ (∀ j, j < 16 → D j → l[j]? = some (readsV c er ja xa ya ta g3 jn jc xn xc yn yc tn tc j)) ∧ (D 1 → OwnC w' wq.heap.size 76 (.slice ta tn tc) xs)) (by kernel_rfl) (by kernel_rfl) ?mono ?start ?step ?done
  case mono =>
    rintro D D' a w' hD ⟨l, ta, tn, tc, ha, hlen, hB, hl, hrt⟩
    exact ⟨l, ta, tn, tc, ha, hlen, hB, fun j hj h => hl j hj ((hD j).2 h), fun h => hrt ((hD 1).2 h)⟩
  case start => exact ⟨_, none, 0, 0, (putAll_start A 22 16 (by omega)).1, (putAll_start A 22 16 (by omega)).2, (Below.refl _ _).drew, fun _ _ h => h.elim, fun h => h.elim⟩
  case step =>
    clear hA
    intro i o ho D a w' hI hn hcl hd
    obtain ⟨l, ta, tn, tc, ha, hlen, hB, hl, hrt⟩ := hI
    match i, ho with
    | 0, ho =>
      cases Option.some.inj ho
      refine ⟨rfl, ?_⟩
      have ev : a.tmps[4]? = some (.pointer (some ⟨b4, 0, none⟩)) := by rw [ha, putAll_low A 22 4 l (by omega) (by decide)]; exact s4
      obtain ⟨z0, z1⟩ := rec_cells ((hB.block _ (lt_of_block E4)).trans E4)
      refine wp_value (w' := w') (v := .agg #[.int .i64 c, .slice xa xn xc]) (by simp [execOp, ev, go_sem, z0, z1]) ?_
      exact ⟨_, ta, tn, tc, by rw [ha]; exact putAll_put A 22 0 l _ (by omega) (by omega), by rw [List.length_set]; exact hlen, hB, set_known hlen (by decide) hl, fun h => (hrt (h.resolve_left (by decide)))⟩
    | 1, ho =>
      cases Option.some.inj ho
      refine ⟨rfl, ?_⟩
      have ev : a.tmps[22]? = some (.agg #[.int .i64 c, .slice xa xn xc]) := known_at ha hsz hlen hl 0 (by decide) (hd ⟨0, .data⟩ (by simp) rfl)
      refine wp_enter (f := 35) (args := #[.agg #[.int .i64 c, .slice xa xn xc]]) (by simp [execOp, ev, go_sem]) ?_
      refine (taken_any c (OX.below hB) hxn).mono ?_
      rintro e w6 ⟨ta', tn', tc', rfl, OT, HB⟩
      refine ⟨_, rfl, ?_⟩
      exact ⟨_, ta', tn', tc', by rw [ha]; exact putAll_put A 22 1 l _ (by omega) (by omega), by rw [List.length_set]; exact hlen, below_size hB hB.size HB, set_known' (val' := readsV c er ja xa ya ta' g3 jn jc xn xc yn yc tn' tc') hlen (by decide) hl (fun j hj hne => match j, hj, hne with | 0, _, _ => rfl | 1, _, hne => absurd rfl hne | 2, _, _ => rfl | 3, _, _ => rfl | 4, _, _ => rfl | 5, _, _ => rfl | 6, _, _ => rfl | 7, _, _ => rfl | 8, _, _ => rfl | 9, _, _ => rfl | 10, _, _ => rfl | 11, _, _ => rfl | 12, _, _ => rfl | 13, _, _ => rfl | 14, _, _ => rfl | 15, _, _ => rfl | j + 16, _, _ => rfl), fun _ => OT.mono hB.size⟩
    | 2, ho =>
      cases Option.some.inj ho
      refine ⟨rfl, ?_⟩
      have ev : a.tmps[6]? = some (.pointer (some ⟨b6, 0, none⟩)) := by rw [ha, putAll_low A 22 6 l (by omega) (by decide)]; exact s6
      obtain ⟨z0, z1⟩ := rec_cells ((hB.block _ (lt_of_block E6)).trans E6)
      refine wp_value (w' := w') (v := .agg #[.int .i64 c, .slice ya yn yc]) (by simp [execOp, ev, go_sem, z0, z1]) ?_
      exact ⟨_, ta, tn, tc, by rw [ha]; exact putAll_put A 22 2 l _ (by omega) (by omega), by rw [List.length_set]; exact hlen, hB, set_known hlen (by decide) hl, fun h => (hrt (h.resolve_left (by decide)))⟩
    | 3, ho =>
      cases Option.some.inj ho
      refine ⟨rfl, ?_⟩
      have ev : a.tmps[23]? = some (.agg #[.int .i64 c, .slice ta tn tc]) := known_at ha hsz hlen hl 1 (by decide) (hd ⟨1, .data⟩ (by simp) rfl)
      have ev' : a.tmps[24]? = some (.agg #[.int .i64 c, .slice ya yn yc]) := known_at ha hsz hlen hl 2 (by decide) (hd ⟨2, .data⟩ (by simp) rfl)
      refine wp_enter (f := 34) (args := #[.agg #[.int .i64 c, .slice ta tn tc], .agg #[.int .i64 c, .slice ya yn yc]]) (by simp [execOp, ev, ev', go_sem]) ?_
      refine (sameRecord_true c (hrt (hd ⟨1, .data⟩ (by simp) rfl)).isC (OY.below hB).isC).mono ?_
      rintro e w6 ⟨rfl, HB⟩
      refine ⟨_, rfl, ?_⟩
      exact ⟨_, ta, tn, tc, by rw [ha]; exact putAll_put A 22 3 l _ (by omega) (by omega), by rw [List.length_set]; exact hlen, below_size hB hB.size HB, set_known hlen (by decide) hl, fun h => (hrt (h.resolve_left (by decide))).below HB⟩
    | 4, ho =>
      cases Option.some.inj ho
      refine ⟨rfl, ?_⟩
      have ev : a.tmps[25]? = some (.bool true) := known_at ha hsz hlen hl 3 (by decide) (hd ⟨3, .data⟩ (by simp) rfl)
      refine wp_value (w' := w') (v := .bool false) (by simp [execOp, ev, go_sem]) ?_
      exact ⟨_, ta, tn, tc, by rw [ha]; exact putAll_put A 22 4 l _ (by omega) (by omega), by rw [List.length_set]; exact hlen, hB, set_known hlen (by decide) hl, fun h => (hrt (h.resolve_left (by decide)))⟩
    | 5, ho =>
      cases Option.some.inj ho
      refine ⟨rfl, ?_⟩
      have ev : a.tmps[26]? = some (.bool false) := known_at ha hsz hlen hl 4 (by decide) (hd ⟨4, .data⟩ (by simp) rfl)
      refine wp_value (w' := w') (v := .bool false) (by simp [execOp, ev, go_sem]) ?_
      exact ⟨_, ta, tn, tc, by rw [ha]; exact putAll_put A 22 5 l _ (by omega) (by omega), by rw [List.length_set]; exact hlen, hB, set_known hlen (by decide) hl, fun h => (hrt (h.resolve_left (by decide)))⟩
    | 6, ho =>
      cases Option.some.inj ho
      refine ⟨wanted_of (k := 27) rfl rfl rfl (known_at ha hsz hlen hl 5 (by decide) (hd ⟨5, .guard⟩ (by simp) rfl)), ?_⟩
      have ev : a.tmps[5]? = some (.int .i64 er) := by rw [ha, putAll_low A 22 5 l (by omega) (by decide)]; exact s5
      refine wp_value (w' := w') (v := .int .i64 er) (by simp [execOp, ev, go_sem]) ?_
      exact ⟨_, ta, tn, tc, by rw [ha]; exact putAll_put A 22 6 l _ (by omega) (by omega), by rw [List.length_set]; exact hlen, hB, set_known hlen (by decide) hl, fun h => (hrt (h.resolve_left (by decide)))⟩
    | 7, ho =>
      cases Option.some.inj ho
      refine ⟨wanted_of (k := 27) rfl rfl rfl (known_at ha hsz hlen hl 5 (by decide) (hd ⟨5, .guard⟩ (by simp) rfl)), ?_⟩
      have ev : a.tmps[7]? = some (.int .i64 er) := by rw [ha, putAll_low A 22 7 l (by omega) (by decide)]; exact s7
      refine wp_value (w' := w') (v := .int .i64 er) (by simp [execOp, ev, go_sem]) ?_
      exact ⟨_, ta, tn, tc, by rw [ha]; exact putAll_put A 22 7 l _ (by omega) (by omega), by rw [List.length_set]; exact hlen, hB, set_known hlen (by decide) hl, fun h => (hrt (h.resolve_left (by decide)))⟩
    | 8, ho =>
      cases Option.some.inj ho
      refine ⟨wanted_of (k := 27) rfl rfl rfl (known_at ha hsz hlen hl 5 (by decide) (hd ⟨5, .guard⟩ (by simp) rfl)), ?_⟩
      have ev : a.tmps[28]? = some (.int .i64 er) := known_at ha hsz hlen hl 6 (by decide) (hd ⟨6, .data⟩ (by simp) rfl)
      have ev' : a.tmps[29]? = some (.int .i64 er) := known_at ha hsz hlen hl 7 (by decide) (hd ⟨7, .data⟩ (by simp) rfl)
      refine wp_value (w' := w') (v := .bool false) (by simp [execOp, ev, ev', go_sem]) ?_
      exact ⟨_, ta, tn, tc, by rw [ha]; exact putAll_put A 22 8 l _ (by omega) (by omega), by rw [List.length_set]; exact hlen, hB, set_known hlen (by decide) hl, fun h => (hrt (h.resolve_left (by decide)))⟩
    | 9, ho =>
      cases Option.some.inj ho
      refine ⟨rfl, ?_⟩
      have ev : a.tmps[27]? = some (.bool false) := known_at ha hsz hlen hl 5 (by decide) (hd ⟨5, .data⟩ (by simp) rfl)
      have ev' : a.tmps[30]? = some (.bool false) := known_at ha hsz hlen hl 8 (by decide) (hd ⟨8, .data⟩ (by simp) rfl)
      refine wp_value (w' := w') (v := .bool false) (by simp [execOp, ev, ev', go_sem]) ?_
      exact ⟨_, ta, tn, tc, by rw [ha]; exact putAll_put A 22 9 l _ (by omega) (by omega), by rw [List.length_set]; exact hlen, hB, set_known hlen (by decide) hl, fun h => (hrt (h.resolve_left (by decide)))⟩
    | 10, ho =>
      cases Option.some.inj ho
      refine ⟨rfl, ?_⟩
      have ev : a.tmps[31]? = some (.bool false) := known_at ha hsz hlen hl 9 (by decide) (hd ⟨9, .data⟩ (by simp) rfl)
      refine wp_value (w' := w') (v := .bool false) (by simp [execOp, ev, go_sem]) ?_
      exact ⟨_, ta, tn, tc, by rw [ha]; exact putAll_put A 22 10 l _ (by omega) (by omega), by rw [List.length_set]; exact hlen, hB, set_known hlen (by decide) hl, fun h => (hrt (h.resolve_left (by decide)))⟩
    | 11, ho =>
      cases Option.some.inj ho
      refine ⟨wanted_of (k := 32) rfl rfl rfl (known_at ha hsz hlen hl 10 (by decide) (hd ⟨10, .guard⟩ (by simp) rfl)), ?_⟩
      have ev : a.tmps[3]? = some (.slice (some ⟨g3, 0, none⟩) jn (jn + 8)) := by rw [ha, putAll_low A 22 3 l (by omega) (by decide)]; exact s3
      refine wp_value (w' := w') (v := .slice (some ⟨g3, 0, none⟩) jn (jn + 8)) (by simp [execOp, ev, go_sem]) ?_
      exact ⟨_, ta, tn, tc, by rw [ha]; exact putAll_put A 22 11 l _ (by omega) (by omega), by rw [List.length_set]; exact hlen, hB, set_known hlen (by decide) hl, fun h => (hrt (h.resolve_left (by decide)))⟩
    | 12, ho =>
      cases Option.some.inj ho
      refine ⟨wanted_of (k := 32) rfl rfl rfl (known_at ha hsz hlen hl 10 (by decide) (hd ⟨10, .guard⟩ (by simp) rfl)), ?_⟩
      have ev : a.tmps[0]? = some (.slice ja jn jc) := by rw [ha, putAll_low A 22 0 l (by omega) (by decide)]; exact s0
      refine wp_value (w' := w') (v := .slice ja jn jc) (by simp [execOp, ev, go_sem]) ?_
      exact ⟨_, ta, tn, tc, by rw [ha]; exact putAll_put A 22 12 l _ (by omega) (by omega), by rw [List.length_set]; exact hlen, hB, set_known hlen (by decide) hl, fun h => (hrt (h.resolve_left (by decide)))⟩
    | 13, ho =>
      cases Option.some.inj ho
      refine ⟨wanted_of (k := 32) rfl rfl rfl (known_at ha hsz hlen hl 10 (by decide) (hd ⟨10, .guard⟩ (by simp) rfl)), ?_⟩
      have ev : a.tmps[33]? = some (.slice (some ⟨g3, 0, none⟩) jn (jn + 8)) := known_at ha hsz hlen hl 11 (by decide) (hd ⟨11, .data⟩ (by simp) rfl)
      have ev' : a.tmps[34]? = some (.slice ja jn jc) := known_at ha hsz hlen hl 12 (by decide) (hd ⟨12, .data⟩ (by simp) rfl)
      refine wp_enter (f := 28) (args := #[.slice (some ⟨g3, 0, none⟩) jn (jn + 8), .slice ja jn jc]) (by simp [execOp, ev, ev', go_sem]) ?_
      refine (kept_b (IL.below hB) (IB.below hB) hjl).mono ?_
      rintro e w6 ⟨rfl, HB⟩
      refine ⟨_, rfl, ?_⟩
      exact ⟨_, ta, tn, tc, by rw [ha]; exact putAll_put A 22 13 l _ (by omega) (by omega), by rw [List.length_set]; exact hlen, below_size hB hB.size HB, set_known hlen (by decide) hl, fun h => (hrt (h.resolve_left (by decide))).below HB⟩
    | 14, ho =>
      cases Option.some.inj ho
      refine ⟨wanted_of (k := 32) rfl rfl rfl (known_at ha hsz hlen hl 10 (by decide) (hd ⟨10, .guard⟩ (by simp) rfl)), ?_⟩
      have ev : a.tmps[35]? = some (.bool true) := known_at ha hsz hlen hl 13 (by decide) (hd ⟨13, .data⟩ (by simp) rfl)
      refine wp_value (w' := w') (v := .bool false) (by simp [execOp, ev, go_sem]) ?_
      exact ⟨_, ta, tn, tc, by rw [ha]; exact putAll_put A 22 14 l _ (by omega) (by omega), by rw [List.length_set]; exact hlen, hB, set_known hlen (by decide) hl, fun h => (hrt (h.resolve_left (by decide)))⟩
    | 15, ho =>
      cases Option.some.inj ho
      refine ⟨rfl, ?_⟩
      have ev : a.tmps[32]? = some (.bool false) := known_at ha hsz hlen hl 10 (by decide) (hd ⟨10, .data⟩ (by simp) rfl)
      have ev' : a.tmps[36]? = some (.bool false) := known_at ha hsz hlen hl 14 (by decide) (hd ⟨14, .data⟩ (by simp) rfl)
      refine wp_value (w' := w') (v := .bool false) (by simp [execOp, ev, ev', go_sem]) ?_
      exact ⟨_, ta, tn, tc, by rw [ha]; exact putAll_put A 22 15 l _ (by omega) (by omega), by rw [List.length_set]; exact hlen, hB, set_known hlen (by decide) hl, fun h => (hrt (h.resolve_left (by decide)))⟩
    | i + 16, ho => simp at ho
  case done =>
    rintro D a w' ⟨l, ta, tn, tc, ha, hlen, hB, hl, hrt⟩ hall
    obtain ⟨v0, v1, v2, v3, v4, v5, v6, v7, v8, v9, v10, v11, v12, v13, v14, v15, rfl⟩ := readsV_list hlen
    have hz := hl 15 (by decide) (hall 15 (by decide))
    simp only [List.getElem?_cons_succ, List.getElem?_cons_zero, Option.some.injEq] at hz
    have hz' : v15 = .bool false := hz
    subst hz'
    subst hA
    have hfr : a = _ := ha
    rw [hfr]
    clear hfr ha
    simp only [putAll, List.take_succ_cons, List.take_zero, List.drop_succ_cons, List.drop_zero, List.cons_append, List.nil_append, List.length_cons, List.length_nil]
    clear hl hrt hall hz
    have Bq' := below_size Bq Bq.size hB
    have IB1 := IB.below hB
    have OX1 := OX.below hB
    have E41 := (hB.block _ (lt_of_block E4)).trans E4
    clear hB IB IL OX OY E4 E6 Bq
    by_cases h0 : er = 0
    · subst h0
      obtain ⟨hok, hYb⟩ := hgood rfl
      by_cases hlen : jn ≤ 60000
      · have hle : ¬ ((60000 : Int) < (jn : Int)) := by omega
        have hPe : Hid (perr c xs = 0) := by
          show perr c xs = 0
          unfold perr
          rw [if_pos hok, if_neg (by rw [hYb]; omega)]
        have hPb : Hid (pbytes c xs = bs) := by
          show pbytes c xs = bs
          unfold pbytes
          rw [if_pos hPe.out, hYb]
        obtain ⟨z0, z1⟩ := rec_cells E41
        go_wp2_with fail
        clear z0 z1
        refine (putRecord_any c OX1.isC).mono ?_
        intro e w8 hP
        obtain ⟨pa, pn, pc, rfl, IP, B8⟩ := hP.out
        rw [hPe.out]
        rw [hPb.out] at IP
        clear hP
        have hs1 := IP.str
        have hs2 := (IB1.below B8).str
        have B9 := below_size Bq' Bq'.size B8
        clear B8 Bq' E41 OX1 IB1 IP
        go_wp2_with fail
        refine (known_true _).mono ?_
        rintro e w9 ⟨rfl, B10⟩
        go_wp2
        go_ret
        exact ⟨rfl, below_size B9 B9.size B10⟩
      · have hle : (60000 : Int) < (jn : Int) := by omega
        go_wp2_with fail
        refine (known_true _).mono ?_
        rintro e w9 ⟨rfl, B9⟩
        go_wp2
        go_ret
        exact ⟨rfl, below_size Bq' Bq'.size B9⟩
    · have hb0 : (er == 0) = false := by simp; omega
      go_wp2_with fail
      refine (known_true _).mono ?_
      rintro e w9 ⟨rfl, B9⟩
      go_wp2
      go_ret
      exact ⟨rfl, below_size Bq' Bq'.size B9⟩
end Go.Proofs.Ytjfaflmmanjjbaa
