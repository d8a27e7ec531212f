/- Records that are the same. -/
import Derived.Test.YtajdelinfkodbaaRecV
namespace Go.Proofs.Ytajdelinfkodbaa
open Go.RowKit 
set_option maxRecDepth 100000
def recB (c : Int) (v : Value) (t : Nat) : Obj := .cells #[.int .i64 c, v] t (0, 0)
theorem rec_cells {w : World} {b t : Nat} {c : Int} {v : Value} (h : w.heap[b]? = some (recB c v t)) : w.cell? ⟨b, 0, none⟩ = some (.int .i64 c) ∧ w.cell? ⟨b, 1, none⟩ = some v := by
  refine ⟨?_, ?_⟩ <;> (rw [cell_of_row _ b _ _ _ _ h]; rfl)
set_option maxRecDepth 100000
def chh (o : Int) (g : Bool) (c : Int) (v1 v2 : Value) : Obj := .cells #[.int .i64 o, .bool g, .int .i64 c, v1, v2] 73 (0, 0)
theorem chh_cells {w : World} {b : Nat} {o c : Int} {g : Bool} {v1 v2 : Value} (h : w.heap[b]? = some (chh o g c v1 v2)) : w.cell? ⟨b, 0, none⟩ = some (.int .i64 o) ∧ w.cell? ⟨b, 1, none⟩ = some (.bool g) ∧ w.cell? ⟨b, 2, none⟩ = some (.int .i64 c) ∧ w.cell? ⟨b, 3, none⟩ = some v1 ∧ w.cell? ⟨b, 4, none⟩ = some v2 := by
  refine ⟨?_, ?_, ?_, ?_, ?_⟩ <;> (rw [cell_of_row _ b _ _ _ _ h]; rfl)
set_option maxRecDepth 100000
theorem rsame_eq {w : World} {c : Int} {sa ba ta ea : Option Addr} {sn sc bn bc tn tc en ec : Nat} {vs : List (Int × Int)} {bs : List Int} (h1 : IsO w c sa sn sc ba bn bc vs bs) (h2 : IsO w c ta tn tc ea en ec vs bs) :
    Calls Try.prog 21 #[.agg #[.int .i64 c, .slice sa sn sc, .slice ba bn bc], .agg #[.int .i64 c, .slice ta tn tc, .slice ea en ec]] w fun e w' => e = .returned (.bool true) ∧ Below w.heap.size w w' := by
  have h := rsame_any h1 h2
  rw [show alike c c vs vs bs bs = true by simp [alike]] at h
  exact h
set_option maxHeartbeats 4000000 in
theorem sameRecord_true {w : World} (c : Int) {a a' : Option Addr} {n cap n' cap' : Nat} {xs : List Ch} (h : IsC w a n cap xs) (k : IsC w a' n' cap' xs) :
    Calls Try.prog 13 #[.agg #[.int .i64 c, .slice a n cap], .agg #[.int .i64 c, .slice a' n' cap']] w fun e w' => e = .returned (.bool true) ∧ Below w.heap.size w w' := by
  obtain rfl : n' = n := by have h1 := h.size; have h2 := k.size; omega
  have hsz := h.size
  have hrm := h.room
  have hmm := h.most
  unfold maxLen at hmm
  have hB1 : Below w.heap.size w ((w.alloc (recB c (.slice a n' cap) 29)).alloc (recB c (.slice a' n' cap') 29)) := below_size box_below box_below.size box_below
  have E1 : ((w.alloc (recB c (.slice a n' cap) 29)).alloc (recB c (.slice a' n' cap') 29)).heap[w.heap.size]? = some (recB c (.slice a n' cap) 29) := old1 (new1 _ _) _
  have E2 : ((w.alloc (recB c (.slice a n' cap) 29)).alloc (recB c (.slice a' n' cap') 29)).heap[w.heap.size + 1]? = some (recB c (.slice a' n' cap') 29) := new2 _ _ _
  have h1 := h.below hB1
  have k1 := k.below hB1
  go_enter Try.func13, Try.ntmps13
  go_upto_region 1 with fail
  unfold recB at hB1 E1 E2 h1 k1
  generalize (w.alloc (.cells #[.int .i64 c, .slice a n' cap] 29)).alloc (.cells #[.int .i64 c, .slice a' n' cap'] 29) = w1 at *
  generalize w.heap.size + 1 = q2 at *
  obtain ⟨q1, hq1⟩ : ∃ b, b = w.heap.size := ⟨_, rfl⟩
  rw [← hq1] at E1 ⊢
  clear hq1
  replace E1 : w1.heap[q1]? = some (recB c (.slice a n' cap) 29) := E1
  replace E2 : w1.heap[q2]? = some (recB c (.slice a' n' cap') 29) := E2
  obtain ⟨z0, z1⟩ := rec_cells E1
  obtain ⟨y0, y1⟩ := rec_cells E2
  go_wp2
  clear z0 z1 y0 y1
  go_loopw [5] (fun iv wr => ∃ j : Nat, j ≤ n' ∧ iv = .int .i64 (j : Int) ∧ Below w1.heap.size w1 wr) (fun iv _ => n' - (intOf iv).toNat)
  case atStart => exact ⟨0, by omega, rfl, Below.refl _ _⟩
  case round =>
    obtain ⟨j, hj, rfl, hB⟩ := hrel
    have E1r := (hB.block q1 (lt_of_block E1)).trans E1
    have E2r := (hB.block q2 (lt_of_block E2)).trans E2
    obtain ⟨z0, z1⟩ := rec_cells E1r
    obtain ⟨y0, y1⟩ := rec_cells E2r
    by_cases hlt : j < n'
    · obtain ⟨b, off, x, rfl, hbl, hx, hcx, hox⟩ := (h1.below hB).at_ j hlt
      obtain ⟨b', off', x', rfl, hbl', hx', hcx', _⟩ := (k1.below hB).at_ j hlt
      obtain rfl : x' = x := by have e := hx.out; rw [hx'.out] at e; exact Option.some.inj e
      obtain ⟨o, g, cc, vs, bs⟩ := x'
      obtain ⟨sa, sn, sc, ba, bn, bc, c0, c1, c2, c3, c4, io⟩ := hcx
      obtain ⟨ta, tn, tc, ea, en, ec, d0, d1, d2, d3, d4, jo⟩ := hcx'
      simp only at c0 c1 c2 io d0 d1 d2 jo
      have hji : (j : Int) < (n' : Int) := by omega
      have X1 : (wr.alloc (chh o g cc (.slice sa sn sc) (.slice ba bn bc))).heap[wr.heap.size]? = some (chh o g cc (.slice sa sn sc) (.slice ba bn bc)) := new1 _ _
      have Y1 : (wr.alloc (chh o g cc (.slice sa sn sc) (.slice ba bn bc))).heap[q2]? = some (recB c (.slice (some ⟨b', off', none⟩) n' cap') 29) := old1 E2r _
      have BB : Below wr.heap.size wr (wr.alloc (chh o g cc (.slice sa sn sc) (.slice ba bn bc))) := box_below
      unfold chh at X1 Y1 BB
      go_upto_region 7 with fail
      have B2 := below_size hB hB.size BB
      have io1 := io.below BB
      have jo1 := jo.below BB
      have e0 := (BB.cell (p := ⟨b', off' + j * 5, none⟩) hbl').trans d0
      have e1 := (BB.cell (p := ⟨b', off' + j * 5 + 1, none⟩) hbl').trans d1
      have e2 := (BB.cell (p := ⟨b', off' + j * 5 + 2, none⟩) hbl').trans d2
      have e3 := (BB.cell (p := ⟨b', off' + j * 5 + 3, none⟩) hbl').trans d3
      have e4 := (BB.cell (p := ⟨b', off' + j * 5 + 4, none⟩) hbl').trans d4
      clear c0 c1 c2 c3 c4 d0 d1 d2 d3 d4 z0 z1 y0 y1 BB io jo
      generalize wr.alloc (.cells #[.int .i64 o, .bool g, .int .i64 cc, .slice sa sn sc, .slice ba bn bc] 73) = wa at *
      generalize wr.heap.size = xb at *
      replace X1 : wa.heap[xb]? = some (chh o g cc (.slice sa sn sc) (.slice ba bn bc)) := X1
      obtain ⟨y0, y1⟩ := rec_cells Y1
      have X2 : (wa.alloc (chh o g cc (.slice ta tn tc) (.slice ea en ec))).heap[xb]? = some (chh o g cc (.slice sa sn sc) (.slice ba bn bc)) := old1 X1 _
      have Z2 : (wa.alloc (chh o g cc (.slice ta tn tc) (.slice ea en ec))).heap[wa.heap.size]? = some (chh o g cc (.slice ta tn tc) (.slice ea en ec)) := new1 _ _
      have BB : Below wa.heap.size wa (wa.alloc (chh o g cc (.slice ta tn tc) (.slice ea en ec))) := box_below
      unfold chh at X2 Z2 BB
      go_upto_region 8 with fail
      have B3 := below_size B2 B2.size BB
      have io2 := io1.below BB
      have jo2 := jo1.below BB
      clear e0 e1 e2 e3 e4 y0 y1 BB io1 jo1 X1 Y1 hbl hbl'
      generalize wa.alloc (.cells #[.int .i64 o, .bool g, .int .i64 cc, .slice ta tn tc, .slice ea en ec] 73) = wb at *
      generalize wa.heap.size = yb at *
      replace X2 : wb.heap[xb]? = some (chh o g cc (.slice sa sn sc) (.slice ba bn bc)) := X2
      replace Z2 : wb.heap[yb]? = some (chh o g cc (.slice ta tn tc) (.slice ea en ec)) := Z2
      obtain ⟨f0, f1, f2, f3, f4⟩ := chh_cells X2
      obtain ⟨g0, g1, g2, g3, g4⟩ := chh_cells Z2
      go_wp2_with fail
      refine (rsame_eq io2 jo2).mono ?_
      rintro e w5 ⟨rfl, B5⟩
      have B6 := below_size B3 B3.size B5
      clear f0 f1 f2 f3 f4 g0 g1 g2 g3 g4 B5 B3 B2 hB
      go_wp2
      go_roundw
      case rel => exact ⟨j + 1, by omega, by go_num, B6⟩
      case measure => simp [intOf]; omega
    · have hji : ¬ (j : Int) < (n' : Int) := by omega
      go_wp2
      go_ret
      exact ⟨rfl, below_size hB1 hB1.size hB⟩
end Go.Proofs.Ytajdelinfkodbaa
namespace Go.Proofs.Ytajdelinfkodbaa
open Go.RowKit 
set_option maxRecDepth 100000
theorem OwnB.shape' {w : World} {base : Nat} {v : Value} {xs : List Int} (h : OwnB w base v xs) : ∃ a n c, v = .slice a n c := by
  obtain ⟨a, c, e⟩ := h.shape
  exact ⟨a, _, c, e⟩
theorem OwnV.shape' {w : World} {base : Nat} {v : Value} {vs : List (Int × Int)} (h : OwnV w base v vs) : ∃ a n c, v = .slice a n c := by
  obtain ⟨_, a, c, e, _⟩ := h
  exact ⟨a, _, c, e⟩
theorem OwnV.same {w w' : World} {base : Nat} {v : Value} {vs : List (Int × Int)} (h : OwnV w base v vs) (hk : ∀ g, v.ownBlock = some g → w'.heap[g]? = w.heap[g]?) : OwnV w' base v vs := ownV_of (own_same h.1 hk) h.wf
theorem OwnB.same {w w' : World} {base : Nat} {v : Value} {xs : List Int} (h : OwnB w base v xs) (hk : ∀ g, v.ownBlock = some g → w'.heap[g]? = w.heap[g]?) : OwnB w' base v xs := ownB_of (own_same h.1 hk) h.byte
/-- A change and where its slots and bytes lie. -/
structure Cs where
  x : Ch
  sa : Option Addr
  sn : Nat
  sc : Nat
  ba : Option Addr
  bn : Nat
  bc : Nat
def Cs.cells (s : Cs) : List Value := [.int .i64 s.x.oop, .bool s.x.gone, .int .i64 s.x.cls, .slice s.sa s.sn s.sc, .slice s.ba s.bn s.bc]
def flatC (ss : List Cs) : List Value := ss.flatMap Cs.cells
theorem flatC_app (ss tt : List Cs) : flatC (ss ++ tt) = flatC ss ++ flatC tt := by unfold flatC; rw [List.flatMap_append]
theorem flatC_at : ∀ (ss : List Cs) (i : Nat) (s : Cs), ss[i]? = some s → ∀ j, j < 5 → (flatC ss)[i * 5 + j]? = s.cells[j]?
  | [], _, _, h, _, _ => by cases h
  | t :: r, 0, s, h, j, hj => by
    cases h
    have e : flatC (t :: r) = t.cells ++ flatC r := rfl
    rw [e, Nat.zero_mul, Nat.zero_add, List.getElem?_append_left (by simp [Cs.cells]; omega)]
  | t :: r, i + 1, s, h, j, hj => by
    have e : flatC (t :: r) = t.cells ++ flatC r := rfl
    have h' : r[i]? = some s := h
    rw [e, List.getElem?_append_right (by simp [Cs.cells]; omega), show (i + 1) * 5 + j - t.cells.length = i * 5 + j by simp [Cs.cells]; omega]
    exact flatC_at r i s h' j hj
theorem flatC_one (ss : List Cs) : ∀ u ∈ flatC ss, u.oneCell' = true := by
  intro u hu
  unfold flatC at hu
  obtain ⟨s, _, hs⟩ := List.mem_flatMap.1 hu
  simp only [Cs.cells, List.mem_cons, List.not_mem_nil, or_false] at hs
  rcases hs with rfl | rfl | rfl | rfl | rfl <;> rfl
/-- What is known of a change's slots and bytes: each is a row of somebody's own. -/
structure El (w : World) (s : Cs) : Prop where
  cls : -9223372036854775808 ≤ s.x.cls ∧ s.x.cls ≤ 9223372036854775807
  v : ∃ b, OwnV w b (.slice s.sa s.sn s.sc) s.x.vs
  b : ∃ b, OwnB w b (.slice s.ba s.bn s.bc) s.x.bs
theorem El.isO {w : World} {s : Cs} (h : El w s) : IsO w s.x.cls s.sa s.sn s.sc s.ba s.bn s.bc s.x.vs s.x.bs := by
  obtain ⟨h0, ⟨_, h1⟩, ⟨_, h2⟩⟩ := h
  exact ⟨h0, h1.isV, h2.isB⟩
theorem El.below {w w' : World} {s : Cs} (h : El w s) (hb : Below w.heap.size w w') : El w' s := by
  obtain ⟨h0, ⟨b1, h1⟩, ⟨b2, h2⟩⟩ := h
  exact ⟨h0, ⟨b1, h1.below hb⟩, ⟨b2, h2.below hb⟩⟩
theorem El.same {w w' : World} {s : Cs} (h : El w s) (hk : ∀ (g : Nat) (cur : Array Value) (e : Nat), (e = 84 ∨ e = 5) → w.heap[g]? = some (Obj.cells cur e (0, 0)) → w'.heap[g]? = w.heap[g]?) : El w' s := by
  obtain ⟨h0, ⟨b1, h1⟩, ⟨b2, h2⟩⟩ := h
  exact ⟨h0, ⟨b1, ownV_of (own_same h1.1 (fun g hg => by obtain ⟨_, cur, hc⟩ := own_block h1.1 hg; exact hk g cur 84 (.inl rfl) hc)) h1.isV.wf⟩, ⟨b2, ownB_of (own_same h2.1 (fun g hg => by obtain ⟨_, cur, hc⟩ := own_block h2.1 hg; exact hk g cur 5 (.inr rfl) hc)) h2.byte⟩⟩
/-- A slice of changes of the call's own. -/
def OwnC (w : World) (base t : Nat) (v : Value) (xs : List Ch) : Prop := ∃ ss : List Cs, w.ownsRow base t 5 v ss.length (flatC ss) ∧ ss.map Cs.x = xs ∧ (∀ s ∈ ss, El w s) ∧ ∀ x ∈ xs, -9223372036854775808 ≤ x.oop ∧ x.oop ≤ 9223372036854775807
theorem ownC_nil (w : World) (base t : Nat) : OwnC w base t (.slice none 0 0) [] := ⟨[], World.ownsRow_nil _ _ _ _, rfl, by simp, by simp⟩
theorem OwnC.shape' {w : World} {base t : Nat} {v : Value} {xs : List Ch} (h : OwnC w base t v xs) : ∃ a n c, v = .slice a n c ∧ n = xs.length := by
  obtain ⟨ss, h1, rfl, _⟩ := h
  rcases h1.2 with ⟨rfl, h0⟩ | ⟨g, cap, cur, rfl, _⟩
  · exact ⟨none, 0, 0, rfl, by rw [List.length_map, h0]⟩
  · exact ⟨_, _, _, rfl, by rw [List.length_map]⟩
theorem OwnC.below {w w' : World} {base t : Nat} {v : Value} {xs : List Ch} (h : OwnC w base t v xs) (hb : Below w.heap.size w w') : OwnC w' base t v xs := by
  obtain ⟨ss, h1, h2, h3, h4⟩ := h
  exact ⟨ss, own_below h1 hb, h2, fun s hs => (h3 s hs).below hb, h4⟩
theorem OwnC.isC {w : World} {base t n c : Nat} {a : Option Addr} {xs : List Ch} (h : OwnC w base t (.slice a n c) xs) : IsC w a n c xs := by
  have hn : n = xs.length := by obtain ⟨a', n', c', e, k⟩ := h.shape'; cases e; exact k
  obtain ⟨ss, h1, rfl, h3, h4⟩ := h
  rw [List.length_map] at hn
  subst hn
  rcases h1.2 with ⟨e, h0⟩ | ⟨g, cap, cur, e, hrest⟩
  · have : ss = [] := List.eq_nil_of_length_eq_zero h0
    subst this
    cases e
    exact ⟨rfl, Nat.le_refl _, by decide, fun _ => rfl, by simp, fun h => absurd h (by simp)⟩
  · cases e
    refine ⟨by rw [List.length_map], ?_, ?_, by simp, h4, fun _ => ⟨g, 0, rfl, fun i x hx => ?_⟩⟩
    · exact hrest.2.2.1
    · exact hrest.2.2.2.1
    · rw [List.getElem?_map] at hx
      cases hs : ss[i]? with
      | none => rw [hs] at hx; cases hx
      | some s =>
        rw [hs] at hx
        cases hx
        have key : ∀ j v, s.cells[j]? = some v → w.cell? ⟨g, 0 + i * 5 + j, none⟩ = some v := fun j v hj => by
          have h5 : j < 5 := by have := (List.getElem?_eq_some_iff.1 hj).1; simpa [Cs.cells] using this
          have hc := World.ownsRow.cells h1 (g := g) rfl (i * 5 + j) v (by rw [flatC_at ss i s hs j h5]; exact hj)
          rw [addr_add] at hc
          rw [Nat.add_assoc]
          exact hc
        exact ⟨s.sa, s.sn, s.sc, s.ba, s.bn, s.bc, key 0 _ rfl, key 1 _ rfl, key 2 _ rfl, key 3 _ rfl, key 4 _ rfl, (h3 s (List.mem_of_getElem? hs)).isO⟩
theorem cell_at {ss : List Cs} {s : Cs} {w : World} {b : Nat} (hs : ss = [s]) (h : ∀ j v, s.cells[j]? = some v → w.cell? ⟨b, j, none⟩ = some v) : ∀ j u, (flatC ss)[j]? = some u → w.cell? ((⟨b, 0, none⟩ : Addr).add j) = some u := by
  intro j u hj
  subst hs
  have e : flatC [s] = s.cells := by simp [flatC]
  rw [e] at hj
  rw [addr_add, Nat.zero_add]
  exact h j u hj
/-- append of one change, within a region that draws its order. -/
theorem app_ch {t e : Nat} (ht : Try.prog.underlying t = some (.slice e)) (hinfo : (Try.prog.info? e).map (fun i => (i.zero, i.size, i.bytes)) = some (some (.agg #[.int .i64 0, .bool false, .int .i64 0, .slice none 0 0, .slice none 0 0]), 5, 72))
    {o : Oper} {a : Act} {K : Act → World → Prop} {Q : Exit → Act → World → Prop} (w : World) (s x : Operand)
    (ho : o.op = .call { callee := .builtin .append, args := #[s, x], argTypes := #[t, t] })
    (base : Nat) (v : Value) (xs : List Ch) (hs : a.eval s = v) (hown : OwnC w base e v xs)
    (b : Nat) (y : Cs) (hx : a.eval x = .slice (some ⟨b, 0, none⟩) 1 1) (hc : ∀ j v, y.cells[j]? = some v → w.cell? ⟨b, j, none⟩ = some v) (hy : El w y) (h23 : e ≠ 84) (h5 : e ≠ 5) (hyo : -9223372036854775808 ≤ y.x.oop ∧ y.x.oop ≤ 9223372036854775807)
    (h47 : xs.length ≤ 1954687338265) (hbase : base ≤ w.heap.size)
    (h : ∀ a' n' c' w', OwnC w' base e (.slice a' n' c') (xs ++ [y.x]) → w.grownBy w' v.ownBlock → K (a.put o.dst (.slice a' n' c')) w') : o.wp Try.prog a w K Q := by
  obtain ⟨i0, hi, hz0, hz1, hz2⟩ := info_parts hinfo
  obtain ⟨ss, h1, h2, h3, h4⟩ := hown
  have hl : ss.length = xs.length := by rw [← h2, List.length_map]
  refine wp_append_own w s x t ho base e i0 (.agg #[.int .i64 0, .bool false, .int .i64 0, .slice none 0 0, .slice none 0 0]) 5 72 ht hi hz0 hz1 hz2 rfl (by decide) _ ss.length _ hs h1 ⟨b, 0, none⟩ 1 1 (flatC [y]) hx rfl (cell_at rfl hc) (flatC_one _) (by unfold maxLen; omega) (by omega) hbase ?_
  intro v' w' hown' hgrow _
  rw [← flatC_app] at hown'
  have hown2 : w'.ownsRow base e 5 v' (ss ++ [y]).length (flatC (ss ++ [y])) := by rw [List.length_append]; exact hown'
  obtain ⟨a', n', c', hv⟩ : ∃ a n c, v' = .slice a n c := by
    rcases hown2.2 with ⟨rfl, h0⟩ | ⟨g, cap, cur, rfl, _⟩
    · exact ⟨none, 0, 0, rfl⟩
    · exact ⟨_, _, _, rfl⟩
  subst hv
  have hsame : ∀ s : Cs, El w s → El w' s := fun s hs => hs.same fun g cur e' he hg => hgrow.block g (lt_of_block hg) (fun k => own_ne h1 hg (by rcases he with rfl | rfl <;> omega) k.symm)
  refine h a' n' c' w' ⟨ss ++ [y], hown2, by rw [List.map_append, h2]; rfl, fun s hs => ?_, fun z hz => ?_⟩ hgrow
  · rcases List.mem_append.1 hs with hs | hs
    · exact hsame s (h3 s hs)
    · rw [List.mem_singleton] at hs
      subst hs
      exact hsame _ hy
  · rcases List.mem_append.1 hz with hz | hz
    · exact h4 z hz
    · rw [List.mem_singleton] at hz
      subst hz
      exact hyo
end Go.Proofs.Ytajdelinfkodbaa
namespace Go.Proofs.Ytajdelinfkodbaa
open Go.RowKit 
set_option maxRecDepth 100000
theorem Gr.of {base : Nat} {w w' : World} (h : Below w.heap.size w w') (hb : base ≤ w.heap.size) : Gr base w w' := ⟨h.mono hb, fun g _ _ _ hg => (h.block g (lt_of_block hg)).trans hg⟩
theorem But.of {b : Nat} {w w' : World} (h : Below w.heap.size w w') : But b w w' := ⟨h.os, h.tape, h.output, h.size, fun i hi _ => h.block i hi⟩
theorem But.set {b i : Nat} {w : World} {x : Value} : But b w (w.setCell ⟨b, i, none⟩ x) := ⟨rfl, rfl, rfl, by simp, fun j _ hj => heap_setCell_other _ _ _ _ hj⟩
theorem eval_some {a : Act} {k : Nat} {v : Value} (h : a.tmps[k]? = some v) : a.eval (.tmp k) = v := by simp [Act.eval, h]
set_option maxRecDepth 100000
theorem rec_frozen {w : World} {b t : Nat} {c : Int} {v : Value} (h : w.heap[b]? = some (recB c v t)) : ∀ i, w.frozen? ⟨b, i, none⟩ = false := fun i => by
  unfold World.frozen?
  rw [h]
  rfl
theorem rec_set1 {w : World} {b t : Nat} {c : Int} {v : Value} (h : w.heap[b]? = some (recB c v t)) (v' : Value) : (w.setCell ⟨b, 1, none⟩ v').heap[b]? = some (recB c v' t) := by
  unfold recB at h ⊢
  rw [heap_setCell_same w b 1 _ _ _ h]
  simp
theorem lit_cells {w : World} {y : Cs} {t : Nat} : ∀ (j : Nat) (v : Value), y.cells[j]? = some v → (w.alloc (.cells #[.int .i64 y.x.oop, .bool y.x.gone, .int .i64 y.x.cls, .slice y.sa y.sn y.sc, .slice y.ba y.bn y.bc] t)).cell? ⟨w.heap.size, j, none⟩ = some v := by
  intro j v hj
  have h := heap_alloc_new w (.cells #[.int .i64 y.x.oop, .bool y.x.gone, .int .i64 y.x.cls, .slice y.sa y.sn y.sc, .slice y.ba y.bn y.bc] t)
  rw [cell_of_row _ _ _ _ _ _ h]
  match j, hj with
  | 0, hj => exact hj
  | 1, hj => exact hj
  | 2, hj => exact hj
  | 3, hj => exact hj
  | 4, hj => exact hj
  | j + 5, hj => simp [Cs.cells] at hj
/-- All blocks below a number are as they were, but one. -/
structure FrN (N b : Nat) (w w' : World) : Prop where
  os : w'.os = w.os
  tape : w'.tape = w.tape
  output : w'.output = w.output
  size : w.heap.size ≤ w'.heap.size
  block : ∀ i, i < N → i ≠ b → w'.heap[i]? = w.heap[i]?
theorem FrN.refl (N b : Nat) (w : World) : FrN N b w w := ⟨rfl, rfl, rfl, Nat.le_refl _, fun _ _ _ => rfl⟩
theorem FrN.trans {N b : Nat} {w w1 w2 : World} (h : FrN N b w w1) (k : FrN N b w1 w2) : FrN N b w w2 := ⟨k.os.trans h.os, k.tape.trans h.tape, k.output.trans h.output, Nat.le_trans h.size k.size, fun i hi hb => (k.block i hi hb).trans (h.block i hi hb)⟩
theorem FrN.of {N b : Nat} {w w' : World} (h : Below N w w') : FrN N b w w' := ⟨h.os, h.tape, h.output, h.size, fun i hi _ => h.block i hi⟩
theorem FrN.set {N b i : Nat} {w : World} {x : Value} : FrN N b w (w.setCell ⟨b, i, none⟩ x) := ⟨rfl, rfl, rfl, by simp, fun j _ hj => heap_setCell_other _ _ _ _ hj⟩
theorem FrN.below {N M b : Nat} {w0 w w' : World} (k : FrN N b w w') (B : Below M w0 w) (hM : M ≤ N) (hb : M ≤ b) : Below M w0 w' :=
  B.trans ⟨k.os, k.tape, k.output, k.size, fun i hi => k.block i (by omega) (by omega)⟩
theorem OwnC.set {w : World} {base e b i t : Nat} {v x : Value} {xs : List Ch} {c : Array Value} (h : OwnC w base e v xs) (hb : w.heap[b]? = some (.cells c t (0, 0))) (h1 : t ≠ e) (h2 : t ≠ 84) (h3 : t ≠ 5) : OwnC (w.setCell ⟨b, i, none⟩ x) base e v xs := by
  obtain ⟨ss, k1, k2, k3, k4⟩ := h
  refine ⟨ss, own_setCell k1 hb h1, k2, fun s hs => (k3 s hs).same fun g cur e' he hg => heap_setCell_other _ _ _ _ ?_, k4⟩
  rintro rfl
  rw [hb] at hg
  have := cells_ty hg
  omega
end Go.Proofs.Ytajdelinfkodbaa
