/- A past without what stood only ahead of a commit: from. -/
import Derived.Test.YtajdelinfkodbaaAtx
namespace Go.Proofs.Ytajdelinfkodbaa
open Go.RowKit
set_option maxRecDepth 100000
/-- How many versions are let go of. -/
def cutN (c : Int) (xs : List Ch) : Nat := match xs[(xs.filter fun x => decide (x.oop ≤ c)).length - 1]? with
  | none => (xs.filter fun x => decide (x.oop ≤ c)).length - 1
  | some x => if x.gone = true then (xs.filter fun x => decide (x.oop ≤ c)).length - 1 + 1 else (xs.filter fun x => decide (x.oop ≤ c)).length - 1
def fromL (c : Int) (xs : List Ch) : List Ch := xs.drop (cutN c xs)
theorem cutN_le (c : Int) (xs : List Ch) : cutN c xs ≤ xs.length := by
  unfold cutN
  have h1 := List.length_filter_le (fun x : Ch => decide (x.oop ≤ c)) xs
  split
  · omega
  · rename_i x hx
    have := (List.getElem?_eq_some_iff.1 hx).1
    split <;> omega
theorem cutN_fnd {c : Int} {xs : List Ch} {L : Nat} (h : Fnd xs c L) : cutN c xs = match xs[L - 1]? with
  | none => L - 1
  | some x => if x.gone = true then L - 1 + 1 else L - 1 := by
  have e : (xs.filter fun x => decide (x.oop ≤ c)).length = L := by rw [fnd_take h, List.length_take]; have := h.1; omega
  unfold cutN
  rw [e]
theorem flatC_drop : ∀ (ss : List Cs) (k : Nat), flatC (ss.drop k) = (flatC ss).drop (k * 5)
  | ss, 0 => by simp
  | [], k + 1 => by simp [flatC]
  | s :: r, k + 1 => by
    have e : flatC (s :: r) = s.cells ++ flatC r := rfl
    rw [List.drop_succ_cons, flatC_drop r k, e, List.drop_append]
    have h5 : s.cells.length = 5 := by simp [Cs.cells]
    rw [h5, List.drop_of_length_le (l := s.cells) (by rw [h5]; omega), List.nil_append]
    congr 1
    omega
/-- append of the rest of a row onto none. -/
theorem app_rest (w : World) {S R : Nat → Prop} {g0 off n cap c1 : Nat} {xs : List Ch} (h : RowT w S R (.slice (some ⟨g0, 0, none⟩) n cap) xs) (ty k m : Nat) (hk : k + m = n) (ho : m ≠ 0 → off = k * 5) (hlen : xs.length ≤ 1099511627776) :
    ∃ a' n' c' w', (Builtin.append_ #[76, 76] ty #[.slice none 0 0, .slice (some ⟨g0, off, none⟩) m c1]).run Try.prog w = .ok (.slice a' n' c') w' ∧ RowT w' (fun q => S q ∨ (w.heap.size ≤ q ∧ (Value.slice a' n' c').ownBlock = some q)) R (.slice a' n' c') (xs.drop k) ∧ w.grownBy w' none ∧ ∀ q, (Value.slice a' n' c').ownBlock = some q → w.heap.size ≤ q := by
  obtain ⟨i, hi, hz, hs, hb⟩ := info_parts Try.info104
  have hn : n = xs.length := by obtain ⟨_, _, _, e, q⟩ := h.shape; cases e; exact q
  have hC := h.isC
  obtain ⟨ss, rfl, h1, h2, h3⟩ := h
  rw [List.length_map] at hlen hn
  have hdm : (ss.map Cs.x).drop k = (ss.drop k).map Cs.x := by rw [List.map_drop]
  have hcells : ∀ j u, (flatC ss)[j]? = some u → w.cell? ⟨g0, j, none⟩ = some u := by
    rcases h3 with ⟨q1, _⟩ | ⟨g, cur, e, _, _, _, _, q5, q6⟩
    · intro j u hj
      have := World.ownsRow.cells q1 (g := g0) rfl j u hj
      rw [addr_add, Nat.zero_add] at this
      exact this
    · cases e
      intro j u hj
      rw [cell_of_row w g0 j cur 104 _ q5]
      exact q6 j u hj
  have hl : (flatC (ss.drop k)).length = m * 5 := by rw [flatC_len', List.length_drop]; congr 1; omega
  have hnews : ∀ j u, (flatC (ss.drop k))[j]? = some u → w.cell? ((⟨g0, off, none⟩ : Addr).add j) = some u := by
    intro j u hj
    have hm : m ≠ 0 := by
      intro e
      have := (List.getElem?_eq_some_iff.1 hj).1
      rw [hl, e] at this
      omega
    rw [addr_add, ho hm]
    rw [flatC_drop, List.getElem?_drop] at hj
    exact hcells _ _ hj
  obtain ⟨v', w', hr, o1, o2, _⟩ := run_append_own (P := Try.prog) w w.heap.size 76 ty 104 i _ 5 72 Try.underlying76 hi hz hs hb rfl (by decide) (.slice none 0 0) 0 [] (World.ownsRow_nil _ _ _ _) ⟨g0, off, none⟩ m c1 (flatC (ss.drop k)) hl hnews (flatC_one _) (by unfold maxLen; omega) (by omega) (Nat.le_refl _)
  have hm' : 0 + m = (ss.drop k).length := by rw [List.length_drop]; omega
  rw [List.nil_append, hm'] at o1
  obtain ⟨a', n', c', rfl⟩ : ∃ a n c, v' = .slice a n c := by
    rcases o1.2 with ⟨rfl, _⟩ | ⟨g, cap, cur, rfl, _⟩
    · exact ⟨_, _, _, rfl⟩
    · exact ⟨_, _, _, rfl⟩
  refine ⟨a', n', c', w', hr, ⟨ss.drop k, hdm.symm, fun s hs => ?_, fun x hx => h2 x (List.mem_of_mem_drop hx), .inl ⟨own_mono o1 (Nat.zero_le _), fun q hq => .inr ⟨(own_block o1 hq).1, hq⟩⟩⟩, o2, fun q hq => (own_block o1 hq).1⟩
  exact (h1 s (List.mem_of_mem_drop hs)).same (fun _ h => h) (fun g hg _ => o2.block g hg (fun e => by cases e))
theorem RowT.off {w : World} {S R : Nat → Prop} {g off n cap : Nat} {xs : List Ch} (h : RowT w S R (.slice (some ⟨g, off, none⟩) n cap) xs) (_hn : 0 < n) : off = 0 := by
  obtain ⟨ss, _, _, _, (⟨h1, _⟩ | ⟨g', cur, e, _⟩)⟩ := h
  · rcases h1.2 with ⟨e, _⟩ | ⟨g', cap', cur, e, _⟩
    · cases e
    · cases e; rfl
  · cases e; rfl
theorem Try.results41 : Try.f41.results = #[.cell 4 78] := by kernel_rfl
set_option maxHeartbeats 4000000 in
theorem from_any {w : World} {S R : Nat → Prop} {ra : Option Addr} {n cap : Nat} {xs : List Ch} (chg c : Int) (hR0 : RowT w S R (.slice ra n cap) xs) (hri : RiseC xs) (hxl : xs.length ≤ 1099511627776) (hSl0 : ∀ g, S g → g < w.heap.size) (hRl0 : ∀ g, R g → g < w.heap.size) :
    Calls Try.prog 41 #[.agg #[.int .i64 chg, .slice ra n cap], .int .i64 c] w fun e w' => WthP w S R chg (.slice ra n cap) (fromL c xs) e w' := by
  have hn : Hid (n = xs.length) := by obtain ⟨_, _, _, e, q⟩ := hR0.shape; cases e; exact q
  have E2 : ((w.alloc (recB chg (.slice ra n cap) 78)).alloc (recB 0 (.slice none 0 0) 78)).heap[w.heap.size]? = some (recB chg (.slice ra n cap) 78) := old1 (new1 _ _) _
  have E4 : ((w.alloc (recB chg (.slice ra n cap) 78)).alloc (recB 0 (.slice none 0 0) 78)).heap[w.heap.size + 1]? = some (recB 0 (.slice none 0 0) 78) := new2 _ _ _
  have B3 : Below w.heap.size w ((w.alloc (recB chg (.slice ra n cap) 78)).alloc (recB 0 (.slice none 0 0) 78)) := below_size box_below box_below.size box_below
  have l2 : w.heap.size ≤ w.heap.size := Nat.le_refl _
  have l4 : w.heap.size ≤ w.heap.size + 1 := by omega
  have h24 : w.heap.size ≠ w.heap.size + 1 := by omega
  go_enter Try.func41, Try.ntmps41
  unfold recB at E2 E4 B3
  go_upto_region 1 with fail
  generalize (w.alloc (.cells #[.int .i64 chg, .slice ra n cap] 78)).alloc (.cells #[.int .i64 0, .slice none 0 0] 78) = w3 at *
  generalize w.heap.size + 1 = b4 at *
  obtain ⟨b2, hb2⟩ : ∃ b, b = w.heap.size := ⟨_, rfl⟩
  rw [← hb2] at E2 h24 ⊢
  replace l2 : w.heap.size ≤ b2 := Nat.le_of_eq hb2.symm
  clear hb2
  replace E2 : w3.heap[b2]? = some (recB chg (.slice ra n cap) 78) := E2
  replace E4 : w3.heap[b4]? = some (recB 0 (.slice none 0 0) 78) := E4
  obtain ⟨t0, t1⟩ := rec_cells E2
  have R3 : RowT w3 S R (.slice ra n cap) xs := hR0.same (fun _ h => h) (fun _ _ h => h) (fun _ h => h) (fun g hg _ => B3.block g hg) (fun g hg => B3.block g (hR0.block hg).2.1)
  have cp := place_any chg c R3.isC hri (by rw [hn.out]; omega)
  go_wp2_with fail
  refine cp.mono ?_
  rintro e w4 ⟨L, rfl, hF, B4⟩
  have R4 : RowT w4 S R (.slice ra n cap) xs := R3.same (fun _ h => h) (fun _ _ h => h) (fun _ h => h) (fun g hg _ => B4.block g hg) (fun g hg => B4.block g (R3.block hg).2.1)
  have F2 := (B4.block b2 (lt_of_block E2)).trans E2
  have F4 := (B4.block b4 (lt_of_block E4)).trans E4
  have BB := below_size B3 B3.size B4
  have hcut : Hid (cutN c xs = _) := cutN_fnd hF
  have hL := hF.1
  clear cp R3 E2 E4 B3 B4 t0 t1 hF
  obtain ⟨t0, t1⟩ := rec_cells F2
  obtain ⟨A, hA⟩ : ∃ A : Nat, A = L - 1 := ⟨_, rfl⟩
  rw [← hA] at hcut
  replace hA : Hid (A = L - 1) := hA
  replace hA : Hid (A = L - 1) := hA
  replace hA : Hid (A = L - 1) := hA
  replace hA : Hid (A = L - 1) := hA
  replace hA : Hid (A = L - 1) := hA
  replace hA : Hid (A = L - 1) := hA
  have hmx' : max (0 : Int) ((L : Int) - 1) = (A : Int) := by have := hA.out; omega
  have hAn : (A : Int) ≤ 9223372036854775807 := by have := hA.out; omega
  by_cases hlt : A < n
  · have hki : (A : Int) < (n : Int) := by omega
    obtain ⟨vb, voff, x, rfl, hbl0, hx, hcx, hox⟩ := R4.isC.at_ A hlt
    obtain rfl : voff = 0 := R4.off (by omega)
    obtain ⟨sa, sn, sc, ba, bn, bc, c0, c1, c2, c3, c4, io⟩ := hcx
    rw [hx.out] at hcut
    simp only at hcut
    clear c0 c2 c3 c4 io hox
    rw [Nat.zero_add] at c1
    cases hg : x.gone with
    | true =>
      rw [hg] at c1 hcut
      have hK : Hid (cutN c xs = A + 1) := by show cutN c xs = A + 1; rw [hcut.out]; rfl
      have hm : (A + 1) + (n - (A + 1)) = n := by omega
      replace hm : Hid ((A + 1) + (n - (A + 1)) = n) := hm
      have hcap := R4.isC.room
      have hcm := R4.isC.most
      unfold maxLen at hcm
      have hfl : Hid (fromL c xs = xs.drop (A + 1)) := by show fromL c xs = xs.drop (A + 1); unfold fromL; rw [hK.out]
      by_cases hcc : cap = (A + 1)
      · obtain ⟨ha1, hn1, hc1, w6, hr6, O6, g6, at6⟩ := app_rest w4 R4 (off := 0) (c1 := cap - (A + 1)) 76 (A + 1) (n - (A + 1)) hm.out (fun h => absurd (show n - (A + 1) = 0 by omega) h) hxl
        have A6 : ∃ (wp : World) (row : Option Nat), Below w4.heap.size w4 wp ∧ wp.grownBy w6 row ∧ (∀ q, row = some q → S q ∧ (Value.slice (some ⟨vb, 0, none⟩) n cap).ownBlock = some q ∧ ∃ cur, w6.heap[q]? = some (.cells cur 104 (0, 0))) ∧ RowT w6 (fun q => S q ∨ (wp.heap.size ≤ q ∧ (Value.slice ha1 hn1 hc1).ownBlock = some q)) (plusR R w4 wp) (.slice ha1 hn1 hc1) (xs.drop (A + 1)) ∧ (∀ q, (Value.slice ha1 hn1 hc1).ownBlock = some q → (S q ∧ (Value.slice (some ⟨vb, 0, none⟩) n cap).ownBlock = some q) ∨ wp.heap.size ≤ q) :=
          ⟨w4, none, Below.refl _ _, g6, fun q hq => (by cases hq), O6.same (fun _ h => h) (fun _ _ h => h) (fun _ h => .inl h) (fun _ _ _ => rfl) (fun _ _ => rfl), fun q hq => .inr (at6 q hq)⟩
        have F2' := (g6.block b2 (lt_of_block F2) (fun e => by cases e)).trans F2
        have F4' := (g6.block b4 (lt_of_block F4) (fun e => by cases e)).trans F4
        have G2 := rec_set1 F2' (.slice ha1 hn1 hc1)
        have G4 := (heap_setCell_other w6 ⟨b2, 1, none⟩ b4 (.slice ha1 hn1 hc1) (fun e => h24 e.symm)).trans F4'
        have K6 := (with_fin0 BB hSl0 (fun q hq => (hR0.block hq).2.2) A6).set (x := .slice ha1 hn1 hc1) (k := 1) hRl0 F2' l2
        obtain ⟨p0, p1⟩ := rec_cells F2'
        have pf := rec_frozen F2'
        clear hcut hK A6 O6 g6 at6 R4 hm F4' 
        go_upto_region 5 with fail
        go_upto_region 6 with (at_builtin; refine Lib.wpList_append_run _ rfl _ _ 76 76 rfl _ _ rfl rfl _ _ hr6 ?_)
        generalize w6.setCell ⟨b2, 1, none⟩ (.slice ha1 hn1 hc1) = w7 at *
        clear p0 p1 pf
        obtain ⟨p0, p1⟩ := rec_cells G2
        obtain ⟨v0, v1⟩ := rec_cells G4
        have vf := rec_frozen G4
        have H6 := rec_set01 G4 chg (.slice ha1 hn1 hc1)
        have K9 := (K6.set (x := .int .i64 chg) (k := 0) hRl0 G4 l4).set (x := .slice ha1 hn1 hc1) (k := 1) hRl0 (rec_set0 G4 chg) l4
        clear K6 G4
        go_wp2
        exact bodyPost_ret (v := .agg #[.int .i64 chg, .slice ha1 hn1 hc1]) (results_cell Try.results41 rfl (load78 H6)) rfl ⟨ha1, hn1, hc1, rfl, by rw [hfl.out]; exact K9⟩
      · obtain ⟨ha1, hn1, hc1, w6, hr6, O6, g6, at6⟩ := app_rest w4 R4 (off := (A + 1) * 5) (c1 := cap - (A + 1)) 76 (A + 1) (n - (A + 1)) hm.out (fun _ => rfl) hxl
        have A6 : ∃ (wp : World) (row : Option Nat), Below w4.heap.size w4 wp ∧ wp.grownBy w6 row ∧ (∀ q, row = some q → S q ∧ (Value.slice (some ⟨vb, 0, none⟩) n cap).ownBlock = some q ∧ ∃ cur, w6.heap[q]? = some (.cells cur 104 (0, 0))) ∧ RowT w6 (fun q => S q ∨ (wp.heap.size ≤ q ∧ (Value.slice ha1 hn1 hc1).ownBlock = some q)) (plusR R w4 wp) (.slice ha1 hn1 hc1) (xs.drop (A + 1)) ∧ (∀ q, (Value.slice ha1 hn1 hc1).ownBlock = some q → (S q ∧ (Value.slice (some ⟨vb, 0, none⟩) n cap).ownBlock = some q) ∨ wp.heap.size ≤ q) :=
          ⟨w4, none, Below.refl _ _, g6, fun q hq => (by cases hq), O6.same (fun _ h => h) (fun _ _ h => h) (fun _ h => .inl h) (fun _ _ _ => rfl) (fun _ _ => rfl), fun q hq => .inr (at6 q hq)⟩
        have F2' := (g6.block b2 (lt_of_block F2) (fun e => by cases e)).trans F2
        have F4' := (g6.block b4 (lt_of_block F4) (fun e => by cases e)).trans F4
        have G2 := rec_set1 F2' (.slice ha1 hn1 hc1)
        have G4 := (heap_setCell_other w6 ⟨b2, 1, none⟩ b4 (.slice ha1 hn1 hc1) (fun e => h24 e.symm)).trans F4'
        have K6 := (with_fin0 BB hSl0 (fun q hq => (hR0.block hq).2.2) A6).set (x := .slice ha1 hn1 hc1) (k := 1) hRl0 F2' l2
        obtain ⟨p0, p1⟩ := rec_cells F2'
        have pf := rec_frozen F2'
        clear hcut hK A6 O6 g6 at6 R4 hm F4' 
        go_upto_region 5 with fail
        go_upto_region 6 with (at_builtin; refine Lib.wpList_append_run _ rfl _ _ 76 76 rfl _ _ rfl rfl _ _ hr6 ?_)
        generalize w6.setCell ⟨b2, 1, none⟩ (.slice ha1 hn1 hc1) = w7 at *
        clear p0 p1 pf
        obtain ⟨p0, p1⟩ := rec_cells G2
        obtain ⟨v0, v1⟩ := rec_cells G4
        have vf := rec_frozen G4
        have H6 := rec_set01 G4 chg (.slice ha1 hn1 hc1)
        have K9 := (K6.set (x := .int .i64 chg) (k := 0) hRl0 G4 l4).set (x := .slice ha1 hn1 hc1) (k := 1) hRl0 (rec_set0 G4 chg) l4
        clear K6 G4
        go_wp2
        exact bodyPost_ret (v := .agg #[.int .i64 chg, .slice ha1 hn1 hc1]) (results_cell Try.results41 rfl (load78 H6)) rfl ⟨ha1, hn1, hc1, rfl, by rw [hfl.out]; exact K9⟩
    | false =>
      rw [hg] at c1 hcut
      have hK : Hid (cutN c xs = A) := by show cutN c xs = A; rw [hcut.out]; rfl
      rcases Nat.eq_zero_or_pos A with hA0 | hApos
      · subst hA0
        have hcut0 : cutN c xs = 0 := hK.out
        have hfl : Hid (fromL c xs = xs) := by show fromL c xs = xs; unfold fromL; rw [hcut0, List.drop_zero]
        obtain ⟨v0, v1⟩ := rec_cells F4
        have vf := rec_frozen F4
        have G6 := rec_set01 F4 chg (.slice (some ⟨vb, 0, none⟩) n cap)
        have B9 := below_setCell (i := 1) (x := .slice (some ⟨vb, 0, none⟩) n cap) (below_setCell (i := 0) (x := .int .i64 chg) BB l4) l4
        clear hcut0 hcut hK R4 F2
        go_wp2
        exact bodyPost_ret (v := .agg #[.int .i64 chg, .slice (some ⟨vb, 0, none⟩) n cap]) (results_cell Try.results41 rfl (load78 G6)) rfl ⟨(some ⟨vb, 0, none⟩), n, cap, rfl, by rw [hfl.out]; exact ⟨with_keep B9 hR0, Fr.of_below B9, fun q hq => .inl hq, fun q _ hq => by obtain ⟨_, hl, cur, hh⟩ := hR0.block hq; exact ⟨cur, (B9.block q hl).trans hh⟩⟩⟩
      · have hAp : (0 : Int) < (A : Int) := by omega
        have hm : (A) + (n - (A)) = n := by omega
        replace hm : Hid ((A) + (n - (A)) = n) := hm
        have hcap := R4.isC.room
        have hcm := R4.isC.most
        unfold maxLen at hcm
        have hfl : Hid (fromL c xs = xs.drop (A)) := by show fromL c xs = xs.drop (A); unfold fromL; rw [hK.out]
        by_cases hcc : cap = (A)
        · omega
        · obtain ⟨ha1, hn1, hc1, w6, hr6, O6, g6, at6⟩ := app_rest w4 R4 (off := (A) * 5) (c1 := cap - (A)) 76 (A) (n - (A)) hm.out (fun _ => rfl) hxl
          have A6 : ∃ (wp : World) (row : Option Nat), Below w4.heap.size w4 wp ∧ wp.grownBy w6 row ∧ (∀ q, row = some q → S q ∧ (Value.slice (some ⟨vb, 0, none⟩) n cap).ownBlock = some q ∧ ∃ cur, w6.heap[q]? = some (.cells cur 104 (0, 0))) ∧ RowT w6 (fun q => S q ∨ (wp.heap.size ≤ q ∧ (Value.slice ha1 hn1 hc1).ownBlock = some q)) (plusR R w4 wp) (.slice ha1 hn1 hc1) (xs.drop (A)) ∧ (∀ q, (Value.slice ha1 hn1 hc1).ownBlock = some q → (S q ∧ (Value.slice (some ⟨vb, 0, none⟩) n cap).ownBlock = some q) ∨ wp.heap.size ≤ q) :=
            ⟨w4, none, Below.refl _ _, g6, fun q hq => (by cases hq), O6.same (fun _ h => h) (fun _ _ h => h) (fun _ h => .inl h) (fun _ _ _ => rfl) (fun _ _ => rfl), fun q hq => .inr (at6 q hq)⟩
          have F2' := (g6.block b2 (lt_of_block F2) (fun e => by cases e)).trans F2
          have F4' := (g6.block b4 (lt_of_block F4) (fun e => by cases e)).trans F4
          have G2 := rec_set1 F2' (.slice ha1 hn1 hc1)
          have G4 := (heap_setCell_other w6 ⟨b2, 1, none⟩ b4 (.slice ha1 hn1 hc1) (fun e => h24 e.symm)).trans F4'
          have K6 := (with_fin0 BB hSl0 (fun q hq => (hR0.block hq).2.2) A6).set (x := .slice ha1 hn1 hc1) (k := 1) hRl0 F2' l2
          obtain ⟨p0, p1⟩ := rec_cells F2'
          have pf := rec_frozen F2'
          clear hcut hK A6 O6 g6 at6 R4 hm F4' 
          go_upto_region 5 with fail
          go_upto_region 6 with (at_builtin; refine Lib.wpList_append_run _ rfl _ _ 76 76 rfl _ _ rfl rfl _ _ hr6 ?_)
          generalize w6.setCell ⟨b2, 1, none⟩ (.slice ha1 hn1 hc1) = w7 at *
          clear p0 p1 pf
          obtain ⟨p0, p1⟩ := rec_cells G2
          obtain ⟨v0, v1⟩ := rec_cells G4
          have vf := rec_frozen G4
          have H6 := rec_set01 G4 chg (.slice ha1 hn1 hc1)
          have K9 := (K6.set (x := .int .i64 chg) (k := 0) hRl0 G4 l4).set (x := .slice ha1 hn1 hc1) (k := 1) hRl0 (rec_set0 G4 chg) l4
          clear K6 G4
          go_wp2
          exact bodyPost_ret (v := .agg #[.int .i64 chg, .slice ha1 hn1 hc1]) (results_cell Try.results41 rfl (load78 H6)) rfl ⟨ha1, hn1, hc1, rfl, by rw [hfl.out]; exact K9⟩
  · have hki : ¬ (A : Int) < (n : Int) := by omega
    have hn0 : n = 0 := by have h1 := hA.out; have h2 := hn.out; omega
    have hA0 : A = 0 := by have h1 := hA.out; have h2 := hn.out; omega
    have hK : Hid (cutN c xs = 0) := by
      show cutN c xs = 0
      have := cutN_le c xs
      rw [← hn.out] at this
      omega
    subst hA0
    have hcut0 : cutN c xs = 0 := hK.out
    have hfl : Hid (fromL c xs = xs) := by show fromL c xs = xs; unfold fromL; rw [hcut0, List.drop_zero]
    obtain ⟨v0, v1⟩ := rec_cells F4
    have vf := rec_frozen F4
    have G6 := rec_set01 F4 chg (.slice ra n cap)
    have B9 := below_setCell (i := 1) (x := .slice ra n cap) (below_setCell (i := 0) (x := .int .i64 chg) BB l4) l4
    clear hcut0 hcut hK R4 F2 hn0
    go_wp2
    exact bodyPost_ret (v := .agg #[.int .i64 chg, .slice ra n cap]) (results_cell Try.results41 rfl (load78 G6)) rfl ⟨ra, n, cap, rfl, by rw [hfl.out]; exact ⟨with_keep B9 hR0, Fr.of_below B9, fun q hq => .inl hq, fun q _ hq => by obtain ⟨_, hl, cur, hh⟩ := hR0.block hq; exact ⟨cur, (B9.block q hl).trans hh⟩⟩⟩
end Go.Proofs.Ytajdelinfkodbaa
