/- The reader: changes. -/
import Derived.Test.YtjfaflmmanjjbaaTaken
import Derived.Test.YtjfaflmmanjjbaaGet
namespace Go.Proofs.Ytjfaflmmanjjbaa
open Go.RowKit
set_option maxRecDepth 100000
/-- One change read. -/
def chR (s : Option (List Int)) : Ch × Option (List Int) :=
  if (oR (nR 4096 s).2).1 = 0 then (⟨((nR 4096 s).1 : Int), false, (objR (oR (nR 4096 s).2).2).1, (objR (oR (nR 4096 s).2).2).2.1, (objR (oR (nR 4096 s).2).2).2.2.1⟩, (objR (oR (nR 4096 s).2).2).2.2.2)
  else if (oR (nR 4096 s).2).1 = 1 then (⟨((nR 4096 s).1 : Int), true, 0, [], []⟩, (oR (nR 4096 s).2).2)
  else (⟨((nR 4096 s).1 : Int), false, 0, [], []⟩, none)
def chsR : Nat → Option (List Int) → List Ch × Option (List Int)
  | 0, s => ([], s)
  | n + 1, s => if (chR s).2 = none then ([], none) else ((chR s).1 :: (chsR n (chR s).2).1, (chsR n (chR s).2).2)
theorem chsR_stop {n : Nat} {s : Option (List Int)} {p : Ch} (h : chR s = (p, none)) : chsR (n + 1) s = ([], none) := by
  simp [chsR, h]
theorem chsR_go {n : Nat} {s : Option (List Int)} {p : Ch} {t : List Int} (h : chR s = (p, some t)) : chsR (n + 1) s = (p :: (chsR n (some t)).1, (chsR n (some t)).2) := by
  simp [chsR, h]
theorem tR_len (s : Option (List Int)) : lenS (tR s).2 ≤ lenS s := by
  unfold tR
  split
  · simp [lenS]
  · simp [lenS]
theorem objR_len (s : Option (List Int)) : lenS (objR s).2.2.2 ≤ lenS s := by
  have h1 := tR_len (slotsR (nR 256 (nR 4096 s).2).1 (nR 256 (nR 4096 s).2).2).2
  have h2 := slotsR_len (nR 256 (nR 4096 s).2).1 (nR 256 (nR 4096 s).2).2
  have h3 := nR_len 256 (nR 4096 s).2
  have h4 := nR_len 4096 s
  unfold objR
  dsimp only
  generalize lenS (tR (slotsR (nR 256 (nR 4096 s).2).1 (nR 256 (nR 4096 s).2).2).2).2 = a at *
  generalize lenS (slotsR (nR 256 (nR 4096 s).2).1 (nR 256 (nR 4096 s).2).2).2 = c at *
  exact Nat.le_trans h1 (Nat.le_trans h2 (Nat.le_trans h3 h4))
theorem OwnC.keep {w w' : World} {base e : Nat} {v : Value} {xs : List Ch} (h : OwnC w base e v xs) (hv : ∀ g, v.ownBlock = some g → w'.heap[g]? = w.heap[g]?) (hk : ∀ (g : Nat) (cur : Array Value) (e' : Nat), (e' = 23 ∨ e' = 5) → w.heap[g]? = some (Obj.cells cur e' (0, 0)) → w'.heap[g]? = w.heap[g]?) : OwnC w' base e v xs := by
  obtain ⟨ss, k1, k2, k3, k4⟩ := h
  exact ⟨ss, own_same k1 hv, k2, fun s hs => (k3 s hs).same hk, k4⟩
theorem OwnC.lt {w : World} {base e : Nat} {v : Value} {xs : List Ch} (h : OwnC w base e v xs) : ∀ g, v.ownBlock = some g → base ≤ g ∧ g < w.heap.size := fun g hg => by
  obtain ⟨ss, k1, _⟩ := h
  obtain ⟨h1, cur, hh⟩ := own_block k1 hg
  exact ⟨h1, lt_of_block hh⟩
theorem OwnC.but {w w' : World} {base e b t : Nat} {v : Value} {xs : List Ch} {c : Array Value} (h : OwnC w base e v xs) (K : But b w w') (hb : w.heap[b]? = some (.cells c t (0, 0))) (h1 : b < base) (h2 : t ≠ 23) (h3 : t ≠ 5) : OwnC w' base e v xs :=
  h.keep (fun g hg => K.block g (h.lt g hg).2 (by have := (h.lt g hg).1; omega)) fun g cur e' he hg => K.block g (lt_of_block hg) (by
    rintro rfl
    rw [hb] at hg
    have := cells_ty hg
    omega)
/-- A store into a block of another kind, that is not the row's own. -/
theorem OwnC.put {w : World} {base e b i t : Nat} {v x : Value} {xs : List Ch} {c : Array Value} (h : OwnC w base e v xs) (hb : w.heap[b]? = some (.cells c t (0, 0))) (h1 : ∀ g, v.ownBlock = some g → g ≠ b) (h2 : t ≠ 23) (h3 : t ≠ 5) : OwnC (w.setCell ⟨b, i, none⟩ x) base e v xs :=
  h.keep (fun g hg => heap_setCell_other _ _ _ _ (h1 g hg)) fun g cur e' he hg => heap_setCell_other _ _ _ _ (by
    rintro rfl
    rw [hb] at hg
    have := cells_ty hg
    omega)
/-- append of one change. -/
theorem app_chL {ops : Array Oper} {rest : List Oper} {o : Oper} {a : Act} {Q : Exit → Act → World → Prop} (w : World) (hgd : o.guard = none) (s x : Operand)
    (ho : o.op = .call { callee := .builtin .append, args := #[s, x], argTypes := #[50, 50] })
    (base : Nat) (v : Value) (xs : List Ch) (hs : a.eval s = v) (hown : OwnC w base 77 v xs)
    (b : Nat) (y : Cs) (hx : a.eval x = .slice (some ⟨b, 0, none⟩) 1 1) (hc : ∀ j v, y.cells[j]? = some v → w.cell? ⟨b, j, none⟩ = some v) (hy : El w y) (hyo : -9223372036854775808 ≤ y.x.oop ∧ y.x.oop ≤ 9223372036854775807)
    (h47 : xs.length ≤ 1954687338265) (hbase : base ≤ w.heap.size)
    (h : ∀ a' n' c' w', OwnC w' base 77 (.slice a' n' c') (xs ++ [y.x]) → Below base w w' → wpList Try.prog ops Q rest (a.put o.dst (.slice a' n' c')) w') : wpList Try.prog ops Q (o :: rest) a w := by
  obtain ⟨i0, hi, hz0, hz1, hz2⟩ := info_parts Try.info77
  obtain ⟨ss, h1, h2, h3, h4⟩ := hown
  have hl : ss.length = xs.length := by rw [← h2, List.length_map]
  refine wpList_append_own w hgd s x 50 ho base 77 i0 (.agg #[.int .i64 0, .bool false, .int .i64 0, .slice none 0 0, .slice none 0 0]) 5 72 Try.underlying50 hi hz0 hz1 hz2 rfl (by decide) _ ss.length _ hs h1 ⟨b, 0, none⟩ 1 1 (flatC [y]) hx rfl (cell_at rfl hc) (flatC_one _) (by unfold maxLen; omega) (by omega) hbase ?_
  intro v' w' hown' hgrow _
  rw [← flatC_app] at hown'
  have hown2 : w'.ownsRow base 77 5 v' (ss ++ [y]).length (flatC (ss ++ [y])) := by rw [List.length_append]; exact hown'
  obtain ⟨a', n', c', hv⟩ : ∃ a n c, v' = .slice a n c := by
    rcases hown2.2 with ⟨rfl, h0⟩ | ⟨g, cap, cur, rfl, _⟩
    · exact ⟨none, 0, 0, rfl⟩
    · exact ⟨_, _, _, rfl⟩
  subst hv
  have hsame : ∀ s : Cs, El w s → El w' s := fun s hs => hs.same fun g cur e' he hg => hgrow.block g (lt_of_block hg) (fun k => own_ne h1 hg (by rcases he with rfl | rfl <;> omega) k.symm)
  refine h a' n' c' w' ⟨ss ++ [y], hown2, by rw [List.map_append, h2]; rfl, fun s hs => ?_, fun z hz => ?_⟩ ((Below.refl _ _).grown hgrow hbase (fun j hj => (h1.lt j hj).1))
  · rcases List.mem_append.1 hs with hs | hs
    · exact hsame s (h3 s hs)
    · rw [List.mem_singleton] at hs
      subst hs
      exact hsame _ hy
  · rcases List.mem_append.1 hz with hz | hz
    · exact h4 z hz
    · rw [List.mem_singleton] at hz
      subst hz
      exact hyo
/-- A change's block. -/
def chO (o : Int) (g : Bool) (c : Int) (v1 v2 : Value) : Obj := .cells #[.int .i64 o, .bool g, .int .i64 c, v1, v2] 77 (0, 0)
theorem chO_cells {w : World} {b : Nat} {o c : Int} {g : Bool} {v1 v2 : Value} (h : w.heap[b]? = some (chO o g c v1 v2)) : w.cell? ⟨b, 0, none⟩ = some (.int .i64 o) ∧ w.cell? ⟨b, 1, none⟩ = some (.bool g) ∧ w.cell? ⟨b, 2, none⟩ = some (.int .i64 c) ∧ w.cell? ⟨b, 3, none⟩ = some v1 ∧ w.cell? ⟨b, 4, none⟩ = some v2 ∧ ∀ i, w.frozen? ⟨b, i, none⟩ = false := by
  unfold chO at h
  refine ⟨?_, ?_, ?_, ?_, ?_, fun i => frozen_of_row w b i _ _ h⟩ <;> (rw [cell_of_row w b _ _ _ _ h]; rfl)
theorem chO_set1 {w : World} {b : Nat} {o c : Int} {g : Bool} {v1 v2 : Value} (h : w.heap[b]? = some (chO o g c v1 v2)) (g' : Bool) : (w.setCell ⟨b, 1, none⟩ (.bool g')).heap[b]? = some (chO o g' c v1 v2) := by
  unfold chO at h ⊢
  rw [heap_setCell_same w b 1 _ _ _ h]
  simp
/-- An object stored into a change. -/
def stC (w : World) (b : Nat) (c : Int) (v1 v2 : Value) : World := ((w.setCell ⟨b, 2, none⟩ (.int .i64 c)).setCell ⟨b, 3, none⟩ v1).setCell ⟨b, 4, none⟩ v2
theorem stC_blk {w : World} {b : Nat} {o c0 : Int} {g : Bool} {u1 u2 : Value} (h : w.heap[b]? = some (chO o g c0 u1 u2)) (c : Int) (v1 v2 : Value) : (stC w b c v1 v2).heap[b]? = some (chO o g c v1 v2) := by
  have h1 : (w.setCell ⟨b, 2, none⟩ (.int .i64 c)).heap[b]? = some (chO o g c u1 u2) := by
    unfold chO at h ⊢
    rw [heap_setCell_same w b 2 _ _ _ h]
    simp
  have h2 : ((w.setCell ⟨b, 2, none⟩ (.int .i64 c)).setCell ⟨b, 3, none⟩ v1).heap[b]? = some (chO o g c v1 u2) := by
    unfold chO at h1 ⊢
    rw [heap_setCell_same _ b 3 _ _ _ h1]
    simp
  unfold stC chO at *
  rw [heap_setCell_same _ b 4 _ _ _ h2]
  simp
theorem stC_other {w : World} {b g : Nat} (h : g ≠ b) (c : Int) (v1 v2 : Value) : (stC w b c v1 v2).heap[g]? = w.heap[g]? :=
  (heap_setCell_other _ ⟨b, 4, none⟩ g v2 h).trans ((heap_setCell_other _ ⟨b, 3, none⟩ g v1 h).trans (heap_setCell_other _ ⟨b, 2, none⟩ g _ h))
theorem stC_below {B b : Nat} {w w' : World} (h : Below B w w') (hb : B ≤ b) (c : Int) (v1 v2 : Value) : Below B w (stC w' b c v1 v2) := below_setCell (below_setCell (below_setCell h hb) hb) hb
end Go.Proofs.Ytjfaflmmanjjbaa
namespace Go.Proofs.Ytjfaflmmanjjbaa
open Go.RowKit
set_option maxRecDepth 100000
set_option maxHeartbeats 8000000 in
theorem changes_rd {w0 w : World} {b : Nat} {s : Option (List Int)} (h : Rd w0 w b s) (B : Below w0.heap.size w0 w) (hb0 : w0.heap.size ≤ b) (hl : lenS s ≤ 140737488500000) : Calls Try.prog 53 #[.pointer (some ⟨b, 0, none⟩)] w fun e w' => ∃ v, e = .returned v ∧ OwnC w' w.heap.size 77 v (chsR (nR 4096 s).1 (nR 4096 s).2).1 ∧ Rd w0 w' b (chsR (nR 4096 s).1 (nR 4096 s).2).2 ∧ But b w w' := by
  have hbw : b < w.heap.size := by obtain ⟨_, _, _, E, _⟩ := h.blk; exact lt_of_block E
  have hN := nR_le (most := 4096) (s := s)
  have hN2 := nR_len 4096 s
  obtain ⟨N, s0, hNs⟩ : ∃ N s0, Hid (nR 4096 s = (N, s0)) := ⟨_, _, rfl⟩
  rw [hNs.out] at hN hN2 ⊢
  dsimp only at hN hN2 ⊢
  go_enter Try.func53, Try.ntmps53
  go_wp2_with fail
  go_step3
  go_wp2_with fail
  go_step3
  go_wp2_with fail
  refine (number_lit h B 4096 4096 rfl (by decide)).mono ?_
  rintro e w1 ⟨rfl, R1, K1⟩
  rw [hNs.out] at R1 ⊢
  dsimp only at R1 ⊢
  clear h
  go_wp2
  go_loopw [3, 7] (fun ov iv wr => ∃ (k : Nat) (a : Option Addr) (n c : Nat) (vs : List Ch) (s' : Option (List Int)), k ≤ N ∧ iv = .int .i64 (k : Int) ∧ ov = .slice a n c ∧ OwnC wr w.heap.size 77 (.slice a n c) vs ∧ vs.length = k ∧ Rd w0 wr b s' ∧ lenS s' ≤ 140737488500000 ∧ But b w wr ∧ chsR N s0 = (vs ++ (chsR (N - k) s').1, (chsR (N - k) s').2)) (fun _ iv _ => N - (intOf iv).toNat)
  case atStart => exact ⟨0, none, 0, 0, [], s0, by omega, rfl, rfl, ownC_nil _ _ _, rfl, R1, by omega, K1, by simp⟩
  case round =>
    clear R1 K1
    obtain ⟨k, a, n, c, vs, s', hk, rfl, rfl, O, hvl, R, hls, K, hS0⟩ := hrel
    have hS : Hid (chsR N s0 = (vs ++ (chsR (N - k) s').1, (chsR (N - k) s').2)) := hS0
    clear hS0
    have Bw := K.below B B.size hb0
    by_cases hlt : k < N
    · obtain ⟨j, hj⟩ : ∃ j, Hid (N - k = j + 1) := ⟨N - k - 1, by show N - k = _; omega⟩
      have hm := nR_le (most := 4096) (s := s')
      have hm2 := nR_len 4096 s'
      obtain ⟨m, t', hmt⟩ : ∃ m t', Hid (nR 4096 s' = (m, t')) := ⟨_, _, rfl⟩
      rw [hmt.out] at hm hm2
      dsimp only at hm hm2
      have ho2 := oR_len t'
      obtain ⟨o, u', ho⟩ : ∃ o u', Hid (oR t' = (o, u')) := ⟨_, _, rfl⟩
      rw [ho.out] at ho2
      dsimp only at ho2
      have hc0 : chR s' = if o = 0 then (⟨(m : Int), false, (objR u').1, (objR u').2.1, (objR u').2.2.1⟩, (objR u').2.2.2) else if o = 1 then (⟨(m : Int), true, 0, [], []⟩, u') else (⟨(m : Int), false, 0, [], []⟩, none) := by unfold chR; rw [hmt.out]; dsimp only; rw [ho.out]
      obtain ⟨_, _, _, rE, _⟩ := R.blk
      unfold rdO at rE
      go_wp2_with fail
      refine (number_lit R Bw 4096 4096 rfl (by decide)).mono ?_
      rintro e w2 ⟨rfl, R2, K2⟩
      rw [hmt.out] at R2 ⊢
      dsimp only at R2 ⊢
      obtain ⟨mi, hmi⟩ : ∃ mi : Int, Hid ((m : Int) = mi) := ⟨_, rfl⟩
      have hmb : 0 ≤ mi ∧ mi ≤ 4096 := by have := hmi.out; omega
      rw [hmi.out] at hc0 ⊢
      have O2 := O.but K2 rE hbw (by decide) (by decide)
      have K2' := K.trans K2
      clear O R K K2 Bw rE
      have B3 : Below w2.heap.size w2 (w2.alloc (.cells #[.int .i64 mi, .bool false, .int .i64 0, .slice none 0 0, .slice none 0 0] 77)) := box_below
      have E3 : (w2.alloc (.cells #[.int .i64 mi, .bool false, .int .i64 0, .slice none 0 0, .slice none 0 0] 77)).heap[w2.heap.size]? = some (chO mi false 0 (.slice none 0 0) (.slice none 0 0)) := new1 _ _
      have O3 := O2.below B3
      have R3 := R2.keep (B3.block b (by have := K2'.size; omega))
      have K3 := K2'.trans (But.of B3)
      have hvb : w.heap.size ≤ w2.heap.size := K2'.size
      have hgv : ∀ g, (Value.slice a n c).ownBlock = some g → g ≠ w2.heap.size := fun g hg => Nat.ne_of_lt (O2.lt g hg).2
      clear R2 O2 B3 K2'
      go_wp2_with fail
      generalize w2.alloc (.cells #[.int .i64 mi, .bool false, .int .i64 0, .slice none 0 0, .slice none 0 0] 77) = w3 at *
      generalize w2.heap.size = cb at *
      have hcb : cb ≠ b := by omega
      have Bw3 := K3.below B B.size hb0
      obtain ⟨_, _, _, rE, _⟩ := R3.blk
      unfold rdO at rE
      refine (octet_rd R3 Bw3).mono ?_
      rintro e w4 ⟨rfl, R4, K4⟩
      rw [ho.out] at R4 ⊢
      dsimp only at R4 ⊢
      have E4 := (K4.block cb (lt_of_block E3) hcb).trans E3
      have O4 := O3.but K4 rE hbw (by decide) (by decide)
      have K4' := K3.trans K4
      clear R3 O3 K3 E3 K4 Bw3 rE hmt ho hmi
      by_cases h0 : o = 0
      · subst h0
        rw [if_pos rfl] at hc0
        have Bw4 := K4'.below B B.size hb0
        have hol := objR_len u'
        have hcl := nR_le (most := 4096) (s := u')
        have hcl2 : (objR u').1 = ((nR 4096 u').1 : Int) := rfl
        obtain ⟨oc, os, ob, t5, hob⟩ : ∃ oc os ob t5, Hid (objR u' = (oc, os, ob, t5)) := ⟨_, _, _, _, rfl⟩
        rw [hob.out] at hc0 hol hcl2
        dsimp only at hc0 hol hcl2
        have hocb : 0 ≤ oc ∧ oc ≤ 4096 := by omega
        clear hcl hcl2
        obtain ⟨_, _, _, rE, _⟩ := R4.blk
        unfold rdO at rE
        go_wp2_with fail
        refine (object_rd R4 Bw4 hb0 (by omega)).mono ?_
        rintro e w5 ⟨vv, bv, rfl, V5, P5, R5, K5⟩
        rw [hob.out] at V5 P5 R5 ⊢
        dsimp only at V5 P5 R5 ⊢
        obtain ⟨va, vn, vc, rfl⟩ := V5.shape'
        obtain ⟨ba, bn, bc, rfl⟩ := P5.shape'
        have E5 := (K5.block cb (lt_of_block E4) hcb).trans E4
        have hcw : cb < w4.heap.size := lt_of_block E4
        have O5 := O4.but K5 rE hbw (by decide) (by decide)
        have K5' := K4'.trans K5
        clear O4 R4 K4' K5 E4 Bw4 rE hob
        have E6 := stC_blk E5 oc (.slice va vn vc) (.slice ba bn bc)
        have O6 : OwnC (stC w5 cb oc (.slice va vn vc) (.slice ba bn bc)) w.heap.size 77 (.slice a n c) vs := by
          refine O5.keep (fun g hg => stC_other (hgv g hg) _ _ _) fun g cur e' he hg => stC_other ?_ _ _ _
          rintro rfl
          rw [E5] at hg
          have := cells_ty hg
          omega
        have V6 := V5.same (w' := stC w5 cb oc (.slice va vn vc) (.slice ba bn bc)) (fun g hg => stC_other (by have := (V5.lt g hg).1; omega) _ _ _)
        have P6 := P5.same (w' := stC w5 cb oc (.slice va vn vc) (.slice ba bn bc)) (fun g hg => stC_other (by have := (P5.lt g hg).1; omega) _ _ _)
        have R6 := R5.keep (w' := stC w5 cb oc (.slice va vn vc) (.slice ba bn bc)) (stC_other (Ne.symm hcb) _ _ _)
        have K6 : But b w (stC w5 cb oc (.slice va vn vc) (.slice ba bn bc)) := K5'.then_below (stC_below (Below.refl _ _) hvb _ _ _)
        obtain ⟨v0, v1, v2, v3, v4, vf⟩ := chO_cells E5
        clear O5 V5 P5 K5'
        cases t5 with
        | none =>
          have hsl : Hid (chR s' = (⟨mi, false, oc, os, ob⟩, none)) := hc0
          obtain ⟨y0', y1', yf'⟩ := rd_cells R5
          have R6' := R6
          unfold stC at R6'
          obtain ⟨y0, y1, yf⟩ := rd_cells R6'
          clear hc0 E5 E6 V6 P6 R5 R6'
          unfold stC at O6 R6 K6
          go_wp2
          (try rw [Exit.noGoto_ret])
          go_ret
          exact ⟨_, rfl, by rw [hS.out, hj.out, chsR_stop hsl.out]; simpa using O6, by rw [hS.out, hj.out, chsR_stop hsl.out]; exact R6, K6⟩
        | some t5 =>
          have hsl : Hid (chR s' = (⟨mi, false, oc, os, ob⟩, some t5)) := hc0
          obtain ⟨_, _, _, yE', _⟩ := R5
          obtain ⟨y0', y1', yf'⟩ := rd_cells yE'
          clear hc0 E5 yE'
          have B9 : Below (((w5.setCell ⟨cb, 2, none⟩ (.int .i64 oc)).setCell ⟨cb, 3, none⟩ (.slice va vn vc)).setCell ⟨cb, 4, none⟩ (.slice ba bn bc)).heap.size (((w5.setCell ⟨cb, 2, none⟩ (.int .i64 oc)).setCell ⟨cb, 3, none⟩ (.slice va vn vc)).setCell ⟨cb, 4, none⟩ (.slice ba bn bc)) ((((w5.setCell ⟨cb, 2, none⟩ (.int .i64 oc)).setCell ⟨cb, 3, none⟩ (.slice va vn vc)).setCell ⟨cb, 4, none⟩ (.slice ba bn bc)).alloc (.cells #[.int .i64 mi, .bool false, .int .i64 oc, .slice va vn vc, .slice ba bn bc] 77)) := box_below
          have I9 := lit_cells (w := (((w5.setCell ⟨cb, 2, none⟩ (.int .i64 oc)).setCell ⟨cb, 3, none⟩ (.slice va vn vc)).setCell ⟨cb, 4, none⟩ (.slice ba bn bc))) (y := (⟨⟨mi, false, oc, os, ob⟩, va, vn, vc, ba, bn, bc⟩ : Cs)) (t := 77)
          rw [show (((w5.setCell ⟨cb, 2, none⟩ (.int .i64 oc)).setCell ⟨cb, 3, none⟩ (.slice va vn vc)).setCell ⟨cb, 4, none⟩ (.slice ba bn bc)).heap.size = w5.heap.size by simp] at I9
          have L9 : El (((w5.setCell ⟨cb, 2, none⟩ (.int .i64 oc)).setCell ⟨cb, 3, none⟩ (.slice va vn vc)).setCell ⟨cb, 4, none⟩ (.slice ba bn bc)) (⟨⟨mi, false, oc, os, ob⟩, va, vn, vc, ba, bn, bc⟩ : Cs) := ⟨by dsimp only; omega, ⟨_, V6⟩, ⟨_, P6⟩⟩
          have L9' := L9.below B9
          have O9 := OwnC.below (w := (((w5.setCell ⟨cb, 2, none⟩ (.int .i64 oc)).setCell ⟨cb, 3, none⟩ (.slice va vn vc)).setCell ⟨cb, 4, none⟩ (.slice ba bn bc))) O6 B9
          have K9 : But b w ((((w5.setCell ⟨cb, 2, none⟩ (.int .i64 oc)).setCell ⟨cb, 3, none⟩ (.slice va vn vc)).setCell ⟨cb, 4, none⟩ (.slice ba bn bc)).alloc (.cells #[.int .i64 mi, .bool false, .int .i64 oc, .slice va vn vc, .slice ba bn bc] 77)) := But.trans (w1 := (((w5.setCell ⟨cb, 2, none⟩ (.int .i64 oc)).setCell ⟨cb, 3, none⟩ (.slice va vn vc)).setCell ⟨cb, 4, none⟩ (.slice ba bn bc))) K6 (But.of B9)
          have R9 := Rd.keep (w := (((w5.setCell ⟨cb, 2, none⟩ (.int .i64 oc)).setCell ⟨cb, 3, none⟩ (.slice va vn vc)).setCell ⟨cb, 4, none⟩ (.slice ba bn bc))) R6 (B9.block b (by have := K6.size; (try simp only [stC] at this); omega))
          obtain ⟨x0, x1, x2, x3, x4, xf⟩ := chO_cells (w := (((w5.setCell ⟨cb, 2, none⟩ (.int .i64 oc)).setCell ⟨cb, 3, none⟩ (.slice va vn vc)).setCell ⟨cb, 4, none⟩ (.slice ba bn bc))) E6
          obtain ⟨_, _, _, yE, _⟩ := R6
          obtain ⟨y0, y1, yf⟩ := rd_cells (w := (((w5.setCell ⟨cb, 2, none⟩ (.int .i64 oc)).setCell ⟨cb, 3, none⟩ (.slice va vn vc)).setCell ⟨cb, 4, none⟩ (.slice ba bn bc))) yE
          clear O6 K6 E6 L9 yE V6 P6
          go_wp2_with (at_builtin; refine app_chL _ rfl _ _ rfl w.heap.size _ vs rfl O9 _ (⟨⟨mi, false, oc, os, ob⟩, va, vn, vc, ba, bn, bc⟩ : Cs) rfl I9 L9' (by dsimp only; omega) (by omega) (by have := K9.size; omega) ?_)
          intro a5 n5 c5 w9 O10 B10
          have R10 := R9.keep (B10.block b hbw)
          have K10 := K9.then_below B10
          clear O9 K9 R9 I9 B9 B10 L9' x0 x1 x2 x3 x4 xf y0 y1 yf v0 v1 v2 v3 v4 vf y0' y1' yf'
          go_wp2
          go_roundw
          case rel => exact ⟨k + 1, a5, n5, c5, vs ++ [⟨mi, false, oc, os, ob⟩], _, by omega, by go_num, rfl, O10, by simp [hvl], R10, by omega, K10, by rw [hS.out, hj.out, chsR_go hsl.out]; simp [show N - (k + 1) = j by have := hj.out; omega]⟩
          case measure => simp [intOf]; omega
      rw [if_neg h0] at hc0
      have b0 : (o == 0) = false := by simp; omega
      by_cases h1 : o = 1
      · subst h1
        rw [if_pos rfl] at hc0
        have E6 := chO_set1 E4 true
        have O6 : OwnC (w4.setCell ⟨cb, 1, none⟩ (.bool true)) w.heap.size 77 (.slice a n c) vs := O4.put E4 hgv (by decide) (by decide)
        have R6 := R4.keep (w' := w4.setCell ⟨cb, 1, none⟩ (.bool true)) (heap_setCell_other _ _ _ _ (Ne.symm hcb))
        have K6 : But b w (w4.setCell ⟨cb, 1, none⟩ (.bool true)) := K4'.then_below (below_setCell (Below.refl _ _) hvb)
        obtain ⟨v0, v1, v2, v3, v4, vf⟩ := chO_cells E4
        clear O4 K4' E4
        cases u' with
        | none =>
          have hsl : Hid (chR s' = (⟨mi, true, 0, [], []⟩, none)) := hc0
          obtain ⟨y0', y1', yf'⟩ := rd_cells R4
          obtain ⟨y0, y1, yf⟩ := rd_cells R6
          clear hc0 E6 R4
          go_wp2
          (try rw [Exit.noGoto_ret])
          go_ret
          exact ⟨_, rfl, by rw [hS.out, hj.out, chsR_stop hsl.out]; simpa using O6, by rw [hS.out, hj.out, chsR_stop hsl.out]; exact R6, K6⟩
        | some t5 =>
          have hsl : Hid (chR s' = (⟨mi, true, 0, [], []⟩, some t5)) := hc0
          have hol : lenS (some t5) ≤ lenS (some t5) := Nat.le_refl _
          obtain ⟨_, _, _, yE', _⟩ := R4
          obtain ⟨y0', y1', yf'⟩ := rd_cells yE'
          clear hc0 yE'
          have B9 : Below (w4.setCell ⟨cb, 1, none⟩ (.bool true)).heap.size (w4.setCell ⟨cb, 1, none⟩ (.bool true)) ((w4.setCell ⟨cb, 1, none⟩ (.bool true)).alloc (.cells #[.int .i64 mi, .bool true, .int .i64 0, .slice none 0 0, .slice none 0 0] 77)) := box_below
          have I9 := lit_cells (w := (w4.setCell ⟨cb, 1, none⟩ (.bool true))) (y := (⟨⟨mi, true, 0, [], []⟩, none, 0, 0, none, 0, 0⟩ : Cs)) (t := 77)
          rw [show (w4.setCell ⟨cb, 1, none⟩ (.bool true)).heap.size = w4.heap.size by simp] at I9
          have L9 : El (w4.setCell ⟨cb, 1, none⟩ (.bool true)) (⟨⟨mi, true, 0, [], []⟩, none, 0, 0, none, 0, 0⟩ : Cs) := ⟨by dsimp only; omega, ⟨_, ownV_nil _ 0⟩, ⟨_, ownB_nil _ 0⟩⟩
          have L9' := L9.below B9
          have O9 := OwnC.below (w := (w4.setCell ⟨cb, 1, none⟩ (.bool true))) O6 B9
          have K9 : But b w ((w4.setCell ⟨cb, 1, none⟩ (.bool true)).alloc (.cells #[.int .i64 mi, .bool true, .int .i64 0, .slice none 0 0, .slice none 0 0] 77)) := But.trans (w1 := (w4.setCell ⟨cb, 1, none⟩ (.bool true))) K6 (But.of B9)
          have R9 := Rd.keep (w := (w4.setCell ⟨cb, 1, none⟩ (.bool true))) R6 (B9.block b (by have := K6.size; (try simp only [stC] at this); omega))
          obtain ⟨x0, x1, x2, x3, x4, xf⟩ := chO_cells (w := (w4.setCell ⟨cb, 1, none⟩ (.bool true))) E6
          obtain ⟨_, _, _, yE, _⟩ := R6
          obtain ⟨y0, y1, yf⟩ := rd_cells (w := (w4.setCell ⟨cb, 1, none⟩ (.bool true))) yE
          clear O6 K6 E6 L9 yE
          go_wp2_with (at_builtin; refine app_chL _ rfl _ _ rfl w.heap.size _ vs rfl O9 _ (⟨⟨mi, true, 0, [], []⟩, none, 0, 0, none, 0, 0⟩ : Cs) rfl I9 L9' (by dsimp only; omega) (by omega) (by have := K9.size; omega) ?_)
          intro a5 n5 c5 w9 O10 B10
          have R10 := R9.keep (B10.block b hbw)
          have K10 := K9.then_below B10
          clear O9 K9 R9 I9 B9 B10 L9' x0 x1 x2 x3 x4 xf y0 y1 yf v0 v1 v2 v3 v4 vf y0' y1' yf'
          go_wp2
          go_roundw
          case rel => exact ⟨k + 1, a5, n5, c5, vs ++ [⟨mi, true, 0, [], []⟩], _, by omega, by go_num, rfl, O10, by simp [hvl], R10, by omega, K10, by rw [hS.out, hj.out, chsR_go hsl.out]; simp [show N - (k + 1) = j by have := hj.out; omega]⟩
          case measure => simp [intOf]; omega
      rw [if_neg h1] at hc0
      have b1 : (o == 1) = false := by simp; omega
      have hsl : Hid (chR s' = (⟨mi, false, 0, [], []⟩, none)) := hc0
      clear hc0
      go_wp2_with fail
      obtain ⟨_, _, _, rE, _⟩ := R4.blk
      unfold rdO at rE
      refine (giveUp_any R4).mono ?_
      rintro e w5 ⟨rfl, R5, K5⟩
      have O5 := O4.but K5 rE hbw (by decide) (by decide)
      have K5' := K4'.trans K5
      clear R4 O4 K4' K5 E4 rE
      go_wp2
      (try rw [Exit.noGoto_ret])
      go_ret
      exact ⟨_, rfl, by rw [hS.out, hj.out, chsR_stop hsl.out]; simpa using O5, by rw [hS.out, hj.out, chsR_stop hsl.out]; exact R5, K5'⟩
    · obtain rfl : k = N := by omega
      have hkk : ¬ ((k : Int) < (k : Int)) := by omega
      go_wp2
      go_ret
      have h0 : k - k = 0 := by omega
      rw [h0] at hS
      exact ⟨_, rfl, by rw [hS.out]; simpa [chsR] using O, by rw [hS.out]; simpa [chsR] using R, K⟩
end Go.Proofs.Ytjfaflmmanjjbaa
namespace Go.Proofs.Ytjfaflmmanjjbaa
open Go.RowKit
set_option maxRecDepth 100000
/-- A record read: its commit, its changes, what is left. -/
def recR (s : Option (List Int)) : Int × List Ch × Option (List Int) :=
  (((nR 1099511627776 s).1 : Int), (chsR (nR 4096 (nR 1099511627776 s).2).1 (nR 4096 (nR 1099511627776 s).2).2).1, (chsR (nR 4096 (nR 1099511627776 s).2).1 (nR 4096 (nR 1099511627776 s).2).2).2)
/-- Are these bytes a record's? -/
def okGR (xs : List Int) : Bool := decide ((recR (some xs)).2.2 = some []) && okR (recR (some xs)).1 (recR (some xs)).2.1
def GetRP (w : World) (xs : List Int) (e : Ending) (w' : World) : Prop := Below w.heap.size w w' ∧ ((okGR xs = true ∧ ∃ a n c, e = .returned (.tuple #[.agg #[.int .i64 (recR (some xs)).1, .slice a n c], .int .i64 0]) ∧ OwnC w' w.heap.size 77 (.slice a n c) (recR (some xs)).2.1) ∨ (okGR xs = false ∧ e = .returned (.tuple #[.agg #[.int .i64 0, .slice none 0 0], .int .i64 11])))
theorem Try.results36 : Try.f36.results = #[.cell 2 52, .tmp 3] := by kernel_rfl
def stR (w : World) (b : Nat) (c : Int) (v : Value) : World := (w.setCell ⟨b, 0, none⟩ (.int .i64 c)).setCell ⟨b, 1, none⟩ v
theorem stR_blk {w : World} {b t : Nat} {c0 : Int} {u : Value} (h : w.heap[b]? = some (recB c0 u t)) (c : Int) (v : Value) : (stR w b c v).heap[b]? = some (recB c v t) := rec_set01 h c v
theorem stR_other {w : World} {b g : Nat} (h : g ≠ b) (c : Int) (v : Value) : (stR w b c v).heap[g]? = w.heap[g]? := (heap_setCell_other _ ⟨b, 1, none⟩ g v h).trans (heap_setCell_other _ ⟨b, 0, none⟩ g _ h)
theorem stR_below {B b : Nat} {w w' : World} (h : Below B w w') (hb : B ≤ b) (c : Int) (v : Value) : Below B w (stR w' b c v) := below_setCell (below_setCell h hb) hb
set_option maxHeartbeats 4000000 in
theorem getRecord_any {w : World} {a : Option Addr} {n c : Nat} {xs : List Int} (I : IsB w a n c xs) (hl : n ≤ 140737488500000) : Calls Try.prog 36 #[.slice a n c] w fun e w' => GetRP w xs e w' := by
  unfold GetRP okGR recR
  have l1 := nR_len 1099511627776 (some xs)
  obtain ⟨m, s1, h1⟩ : ∃ m s1, Hid (nR 1099511627776 (some xs) = (m, s1)) := ⟨_, _, rfl⟩
  rw [h1.out] at l1 ⊢
  dsimp only at l1 ⊢
  obtain ⟨cs, st, hC⟩ : ∃ cs st, Hid (chsR (nR 4096 s1).1 (nR 4096 s1).2 = (cs, st)) := ⟨_, _, rfl⟩
  rw [hC.out]
  dsimp only
  obtain ⟨mi, hmi⟩ : ∃ mi : Int, Hid ((m : Int) = mi) := ⟨_, rfl⟩
  rw [hmi.out]
  generalize hPost : (fun (e : Ending) (w' : World) => Below w.heap.size w w' ∧ (((decide (st = some []) && okR mi cs) = true ∧ ∃ a n c, e = .returned (.tuple #[.agg #[.int .i64 mi, .slice a n c], .int .i64 0]) ∧ OwnC w' w.heap.size 77 (.slice a n c) cs) ∨ ((decide (st = some []) && okR mi cs) = false ∧ e = .returned (.tuple #[.agg #[.int .i64 0, .slice none 0 0], .int .i64 11])))) = Post
  have E1 := old1 (old1 (new1 w (recB 0 (.slice none 0 0) 52)) (rdO (.slice a n c) false)) (recB 0 (.slice none 0 0) 52)
  have E2 := old1 (new2 w (recB 0 (.slice none 0 0) 52) (rdO (.slice a n c) false)) (recB 0 (.slice none 0 0) 52)
  have E3 := new1 ((w.alloc (recB 0 (.slice none 0 0) 52)).alloc (rdO (.slice a n c) false)) (recB 0 (.slice none 0 0) 52)
  have B2 : Below w.heap.size w (((w.alloc (recB 0 (.slice none 0 0) 52)).alloc (rdO (.slice a n c) false)).alloc (recB 0 (.slice none 0 0) 52)) := below_size (below_size box_below box_below.size box_below) (below_size box_below box_below.size box_below).size box_below
  have sz2 : w.heap.size + 1 + 1 + 1 = (((w.alloc (recB 0 (.slice none 0 0) 52)).alloc (rdO (.slice a n c) false)).alloc (recB 0 (.slice none 0 0) 52)).heap.size := by rw [size1, size1, size1]
  rw [size1, size1] at E3
  unfold recB rdO at E1 E2 E3 B2 sz2
  go_enter Try.func36, Try.ntmps36
  go_wp2_with fail
  generalize ((w.alloc (.cells #[.int .i64 0, .slice none 0 0] 52)).alloc (.cells #[.slice a n c, .bool false] 70)).alloc (.cells #[.int .i64 0, .slice none 0 0] 52) = w2 at *
  replace E1 : w2.heap[w.heap.size]? = some (recB 0 (.slice none 0 0) 52) := E1
  replace E2 : w2.heap[w.heap.size + 1]? = some (rdO (.slice a n c) false) := E2
  replace E3 : w2.heap[w.heap.size + 1 + 1]? = some (recB 0 (.slice none 0 0) 52) := E3
  have R2 : Rd w w2 (w.heap.size + 1) (some xs) := ⟨a, n, c, E2, I⟩
  have hr1 : w.heap.size ≤ w.heap.size + 1 := by omega
  have hr2 : w.heap.size ≠ w.heap.size + 1 := by omega
  have hr3 : w.heap.size + 1 + 1 ≠ w.heap.size + 1 := by omega
  have hr4 : w.heap.size + 1 + 1 ≠ w.heap.size := by omega
  have hr5 : w.heap.size ≤ w.heap.size + 1 + 1 := by omega
  have hsz := I.size
  replace sz2 : w.heap.size + 1 + 1 < w2.heap.size := by omega
  generalize w.heap.size + 1 + 1 = rr at *
  generalize w.heap.size + 1 = rb at *
  refine (number_lit R2 B2 1099511627776 1099511627776 rfl (by decide)).mono ?_
  rintro e w3 ⟨rfl, R3, K3⟩
  rw [h1.out] at R3 ⊢
  dsimp only at R3 ⊢
  rw [hmi.out]
  have B3 := K3.below B2 B2.size hr1
  have F3 := (K3.block _ (lt_of_block E1) hr2).trans E1
  have G3 := (K3.block _ (lt_of_block E3) hr3).trans E3
  have G4 := rec_set0 G3 mi
  have F4 := (heap_setCell_other w3 ⟨rr, 0, none⟩ w.heap.size (.int .i64 mi) (Ne.symm hr4)).trans F3
  have R4 := R3.keep (w' := w3.setCell ⟨rr, 0, none⟩ (.int .i64 mi)) (heap_setCell_other _ _ _ _ (Ne.symm hr3))
  have B4 : Below w.heap.size w (w3.setCell ⟨rr, 0, none⟩ (.int .i64 mi)) := below_setCell B3 hr5
  have sz4 : rr < (w3.setCell ⟨rr, 0, none⟩ (.int .i64 mi)).heap.size := lt_of_block G4
  obtain ⟨z0, z1⟩ := rec_cells G3
  have zf := rec_frozen G3
  clear R2 E1 E2 E3 R3 K3 B3 F3 B2 sz2
  go_wp2_with fail
  clear z0 z1 zf G3
  generalize w3.setCell ⟨rr, 0, none⟩ (.int .i64 mi) = w4 at *
  refine (changes_rd R4 B4 hr1 (by have : lenS (some xs) = n := hsz; omega)).mono ?_
  rintro e w5 ⟨v, rfl, O5, R5, K5⟩
  rw [hC.out] at O5 R5
  dsimp only at O5 R5
  have hw4 : w.heap.size ≤ w4.heap.size := B4.size
  have B5 := K5.below B4 B4.size hr1
  have F5 := (K5.block _ (lt_of_block F4) hr2).trans F4
  have G5 := (K5.block _ (lt_of_block G4) hr3).trans G4
  obtain ⟨a5, n5, c5, rfl, -⟩ := O5.shape'
  have G6 := rec_set1 G5 (.slice a5 n5 c5)
  have F6 := (heap_setCell_other w5 ⟨rr, 1, none⟩ w.heap.size (.slice a5 n5 c5) (Ne.symm hr4)).trans F5
  have R6 := R5.keep (w' := w5.setCell ⟨rr, 1, none⟩ (.slice a5 n5 c5)) (heap_setCell_other _ _ _ _ (Ne.symm hr3))
  have B6 : Below w.heap.size w (w5.setCell ⟨rr, 1, none⟩ (.slice a5 n5 c5)) := below_setCell B5 hr5
  have O6 : OwnC (w5.setCell ⟨rr, 1, none⟩ (.slice a5 n5 c5)) w.heap.size 77 (.slice a5 n5 c5) cs := (O5.mono hw4).set G5 (by decide) (by decide) (by decide)
  obtain ⟨z0, z1⟩ := rec_cells G5
  have zf := rec_frozen G5
  clear R4 B4 F4 G4 O5 R5 K5 B5 F5 sz4 hw4
  go_wp2_with fail
  clear z0 z1 zf G5
  generalize w5.setCell ⟨rr, 1, none⟩ (.slice a5 n5 c5) = w6 at *
  refine (atEnd_rd R6).mono ?_
  rintro e w7 ⟨rfl, rfl⟩
  obtain ⟨y0, y1⟩ := rec_cells F6
  have yf := rec_frozen F6
  obtain ⟨z0, z1⟩ := rec_cells G6
  have zf := rec_frozen G6
  by_cases hst : st = some []
  · simp only [decide_eq_true hst]
    go_wp2_with fail
    refine (rightRecord_any mi O6.isC).mono ?_
    rintro e w8 ⟨rfl, B8⟩
    have F8 := (B8.block _ (lt_of_block F6)).trans F6
    have G8 := (B8.block _ (lt_of_block G6)).trans G6
    have O8 := O6.below B8
    have B9 := below_size B6 B6.size B8
    clear y0 y1 yf z0 z1 zf F6 G6 O6 R6 B8 B6
    cases hok : okR mi cs with
    | false =>
      obtain ⟨y0, y1⟩ := rec_cells F8
      have yf := rec_frozen F8
      go_wp2
      clear y0 y1 yf
      have E9 := stR_blk F8 0 (.slice none 0 0)
      rw [← hPost]
      exact bodyPost_ret (v := .tuple #[.agg #[.int .i64 0, .slice none 0 0], .int .i64 11]) (results_two Try.results36 rfl (load52 E9) rfl) rfl ⟨stR_below B9 (Nat.le_refl _) _ _, .inr ⟨by rw [hok]; simp, rfl⟩⟩
    | true =>
      obtain ⟨y0, y1⟩ := rec_cells F8
      have yf := rec_frozen F8
      obtain ⟨z0, z1⟩ := rec_cells G8
      go_wp2
      clear y0 y1 yf z0 z1
      have E9 := stR_blk F8 mi (.slice a5 n5 c5)
      rw [← hPost]
      exact bodyPost_ret (v := .tuple #[.agg #[.int .i64 mi, .slice a5 n5 c5], .int .i64 0]) (results_two Try.results36 rfl (load52 E9) rfl) rfl ⟨stR_below B9 (Nat.le_refl _) _ _, .inl ⟨by rw [hok, decide_eq_true hst]; rfl, _, _, _, rfl, (O8.set F8 (by decide) (by decide) (by decide)).set (rec_set0 F8 mi) (by decide) (by decide) (by decide)⟩⟩
  · simp only [decide_eq_false hst]
    go_wp2
    clear z0 z1 zf y0 y1 yf
    have E9 := stR_blk F6 0 (.slice none 0 0)
    rw [← hPost]
    exact bodyPost_ret (v := .tuple #[.agg #[.int .i64 0, .slice none 0 0], .int .i64 11]) (results_two Try.results36 rfl (load52 E9) rfl) rfl ⟨stR_below B6 (Nat.le_refl _) _ _, .inr ⟨by rw [decide_eq_false hst]; rfl, rfl⟩⟩
end Go.Proofs.Ytjfaflmmanjjbaa
