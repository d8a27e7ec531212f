/- Two tables of the same records: both. -/
import Derived.Test.YteomolihandfnaaGreatRap
namespace Go.Proofs.YteomolihandfnaaGreat
open Go.RowKit
set_option maxRecDepth 100000
/-- The two tables since a world. -/
def Hb (W0 : World) (b ub : Nat) (t : Tab) (u : RTab) (w : World) : Prop := ∃ S R U, Tb w S R b t ∧ RTb w U ub u ∧ (∀ g, S g → W0.heap.size ≤ g) ∧ (∀ g, U g → W0.heap.size ≤ g ∧ ¬ S g ∧ ¬ R g) ∧ Below W0.heap.size W0 w
/-- They say the same. -/
structure Rel (t : Tab) (u : RTab) : Prop where
  first : t.first = 0
  from_ : u.from_ = 0
  last : t.last = u.end_
  m : t.m = u.recs.foldl (fun m r => applM r.1 r.2 m) (fun _ => ⟨0, []⟩)
  ok : ∀ r ∈ u.recs, okR r.1 r.2 = true
theorem Rel.new : Rel tab0 rtab0 := ⟨rfl, rfl, rfl, rfl, by simp [rtab0]⟩
theorem Rel.apply {t : Tab} {u : RTab} (h : Rel t u) (c : Int) (xs : List Ch) : Rel (applyT t c xs) (rapplyT u c xs) := by
  have e : applyE t c xs = rapplyE u c xs := by unfold applyE rapplyE; rw [h.last]
  unfold applyT rapplyT
  rw [e]
  by_cases h0 : rapplyE u c xs = 0
  · rw [if_pos h0, if_pos h0]
    refine ⟨h.first, h.from_, rfl, ?_, fun r hr => ?_⟩
    · show applM c xs t.m = (u.recs ++ [(c, xs)]).foldl _ _
      rw [List.foldl_append, ← h.m]
      rfl
    · rcases List.mem_append.1 hr with hr | hr
      · exact h.ok r hr
      · rw [List.mem_singleton] at hr
        subst hr
        unfold rapplyE at h0
        cases hk : okR c xs with
        | true => rfl
        | false => rw [if_pos hk] at h0; cases h0
  · rw [if_neg h0, if_neg h0]
    exact ⟨h.first, h.from_, h.last, h.m, h.ok⟩
theorem Hb.belowW {W0 w : World} {b ub : Nat} {t : Tab} {u : RTab} (h : Hb W0 b ub t u w) : Below W0.heap.size W0 w := by
  obtain ⟨_, _, _, _, _, _, _, h5⟩ := h
  exact h5
theorem Hb.hd {W0 w : World} {b ub : Nat} {t : Tab} {u : RTab} (h : Hb W0 b ub t u w) : Hd W0 b t w := by
  obtain ⟨S, R, U, h1, h2, h3, h4, h5⟩ := h
  exact ⟨S, R, h1, h3, h5⟩
theorem Hb.below {W0 w w' : World} {b ub : Nat} {t : Tab} {u : RTab} (h : Hb W0 b ub t u w) (hb : Below w.heap.size w w') : Hb W0 b ub t u w' := by
  obtain ⟨S, R, U, h1, h2, h3, h4, h5⟩ := h
  exact ⟨S, R, U, h1.below hb, h2.below hb, h3, h4, below_size h5 h5.size hb⟩
theorem Hb.new (w : World) : Hb w w.heap.size (w.alloc (tabB 0 0 none)).heap.size tab0 rtab0 ((w.alloc (tabB 0 0 none)).alloc (rtB 0 0 (.slice none 0 0) (.slice none 0 0))) := by
  refine ⟨_, _, _, (Tb.new w).below box_below, RTb.new _, fun _ hg => Nat.le_of_eq hg.symm, fun g hg => ⟨?_, ?_, fun h => h⟩, below_size box_below box_below.size box_below⟩
  · rw [hg]; simp
  · intro h
    rw [hg] at h
    simp at h
theorem hb_apply {W0 w : World} {b ub : Nat} {t : Tab} {u : RTab} (h : Hb W0 b ub t u w) (c : Int) {ra : Option Addr} {n cap base : Nat} {xs : List Ch} (hr : OwnC w base 96 (.slice ra n cap) xs) :
    Calls Tryz.prog 21 #[.pointer (some ⟨b, 0, none⟩), .agg #[.int .i64 c, .slice ra n cap]] w fun e w' => e = .returned (.int .i64 (applyE t c xs)) ∧ Hb W0 b ub (applyT t c xs) u w' := by
  obtain ⟨S, R, U, h1, h2, h3, h4, h5⟩ := h
  refine (apply_any h1 c hr).mono ?_
  rintro e w' ⟨rfl, S', R', k1, k2, k3, k4⟩
  refine ⟨rfl, S', R', U, k1, h2.same k4.size (fun g hg => k4.block g (h2.lt g hg) (h4 g hg).2.1), fun g hg => ?_, fun g hg => ⟨(h4 g hg).1, fun q => ?_, fun q => ?_⟩, k4.below h5 h5.size h3⟩
  · rcases k2.new g hg with q | ⟨q, _⟩
    · exact h3 g q
    · exact Nat.le_trans h5.size q
  · rcases k2.new g q with q | ⟨q, _⟩
    · exact (h4 g hg).2.1 q
    · have := h2.lt g hg; omega
  · rcases k3.new g q with q | ⟨q, _⟩
    · exact (h4 g hg).2.2 q
    · have := h2.lt g hg; omega
theorem hb_rapply {W0 w : World} {b ub : Nat} {t : Tab} {u : RTab} (h : Hb W0 b ub t u w) (c : Int) {ra : Option Addr} {n cap : Nat} {xs : List Ch} (hr : IsC W0 ra n cap xs) (hk : u.k ≤ 1000) :
    Calls Tryz.prog 23 #[.pointer (some ⟨ub, 0, none⟩), .agg #[.int .i64 c, .slice ra n cap]] w fun e w' => e = .returned (.int .i64 (rapplyE u c xs)) ∧ Hb W0 b ub t (rapplyT u c xs) w' := by
  obtain ⟨S, R, U, h1, h2, h3, h4, h5⟩ := h
  refine (rapply_any h2 c hr h5 (fun g hg => (h4 g hg).1) hk).mono ?_
  rintro e w' ⟨rfl, U', k1, k2, k3⟩
  refine ⟨rfl, S, R, U', h1.same k3.size (fun g hg => k3.block g (h1.sets.lt hg) (fun q => hg.elim (h4 g q).2.1 (h4 g q).2.2)), k1, h3, fun g hg => ?_, k3.below h5 h5.size (fun g hg => (h4 g hg).1)⟩
  rcases k2.new g hg with q | ⟨q, _⟩
  · exact h4 g q
  · have e1 := h5.size
    exact ⟨by omega, fun z => by have := h1.sets.lt (.inl z); omega, fun z => by have := h1.sets.lt (.inr z); omega⟩
theorem IsRs.at2 {W : World} {a : Option Addr} {len cap : Nat} {ms : List Rm} (h : IsRs W a len cap ms) (k : Nat) (hk : k < len) : ∃ (b off : Nat) (m : Rm), a = some ⟨b, off, none⟩ ∧ ms[k]? = some m ∧ IsC W m.a m.n m.cap m.xs ∧ m.n ≤ 1954687338264 ∧ (∀ x ∈ m.xs, x.vs.length ≤ 8796093022208 ∧ x.bs.length ≤ 140737488355328) ∧ ∀ w, Below W.heap.size W w → b < w.heap.size ∧ w.cell? ⟨b, off + k * 2, none⟩ = some (.int .i64 m.com) ∧ w.cell? ⟨b, off + k * 2 + 1, none⟩ = some (.slice m.a m.n m.cap) := by
  obtain ⟨b, off, e, hc⟩ := h.cells (by omega)
  have hm : ms[k]? = some (ms[k]'(by rw [h.size]; exact hk)) := List.getElem?_eq_getElem _
  obtain ⟨c0, c1⟩ := hc k _ hm
  have hi := h.ins _ (List.mem_of_getElem? hm)
  have lb := lt_of_cell c0
  exact ⟨b, off, _, e, hm, hi.chs, hi.few, hi.part, fun w hb => ⟨Nat.lt_of_lt_of_le lb hb.size, (hb.cell lb).trans c0, (hb.cell lb).trans c1⟩⟩
theorem rapplyT_k (u : RTab) (c : Int) (xs : List Ch) : (rapplyT u c xs).k = u.k + 1 := by unfold rapplyT; split <;> rfl
/-- The table of some records. -/
def tabOf (ls : List Rm) : Tab := ls.foldl (fun t m => applyT t m.com m.xs) tab0
theorem tabOf_snoc {ls : List Rm} {j : Nat} {m : Rm} (h : ls[j]? = some m) : tabOf (ls.take (j + 1)) = applyT (tabOf (ls.take j)) m.com m.xs := by
  obtain ⟨hj, e⟩ := List.getElem?_eq_some_iff.1 h
  unfold tabOf
  rw [List.take_succ_eq_append_getElem hj, List.foldl_append, e]
  rfl
/-- What both leaves. -/
def BothP (w : World) (ls : List Rm) (e : Ending) (w' : World) : Prop := ∃ b ub u, e = .returned (.tuple #[.pointer (some ⟨b, 0, none⟩), .pointer (some ⟨ub, 0, none⟩)]) ∧ Hb w b ub (tabOf (ls.take 12)) u w' ∧ Rel (tabOf (ls.take 12)) u ∧ u.k ≤ 12
set_option maxHeartbeats 4000000 in
theorem both_any {w : World} {la : Option Addr} {ln lc : Nat} {ls : List Rm} (hl : IsRs w la ln lc ls) : Calls Tryz.prog 4 #[.slice la ln lc] w (BothP w ls) := by
  have t0 := Hb.new w
  go_enter Tryz.func4, Tryz.ntmps4
  go_wp2_with fail
  refine (new_tab w).mono ?_
  rintro e w1 ⟨rfl, rfl⟩
  obtain ⟨b, hb⟩ : ∃ q, Hid (q = w.heap.size) := ⟨_, rfl⟩
  rw [← hb.out] at t0 ⊢
  generalize w.alloc (tabB 0 0 none) = w1 at *
  go_wp2_with fail
  refine (rnew_tab w1).mono ?_
  rintro e w2 ⟨rfl, rfl⟩
  obtain ⟨ub, hub⟩ : ∃ q, Hid (q = w1.heap.size) := ⟨_, rfl⟩
  rw [← hub.out] at t0 ⊢
  generalize w1.alloc (rtB 0 0 (.slice none 0 0) (.slice none 0 0)) = w2 at *
  clear hb hub
  have s1 := hl.size
  have s2 := hl.room
  have s3 := hl.most
  unfold maxLen at s3
  go_wp2_with fail
  go_loopw [6] (fun iv wr => ∃ (j : Nat) (t : Tab) (u : RTab), iv = .int .i64 (j : Int) ∧ j ≤ ln ∧ j ≤ 12 ∧ u.k = j ∧ Rel t u ∧ Hb w b ub t u wr ∧ t = tabOf (ls.take j)) (fun iv _ => ln - (intOf iv).toNat)
  case atStart => exact ⟨0, tab0, rtab0, rfl, by omega, by omega, rfl, Rel.new, t0, rfl⟩
  case round =>
    clear t0
    obtain ⟨j, t, u, rfl, hj, hj2, huk, hrel0, hd, htj⟩ := hrel
    replace huk : Hid _ := huk
    replace htj : Hid _ := htj
    by_cases hlt : j < ln ∧ j < 12
    · obtain ⟨h1, h2⟩ := hlt
      obtain ⟨rb, ro, m, rfl, hmj, hC, hnn, hpart, hcel⟩ := hl.at2 j h1
      have htj1 : Hid (applyT t m.com m.xs = tabOf (ls.take (j + 1))) := by show applyT t m.com m.xs = _; rw [tabOf_snoc hmj, ← htj.out]
      replace hmj : Hid _ := hmj
      obtain ⟨hrb, c0, c1⟩ := hcel wr hd.belowW
      have i1 : (j : Int) < (ln : Int) := by omega
      have i2 : (j : Int) < 12 := by omega
      go_wp2_with fail
      refine (given_any m.com (hC.below hd.belowW) hnn hpart).mono ?_
      rintro e w3 ⟨a2, n2, cap2, rfl, hO, B2⟩
      have hd2 := hd.below B2
      go_wp2_with fail
      refine (hb_apply hd2 m.com hO).mono ?_
      rintro e w4 ⟨rfl, hd3⟩
      obtain ⟨hrb4, d0, d1⟩ := hcel w4 hd3.belowW
      clear c0 c1 hrb hO B2 hd2 hd
      go_wp2_with fail
      refine (hb_rapply hd3 m.com hC (by have := huk.out; omega)).mono ?_
      rintro e w5 ⟨rfl, hd5⟩
      have hrel1 := hrel0.apply m.com m.xs
      have hk1 := rapplyT_k u m.com m.xs
      replace hk1 : Hid _ := hk1
      clear d0 d1 hrb4 hd3
      go_wp2
      go_roundw
      case rel => exact ⟨j + 1, _, _, by go_num, by omega, by omega, by have h1 := hk1.out; have h2 := huk.out; omega, hrel1, hd5, htj1.out⟩
      case measure => simp [intOf]; omega
    · have i1 : ¬ ((j : Int) < (ln : Int) ∧ (j : Int) < 12) := by omega
      by_cases i2 : (j : Int) < (ln : Int)
      · have i3 : ¬ (j : Int) < 12 := by omega
        clear i1 hlt
        go_wp2
        go_ret2
        have e12 : tabOf (ls.take 12) = t := by rw [htj.out, show j = 12 by omega]
        exact ⟨b, ub, u, rfl, by rw [e12]; exact hd, by rw [e12]; exact hrel0, by have := huk.out; omega⟩
      · clear i1 hlt
        go_wp2
        go_ret2
        have e12 : tabOf (ls.take 12) = t := by rw [htj.out, List.take_of_length_le (by omega), List.take_of_length_le (by omega)]
        exact ⟨b, ub, u, rfl, by rw [e12]; exact hd, by rw [e12]; exact hrel0, by have := huk.out; omega⟩
end Go.Proofs.YteomolihandfnaaGreat
namespace Go.Proofs.YteomolihandfnaaGreat
open Go.RowKit
set_option maxRecDepth 100000
structure Rel2 (t : Tab) (u : RTab) : Prop where
  rel : Rel t u
  le : ∀ r ∈ u.recs, r.1 ≤ u.end_
theorem Rel2.new : Rel2 tab0 rtab0 := ⟨Rel.new, by simp [rtab0]⟩
theorem Rel2.apply {t : Tab} {u : RTab} (h : Rel2 t u) (c : Int) (xs : List Ch) : Rel2 (applyT t c xs) (rapplyT u c xs) := by
  refine ⟨h.rel.apply c xs, ?_⟩
  unfold rapplyT
  by_cases h0 : rapplyE u c xs = 0
  · rw [if_pos h0]
    intro r hr
    have hc : u.end_ < c := by
      unfold rapplyE at h0
      split at h0
      · cases h0
      · split at h0
        · cases h0
        · omega
    rcases List.mem_append.1 hr with hr | hr
    · have := h.le r hr
      show r.1 ≤ c
      omega
    · rw [List.mem_singleton] at hr
      subst hr
      exact Int.le_refl _
  · rw [if_neg h0]
    exact h.le
def BothP2 (w : World) (ls : List Rm) (e : Ending) (w' : World) : Prop := ∃ b ub u, e = .returned (.tuple #[.pointer (some ⟨b, 0, none⟩), .pointer (some ⟨ub, 0, none⟩)]) ∧ Hb w b ub (tabOf (ls.take 12)) u w' ∧ Rel2 (tabOf (ls.take 12)) u ∧ u.k ≤ 12
set_option maxHeartbeats 4000000 in
theorem both_any2 {w : World} {la : Option Addr} {ln lc : Nat} {ls : List Rm} (hl : IsRs w la ln lc ls) : Calls Tryz.prog 4 #[.slice la ln lc] w (BothP2 w ls) := by
  have t0 := Hb.new w
  go_enter Tryz.func4, Tryz.ntmps4
  go_wp2_with fail
  refine (new_tab w).mono ?_
  rintro e w1 ⟨rfl, rfl⟩
  obtain ⟨b, hb⟩ : ∃ q, Hid (q = w.heap.size) := ⟨_, rfl⟩
  rw [← hb.out] at t0 ⊢
  generalize w.alloc (tabB 0 0 none) = w1 at *
  go_wp2_with fail
  refine (rnew_tab w1).mono ?_
  rintro e w2 ⟨rfl, rfl⟩
  obtain ⟨ub, hub⟩ : ∃ q, Hid (q = w1.heap.size) := ⟨_, rfl⟩
  rw [← hub.out] at t0 ⊢
  generalize w1.alloc (rtB 0 0 (.slice none 0 0) (.slice none 0 0)) = w2 at *
  clear hb hub
  have s1 := hl.size
  have s2 := hl.room
  have s3 := hl.most
  unfold maxLen at s3
  go_wp2_with fail
  go_loopw [6] (fun iv wr => ∃ (j : Nat) (t : Tab) (u : RTab), iv = .int .i64 (j : Int) ∧ j ≤ ln ∧ j ≤ 12 ∧ u.k = j ∧ Rel2 t u ∧ Hb w b ub t u wr ∧ t = tabOf (ls.take j)) (fun iv _ => ln - (intOf iv).toNat)
  case atStart => exact ⟨0, tab0, rtab0, rfl, by omega, by omega, rfl, Rel2.new, t0, rfl⟩
  case round =>
    clear t0
    obtain ⟨j, t, u, rfl, hj, hj2, huk, hrel0, hd, htj⟩ := hrel
    replace huk : Hid _ := huk
    replace htj : Hid _ := htj
    by_cases hlt : j < ln ∧ j < 12
    · obtain ⟨h1, h2⟩ := hlt
      obtain ⟨rb, ro, m, rfl, hmj, hC, hnn, hpart, hcel⟩ := hl.at2 j h1
      have htj1 : Hid (applyT t m.com m.xs = tabOf (ls.take (j + 1))) := by show applyT t m.com m.xs = _; rw [tabOf_snoc hmj, ← htj.out]
      replace hmj : Hid _ := hmj
      obtain ⟨hrb, c0, c1⟩ := hcel wr hd.belowW
      have i1 : (j : Int) < (ln : Int) := by omega
      have i2 : (j : Int) < 12 := by omega
      go_wp2_with fail
      refine (given_any m.com (hC.below hd.belowW) hnn hpart).mono ?_
      rintro e w3 ⟨a2, n2, cap2, rfl, hO, B2⟩
      have hd2 := hd.below B2
      go_wp2_with fail
      refine (hb_apply hd2 m.com hO).mono ?_
      rintro e w4 ⟨rfl, hd3⟩
      obtain ⟨hrb4, d0, d1⟩ := hcel w4 hd3.belowW
      clear c0 c1 hrb hO B2 hd2 hd
      go_wp2_with fail
      refine (hb_rapply hd3 m.com hC (by have := huk.out; omega)).mono ?_
      rintro e w5 ⟨rfl, hd5⟩
      have hrel1 := hrel0.apply m.com m.xs
      have hk1 := rapplyT_k u m.com m.xs
      replace hk1 : Hid _ := hk1
      clear d0 d1 hrb4 hd3
      go_wp2
      go_roundw
      case rel => exact ⟨j + 1, _, _, by go_num, by omega, by omega, by have h1 := hk1.out; have h2 := huk.out; omega, hrel1, hd5, htj1.out⟩
      case measure => simp [intOf]; omega
    · have i1 : ¬ ((j : Int) < (ln : Int) ∧ (j : Int) < 12) := by omega
      by_cases i2 : (j : Int) < (ln : Int)
      · have i3 : ¬ (j : Int) < 12 := by omega
        clear i1 hlt
        go_wp2
        go_ret2
        have e12 : tabOf (ls.take 12) = t := by rw [htj.out, show j = 12 by omega]
        exact ⟨b, ub, u, rfl, by rw [e12]; exact hd, by rw [e12]; exact hrel0, by have := huk.out; omega⟩
      · clear i1 hlt
        go_wp2
        go_ret2
        have e12 : tabOf (ls.take 12) = t := by rw [htj.out, List.take_of_length_le (by omega), List.take_of_length_le (by omega)]
        exact ⟨b, ub, u, rfl, by rw [e12]; exact hd, by rw [e12]; exact hrel0, by have := huk.out; omega⟩
end Go.Proofs.YteomolihandfnaaGreat
namespace Go.Proofs.YteomolihandfnaaGreat
open Go.RowKit
set_option maxRecDepth 100000
structure Ob where
  cls : Int
  vs : List (Int × Int)
  bs : List Int
structure Vw where
  base : Int
  reads : Int → Bool
  own : Int → Option Ob
  made : Int
def viewB (tb : Nat) (base : Int) (rm om : Option Nat) (made : Int) : Obj := .cells #[.pointer (some ⟨tb, 0, none⟩), .int .i64 base, .map rm, .map om, .int .i64 made] 78 (0, 0)
theorem view_cells {w : World} {b tb : Nat} {base made : Int} {rm om : Option Nat} (h : w.heap[b]? = some (viewB tb base rm om made)) : w.cell? ⟨b, 0, none⟩ = some (.pointer (some ⟨tb, 0, none⟩)) ∧ w.cell? ⟨b, 1, none⟩ = some (.int .i64 base) ∧ w.cell? ⟨b, 2, none⟩ = some (.map rm) ∧ w.cell? ⟨b, 3, none⟩ = some (.map om) ∧ w.cell? ⟨b, 4, none⟩ = some (.int .i64 made) := by
  unfold viewB at h
  refine ⟨?_, ?_, ?_, ?_, ?_⟩ <;> rw [cell_of_row w b _ _ _ _ h] <;> rfl
theorem view_frozen {w : World} {b tb : Nat} {base made : Int} {rm om : Option Nat} (h : w.heap[b]? = some (viewB tb base rm om made)) (k : Nat) : w.frozen? ⟨b, k, none⟩ = false := by
  unfold World.frozen?
  unfold viewB at h
  rw [h]
  rfl
theorem view_set2 {w : World} {b tb : Nat} {base made : Int} {rm om : Option Nat} (h : w.heap[b]? = some (viewB tb base rm om made)) (rm' : Option Nat) : (w.setCell ⟨b, 2, none⟩ (.map rm')).heap[b]? = some (viewB tb base rm' om made) := by
  unfold viewB at h ⊢
  rw [heap_setCell_same w _ 2 _ _ _ h]
  simp
theorem view_set3 {w : World} {b tb : Nat} {base made : Int} {rm om : Option Nat} (h : w.heap[b]? = some (viewB tb base rm om made)) (om' : Option Nat) : (w.setCell ⟨b, 3, none⟩ (.map om')).heap[b]? = some (viewB tb base rm om' made) := by
  unfold viewB at h ⊢
  rw [heap_setCell_same w _ 3 _ _ _ h]
  simp
theorem view_set4 {w : World} {b tb : Nat} {base made : Int} {rm om : Option Nat} (h : w.heap[b]? = some (viewB tb base rm om made)) (made' : Int) : (w.setCell ⟨b, 4, none⟩ (.int .i64 made')).heap[b]? = some (viewB tb base rm om made') := by
  unfold viewB at h ⊢
  rw [heap_setCell_same w _ 4 _ _ _ h]
  simp
/-- The map of what was read. -/
def RdM (w : World) (V : Nat → Prop) (rm : Option Nat) (rd : Int → Bool) : Prop := match rm with
  | none => ∀ k, rd k = false
  | some mb => ∃ F, IsMap w mb F ∧ V mb ∧ ∀ k, rd k = (F k).isSome
/-- An object that stands in the map of one's own. -/
def ObV (w : World) (Q : Nat → Prop) (v : Value) (o : Ob) : Prop := ∃ sa sn sc ba bn bc, v = .agg #[.int .i64 o.cls, .slice sa sn sc, .slice ba bn bc] ∧ OwnV w 0 (.slice sa sn sc) o.vs ∧ OwnB w 0 (.slice ba bn bc) o.bs ∧ InT Q (.slice sa sn sc) ∧ InT Q (.slice ba bn bc)
def OwF (w : World) (Q : Nat → Prop) (F : Int → Option Value) (ow : Int → Option Ob) : Prop := ∀ k, match F k with
  | none => ow k = none
  | some v => ∃ o, ow k = some o ∧ ObV w Q v o
def OwM (w : World) (V Q : Nat → Prop) (om : Option Nat) (ow : Int → Option Ob) : Prop := match om with
  | none => ∀ k, ow k = none
  | some mb => ∃ F, IsMap w mb F ∧ V mb ∧ OwF w Q F ow
/-- What holds of an object in a view. -/
def ObG (o : Ob) : Prop := okWO o.cls o.vs o.bs.length = true
structure Vb (w : World) (V Q : Nat → Prop) (b tb : Nat) (v : Vw) : Prop where
  blk : ∃ rm om, w.heap[b]? = some (viewB tb v.base rm om v.made) ∧ RdM w V rm v.reads ∧ OwM w V Q om v.own ∧ ∀ mb, rm = some mb → om ≠ some mb
  own : V b
  lt : ∀ g, V g ∨ Q g → g < w.heap.size
  dis : ∀ g, Q g → ¬ V g
  ty : ∀ g cur e, V g → w.heap[g]? = some (Obj.cells cur e (0, 0)) → e = 78
  made0 : 0 ≤ v.made ∧ v.made ≤ 4096
  good : ∀ k o, v.own k = some o → ObG o
theorem ObV.same {w w' : World} {Q Q' : Nat → Prop} {v : Value} {o : Ob} (h : ObV w Q v o) (hQ : ∀ g, Q g → Q' g) (hk : ∀ g, Q g → w'.heap[g]? = w.heap[g]?) : ObV w' Q' v o := by
  obtain ⟨sa, sn, sc, ba, bn, bc, e, h1, h2, h3, h4⟩ := h
  exact ⟨sa, sn, sc, ba, bn, bc, e, h1.same (fun g hg => hk g (h3 g hg)), h2.same (fun g hg => hk g (h4 g hg)), fun g hg => hQ g (h3 g hg), fun g hg => hQ g (h4 g hg)⟩
theorem OwF.same {w w' : World} {Q Q' : Nat → Prop} {F : Int → Option Value} {ow : Int → Option Ob} (h : OwF w Q F ow) (hQ : ∀ g, Q g → Q' g) (hk : ∀ g, Q g → w'.heap[g]? = w.heap[g]?) : OwF w' Q' F ow := by
  intro k
  have := h k
  cases hF : F k with
  | none => rw [hF] at this; exact this
  | some v =>
    rw [hF] at this
    obtain ⟨o, h1, h2⟩ := this
    exact ⟨o, h1, h2.same hQ hk⟩
theorem RdM.same {w w' : World} {V V' : Nat → Prop} {rm : Option Nat} {rd : Int → Bool} (h : RdM w V rm rd) (hV : ∀ g, V g → V' g) (hk : ∀ mb, rm = some mb → w'.heap[mb]? = w.heap[mb]?) : RdM w' V' rm rd := by
  cases rm with
  | none => exact h
  | some mb =>
    obtain ⟨F, h1, h2, h3⟩ := h
    exact ⟨F, h1.same (hk mb rfl), hV mb h2, h3⟩
theorem OwM.same {w w' : World} {V V' Q Q' : Nat → Prop} {om : Option Nat} {ow : Int → Option Ob} (h : OwM w V Q om ow) (hV : ∀ g, V g → V' g) (hQ : ∀ g, Q g → Q' g) (hk : ∀ mb, om = some mb → w'.heap[mb]? = w.heap[mb]?) (hq : ∀ g, Q g → w'.heap[g]? = w.heap[g]?) : OwM w' V' Q' om ow := by
  cases om with
  | none => exact h
  | some mb =>
    obtain ⟨F, h1, h2, h3⟩ := h
    exact ⟨F, h1.same (hk mb rfl), hV mb h2, h3.same hQ hq⟩
theorem RdM.in_ {w : World} {V : Nat → Prop} {rm : Option Nat} {rd : Int → Bool} (h : RdM w V rm rd) {mb : Nat} (e : rm = some mb) : V mb ∧ ∃ es c, w.heap[mb]? = some (.map es c) := by
  subst e
  obtain ⟨F, ⟨L, c, hb, _⟩, h2, _⟩ := h
  exact ⟨h2, _, c, hb⟩
theorem OwM.in_ {w : World} {V Q : Nat → Prop} {om : Option Nat} {ow : Int → Option Ob} (h : OwM w V Q om ow) {mb : Nat} (e : om = some mb) : V mb ∧ ∃ es c, w.heap[mb]? = some (.map es c) := by
  subst e
  obtain ⟨F, ⟨L, c, hb, _⟩, h2, _⟩ := h
  exact ⟨h2, _, c, hb⟩
theorem Vb.same {w w' : World} {V Q : Nat → Prop} {b tb : Nat} {v : Vw} (h : Vb w V Q b tb v) (hsz : w.heap.size ≤ w'.heap.size) (hk : ∀ g, V g ∨ Q g → w'.heap[g]? = w.heap[g]?) : Vb w' V Q b tb v := by
  obtain ⟨rm, om, h1, h2, h3, h4⟩ := h.blk
  refine ⟨⟨rm, om, (hk b (.inl h.own)).trans h1, h2.same (fun _ h => h) (fun mb e => hk mb (.inl (h2.in_ e).1)), h3.same (fun _ h => h) (fun _ h => h) (fun mb e => hk mb (.inl (h3.in_ e).1)) (fun g hg => hk g (.inr hg)), h4⟩, h.own, fun g hg => Nat.lt_of_lt_of_le (h.lt g hg) hsz, h.dis, fun g cur e hg hh => h.ty g cur e hg (by rw [← hk g (.inl hg)]; exact hh), h.made0, h.good⟩
theorem Vb.below {w w' : World} {V Q : Nat → Prop} {b tb : Nat} {v : Vw} (h : Vb w V Q b tb v) (hb : Below w.heap.size w w') : Vb w' V Q b tb v := h.same hb.size (fun g hg => hb.block g (h.lt g hg))
def vw0 (c : Int) : Vw := ⟨c, fun _ => false, fun _ => none, 0⟩
theorem vnew_any {w : World} {b : Nat} {f l : Int} {mv : Option Nat} (h : w.heap[b]? = some (tabB f l mv)) : Calls Tryz.prog 5 #[.pointer (some ⟨b, 0, none⟩)] w fun e w' => e = .returned (.pointer (some ⟨w.heap.size, 0, none⟩)) ∧ w' = w.alloc (viewB b l none none 0) := by
  go_enter Tryz.func5, Tryz.ntmps5
  go_wp2_with fail
  refine (last_any h).mono ?_
  rintro e w' ⟨rfl, rfl⟩
  go_wp2
  go_ret
  exact ⟨rfl, rfl⟩
theorem Vb.new (w : World) (b : Nat) (c : Int) : Vb (w.alloc (viewB b c none none 0)) (fun g => g = w.heap.size) (fun _ => False) w.heap.size b (vw0 c) := by
  refine ⟨⟨none, none, new1 _ _, fun _ => rfl, fun _ => rfl, fun _ h => by cases h⟩, rfl, fun g hg => ?_, fun g hg => hg.elim, fun g cur e hg hh => ?_, by simp [vw0], fun k o h => by simp [vw0] at h⟩
  · rcases hg with hg | hg
    · rw [hg]; simp
    · exact hg.elim
  · rw [hg, new1] at hh
    unfold viewB at hh
    cases hh
    rfl
theorem vbase_any {w : World} {b tb : Nat} {base made : Int} {rm om : Option Nat} (h : w.heap[b]? = some (viewB tb base rm om made)) : Calls Tryz.prog 24 #[.pointer (some ⟨b, 0, none⟩)] w fun e w' => e = .returned (.int .i64 base) ∧ w = w' := by
  obtain ⟨x0, x1, x2, x3, x4⟩ := view_cells h
  go_enter Tryz.func24, Tryz.ntmps24
  go_wp2
  go_ret
  exact ⟨rfl, rfl⟩
/-- What was read, with one more. -/
def readV (v : Vw) (k : Int) : Vw := if 1 ≤ k ∧ k ≤ 4096 then ⟨v.base, fun i => v.reads i || decide (i = k), v.own, v.made⟩ else v
end Go.Proofs.YteomolihandfnaaGreat
namespace Go.Proofs.YteomolihandfnaaGreat
open Go.RowKit
set_option maxRecDepth 100000
/-- What a call on a view leaves. -/
def VwP (w : World) (V Q : Nat → Prop) (b tb : Nat) (v : Vw) (w' : World) : Prop := ∃ V' Q', Vb w' V' Q' b tb v ∧ Grow V V' w w' ∧ Grow Q Q' w w' ∧ Fr V w w'
theorem Vb.reads {w wA w' : World} {V Q : Nat → Prop} {b tb mb : Nat} {v : Vw} {om : Option Nat} {F : Int → Option Value} {rd : Int → Bool} (h : Vb w V Q b tb v) (hO : OwM w V Q om v.own) (hsz : w.heap.size ≤ wA.heap.size) (hos : wA.os = w.os ∧ wA.tape = w.tape ∧ wA.output = w.output) (hk : ∀ g, g < w.heap.size → g ≠ b → wA.heap[g]? = w.heap[g]?) (hblk : wA.heap[b]? = some (viewB tb v.base (some mb) om v.made)) (hmb : V mb ∨ w.heap.size ≤ mb) (hom : om ≠ some mb) (hM : IsMap w' mb F) (hF : ∀ k, rd k = (F k).isSome) (hg : wA.grownBy w' (some mb)) (hnb : b ≠ mb) :
    VwP w V Q b tb ⟨v.base, rd, v.own, v.made⟩ w' := by
  have lb := h.lt b (.inl h.own)
  have kk : ∀ g, g < w.heap.size → g ≠ b → g ≠ mb → w'.heap[g]? = w.heap[g]? := fun g h1 h2 h3 => (hg.block g (Nat.lt_of_lt_of_le h1 hsz) (fun e => h3 (Option.some.inj e))).trans (hk g h1 h2)
  have hQb : ∀ g, Q g → g ≠ b ∧ g ≠ mb := fun g hq => ⟨fun e => h.dis g hq (e ▸ h.own), fun e => by
    rcases hmb with z | z
    · exact h.dis g hq (e ▸ z)
    · have := h.lt g (.inr hq); omega⟩
  have hbl' : w'.heap[b]? = some (viewB tb v.base (some mb) om v.made) := (hg.block b (Nat.lt_of_lt_of_le lb hsz) (fun e => hnb (Option.some.inj e))).trans hblk
  refine ⟨fun g => V g ∨ g = mb, Q, ⟨⟨some mb, om, hbl', ⟨F, hM, .inr rfl, hF⟩, hO.same (fun _ h => .inl h) (fun _ h => h) (fun m e => ?_) (fun g hq => kk g (h.lt g (.inr hq)) (hQb g hq).1 (hQb g hq).2), fun m e => by cases e; exact hom⟩, .inl h.own, fun g hg' => ?_, fun g hq e => ?_, fun g cur e hv hh => ?_, h.made0, h.good⟩, ⟨fun _ h => .inl h, fun g hg' => ?_⟩, ⟨fun _ h => h, fun _ h => .inl h⟩, ⟨hg.os.trans hos.1, hg.tape.trans hos.2.1, hg.output.trans hos.2.2, Nat.le_trans hsz hg.size, fun g hg' hn => kk g hg' (fun e => hn (e ▸ h.own)) (fun e => ?_)⟩⟩
  · obtain ⟨z1, es, c, z2⟩ := hO.in_ e
    refine kk m (lt_of_block' z2) (fun e' => ?_) (fun e' => hom (e' ▸ e))
    obtain ⟨_, _, hb0, _, _⟩ := h.blk
    rw [e', hb0] at z2
    cases z2
  · have h1 := hg.size
    rcases hg' with (hg' | rfl) | hg'
    · have := h.lt g (.inl hg'); omega
    · exact hM.lt
    · have := h.lt g (.inr hg'); omega
  · rcases e with e | e
    · exact h.dis g hq e
    · exact (hQb g hq).2 e
  · rcases hv with hv | rfl
    · by_cases e1 : g = b
      · rw [e1, hbl'] at hh
        unfold viewB at hh
        cases hh
        rfl
      · by_cases e2 : g = mb
        · subst e2
          exact absurd rfl (hM.noCells hh)
        · exact h.ty g cur e hv (by rw [← kk g (h.lt g (.inl hv)) e1 e2]; exact hh)
    · exact absurd rfl (hM.noCells hh)
  · rcases hg' with hg' | rfl
    · exact .inl hg'
    · rcases hmb with z | z
      · exact .inl z
      · exact .inr ⟨z, hM.lt⟩
  · rcases hmb with z | z
    · exact hn (e ▸ z)
    · omega
set_option maxHeartbeats 2000000 in
theorem read_any {w : World} {V Q : Nat → Prop} {b tb : Nat} {v : Vw} (h : Vb w V Q b tb v) (k : Int) :
    Calls Tryz.prog 13 #[.pointer (some ⟨b, 0, none⟩), .int .i64 k] w fun e w' => e = .returned (.tuple #[]) ∧ VwP w V Q b tb (readV v k) w' := by
  by_cases hk : 1 ≤ k ∧ k ≤ 4096
  · have er : readV v k = ⟨v.base, fun i => v.reads i || decide (i = k), v.own, v.made⟩ := by unfold readV; rw [if_pos hk]
    rw [er]
    clear er
    obtain ⟨hk1, hk2⟩ := hk
    obtain ⟨rm, om, hblk, hR, hO, hom⟩ := h.blk
    replace hom : Hid _ := hom
    obtain ⟨x0, x1, x2, x3, x4⟩ := view_cells hblk
    have xf := view_frozen hblk 2
    have hem := fun (r : Option Nat) (w : World) => run_eql_map_nil (P := Tryz.prog) w 75 2 87 r Tryz.underlying75
    have hmm := @run_makeMap Tryz.prog
    cases rm with
    | none =>
      have lb := h.lt b (.inl h.own)
      have eA := view_set2 ((Below.heap_alloc w (.map #[] 0) b lb).trans hblk) (some w.heap.size)
      obtain ⟨y0, y1, y2, y3, y4⟩ := view_cells eA
      have g2 : (w.alloc (.map #[] 0)).cell? ⟨b, 2, none⟩ = some (.map none) := ((box_below (o := .map #[] 0)).cell (p := ⟨b, 2, none⟩) lb).trans x2
      have gf : (w.alloc (.map #[] 0)).frozen? ⟨b, 2, none⟩ = false := view_frozen ((Below.heap_alloc w _ b lb).trans hblk) 2
      have kA : ∀ g, g < w.heap.size → g ≠ b → ((w.alloc (.map #[] 0)).setCell ⟨b, 2, none⟩ (.map (some w.heap.size))).heap[g]? = w.heap[g]? := fun g hg hne => (heap_setCell_other _ ⟨b, 2, none⟩ g _ hne).trans (Below.heap_alloc w _ g hg)
      have mA : IsMap ((w.alloc (.map #[] 0)).setCell ⟨b, 2, none⟩ (.map (some w.heap.size))) w.heap.size (fun _ => none) := (IsMap.made w).same (heap_setCell_other _ ⟨b, 2, none⟩ _ _ (by show w.heap.size ≠ b; omega))
      have sA : w.heap.size ≤ ((w.alloc (.map #[] 0)).setCell ⟨b, 2, none⟩ (.map (some w.heap.size))).heap.size := by simp
      have BA : Below 0 w ((w.alloc (.map #[] 0)).setCell ⟨b, 2, none⟩ (.map (some w.heap.size))) := ((Below.refl 0 w).alloc (Nat.zero_le _) _).setCell (p := ⟨b, 2, none⟩) (Nat.zero_le _) _
      obtain ⟨w7, hr7, M7, g7⟩ := mA.update (P := Tryz.prog) (t := 75) Tryz.underlying75 Tryz.underlying2 k (.agg #[])
      have fin := h.reads (rd := fun i => v.reads i || decide (i = k)) hO sA ⟨BA.os, BA.tape, BA.output⟩ kA eA (.inr (Nat.le_refl _)) (fun e => by obtain ⟨_, es, c, z⟩ := hO.in_ e; have := lt_of_block' z; omega) M7 (fun i => by
        rw [show v.reads i = false from hR i]
        by_cases e : i = k <;> simp [e]) g7 (by omega)
      replace fin : Hid _ := fin
      clear mA BA sA kA eA hR hO M7 g7 lb
      go_enter Tryz.func13, Tryz.ntmps13
      go_wp2
      go_end0
      exact ⟨rfl, fin.out⟩
    | some mb =>
      obtain ⟨F, hM, hV, hF⟩ := hR
      obtain ⟨w7, hr7, M7, g7⟩ := hM.update (P := Tryz.prog) (t := 75) Tryz.underlying75 Tryz.underlying2 k (.agg #[])
      have hnb : b ≠ mb := hM.noCells (by unfold viewB at hblk; exact hblk)
      have fin := h.reads (rd := fun i => v.reads i || decide (i = k)) hO (Nat.le_refl _) ⟨rfl, rfl, rfl⟩ (fun _ _ _ => rfl) hblk (.inl hV) (hom.out mb rfl) M7 (fun i => by
        rw [hF i]
        by_cases e : i = k <;> simp [e]) g7 hnb
      replace fin : Hid _ := fin
      clear hM hO M7 g7 hF
      go_enter Tryz.func13, Tryz.ntmps13
      go_wp2
      go_end0
      exact ⟨rfl, fin.out⟩
  · have er : readV v k = v := by unfold readV; rw [if_neg hk]
    rw [er]
    clear er
    have fin : Hid (VwP w V Q b tb v w) := ⟨V, Q, h, Grow.refl _ _, Grow.refl _ _, Fr.refl _ _⟩
    by_cases h1 : k < 1
    · clear hk
      go_enter Tryz.func13, Tryz.ntmps13
      go_wp2
      refine bodyPost_ret (results_none rfl _ _ _) rfl ?_
      exact ⟨rfl, fin.out⟩
    · have h2 : 4096 < k := by omega
      clear hk
      go_enter Tryz.func13, Tryz.ntmps13
      go_wp2
      refine bodyPost_ret (results_none rfl _ _ _) rfl ?_
      exact ⟨rfl, fin.out⟩
end Go.Proofs.YteomolihandfnaaGreat
