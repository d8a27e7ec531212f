/- Two tables of the same records: both. -/
import Derived.Test.YteomolihandfnaaRap
namespace Go.Proofs.Yteomolihandfnaa
open Go.RowKit
set_option maxRecDepth 100000
/-- The two tables since a world. -/
def Hb (W0 : World) (b ub : Nat) (t : Tab) (u : RTab) (w : World) : Prop := ∃ S R U, Tb w S R b t ∧ RTb w U ub u ∧ (∀ g, S g → W0.heap.size ≤ g) ∧ (∀ g, U g → W0.heap.size ≤ g ∧ ¬ S g ∧ ¬ R g) ∧ Below W0.heap.size W0 w
/-- They say the same. -/
structure Rel (t : Tab) (u : RTab) : Prop where
  first : t.first = 0
  from_ : u.from_ = 0
  last : t.last = u.end_
  m : t.m = u.recs.foldl (fun m r => applM r.1 r.2 m) (fun _ => ⟨0, []⟩)
  ok : ∀ r ∈ u.recs, okR r.1 r.2 = true
theorem Rel.new : Rel tab0 rtab0 := ⟨rfl, rfl, rfl, rfl, by simp [rtab0]⟩
theorem Rel.apply {t : Tab} {u : RTab} (h : Rel t u) (c : Int) (xs : List Ch) : Rel (applyT t c xs) (rapplyT u c xs) := by
  have e : applyE t c xs = rapplyE u c xs := by unfold applyE rapplyE; rw [h.last]
  unfold applyT rapplyT
  rw [e]
  by_cases h0 : rapplyE u c xs = 0
  · rw [if_pos h0, if_pos h0]
    refine ⟨h.first, h.from_, rfl, ?_, fun r hr => ?_⟩
    · show applM c xs t.m = (u.recs ++ [(c, xs)]).foldl _ _
      rw [List.foldl_append, ← h.m]
      rfl
    · rcases List.mem_append.1 hr with hr | hr
      · exact h.ok r hr
      · rw [List.mem_singleton] at hr
        subst hr
        unfold rapplyE at h0
        cases hk : okR c xs with
        | true => rfl
        | false => rw [if_pos hk] at h0; cases h0
  · rw [if_neg h0, if_neg h0]
    exact ⟨h.first, h.from_, h.last, h.m, h.ok⟩
theorem Hb.belowW {W0 w : World} {b ub : Nat} {t : Tab} {u : RTab} (h : Hb W0 b ub t u w) : Below W0.heap.size W0 w := by
  obtain ⟨_, _, _, _, _, _, _, h5⟩ := h
  exact h5
theorem Hb.hd {W0 w : World} {b ub : Nat} {t : Tab} {u : RTab} (h : Hb W0 b ub t u w) : Hd W0 b t w := by
  obtain ⟨S, R, U, h1, h2, h3, h4, h5⟩ := h
  exact ⟨S, R, h1, h3, h5⟩
theorem Hb.below {W0 w w' : World} {b ub : Nat} {t : Tab} {u : RTab} (h : Hb W0 b ub t u w) (hb : Below w.heap.size w w') : Hb W0 b ub t u w' := by
  obtain ⟨S, R, U, h1, h2, h3, h4, h5⟩ := h
  exact ⟨S, R, U, h1.below hb, h2.below hb, h3, h4, below_size h5 h5.size hb⟩
theorem Hb.new (w : World) : Hb w w.heap.size (w.alloc (tabB 0 0 none)).heap.size tab0 rtab0 ((w.alloc (tabB 0 0 none)).alloc (rtB 0 0 (.slice none 0 0) (.slice none 0 0))) := by
  refine ⟨_, _, _, (Tb.new w).below box_below, RTb.new _, fun _ hg => Nat.le_of_eq hg.symm, fun g hg => ⟨?_, ?_, fun h => h⟩, below_size box_below box_below.size box_below⟩
  · rw [hg]; simp
  · intro h
    rw [hg] at h
    simp at h
theorem hb_apply {W0 w : World} {b ub : Nat} {t : Tab} {u : RTab} (h : Hb W0 b ub t u w) (c : Int) {ra : Option Addr} {n cap base : Nat} {xs : List Ch} (hr : OwnC w base 106 (.slice ra n cap) xs) :
    Calls Try.prog 40 #[.pointer (some ⟨b, 0, none⟩), .agg #[.int .i64 c, .slice ra n cap]] w fun e w' => e = .returned (.int .i64 (applyE t c xs)) ∧ Hb W0 b ub (applyT t c xs) u w' := by
  obtain ⟨S, R, U, h1, h2, h3, h4, h5⟩ := h
  refine (apply_any h1 c hr).mono ?_
  rintro e w' ⟨rfl, S', R', k1, k2, k3, k4⟩
  refine ⟨rfl, S', R', U, k1, h2.same k4.size (fun g hg => k4.block g (h2.lt g hg) (h4 g hg).2.1), fun g hg => ?_, fun g hg => ⟨(h4 g hg).1, fun q => ?_, fun q => ?_⟩, k4.below h5 h5.size h3⟩
  · rcases k2.new g hg with q | ⟨q, _⟩
    · exact h3 g q
    · exact Nat.le_trans h5.size q
  · rcases k2.new g q with q | ⟨q, _⟩
    · exact (h4 g hg).2.1 q
    · have := h2.lt g hg; omega
  · rcases k3.new g q with q | ⟨q, _⟩
    · exact (h4 g hg).2.2 q
    · have := h2.lt g hg; omega
theorem hb_rapply {W0 w : World} {b ub : Nat} {t : Tab} {u : RTab} (h : Hb W0 b ub t u w) (c : Int) {ra : Option Addr} {n cap : Nat} {xs : List Ch} (hr : IsC W0 ra n cap xs) (hk : u.k ≤ 1000) :
    Calls Try.prog 42 #[.pointer (some ⟨ub, 0, none⟩), .agg #[.int .i64 c, .slice ra n cap]] w fun e w' => e = .returned (.int .i64 (rapplyE u c xs)) ∧ Hb W0 b ub t (rapplyT u c xs) w' := by
  obtain ⟨S, R, U, h1, h2, h3, h4, h5⟩ := h
  refine (rapply_any h2 c hr h5 (fun g hg => (h4 g hg).1) hk).mono ?_
  rintro e w' ⟨rfl, U', k1, k2, k3⟩
  refine ⟨rfl, S, R, U', h1.same k3.size (fun g hg => k3.block g (h1.sets.lt hg) (fun q => hg.elim (h4 g q).2.1 (h4 g q).2.2)), k1, h3, fun g hg => ?_, k3.below h5 h5.size (fun g hg => (h4 g hg).1)⟩
  rcases k2.new g hg with q | ⟨q, _⟩
  · exact h4 g q
  · have e1 := h5.size
    exact ⟨by omega, fun z => by have := h1.sets.lt (.inl z); omega, fun z => by have := h1.sets.lt (.inr z); omega⟩
theorem IsRs.at2 {W : World} {a : Option Addr} {len cap : Nat} {ms : List Rm} (h : IsRs W a len cap ms) (k : Nat) (hk : k < len) : ∃ (b off : Nat) (m : Rm), a = some ⟨b, off, none⟩ ∧ ms[k]? = some m ∧ IsC W m.a m.n m.cap m.xs ∧ m.n ≤ 1954687338264 ∧ (∀ x ∈ m.xs, x.vs.length ≤ 8796093022208 ∧ x.bs.length ≤ 140737488355328) ∧ ∀ w, Below W.heap.size W w → b < w.heap.size ∧ w.cell? ⟨b, off + k * 2, none⟩ = some (.int .i64 m.com) ∧ w.cell? ⟨b, off + k * 2 + 1, none⟩ = some (.slice m.a m.n m.cap) := by
  obtain ⟨b, off, e, hc⟩ := h.cells (by omega)
  have hm : ms[k]? = some (ms[k]'(by rw [h.size]; exact hk)) := List.getElem?_eq_getElem _
  obtain ⟨c0, c1⟩ := hc k _ hm
  have hi := h.ins _ (List.mem_of_getElem? hm)
  have lb := lt_of_cell c0
  exact ⟨b, off, _, e, hm, hi.chs, hi.few, hi.part, fun w hb => ⟨Nat.lt_of_lt_of_le lb hb.size, (hb.cell lb).trans c0, (hb.cell lb).trans c1⟩⟩
theorem rapplyT_k (u : RTab) (c : Int) (xs : List Ch) : (rapplyT u c xs).k = u.k + 1 := by unfold rapplyT; split <;> rfl
/-- The table of some records. -/
def tabOf (ls : List Rm) : Tab := ls.foldl (fun t m => applyT t m.com m.xs) tab0
theorem tabOf_snoc {ls : List Rm} {j : Nat} {m : Rm} (h : ls[j]? = some m) : tabOf (ls.take (j + 1)) = applyT (tabOf (ls.take j)) m.com m.xs := by
  obtain ⟨hj, e⟩ := List.getElem?_eq_some_iff.1 h
  unfold tabOf
  rw [List.take_succ_eq_append_getElem hj, List.foldl_append, e]
  rfl
/-- What both leaves. -/
def BothP (w : World) (ls : List Rm) (e : Ending) (w' : World) : Prop := ∃ b ub u, e = .returned (.tuple #[.pointer (some ⟨b, 0, none⟩), .pointer (some ⟨ub, 0, none⟩)]) ∧ Hb w b ub (tabOf (ls.take 12)) u w' ∧ Rel (tabOf (ls.take 12)) u ∧ u.k ≤ 12
set_option maxHeartbeats 4000000 in
theorem both_any {w : World} {la : Option Addr} {ln lc : Nat} {ls : List Rm} (hl : IsRs w la ln lc ls) : Calls Try.prog 15 #[.slice la ln lc] w (BothP w ls) := by
  have t0 := Hb.new w
  go_enter Try.func15, Try.ntmps15
  go_wp2_with fail
  refine (new_tab w).mono ?_
  rintro e w1 ⟨rfl, rfl⟩
  obtain ⟨b, hb⟩ : ∃ q, Hid (q = w.heap.size) := ⟨_, rfl⟩
  rw [← hb.out] at t0 ⊢
  generalize w.alloc (tabB 0 0 none) = w1 at *
  go_wp2_with fail
  refine (rnew_tab w1).mono ?_
  rintro e w2 ⟨rfl, rfl⟩
  obtain ⟨ub, hub⟩ : ∃ q, Hid (q = w1.heap.size) := ⟨_, rfl⟩
  rw [← hub.out] at t0 ⊢
  generalize w1.alloc (rtB 0 0 (.slice none 0 0) (.slice none 0 0)) = w2 at *
  clear hb hub
  have s1 := hl.size
  have s2 := hl.room
  have s3 := hl.most
  unfold maxLen at s3
  go_wp2_with fail
  go_loopw [6] (fun iv wr => ∃ (j : Nat) (t : Tab) (u : RTab), iv = .int .i64 (j : Int) ∧ j ≤ ln ∧ j ≤ 12 ∧ u.k = j ∧ Rel t u ∧ Hb w b ub t u wr ∧ t = tabOf (ls.take j)) (fun iv _ => ln - (intOf iv).toNat)
  case atStart => exact ⟨0, tab0, rtab0, rfl, by omega, by omega, rfl, Rel.new, t0, rfl⟩
  case round =>
    clear t0
    obtain ⟨j, t, u, rfl, hj, hj2, huk, hrel0, hd, htj⟩ := hrel
    replace huk : Hid _ := huk
    replace htj : Hid _ := htj
    by_cases hlt : j < ln ∧ j < 12
    · obtain ⟨h1, h2⟩ := hlt
      obtain ⟨rb, ro, m, rfl, hmj, hC, hnn, hpart, hcel⟩ := hl.at2 j h1
      have htj1 : Hid (applyT t m.com m.xs = tabOf (ls.take (j + 1))) := by show applyT t m.com m.xs = _; rw [tabOf_snoc hmj, ← htj.out]
      replace hmj : Hid _ := hmj
      obtain ⟨hrb, c0, c1⟩ := hcel wr hd.belowW
      have i1 : (j : Int) < (ln : Int) := by omega
      have i2 : (j : Int) < 12 := by omega
      go_wp2_with fail
      refine (given_any m.com (hC.below hd.belowW) hnn hpart).mono ?_
      rintro e w3 ⟨a2, n2, cap2, rfl, hO, B2⟩
      have hd2 := hd.below B2
      go_wp2_with fail
      refine (hb_apply hd2 m.com hO).mono ?_
      rintro e w4 ⟨rfl, hd3⟩
      obtain ⟨hrb4, d0, d1⟩ := hcel w4 hd3.belowW
      clear c0 c1 hrb hO B2 hd2 hd
      go_wp2_with fail
      refine (hb_rapply hd3 m.com hC (by have := huk.out; omega)).mono ?_
      rintro e w5 ⟨rfl, hd5⟩
      have hrel1 := hrel0.apply m.com m.xs
      have hk1 := rapplyT_k u m.com m.xs
      replace hk1 : Hid _ := hk1
      clear d0 d1 hrb4 hd3
      go_wp2
      go_roundw
      case rel => exact ⟨j + 1, _, _, by go_num, by omega, by omega, by have h1 := hk1.out; have h2 := huk.out; omega, hrel1, hd5, htj1.out⟩
      case measure => simp [intOf]; omega
    · have i1 : ¬ ((j : Int) < (ln : Int) ∧ (j : Int) < 12) := by omega
      by_cases i2 : (j : Int) < (ln : Int)
      · have i3 : ¬ (j : Int) < 12 := by omega
        clear i1 hlt
        go_wp2
        go_ret2
        have e12 : tabOf (ls.take 12) = t := by rw [htj.out, show j = 12 by omega]
        exact ⟨b, ub, u, rfl, by rw [e12]; exact hd, by rw [e12]; exact hrel0, by have := huk.out; omega⟩
      · clear i1 hlt
        go_wp2
        go_ret2
        have e12 : tabOf (ls.take 12) = t := by rw [htj.out, List.take_of_length_le (by omega), List.take_of_length_le (by omega)]
        exact ⟨b, ub, u, rfl, by rw [e12]; exact hd, by rw [e12]; exact hrel0, by have := huk.out; omega⟩
end Go.Proofs.Yteomolihandfnaa
