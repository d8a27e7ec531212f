/- A map of pasts in which one past turns. -/
import Derived.Test.YtajdelinfkodbaaTbl
namespace Go.Proofs.Ytajdelinfkodbaa
open Go.RowKit
set_option maxRecDepth 100000
/-- What lies from a block on is cells. -/
def CellsFrom (B : Nat) (w : World) (S R : Nat → Prop) : Prop := ∀ g, S g ∨ R g → B ≤ g → ∃ cur e, w.heap[g]? = some (.cells cur e (0, 0))
theorem agg2 {c c' v v' : Value} (h : Value.agg #[c, v] = Value.agg #[c', v']) : c = c' ∧ v = v' := by
  injection h with h
  have h1 := congrArg Array.toList h
  exact ⟨(List.cons.inj h1).1, (List.cons.inj (List.cons.inj h1).2).1⟩
/-- The row that stands under a key: of a map that has none it is none. -/
theorem TbM.row {w : World} {S R : Nat → Prop} {mb : Nat} {F : Int → Option Value} {m : Int → Past} (h : TbM w S R mb F m) {k : Int} {c sv : Value} (hk : F k = some (.agg #[c, sv])) : c = .int .i64 (m k).chg ∧ RowT w S R sv (m k).vs := by
  obtain ⟨sv0, e0, hr⟩ := h.yes k _ hk
  obtain ⟨e1, e2⟩ := agg2 e0
  subst e2
  exact ⟨e1, hr⟩
theorem TbM.turn {w wp w6 w' : World} {S R : Nat → Prop} {mb : Nat} {F : Int → Option Value} {m m' : Int → Past} {oo c' : Int} {va : Option Addr} {vn vc : Nat} {nv : Value} {ys : List Ch} (h : TbM w S R mb F m) (hs : Sets w S R) (hb : Below w.heap.size w wp)
    (hF : (F oo).getD (.agg #[.int .i64 0, .slice none 0 0]) = .agg #[.int .i64 (m oo).chg, .slice va vn vc]) (hfin : WFin wp S R (.slice va vn vc) nv ys w6)
    (M7 : IsMap w' mb (fun i => if i = oo then some (.agg #[.int .i64 c', nv]) else F i)) (g7 : w6.grownBy w' (some mb)) (ho : 1 ≤ oo ∧ oo ≤ 4096) (hm : m' oo = ⟨c', ys⟩) (hm' : ∀ k, k ≠ oo → m' k = m k) :
    ∃ S' R', TbM w' S' R' mb (fun i => if i = oo then some (.agg #[.int .i64 c', nv]) else F i) m' ∧ Sets w' S' R' ∧ Grow S S' w w' ∧ Grow R R' w w' ∧ Fr S w w' ∧ (∀ B, mb < B → CellsFrom B w S R → CellsFrom B w' S' R') ∧ Fr (fun g => g = mb ∨ (S g ∧ (Value.slice va vn vc).ownBlock = some g)) w w' := by
  obtain ⟨f1, f2, f3, f4⟩ := hfin
  have k1 := hb.size
  have k2 := f2.size
  have k3 := g7.size
  have sl' : ∀ g, S g → g < wp.heap.size := fun g hg => Nat.lt_of_lt_of_le (hs.sl g hg) hb.size
  have rl' : ∀ g, R g → g < wp.heap.size := fun g hg => Nat.lt_of_lt_of_le (hs.rl g hg) hb.size
  have mbl : mb < wp.heap.size := sl' mb h.own
  have m6 : ∀ g cur e, w6.heap[g]? = some (.cells cur e (0, 0)) → g ≠ mb := by
    intro g cur e hh hq
    subst hq
    have h1 : wp.heap[g]? = w.heap[g]? := hb.block g (hs.sl g h.own)
    by_cases hc : S g ∧ (Value.slice va vn vc).ownBlock = some g
    · obtain ⟨L, q, hL, _⟩ := h.map
      cases hk : F oo with
      | none =>
        rw [hk] at hF
        have := (agg2 hF).2
        rw [← this] at hc
        simp [Value.ownBlock] at hc
      | some v =>
        rw [hk] at hF
        obtain ⟨sv, e0, hr⟩ := h.yes oo v hk
        have e1 : sv = .slice va vn vc := (agg2 (e0.symm.trans hF)).2
        subst e1
        obtain ⟨_, _, cu, hcu⟩ := hr.block hc.2
        rw [hL] at hcu
        cases hcu
    · have h2 := f2.block g mbl hc
      obtain ⟨L, q, hL, _⟩ := h.map
      rw [h2, h1, hL] at hh
      cases hh
  have k67 : ∀ g, g ≠ mb → g < w6.heap.size → w'.heap[g]? = w6.heap[g]? := fun g hg hl => g7.block g hl (fun e => hg (Option.some.inj e))
  have keep : ∀ g, g < w.heap.size → g ≠ mb → ¬ (S g ∧ (Value.slice va vn vc).ownBlock = some g) → w'.heap[g]? = w.heap[g]? := fun g hg hm hn => (k67 g hm (by omega)).trans ((f2.block g (by omega) hn).trans (hb.block g hg))
  have nR : ∀ g, R g → w'.heap[g]? = w.heap[g]? := fun g hg => keep g (hs.rl g hg) (fun e => hs.dis g hg (e ▸ h.own)) (fun hc => hs.dis g hg hc.1)
  have notNew : ∀ g, g < wp.heap.size → ¬ S g → ¬ (S g ∨ (wp.heap.size ≤ g ∧ nv.ownBlock = some g)) := fun g hg hn hc => by
    rcases hc with hc | hc
    · exact hn hc
    · omega
  have own6 : ∀ g, nv.ownBlock = some g → ∃ cur, w'.heap[g]? = some (.cells cur 104 (0, 0)) := fun g hg => by
    obtain ⟨_, hl, cur, hh⟩ := f1.block hg
    exact ⟨cur, (k67 g (m6 g cur 104 hh) hl).trans hh⟩
  refine ⟨fun q => S q ∨ (wp.heap.size ≤ q ∧ nv.ownBlock = some q), plusR R wp w', ⟨M7, .inl h.own, fun k hk => ?_, fun k hk => ?_, fun k v hv => ?_, fun k k' c1 c2 sv sv' g h1 h2 h3 h4 h5 => ?_⟩, ⟨fun g hg => ?_, fun g hg => ?_, fun g hg hS => ?_, fun g cur e hg hh => ?_⟩, ⟨fun g hg => .inl hg, fun g hg => ?_⟩, ⟨fun g hg => .inl hg, fun g hg => ?_⟩, ?_, fun B hB hcf g hg hBg => ?_, ?_⟩
  · by_cases e : k = oo
    · rw [e]; exact ho
    · rw [if_neg e] at hk
      exact h.dom k hk
  · by_cases e : k = oo
    · rw [if_pos e] at hk; cases hk
    · rw [if_neg e] at hk
      rw [hm' k e]
      exact h.no k hk
  · by_cases e : k = oo
    · rw [if_pos e] at hv
      cases hv
      subst e
      refine ⟨nv, by rw [hm], ?_⟩
      rw [hm]
      refine f1.same (fun _ h => h) (fun _ _ h => h) (fun g hg => ?_) (fun g hg hr => ?_) (fun g hg => ?_)
      · rcases hg with hg | ⟨hg, cur, e, he, hh⟩
        · exact .inl hg
        · exact .inr ⟨hg, cur, e, he, (k67 g (m6 g cur e hh) (lt_of_block hh)).trans hh⟩
      · rcases hr with hr | ⟨_, cur, e, _, hh⟩
        · exact k67 g (fun e => hs.dis g hr (e ▸ h.own)) hg
        · exact k67 g (m6 g cur e hh) hg
      · obtain ⟨_, hl, cur, hh⟩ := f1.block hg
        exact k67 g (m6 g cur 104 hh) hl
    · rw [if_neg e] at hv
      obtain ⟨sv, rfl, hr⟩ := h.yes k v hv
      refine ⟨sv, by rw [hm' k e], ?_⟩
      rw [hm' k e]
      refine hr.same (fun _ h => .inl h) (fun g hg hn => notNew g (by omega) hn) (fun _ h => .inl h) (fun g _ hg => nR g hg) (fun g hg => ?_)
      obtain ⟨hsr, hl, cur, hh⟩ := hr.block hg
      refine keep g hl (h.map.noCells hh) (fun hc => ?_)
      cases hk : F oo with
      | none =>
        rw [hk] at hF
        have := (agg2 hF).2
        rw [← this] at hc
        simp [Value.ownBlock] at hc
      | some v0 =>
        rw [hk] at hF
        have hF' : F oo = some (.agg #[.int .i64 (m oo).chg, .slice va vn vc]) := by rw [hk]; exact congrArg some hF
        exact e (h.apart k oo _ _ sv _ g hv hF' hg hc.2 hc.1)
  · have key : ∀ kk cc svv, kk ≠ oo → (if kk = oo then some (Value.agg #[.int .i64 c', nv]) else F kk) = some (.agg #[cc, svv]) → F kk = some (.agg #[cc, svv]) := fun kk cc svv hne hh => by rw [if_neg hne] at hh; exact hh
    have cross : ∀ kk cc svv, kk ≠ oo → F kk = some (.agg #[cc, svv]) → svv.ownBlock = some g → nv.ownBlock = some g → False := by
      intro kk cc svv hne hh hg hgn
      have hr := (h.row hh).2
      obtain ⟨hsr, hl, cur, hcu⟩ := hr.block hg
      rcases f3 g hgn with q | q
      · cases hk : F oo with
        | none =>
          rw [hk] at hF
          have := (agg2 hF).2
          rw [← this] at q
          simp [Value.ownBlock] at q
        | some v0 =>
          rw [hk] at hF
          have hF' : F oo = some (.agg #[.int .i64 (m oo).chg, .slice va vn vc]) := by rw [hk]; exact congrArg some hF
          have hSg : S g := by
            rcases h5 with h5 | ⟨h5, _⟩
            · exact h5
            · omega
          exact hne (h.apart kk oo _ _ svv _ g hh hF' hg q hSg)
      · omega
    by_cases e1 : k = oo
    · by_cases e2 : k' = oo
      · rw [e1, e2]
      · rw [if_pos e1] at h1
        have e3 := (agg2 (Option.some.inj h1)).2
        rw [← e3] at h3
        exact (cross k' c2 sv' e2 (key k' c2 sv' e2 h2) h4 h3).elim
    · by_cases e2 : k' = oo
      · rw [if_pos e2] at h2
        have e3 := (agg2 (Option.some.inj h2)).2
        rw [← e3] at h4
        exact (cross k c1 sv e1 (key k c1 sv e1 h1) h3 h4).elim
      · have q1 := key k c1 sv e1 h1
        have hl := ((h.row q1).2.block h3).2.1
        have hSg : S g := by
          rcases h5 with h5 | ⟨h5, _⟩
          · exact h5
          · omega
        exact h.apart k k' c1 c2 sv sv' g q1 (key k' c2 sv' e2 h2) h3 h4 hSg
  · rcases hg with hg | ⟨_, hg⟩
    · have := sl' g hg; omega
    · obtain ⟨cur, hh⟩ := own6 g hg
      exact lt_of_block hh
  · rcases hg with hg | ⟨_, cur, e, _, hh⟩
    · have := rl' g hg; omega
    · exact lt_of_block hh
  · rcases hg with hg | ⟨hg, cur, e, he, hh⟩
    · rcases hS with hS | ⟨hS, _⟩
      · exact hs.dis g hg hS
      · have := rl' g hg; omega
    · rcases hS with hS | ⟨_, hS⟩
      · have := sl' g hS; omega
      · obtain ⟨cur', hh'⟩ := own6 g hS
        rw [hh] at hh'
        cases hh'
        rcases he with he | he <;> exact absurd he (by decide)
  · rcases hg with hg | ⟨_, hg⟩
    · by_cases hm : g = mb
      · subst hm
        obtain ⟨L, q, hL, _⟩ := M7
        rw [hL] at hh
        cases hh
      · by_cases hc : S g ∧ (Value.slice va vn vc).ownBlock = some g
        · obtain ⟨cur', hh'⟩ := f4 g hc.1 hc.2
          rw [k67 g hm (lt_of_block hh'), hh'] at hh
          cases hh
          exact .inr rfl
        · rw [keep g (hs.sl g hg) hm hc] at hh
          exact hs.ty g cur e hg hh
    · obtain ⟨cur', hh'⟩ := own6 g hg
      rw [hh'] at hh
      cases hh
      exact .inr rfl
  · rcases hg with hg | ⟨q, hg⟩
    · exact .inl hg
    · obtain ⟨cur, hh⟩ := own6 g hg
      exact .inr ⟨by omega, lt_of_block hh⟩
  · rcases hg with hg | ⟨q, cur, e, _, hh⟩
    · exact .inl hg
    · exact .inr ⟨by omega, lt_of_block hh⟩
  · exact ⟨g7.os.trans (f2.os.trans hb.os), g7.tape.trans (f2.tape.trans hb.tape), g7.output.trans (f2.output.trans hb.output), by omega, fun g hg hn => keep g hg (fun e => hn (e ▸ h.own)) (fun hc => hn hc.1)⟩
  · have hm0 : g ≠ mb := fun e => by omega
    have old : S g ∨ R g → ∃ cur e, w'.heap[g]? = some (.cells cur e (0, 0)) := fun ho => by
      by_cases hc : S g ∧ (Value.slice va vn vc).ownBlock = some g
      · obtain ⟨cur, hh⟩ := f4 g hc.1 hc.2
        exact ⟨cur, 104, (k67 g hm0 (lt_of_block hh)).trans hh⟩
      · obtain ⟨cur, e, hh⟩ := hcf g ho hBg
        exact ⟨cur, e, (keep g (lt_of_block hh) hm0 hc).trans hh⟩
    rcases hg with (hg | ⟨_, hg⟩) | (hg | ⟨_, cur, e, _, hh⟩)
    · exact old (.inl hg)
    · obtain ⟨cur, hh⟩ := own6 g hg
      exact ⟨cur, 104, hh⟩
    · exact old (.inr hg)
    · exact ⟨cur, e, hh⟩
  · exact ⟨g7.os.trans (f2.os.trans hb.os), g7.tape.trans (f2.tape.trans hb.tape), g7.output.trans (f2.output.trans hb.output), by omega, fun g hg hn => keep g hg (fun e => hn (.inl e)) (fun hc => hn (.inr hc))⟩
end Go.Proofs.Ytajdelinfkodbaa
