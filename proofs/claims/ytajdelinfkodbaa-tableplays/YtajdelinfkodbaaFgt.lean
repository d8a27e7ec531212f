/- Forget: how all was ahead of a commit is let go of. -/
import Derived.Test.YtajdelinfkodbaaRis
import Derived.Test.YtajdelinfkodbaaFrm
import Derived.Test.YtajdelinfkodbaaAnyIn
namespace Go.Proofs.Ytajdelinfkodbaa
open Go.RowKit Go.Shelf
attribute [local go_sem] Oper.semAt_some
set_option maxRecDepth 100000
def forgM (c : Int) (m : Int → Past) : Int → Past := fun k => ⟨(m k).chg, fromL c (m k).vs⟩
def forgetE (t : Tab) (c : Int) : Int := if t.first ≤ c ∧ c ≤ t.last then 0 else 13
def forgetT (t : Tab) (c : Int) : Tab := if t.first ≤ c ∧ c ≤ t.last then ⟨c, t.last, forgM c t.m⟩ else t
theorem GoodM.forg {m : Int → Past} {L : Int} (h : GoodM m L) (c : Int) : GoodM (forgM c m) L := by
  refine ⟨h.chg, fun k i j x y hij hx hy => ?_, fun k x hx => h.ver k x (List.mem_of_mem_drop hx), h.dom⟩
  unfold forgM fromL at hx hy
  simp only [List.getElem?_drop] at hx hy
  exact h.rise k _ _ x y (by omega) hx hy
theorem rising_any (n : Nat) (b : Nat) (w : World) : CallsIn Fence.wide n Try.prog 40 #[.pointer (some ⟨b, 0, none⟩)] w fun e w' => e = .returned (.func (.func 55) #[] #[.pointer (some ⟨w.heap.size, 0, none⟩)]) ∧ w' = w.alloc (.cells #[.pointer (some ⟨b, 0, none⟩)] 23) := by
  refine callsIn_of_wp Try.func40 rfl trivial ?_ rfl
  simp only [Try.ntmps40, List.size_toArray, List.length_cons, List.length_nil, Nat.reduceAdd, Nat.reduceSub, Array.replicate_succ, Array.replicate_zero, List.push_toArray, List.append_toArray, List.nil_append, List.cons_append]
  gi_wp2
  go_ret
  exact ⟨rfl, rfl⟩
/-- On the way. -/
structure FI (w : World) (S R : Nat → Prop) (b mb : Nat) (f l c : Int) (m : Int → Past) (F0 : Int → Option Value) (pre : List Int) (W : World) : Prop where
  m : ∃ F S' R', TbM W S' R' mb F (fun k => if k ∈ pre then ⟨(m k).chg, fromL c (m k).vs⟩ else m k) ∧ Sets W S' R' ∧ S' b ∧ Grow S S' w W ∧ Grow R R' w W ∧ CellsFrom w.heap.size W S' R' ∧ (∀ k, k ∉ pre → F k = F0 k) ∧ (∀ k, F k ≠ none ↔ F0 k ≠ none)
  blk : W.heap[b]? = some (tabB f l (some mb))
  fr : Fr S w W
theorem FI.own {w : World} {S R : Nat → Prop} {b mb : Nat} {f l c : Int} {m : Int → Past} {F0 : Int → Option Value} (hb : b < w.heap.size) : OwnFrom w.heap.size (FI w S R b mb f l c m F0) := by
  rintro pre W W' row ⟨⟨F, S', R', h1, h2, h3, h4, h5, h6, h7, h8⟩, hblk, hfr⟩ hg hr
  have hk : ∀ g, S' g ∨ R' g → W'.heap[g]? = W.heap[g]? := fun g hS => hg.block g (h2.lt hS) (fun e => by
    obtain ⟨q1, o, q2, q3⟩ := hr g e.symm
    obtain ⟨cur, e', hh⟩ := h6 g hS q1
    rw [hh] at q2
    cases q2
    cases q3)
  have low : ∀ g, g < w.heap.size → W'.heap[g]? = W.heap[g]? := fun g hl => hg.block g (by have := hfr.size; omega) (fun e => by have := (hr g e.symm).1; omega)
  refine ⟨⟨F, S', R', h1.same h2 (fun _ h => h) (fun _ _ h => h) (fun _ h => h) hk, h2.same hg.size hk, h3, h4.up hg.size, h5.up hg.size, fun g hS hB => ?_, h7, h8⟩, (low b hb).trans hblk, ⟨hg.os.trans hfr.os, hg.tape.trans hfr.tape, hg.output.trans hfr.output, Nat.le_trans hfr.size hg.size, fun q hq hn => (low q hq).trans (hfr.block q hq hn)⟩⟩
  obtain ⟨cur, e, hh⟩ := h6 g hS hB
  exact ⟨cur, e, (hk g hS).trans hh⟩
/-- The keys of a map, rising. -/
def keysL (F : Int → Option Value) : List Int := ((List.range 4096).map fun i : Nat => (i : Int) + 1).filter fun k => (F k).isSome
theorem keysL_rise (F : Int → Option Value) : (keysL F).Pairwise fun x y => x < y := by
  refine List.Pairwise.filter _ (List.pairwise_map.2 (List.Pairwise.imp (fun {a b} (h : a < b) => by omega) List.pairwise_lt_range))
theorem keysL_len (F : Int → Option Value) : (keysL F).length ≤ 4096 := by
  refine Nat.le_trans (List.length_filter_le _ _) (by simp)
theorem keysL_mem {F : Int → Option Value} (hd : ∀ k, F k ≠ none → 1 ≤ k ∧ k ≤ 4096) (k : Int) : k ∈ keysL F ↔ F k ≠ none := by
  unfold keysL
  rw [List.mem_filter]
  constructor
  · rintro ⟨_, h⟩ e
    rw [e] at h
    cases h
  · intro h
    have := hd k h
    refine ⟨List.mem_map.2 ⟨(k - 1).toNat, List.mem_range.2 (by omega), by omega⟩, ?_⟩
    cases hk : F k with
    | none => exact absurd hk h
    | some v => rfl
theorem boxed_own' {β : Type} {B k : Nat} {cur : Array Value} {e : Nat} {p : Prop} : OwnFrom B (fun (_ : β) W => W.heap[k]? = some (.cells cur e (0, 0)) ∧ p) := by
  rintro _ W W' row ⟨h, hp⟩ hg hr
  refine ⟨(hg.block k (lt_of_block h) (fun e => ?_)).trans h, hp⟩
  obtain ⟨_, o, q2, q3⟩ := hr k e.symm
  rw [h] at q2
  cases q2
  cases q3
theorem FI.vris {w : World} {S R : Nat → Prop} {b mb bx : Nat} {f l c : Int} {m : Int → Past} {F0 : Int → Option Value} {pv : Int → Value} {pre : List Int} {W : World} (h : FI w S R b mb f l c m F0 pre W) (hbx : W.cell? ⟨bx, 0, none⟩ = some (.pointer (some ⟨b, 0, none⟩))) (hd : ∀ k, F0 k ≠ none → 1 ≤ k ∧ k ≤ 4096) (hpv : ∀ k, F0 k ≠ none → F0 k = some (pv k)) (hpre : pre = (keysL F0).take pre.length) : VRis bx b (some mb) (keysL F0) pv pre W := by
  obtain ⟨⟨F, S', R', h1, h2, h3, h4, h5, h6, h7, h8⟩, hblk, hfr⟩ := h
  obtain ⟨_, _, y2⟩ := tab_cells hblk
  refine ⟨hbx, y2, F, h1.map, h1.dom, fun k => by rw [keysL_mem hd k, h8 k], fun k hk => ?_⟩
  have hm : F0 k ≠ none := (keysL_mem hd k).1 (List.mem_of_mem_drop hk)
  rw [h7 k (fun hp => ?_), hpv k hm]
  rw [hpre] at hp
  have hn := keysL_rise F0
  have hnd : (keysL F0).Nodup := hn.imp (fun h => Int.ne_of_lt h)
  rw [← List.take_append_drop pre.length (keysL F0)] at hnd
  exact (List.nodup_append.1 hnd).2.2 k hp k hk rfl
/-- The end: the first commit is another one. -/
theorem FI.fin {w W : World} {S R : Nat → Prop} {b mb D : Nat} {f l c : Int} {m : Int → Past} {F0 : Int → Option Value} {ks : List Int} (h : FI w S R b mb f l c m F0 ks W) (hall : ∀ k, F0 k ≠ none → k ∈ ks) (hno : ∀ k, F0 k = none → m k = ⟨0, []⟩) (hg : GoodM m l) (hf : 0 ≤ c ∧ c ≤ l ∧ l ≤ 1099511627776) (hSb : S b) (hD : w.heap.size ≤ D) (hK : W.heap[D]? = some (.deferred (some []))) :
    ∃ S' R', Tb ((W.setCell ⟨b, 0, none⟩ (.int .i64 c)).putObj D (.deferred none)) S' R' b ⟨c, l, forgM c m⟩ ∧ Grow S S' w ((W.setCell ⟨b, 0, none⟩ (.int .i64 c)).putObj D (.deferred none)) ∧ Grow R R' w ((W.setCell ⟨b, 0, none⟩ (.int .i64 c)).putObj D (.deferred none)) ∧ Fr S w ((W.setCell ⟨b, 0, none⟩ (.int .i64 c)).putObj D (.deferred none)) := by
  obtain ⟨⟨F, S', R', h1, h2, h3, h4, h5, h6, h7, h8⟩, hb, hfr⟩ := h
  have hm : (fun k => if k ∈ ks then (⟨(m k).chg, fromL c (m k).vs⟩ : Past) else m k) = forgM c m := by
    funext k
    by_cases hk : k ∈ ks
    · rw [if_pos hk]; rfl
    · rw [if_neg hk]
      have e : F0 k = none := Classical.byContradiction fun hn => hk (hall k hn)
      unfold forgM
      rw [hno k e]
      rfl
  rw [hm] at h1
  have hb' := tab_set0 hb c
  have oth : ∀ q, q ≠ b → (W.setCell ⟨b, 0, none⟩ (.int .i64 c)).heap[q]? = W.heap[q]? := fun q hq => heap_setCell_other W ⟨b, 0, none⟩ q _ hq
  have sz : (W.setCell ⟨b, 0, none⟩ (.int .i64 c)).heap.size = W.heap.size := by simp
  have bD : b ≠ D := fun e => by rw [← e, hb] at hK; unfold tabB at hK; cases hK
  have nD : ∀ g, S' g ∨ R' g → g ≠ D := fun g hg e => by
    subst e
    obtain ⟨cur, e', hh⟩ := h6 g hg hD
    rw [hK] at hh
    cases hh
  have put : ∀ q, q ≠ D → ((W.setCell ⟨b, 0, none⟩ (.int .i64 c)).putObj D (.deferred none)).heap[q]? = (W.setCell ⟨b, 0, none⟩ (.int .i64 c)).heap[q]? := fun q hq => World.putObj_heap_other hq
  have sz' : ((W.setCell ⟨b, 0, none⟩ (.int .i64 c)).putObj D (.deferred none)).heap.size = W.heap.size := by unfold World.putObj; simp
  have nrow : ∀ q cur e, W.heap[q]? = some (.cells cur e (0, 0)) → e ≠ 72 → q ≠ b := fun q cur e hh he hq => by
    subst hq
    rw [hb] at hh
    unfold tabB at hh
    cases hh
    exact he rfl
  refine ⟨S', R', ⟨⟨some mb, (put b bD).trans hb', F, h1.map.same ((put mb (nD mb (.inl h1.own))).trans (oth mb (fun e => by subst e; exact h1.map.noCells hb rfl))), h1.own, h1.dom, h1.no, fun k v hv => ?_, h1.apart⟩, h3, ⟨fun g hg => by rw [sz']; exact h2.sl g hg, fun g hg => by rw [sz']; exact h2.rl g hg, h2.dis, fun g cur e hS hh => ?_⟩, hg.forg c, hf⟩, h4.up (by omega), h5.up (by omega), ⟨hfr.os, hfr.tape, hfr.output, by rw [sz']; exact hfr.size, fun q hq hn => (put q (by omega)).trans ((oth q (fun e => hn (e ▸ hSb))).trans (hfr.block q hq hn))⟩⟩
  · obtain ⟨sv, e, hr⟩ := h1.yes k v hv
    refine ⟨sv, e, hr.same (fun _ h => h) (fun _ _ h => h) (fun _ h => h) (fun g _ hg' => (put g (nD g (.inr hg'))).trans (oth g (fun e => h2.dis g hg' (e ▸ h3)))) (fun g hg' => ?_)⟩
    obtain ⟨hsr, _, cur, hh⟩ := hr.block hg'
    exact (put g (nD g hsr)).trans (oth g (nrow g cur 104 hh (by decide)))
  · rw [put g (nD g (.inl hS))] at hh
    by_cases e' : g = b
    · subst e'
      rw [hb'] at hh
      unfold tabB at hh
      cases hh
      exact .inl rfl
    · rw [oth g e'] at hh
      exact h2.ty g cur e hS hh
theorem fin_nil {w W : World} {S R : Nat → Prop} {b D : Nat} {t : Tab} {c : Int} (h : Tb w S R b t) (hb : W.heap[b]? = some (tabB t.first t.last none)) (hfr : Fr S w W) (hm : ∀ k, t.m k = ⟨0, []⟩) (hkR : ∀ g, S g ∨ R g → g ≠ b → W.heap[g]? = w.heap[g]?) (hf : 0 ≤ c ∧ c ≤ t.last) (hD : w.heap.size ≤ D) :
    Tb ((W.setCell ⟨b, 0, none⟩ (.int .i64 c)).putObj D (.deferred none)) S R b ⟨c, t.last, forgM c t.m⟩ ∧ Fr S w ((W.setCell ⟨b, 0, none⟩ (.int .i64 c)).putObj D (.deferred none)) := by
  have hb' := tab_set0 hb c
  have oth : ∀ q, q ≠ b → (W.setCell ⟨b, 0, none⟩ (.int .i64 c)).heap[q]? = W.heap[q]? := fun q hq => heap_setCell_other W ⟨b, 0, none⟩ q _ hq
  have sz : (W.setCell ⟨b, 0, none⟩ (.int .i64 c)).heap.size = W.heap.size := by simp
  have put : ∀ q, q < w.heap.size → ((W.setCell ⟨b, 0, none⟩ (.int .i64 c)).putObj D (.deferred none)).heap[q]? = (W.setCell ⟨b, 0, none⟩ (.int .i64 c)).heap[q]? := fun q hq => World.putObj_heap_other (by omega)
  have sz' : ((W.setCell ⟨b, 0, none⟩ (.int .i64 c)).putObj D (.deferred none)).heap.size = W.heap.size := by unfold World.putObj; simp
  have hs := hfr.size
  have hbl := h.sets.sl b h.own
  refine ⟨⟨⟨none, (put b hbl).trans hb', fun k => by show forgM c t.m k = _; unfold forgM; rw [hm k]; rfl⟩, h.own, ⟨fun g hg => by rw [sz']; have := h.sets.sl g hg; omega, fun g hg => by rw [sz']; have := h.sets.rl g hg; omega, h.sets.dis, fun g cur e hS hh => ?_⟩, h.good.forg c, ⟨hf.1, hf.2, h.first0.2.2⟩⟩, ⟨hfr.os, hfr.tape, hfr.output, by rw [sz']; exact hs, fun q hq hn => (put q hq).trans ((oth q (fun e => hn (e ▸ h.own))).trans (hfr.block q hq hn))⟩⟩
  rw [put g (h.sets.sl g hS)] at hh
  by_cases e' : g = b
  · subst e'
    rw [hb'] at hh
    unfold tabB at hh
    cases hh
    exact .inl rfl
  · rw [oth g e', hkR g (.inl hS) e'] at hh
    exact h.sets.ty g cur e hS hh
set_option maxHeartbeats 8000000 in
theorem forget_any {w : World} {S R : Nat → Prop} {b : Nat} {t : Tab} (h : Tb w S R b t) (c : Int) :
    Calls Try.prog 16 #[.pointer (some ⟨b, 0, none⟩), .int .i64 c] w fun e w' => e = .returned (.int .i64 (forgetE t c)) ∧ ∃ S' R', Tb w' S' R' b (forgetT t c) ∧ Grow S S' w w' ∧ Grow R R' w w' ∧ Fr S w w' := by
  refine (callsIn_wide (n := 12)).1 ?_
  have B2 : Below w.heap.size w ((w.alloc (.cells #[.pointer (some ⟨b, 0, none⟩)] 23)).alloc (.cells #[.int .i64 c] 2)) := below_size box_below box_below.size box_below
  have h2 := h.below B2
  obtain ⟨mv, hblk, hV⟩ := h2.blk
  have hf1 : Fence.wide.fn 39 := trivial
  have hf2 : Fence.wide.fn 40 := trivial
  have ch := callsIn_wide (n := 11) |>.2 (has_any hblk c)
  refine callsIn_of_wp_marks Try.func16 rfl trivial ?_ rfl
  simp only [Try.ntmps16, List.size_toArray, List.length_cons, List.length_nil, Nat.reduceAdd, Nat.reduceSub, Array.replicate_succ, Array.replicate_zero, List.push_toArray, List.append_toArray, List.nil_append, List.cons_append]
  by_cases hh : t.first ≤ c ∧ c ≤ t.last
  · rw [show (decide (t.first ≤ c) && decide (c ≤ t.last)) = true by simp [hh]] at ch
    have eE : Hid (forgetE t c = 0) := by show forgetE t c = 0; unfold forgetE; rw [if_pos hh]
    have eT : Hid (forgetT t c = ⟨c, t.last, forgM c t.m⟩) := by show forgetT t c = _; unfold forgetT; rw [if_pos hh]
    gi_wp2_with (first
      | (gi_at_call 39; refine ch.mono ?_; rintro e w' ⟨rfl, rfl⟩)
      | (gi_at_call 40; refine (rising_any _ _ _).mono ?_; rintro e w' ⟨rfl, rfl⟩))
    have E2 : (((w.alloc (.cells #[.pointer (some ⟨b, 0, none⟩)] 23)).alloc (.cells #[.int .i64 c] 2)).alloc (.cells #[.pointer (some ⟨b, 0, none⟩)] 23)).heap[w.heap.size]? = some (.cells #[.pointer (some ⟨b, 0, none⟩)] 23 (0, 0)) := old1 (old1 (new1 _ _) _) _
    have E3 : (((w.alloc (.cells #[.pointer (some ⟨b, 0, none⟩)] 23)).alloc (.cells #[.int .i64 c] 2)).alloc (.cells #[.pointer (some ⟨b, 0, none⟩)] 23)).heap[w.heap.size + 1]? = some (.cells #[.int .i64 c] 2 (0, 0)) := old1 (new2 _ _ _) _
    have Ex : (((w.alloc (.cells #[.pointer (some ⟨b, 0, none⟩)] 23)).alloc (.cells #[.int .i64 c] 2)).alloc (.cells #[.pointer (some ⟨b, 0, none⟩)] 23)).heap[w.heap.size + 1 + 1]? = some (.cells #[.pointer (some ⟨b, 0, none⟩)] 23 (0, 0)) := new3 _ _ _ _
    have B3 : Below w.heap.size w (((w.alloc (.cells #[.pointer (some ⟨b, 0, none⟩)] 23)).alloc (.cells #[.int .i64 c] 2)).alloc (.cells #[.pointer (some ⟨b, 0, none⟩)] 23)) := below_size B2 B2.size box_below
    have h3 := h.below B3
    obtain ⟨W0, hW0⟩ : ∃ W0, ((w.alloc (.cells #[.pointer (some ⟨b, 0, none⟩)] 23)).alloc (.cells #[.int .i64 c] 2)).alloc (.cells #[.pointer (some ⟨b, 0, none⟩)] 23) = W0 := ⟨_, rfl⟩
    have hsz : W0.heap.size = w.heap.size + 1 + 1 + 1 := by rw [← hW0]; simp
    rw [hW0] at E2 E3 Ex B3 h3 ⊢
    clear hW0 hblk hV h2 ch B2
    obtain ⟨mv', hblk, hV⟩ := h3.blk
    have nS2 : ¬ S w.heap.size := fun q => by have := h.sets.sl _ q; omega
    have nS3 : ¬ S (w.heap.size + 1) := fun q => by have := h.sets.sl _ q; omega
    have nSx : ¬ S (w.heap.size + 1 + 1) := fun q => by have := h.sets.sl _ q; omega
    have hb0 : b < w.heap.size := h.sets.sl b h.own
    generalize w.heap.size + 1 + 1 = bx at *
    generalize w.heap.size + 1 = b3 at *
    obtain ⟨b2, hb2⟩ : ∃ q, q = w.heap.size := ⟨_, rfl⟩
    rw [← hb2] at E2 nS2 ⊢
    have hb2' : w.heap.size ≤ b2 := Nat.le_of_eq hb2.symm
    clear hb2
    have l2 := lt_of_block E2
    have l3 := lt_of_block E3
    have lx := lt_of_block Ex
    have lb := lt_of_block hblk
    have hfin : ∀ (W : World), Below w.heap.size w W0 → True := fun _ _ => trivial
    clear hfin
    cases mv' with
    | none =>
      have hm0 : ∀ k, t.m k = ⟨0, []⟩ := hV
      refine rangeV (F := Fence.wide) (n := 12) rfl (by decide) (gf := 55) (lb := #[.pointer (some ⟨bx, 0, none⟩)]) rfl trivial (enters_of Try.func55 (by kernel_rfl) rfl) (rising_seq (n := 11) (by decide) (bx := bx) (b := b) (mv := none) (ks := []) (pv := fun _ => undef) List.Pairwise.nil (by simp)) (fun _ => rfl)
        (fun _ W => Below W0.heap.size W0 W) (fun _ _ _ => False) (ownFrom_below (Nat.le_refl _) (Nat.le_refl _)) (fun _ _ _ _ _ hs _ _ => hs) (fun pre W hB => ⟨?v1, ?v2, rfl⟩) (Below.refl _ _) (fun _ _ _ => False) (fun _ _ _ _ _ _ hs _ _ => hs) ?assign ?body ?done ?stop
      case v1 => exact (hB.cell (p := ⟨bx, 0, none⟩) lx).trans (by rw [cell_of_row W0 bx _ _ _ _ Ex]; rfl)
      case v2 => exact (hB.cell (p := ⟨b, 2, none⟩) lb).trans (tab_cells hblk).2.2
      case assign =>
        intro l pre x W K _ hok
        simp at hok
      case body =>
        intro l pre x a' W _ hok
        simp at hok
      case stop =>
        rintro D c' pre W _ _ hx
        exact hx.elim
      case done =>
        rintro D xs W hD rfl hB hK
        have q2 := (hB.block b2 l2).trans E2
        have q3 := (hB.block b3 l3).trans E3
        have qb := (hB.block b lb).trans hblk
        have c2 : W.cell? ⟨b2, 0, none⟩ = some (.pointer (some ⟨b, 0, none⟩)) := by rw [cell_of_row W b2 _ _ _ _ q2]; rfl
        have c3 : W.cell? ⟨b3, 0, none⟩ = some (.int .i64 c) := by rw [cell_of_row W b3 _ _ _ _ q3]; rfl
        obtain ⟨y0, y1, y2⟩ := tab_cells qb
        have yf := tab_frozen qb
        have fin := fin_nil (W := W) (c := c) (D := D) h3 qb (Fr.of_below hB) hm0 (fun g hg _ => hB.block g (h3.sets.lt hg)) (by have := h3.first0; omega) hD
        have hK' : (W.setCell ⟨b, 0, none⟩ (.int .i64 c)).heap[D]? = some (.deferred (some [])) := (heap_setCell_other W ⟨b, 0, none⟩ D _ (by show D ≠ b; omega)).trans hK
        gi_wp2
        refine ⟨by simp, .inl ⟨_, _, rfl, run_takeDeferred hK', ?_⟩⟩
        refine ⟨_, results_tmp rfl _ _ _, by rw [eE.out]; rfl, S, R, by rw [eT.out]; exact fin.1, ⟨fun _ h => h, fun _ h => .inl h⟩, ⟨fun _ h => h, fun _ h => .inl h⟩, (Fr.of_below B3).trans fin.2 (fun _ _ h => h)⟩
    | some mb =>
      obtain ⟨F0, hM0⟩ := hV
      obtain ⟨va, hva⟩ : ∃ va : Int → Option Addr, ∀ x, ∃ vn vc, (F0 x).getD (.agg #[.int .i64 0, .slice none 0 0]) = .agg #[.int .i64 (t.m x).chg, .slice (va x) vn vc] ∧ RowT W0 S R (.slice (va x) vn vc) (t.m x).vs ∧ vn = (t.m x).vs.length := ⟨fun x => Classical.choose (hM0.get x), fun x => Classical.choose_spec (hM0.get x)⟩
      obtain ⟨vn, hvn⟩ : ∃ vn : Int → Nat, ∀ x, ∃ vc, (F0 x).getD (.agg #[.int .i64 0, .slice none 0 0]) = .agg #[.int .i64 (t.m x).chg, .slice (va x) (vn x) vc] ∧ RowT W0 S R (.slice (va x) (vn x) vc) (t.m x).vs ∧ vn x = (t.m x).vs.length := ⟨fun x => Classical.choose (hva x), fun x => Classical.choose_spec (hva x)⟩
      obtain ⟨vc, hvc⟩ : ∃ vc : Int → Nat, ∀ x, (F0 x).getD (.agg #[.int .i64 0, .slice none 0 0]) = .agg #[.int .i64 (t.m x).chg, .slice (va x) (vn x) (vc x)] ∧ RowT W0 S R (.slice (va x) (vn x) (vc x)) (t.m x).vs ∧ vn x = (t.m x).vs.length := ⟨fun x => Classical.choose (hvn x), fun x => Classical.choose_spec (hvn x)⟩
      clear hva hvn
      replace hvc : Hid _ := hvc
      have hpv : ∀ k, F0 k ≠ none → F0 k = some (.agg #[.int .i64 (t.m k).chg, .slice (va k) (vn k) (vc k)]) := fun k hk => by
        have := (hvc.out k).1
        cases hF : F0 k with
        | none => exact absurd hF hk
        | some v => rw [hF] at this; exact congrArg some this
      have hmbS := hM0.own
      have hmbl : mb < W0.heap.size := h3.sets.sl mb hmbS
      have hbm : b ≠ mb := hM0.map.noCells hblk
      have hb2m : b2 ≠ mb := hM0.map.noCells E2
      refine rangeV (F := Fence.wide) (n := 12) rfl (by decide) (gf := 55) (lb := #[.pointer (some ⟨bx, 0, none⟩)]) rfl trivial (enters_of Try.func55 (by kernel_rfl) rfl) (rising_seq (n := 11) (by decide) (bx := bx) (b := b) (mv := some mb) (ks := keysL F0) (pv := fun k => .agg #[.int .i64 (t.m k).chg, .slice (va k) (vn k) (vc k)]) (keysL_rise F0) (keysL_len F0)) (fun _ => rfl)
        (fun pre W => FI W0 S R b mb t.first t.last c t.m F0 pre W ∧ pre = (keysL F0).take pre.length) (fun _ _ _ => False) ((FI.own lb).and (ownFrom_pure _ _)) (fun _ _ _ _ _ hs _ _ => hs) (fun pre W hi => hi.1.vris ((cell_eq' (hi.1.fr.block bx lx nSx) 0).trans (by rw [cell_of_row W0 bx _ _ _ _ Ex]; rfl)) hM0.dom hpv hi.2)
        ⟨⟨⟨F0, S, R, by simpa using hM0, h3.sets, h3.own, Grow.refl _ _, Grow.refl _ _, fun g hg hB => absurd (h3.sets.lt hg) (by omega), fun _ _ => rfl, fun _ => Iff.rfl⟩, hblk, Fr.refl _ _⟩, rfl⟩
        (fun x a' W => ∃ Bx, W.heap[Bx]? = some (.cells #[.int .i64 (t.m x).chg, .slice (va x) (vn x) (vc x)] 78 (0, 0)) ∧ (W0.heap.size ≤ Bx ∧ a' = { tmps := #[.pointer (some ⟨b, 0, none⟩), .int .i64 c, .pointer (some ⟨b2, 0, none⟩), .pointer (some ⟨b3, 0, none⟩), .int .i64 0, .int .i64 x, .pointer (some ⟨Bx, 0, none⟩), .pointer (some ⟨b, 0, none⟩), .bool false, .pointer (some ⟨b, 0, none⟩), .int .i64 c, .bool true, .bool false, .pointer (some ⟨b, 0, none⟩), .func (.func 55) #[] #[.pointer (some ⟨bx, 0, none⟩)], .int .i64 x, .agg #[.int .i64 (t.m x).chg, .slice (va x) (vn x) (vc x)], undef, undef, undef, undef, undef, undef, undef, undef, undef, undef, undef, undef], defers := [] }))
        (fun x a' s A B row hs hg hr => by
          obtain ⟨Bx, q1, q2⟩ := hs
          exact ⟨Bx, boxed_own' (β := Unit) (B := W0.heap.size) (p := W0.heap.size ≤ Bx ∧ a' = _) s A B row ⟨q1, q2⟩ hg hr⟩) ?assign ?body ?done ?stop
      case assign =>
        rintro l pre x W K hi hok hK
        have hB0 : W0.heap.size ≤ W.heap.size := hi.1.fr.size
        have hi2 := (FI.own (S := S) (R := R) (mb := mb) (f := t.first) (l := t.last) (c := c) (m := t.m) (F0 := F0) lb).alloc (.cells #[.int .i64 (t.m x).chg, .slice (va x) (vn x) (vc x)] 78) hi.1
        gi_wp2
        exact hK _ _ ((KeepsOthers.alloc _ _).from _) (Kc.of_below box_below (Nat.le_refl _)) ⟨hi2, hi.2⟩ ⟨W.heap.size, new1 _ _, hB0, rfl⟩
      case stop =>
        rintro D c' pre W _ _ hx
        exact hx.elim
      case done =>
        rintro D xs W hD rfl ⟨hi, _⟩ hK
        have q2 := (hi.fr.block b2 l2 nS2).trans E2
        have q3 := (hi.fr.block b3 l3 nS3).trans E3
        have c2 : W.cell? ⟨b2, 0, none⟩ = some (.pointer (some ⟨b, 0, none⟩)) := by rw [cell_of_row W b2 _ _ _ _ q2]; rfl
        have c3 : W.cell? ⟨b3, 0, none⟩ = some (.int .i64 c) := by rw [cell_of_row W b3 _ _ _ _ q3]; rfl
        obtain ⟨y0, y1, y2⟩ := tab_cells hi.blk
        have yf := tab_frozen hi.blk
        have fin := hi.fin (D := D) (fun k hk => (keysL_mem hM0.dom k).2 hk) hM0.no h3.good (by have := h3.first0; omega) h3.own hD hK
        have hK' : (W.setCell ⟨b, 0, none⟩ (.int .i64 c)).heap[D]? = some (.deferred (some [])) := (heap_setCell_other W ⟨b, 0, none⟩ D _ (by show D ≠ b; omega)).trans hK
        replace fin : Hid _ := fin
        gi_wp2
        refine ⟨by simp, .inl ⟨_, _, rfl, run_takeDeferred hK', ?_⟩⟩
        obtain ⟨S2, R2, f1, f2, f3, f4⟩ := fin.out
        refine ⟨_, results_tmp rfl _ _ _, by rw [eE.out]; rfl, S2, R2, by rw [eT.out]; exact f1, ⟨f2.old, fun q hq => ?_⟩, ⟨f3.old, fun q hq => ?_⟩, (Fr.of_below B3).trans f4 (fun _ _ h => h)⟩
        · rcases f2.new q hq with z | ⟨z, z'⟩
          · exact .inl z
          · exact .inr ⟨Nat.le_trans B3.size z, z'⟩
        · rcases f3.new q hq with z | ⟨z, z'⟩
          · exact .inl z
          · exact .inr ⟨Nat.le_trans B3.size z, z'⟩
      case body =>
        rintro l pre x a' W ⟨⟨⟨F, S', R', hM, hs, hSb, gS, gR, hcf, hF7, hF8⟩, hblkW, hfr⟩, hpre⟩ hok ⟨Bx, EX, hBx, rfl⟩
        have hxk : x ∈ keysL F0 := List.mem_of_getElem? hok
        have hxn : x ∉ pre := fun hp => by
          rw [hpre] at hp
          obtain ⟨i, hi⟩ := List.mem_iff_getElem?.1 hp
          have hnd : (keysL F0).Nodup := (keysL_rise F0).imp (fun h => Int.ne_of_lt h)
          rw [List.getElem?_take] at hi
          split at hi
          · rename_i hlt
            have e := (List.getElem?_inj (List.getElem?_eq_some_iff.1 hi).1 hnd).1 (hi.trans hok.symm)
            omega
          · cases hi
        have hFx : F x = F0 x := hF7 x hxn
        have hxo : Hid (1 ≤ x ∧ x ≤ 4096) := hM0.dom x ((keysL_mem hM0.dom x).1 hxk)
        have hget : (F x).getD (.agg #[.int .i64 0, .slice none 0 0]) = .agg #[.int .i64 (t.m x).chg, .slice (va x) (vn x) (vc x)] := by rw [hFx]; exact (hvc.out x).1
        have hFs : F x = some (.agg #[.int .i64 (t.m x).chg, .slice (va x) (vn x) (vc x)]) := by rw [hFx]; exact hpv x ((keysL_mem hM0.dom x).1 hxk)
        have hrow : RowT W S' R' (.slice (va x) (vn x) (vc x)) (t.m x).vs := by
          have := (hM.row hFs).2
          rw [if_neg hxn] at this
          exact this
        have hgetM : (F x).getD (.agg #[.int .i64 0, .slice none 0 0]) = .agg #[.int .i64 ((fun k => if k ∈ pre then (⟨(t.m k).chg, fromL c (t.m k).vs⟩ : Past) else t.m k) x).chg, .slice (va x) (vn x) (vc x)] := by
          rw [hget]
          show _ = Value.agg #[.int .i64 (if x ∈ pre then (⟨(t.m x).chg, fromL c (t.m x).vs⟩ : Past) else t.m x).chg, _]
          rw [if_neg hxn]
        have hxl := h.good.len h.first0.2.2 x
        have E2W := (hfr.block b2 l2 nS2).trans E2
        have E3W := (hfr.block b3 l3 nS3).trans E3
        have q2 : W.cell? ⟨b2, 0, none⟩ = some (.pointer (some ⟨b, 0, none⟩)) := by rw [cell_of_row W b2 _ _ _ _ E2W]; rfl
        have q3 : W.cell? ⟨b3, 0, none⟩ = some (.int .i64 c) := by rw [cell_of_row W b3 _ _ _ _ E3W]; rfl
        obtain ⟨x0, x1⟩ := rec_cells (show W.heap[Bx]? = some (recB (t.m x).chg (.slice (va x) (vn x) (vc x)) 78) from EX)
        obtain ⟨y0, y1, y2⟩ := tab_cells hblkW
        replace hgetM : Hid _ := hgetM
        replace hget : Hid _ := hget
        replace hFs : Hid _ := hFs
        replace hFx : Hid _ := hFx
        have hown0 : ∀ g, (Value.slice (va x) (vn x) (vc x)).ownBlock = some g → g < W0.heap.size := fun g hg => ((hvc.out x).2.1.block hg).2.1
        gi_wp2_with fail
        refine wpIn_region_inv' (fun A D a w' => ∃ v17 v18 v19 v20 v21 v22 v23 v24 a8 n8 c8, a = ((((((((A.put (some 17) v17).put (some 18) v18).put (some 19) v19).put (some 20) v20).put (some 21) v21).put (some 22) v22).put (some 23) v23).put (some 24) v24) ∧ w'.heap[b]? = W.heap[b]? ∧ w'.heap[b2]? = W.heap[b2]? ∧ (D 7 ∨ Below W.heap.size W w') ∧ (D 0 → v17 = .pointer (some ⟨b, 0, none⟩)) ∧ (D 1 → v18 = .pointer (some ⟨b, 0, none⟩)) ∧ (D 2 → v19 = .pointer (some ⟨b, 2, none⟩)) ∧ (D 3 → v20 = .map (some mb)) ∧ (D 4 → v21 = .int .i64 x) ∧ (D 5 → v22 = .agg #[.int .i64 (t.m x).chg, .slice (va x) (vn x) (vc x)]) ∧ (D 6 → v23 = .int .i64 c) ∧ (D 7 → v24 = .agg #[.int .i64 (t.m x).chg, .slice a8 n8 c8]) ∧ (D 8 → ∃ wp w6 : World, Below W.heap.size W wp ∧ WFin wp S' R' (.slice (va x) (vn x) (vc x)) (.slice a8 n8 c8) (fromL c (t.m x).vs) w6 ∧ IsMap w' mb (fun i => if i = x then some (.agg #[.int .i64 (t.m x).chg, .slice a8 n8 c8]) else F i) ∧ w6.grownBy w' (some mb)) ∧ (D 7 → ¬ D 8 → ∃ wp : World, Below W.heap.size W wp ∧ WFin wp S' R' (.slice (va x) (vn x) (vc x)) (.slice a8 n8 c8) (fromL c (t.m x).vs) w')) (by kernel_rfl) (by kernel_rfl) ?mono ?start ?step ?done
        case mono =>
          rintro D D' a w' hD ⟨v17, v18, v19, v20, v21, v22, v23, v24, a8, n8, c8, ha, hC1, hC2, hB, e0, e1, e2, e3, e4, e5, e6, e7, hQ, hWi⟩
          exact ⟨v17, v18, v19, v20, v21, v22, v23, v24, a8, n8, c8, ha, hC1, hC2, hB.imp_left (hD 7).1, fun h => e0 ((hD 0).2 h), fun h => e1 ((hD 1).2 h), fun h => e2 ((hD 2).2 h), fun h => e3 ((hD 3).2 h), fun h => e4 ((hD 4).2 h), fun h => e5 ((hD 5).2 h), fun h => e6 ((hD 6).2 h), fun h => e7 ((hD 7).2 h), fun h => hQ ((hD 8).2 h), fun h h' => hWi ((hD 7).2 h) (fun k => h' ((hD 8).1 k))⟩
        case start => exact ⟨undef, undef, undef, undef, undef, undef, undef, undef, none, 0, 0, by kernel_rfl, rfl, rfl, .inr ((Below.refl _ _).drew), fun h => h.elim, fun h => h.elim, fun h => h.elim, fun h => h.elim, fun h => h.elim, fun h => h.elim, fun h => h.elim, fun h => h.elim, fun h => h.elim, fun h _ => h.elim⟩
        case step =>
          intro i o ho D a w' hI hn hcl hd
          obtain ⟨v17, v18, v19, v20, v21, v22, v23, v24, a8, n8, c8, ha, hC1, hC2, hB, e0, e1, e2, e3, e4, e5, e6, e7, hQ, hWi⟩ := hI
          match i, ho with
          | 0, ho =>
            cases Option.some.inj ho
            refine roundIn_op (by intro c h; cases h) ?_
            have ev : a.tmps[2]?.getD undef = .pointer (some ⟨b2, 0, none⟩) := by rw [ha]; kernel_rfl
            have hcc := (cell_eq' hC2 0).trans q2
            refine wp_value (w' := w') (v := .pointer (some ⟨b, 0, none⟩)) (by simp [execOp, ev, go_sem, hcc]) ?_
            exact ⟨(.pointer (some ⟨b, 0, none⟩)), v18, v19, v20, v21, v22, v23, v24, a8, n8, c8, by rw [ha]; kernel_rfl, hC1, hC2, hB.imp_left .inr, fun _ => rfl, fun h => e1 (h.resolve_left (by decide)), fun h => e2 (h.resolve_left (by decide)), fun h => e3 (h.resolve_left (by decide)), fun h => e4 (h.resolve_left (by decide)), fun h => e5 (h.resolve_left (by decide)), fun h => e6 (h.resolve_left (by decide)), fun h => e7 (h.resolve_left (by decide)), fun h => hQ (h.resolve_left (by decide)), fun h h' => hWi (h.resolve_left (by decide)) (fun k => h' (.inr k))⟩
          | 1, ho =>
            cases Option.some.inj ho
            refine roundIn_op (by intro c h; cases h) ?_
            have ev : a.tmps[17]?.getD undef = .pointer (some ⟨b, 0, none⟩) := by rw [ha, e0 (hd ⟨0, .data⟩ (by simp) rfl)]; kernel_rfl
            refine wp_value (w' := w') (v := .pointer (some ⟨b, 0, none⟩)) (by simp [execOp, ev, go_sem]) ?_
            exact ⟨v17, (.pointer (some ⟨b, 0, none⟩)), v19, v20, v21, v22, v23, v24, a8, n8, c8, by rw [ha]; kernel_rfl, hC1, hC2, hB.imp_left .inr, fun h => e0 (h.resolve_left (by decide)), fun _ => rfl, fun h => e2 (h.resolve_left (by decide)), fun h => e3 (h.resolve_left (by decide)), fun h => e4 (h.resolve_left (by decide)), fun h => e5 (h.resolve_left (by decide)), fun h => e6 (h.resolve_left (by decide)), fun h => e7 (h.resolve_left (by decide)), fun h => hQ (h.resolve_left (by decide)), fun h h' => hWi (h.resolve_left (by decide)) (fun k => h' (.inr k))⟩
          | 2, ho =>
            cases Option.some.inj ho
            refine roundIn_op (by intro c h; cases h) ?_
            have ev : a.tmps[18]?.getD undef = .pointer (some ⟨b, 0, none⟩) := by rw [ha, e1 (hd ⟨1, .data⟩ (by simp) rfl)]; kernel_rfl
            refine wp_value (w' := w') (v := .pointer (some ⟨b, 2, none⟩)) (by simp [execOp, ev, go_sem]) ?_
            exact ⟨v17, v18, (.pointer (some ⟨b, 2, none⟩)), v20, v21, v22, v23, v24, a8, n8, c8, by rw [ha]; kernel_rfl, hC1, hC2, hB.imp_left .inr, fun h => e0 (h.resolve_left (by decide)), fun h => e1 (h.resolve_left (by decide)), fun _ => rfl, fun h => e3 (h.resolve_left (by decide)), fun h => e4 (h.resolve_left (by decide)), fun h => e5 (h.resolve_left (by decide)), fun h => e6 (h.resolve_left (by decide)), fun h => e7 (h.resolve_left (by decide)), fun h => hQ (h.resolve_left (by decide)), fun h h' => hWi (h.resolve_left (by decide)) (fun k => h' (.inr k))⟩
          | 3, ho =>
            cases Option.some.inj ho
            refine roundIn_op (by intro c h; cases h) ?_
            have ev : a.tmps[19]?.getD undef = .pointer (some ⟨b, 2, none⟩) := by rw [ha, e2 (hd ⟨2, .data⟩ (by simp) rfl)]; kernel_rfl
            have hcc := (cell_eq' hC1 2).trans y2
            refine wp_value (w' := w') (v := .map (some mb)) (by simp [execOp, ev, go_sem, hcc]) ?_
            exact ⟨v17, v18, v19, (.map (some mb)), v21, v22, v23, v24, a8, n8, c8, by rw [ha]; kernel_rfl, hC1, hC2, hB.imp_left .inr, fun h => e0 (h.resolve_left (by decide)), fun h => e1 (h.resolve_left (by decide)), fun h => e2 (h.resolve_left (by decide)), fun _ => rfl, fun h => e4 (h.resolve_left (by decide)), fun h => e5 (h.resolve_left (by decide)), fun h => e6 (h.resolve_left (by decide)), fun h => e7 (h.resolve_left (by decide)), fun h => hQ (h.resolve_left (by decide)), fun h h' => hWi (h.resolve_left (by decide)) (fun k => h' (.inr k))⟩
          | 4, ho =>
            cases Option.some.inj ho
            refine roundIn_op (by intro c h; cases h) ?_
            have ev : a.tmps[5]?.getD undef = .int .i64 x := by rw [ha]; kernel_rfl
            refine wp_value (w' := w') (v := .int .i64 x) (by simp [execOp, ev, go_sem]) ?_
            exact ⟨v17, v18, v19, v20, (.int .i64 x), v22, v23, v24, a8, n8, c8, by rw [ha]; kernel_rfl, hC1, hC2, hB.imp_left .inr, fun h => e0 (h.resolve_left (by decide)), fun h => e1 (h.resolve_left (by decide)), fun h => e2 (h.resolve_left (by decide)), fun h => e3 (h.resolve_left (by decide)), fun _ => rfl, fun h => e5 (h.resolve_left (by decide)), fun h => e6 (h.resolve_left (by decide)), fun h => e7 (h.resolve_left (by decide)), fun h => hQ (h.resolve_left (by decide)), fun h h' => hWi (h.resolve_left (by decide)) (fun k => h' (.inr k))⟩
          | 5, ho =>
            cases Option.some.inj ho
            refine roundIn_op (by intro c h; cases h) ?_
            have ev : a.tmps[6]?.getD undef = .pointer (some ⟨Bx, 0, none⟩) := by rw [ha]; kernel_rfl
            have hb := hB.resolve_left (fun h => hn (hcl 7 _ rfl h ⟨5, .data⟩ (by simp) rfl))
            have z0 := (hb.cell (p := ⟨Bx, 0, none⟩) (lt_of_cell x0)).trans x0
            have z1 := (hb.cell (p := ⟨Bx, 1, none⟩) (lt_of_cell x1)).trans x1
            refine wp_value (w' := w') (v := .agg #[.int .i64 (t.m x).chg, .slice (va x) (vn x) (vc x)]) (by simp [execOp, ev, go_sem, z0, z1]) ?_
            exact ⟨v17, v18, v19, v20, v21, (.agg #[.int .i64 (t.m x).chg, .slice (va x) (vn x) (vc x)]), v23, v24, a8, n8, c8, by rw [ha]; kernel_rfl, hC1, hC2, hB.imp_left .inr, fun h => e0 (h.resolve_left (by decide)), fun h => e1 (h.resolve_left (by decide)), fun h => e2 (h.resolve_left (by decide)), fun h => e3 (h.resolve_left (by decide)), fun h => e4 (h.resolve_left (by decide)), fun _ => rfl, fun h => e6 (h.resolve_left (by decide)), fun h => e7 (h.resolve_left (by decide)), fun h => hQ (h.resolve_left (by decide)), fun h h' => hWi (h.resolve_left (by decide)) (fun k => h' (.inr k))⟩
          | 6, ho =>
            cases Option.some.inj ho
            refine roundIn_op (by intro c h; cases h) ?_
            have ev : a.tmps[3]?.getD undef = .pointer (some ⟨b3, 0, none⟩) := by rw [ha]; kernel_rfl
            have hb := hB.resolve_left (fun h => hn (hcl 7 _ rfl h ⟨6, .data⟩ (by simp) rfl))
            have z0 := (hb.cell (p := ⟨b3, 0, none⟩) (lt_of_cell q3)).trans q3
            refine wp_value (w' := w') (v := .int .i64 c) (by simp [execOp, ev, go_sem, z0]) ?_
            exact ⟨v17, v18, v19, v20, v21, v22, (.int .i64 c), v24, a8, n8, c8, by rw [ha]; kernel_rfl, hC1, hC2, hB.imp_left .inr, fun h => e0 (h.resolve_left (by decide)), fun h => e1 (h.resolve_left (by decide)), fun h => e2 (h.resolve_left (by decide)), fun h => e3 (h.resolve_left (by decide)), fun h => e4 (h.resolve_left (by decide)), fun h => e5 (h.resolve_left (by decide)), fun _ => rfl, fun h => e7 (h.resolve_left (by decide)), fun h => hQ (h.resolve_left (by decide)), fun h h' => hWi (h.resolve_left (by decide)) (fun k => h' (.inr k))⟩
          | 7, ho =>
            cases Option.some.inj ho
            refine roundIn_op (by intro c h; cases h) ?_
            have ev : a.tmps[22]?.getD undef = .agg #[.int .i64 (t.m x).chg, .slice (va x) (vn x) (vc x)] := by rw [ha, e5 (hd ⟨5, .data⟩ (by simp) rfl)]; kernel_rfl
            have ev' : a.tmps[23]?.getD undef = .int .i64 c := by rw [ha, e6 (hd ⟨6, .data⟩ (by simp) rfl)]; kernel_rfl
            have hb := hB.resolve_left hn
            refine wp_enter (f := 41) (args := #[.agg #[.int .i64 (t.m x).chg, .slice (va x) (vn x) (vc x)], .int .i64 c]) (by simp [execOp, ev, ev', go_sem]) ?_
            refine (from_any (t.m x).chg c (hrow.same (fun _ h => h) (fun _ _ h => h) (fun _ h => h) (fun q hq _ => hb.block q hq) (fun q hq => hb.block q (hrow.block hq).2.1)) (h.good.rise x) hxl (fun q hq => Nat.lt_of_lt_of_le (hs.sl q hq) hb.size) (fun q hq => Nat.lt_of_lt_of_le (hs.rl q hq) hb.size)).mono ?_
            rintro e w6 ⟨a8', n8', c8', rfl, FN⟩
            refine ⟨_, rfl, ?_⟩
            exact ⟨v17, v18, v19, v20, v21, v22, v23, (.agg #[.int .i64 (t.m x).chg, .slice a8' n8' c8']), a8', n8', c8', by rw [ha]; kernel_rfl, apl_keep hb FN hrow hblkW (by decide), apl_keep hb FN hrow E2W (by decide), .inl (.inl rfl), fun h => e0 (h.resolve_left (by decide)), fun h => e1 (h.resolve_left (by decide)), fun h => e2 (h.resolve_left (by decide)), fun h => e3 (h.resolve_left (by decide)), fun h => e4 (h.resolve_left (by decide)), fun h => e5 (h.resolve_left (by decide)), fun h => e6 (h.resolve_left (by decide)), fun _ => rfl, fun h => absurd (h.resolve_left (by decide)) (fun h => hn (hcl 8 _ rfl h ⟨7, .data⟩ (by simp) rfl)), fun _ _ => ⟨w', hb, FN⟩⟩
          | 8, ho =>
            cases Option.some.inj ho
            refine roundIn_op (by intro c h; cases h) ?_
            have ev : a.tmps[20]?.getD undef = .map (some mb) := by rw [ha, e3 (hd ⟨3, .data⟩ (by simp) rfl)]; kernel_rfl
            have ev' : a.tmps[21]?.getD undef = .int .i64 x := by rw [ha, e4 (hd ⟨4, .data⟩ (by simp) rfl)]; kernel_rfl
            have ev'' : a.tmps[24]?.getD undef = .agg #[.int .i64 (t.m x).chg, .slice a8 n8 c8] := by rw [ha, e7 (hd ⟨7, .data⟩ (by simp) rfl)]; kernel_rfl
            obtain ⟨wp, hbp, FN⟩ := hWi (hd ⟨7, .data⟩ (by simp) rfl) hn
            obtain ⟨w7, hr7, M7, g7⟩ := (hM.map6 hs hbp hgetM.out FN).update (P := Try.prog) Try.underlying70 Try.underlying2 x (.agg #[.int .i64 (t.m x).chg, .slice a8 n8 c8])
            refine wp_skip (w' := w7) (by simp [execOp, ev, ev', ev'', go_sem, hr7]) ?_
            exact ⟨v17, v18, v19, v20, v21, v22, v23, v24, a8, n8, c8, by rw [ha]; kernel_rfl, (g7.block b (lt_of_block (hC1.trans hblkW)) (fun e => hbm (Option.some.inj e))).trans hC1, (g7.block b2 (lt_of_block (hC2.trans E2W)) (fun e => hb2m (Option.some.inj e))).trans hC2, .inl (.inr (hd ⟨7, .data⟩ (by simp) rfl)), fun h => e0 (h.resolve_left (by decide)), fun h => e1 (h.resolve_left (by decide)), fun h => e2 (h.resolve_left (by decide)), fun h => e3 (h.resolve_left (by decide)), fun h => e4 (h.resolve_left (by decide)), fun h => e5 (h.resolve_left (by decide)), fun h => e6 (h.resolve_left (by decide)), fun h => e7 (h.resolve_left (by decide)), fun _ => ⟨wp, w', hbp, FN, M7, g7⟩, fun _ h' => absurd (.inl rfl) h'⟩
          | i + 9, ho => simp at ho
        case done =>
          rintro D a w' ⟨v17, v18, v19, v20, v21, v22, v23, v24, a8, n8, c8, ha, hC1, hC2, hB, e0, e1, e2, e3, e4, e5, e6, e7, hQ, hWi⟩ hall
          obtain rfl := e0 (hall 0 (by decide))
          obtain rfl := e1 (hall 1 (by decide))
          obtain rfl := e2 (hall 2 (by decide))
          obtain rfl := e3 (hall 3 (by decide))
          obtain rfl := e4 (hall 4 (by decide))
          obtain rfl := e5 (hall 5 (by decide))
          obtain rfl := e6 (hall 6 (by decide))
          obtain rfl := e7 (hall 7 (by decide))
          obtain ⟨wp, w6, hbp, FN, M7, g7⟩ := hQ (hall 8 (by decide))
          clear hWi hQ hB hall e0 e1 e2 e3 e4 e5 e6 e7
          have k6 := apl_keep hbp FN hrow hblkW (by decide)
          obtain ⟨S2, R2, t1, t2, t3, t4, t5, t6, t7⟩ := hM.turn hs hbp hgetM.out FN M7 g7 hxo.out (m' := fun k => if k ∈ pre ++ [x] then (⟨(t.m k).chg, fromL c (t.m k).vs⟩ : Past) else t.m k) (by simp) (fun k hk => by
            have e : (k ∈ pre ++ [x]) = (k ∈ pre) := by simp [hk]
            simp only [e])
          have s3 := t7.size
          have kept : ∀ k, W0.heap.size ≤ k → k < W.heap.size → w'.heap[k]? = W.heap[k]? := fun k hB hl => t7.block k hl (fun hc => by
            rcases hc with hc | hc
            · omega
            · have := hown0 k hc.2
              omega)
          have hbW : w'.heap[b]? = some (tabB t.first t.last (some mb)) := by
            have h1 := k6.trans hblkW
            exact (g7.block b (lt_of_block h1) (fun e => hbm (Option.some.inj e))).trans h1
          have hpre2 : pre ++ [x] = (keysL F0).take (pre ++ [x]).length := by
            rw [List.length_append, List.length_singleton, take_at hok, ← hpre]
          have fi : FI W0 S R b mb t.first t.last c t.m F0 (pre ++ [x]) w' := by
            refine ⟨⟨_, S2, R2, t1, t2, t3.old _ hSb, gS.trans t3 hfr.size s3, gR.trans t4 hfr.size s3, t6 _ hmbl hcf, fun k hk => ?_, fun k => ?_⟩, hbW, hfr.trans t5 (fun q hq hS => ?_)⟩
            · simp at hk
              rw [if_neg hk.2]
              exact hF7 k hk.1
            · by_cases e : k = x
              · subst e
                rw [if_pos rfl]
                have := (keysL_mem hM0.dom k).1 hxk
                simp [this]
              · rw [if_neg e]
                exact hF8 k
            · rcases gS.new q hS with z | ⟨z, _⟩
              · exact z
              · omega
          clear t1 t2 t3 t4 t5 t6 t7 k6 M7 g7 FN hbp
          gi_wp2
          exact ⟨⟨s3, fun k o hB hk _ => (kept k hB (Array.getElem?_eq_some_iff.1 hk).1).trans hk⟩, fun k cur e hB hk => kept k hB (Array.getElem?_eq_some_iff.1 hk).1, fi, hpre2⟩
  · rw [show (decide (t.first ≤ c) && decide (c ≤ t.last)) = false by simp; omega] at ch
    have eE : forgetE t c = 13 := by unfold forgetE; rw [if_neg hh]
    have eT : forgetT t c = t := by unfold forgetT; rw [if_neg hh]
    rw [eE, eT]
    gi_wp2_with (first
      | (gi_at_call 39; refine ch.mono ?_; rintro e w' ⟨rfl, rfl⟩))
    exact ⟨_, results_tmp rfl _ _ _, rfl, S, R, h2, ⟨fun _ h => h, fun _ h => .inl h⟩, ⟨fun _ h => h, fun _ h => .inl h⟩, Fr.of_below B2⟩
end Go.Proofs.Ytajdelinfkodbaa
