/- Both tables and both views together. -/
import Derived.Test.YteomolihandfnaaGreatVpx
import Derived.Test.YteomolihandfnaaGreatVkv
import Derived.Test.YteomolihandfnaaGreatSpl
import Derived.Test.YteomolihandfnaaGreatVop
import Derived.Shelf.SlMaps.Clone
import Derived.Test.YteomolihandfnaaGreatVrd
namespace Go.Proofs.YteomolihandfnaaGreat
open Go.RowKit
set_option maxRecDepth 100000
/-- All blocks of the four. -/
def Un (S R U V Q X : Nat → Prop) (g : Nat) : Prop := S g ∨ R g ∨ U g ∨ V g ∨ Q g ∨ X g
structure Hs (W0 : World) (S R U V Q X : Nat → Prop) (tb : Nat) (t : Tab) (ub : Nat) (u : RTab) (b : Nat) (v : Vw) (rb : Nat) (r : Dv) (w : World) : Prop where
  ht : Tb w S R tb t
  hu : RTb w U ub u
  hv : Vb w V Q b tb v
  hd : Db w X rb ub r
  dS : ∀ g, S g → ¬ U g ∧ ¬ V g ∧ ¬ Q g ∧ ¬ X g
  dU : ∀ g, U g → ¬ R g ∧ ¬ V g ∧ ¬ Q g ∧ ¬ X g
  dV : ∀ g, V g → ¬ R g ∧ ¬ X g
  dX : ∀ g, X g → ¬ R g ∧ ¬ Q g
  lo : ∀ g, S g ∨ U g ∨ V g ∨ X g → W0.heap.size ≤ g
  bel : Below W0.heap.size W0 w
section
variable {W0 w w' : World} {S R U V Q X : Nat → Prop} {tb ub b rb : Nat} {t : Tab} {u : RTab} {v : Vw} {r : Dv}
theorem Hs.ltS (h : Hs W0 S R U V Q X tb t ub u b v rb r w) : (∀ g, S g → g < w.heap.size) ∧ (∀ g, R g → g < w.heap.size) ∧ (∀ g, U g → g < w.heap.size) ∧ (∀ g, V g → g < w.heap.size) ∧ (∀ g, Q g → g < w.heap.size) ∧ ∀ g, X g → g < w.heap.size :=
  ⟨h.ht.sets.sl, h.ht.sets.rl, h.hu.lt, fun g hg => h.hv.lt g (.inl hg), fun g hg => h.hv.lt g (.inr hg), h.hd.lt⟩
theorem Hs.lt (h : Hs W0 S R U V Q X tb t ub u b v rb r w) {g : Nat} (hg : Un S R U V Q X g) : g < w.heap.size := by
  obtain ⟨l1, l2, l3, l4, l5, l6⟩ := h.ltS
  rcases hg with q | q | q | q | q | q
  · exact l1 g q
  · exact l2 g q
  · exact l3 g q
  · exact l4 g q
  · exact l5 g q
  · exact l6 g q
theorem Hs.same (h : Hs W0 S R U V Q X tb t ub u b v rb r w) (hsz : w.heap.size ≤ w'.heap.size) (hk : ∀ g, Un S R U V Q X g → w'.heap[g]? = w.heap[g]?) (hb : Below W0.heap.size W0 w') : Hs W0 S R U V Q X tb t ub u b v rb r w' :=
  ⟨h.ht.same hsz (fun g hg => hk g (hg.elim .inl (fun q => .inr (.inl q)))), h.hu.same hsz (fun g hg => hk g (.inr (.inr (.inl hg)))), h.hv.same hsz (fun g hg => hk g (hg.elim (fun q => .inr (.inr (.inr (.inl q)))) (fun q => .inr (.inr (.inr (.inr (.inl q))))))), h.hd.same hsz (fun g hg => hk g (.inr (.inr (.inr (.inr (.inr hg)))))), h.dS, h.dU, h.dV, h.dX, h.lo, hb⟩
theorem Hs.below (h : Hs W0 S R U V Q X tb t ub u b v rb r w) (hb : Below w.heap.size w w') : Hs W0 S R U V Q X tb t ub u b v rb r w' := h.same hb.size (fun g hg => hb.block g (h.lt hg)) (below_size h.bel h.bel.size hb)
/-- The frame of a call. -/
def Nx (A A' : Nat → Prop) (w w' : World) : Prop := (∀ g, A' g → A g ∨ (w.heap.size ≤ g ∧ g < w'.heap.size)) ∧ Fr A w w'
theorem un_grow {V' Q' : Nat → Prop} (h1 : Grow V V' w w') (h2 : Grow Q Q' w w') : Grow (Un S R U V Q X) (Un S R U V' Q' X) w w' := by
  refine ⟨fun g hg => ?_, fun g hg => ?_⟩
  · rcases hg with q | q | q | q | q | q
    · exact .inl q
    · exact .inr (.inl q)
    · exact .inr (.inr (.inl q))
    · exact .inr (.inr (.inr (.inl (h1.old g q))))
    · exact .inr (.inr (.inr (.inr (.inl (h2.old g q)))))
    · exact .inr (.inr (.inr (.inr (.inr q))))
  · rcases hg with q | q | q | q | q | q
    · exact .inl (.inl q)
    · exact .inl (.inr (.inl q))
    · exact .inl (.inr (.inr (.inl q)))
    · rcases h1.new g q with z | z
      · exact .inl (.inr (.inr (.inr (.inl z))))
      · exact .inr z
    · rcases h2.new g q with z | z
      · exact .inl (.inr (.inr (.inr (.inr (.inl z)))))
      · exact .inr z
    · exact .inl (.inr (.inr (.inr (.inr (.inr q)))))
theorem un_growX {X' : Nat → Prop} (h1 : Grow X X' w w') : Grow (Un S R U V Q X) (Un S R U V Q X') w w' := by
  refine ⟨fun g hg => ?_, fun g hg => ?_⟩
  · rcases hg with q | q | q | q | q | q
    · exact .inl q
    · exact .inr (.inl q)
    · exact .inr (.inr (.inl q))
    · exact .inr (.inr (.inr (.inl q)))
    · exact .inr (.inr (.inr (.inr (.inl q))))
    · exact .inr (.inr (.inr (.inr (.inr (h1.old g q)))))
  · rcases hg with q | q | q | q | q | q
    · exact .inl (.inl q)
    · exact .inl (.inr (.inl q))
    · exact .inl (.inr (.inr (.inl q)))
    · exact .inl (.inr (.inr (.inr (.inl q))))
    · exact .inl (.inr (.inr (.inr (.inr (.inl q)))))
    · rcases h1.new g q with z | z
      · exact .inl (.inr (.inr (.inr (.inr (.inr z)))))
      · exact .inr z
theorem un_growS {S' R' : Nat → Prop} (h1 : Grow S S' w w') (h2 : Grow R R' w w') : Grow (Un S R U V Q X) (Un S' R' U V Q X) w w' := by
  refine ⟨fun g hg => ?_, fun g hg => ?_⟩
  · rcases hg with q | q | q
    · exact .inl (h1.old g q)
    · exact .inr (.inl (h2.old g q))
    · exact .inr (.inr q)
  · rcases hg with q | q | q
    · rcases h1.new g q with z | z
      · exact .inl (.inl z)
      · exact .inr z
    · rcases h2.new g q with z | z
      · exact .inl (.inr (.inl z))
      · exact .inr z
    · exact .inl (.inr (.inr q))
theorem un_growU {U' : Nat → Prop} (h1 : Grow U U' w w') : Grow (Un S R U V Q X) (Un S R U' V Q X) w w' := by
  refine ⟨fun g hg => ?_, fun g hg => ?_⟩
  · rcases hg with q | q | q | q
    · exact .inl q
    · exact .inr (.inl q)
    · exact .inr (.inr (.inl (h1.old g q)))
    · exact .inr (.inr (.inr q))
  · rcases hg with q | q | q | q
    · exact .inl (.inl q)
    · exact .inl (.inr (.inl q))
    · rcases h1.new g q with z | z
      · exact .inl (.inr (.inr (.inl z)))
      · exact .inr z
    · exact .inl (.inr (.inr (.inr q)))
theorem hs_viewE {v' : Vw} {V' Q' : Nat → Prop} (h : Hs W0 S R U V Q X tb t ub u b v rb r w) (k1 : Vb w' V' Q' b tb v') (k2 : Grow V V' w w') (k3 : Grow Q Q' w w') (k4 : Fr V w w') : Hs W0 S R U V' Q' X tb t ub u b v' rb r w' ∧ Nx (Un S R U V Q X) (Un S R U V' Q' X) w w' := by
  obtain ⟨l1, l2, l3, l4, l5, l6⟩ := h.ltS
  have nV : ∀ g, V' g → V g ∨ w.heap.size ≤ g := fun g hg => (k2.new g hg).imp_right (·.1)
  have nQ : ∀ g, Q' g → Q g ∨ w.heap.size ≤ g := fun g hg => (k3.new g hg).imp_right (·.1)
  refine ⟨⟨h.ht.same k4.size (fun g hg => k4.block g (hg.elim (l1 g) (l2 g)) (fun q => hg.elim (fun z => (h.dS g z).2.1 q) (fun z => (h.dV g q).1 z))), h.hu.same k4.size (fun g hg => k4.block g (l3 g hg) (h.dU g hg).2.1), k1, h.hd.same k4.size (fun g hg => k4.block g (l6 g hg) (fun q => (h.dV g q).2 hg)), fun g hg => ⟨(h.dS g hg).1, fun q => ?_, fun q => ?_, (h.dS g hg).2.2.2⟩, fun g hg => ⟨(h.dU g hg).1, fun q => ?_, fun q => ?_, (h.dU g hg).2.2.2⟩, fun g hg => ?_, fun g hg => ⟨(h.dX g hg).1, fun q => ?_⟩, fun g hg => ?_, k4.below h.bel h.bel.size (fun g hg => h.lo g (.inr (.inr (.inl hg))))⟩, (un_grow k2 k3).new, k4.mono (fun g _ hg => .inr (.inr (.inr (.inl hg))))⟩
  · rcases nV g q with z | z
    · exact (h.dS g hg).2.1 z
    · have := l1 g hg; omega
  · rcases nQ g q with z | z
    · exact (h.dS g hg).2.2.1 z
    · have := l1 g hg; omega
  · rcases nV g q with z | z
    · exact (h.dU g hg).2.1 z
    · have := l3 g hg; omega
  · rcases nQ g q with z | z
    · exact (h.dU g hg).2.2.1 z
    · have := l3 g hg; omega
  · rcases nV g hg with z | z
    · exact h.dV g z
    · exact ⟨fun q => by have := l2 g q; omega, fun q => by have := l6 g q; omega⟩
  · rcases nQ g q with z | z
    · exact (h.dX g hg).2 z
    · have := l6 g hg; omega
  · rcases hg with q | q | q | q
    · exact h.lo g (.inl q)
    · exact h.lo g (.inr (.inl q))
    · rcases nV g q with z | z
      · exact h.lo g (.inr (.inr (.inl z)))
      · have := h.bel.size; omega
    · exact h.lo g (.inr (.inr (.inr q)))
theorem hs_view {v' : Vw} (h : Hs W0 S R U V Q X tb t ub u b v rb r w) (k : VwP w V Q b tb v' w') : ∃ V' Q', Hs W0 S R U V' Q' X tb t ub u b v' rb r w' ∧ Nx (Un S R U V Q X) (Un S R U V' Q' X) w w' := by
  obtain ⟨V', Q', k1, k2, k3, k4⟩ := k
  exact ⟨V', Q', hs_viewE h k1 k2 k3 k4⟩
theorem hs_docE {r' : Dv} {X' : Nat → Prop} (h : Hs W0 S R U V Q X tb t ub u b v rb r w) (k1 : Db w' X' rb ub r') (k2 : Grow X X' w w') (k4 : Fr X w w') : Hs W0 S R U V Q X' tb t ub u b v rb r' w' ∧ Nx (Un S R U V Q X) (Un S R U V Q X') w w' := by
  obtain ⟨l1, l2, l3, l4, l5, l6⟩ := h.ltS
  have nX : ∀ g, X' g → X g ∨ w.heap.size ≤ g := fun g hg => (k2.new g hg).imp_right (·.1)
  refine ⟨⟨h.ht.same k4.size (fun g hg => k4.block g (hg.elim (l1 g) (l2 g)) (fun q => hg.elim (fun z => (h.dS g z).2.2.2 q) (fun z => (h.dX g q).1 z))), h.hu.same k4.size (fun g hg => k4.block g (l3 g hg) (h.dU g hg).2.2.2), h.hv.same k4.size (fun g hg => k4.block g (hg.elim (l4 g) (l5 g)) (fun q => hg.elim (fun z => (h.dV g z).2 q) (fun z => (h.dX g q).2 z))), k1, fun g hg => ⟨(h.dS g hg).1, (h.dS g hg).2.1, (h.dS g hg).2.2.1, fun q => ?_⟩, fun g hg => ⟨(h.dU g hg).1, (h.dU g hg).2.1, (h.dU g hg).2.2.1, fun q => ?_⟩, fun g hg => ⟨(h.dV g hg).1, fun q => ?_⟩, fun g hg => ?_, fun g hg => ?_, k4.below h.bel h.bel.size (fun g hg => h.lo g (.inr (.inr (.inr hg))))⟩, (un_growX k2).new, k4.mono (fun g _ hg => .inr (.inr (.inr (.inr (.inr hg)))))⟩
  · rcases nX g q with z | z
    · exact (h.dS g hg).2.2.2 z
    · have := l1 g hg; omega
  · rcases nX g q with z | z
    · exact (h.dU g hg).2.2.2 z
    · have := l3 g hg; omega
  · rcases nX g q with z | z
    · exact (h.dV g hg).2 z
    · have := l4 g hg; omega
  · rcases nX g hg with z | z
    · exact h.dX g z
    · exact ⟨fun q => by have := l2 g q; omega, fun q => by have := l5 g q; omega⟩
  · rcases hg with q | q | q | q
    · exact h.lo g (.inl q)
    · exact h.lo g (.inr (.inl q))
    · exact h.lo g (.inr (.inr (.inl q)))
    · rcases nX g q with z | z
      · exact h.lo g (.inr (.inr (.inr z)))
      · have := h.bel.size; omega
theorem hs_tab {t' : Tab} (h : Hs W0 S R U V Q X tb t ub u b v rb r w) (k : ∃ S' R', Tb w' S' R' tb t' ∧ Grow S S' w w' ∧ Grow R R' w w' ∧ Fr S w w') : ∃ S' R', Hs W0 S' R' U V Q X tb t' ub u b v rb r w' ∧ Nx (Un S R U V Q X) (Un S' R' U V Q X) w w' := by
  obtain ⟨S', R', k1, k2, k3, k4⟩ := k
  obtain ⟨l1, l2, l3, l4, l5, l6⟩ := h.ltS
  have nS : ∀ g, S' g → S g ∨ w.heap.size ≤ g := fun g hg => (k2.new g hg).imp_right (·.1)
  have nR : ∀ g, R' g → R g ∨ w.heap.size ≤ g := fun g hg => (k3.new g hg).imp_right (·.1)
  refine ⟨S', R', ⟨k1, h.hu.same k4.size (fun g hg => k4.block g (l3 g hg) (fun q => (h.dS g q).1 hg)), h.hv.same k4.size (fun g hg => k4.block g (hg.elim (l4 g) (l5 g)) (fun q => hg.elim (h.dS g q).2.1 (h.dS g q).2.2.1)), h.hd.same k4.size (fun g hg => k4.block g (l6 g hg) (fun q => (h.dS g q).2.2.2 hg)), fun g hg => ?_, fun g hg => ⟨fun q => ?_, (h.dU g hg).2⟩, fun g hg => ⟨fun q => ?_, (h.dV g hg).2⟩, fun g hg => ⟨fun q => ?_, (h.dX g hg).2⟩, fun g hg => ?_, k4.below h.bel h.bel.size (fun g hg => h.lo g (.inl hg))⟩, (un_growS k2 k3).new, k4.mono (fun g _ hg => .inl hg)⟩
  · rcases nS g hg with z | z
    · exact h.dS g z
    · exact ⟨fun q => by have := l3 g q; omega, fun q => by have := l4 g q; omega, fun q => by have := l5 g q; omega, fun q => by have := l6 g q; omega⟩
  · rcases nR g q with z | z
    · exact (h.dU g hg).1 z
    · have := l3 g hg; omega
  · rcases nR g q with z | z
    · exact (h.dV g hg).1 z
    · have := l4 g hg; omega
  · rcases nR g q with z | z
    · exact (h.dX g hg).1 z
    · have := l6 g hg; omega
  · rcases hg with q | q
    · rcases nS g q with z | z
      · exact h.lo g (.inl z)
      · have := h.bel.size; omega
    · exact h.lo g (.inr q)
theorem hs_rtab {u' : RTab} (h : Hs W0 S R U V Q X tb t ub u b v rb r w) (k : ∃ U', RTb w' U' ub u' ∧ Grow U U' w w' ∧ Fr U w w') : ∃ U', Hs W0 S R U' V Q X tb t ub u' b v rb r w' ∧ Nx (Un S R U V Q X) (Un S R U' V Q X) w w' := by
  obtain ⟨U', k1, k2, k4⟩ := k
  obtain ⟨l1, l2, l3, l4, l5, l6⟩ := h.ltS
  have nU : ∀ g, U' g → U g ∨ w.heap.size ≤ g := fun g hg => (k2.new g hg).imp_right (·.1)
  refine ⟨U', ⟨h.ht.same k4.size (fun g hg => k4.block g (hg.elim (l1 g) (l2 g)) (fun q => hg.elim (fun z => (h.dS g z).1 q) (fun z => (h.dU g q).1 z))), k1, h.hv.same k4.size (fun g hg => k4.block g (hg.elim (l4 g) (l5 g)) (fun q => hg.elim (h.dU g q).2.1 (h.dU g q).2.2.1)), h.hd.same k4.size (fun g hg => k4.block g (l6 g hg) (fun q => (h.dU g q).2.2.2 hg)), fun g hg => ⟨fun q => ?_, (h.dS g hg).2⟩, fun g hg => ?_, h.dV, h.dX, fun g hg => ?_, k4.below h.bel h.bel.size (fun g hg => h.lo g (.inr (.inl hg)))⟩, (un_growU k2).new, k4.mono (fun g _ hg => .inr (.inr (.inl hg)))⟩
  · rcases nU g q with z | z
    · exact (h.dS g hg).1 z
    · have := l1 g hg; omega
  · rcases nU g hg with z | z
    · exact h.dU g z
    · exact ⟨fun q => by have := l2 g q; omega, fun q => by have := l4 g q; omega, fun q => by have := l5 g q; omega, fun q => by have := l6 g q; omega⟩
  · rcases hg with q | q | q
    · exact h.lo g (.inl q)
    · rcases nU g q with z | z
      · exact h.lo g (.inr (.inl z))
      · have := h.bel.size; omega
    · exact h.lo g (.inr (.inr q))
end
/-- What both say of one another. -/
structure Zr (t : Tab) (u : RTab) (v : Vw) (r : Dv) (n : Nat) : Prop where
  vr : VR v r
  ar : AtR t u v.base
  k : u.k ≤ 12 + n
  l : r.l.length ≤ n
/-- What the document's calls ask. -/
structure Ask (u : RTab) (r : Dv) : Prop where
  lo : u.from_ ≤ r.c
  hi : r.c ≤ u.end_
  ok : ∀ q ∈ u.recs, okR q.1 q.2 = true
  k : u.k ≤ 1000
  g : ∀ x ∈ r.l, ObG (obC x)
  gn : ∀ x ∈ r.l, x.gone = false
  few : r.l.length ≤ 8000
  n0 : 0 ≤ r.n ∧ r.n ≤ 4096
/-- All of it, the blocks in one set. -/
def Hx (W0 : World) (A : Nat → Prop) (tb : Nat) (t : Tab) (ub : Nat) (u : RTab) (b : Nat) (v : Vw) (rb : Nat) (r : Dv) (w : World) : Prop := ∃ S R U V Q X, Hs W0 S R U V Q X tb t ub u b v rb r w ∧ A = Un S R U V Q X
/-- What a call leaves: all of it anew, the rest as it was. -/
def Hn (W0 : World) (A : Nat → Prop) (w : World) (tb : Nat) (t : Tab) (ub : Nat) (u : RTab) (b : Nat) (v : Vw) (rb : Nat) (r : Dv) (w' : World) : Prop := ∃ A', Hx W0 A' tb t ub u b v rb r w' ∧ Nx A A' w w'
section
variable {W0 w w' : World} {A : Nat → Prop} {tb ub b rb n : Nat} {t : Tab} {u : RTab} {v : Vw} {r : Dv}
theorem Hx.lt (h : Hx W0 A tb t ub u b v rb r w) {g : Nat} (hg : A g) : g < w.heap.size := by
  obtain ⟨S, R, U, V, Q, X, h1, rfl⟩ := h
  exact h1.lt hg
theorem Hx.bel (h : Hx W0 A tb t ub u b v rb r w) : Below W0.heap.size W0 w := by
  obtain ⟨S, R, U, V, Q, X, h1, rfl⟩ := h
  exact h1.bel
theorem Hx.lob (h : Hx W0 A tb t ub u b v rb r w) : W0.heap.size ≤ b ∧ W0.heap.size ≤ rb := by
  obtain ⟨S, R, U, V, Q, X, h1, rfl⟩ := h
  exact ⟨h1.lo b (.inr (.inr (.inl h1.hv.own))), h1.lo rb (.inr (.inr (.inr h1.hd.own)))⟩
theorem Hx.inb (h : Hx W0 A tb t ub u b v rb r w) : A b := by
  obtain ⟨S, R, U, V, Q, X, h1, rfl⟩ := h
  exact .inr (.inr (.inr (.inl h1.hv.own)))
theorem Hx.same (h : Hx W0 A tb t ub u b v rb r w) (hsz : w.heap.size ≤ w'.heap.size) (hk : ∀ g, A g → w'.heap[g]? = w.heap[g]?) (hb : Below W0.heap.size W0 w') : Hx W0 A tb t ub u b v rb r w' := by
  obtain ⟨S, R, U, V, Q, X, h1, rfl⟩ := h
  exact ⟨S, R, U, V, Q, X, h1.same hsz hk hb, rfl⟩
theorem Hx.below (h : Hx W0 A tb t ub u b v rb r w) (hb : Below w.heap.size w w') : Hx W0 A tb t ub u b v rb r w' := h.same hb.size (fun g hg => hb.block g (h.lt hg)) (below_size h.bel h.bel.size hb)
theorem Hx.spoil {T : Nat → Prop} (h : Hx W0 A tb t ub u b v rb r w) (hf : Fr T w w') (hT : ∀ g, T g → ¬ A g ∧ W0.heap.size ≤ g) : Hx W0 A tb t ub u b v rb r w' := h.same hf.size (fun g hg => hf.block g (h.lt hg) (fun q => (hT g q).1 hg)) (hf.below h.bel h.bel.size (fun g hg => (hT g hg).2))
theorem Zr.up (z : Zr t u v r n) {m : Nat} (hm : n ≤ m) : Zr t u v r m := ⟨z.vr, z.ar, by have := z.k; omega, by have := z.l; omega⟩
theorem Zr.asks (z : Zr t u v r n) (h : Hx W0 A tb t ub u b v rb r w) (hn : n ≤ 100) : Ask u r := by
  obtain ⟨S, R, U, V, Q, X, h1, rfl⟩ := h
  refine ⟨?_, ?_, z.ar.r2.rel.ok, by have := z.k; omega, fun x hx => h1.hv.good x.oop _ (z.vr.mem x hx).2, fun x hx => (z.vr.mem x hx).1, by have := z.l; omega, by rw [z.vr.n]; exact z.vr.m0⟩
  · rw [z.ar.r2.rel.from_, z.vr.c]; exact z.ar.lo
  · rw [z.vr.c, ← z.ar.r2.rel.last]; exact z.ar.hi
theorem Zr.pk (z : Zr t u v r n) (k : Int) : dpk r u k = peekR v t k := z.vr.peek z.ar.at_ k
theorem Zr.read (z : Zr t u v r n) (k : Int) : Zr t u (readV v k) (dreadV r k) n := by
  have e1 : (readV v k).base = v.base := by unfold readV; split <;> rfl
  have e2 : (dreadV r k).l = r.l := by unfold dreadV; split <;> rfl
  exact ⟨z.vr.read k, by rw [e1]; exact z.ar, z.k, by rw [e2]; exact z.l⟩
theorem putV_base (v : Vw) (t : Tab) (k : Int) (o : Ob) : (putV v t k o).base = v.base := by unfold putV; split <;> rfl
theorem makeV_base (v : Vw) (o : Ob) : (makeV v o).base = v.base := by unfold makeV; split <;> rfl
theorem dputV_len (r : Dv) (u : RTab) (k : Int) (o : Ob) : (dputV r u k o).l.length ≤ r.l.length + 1 := by
  unfold dputV
  split
  · exact setF_len
  · omega
theorem dmakeV_len (r : Dv) (o : Ob) : (dmakeV r o).l.length ≤ r.l.length + 1 := by
  unfold dmakeV
  split
  · exact setF_len
  · omega
theorem Zr.put (z : Zr t u v r n) (h : Hx W0 A tb t ub u b v rb r w) (k : Int) (o : Ob) : Zr t u (putV v t k o) (dputV r u k o) (n + 1) := by
  obtain ⟨S, R, U, V, Q, X, h1, rfl⟩ := h
  exact ⟨z.vr.put h1.ht z.ar.at_ k o, by rw [putV_base]; exact z.ar, by have := z.k; omega, by have := z.l; have := dputV_len r u k o; omega⟩
theorem Zr.make (z : Zr t u v r n) (o : Ob) : Zr t u (makeV v o) (dmakeV r o) (n + 1) := ⟨z.vr.make o, by rw [makeV_base]; exact z.ar, by have := z.k; omega, by have := z.l; have := dmakeV_len r o; omega⟩
theorem Zr.apply (z : Zr t u v r n) (c : Int) (xs : List Ch) : Zr (applyT t c xs) (rapplyT u c xs) v r (n + 1) := ⟨z.vr, z.ar.apply c xs, by have := z.k; rw [rapplyT_k]; omega, by have := z.l; omega⟩
end
end Go.Proofs.YteomolihandfnaaGreat
namespace Go.Proofs.YteomolihandfnaaGreat
open Go.RowKit
set_option maxRecDepth 100000
def VwQ (w : World) (V Q : Nat → Prop) (b tb : Nat) (v : Vw) (w' : World) : Prop := ∃ V', Vb w' V' Q b tb v ∧ Grow V V' w w' ∧ Fr V w w'
theorem Vb.readsQ {w wA w' : World} {V Q : Nat → Prop} {b tb mb : Nat} {v : Vw} {om : Option Nat} {F : Int → Option Value} {rd : Int → Bool} (h : Vb w V Q b tb v) (hO : OwM w V Q om v.own) (hsz : w.heap.size ≤ wA.heap.size) (hos : wA.os = w.os ∧ wA.tape = w.tape ∧ wA.output = w.output) (hk : ∀ g, g < w.heap.size → g ≠ b → wA.heap[g]? = w.heap[g]?) (hblk : wA.heap[b]? = some (viewB tb v.base (some mb) om v.made)) (hmb : V mb ∨ w.heap.size ≤ mb) (hom : om ≠ some mb) (hM : IsMap w' mb F) (hF : ∀ k, rd k = (F k).isSome) (hg : wA.grownBy w' (some mb)) (hnb : b ≠ mb) :
    VwQ w V Q b tb ⟨v.base, rd, v.own, v.made⟩ w' := by
  have lb := h.lt b (.inl h.own)
  have kk : ∀ g, g < w.heap.size → g ≠ b → g ≠ mb → w'.heap[g]? = w.heap[g]? := fun g h1 h2 h3 => (hg.block g (Nat.lt_of_lt_of_le h1 hsz) (fun e => h3 (Option.some.inj e))).trans (hk g h1 h2)
  have hQb : ∀ g, Q g → g ≠ b ∧ g ≠ mb := fun g hq => ⟨fun e => h.dis g hq (e ▸ h.own), fun e => by
    rcases hmb with z | z
    · exact h.dis g hq (e ▸ z)
    · have := h.lt g (.inr hq); omega⟩
  have hbl' : w'.heap[b]? = some (viewB tb v.base (some mb) om v.made) := (hg.block b (Nat.lt_of_lt_of_le lb hsz) (fun e => hnb (Option.some.inj e))).trans hblk
  refine ⟨fun g => V g ∨ g = mb, ⟨⟨some mb, om, hbl', ⟨F, hM, .inr rfl, hF⟩, hO.same (fun _ h => .inl h) (fun _ h => h) (fun m e => ?_) (fun g hq => kk g (h.lt g (.inr hq)) (hQb g hq).1 (hQb g hq).2), fun m e => by cases e; exact hom⟩, .inl h.own, fun g hg' => ?_, fun g hq e => ?_, fun g cur e hv hh => ?_, h.made0, h.good⟩, ⟨fun _ h => .inl h, fun g hg' => ?_⟩, ⟨hg.os.trans hos.1, hg.tape.trans hos.2.1, hg.output.trans hos.2.2, Nat.le_trans hsz hg.size, fun g hg' hn => kk g hg' (fun e => hn (e ▸ h.own)) (fun e => ?_)⟩⟩
  · obtain ⟨z1, es, c, z2⟩ := hO.in_ e
    refine kk m (lt_of_block' z2) (fun e' => ?_) (fun e' => hom (e' ▸ e))
    obtain ⟨_, _, hb0, _, _⟩ := h.blk
    rw [e', hb0] at z2
    cases z2
  · have h1 := hg.size
    rcases hg' with (hg' | rfl) | hg'
    · have := h.lt g (.inl hg'); omega
    · exact hM.lt
    · have := h.lt g (.inr hg'); omega
  · rcases e with e | e
    · exact h.dis g hq e
    · exact (hQb g hq).2 e
  · rcases hv with hv | rfl
    · by_cases e1 : g = b
      · rw [e1, hbl'] at hh
        unfold viewB at hh
        cases hh
        rfl
      · by_cases e2 : g = mb
        · subst e2
          exact absurd rfl (hM.noCells hh)
        · exact h.ty g cur e hv (by rw [← kk g (h.lt g (.inl hv)) e1 e2]; exact hh)
    · exact absurd rfl (hM.noCells hh)
  · rcases hg' with hg' | rfl
    · exact .inl hg'
    · rcases hmb with z | z
      · exact .inl z
      · exact .inr ⟨z, hM.lt⟩
  · rcases hmb with z | z
    · exact hn (e ▸ z)
    · omega
set_option maxHeartbeats 2000000 in
theorem read_anyQ {w : World} {V Q : Nat → Prop} {b tb : Nat} {v : Vw} (h : Vb w V Q b tb v) (k : Int) :
    Calls Tryz.prog 13 #[.pointer (some ⟨b, 0, none⟩), .int .i64 k] w fun e w' => e = .returned (.tuple #[]) ∧ VwQ w V Q b tb (readV v k) w' := by
  by_cases hk : 1 ≤ k ∧ k ≤ 4096
  · have er : readV v k = ⟨v.base, fun i => v.reads i || decide (i = k), v.own, v.made⟩ := by unfold readV; rw [if_pos hk]
    rw [er]
    clear er
    obtain ⟨hk1, hk2⟩ := hk
    obtain ⟨rm, om, hblk, hR, hO, hom⟩ := h.blk
    replace hom : Hid _ := hom
    obtain ⟨x0, x1, x2, x3, x4⟩ := view_cells hblk
    have xf := view_frozen hblk 2
    have hem := fun (r : Option Nat) (w : World) => run_eql_map_nil (P := Tryz.prog) w 75 2 87 r Tryz.underlying75
    have hmm := @run_makeMap Tryz.prog
    cases rm with
    | none =>
      have lb := h.lt b (.inl h.own)
      have eA := view_set2 ((Below.heap_alloc w (.map #[] 0) b lb).trans hblk) (some w.heap.size)
      obtain ⟨y0, y1, y2, y3, y4⟩ := view_cells eA
      have g2 : (w.alloc (.map #[] 0)).cell? ⟨b, 2, none⟩ = some (.map none) := ((box_below (o := .map #[] 0)).cell (p := ⟨b, 2, none⟩) lb).trans x2
      have gf : (w.alloc (.map #[] 0)).frozen? ⟨b, 2, none⟩ = false := view_frozen ((Below.heap_alloc w _ b lb).trans hblk) 2
      have kA : ∀ g, g < w.heap.size → g ≠ b → ((w.alloc (.map #[] 0)).setCell ⟨b, 2, none⟩ (.map (some w.heap.size))).heap[g]? = w.heap[g]? := fun g hg hne => (heap_setCell_other _ ⟨b, 2, none⟩ g _ hne).trans (Below.heap_alloc w _ g hg)
      have mA : IsMap ((w.alloc (.map #[] 0)).setCell ⟨b, 2, none⟩ (.map (some w.heap.size))) w.heap.size (fun _ => none) := (IsMap.made w).same (heap_setCell_other _ ⟨b, 2, none⟩ _ _ (by show w.heap.size ≠ b; omega))
      have sA : w.heap.size ≤ ((w.alloc (.map #[] 0)).setCell ⟨b, 2, none⟩ (.map (some w.heap.size))).heap.size := by simp
      have BA : Below 0 w ((w.alloc (.map #[] 0)).setCell ⟨b, 2, none⟩ (.map (some w.heap.size))) := ((Below.refl 0 w).alloc (Nat.zero_le _) _).setCell (p := ⟨b, 2, none⟩) (Nat.zero_le _) _
      obtain ⟨w7, hr7, M7, g7⟩ := mA.update (P := Tryz.prog) (t := 75) Tryz.underlying75 Tryz.underlying2 k (.agg #[])
      have fin := h.readsQ (rd := fun i => v.reads i || decide (i = k)) hO sA ⟨BA.os, BA.tape, BA.output⟩ kA eA (.inr (Nat.le_refl _)) (fun e => by obtain ⟨_, es, c, z⟩ := hO.in_ e; have := lt_of_block' z; omega) M7 (fun i => by
        rw [show v.reads i = false from hR i]
        by_cases e : i = k <;> simp [e]) g7 (by omega)
      replace fin : Hid _ := fin
      clear mA BA sA kA eA hR hO M7 g7 lb
      go_enter Tryz.func13, Tryz.ntmps13
      go_wp2
      go_end0
      exact ⟨rfl, fin.out⟩
    | some mb =>
      obtain ⟨F, hM, hV, hF⟩ := hR
      obtain ⟨w7, hr7, M7, g7⟩ := hM.update (P := Tryz.prog) (t := 75) Tryz.underlying75 Tryz.underlying2 k (.agg #[])
      have hnb : b ≠ mb := hM.noCells (by unfold viewB at hblk; exact hblk)
      have fin := h.readsQ (rd := fun i => v.reads i || decide (i = k)) hO (Nat.le_refl _) ⟨rfl, rfl, rfl⟩ (fun _ _ _ => rfl) hblk (.inl hV) (hom.out mb rfl) M7 (fun i => by
        rw [hF i]
        by_cases e : i = k <;> simp [e]) g7 hnb
      replace fin : Hid _ := fin
      clear hM hO M7 g7 hF
      go_enter Tryz.func13, Tryz.ntmps13
      go_wp2
      go_end0
      exact ⟨rfl, fin.out⟩
  · have er : readV v k = v := by unfold readV; rw [if_neg hk]
    rw [er]
    clear er
    have fin : Hid (VwQ w V Q b tb v w) := ⟨V, h, Grow.refl _ _, Fr.refl _ _⟩
    by_cases h1 : k < 1
    · clear hk
      go_enter Tryz.func13, Tryz.ntmps13
      go_wp2
      refine bodyPost_ret (results_none rfl _ _ _) rfl ?_
      exact ⟨rfl, fin.out⟩
    · have h2 : 4096 < k := by omega
      clear hk
      go_enter Tryz.func13, Tryz.ntmps13
      go_wp2
      refine bodyPost_ret (results_none rfl _ _ _) rfl ?_
      exact ⟨rfl, fin.out⟩
set_option maxHeartbeats 8000000 in
theorem get_anyQ {w : World} {V Q S R : Nat → Prop} {b tb : Nat} {v : Vw} {t : Tab} (h : Vb w V Q b tb v) (htb : Tb w S R tb t) (hd : ∀ g, S g ∨ R g → ¬ V g) (k : Int) :
    Calls Tryz.prog 7 #[.pointer (some ⟨b, 0, none⟩), .int .i64 k] w fun e w' => ∃ sa sn sc ba bn bc, e = .returned (.tuple #[.agg #[.int .i64 (clsR (peekR v t k)), .slice sa sn sc, .slice ba bn bc], .int .i64 (errR (peekR v t k))]) ∧ OwnV w' w.heap.size (.slice sa sn sc) (vsR (peekR v t k)) ∧ OwnB w' w.heap.size (.slice ba bn bc) (bsR (peekR v t k)) ∧ VwQ w V Q b tb (readV v k) w' := by
  have E4 := new1 w (objB 0 (.slice none 0 0) (.slice none 0 0))
  have B4 : Below w.heap.size w (w.alloc (objB 0 (.slice none 0 0) (.slice none 0 0))) := box_below
  have h1 := h.below B4
  have ht1 := htb.below B4
  have l4 : w.heap.size ≤ w.heap.size := Nat.le_refl _
  have s4 : w.heap.size < (w.alloc (objB 0 (.slice none 0 0) (.slice none 0 0))).heap.size := by simp
  unfold objB at E4 B4 h1 ht1 s4
  go_enter Tryz.func7, Tryz.ntmps7
  go_wp2_with fail
  generalize w.alloc (.cells #[.int .i64 0, .slice none 0 0, .slice none 0 0] 35) = w1 at *
  obtain ⟨b4, hb4⟩ : ∃ q, q = w.heap.size := ⟨_, rfl⟩
  rw [← hb4] at E4 ⊢
  replace l4 : w.heap.size ≤ b4 := Nat.le_of_eq hb4.symm
  replace E4 : w1.heap[b4]? = some (objB 0 (.slice none 0 0) (.slice none 0 0)) := E4
  have e4 : b4 < w1.heap.size := lt_of_block' E4
  have hv4 : ∀ g, V g ∨ Q g → g ≠ b4 := fun g hg e => by have := h.lt g hg; omega
  clear hb4 s4
  refine (read_anyQ h1 k).mono ?_
  rintro e w2 ⟨rfl, V2, k1, k2, k4⟩
  have ht2 : Tb w2 S R tb t := ht1.same k4.size (fun g hg => k4.block g (ht1.sets.lt hg) (hd g hg))
  have F4 : w2.heap[b4]? = some (objB 0 (.slice none 0 0) (.slice none 0 0)) := (k4.block b4 e4 (fun hg => hv4 b4 (.inl hg) rfl)).trans E4
  have hv2 : ∀ g, V2 g ∨ Q g → g ≠ b4 := fun g hg e => by
    rcases hg with hg | hg
    · rcases k2.new g hg with z | ⟨z, _⟩
      · exact hv4 g (.inl z) e
      · omega
    · exact hv4 g (.inr hg) e
  clear E4 ht1
  go_wp2_with fail
  refine (peek_any k1 ht2 k).mono ?_
  rw [readV_peek]
  rintro e w3 ⟨pa, pn, pc, qa, qn, qc, rfl, oV, oB, B3⟩
  have G4 := (B3.block b4 (lt_of_block F4)).trans F4
  obtain ⟨z0, z1, z2, zf⟩ := obj_cells G4
  have I4 := stO_blk G4 (clsR (peekR v t k)) (.slice pa pn pc) (.slice qa qn qc)
  have s12 : w.heap.size ≤ w2.heap.size := Nat.le_trans B4.size k4.size
  have oV3 := ownV_of (stO_own (oV.mono s12).1 G4 (by decide) (clsR (peekR v t k)) (.slice pa pn pc) (.slice qa qn qc)) oV.wf
  have oB3 := ownB_of (stO_own (oB.mono s12).1 G4 (by decide) (clsR (peekR v t k)) (.slice pa pn pc) (.slice qa qn qc)) oB.byte
  have fin : Hid (VwQ w V Q b tb (readV v k) (stO w3 b4 (clsR (peekR v t k)) (.slice pa pn pc) (.slice qa qn qc))) := by
    have Bs : Below 0 w3 (stO w3 b4 (clsR (peekR v t k)) (.slice pa pn pc) (.slice qa qn qc)) := stO_below (Below.refl _ _) (Nat.zero_le _) _ _ _
    have s13 := Nat.le_trans B3.size Bs.size
    have s1 := B4.size
    refine ⟨V2, k1.same s13 (fun g hg => (stO_other (hv2 g hg) _ _ _).trans (B3.block g (k1.lt g hg))), ⟨k2.old, fun g hg => ?_⟩, ⟨Bs.os.trans (B3.os.trans (k4.os.trans B4.os)), Bs.tape.trans (B3.tape.trans (k4.tape.trans B4.tape)), Bs.output.trans (B3.output.trans (k4.output.trans B4.output)), Nat.le_trans s12 s13, fun g hg hn => (stO_other (by omega) _ _ _).trans ((B3.block g (by omega)).trans ((k4.block g (by omega) hn).trans (B4.block g hg)))⟩⟩
    · rcases k2.new g hg with z | ⟨z, z'⟩
      · exact .inl z
      · exact .inr ⟨by omega, by omega⟩
  clear oV oB k1 ht2 F4
  go_wp2
  clear z0 z1 z2 zf
  obtain ⟨z0, z1, z2, zf⟩ := obj_cells I4
  exact bodyPost_ret (v := .tuple #[.agg #[.int .i64 (clsR (peekR v t k)), .slice pa pn pc, .slice qa qn qc], .int .i64 (errR (peekR v t k))]) (results_twoP Tryz.results7 rfl (load49 z0 z1 z2) rfl) rfl ⟨_, _, _, _, _, _, rfl, oV3, oB3, fin.out⟩
/-- What is kept of the blocks below a place. -/
structure KpN (N : Nat) (w w' : World) : Prop where
  size : w.heap.size ≤ w'.heap.size
  keep : ∀ (g : Nat) (cur : Array Value) (e : Nat), g < N → w.heap[g]? = some (Obj.cells cur e (0, 0)) → e ≠ 78 → w'.heap[g]? = w.heap[g]?
theorem KpN.refl (N : Nat) (w : World) : KpN N w w := ⟨Nat.le_refl _, fun _ _ _ _ _ _ => rfl⟩
theorem KpN.trans {N : Nat} {u v w : World} (h : KpN N u v) (k : KpN N v w) : KpN N u w := ⟨Nat.le_trans h.size k.size, fun g cur e hN hg h1 => (k.keep g cur e hN ((h.keep g cur e hN hg h1).trans hg) h1).trans (h.keep g cur e hN hg h1)⟩
theorem KpV.toN {w w' : World} (h : KpV w w') (N : Nat) : KpN N w w' := ⟨h.size, fun g cur e _ hg h1 => h.keep g cur e hg h1⟩
theorem KpN.ownV {w w' : World} (h : KpN w.heap.size w w') {base : Nat} {v : Value} {vs : List (Int × Int)} (ho : OwnV w base v vs) : OwnV w' base v vs := ho.same fun g hg => by
  obtain ⟨_, cur, hh⟩ := own_block ho.1 hg
  exact h.keep g cur _ (lt_of_block hh) hh (by decide)
theorem KpN.ownB {w w' : World} (h : KpN w.heap.size w w') {base : Nat} {v : Value} {vs : List Int} (ho : OwnB w base v vs) : OwnB w' base v vs := ho.same fun g hg => by
  obtain ⟨_, cur, hh⟩ := own_block ho.1 hg
  exact h.keep g cur _ (lt_of_block hh) hh (by decide)
theorem KpN.obj {w w' : World} (h : KpN w.heap.size w w') {b : Nat} {c : Int} {v1 v2 : Value} (ho : w.heap[b]? = some (objB c v1 v2)) : w'.heap[b]? = some (objB c v1 v2) := by
  unfold objB at ho ⊢
  exact (h.keep b _ _ (lt_of_block ho) ho (by decide)).trans ho
/-- Get of the one view: the answer's rows are nobody's. -/
theorem hw_getQ {W0 W1 w : World} {Y : Nat → Prop} {tb b b2 : Nat} {t : Tab} {v v2 : Vw} (h : Hw W0 W1 Y tb t b v b2 v2 w) (k : Int) :
    Calls Tryz.prog 7 #[.pointer (some ⟨b, 0, none⟩), .int .i64 k] w fun e w' => ∃ sa sn sc ba bn bc, e = .returned (.tuple #[.agg #[.int .i64 (clsR (peekR v t k)), .slice sa sn sc, .slice ba bn bc], .int .i64 (errR (peekR v t k))]) ∧ OwnV w' w.heap.size (.slice sa sn sc) (vsR (peekR v t k)) ∧ OwnB w' w.heap.size (.slice ba bn bc) (bsR (peekR v t k)) ∧ KpV w w' ∧ ∀ w'', Fr (fun g => (Value.slice sa sn sc).ownBlock = some g ∨ (Value.slice ba bn bc).ownBlock = some g) w' w'' → Hw W0 W1 Y tb t b (readV v k) b2 v2 w'' := by
  obtain ⟨S, R, V, Q, V2, Q2, h1, h2, h3, h4, h5, h6, h7, h8⟩ := h
  refine (get_anyQ h2 h1 (fun g hg q => hg.elim (h5 g q).2.1 (h5 g q).2.2.1) k).mono ?_
  rintro e w' ⟨sa, sn, sc, ba, bn, bc, rfl, o1, o2, V', k1, k2, k4⟩
  refine ⟨sa, sn, sc, ba, bn, bc, rfl, o1, o2, ⟨k4.size, fun g cur e hg he => k4.block g (lt_of_block hg) (fun q => he (h2.ty g cur e q hg))⟩, fun w'' hF => ?_⟩
  have rows : ∀ g, ((Value.slice sa sn sc).ownBlock = some g ∨ (Value.slice ba bn bc).ownBlock = some g) → w.heap.size ≤ g ∧ ∃ cur e, w'.heap[g]? = some (Obj.cells cur e (0, 0)) ∧ e ≠ 78 := fun g hg => by
    rcases hg with hg | hg
    · obtain ⟨z1, cur, z2⟩ := own_block o1.1 hg
      exact ⟨z1, cur, _, z2, by decide⟩
    · obtain ⟨z1, cur, z2⟩ := own_block o2.1 hg
      exact ⟨z1, cur, _, z2, by decide⟩
  have old : ∀ g, g < w.heap.size → w''.heap[g]? = w'.heap[g]? := fun g hg => hF.block g (Nat.lt_of_lt_of_le hg k4.size) (fun q => by have := (rows g q).1; omega)
  have vv : ∀ g, V' g → w''.heap[g]? = w'.heap[g]? := fun g hg => hF.block g (k1.lt g (.inl hg)) (fun q => by
    obtain ⟨_, cur, e, z1, z2⟩ := rows g q
    exact z2 (k1.ty g cur e hg z1))
  have s := h8.size
  have sz := Nat.le_trans k4.size hF.size
  have K1 : Vb w'' V' Q b tb (readV v k) := k1.same hF.size (fun g hg => by
    rcases hg with hg | hg
    · exact vv g hg
    · exact old g (h2.lt g (.inr hg)))
  refine ⟨S, R, V', Q, V2, Q2, h1.same sz (fun g hg => (old g (h1.sets.lt hg)).trans (k4.block g (h1.sets.lt hg) (fun q => hg.elim (h5 g q).2.1 (h5 g q).2.2.1))), K1, h3.same sz (fun g hg => (old g (h3.lt g hg)).trans (k4.block g (h3.lt g hg) (fun q => hg.elim (h5 g q).2.2.2.2.1 (h5 g q).2.2.2.2.2))), h4, fun g hg => ?_, fun g hg => ?_, fun g hg => ⟨Nat.lt_of_lt_of_le (h7 g hg).1 sz, (old g (h7 g hg).1).trans ((k4.block g (h7 g hg).1 (fun q => (h5 g q).2.2.2.1 hg)).trans (h7 g hg).2)⟩, ?_⟩
  · rcases k2.new g hg with z | ⟨z, _⟩
    · exact h5 g z
    · exact ⟨by omega, fun q => by have := h1.sets.lt (.inl q); omega, fun q => by have := h1.sets.lt (.inr q); omega, fun q => by have := (h7 g q).1; omega, fun q => by have := h3.lt g (.inl q); omega, fun q => by have := h3.lt g (.inr q); omega⟩
  · obtain ⟨z1, z2, z3, z4, z5, z6⟩ := h6 g hg
    have lt := h3.lt g (.inl hg)
    refine ⟨z1, z2, z3, z4, fun q => ?_, z6⟩
    rcases k2.new g q with y | ⟨y, _⟩
    · exact z5 y
    · omega
  · have B' : Below W0.heap.size W0 w' := k4.below h8 h8.size (fun g hg => (h5 g hg).1)
    exact ⟨hF.os.trans B'.os, hF.tape.trans B'.tape, hF.output.trans B'.output, Nat.le_trans B'.size hF.size, fun g hg => (old g (by omega)).trans (B'.block g hg)⟩
end Go.Proofs.YteomolihandfnaaGreat
namespace Go.Proofs.YteomolihandfnaaGreat
open Go.RowKit
set_option maxRecDepth 100000
set_option maxHeartbeats 1000000 in
theorem cloneR_map (b : Nat) (es : Array MapEntry) (clock : Nat) (w : World) (hb : w.heap[b]? = some (.map es clock)) :
    Calls Tryz.prog 48 #[.map (some b)] w fun e w' => e = .returned (.map (some w.heap.size)) ∧ w' = w.alloc (.map es clock) := by
  have hq := fun w => run_eql_map_nil_sl (P := Tryz.prog) w 75 _ _ (some b) Tryz.underlying75
  go_enter Tryz.func48, Tryz.ntmps48
  go_wp2
  rw [run_callFunc_extern (show Tryz.prog.funcs[67]? = _ from rfl) (by kernel_rfl) (by kernel_rfl) (by kernel_rfl) (e := Extern.MapsClone.clone) (by kernel_rfl), run_maps_clone_sl w 75 hb]
  simp only [Result.andThen]
  rw [Oper.upon_value]
  go_wp2
  rw [run_typeAssert_map_sl _ 75 20 _ _ _ Tryz.underlying75]
  simp only [Result.andThen]
  rw [Oper.upon_value]
  go_wp2
  go_ret
  exact ⟨rfl, rfl⟩
set_option maxHeartbeats 1000000 in
theorem cloneO_map (b : Nat) (es : Array MapEntry) (clock : Nat) (w : World) (hb : w.heap[b]? = some (.map es clock)) :
    Calls Tryz.prog 49 #[.map (some b)] w fun e w' => e = .returned (.map (some w.heap.size)) ∧ w' = w.alloc (.map es clock) := by
  have hq := fun w => run_eql_map_nil_sl (P := Tryz.prog) w 76 _ _ (some b) Tryz.underlying76
  go_enter Tryz.func49, Tryz.ntmps49
  go_wp2
  rw [run_callFunc_extern (show Tryz.prog.funcs[67]? = _ from rfl) (by kernel_rfl) (by kernel_rfl) (by kernel_rfl) (e := Extern.MapsClone.clone) (by kernel_rfl), run_maps_clone_sl w 76 hb]
  simp only [Result.andThen]
  rw [Oper.upon_value]
  go_wp2
  rw [run_typeAssert_map_sl _ 76 20 _ _ _ Tryz.underlying76]
  simp only [Result.andThen]
  rw [Oper.upon_value]
  go_wp2
  go_ret
  exact ⟨rfl, rfl⟩
/-- The new map, where there is one. -/
def CloP (w : World) (m : Option Nat) (e : Ending) (w' : World) : Prop := ∃ m', e = .returned (.map m') ∧ Below w.heap.size w w' ∧ match m with
  | none => m' = none
  | some b => m' = some w.heap.size ∧ w'.heap.size = w.heap.size + 1 ∧ w'.heap[w.heap.size]? = w.heap[b]?
theorem cloneR_any (w : World) (m : Option Nat) (h : ∀ b, m = some b → ∃ es c, w.heap[b]? = some (.map es c)) : Calls Tryz.prog 48 #[.map m] w (CloP w m) := by
  cases m with
  | none =>
    have hq := fun w => run_eql_map_nil_sl (P := Tryz.prog) w 75 _ _ none Tryz.underlying75
    go_enter Tryz.func48, Tryz.ntmps48
    go_wp2
    go_ret
    exact ⟨none, rfl, Below.refl _ _, rfl⟩
  | some b =>
    obtain ⟨es, c, hb⟩ := h b rfl
    refine (cloneR_map b es c w hb).mono ?_
    rintro e w' ⟨rfl, rfl⟩
    exact ⟨_, rfl, box_below, rfl, by simp, (new1 _ _).trans hb.symm⟩
theorem cloneO_any (w : World) (m : Option Nat) (h : ∀ b, m = some b → ∃ es c, w.heap[b]? = some (.map es c)) : Calls Tryz.prog 49 #[.map m] w (CloP w m) := by
  cases m with
  | none =>
    have hq := fun w => run_eql_map_nil_sl (P := Tryz.prog) w 76 _ _ none Tryz.underlying76
    go_enter Tryz.func49, Tryz.ntmps49
    go_wp2
    go_ret
    exact ⟨none, rfl, Below.refl _ _, rfl⟩
  | some b =>
    obtain ⟨es, c, hb⟩ := h b rfl
    refine (cloneO_map b es c w hb).mono ?_
    rintro e w' ⟨rfl, rfl⟩
    exact ⟨_, rfl, box_below, rfl, by simp, (new1 _ _).trans hb.symm⟩
set_option maxHeartbeats 2000000 in
theorem vcopy_any {w : World} {V Q : Nat → Prop} {b tb : Nat} {v : Vw} (h : Vb w V Q b tb v) : Calls Tryz.prog 20 #[.pointer (some ⟨b, 0, none⟩)] w fun e w' => ∃ b2 V2, e = .returned (.pointer (some ⟨b2, 0, none⟩)) ∧ Below w.heap.size w w' ∧ Vb w' V2 Q b2 tb v ∧ ∀ g, V2 g → w.heap.size ≤ g := by
  obtain ⟨rm, om, hblk, hRM, hOM, hne⟩ := h.blk
  obtain ⟨x0, x1, x2, x3, x4⟩ := view_cells hblk
  have lb : Hid (b < w.heap.size) := lt_of_block hblk
  have inR := fun mb e => RdM.in_ hRM (mb := mb) e
  have inO := fun mb e => OwM.in_ hOM (mb := mb) e
  have B1 : Below w.heap.size w (w.alloc (.cells #[.pointer (some ⟨tb, 0, none⟩), .int .i64 v.base, .map rm, .map om, .int .i64 v.made] 78)) := box_below
  have E1 : (w.alloc (.cells #[.pointer (some ⟨tb, 0, none⟩), .int .i64 v.base, .map rm, .map om, .int .i64 v.made] 78)).heap[w.heap.size]? = some (viewB tb v.base rm om v.made) := new1 _ _
  have y2 := (B1.cell (p := ⟨b, 2, none⟩) lb.out).trans x2
  go_enter Tryz.func20, Tryz.ntmps20
  go_wp2_with fail
  clear y2 x0 x1 x2 x3 x4
  generalize w.alloc (.cells #[.pointer (some ⟨tb, 0, none⟩), .int .i64 v.base, .map rm, .map om, .int .i64 v.made] 78) = w1 at *
  obtain ⟨b2, hb2⟩ : ∃ q, q = w.heap.size := ⟨_, rfl⟩
  rw [← hb2] at E1 ⊢
  replace hb2 : Hid (b2 = w.heap.size) := hb2
  refine (cloneR_any w1 rm (fun mb e => by obtain ⟨z1, es, c, z2⟩ := inR mb e; exact ⟨es, c, (B1.block mb (h.lt mb (.inl z1))).trans z2⟩)).mono ?_
  rintro e w2 ⟨rm', rfl, B2, hrm⟩
  have L1 : Hid (w.heap.size ≤ w1.heap.size) := B1.size
  have E2 := (B2.block b2 (lt_of_block E1)).trans E1
  have B12 : Below w.heap.size w w2 := below_size B1 B1.size B2
  have f2 := view_frozen E2
  obtain ⟨x0, x1, x2, x3, x4⟩ := view_cells E2
  have E3 := view_set2 E2 rm'
  have B3 : Below w.heap.size w (w2.setCell ⟨b2, 2, none⟩ (.map rm')) := B12.setCell (p := ⟨b2, 2, none⟩) (Nat.le_of_eq hb2.out.symm) _
  have y3 := (B3.cell (p := ⟨b, 3, none⟩) lb.out).trans (view_cells hblk).2.2.2.1
  have o3 : ∀ q, q ≠ b2 → (w2.setCell ⟨b2, 2, none⟩ (.map rm')).heap[q]? = w2.heap[q]? := fun q hq => heap_setCell_other w2 ⟨b2, 2, none⟩ q _ hq
  have s3 : Hid ((w2.setCell ⟨b2, 2, none⟩ (.map rm')).heap.size = w2.heap.size) := by show _ = _; simp
  go_wp2_with fail
  clear x0 x1 x2 x3 x4 f2 y3
  generalize w2.setCell ⟨b2, 2, none⟩ (.map rm') = w3 at *
  refine (cloneO_any w3 om (fun mb e => by obtain ⟨z1, es, c, z2⟩ := inO mb e; exact ⟨es, c, (B3.block mb (h.lt mb (.inl z1))).trans z2⟩)).mono ?_
  rintro e w4 ⟨om', rfl, B4, hom⟩
  have E4 := (B4.block b2 (lt_of_block E3)).trans E3
  have B14 : Below w.heap.size w w4 := below_size B3 B3.size B4
  have f4 := view_frozen E4
  obtain ⟨x0, x1, x2, x3, x4⟩ := view_cells E4
  have E5 := view_set3 E4 om'
  have B5 : Below w.heap.size w (w4.setCell ⟨b2, 3, none⟩ (.map om')) := B14.setCell (p := ⟨b2, 3, none⟩) (Nat.le_of_eq hb2.out.symm) _
  have o5 : ∀ q, q ≠ b2 → (w4.setCell ⟨b2, 3, none⟩ (.map om')).heap[q]? = w4.heap[q]? := fun q hq => heap_setCell_other w4 ⟨b2, 3, none⟩ q _ hq
  have s5 : Hid ((w4.setCell ⟨b2, 3, none⟩ (.map om')).heap.size = w4.heap.size) := by show _ = _; simp
  go_wp2
  generalize w4.setCell ⟨b2, 3, none⟩ (.map om') = w5 at *
  clear x0 x1 x2 x3 x4 f4
  go_ret
  have l1 := lt_of_block E1
  have l5 := lt_of_block E5
  have k2 := B2.size
  have k4 := B4.size
  have k3 := s3.out
  have k5 := s5.out
  have kb := hb2.out
  have kL := L1.out
  have mr : ∀ mb, rm' = some mb → mb = w1.heap.size ∧ w5.heap[mb]? = w2.heap[mb]? ∧ mb < w2.heap.size := fun mb e => by
    cases rm with
    | none => rw [show rm' = none from hrm] at e; cases e
    | some m0 =>
      obtain ⟨z1, z2, z3⟩ := hrm
      rw [z1] at e
      cases e
      exact ⟨rfl, (o5 _ (by omega)).trans ((B4.block _ (by omega)).trans (o3 _ (by omega))), by omega⟩
  have mo : ∀ mb, om' = some mb → mb = w3.heap.size ∧ w5.heap[mb]? = w4.heap[mb]? ∧ mb < w4.heap.size := fun mb e => by
    cases om with
    | none => rw [show om' = none from hom] at e; cases e
    | some m0 =>
      obtain ⟨z1, z2, z3⟩ := hom
      rw [z1] at e
      cases e
      exact ⟨rfl, o5 _ (by omega), by omega⟩
  have new : ∀ g, (g = b2 ∨ rm' = some g ∨ om' = some g) → w.heap.size ≤ g ∧ g < w5.heap.size := fun g hg => by
    rcases hg with rfl | e | e
    · omega
    · obtain ⟨z1, _, z2⟩ := mr g e; omega
    · obtain ⟨z1, _, z2⟩ := mo g e; omega
  refine ⟨b2, fun g => g = b2 ∨ rm' = some g ∨ om' = some g, rfl, B5, ⟨⟨rm', om', E5, ?_, ?_, fun mb e1 e2 => ?_⟩, .inl rfl, fun g hg => ?_, fun g hg hn => ?_, fun g cur e hg hh => ?_, h.made0, h.good⟩, fun g hg => (new g hg).1⟩
  · cases rm with
    | none =>
      have e : rm' = none := hrm
      subst e
      exact hRM
    | some m0 =>
      obtain ⟨z1, z2, z3⟩ := hrm
      subst z1
      obtain ⟨F, q1, q2, q3⟩ := hRM
      refine ⟨F, ?_, .inr (.inl rfl), q3⟩
      obtain ⟨L, c, hb, q⟩ := q1
      exact ⟨L, c, (mr _ rfl).2.1.trans (z3.trans ((B1.block m0 (lt_of_block' hb)).trans hb)), q⟩
  · cases om with
    | none =>
      have e : om' = none := hom
      subst e
      exact hOM
    | some m0 =>
      obtain ⟨z1, z2, z3⟩ := hom
      subst z1
      obtain ⟨F, q1, q2, q3⟩ := hOM
      refine ⟨F, ?_, .inr (.inr rfl), q3.same (fun _ h => h) (fun g hg => B5.block g (h.lt g (.inr hg)))⟩
      obtain ⟨L, c, hb, q⟩ := q1
      exact ⟨L, c, (mo _ rfl).2.1.trans (z3.trans ((B3.block m0 (lt_of_block' hb)).trans hb)), q⟩
  · obtain ⟨z1, _, z2⟩ := mr mb e1
    obtain ⟨z3, _, z4⟩ := mo mb e2
    omega
  · rcases hg with hg | hg
    · exact (new g hg).2
    · have := h.lt g (.inr hg)
      have := B5.size
      omega
  · have := (new g hn).1
    have := h.lt g (.inr hg)
    omega
  · rcases hg with rfl | e' | e'
    · rw [E5] at hh
      unfold viewB at hh
      cases hh
      rfl
    · exfalso
      cases rm with
      | none => rw [show rm' = none from hrm] at e'; cases e'
      | some m0 =>
        obtain ⟨z1, z2, z3⟩ := hrm
        rw [z1] at e'
        cases e'
        obtain ⟨q1, es, c, q2⟩ := inR m0 rfl
        rw [(mr _ z1).2.1, z3, B1.block m0 (lt_of_block' q2), q2] at hh
        cases hh
    · exfalso
      cases om with
      | none => rw [show om' = none from hom] at e'; cases e'
      | some m0 =>
        obtain ⟨z1, z2, z3⟩ := hom
        rw [z1] at e'
        cases e'
        obtain ⟨q1, es, c, q2⟩ := inO m0 rfl
        rw [(mo _ z1).2.1, z3, B3.block m0 (lt_of_block' q2), q2] at hh
        cases hh
/-- A copy beside the view. -/
theorem hv_copy {W0 W1 w : World} {Y : Nat → Prop} {tb b : Nat} {t : Tab} {v : Vw} (h : Hv W0 W1 Y tb t b v w) : Calls Tryz.prog 20 #[.pointer (some ⟨b, 0, none⟩)] w fun e w' => ∃ b2, e = .returned (.pointer (some ⟨b2, 0, none⟩)) ∧ Hw W0 W1 Y tb t b v b2 v w' ∧ KpV w w' := by
  obtain ⟨S, R, V, Q, h1, h2, h3, h4, h5, h6⟩ := h
  refine (vcopy_any h2).mono ?_
  rintro e w' ⟨b2, V2, rfl, B, k1, k2⟩
  have s := h6.size
  refine ⟨b2, rfl, ⟨S, R, V, Q, V2, Q, h1.below B, h2.below B, k1, h3, fun g hg => ⟨(h4 g hg).1, (h4 g hg).2.1, (h4 g hg).2.2.1, (h4 g hg).2.2.2, fun q => ?_, fun q => h2.dis g q hg⟩, fun g hg => ?_, fun g hg => ⟨Nat.lt_of_lt_of_le (h5 g hg).1 B.size, (B.block g (h5 g hg).1).trans (h5 g hg).2⟩, below_size h6 h6.size B⟩, KpV.below B⟩
  · have := k2 g q
    have := h2.lt g (.inl hg)
    omega
  · have k := k2 g hg
    exact ⟨by omega, fun q => by have := h1.sets.lt (.inl q); omega, fun q => by have := h1.sets.lt (.inr q); omega, fun q => by have := (h5 _ q).1; omega, fun q => by have := h2.lt _ (.inl q); omega, fun q => by have := h2.lt _ (.inr q); omega⟩
end Go.Proofs.YteomolihandfnaaGreat
namespace Go.Proofs.YteomolihandfnaaGreat
open Go.RowKit
set_option maxRecDepth 100000
/-- Rows of an object that are nobody's. -/
structure Ro (W0 : World) (A : Nat → Prop) (w : World) (sa : Option Addr) (sn sc : Nat) (ba : Option Addr) (bn bc : Nat) (vs : List (Int × Int)) (bs : List Int) : Prop where
  v : OwnV w W0.heap.size (.slice sa sn sc) vs
  b : OwnB w W0.heap.size (.slice ba bn bc) bs
  out : ∀ g, (Value.slice sa sn sc).ownBlock = some g ∨ (Value.slice ba bn bc).ownBlock = some g → ¬ A g
/-- A block that is nobody's. -/
structure Bx (A : Nat → Prop) (w : World) (g : Nat) (o : Obj) : Prop where
  blk : w.heap[g]? = some o
  out : ¬ A g
theorem Bx.step {A A' : Nat → Prop} {w w' : World} {g : Nat} {o : Obj} (h : Bx A w g o) (k : Nx A A' w w') : Bx A' w' g o := by
  have hl := lt_of_block' h.blk
  refine ⟨(k.2.block g hl h.out).trans h.blk, fun q => ?_⟩
  rcases k.1 g q with z | z
  · exact h.out z
  · omega
theorem Bx.below {A : Nat → Prop} {w w' : World} {g : Nat} {o : Obj} (h : Bx A w g o) (k : Below w.heap.size w w') : Bx A w' g o := ⟨(k.block g (lt_of_block' h.blk)).trans h.blk, h.out⟩
theorem Bx.fr {A T : Nat → Prop} {w w' : World} {g : Nat} {o : Obj} (h : Bx A w g o) (k : Fr T w w') (hT : ¬ T g) : Bx A w' g o := ⟨(k.block g (lt_of_block' h.blk) hT).trans h.blk, h.out⟩
theorem Ro.lt {W0 : World} {A : Nat → Prop} {w : World} {sa : Option Addr} {sn sc : Nat} {ba : Option Addr} {bn bc : Nat} {vs : List (Int × Int)} {bs : List Int} (h : Ro W0 A w sa sn sc ba bn bc vs bs) {g : Nat} (hg : (Value.slice sa sn sc).ownBlock = some g ∨ (Value.slice ba bn bc).ownBlock = some g) : W0.heap.size ≤ g ∧ ∃ cur e, w.heap[g]? = some (.cells cur e (0, 0)) ∧ (e = 80 ∨ e = 5) := by
  rcases hg with q | q
  · obtain ⟨h1, cur, h2⟩ := own_block h.v.1 q
    exact ⟨h1, cur, _, h2, .inl rfl⟩
  · obtain ⟨h1, cur, h2⟩ := own_block h.b.1 q
    exact ⟨h1, cur, _, h2, .inr rfl⟩
section
variable {W0 w w' : World} {A A' : Nat → Prop} {tb ub b rb n : Nat} {t : Tab} {u : RTab} {v : Vw} {r : Dv} {sa : Option Addr} {sn sc : Nat} {ba : Option Addr} {bn bc : Nat} {vs : List (Int × Int)} {bs : List Int}
theorem Ro.same (h : Ro W0 A w sa sn sc ba bn bc vs bs) (hk : ∀ g, (Value.slice sa sn sc).ownBlock = some g ∨ (Value.slice ba bn bc).ownBlock = some g → w'.heap[g]? = w.heap[g]?) (ho : ∀ g, (Value.slice sa sn sc).ownBlock = some g ∨ (Value.slice ba bn bc).ownBlock = some g → ¬ A' g) : Ro W0 A' w' sa sn sc ba bn bc vs bs := ⟨h.v.same (fun g hg => hk g (.inl hg)), h.b.same (fun g hg => hk g (.inr hg)), ho⟩
theorem Ro.step (h : Ro W0 A w sa sn sc ba bn bc vs bs) (k : Nx A A' w w') : Ro W0 A' w' sa sn sc ba bn bc vs bs := by
  refine h.same (fun g hg => ?_) (fun g hg q => ?_)
  · obtain ⟨_, cur, e, hh, _⟩ := h.lt hg
    exact k.2.block g (lt_of_block' hh) (h.out g hg)
  · obtain ⟨_, cur, e, hh, _⟩ := h.lt hg
    have := lt_of_block' hh
    rcases k.1 g q with z | z
    · exact h.out g hg z
    · omega
theorem Ro.below (h : Ro W0 A w sa sn sc ba bn bc vs bs) (k : Below w.heap.size w w') : Ro W0 A w' sa sn sc ba bn bc vs bs := h.same (fun g hg => by obtain ⟨_, cur, e, hh, _⟩ := h.lt hg; exact k.block g (lt_of_block' hh)) h.out
theorem Ro.isO (h : Ro W0 A w sa sn sc ba bn bc vs bs) {c : Int} (hc : -9223372036854775808 ≤ c ∧ c ≤ 9223372036854775807) : IsO w c sa sn sc ba bn bc vs bs := ⟨hc, h.v.isV, h.b.isB⟩
theorem Ro.obX (h : Ro W0 A w sa sn sc ba bn bc vs bs) {c : Int} (hc : -9223372036854775808 ≤ c ∧ c ≤ 9223372036854775807) (hb : A b) : ObX w b c sa sn sc ba bn bc vs bs := ObX.own hc h.v h.b (fun e => h.out b (.inl e) hb) (fun e => h.out b (.inr e) hb)
theorem Nx.refl (A : Nat → Prop) (w : World) : Nx A A w w := ⟨fun _ h => .inl h, Fr.refl _ _⟩
theorem Nx.below (k : Below w.heap.size w w') : Nx A A w w' := ⟨fun _ h => .inl h, Fr.of_below k⟩
theorem Ro.new (h : Hx W0 A tb t ub u b v rb r w) (o1 : OwnV w' w.heap.size (.slice sa sn sc) vs) (o2 : OwnB w' w.heap.size (.slice ba bn bc) bs) : Ro W0 A w' sa sn sc ba bn bc vs bs := by
  refine ⟨o1.mono h.bel.size, o2.mono h.bel.size, fun g hg q => ?_⟩
  have := h.lt q
  rcases hg with hg | hg
  · have := (own_block o1.1 hg).1; omega
  · have := (own_block o2.1 hg).1; omega
theorem hx_get (h : Hx W0 A tb t ub u b v rb r w) (k : Int) : Calls Tryz.prog 7 #[.pointer (some ⟨b, 0, none⟩), .int .i64 k] w fun e w' => ∃ sa sn sc ba bn bc A', e = .returned (.tuple #[.agg #[.int .i64 (clsR (peekR v t k)), .slice sa sn sc, .slice ba bn bc], .int .i64 (errR (peekR v t k))]) ∧ Ro W0 A' w' sa sn sc ba bn bc (vsR (peekR v t k)) (bsR (peekR v t k)) ∧ Hx W0 A' tb t ub u b (readV v k) rb r w' ∧ Nx A A' w w' := by
  obtain ⟨S, R, U, V, Q, X, h1, rfl⟩ := h
  have h0 : Hx W0 (Un S R U V Q X) tb t ub u b v rb r w := ⟨S, R, U, V, Q, X, h1, rfl⟩
  refine (get_anyQ h1.hv h1.ht (fun g hg q => hg.elim (fun z => (h1.dS g z).2.1 q) (h1.dV g q).1) k).mono ?_
  rintro e w' ⟨sa, sn, sc, ba, bn, bc, rfl, o1, o2, V', k1, k2, k3⟩
  have g2 : ∀ g, V' g → ∀ cur e, w'.heap[g]? = some (Obj.cells cur e (0, 0)) → e = 78 := fun g hg cur e hh => k1.ty g cur e hg hh
  obtain ⟨h2, hn⟩ := hs_viewE h1 k1 k2 ⟨fun _ h => h, fun _ h => .inl h⟩ k3
  refine ⟨sa, sn, sc, ba, bn, bc, _, rfl, ⟨o1.mono h1.bel.size, o2.mono h1.bel.size, fun g hg q => ?_⟩, ⟨S, R, U, V', Q, X, h2, rfl⟩, hn⟩
  have hl : w.heap.size ≤ g ∧ ∃ cur e, w'.heap[g]? = some (Obj.cells cur e (0, 0)) ∧ (e = 80 ∨ e = 5) := by
    rcases hg with hg | hg
    · obtain ⟨z1, cur, z2⟩ := own_block o1.1 hg
      exact ⟨z1, cur, _, z2, .inl rfl⟩
    · obtain ⟨z1, cur, z2⟩ := own_block o2.1 hg
      exact ⟨z1, cur, _, z2, .inr rfl⟩
  obtain ⟨l1, l2, l3, l4, l5, l6⟩ := h1.ltS
  obtain ⟨z1, cur, e, z2, z3⟩ := hl
  rcases q with q | q | q | q | q | q
  · have := l1 g q; omega
  · have := l2 g q; omega
  · have := l3 g q; omega
  · rcases z3 with rfl | rfl <;> exact absurd (g2 g q cur _ z2) (by decide)
  · have := l5 g q; omega
  · have := l6 g q; omega
theorem hx_dget (h : Hx W0 A tb t ub u b v rb r w) (a : Ask u r) (k : Int) : Calls Tryz.prog 8 #[.pointer (some ⟨rb, 0, none⟩), .int .i64 k] w fun e w' => ∃ sa sn sc ba bn bc A', e = .returned (.tuple #[.agg #[.int .i64 (clsR (dpk r u k)), .slice sa sn sc, .slice ba bn bc], .int .i64 (errR (dpk r u k))]) ∧ Ro W0 A' w' sa sn sc ba bn bc (vsR (dpk r u k)) (bsR (dpk r u k)) ∧ Hx W0 A' tb t ub u b v rb (dreadV r k) w' ∧ Nx A A' w w' := by
  obtain ⟨S, R, U, V, Q, X, h1, rfl⟩ := h
  have h0 : Hx W0 (Un S R U V Q X) tb t ub u b v rb r w := ⟨S, R, U, V, Q, X, h1, rfl⟩
  refine (dget_any h1.hd h1.hu (fun g hg => (h1.dU g hg).2.2.2) a.lo a.hi a.ok a.k a.g k).mono ?_
  rintro e w' ⟨sa, sn, sc, ba, bn, bc, rfl, o1, o2, k1, k2⟩
  obtain ⟨h2, hn⟩ := hs_docE h1 k1 ⟨fun _ h => h, fun _ h => .inl h⟩ k2
  exact ⟨sa, sn, sc, ba, bn, bc, _, rfl, Ro.new h0 o1 o2, ⟨S, R, U, V, Q, X, h2, rfl⟩, hn⟩
theorem hx_peek (h : Hx W0 A tb t ub u b v rb r w) (k : Int) : Calls Tryz.prog 11 #[.pointer (some ⟨b, 0, none⟩), .int .i64 k] w fun e w' => ∃ sa sn sc ba bn bc, e = .returned (.tuple #[.agg #[.int .i64 (clsR (peekR v t k)), .slice sa sn sc, .slice ba bn bc], .int .i64 (errR (peekR v t k))]) ∧ Ro W0 A w' sa sn sc ba bn bc (vsR (peekR v t k)) (bsR (peekR v t k)) ∧ Below w.heap.size w w' := by
  obtain ⟨S, R, U, V, Q, X, h1, rfl⟩ := h
  have h0 : Hx W0 (Un S R U V Q X) tb t ub u b v rb r w := ⟨S, R, U, V, Q, X, h1, rfl⟩
  refine (peek_any h1.hv h1.ht k).mono ?_
  rintro e w' ⟨sa, sn, sc, ba, bn, bc, rfl, o1, o2, k1⟩
  exact ⟨sa, sn, sc, ba, bn, bc, rfl, Ro.new h0 o1 o2, k1⟩
theorem hx_dpeek (h : Hx W0 A tb t ub u b v rb r w) (a : Ask u r) (k : Int) : Calls Tryz.prog 12 #[.pointer (some ⟨rb, 0, none⟩), .int .i64 k] w fun e w' => ∃ sa sn sc ba bn bc, e = .returned (.tuple #[.agg #[.int .i64 (clsR (dpk r u k)), .slice sa sn sc, .slice ba bn bc], .int .i64 (errR (dpk r u k))]) ∧ Ro W0 A w' sa sn sc ba bn bc (vsR (dpk r u k)) (bsR (dpk r u k)) ∧ Below w.heap.size w w' := by
  obtain ⟨S, R, U, V, Q, X, h1, rfl⟩ := h
  have h0 : Hx W0 (Un S R U V Q X) tb t ub u b v rb r w := ⟨S, R, U, V, Q, X, h1, rfl⟩
  refine (dpeek_any h1.hd h1.hu a.lo a.hi a.ok a.k a.g k).mono ?_
  rintro e w' ⟨sa, sn, sc, ba, bn, bc, rfl, o1, o2, k1⟩
  exact ⟨sa, sn, sc, ba, bn, bc, rfl, Ro.new h0 o1 o2, k1⟩
theorem hx_read (h : Hx W0 A tb t ub u b v rb r w) (k : Int) : Calls Tryz.prog 13 #[.pointer (some ⟨b, 0, none⟩), .int .i64 k] w fun e w' => e = .returned (.tuple #[]) ∧ Hn W0 A w tb t ub u b (readV v k) rb r w' := by
  obtain ⟨S, R, U, V, Q, X, h1, rfl⟩ := h
  refine (read_anyQ h1.hv k).mono ?_
  rintro e w' ⟨rfl, V', k1, k2, k3⟩
  obtain ⟨h2, hn⟩ := hs_viewE h1 k1 k2 ⟨fun _ h => h, fun _ h => .inl h⟩ k3
  exact ⟨rfl, _, ⟨S, R, U, V', Q, X, h2, rfl⟩, hn⟩
theorem hx_dread (h : Hx W0 A tb t ub u b v rb r w) (k : Int) : Calls Tryz.prog 14 #[.pointer (some ⟨rb, 0, none⟩), .int .i64 k] w fun e w' => e = .returned (.tuple #[]) ∧ Hn W0 A w tb t ub u b v rb (dreadV r k) w' := by
  obtain ⟨S, R, U, V, Q, X, h1, rfl⟩ := h
  refine (dread_any h1.hd k).mono ?_
  rintro e w' ⟨rfl, k1, k2⟩
  obtain ⟨h2, hn⟩ := hs_docE h1 k1 ⟨fun _ h => h, fun _ h => .inl h⟩ k2
  exact ⟨rfl, _, ⟨S, R, U, V, Q, X, h2, rfl⟩, hn⟩
theorem hx_put (h : Hx W0 A tb t ub u b v rb r w) (k : Int) {c : Int} (ho : ObX w b c sa sn sc ba bn bc vs bs) : Calls Tryz.prog 16 #[.pointer (some ⟨b, 0, none⟩), .int .i64 k, .agg #[.int .i64 c, .slice sa sn sc, .slice ba bn bc]] w fun e w' => e = .returned (.int .i64 (putE v t k ⟨c, vs, bs⟩)) ∧ Hn W0 A w tb t ub u b (putV v t k ⟨c, vs, bs⟩) rb r w' := by
  obtain ⟨S, R, U, V, Q, X, h1, rfl⟩ := h
  refine (put_anyX h1.hv h1.ht k ho).mono ?_
  rintro e w' ⟨rfl, V', Q', k1, k2, k3, k4⟩
  obtain ⟨h2, hn⟩ := hs_viewE h1 k1 k2 k3 k4
  exact ⟨rfl, _, ⟨S, R, U, V', Q', X, h2, rfl⟩, hn⟩
theorem hx_make (h : Hx W0 A tb t ub u b v rb r w) {c : Int} (ho : ObX w b c sa sn sc ba bn bc vs bs) : Calls Tryz.prog 18 #[.pointer (some ⟨b, 0, none⟩), .agg #[.int .i64 c, .slice sa sn sc, .slice ba bn bc]] w fun e w' => e = .returned (.tuple #[.int .i64 (makeN v ⟨c, vs, bs⟩), .int .i64 (makeE v ⟨c, vs, bs⟩)]) ∧ Hn W0 A w tb t ub u b (makeV v ⟨c, vs, bs⟩) rb r w' := by
  obtain ⟨S, R, U, V, Q, X, h1, rfl⟩ := h
  refine (make_anyX h1.hv ho).mono ?_
  rintro e w' ⟨rfl, V', Q', k1, k2, k3, k4⟩
  obtain ⟨h2, hn⟩ := hs_viewE h1 k1 k2 k3 k4
  exact ⟨rfl, _, ⟨S, R, U, V', Q', X, h2, rfl⟩, hn⟩
theorem hx_dput (h : Hx W0 A tb t ub u b v rb r w) (a : Ask u r) (k : Int) (hkb : -9223372036854775808 ≤ k ∧ k ≤ 9223372036854775807) {c : Int} (hO : IsO w c sa sn sc ba bn bc vs bs) (hs : sn ≤ 8796093022208) (hb : bn ≤ 140737488355328) : Calls Tryz.prog 17 #[.pointer (some ⟨rb, 0, none⟩), .int .i64 k, .agg #[.int .i64 c, .slice sa sn sc, .slice ba bn bc]] w fun e w' => e = .returned (.int .i64 (dputE r u k ⟨c, vs, bs⟩)) ∧ Hn W0 A w tb t ub u b v rb (dputV r u k ⟨c, vs, bs⟩) w' := by
  obtain ⟨S, R, U, V, Q, X, h1, rfl⟩ := h
  refine (dput_any h1.hd h1.hu a.lo a.hi a.ok a.k a.g a.few k hkb hO hs hb).mono ?_
  rintro e w' ⟨rfl, X', k1, k2, k3⟩
  obtain ⟨h2, hn⟩ := hs_docE h1 k1 k2 k3
  exact ⟨rfl, _, ⟨S, R, U, V, Q, X', h2, rfl⟩, hn⟩
theorem hx_dmake (h : Hx W0 A tb t ub u b v rb r w) (a : Ask u r) {c : Int} (hO : IsO W0 c sa sn sc ba bn bc vs bs) (hs : sn ≤ 8796093022208) (hb : bn ≤ 140737488355328) : Calls Tryz.prog 19 #[.pointer (some ⟨rb, 0, none⟩), .agg #[.int .i64 c, .slice sa sn sc, .slice ba bn bc]] w fun e w' => e = .returned (.tuple #[.int .i64 (dmakeN r ⟨c, vs, bs⟩), .int .i64 (dmakeE r ⟨c, vs, bs⟩)]) ∧ Hn W0 A w tb t ub u b v rb (dmakeV r ⟨c, vs, bs⟩) w' := by
  have h0 := h
  obtain ⟨S, R, U, V, Q, X, h1, rfl⟩ := h
  refine (dmake_any h1.hd a.n0 a.few hO h1.bel h0.lob.2 hs hb).mono ?_
  rintro e w' ⟨rfl, X', k1, k2, k3⟩
  obtain ⟨h2, hn⟩ := hs_docE h1 k1 k2 k3
  exact ⟨rfl, _, ⟨S, R, U, V, Q, X', h2, rfl⟩, hn⟩
theorem hx_apply (h : Hx W0 A tb t ub u b v rb r w) (c : Int) {ra : Option Addr} {m cap base : Nat} {xs : List Ch} (hr : OwnC w base 96 (.slice ra m cap) xs) : Calls Tryz.prog 21 #[.pointer (some ⟨tb, 0, none⟩), .agg #[.int .i64 c, .slice ra m cap]] w fun e w' => e = .returned (.int .i64 (applyE t c xs)) ∧ Hn W0 A w tb (applyT t c xs) ub u b v rb r w' := by
  obtain ⟨S, R, U, V, Q, X, h1, rfl⟩ := h
  refine (apply_any h1.ht c hr).mono ?_
  rintro e w' ⟨rfl, k⟩
  obtain ⟨S', R', h2, hn⟩ := hs_tab h1 k
  exact ⟨rfl, _, ⟨S', R', U, V, Q, X, h2, rfl⟩, hn⟩
theorem hx_rapply (h : Hx W0 A tb t ub u b v rb r w) (hk : u.k ≤ 1000) (c : Int) {ra : Option Addr} {m cap : Nat} {xs : List Ch} (hr : IsC W0 ra m cap xs) : Calls Tryz.prog 23 #[.pointer (some ⟨ub, 0, none⟩), .agg #[.int .i64 c, .slice ra m cap]] w fun e w' => e = .returned (.int .i64 (rapplyE u c xs)) ∧ Hn W0 A w tb t ub (rapplyT u c xs) b v rb r w' := by
  obtain ⟨S, R, U, V, Q, X, h1, rfl⟩ := h
  refine (rapply_any h1.hu c hr h1.bel (fun g hg => h1.lo g (.inr (.inl hg))) hk).mono ?_
  rintro e w' ⟨rfl, k⟩
  obtain ⟨U', h2, hn⟩ := hs_rtab h1 k
  exact ⟨rfl, _, ⟨S, R, U', V, Q, X, h2, rfl⟩, hn⟩
theorem hx_base (h : Hx W0 A tb t ub u b v rb r w) : Calls Tryz.prog 24 #[.pointer (some ⟨b, 0, none⟩)] w fun e w' => e = .returned (.int .i64 v.base) ∧ w = w' := by
  obtain ⟨S, R, U, V, Q, X, h1, rfl⟩ := h
  obtain ⟨rm, om, hblk, _⟩ := h1.hv.blk
  exact vbase_any hblk
theorem hx_c (h : Hx W0 A tb t ub u b v rb r w) : w.cell? ⟨rb, 1, none⟩ = some (.int .i64 r.c) ∧ rb < w.heap.size := by
  obtain ⟨S, R, U, V, Q, X, h1, rfl⟩ := h
  obtain ⟨lv, rb', hblk, _⟩ := h1.hd.blk
  exact ⟨(dv_cells hblk).2.1, lt_of_block hblk⟩
theorem hx_end (h : Hx W0 A tb t ub u b v rb r w) : w.cell? ⟨ub, 1, none⟩ = some (.int .i64 u.end_) ∧ ub < w.heap.size := by
  obtain ⟨S, R, U, V, Q, X, h1, rfl⟩ := h
  obtain ⟨lv, wv, n, hblk, _⟩ := h1.hu.blk
  exact ⟨(rt_cells hblk).2.1, lt_of_block hblk⟩
/-- A view and its copy. -/
def Hx2 (W0 : World) (A : Nat → Prop) (tb : Nat) (t : Tab) (ub : Nat) (u : RTab) (b : Nat) (v : Vw) (b2 : Nat) (v2 : Vw) (rb : Nat) (r : Dv) (w : World) : Prop := ∃ S R U V Q X V2 Q2, Hs W0 S R U V Q X tb t ub u b v rb r w ∧ Hs W0 S R U V2 Q2 X tb t ub u b2 v2 rb r w ∧ (∀ g, V g → ¬ V2 g ∧ ¬ Q2 g) ∧ A = fun g => Un S R U V Q X g ∨ V2 g ∨ Q2 g
theorem hx_copy (h : Hx W0 A tb t ub u b v rb r w) : Calls Tryz.prog 20 #[.pointer (some ⟨b, 0, none⟩)] w fun e w' => ∃ b2 A', e = .returned (.pointer (some ⟨b2, 0, none⟩)) ∧ Hx2 W0 A' tb t ub u b v b2 v rb r w' ∧ Nx A A' w w' := by
  obtain ⟨S, R, U, V, Q, X, h1, rfl⟩ := h
  refine (vcopy_any h1.hv).mono ?_
  rintro e w' ⟨b2, V2, rfl, k1, k2, k3⟩
  have h2 := h1.below k1
  obtain ⟨l1, l2, l3, l4, l5, l6⟩ := h1.ltS
  refine ⟨b2, _, rfl, ⟨S, R, U, V, Q, X, V2, Q, h2, ⟨h2.ht, h2.hu, k2, h2.hd, fun g hg => ⟨(h1.dS g hg).1, fun q => ?_, (h1.dS g hg).2.2.1, (h1.dS g hg).2.2.2⟩, fun g hg => ⟨(h1.dU g hg).1, fun q => ?_, (h1.dU g hg).2.2.1, (h1.dU g hg).2.2.2⟩, fun g hg => ⟨fun q => ?_, fun q => ?_⟩, h1.dX, fun g hg => ?_, h2.bel⟩, fun g hg => ⟨fun q => ?_, fun q => h1.hv.dis g q hg⟩, rfl⟩, fun g hg => ?_, Fr.of_below k1⟩
  · have := k3 g q; have := l1 g hg; omega
  · have := k3 g q; have := l3 g hg; omega
  · have := k3 g hg; have := l2 g q; omega
  · have := k3 g hg; have := l6 g q; omega
  · rcases hg with q | q | q | q
    · exact h1.lo g (.inl q)
    · exact h1.lo g (.inr (.inl q))
    · have := k3 g q; have := h1.bel.size; omega
    · exact h1.lo g (.inr (.inr (.inr q)))
  · have := k3 g q; have := l4 g hg; omega
  · rcases hg with q | q | q
    · exact .inl q
    · exact .inr ⟨k3 g q, k2.lt g (.inl q)⟩
    · exact .inl (.inr (.inr (.inr (.inr (.inl q)))))
theorem hx2_view {b2 : Nat} {v2 v' : Vw} (h : Hx2 W0 A tb t ub u b v b2 v2 rb r w) (f : ∀ V Q, Vb w V Q b tb v → VwP w V Q b tb v' w') : ∃ A', Hx2 W0 A' tb t ub u b v' b2 v2 rb r w' ∧ Nx A A' w w' := by
  obtain ⟨S, R, U, V, Q, X, V2, Q2, h1, h2, h3, rfl⟩ := h
  obtain ⟨V', Q', k1, k2, k3, k4⟩ := f V Q h1.hv
  obtain ⟨h4, hn⟩ := hs_viewE h1 k1 k2 k3 k4
  have h5 : Hs W0 S R U V2 Q2 X tb t ub u b2 v2 rb r w' := h2.same k4.size (fun g hg => k4.block g (h2.lt hg) (fun q => by
    rcases hg with z | z | z | z | z | z
    · exact (h1.dS g z).2.1 q
    · exact (h1.dV g q).1 z
    · exact (h1.dU g z).2.1 q
    · exact (h3 g q).1 z
    · exact (h3 g q).2 z
    · exact (h1.dV g q).2 z)) h4.bel
  obtain ⟨_, _, _, m4, m5, _⟩ := h2.ltS
  refine ⟨_, ⟨S, R, U, V', Q', X, V2, Q2, h4, h5, fun g hg => ?_, rfl⟩, fun g hg => ?_, hn.2.mono (fun g _ hg => .inl hg)⟩
  · rcases k2.new g hg with z | z
    · exact h3 g z
    · exact ⟨fun q => by have := m4 g q; omega, fun q => by have := m5 g q; omega⟩
  · rcases hg with z | z
    · rcases hn.1 g z with y | y
      · exact .inl (.inl y)
      · exact .inr y
    · exact .inl (.inr z)
theorem hx2_take {b2 : Nat} {v2 : Vw} (h : Hx2 W0 A tb t ub u b v b2 v2 rb r w) : ∃ A', Hx W0 A' tb t ub u b2 v2 rb r w ∧ Nx A A' w w := by
  obtain ⟨S, R, U, V, Q, X, V2, Q2, h1, h2, h3, rfl⟩ := h
  refine ⟨_, ⟨S, R, U, V2, Q2, X, h2, rfl⟩, fun g hg => .inl ?_, Fr.refl _ _⟩
  rcases hg with q | q | q | q | q | q
  · exact .inl (.inl q)
  · exact .inl (.inr (.inl q))
  · exact .inl (.inr (.inr (.inl q)))
  · exact .inr (.inl q)
  · exact .inr (.inr q)
  · exact .inl (.inr (.inr (.inr (.inr (.inr q)))))
end
end Go.Proofs.YteomolihandfnaaGreat
namespace Go.Proofs.YteomolihandfnaaGreat
open Go.ChangeShapes Go.WideShapes Go.ChangeAt Go.RowKit Go.Deep
set_option maxRecDepth 100000
theorem Tryz.cells40 : Tryz.prog.cellsOf 40 = 7 := by kernel_rfl
theorem Tryz.fields40 : ∃ f0 f1 f2 f3, Tryz.prog.underlying 40 = some (.struct #[f0, f1, f2, f3]) ∧ (f0.type = 3 ∧ f0.offset = 0) ∧ (f1.type = 2 ∧ f1.offset = 1) ∧ (f2.type = 35 ∧ f2.offset = 2) ∧ (f3.type = 38 ∧ f3.offset = 5) := ⟨_, _, _, _, Tryz.underlying40, ⟨rfl, rfl⟩, ⟨rfl, rfl⟩, ⟨rfl, rfl⟩, ⟨rfl, rfl⟩⟩
structure Ac where
  kind : Int
  oop : Int
  o : Ob
  sa : Option Addr
  sn : Nat
  sc : Nat
  ba : Option Addr
  bn : Nat
  bc : Nat
  com : Int
  ra : Option Addr
  rn : Nat
  rc : Nat
  rxs : List Ch
instance : Inhabited Ac := ⟨⟨0, 0, ⟨0, [], []⟩, none, 0, 0, none, 0, 0, 0, none, 0, 0, []⟩⟩
structure Ac.In (m : Ac) (W : World) : Prop where
  obj : IsO W m.o.cls m.sa m.sn m.sc m.ba m.bn m.bc m.o.vs m.o.bs
  sn : m.sn ≤ 8796093021952
  bn : m.bn ≤ 140737488351232
  oop : -9223372036854775808 ≤ m.oop ∧ m.oop ≤ 9223372036854775807
  rec_ : (⟨m.com, m.ra, m.rn, m.rc, m.rxs⟩ : Rm).In W
def Ac.cells (m : Ac) : List Value := [.int .i64 m.kind, .int .i64 m.oop, .int .i64 m.o.cls, .slice m.sa m.sn m.sc, .slice m.ba m.bn m.bc, .int .i64 m.com, .slice m.ra m.rn m.rc]
structure IsAs (W : World) (a : Option Addr) (len cap : Nat) (ms : List Ac) : Prop where
  size : ms.length = len
  room : len ≤ cap
  most : cap ≤ maxLen
  cells : 0 < len → ∃ b off, a = some ⟨b, off, none⟩ ∧ ∀ i m, ms[i]? = some m → ∀ j v, m.cells[j]? = some v → W.cell? ⟨b, off + i * 7 + j, none⟩ = some v
  ins : ∀ m ∈ ms, m.In W
theorem open_actT {H : Type} {enc : TypeId × Value → H} {W : World} {fuel : Nat} {cs : List Value} {x : DataW H × List MemPlace}
    (hf : DataW.trod enc Tryz.prog W 0 (fun _ => true) true fuel 40 cs = some x) (hs : ∀ n ∈ x.1.weights Tryz.prog 40, n ≤ reachBytes) : ∃ m : Ac, cs = m.cells ∧ m.In W := by
  obtain ⟨f0, f1, f2, f3, hu, ⟨t0, o0⟩, ⟨t1, o1⟩, ⟨t2, o2⟩, ⟨t3, o3⟩⟩ := Tryz.fields40
  obtain ⟨ys, k, _, rfl, hcl, hyl, hfl⟩ := DataW.trod_struct hu hf
  have hy4 : ys.length = 4 := hyl
  rw [Tryz.cells40] at hcl
  obtain ⟨y0, y1, y2, y3, rfl⟩ : ∃ y0 y1 y2 y3, ys = [y0, y1, y2, y3] := by
    match ys, hy4 with
    | [y0, y1, y2, y3], _ => exact ⟨_, _, _, _, rfl⟩
  obtain ⟨c0, c1, c2, c3, c4, c5, c6, rfl⟩ : ∃ c0 c1 c2 c3 c4 c5 c6, cs = [c0, c1, c2, c3, c4, c5, c6] := by
    match cs, hcl with
    | [c0, c1, c2, c3, c4, c5, c6], _ => exact ⟨_, _, _, _, _, _, _, rfl⟩
  have g0 : DataW.trod enc Tryz.prog W 0 (fun _ => true) true k 3 [c0] = some y0 := by have h := hfl 0 f0 rfl; rw [t0, o0, Tryz.cells3] at h; exact h
  have g1 : DataW.trod enc Tryz.prog W 0 (fun _ => true) true k 2 [c1] = some y1 := by have h := hfl 1 f1 rfl; rw [t1, o1, Tryz.cells2] at h; exact h
  have g2 : DataW.trod enc Tryz.prog W 0 (fun _ => true) true k 35 [c2, c3, c4] = some y2 := by have h := hfl 2 f2 rfl; rw [t2, o2, Tryz.cells35] at h; exact h
  have g3 : DataW.trod enc Tryz.prog W 0 (fun _ => true) true k 38 [c5, c6] = some y3 := by have h := hfl 3 f3 rfl; rw [t3, o3, Tryz.cells38] at h; exact h
  have e : (DataW.agg [y0.1, y1.1, y2.1, y3.1]).weights Tryz.prog 40 = DataW.weightsEach Tryz.prog [f0.type, f1.type, f2.type, f3.type] [y0.1, y1.1, y2.1, y3.1] := by
    simp only [DataW.weights, hu]
    rfl
  have hs' : ∀ n ∈ (DataW.agg [y0.1, y1.1, y2.1, y3.1]).weights Tryz.prog 40, n ≤ reachBytes := hs
  rw [e] at hs'
  have h2 : ∀ n ∈ y2.1.weights Tryz.prog 35, n ≤ reachBytes := fun n hn => hs' n (DataW.weights_mem_each (j := 2) rfl rfl n (by rw [t2]; exact hn))
  have h3 : ∀ n ∈ y3.1.weights Tryz.prog 38, n ≤ reachBytes := fun n hn => hs' n (DataW.weights_mem_each (j := 3) rfl rfl n (by rw [t3]; exact hn))
  obtain ⟨n0, e0, _, w0⟩ := DataW.trod_int Tryz.underlying3 g0
  obtain ⟨n1, e1, _, w1⟩ := DataW.trod_int Tryz.underlying2 g1
  obtain ⟨c, sa, sn, sc, ba, bn, bc, vs, bs, e2, hO, hsn, hbn⟩ := open_objT g2 h2
  obtain ⟨m3, e3, r3⟩ := open_recT g3 h3
  obtain rfl := (List.cons.inj e0).1
  obtain rfl := (List.cons.inj e1).1
  simp only [List.cons.injEq, and_true] at e2 e3
  obtain ⟨rfl, rfl, rfl⟩ := e2
  obtain ⟨rfl, rfl⟩ := e3
  exact ⟨⟨n0, n1, ⟨c, vs, bs⟩, sa, sn, sc, ba, bn, bc, m3.com, m3.a, m3.n, m3.cap, m3.xs⟩, rfl, ⟨hO, hsn, hbn, okI w1, r3⟩⟩
theorem open_acts {H : Type} {enc : TypeId × Value → H} {W : World} {a : Option Addr} {len cap fuel : Nat} {x : DataW H × List MemPlace}
    (hf : DataW.trod enc Tryz.prog W 0 (fun _ => true) true fuel 23 [Value.slice a len cap] = some x) (hs : ∀ n ∈ x.1.weights Tryz.prog 23, n ≤ reachBytes) : ∃ ms, IsAs W a len cap ms := by
  rcases open_slice Tryz.underlying23 hf with ⟨hcs, _⟩ | ⟨ad, len', cap', m, n, D, Pl, hcs, _, hl, hm, hmm, rfl, hel⟩
  · simp at hcs
    obtain ⟨rfl, rfl, rfl⟩ := hcs
    exact ⟨[], ⟨rfl, Nat.le_refl _, by decide, fun h => absurd h (by decide), by simp⟩⟩
  · simp at hcs
    obtain ⟨rfl, rfl, rfl⟩ := hcs
    simp only [if_true] at hmm
    subst hmm
    have hw : ∀ i, i < len → ∀ z ∈ (D i).weights Tryz.prog 40, z ≤ reachBytes := fun i hi z hz => hs z (by
      simp only [DataW.weights, Tryz.underlying23, List.mem_cons, List.mem_append]
      exact Or.inr (Or.inl (weightsAll_mem (List.mem_map.2 ⟨i, List.mem_range.2 hi, rfl⟩) z hz)))
    have key : ∀ i, i < len → ∃ y : Ac, (∀ j v, y.cells[j]? = some v → W.cell? (ad.add (i * 7 + j)) = some v) ∧ y.In W := by
      intro i hi
      obtain ⟨cs', h1, h2⟩ := hel i (by omega)
      rw [Tryz.cells40] at h1
      obtain ⟨_, hcl, hcell⟩ := World.cells?_some h1
      obtain ⟨y, rfl, hin⟩ := open_actT h2 (hw i hi)
      refine ⟨y, fun j v hj => ?_, hin⟩
      have h7 : j < 7 := by have := (List.getElem?_eq_some_iff.1 hj).1; simpa [Ac.cells] using this
      have q := hcell j (by omega)
      rw [add_add] at q
      rw [q]
      exact hj
    obtain ⟨f, hf'⟩ := choose_lt key
    refine ⟨(List.range len).map f, ⟨by simp, hl, hm, fun h0 => ?_, fun z hz => ?_⟩⟩
    · obtain ⟨b, off, spot⟩ := ad
      have hc : W.cell? ((⟨b, off, spot⟩ : Addr).add (0 * 7 + 0)) = some (.int .i64 (f 0).kind) := (hf' 0 h0).1 0 _ rfl
      have hsp : spot = none := by simpa [Addr.add] using World.cell?_spot hc
      subst hsp
      refine ⟨b, off, rfl, fun i x hx j v hj => ?_⟩
      have hi : i < len := by
        have := (List.getElem?_eq_some_iff.1 hx).1
        simpa using this
      have ex : f i = x := by
        rw [List.getElem?_map, List.getElem?_range hi] at hx
        exact Option.some.inj hx
      subst ex
      have q := (hf' i hi).1 j v hj
      rw [Addr.add_lit] at q
      rw [Nat.add_assoc]
      exact q
    · obtain ⟨i, hi, rfl⟩ := List.mem_map.1 hz
      exact (hf' i (List.mem_range.1 hi)).2
/-- A call of the list. -/
theorem IsAs.at_ {W : World} {a : Option Addr} {len cap : Nat} {ms : List Ac} (h : IsAs W a len cap ms) (k : Nat) (hk : k < len) : ∃ (b off : Nat) (m : Ac), a = some ⟨b, off, none⟩ ∧ m.In W ∧ ∀ w, Below W.heap.size W w → b < w.heap.size ∧ ∀ j v, m.cells[j]? = some v → w.cell? ⟨b, off + k * 7 + j, none⟩ = some v := by
  obtain ⟨b, off, e, hc⟩ := h.cells (by omega)
  have hm : ms[k]? = some (ms[k]'(by rw [h.size]; exact hk)) := List.getElem?_eq_getElem _
  have hi := h.ins _ (List.mem_of_getElem? hm)
  refine ⟨b, off, _, e, hi, fun w hb => ⟨?_, fun j v hj => ?_⟩⟩
  · exact Nat.lt_of_lt_of_le (lt_of_cell (hc k _ hm 0 _ rfl)) hb.size
  · have := hc k _ hm j v hj
    exact (hb.cell (lt_of_cell this)).trans this
end Go.Proofs.YteomolihandfnaaGreat
namespace Go.Proofs.YteomolihandfnaaGreat
open Go.RowKit
set_option maxRecDepth 100000
theorem tb_cls {w : World} {S R : Nat → Prop} {b : Nat} {t : Tab} (h1 : Tb w S R b t) (c k : Int) : -9223372036854775808 ≤ clsO (atO t c k) ∧ clsO (atO t c k) ≤ 9223372036854775807 := by
  unfold atO
  split
  · cases hx : atC (t.m k).vs c with
    | none => simp [clsO]
    | some x =>
      obtain ⟨m1, _, m3⟩ := atC_mem hx
      have h2 := (h1.good.ver k x m1).2.2
      simp only [okCh, m3, okO, okC, Bool.false_eq_true, if_false, Bool.and_eq_true, decide_eq_true_eq] at h2
      show -9223372036854775808 ≤ x.cls ∧ x.cls ≤ 9223372036854775807
      omega
  · simp [clsO]
theorem pk_cls {w : World} {S R V Q : Nat → Prop} {b tb : Nat} {t : Tab} {v : Vw} (h1 : Tb w S R tb t) (h2 : Vb w V Q b tb v) (k : Int) : -9223372036854775808 ≤ clsR (peekR v t k) ∧ clsR (peekR v t k) ≤ 9223372036854775807 := by
  unfold peekR
  cases ho : v.own k with
  | some o =>
    have := okWO_len (h2.good k o ho)
    show -9223372036854775808 ≤ o.cls ∧ o.cls ≤ 9223372036854775807
    omega
  | none =>
    have := tb_cls h1 v.base k
    show -9223372036854775808 ≤ clsR (toOb (atO t v.base k)) ∧ clsR (toOb (atO t v.base k)) ≤ 9223372036854775807
    cases hx : atO t v.base k with
    | none => simp [toOb, clsR]
    | some x => rw [hx] at this; exact this
theorem Hx.cls {W0 w : World} {A : Nat → Prop} {tb ub b rb : Nat} {t : Tab} {u : RTab} {v : Vw} {r : Dv} (h : Hx W0 A tb t ub u b v rb r w) (k : Int) : -9223372036854775808 ≤ clsR (peekR v t k) ∧ clsR (peekR v t k) ≤ 9223372036854775807 := by
  obtain ⟨S, R, U, V, Q, X, h1, rfl⟩ := h
  exact pk_cls h1.ht h1.hv k
theorem Hx.last {W0 w : World} {A : Nat → Prop} {tb ub b rb n : Nat} {t : Tab} {u : RTab} {v : Vw} {r : Dv} (h : Hx W0 A tb t ub u b v rb r w) (z : Zr t u v r n) : 0 ≤ u.end_ ∧ u.end_ ≤ 1099511627776 := by
  obtain ⟨S, R, U, V, Q, X, h1, rfl⟩ := h
  have h2 := h1.ht.first0
  rw [z.ar.r2.rel.last] at h2
  omega
/-- Both tables and a new view. -/
def Hbv (W0 : World) (tb ub : Nat) (t : Tab) (u : RTab) (b : Nat) (w : World) : Prop := ∃ S R U V, Tb w S R tb t ∧ RTb w U ub u ∧ Vb w V (fun _ => False) b tb (vw0 t.last) ∧ (∀ g, S g → W0.heap.size ≤ g) ∧ (∀ g, U g → W0.heap.size ≤ g ∧ ¬ S g ∧ ¬ R g) ∧ (∀ g, V g → W0.heap.size ≤ g ∧ ¬ S g ∧ ¬ R g ∧ ¬ U g) ∧ Below W0.heap.size W0 w
theorem hb_vnew {W0 w : World} {tb ub : Nat} {t : Tab} {u : RTab} (h : Hb W0 tb ub t u w) : Calls Tryz.prog 5 #[.pointer (some ⟨tb, 0, none⟩)] w fun e w' => ∃ b, e = .returned (.pointer (some ⟨b, 0, none⟩)) ∧ Hbv W0 tb ub t u b w' := by
  obtain ⟨S, R, U, h1, h2, h3, h4, h5⟩ := h
  obtain ⟨mv, hblk, _⟩ := h1.blk
  refine (vnew_any hblk).mono ?_
  rintro e w' ⟨rfl, rfl⟩
  have B : Below w.heap.size w (w.alloc (viewB tb t.last none none 0)) := box_below
  refine ⟨_, rfl, S, R, U, _, h1.same B.size (fun g hg => B.block g (hg.elim (h1.sets.sl g) (h1.sets.rl g))), h2.below B, Vb.new w tb t.last, h3, h4, fun g hg => ?_, below_size h5 h5.size B⟩
  subst hg
  exact ⟨h5.size, fun q => by have := h1.sets.sl _ q; omega, fun q => by have := h1.sets.rl _ q; omega, fun q => by have := h2.lt _ q; omega⟩
theorem hbv_dnew {W0 w : World} {tb ub b : Nat} {t : Tab} {u : RTab} (h : Hbv W0 tb ub t u b w) : Calls Tryz.prog 6 #[.pointer (some ⟨ub, 0, none⟩)] w fun e w' => ∃ rb A, e = .returned (.pointer (some ⟨rb, 0, none⟩)) ∧ Hx W0 A tb t ub u b (vw0 t.last) rb (dv0 u.end_) w' := by
  obtain ⟨S, R, U, V, h1, h2, h3, h4, h5, h6, h7⟩ := h
  obtain ⟨lv, wv, n, hblk, _⟩ := h2.blk
  refine (dnew_any hblk).mono ?_
  rintro e w' ⟨rb, X, rfl, k1, B, k3⟩
  refine ⟨rb, _, rfl, S, R, U, V, fun _ => False, X, ⟨h1.same B.size (fun g hg => B.block g (hg.elim (h1.sets.sl g) (h1.sets.rl g))), h2.below B, h3.below B, k1, fun g hg => ⟨fun q => (h5 g q).2.1 hg, fun q => (h6 g q).2.1 hg, fun q => q, fun q => ?_⟩, fun g hg => ⟨(h5 g hg).2.2, fun q => (h6 g q).2.2.2 hg, fun q => q, fun q => ?_⟩, fun g hg => ⟨(h6 g hg).2.2.1, fun q => ?_⟩, fun g hg => ⟨fun q => ?_, fun q => q⟩, fun g hg => ?_, below_size h7 h7.size B⟩, rfl⟩
  · have := k3 g q; have := h1.sets.sl g hg; omega
  · have := k3 g q; have := h2.lt g hg; omega
  · have := k3 g q; have := h3.lt g (.inl hg); omega
  · have := k3 g hg; have := h1.sets.rl g q; omega
  · rcases hg with q | q | q | q
    · exact h4 g q
    · exact (h5 g q).1
    · exact (h6 g q).1
    · have := k3 g q; have := h7.size; omega
theorem Zr.start {w : World} {S R : Nat → Prop} {b : Nat} {t : Tab} {u : RTab} (h : Rel2 t u) (hT : Tb w S R b t) (hk : u.k ≤ 12) : Zr t u (vw0 t.last) (dv0 u.end_) 0 := ⟨by rw [← h.rel.last]; exact VR.new _, AtR.new h hT, by omega, by simp [dv0]⟩
theorem Hb.tb {W0 w : World} {tb ub : Nat} {t : Tab} {u : RTab} (h : Hb W0 tb ub t u w) : ∃ S R, Tb w S R tb t := by
  obtain ⟨S, R, U, h1, _⟩ := h
  exact ⟨S, R, h1⟩
/-- A call's block. -/
def actB (m : Ac) : Obj := .cells #[.int .i64 m.kind, .int .i64 m.oop, .int .i64 m.o.cls, .slice m.sa m.sn m.sc, .slice m.ba m.bn m.bc, .int .i64 m.com, .slice m.ra m.rn m.rc] 40 (0, 0)
theorem act_cells {w : World} {g : Nat} {m : Ac} (h : w.heap[g]? = some (actB m)) : w.cell? ⟨g, 0, none⟩ = some (.int .i64 m.kind) ∧ w.cell? ⟨g, 1, none⟩ = some (.int .i64 m.oop) ∧ w.cell? ⟨g, 2, none⟩ = some (.int .i64 m.o.cls) ∧ w.cell? ⟨g, 3, none⟩ = some (.slice m.sa m.sn m.sc) ∧ w.cell? ⟨g, 4, none⟩ = some (.slice m.ba m.bn m.bc) ∧ w.cell? ⟨g, 5, none⟩ = some (.int .i64 m.com) ∧ w.cell? ⟨g, 6, none⟩ = some (.slice m.ra m.rn m.rc) := by
  unfold actB at h
  refine ⟨?_, ?_, ?_, ?_, ?_, ?_, ?_⟩ <;> rw [cell_of_row w g _ _ _ _ h] <;> rfl
/-- What an arm leaves. -/
def AftP (W0 : World) (tb ub rb xb : Nat) (m : Ac) (n : Nat) (v7 v11 : Value) (wx : World) : Prop := ∃ A t u b v r, v7 = .pointer (some ⟨b, 0, none⟩) ∧ v11 = .bool true ∧ Hx W0 A tb t ub u b v rb r wx ∧ Zr t u v r (n + 1) ∧ Bx A wx xb (actB m)
end Go.Proofs.YteomolihandfnaaGreat
namespace Go.Proofs.YteomolihandfnaaGreat
open Go.RowKit
set_option maxRecDepth 100000
section
variable {W0 w w' : World} {A A' : Nat → Prop} {tb ub b rb n : Nat} {t : Tab} {u : RTab} {v : Vw} {r : Dv} {sa : Option Addr} {sn sc : Nat} {ba : Option Addr} {bn bc : Nat} {vs : List (Int × Int)} {bs : List Int}
theorem Ro.not_act (h : Ro W0 A w sa sn sc ba bn bc vs bs) {xb : Nat} {m : Ac} (hx : Bx A w xb (actB m)) : ¬ ((Value.slice sa sn sc).ownBlock = some xb ∨ (Value.slice ba bn bc).ownBlock = some xb) := fun q => by
  obtain ⟨_, cur, e, hh, he⟩ := h.lt q
  rw [hx.blk] at hh
  unfold actB at hh
  cases hh
  rcases he with he | he <;> exact absurd he (by decide)
theorem Ro.fin (h : Ro W0 A w sa sn sc ba bn bc vs bs) (hx : Hx W0 A tb t ub u b v rb r w) (hf : Fr (fun g => (Value.slice sa sn sc).ownBlock = some g ∨ (Value.slice ba bn bc).ownBlock = some g) w w') : Hx W0 A tb t ub u b v rb r w' := hx.spoil hf (fun g hg => ⟨h.out g hg, (h.lt hg).1⟩)
theorem Zr.makeN (z : Zr t u v r n) (o : Ob) : dmakeN r o = makeN v o ∧ dmakeE r o = makeE v o := by
  unfold dmakeN dmakeE Go.Proofs.YteomolihandfnaaGreat.makeN makeE
  rw [z.vr.n]
  exact ⟨rfl, rfl⟩
theorem Zr.putE (z : Zr t u v r n) (k : Int) (o : Ob) : dputE r u k o = Go.Proofs.YteomolihandfnaaGreat.putE v t k o := by
  unfold dputE Go.Proofs.YteomolihandfnaaGreat.putE
  rw [z.pk k]
  cases peekR v t k <;> rfl
theorem hx2_step {S R U V Q X V2 Q2 : Nat → Prop} {b2 : Nat} {v2 v' : Vw} (h1 : Hs W0 S R U V Q X tb t ub u b v rb r w) (h2 : Hs W0 S R U V2 Q2 X tb t ub u b2 v2 rb r w) (h3 : ∀ g, V g → ¬ V2 g ∧ ¬ Q2 g) (k : VwP w V Q b tb v' w') : ∃ A', Hx2 W0 A' tb t ub u b v' b2 v2 rb r w' ∧ Nx (fun g => Un S R U V Q X g ∨ V2 g ∨ Q2 g) A' w w' := by
  obtain ⟨V', Q', k1, k2, k3, k4⟩ := k
  obtain ⟨h4, hn⟩ := hs_viewE h1 k1 k2 k3 k4
  have h5 : Hs W0 S R U V2 Q2 X tb t ub u b2 v2 rb r w' := h2.same k4.size (fun g hg => k4.block g (h2.lt hg) (fun q => by
    rcases hg with z | z | z | z | z | z
    · exact (h1.dS g z).2.1 q
    · exact (h1.dV g q).1 z
    · exact (h1.dU g z).2.1 q
    · exact (h3 g q).1 z
    · exact (h3 g q).2 z
    · exact (h1.dV g q).2 z)) h4.bel
  obtain ⟨_, _, _, m4, m5, _⟩ := h2.ltS
  refine ⟨_, ⟨S, R, U, V', Q', X, V2, Q2, h4, h5, fun g hg => ?_, rfl⟩, fun g hg => ?_, hn.2.mono (fun g _ hg => .inl hg)⟩
  · rcases k2.new g hg with z | z
    · exact h3 g z
    · exact ⟨fun q => by have := m4 g q; omega, fun q => by have := m5 g q; omega⟩
  · rcases hg with z | z
    · rcases hn.1 g z with y | y
      · exact .inl (.inl y)
      · exact .inr y
    · exact .inl (.inr z)
theorem hx2_put {b2 : Nat} {v2 : Vw} (h : Hx2 W0 A tb t ub u b v b2 v2 rb r w) (k : Int) {c : Int} (ho : ObX w b c sa sn sc ba bn bc vs bs) : Calls Tryz.prog 16 #[.pointer (some ⟨b, 0, none⟩), .int .i64 k, .agg #[.int .i64 c, .slice sa sn sc, .slice ba bn bc]] w fun e w' => ∃ ee A' v', e = .returned (.int .i64 ee) ∧ Hx2 W0 A' tb t ub u b v' b2 v2 rb r w' ∧ Nx A A' w w' := by
  obtain ⟨S, R, U, V, Q, X, V2, Q2, h1, h2, h3, rfl⟩ := h
  refine (put_anyX h1.hv h1.ht k ho).mono ?_
  rintro e w' ⟨rfl, kk⟩
  obtain ⟨A', q1, q2⟩ := hx2_step h1 h2 h3 kk
  exact ⟨_, A', _, rfl, q1, q2⟩
theorem hx2_make {b2 : Nat} {v2 : Vw} (h : Hx2 W0 A tb t ub u b v b2 v2 rb r w) {c : Int} (ho : ObX w b c sa sn sc ba bn bc vs bs) : Calls Tryz.prog 18 #[.pointer (some ⟨b, 0, none⟩), .agg #[.int .i64 c, .slice sa sn sc, .slice ba bn bc]] w fun e w' => ∃ ea ee A' v', e = .returned (.tuple #[.int .i64 ea, .int .i64 ee]) ∧ Hx2 W0 A' tb t ub u b v' b2 v2 rb r w' ∧ Nx A A' w w' := by
  obtain ⟨S, R, U, V, Q, X, V2, Q2, h1, h2, h3, rfl⟩ := h
  refine (make_anyX h1.hv ho).mono ?_
  rintro e w' ⟨rfl, kk⟩
  obtain ⟨A', q1, q2⟩ := hx2_step h1 h2 h3 kk
  exact ⟨_, _, A', _, rfl, q1, q2⟩
theorem hx2_read {b2 : Nat} {v2 : Vw} (h : Hx2 W0 A tb t ub u b v b2 v2 rb r w) (k : Int) : Calls Tryz.prog 13 #[.pointer (some ⟨b, 0, none⟩), .int .i64 k] w fun e w' => ∃ A' v', e = .returned (.tuple #[]) ∧ Hx2 W0 A' tb t ub u b v' b2 v2 rb r w' ∧ Nx A A' w w' := by
  obtain ⟨S, R, U, V, Q, X, V2, Q2, h1, h2, h3, rfl⟩ := h
  refine (read_anyQ h1.hv k).mono ?_
  rintro e w' ⟨rfl, V', k1, k2, k3⟩
  obtain ⟨A', q1, q2⟩ := hx2_step h1 h2 h3 ⟨V', Q, k1, k2, ⟨fun _ h => h, fun _ h => .inl h⟩, k3⟩
  exact ⟨A', _, rfl, q1, q2⟩
/-- A list of numbers that was told. -/
structure LsI (w : World) (base : Nat) (a : Option Addr) (n c : Nat) (ks : List Int) : Prop where
  row : w.ownsRow base 2 1 (.slice a n c) n (ks.map (Value.int .i64))
  ln : n = ks.length
  few : n ≤ 8192
theorem LsI.below {base : Nat} {a : Option Addr} {m c : Nat} {ks : List Int} (h : LsI w base a m c ks) (k : Below w.heap.size w w') : LsI w' base a m c ks := ⟨own_below h.row k, h.ln, h.few⟩
/-- The same, wherever it lies. -/
def LsJ (w : World) (a : Option Addr) (n c : Nat) (ks : List Int) : Prop := ∃ base, LsI w base a n c ks
theorem LsJ.below {a : Option Addr} {m c : Nat} {ks : List Int} (h : LsJ w a m c ks) (k : Below w.heap.size w w') : LsJ w' a m c ks := by
  obtain ⟨b, h⟩ := h
  exact ⟨b, h.below k⟩
theorem oops_len (v : Vw) (x y : Int) : (oopsL v x y).length ≤ 8192 := Nat.le_trans (List.length_filter_le _ _) (len8 _)
/-- The four lists of a view. -/
theorem hx_reads (h : Hx W0 A tb t ub u b v rb r w) (hy : KyV v) : Calls Tryz.prog 26 #[.pointer (some ⟨b, 0, none⟩)] w fun e w' => ∃ a m c, e = .returned (.slice a m c) ∧ LsI w' w.heap.size a m c (rdK v) ∧ Below w.heap.size w w' := by
  obtain ⟨S, R, U, V, Q, X, h1, rfl⟩ := h
  refine (reads_any h1.hv hy).mono ?_
  rintro e w' ⟨a, m, c, rfl, h2, h3, h4⟩
  exact ⟨a, m, c, rfl, ⟨h3, h2, by rw [h2]; exact len8 _⟩, h4⟩
theorem hx_writes (h : Hx W0 A tb t ub u b v rb r w) (hy : KyV v) : Calls Tryz.prog 28 #[.pointer (some ⟨b, 0, none⟩)] w fun e w' => ∃ a m c, e = .returned (.slice a m c) ∧ LsI w' w.heap.size a m c (oopsL v 1 4096) ∧ Below w.heap.size w w' := by
  obtain ⟨S, R, U, V, Q, X, h1, rfl⟩ := h
  refine (writes_any h1.hv hy).mono ?_
  rintro e w' ⟨a, m, c, rfl, h2, h3, h4⟩
  exact ⟨a, m, c, rfl, ⟨h3, h2, by rw [h2]; exact oops_len _ _ _⟩, h4⟩
theorem hx_news (h : Hx W0 A tb t ub u b v rb r w) (hy : KyV v) : Calls Tryz.prog 30 #[.pointer (some ⟨b, 0, none⟩)] w fun e w' => ∃ a m c, e = .returned (.slice a m c) ∧ LsI w' w.heap.size a m c (oopsL v 4097 8192) ∧ Below w.heap.size w w' := by
  obtain ⟨S, R, U, V, Q, X, h1, rfl⟩ := h
  refine (news_any h1.hv hy).mono ?_
  rintro e w' ⟨a, m, c, rfl, h2, h3, h4⟩
  exact ⟨a, m, c, rfl, ⟨h3, h2, by rw [h2]; exact oops_len _ _ _⟩, h4⟩
theorem hx_dreads (h : Hx W0 A tb t ub u b v rb r w) (z : VR v r) : Calls Tryz.prog 27 #[.pointer (some ⟨rb, 0, none⟩)] w fun e w' => ∃ a m c, e = .returned (.slice a m c) ∧ LsI w' w.heap.size a m c (rdK v) ∧ Below w.heap.size w w' := by
  obtain ⟨S, R, U, V, Q, X, h1, rfl⟩ := h
  refine (dreads_any h1.hd).mono ?_
  rintro e w' ⟨a, m, c, rfl, h2, h3, h4⟩
  rw [z.reads] at h2 h3
  exact ⟨a, m, c, rfl, ⟨h3, h2, by rw [h2]; exact len8 _⟩, h4⟩
theorem hx_dwrites (h : Hx W0 A tb t ub u b v rb r w) (z : VR v r) (a : Ask u r) : Calls Tryz.prog 29 #[.pointer (some ⟨rb, 0, none⟩)] w fun e w' => ∃ a m c, e = .returned (.slice a m c) ∧ LsI w' w.heap.size a m c (oopsL v 1 4096) ∧ Below w.heap.size w w' := by
  obtain ⟨S, R, U, V, Q, X, h1, rfl⟩ := h
  refine (dwrites_any h1.hd a.g a.gn).mono ?_
  rintro e w' ⟨a, m, c, rfl, h2, h3, h4⟩
  rw [z.writes] at h2 h3
  exact ⟨a, m, c, rfl, ⟨h3, h2, by rw [h2]; exact oops_len _ _ _⟩, h4⟩
theorem hx_dnews (h : Hx W0 A tb t ub u b v rb r w) (z : VR v r) (a : Ask u r) : Calls Tryz.prog 31 #[.pointer (some ⟨rb, 0, none⟩)] w fun e w' => ∃ a m c, e = .returned (.slice a m c) ∧ LsI w' w.heap.size a m c (oopsL v 4097 8192) ∧ Below w.heap.size w w' := by
  obtain ⟨S, R, U, V, Q, X, h1, rfl⟩ := h
  refine (dnews_any h1.hd a.n0).mono ?_
  rintro e w' ⟨a, m, c, rfl, h2, h3, h4⟩
  rw [z.news] at h2 h3
  exact ⟨a, m, c, rfl, ⟨h3, h2, by rw [h2]; exact oops_len _ _ _⟩, h4⟩
theorem ls_same {b1 b2 m1 m2 c1 c2 : Nat} {a1 a2 : Option Addr} {ks : List Int} (h1 : LsI w b1 a1 m1 c1 ks) (h2 : LsI w b2 a2 m2 c2 ks) : Calls Tryz.prog 25 #[.slice a1 m1 c1, .slice a2 m2 c2] w fun e w' => e = .returned (.bool true) ∧ Below w.heap.size w w' := by
  obtain rfl : m1 = m2 := h1.ln.trans h2.ln.symm
  exact lsame_yes h1.row h2.row h1.ln h1.few
theorem lj_same {m1 m2 c1 c2 : Nat} {a1 a2 : Option Addr} {ks : List Int} (h1 : LsJ w a1 m1 c1 ks) (h2 : LsJ w a2 m2 c2 ks) : Calls Tryz.prog 25 #[.slice a1 m1 c1, .slice a2 m2 c2] w fun e w' => e = .returned (.bool true) ∧ Below w.heap.size w w' := by
  obtain ⟨_, h1⟩ := h1
  obtain ⟨_, h2⟩ := h2
  exact ls_same h1 h2
/-- The changes that were told, by the program and by the document. -/
structure ChP (w : World) (lo hi : Nat) (a : Option Addr) (n c : Nat) (xs : List Ch) : Prop where
  own : ∃ ss : List Cs, w.ownsRow lo 96 5 (.slice a n c) ss.length (flatC ss) ∧ ss.map Cs.x = xs ∧ (∀ s ∈ ss, ElO w lo s) ∧ ss.Pairwise Apt ∧ ∀ s ∈ ss, ∀ g, Rws s g → g < hi
  ln : n = xs.length
  few : n ≤ 8192
structure ChD (w : World) (lo hi : Nat) (a : Option Addr) (n c : Nat) (xs : List Ch) : Prop where
  own : ∃ ss : List Cs, w.ownsRow lo 86 5 (.slice a n c) ss.length (flatC ss) ∧ ss.map Cs.x = xs ∧ (∀ s ∈ ss, El w s) ∧ ∀ s ∈ ss, ∀ g, Rws s g → lo ≤ g ∧ g < hi
  ln : n = xs.length
theorem El.rws {s : Cs} (h : El w s) {g : Nat} (hg : Rws s g) : g < w.heap.size := by
  rcases hg with q | q
  · exact (h.lt.1 g q).1
  · exact (h.lt.2 g q).1
theorem ChP.below {lo hi m c : Nat} {a : Option Addr} {xs : List Ch} (h : ChP w lo hi a m c xs) (k : Below w.heap.size w w') : ChP w' lo hi a m c xs := by
  obtain ⟨ss, h1, h2, h3, h4, h5⟩ := h.own
  exact ⟨⟨ss, own_below h1 k, h2, fun s hs => (h3 s hs).same (fun g hg => by obtain ⟨_, cur, e, hh, _⟩ := (h3 s hs).rows hg; exact k.block g (lt_of_block' hh)), h4, h5⟩, h.ln, h.few⟩
theorem ChD.below {lo hi m c : Nat} {a : Option Addr} {xs : List Ch} (h : ChD w lo hi a m c xs) (k : Below w.heap.size w w') : ChD w' lo hi a m c xs := by
  obtain ⟨ss, h1, h2, h3, h4⟩ := h.own
  exact ⟨⟨ss, own_below h1 k, h2, fun s hs => (h3 s hs).below k, h4⟩, h.ln⟩
theorem hx_changed (h : Hx W0 A tb t ub u b v rb r w) (hy : KyV v) : Calls Tryz.prog 33 #[.pointer (some ⟨b, 0, none⟩)] w fun e w' => ∃ a m c, e = .returned (.slice a m c) ∧ ChP w' w.heap.size w'.heap.size a m c (chaL v) ∧ Below w.heap.size w w' := by
  obtain ⟨S, R, U, V, Q, X, h1, rfl⟩ := h
  refine (changed_any h1.hv hy).mono ?_
  rintro e w' ⟨a, m, c, rfl, h2, h4⟩
  have hm : m = (chaL v).length := by obtain ⟨_, _, _, e, k⟩ := h2.shape; cases e; exact k
  obtain ⟨ss, q1, q2, q3, q4⟩ := h2
  exact ⟨a, m, c, rfl, ⟨⟨ss, q1, q2, q3, q4, fun s hs g hg => by obtain ⟨_, cur, e, hh, _⟩ := (q3 s hs).rows hg; exact lt_of_block' hh⟩, hm, by rw [hm]; unfold chaL; rw [List.length_map]; exact oops_len _ _ _⟩, h4⟩
theorem hx_dchanged (h : Hx W0 A tb t ub u b v rb r w) (z : VR v r) (a : Ask u r) : Calls Tryz.prog 34 #[.pointer (some ⟨rb, 0, none⟩)] w fun e w' => ∃ a m c, e = .returned (.slice a m c) ∧ ChD w' w.heap.size w'.heap.size a m c (chaL v) ∧ Below w.heap.size w w' := by
  obtain ⟨S, R, U, V, Q, X, h1, rfl⟩ := h
  refine (dchanged_in h1.hd a.g a.gn).mono ?_
  rintro e w' ⟨a, m, c, rfl, h2, h4⟩
  have hm : m = (chgL r).length := by obtain ⟨_, _, _, e, k⟩ := h2.ownC.shape'; cases e; exact k
  have hc : chgL r = chaL v := z.changed
  rw [hc] at h2 hm
  obtain ⟨ss, q1, q2, q3, _⟩ := h2
  exact ⟨a, m, c, rfl, ⟨⟨ss, q1, q2, fun s hs => (q3 s hs).el, fun s hs g hg => ⟨hg.elim ((q3 s hs).v g) ((q3 s hs).b g), (q3 s hs).el.rws hg⟩⟩, hm⟩, h4⟩
theorem ch_same {W1 : World} {l1 h1 l2 h2 m1 m2 c1 c2 : Nat} {a1 a2 : Option Addr} {xs : List Ch} (p : ChP w l1 h1 a1 m1 c1 xs) (d : ChD w l2 h2 a2 m2 c2 xs) (hap : h1 ≤ l2 ∨ h2 ≤ l1) (hb : Below W1.heap.size W1 w) (hl : W1.heap.size ≤ l1) : Calls Tryz.prog 32 #[.slice a1 m1 c1, .slice a2 m2 c2] w fun e w' => e = .returned (.bool true) ∧ Below W1.heap.size W1 w' := by
  obtain rfl : m1 = m2 := p.ln.trans d.ln.symm
  obtain ⟨ss, p1, p2, p3, p4, p5⟩ := p.own
  obtain ⟨tt, d1, d2, d3, d4⟩ := d.own
  refine (changes_yes p1 d1 (p2.trans d2.symm) p3 d3 p4 (fun s hs q hq g g1 g2 => ?_) (by rw [p.ln, ← p2, List.length_map]) p.few).mono ?_
  · have := p5 s hs g g1
    have := d4 q hq g g2
    have := ((p3 s hs).rows g1).1
    omega
  · rintro e w' ⟨rfl, hf⟩
    exact ⟨rfl, hf.below hb hb.size (fun g hg => Nat.le_trans hl hg)⟩
end
end Go.Proofs.YteomolihandfnaaGreat
