/- Both tables together. -/
import Derived.Test.YtajdelinfkodbaaDtw
import Derived.Test.YtajdelinfkodbaaDal
import Derived.Test.YtajdelinfkodbaaAp1
import Derived.Test.YtajdelinfkodbaaFgt
namespace Go.Proofs.Ytajdelinfkodbaa
open Go.RowKit
set_option maxRecDepth 100000
/-- The frame of a call. -/
def Nx (A A' : Nat → Prop) (w w' : World) : Prop := (∀ g, A' g → A g ∨ (w.heap.size ≤ g ∧ g < w'.heap.size)) ∧ Fr A w w'
def Un (S R U : Nat → Prop) (g : Nat) : Prop := S g ∨ R g ∨ U g
structure Ht (W0 : World) (S R U : Nat → Prop) (tb : Nat) (t : Tab) (ub : Nat) (u : RTf) (k : Nat) (w : World) : Prop where
  ht : Tb w S R tb t
  hu : RTb w U ub u k
  dS : ∀ g, S g → ¬ U g
  dU : ∀ g, U g → ¬ R g
  lo : ∀ g, S g ∨ U g → W0.heap.size ≤ g
  bel : Below W0.heap.size W0 w
  rel : RelP t u
/-- All of it, the blocks in one set. -/
def Hx (W0 : World) (A : Nat → Prop) (tb : Nat) (t : Tab) (ub : Nat) (u : RTf) (k : Nat) (w : World) : Prop := ∃ S R U, Ht W0 S R U tb t ub u k w ∧ A = Un S R U
/-- The two may say otherwise for a while. -/
def Hy (W0 : World) (A : Nat → Prop) (tb : Nat) (t : Tab) (ub : Nat) (u : RTf) (k : Nat) (w : World) : Prop := ∃ S R U, Tb w S R tb t ∧ RTb w U ub u k ∧ (∀ g, S g → ¬ U g) ∧ (∀ g, U g → ¬ R g) ∧ (∀ g, S g ∨ U g → W0.heap.size ≤ g) ∧ Below W0.heap.size W0 w ∧ A = Un S R U
section
variable {W0 w w' : World} {A A' : Nat → Prop} {tb ub k : Nat} {t : Tab} {u : RTf}
theorem Nx.refl (A : Nat → Prop) (w : World) : Nx A A w w := ⟨fun _ h => .inl h, Fr.refl _ _⟩
theorem Nx.below (k : Below w.heap.size w w') : Nx A A w w' := ⟨fun _ h => .inl h, Fr.of_below k⟩
theorem Hx.hy (h : Hx W0 A tb t ub u k w) : Hy W0 A tb t ub u k w := by
  obtain ⟨S, R, U, q, e⟩ := h
  exact ⟨S, R, U, q.ht, q.hu, q.dS, q.dU, q.lo, q.bel, e⟩
theorem Hy.hx (h : Hy W0 A tb t ub u k w) (r : RelP t u) : Hx W0 A tb t ub u k w := by
  obtain ⟨S, R, U, h1, h2, h3, h4, h5, h6, e⟩ := h
  exact ⟨S, R, U, ⟨h1, h2, h3, h4, h5, h6, r⟩, e⟩
theorem Hx.rel (h : Hx W0 A tb t ub u k w) : RelP t u := by obtain ⟨S, R, U, q, e⟩ := h; exact q.rel
theorem Hy.lt (h : Hy W0 A tb t ub u k w) {g : Nat} (hg : A g) : g < w.heap.size := by
  obtain ⟨S, R, U, h1, h2, h3, h4, h5, h6, rfl⟩ := h
  rcases hg with q | q | q
  · exact h1.sets.sl g q
  · exact h1.sets.rl g q
  · exact h2.lt g q
theorem Hy.bel (h : Hy W0 A tb t ub u k w) : Below W0.heap.size W0 w := by
  obtain ⟨S, R, U, h1, h2, h3, h4, h5, h6, rfl⟩ := h
  exact h6
theorem Hy.same (h : Hy W0 A tb t ub u k w) (hsz : w.heap.size ≤ w'.heap.size) (hk : ∀ g, A g → w'.heap[g]? = w.heap[g]?) (hb : Below W0.heap.size W0 w') : Hy W0 A tb t ub u k w' := by
  obtain ⟨S, R, U, h1, h2, h3, h4, h5, h6, rfl⟩ := h
  exact ⟨S, R, U, h1.same hsz (fun g hg => hk g (hg.elim .inl (fun q => .inr (.inl q)))), h2.same hsz (fun g hg => hk g (.inr (.inr hg))), h3, h4, h5, hb, rfl⟩
theorem Hy.below (h : Hy W0 A tb t ub u k w) (hb : Below w.heap.size w w') : Hy W0 A tb t ub u k w' := h.same hb.size (fun g hg => hb.block g (h.lt hg)) (below_size h.bel h.bel.size hb)
theorem Hx.below (h : Hx W0 A tb t ub u k w) (hb : Below w.heap.size w w') : Hx W0 A tb t ub u k w' := (h.hy.below hb).hx h.rel
theorem Hx.lt (h : Hx W0 A tb t ub u k w) {g : Nat} (hg : A g) : g < w.heap.size := h.hy.lt hg
theorem Hx.bel (h : Hx W0 A tb t ub u k w) : Below W0.heap.size W0 w := h.hy.bel
theorem Hx.spoil {T : Nat → Prop} (h : Hx W0 A tb t ub u k w) (hf : Fr T w w') (hT : ∀ g, T g → ¬ A g ∧ W0.heap.size ≤ g) : Hx W0 A tb t ub u k w' := (h.hy.same hf.size (fun g hg => hf.block g (h.lt hg) (fun q => (hT g q).1 hg)) (hf.below h.bel h.bel.size (fun g hg => (hT g hg).2))).hx h.rel
/-- What a call on the program's table leaves. -/
theorem hy_tab {t' : Tab} (h : Hy W0 A tb t ub u k w) {S' R' : Nat → Prop} : ∀ {S R U : Nat → Prop}, Tb w S R tb t → RTb w U ub u k → (∀ g, S g → ¬ U g) → (∀ g, U g → ¬ R g) → (∀ g, S g ∨ U g → W0.heap.size ≤ g) → A = Un S R U → Tb w' S' R' tb t' → Grow S S' w w' → Grow R R' w w' → Fr S w w' → Hy W0 (Un S' R' U) tb t' ub u k w' ∧ Nx A (Un S' R' U) w w' := by
  intro S R U h1 h2 h3 h4 h5 e k1 k2 k3 k4
  subst e
  have nS : ∀ g, S' g → S g ∨ w.heap.size ≤ g := fun g hg => (k2.new g hg).imp_right (·.1)
  have nR : ∀ g, R' g → R g ∨ w.heap.size ≤ g := fun g hg => (k3.new g hg).imp_right (·.1)
  refine ⟨⟨S', R', U, k1, h2.same k4.size (fun g hg => k4.block g (h2.lt g hg) (fun q => h3 g q hg)), fun g hg q => ?_, fun g hg q => ?_, fun g hg => ?_, k4.below h.bel h.bel.size (fun g hg => h5 g (.inl hg)), rfl⟩, fun g hg => ?_, k4.mono (fun g _ q => .inl q)⟩
  · rcases nS g hg with z | z
    · exact h3 g z q
    · have := h2.lt g q; omega
  · rcases nR g q with z | z
    · exact h4 g hg z
    · have := h2.lt g hg; omega
  · rcases hg with q | q
    · rcases nS g q with z | z
      · exact h5 g (.inl z)
      · exact Nat.le_trans h.bel.size z
    · exact h5 g (.inr q)
  · rcases hg with q | q | q
    · exact (k2.new g q).imp .inl id
    · exact (k3.new g q).imp (fun z => .inr (.inl z)) id
    · exact .inl (.inr (.inr q))
/-- What a call on the document's table leaves. -/
theorem hy_rtab {u' : RTf} {k' : Nat} (h : Hy W0 A tb t ub u k w) {U' : Nat → Prop} : ∀ {S R U : Nat → Prop}, Tb w S R tb t → RTb w U ub u k → (∀ g, S g → ¬ U g) → (∀ g, U g → ¬ R g) → (∀ g, S g ∨ U g → W0.heap.size ≤ g) → A = Un S R U → RTb w' U' ub u' k' → Grow U U' w w' → Fr U w w' → Hy W0 (Un S R U') tb t ub u' k' w' ∧ Nx A (Un S R U') w w' := by
  intro S R U h1 h2 h3 h4 h5 e k1 k2 k4
  subst e
  have nU : ∀ g, U' g → U g ∨ w.heap.size ≤ g := fun g hg => (k2.new g hg).imp_right (·.1)
  refine ⟨⟨S, R, U', h1.same k4.size (fun g hg => k4.block g (h1.sets.lt hg) (fun q => hg.elim (fun z => h3 g z q) (fun z => h4 g q z))), k1, fun g hg q => ?_, fun g hg q => ?_, fun g hg => ?_, k4.below h.bel h.bel.size (fun g hg => h5 g (.inr hg)), rfl⟩, fun g hg => ?_, k4.mono (fun g _ q => .inr (.inr q))⟩
  · rcases nU g q with z | z
    · exact h3 g hg z
    · have := h1.sets.sl g hg; omega
  · rcases nU g hg with z | z
    · exact h4 g z q
    · have := h1.sets.rl g q; omega
  · rcases hg with q | q
    · exact h5 g (.inl q)
    · rcases nU g q with z | z
      · exact h5 g (.inr z)
      · exact Nat.le_trans h.bel.size z
  · rcases hg with q | q | q
    · exact .inl (.inl q)
    · exact .inl (.inr (.inl q))
    · exact (k2.new g q).imp (fun z => .inr (.inr z)) id
def HyN (W0 : World) (A : Nat → Prop) (w : World) (tb : Nat) (t : Tab) (ub : Nat) (u : RTf) (k : Nat) (w' : World) : Prop := ∃ A', Hy W0 A' tb t ub u k w' ∧ Nx A A' w w'
def HxN (W0 : World) (A : Nat → Prop) (w : World) (tb : Nat) (t : Tab) (ub : Nat) (u : RTf) (k : Nat) (w' : World) : Prop := ∃ A', Hx W0 A' tb t ub u k w' ∧ Nx A A' w w'
theorem hy_apply (h : Hy W0 A tb t ub u k w) (c : Int) {ra : Option Addr} {n cap base : Nat} {xs : List Ch} (hr : OwnC w base 51 (.slice ra n cap) xs) :
    Calls Try.prog 11 #[.pointer (some ⟨tb, 0, none⟩), .agg #[.int .i64 c, .slice ra n cap]] w fun e w' => e = .returned (.int .i64 (applyE t c xs)) ∧ HyN W0 A w tb (applyT t c xs) ub u k w' := by
  obtain ⟨S, R, U, h1, h2, h3, h4, h5, h6, e0⟩ := id h
  refine (apply_any h1 c hr).mono ?_
  rintro e w' ⟨rfl, S', R', k1, k2, k3, k4⟩
  exact ⟨rfl, _, hy_tab h h1 h2 h3 h4 h5 e0 k1 k2 k3 k4⟩
theorem hy_rapply (h : Hy W0 A tb t ub u k w) (hk : k ≤ 1000) (c : Int) {ra : Option Addr} {n cap : Nat} {xs : List Ch} (hr : IsC W0 ra n cap xs) :
    Calls Try.prog 12 #[.pointer (some ⟨ub, 0, none⟩), .agg #[.int .i64 c, .slice ra n cap]] w fun e w' => e = .returned (.int .i64 (rapplyE u c xs)) ∧ HyN W0 A w tb t ub (rapplyT u c xs) (k + 1) w' := by
  obtain ⟨S, R, U, h1, h2, h3, h4, h5, h6, e0⟩ := id h
  refine (rapply_any h2 c hr h6 (fun g hg => h5 g (.inr hg)) hk).mono ?_
  rintro e w' ⟨rfl, U', k1, k2, k4⟩
  exact ⟨rfl, _, hy_rtab h h1 h2 h3 h4 h5 e0 k1 k2 k4⟩
theorem hy_forget (h : Hy W0 A tb t ub u k w) (c : Int) : Calls Try.prog 16 #[.pointer (some ⟨tb, 0, none⟩), .int .i64 c] w fun e w' => e = .returned (.int .i64 (forgetE t c)) ∧ HyN W0 A w tb (forgetT t c) ub u k w' := by
  obtain ⟨S, R, U, h1, h2, h3, h4, h5, h6, e0⟩ := id h
  refine (forget_any h1 c).mono ?_
  rintro e w' ⟨rfl, S', R', k1, k2, k3, k4⟩
  exact ⟨rfl, _, hy_tab h h1 h2 h3 h4 h5 e0 k1 k2 k3 k4⟩
theorem hy_rforget (h : Hy W0 A tb t ub u k w) (ho : OkW u) (hk : k ≤ 1000) (c : Int) : Calls Try.prog 17 #[.pointer (some ⟨ub, 0, none⟩), .int .i64 c] w fun e w' => e = .returned (.int .i64 (rforgetE u c)) ∧ HyN W0 A w tb t ub (rforgetT u c) k w' := by
  obtain ⟨S, R, U, h1, h2, h3, h4, h5, h6, e0⟩ := id h
  refine (rforget_any h2 ho hk c).mono ?_
  rintro e w' ⟨rfl, U', k1, k2, k4⟩
  exact ⟨rfl, _, hy_rtab h h1 h2 h3 h4 h5 e0 k1 k2 k4⟩
theorem Hy.good (h : Hy W0 A tb t ub u k w) : GoodM t.m t.last ∧ 0 ≤ t.first ∧ t.first ≤ t.last ∧ t.last ≤ 1099511627776 := by
  obtain ⟨S, R, U, h1, h2, h3, h4, h5, h6, e0⟩ := id h
  exact ⟨h1.good, h1.first0⟩
/-- The document's block. -/
theorem Hy.ublk (h : Hy W0 A tb t ub u k w) : ∃ bv lv wv, w.heap[ub]? = some (rtB u.from_ u.end_ bv lv wv) := by
  obtain ⟨S, R, U, h1, h2, h3, h4, h5, h6, e0⟩ := id h
  obtain ⟨bv, lv, wv, q, _⟩ := h2.blk
  exact ⟨bv, lv, wv, q⟩
/-- A copy, while the old one is still there. -/
def CpQ (W0 : World) (A : Nat → Prop) (tb : Nat) (t : Tab) (ub : Nat) (u : RTf) (k cb : Nat) (w w' : World) : Prop := ∃ S R U S2, Tb w S R tb t ∧ RTb w U ub u k ∧ (∀ g, S g → ¬ U g) ∧ (∀ g, U g → ¬ R g) ∧ (∀ g, S g ∨ U g → W0.heap.size ≤ g) ∧ Below W0.heap.size W0 w ∧ A = Un S R U ∧ (∀ w2, KeepC w S R tb t S2 w' w2 → Tb w2 S2 (fun g => S g ∨ R g) cb t) ∧ (∀ g, S2 g → w.heap.size ≤ g) ∧ Below w.heap.size w w'
theorem hx_copy (h : Hx W0 A tb t ub u k w) : Calls Try.prog 18 #[.pointer (some ⟨tb, 0, none⟩)] w fun e w' => ∃ cb, e = .returned (.pointer (some ⟨cb, 0, none⟩)) ∧ CpQ W0 A tb t ub u k cb w w' ∧ Below w.heap.size w w' := by
  obtain ⟨S, R, U, h1, h2, h3, h4, h5, h6, e0⟩ := h.hy
  refine (copy_tabK h1).mono ?_
  rintro e w' ⟨cb, S2, rfl, k1, k2, k3⟩
  exact ⟨cb, rfl, ⟨S, R, U, S2, h1, h2, h3, h4, h5, h6, e0, k1, k2, k3⟩, k3⟩
theorem CpQ.below {cb : Nat} {w2 : World} (h : CpQ W0 A tb t ub u k cb w w') (hb : Below w'.heap.size w' w2) : CpQ W0 A tb t ub u k cb w w2 := by
  obtain ⟨S, R, U, S2, h1, h2, h3, h4, h5, h6, e0, k1, k2, k3⟩ := h
  have hc := k1 w' (KeepC.refl k3)
  refine ⟨S, R, U, S2, h1, h2, h3, h4, h5, h6, e0, fun w4 q => k1 w4 ⟨Nat.le_trans hb.size q.size, fun g hg => ?_, fun mb F hb0 hM k c sv hk => ?_⟩, k2, below_size k3 k3.size hb⟩
  · refine (q.keep g hg).trans (hb.block g ?_)
    rcases hg with z | z
    · exact hc.sets.sl g z
    · exact Nat.lt_of_lt_of_le (h1.sets.rl g z) k3.size
  · have hr := (hM.row hk).2
    have p := q.rows mb F hb0 hM k c sv hk
    exact ⟨(PreV.of_below hb (fun x hx => Nat.lt_of_lt_of_le (hr.block hx).2.1 k3.size)).trans p.pre, p.row⟩
theorem cpq_apply {cb : Nat} (h : CpQ W0 A tb t ub u k cb w w') (hrel : RelP t u) (c : Int) {ra : Option Addr} {n cap base : Nat} {xs : List Ch} (hr : OwnC w' base 51 (.slice ra n cap) xs) (hn : n ≤ 1) :
    Calls Try.prog 11 #[.pointer (some ⟨tb, 0, none⟩), .agg #[.int .i64 c, .slice ra n cap]] w' fun e w2 => (∃ v, e = .returned v) ∧ HxN W0 A w cb t ub u k w2 := by
  obtain ⟨S, R, U, S2, h1, h2, h3, h4, h5, h6, e0, k1, k2, k3⟩ := h
  subst e0
  have h1' := h1.below k3
  have hc := k1 w' (KeepC.refl k3)
  refine (apply1_any h1' c hr hn).mono ?_
  rintro e w2 ⟨⟨v, rfl⟩, hf, hrows⟩
  have hsz := hf.size
  have KC : KeepC w S R tb t S2 w' w2 := by
    refine ⟨hf.size, fun g hg => hf.block g ?_ ?_, fun mb F hb0 hM q c sv hq => ?_⟩
    · rcases hg with z | z
      · exact hc.sets.sl g z
      · exact h1'.sets.rl g z
    · rcases hg with z | z
      · intro hS; have := h1.sets.sl g hS; have := k2 g z; omega
      · exact h1.sets.dis g z
    · exact hrows mb F ((k3.block tb (lt_of_block hb0)).trans hb0) (hM.same h1.sets (fun _ h => h) (fun _ _ h => h) (fun _ h => h) (fun g hg => k3.block g (h1.sets.lt hg))) q c sv hq
  have hc2 := k1 w2 KC
  have hB2 : Below W0.heap.size W0 w2 := hf.below (below_size h6 h6.size k3) (Nat.le_trans h6.size k3.size) (fun g hg => h5 g (.inl hg))
  refine ⟨⟨_, rfl⟩, Un S2 (fun g => S g ∨ R g) U, ⟨S2, _, U, ⟨hc2, (h2.below k3).same hf.size (fun g hg => hf.block g ((h2.below k3).lt g hg) (fun q => h3 g q hg)), fun g hg q => ?_, fun g hg q => ?_, fun g hg => ?_, hB2, hrel⟩, rfl⟩, fun g hg => ?_, ?_⟩
  · have := h2.lt g q; have := k2 g hg; omega
  · rcases q with q | q
    · exact h3 g q hg
    · exact h4 g hg q
  · rcases hg with q | q
    · exact Nat.le_trans h6.size (k2 g q)
    · exact h5 g (.inr q)
  · rcases hg with q | (q | q) | q
    · exact .inr ⟨k2 g q, Nat.lt_of_lt_of_le (hc.sets.sl g q) hf.size⟩
    · exact .inl (.inl q)
    · exact .inl (.inr (.inl q))
    · exact .inl (.inr (.inr q))
  · exact ((Fr.of_below (S := Un S R U) k3).trans (hf.mono (S' := Un S R U) (fun g _ q => .inl q)) (fun _ _ q => q))
end
end Go.Proofs.Ytajdelinfkodbaa
