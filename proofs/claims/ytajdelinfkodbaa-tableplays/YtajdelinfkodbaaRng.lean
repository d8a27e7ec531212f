/- A range over a function: all that the iterator reads is said by the caller's own word between two rounds. -/
import Derived.RangeFuncNested
import Derived.RangeFuncBound
import Derived.RangeFuncCalls
import Derived.RangeFuncLeaves
namespace Go.Proofs.Ytajdelinfkodbaa
open Go.RowKit
variable {F : Fence} {n : Nat} {P : Program}
/-- All cells from a block on are kept. -/
def Kc (B : Nat) (W W' : World) : Prop := ∀ (k : Nat) (cur : Array Value) (e : Nat), B ≤ k → W.heap[k]? = some (.cells cur e (0, 0)) → W'.heap[k]? = W.heap[k]?
theorem Kc.refl (B : Nat) (W : World) : Kc B W W := fun _ _ _ _ _ => rfl
theorem Kc.trans {B : Nat} {X Y Z : World} (h : Kc B X Y) (k : Kc B Y Z) : Kc B X Z := fun i cur e hB hi => (k i cur e hB ((h i cur e hB hi).trans hi)).trans (h i cur e hB hi)
theorem Kc.up {B B' : Nat} {X Y : World} (h : Kc B X Y) (hB : B ≤ B') : Kc B' X Y := fun i cur e hi hh => h i cur e (Nat.le_trans hB hi) hh
theorem Kc.putObj {B l : Nat} {W : World} {o o' : Obj} (hl : W.heap[l]? = some o) (ho : o.isCells = false) : Kc B W (W.putObj l o') := fun k cur e _ hh => World.putObj_heap_other (fun q => by
  subst q
  rw [hl] at hh
  cases hh
  cases ho)
theorem Kc.of_below {B N : Nat} {W W' : World} (h : Below N W W') (hN : W.heap.size ≤ N) : Kc B W W' := fun k _ _ _ hh => h.block k (Nat.lt_of_lt_of_le (Array.getElem?_eq_some_iff.1 hh).1 hN)
/-- An iterator: V is what it reads, said by whatever J the caller keeps between two rounds; Ok is what comes next. -/
def SeqV {α : Type} (F : Fence) (n : Nat) (P : Program) (g : Nat) (lb : Array Value) (encs : α → Array Value) (V : List α → World → Prop) (Ok : List α → α → Prop) (S Sp : List α → Prop) : Prop :=
  ∀ (l : Nat) (J Jx : List α → World → Prop) (W : World), OwnFrom W.heap.size J → OwnFrom W.heap.size Jx → (∀ pre W1, J pre W1 → V pre W1) →
    (∀ pre x W1, J pre W1 → Ok pre x → YieldAt F (n - 1) P l (encs x) W1 fun e W' => (e = .returned (.bool true) ∧ J (pre ++ [x]) W' ∧ Kc W.heap.size W1 W') ∨ (e = .returned (.bool false) ∧ Jx (pre ++ [x]) W')) →
    J [] W →
    CallsIn F n P g (#[.func (.yield l) #[] #[]] ++ lb) W fun e W' => (∃ v, e = .returned v) ∧ ((∃ xs, S xs ∧ J xs W') ∨ (∃ pre, Sp pre ∧ Jx pre W'))
/-- How a round's body may be left. -/
def PostV {α : Type} (B : Nat) (I : List α → World → Prop) (Ix : Code → List α → World → Prop) (xs : List α) (W : World) : Exit → Act → World → Prop
  | .normal, _, W' => KeepsFrom B W W' ∧ Kc B W W' ∧ I xs W'
  | .ret, _, W' => KeepsFrom B W W' ∧ Ix .ret xs W'
  | .exit id, _, W' => KeepsFrom B W W' ∧ Ix (.exit id) xs W'
  | .goto t, _, W' => KeepsFrom B W W' ∧ Ix (.goto t) xs W'
  | _, _, _ => False
theorem ownFrom_at {α : Type} {B k : Nat} {o : Obj} (hk : k < B) : OwnFrom B (fun (_ : α) (W : World) => W.heap[k]? = some o) := by
  intro _ W W' row h hg hr
  refine (hg.block k (Array.getElem?_eq_some_iff.1 h).1 (fun e => ?_)).trans h
  have := (hr k e.symm).1
  omega
theorem ownFrom_up {α : Type} {B B' : Nat} {I : α → World → Prop} (h : OwnFrom B I) (hB : B ≤ B') : OwnFrom B' I := fun s W W' row hs hg hr => h s W W' row hs hg (fun r e => ⟨Nat.le_trans hB (hr r e).1, (hr r e).2⟩)
set_option maxHeartbeats 1000000 in
theorem rangeV {α : Type} {g : Operand} {ps : Array Tmp} {assign body : Code} {Q : Exit → Act → World → Prop} {a : Act} {w : World}
    (hro : F.round = none) (h1 : 1 ≤ n) {gf : Nat} {lb : Array Value} (hg : a.eval g = .func (.func gf) #[] lb) (hFg : F.fn gf) (eg : ∀ args w, (callFunc gf args).run P w = .ok (.enter gf args) w)
    {encs : α → Array Value} {V : List α → World → Prop} {Ok : List α → α → Prop} {S Sp : List α → Prop} (hseq : SeqV F (n - 1) P gf lb encs V Ok S Sp) (hps : ∀ x, (encs x).size = ps.size)
    (I : List α → World → Prop) (Ix : Code → List α → World → Prop) (hI : OwnFrom w.heap.size I) (hIx : ∀ c, OwnFrom w.heap.size (Ix c)) (hV : ∀ pre W, I pre W → V pre W) (h0 : I [] w)
    (Ax : α → Act → World → Prop) (hAx : ∀ x a', OwnFrom w.heap.size (fun (_ : Unit) W => Ax x a' W))
    (hassign : ∀ (l : Nat) (pre : List α) (x : α) (W : World) (K : Act → World → Prop), I pre W → Ok pre x → (∀ a' W', KeepsFrom w.heap.size W W' → Kc w.heap.size W W' → I pre W' → Ax x a' W' → K a' W') →
      assign.wpIn (F.inRound l) (n - 1 - 1) P (Exit.then K (fun _ _ _ => False)) { tmps := (ps.zip (encs x)).foldl (fun t (p, v) => t.setIfInBounds p v) a.tmps, defers := [] } W)
    (hbody : ∀ (l : Nat) (pre : List α) (x : α) (a' : Act) (W : World), I pre W → Ok pre x → Ax x a' W → body.wpIn (F.inRound l) (n - 1 - 1) P (PostV w.heap.size I Ix (pre ++ [x]) W) a' W)
    (hdone : ∀ (D : Nat) (xs : List α) (W : World), w.heap.size ≤ D → S xs → I xs W → W.heap[D]? = some (.deferred (some [])) → Q .normal { a with defers := { target := .collected D, args := #[] } :: a.defers } W)
    (hstop : ∀ (D : Nat) (c : Code) (pre : List α) (W : World), w.heap.size ≤ D → Sp pre → Ix c pre W → W.heap[D]? = some (.deferred (some [])) → c.wpIn F n P Q { a with defers := { target := .collected D, args := #[] } :: a.defers } W) :
    (Code.rangeFunc g ps assign body).wpIn F n P Q a w := by
  refine wpIn_rangeFunc ?_
  intro fn hfn
  rw [hro]
  generalize hB : w.heap.size = B at *
  obtain ⟨lp, hlp⟩ : ∃ lp : LoopState → Option Code → Loop, lp = fun st pe => { state := st, pending := pe, fn, tmps := a.tmps, params := ps, assign, body, defers := B } := ⟨_, rfl⟩
  obtain ⟨Wl, hWl⟩ : ∃ Wl, (w.alloc (.deferred (some []))).alloc (.loop (lp .ready none)) = Wl := ⟨_, rfl⟩
  have sz : Wl.heap.size = B + 2 := by rw [← hWl]; simp; omega
  have rec1 : Wl.heap[B + 1]? = some (.loop (lp .ready none)) := by
    have := World.alloc_heap_new (w.alloc (.deferred (some []))) (.loop (lp .ready none))
    rw [World.size_alloc, hB] at this
    rw [← hWl]
    exact this
  have def1 : Wl.heap[B]? = some (.deferred (some [])) := by
    have := World.alloc_heap_new w (.deferred (some []))
    rw [hB] at this
    rw [← hWl]
    exact (Below.heap_alloc _ _ _ (by simp; omega)).trans this
  refine ⟨B + 1, [{ target := .collected B, args := #[] }], Wl, { target := .fn (.func gf) lb, args := #[.func (.yield (B + 1)) #[] #[]] }, Wl, gf, #[.func (.yield (B + 1)) #[] #[]] ++ lb, Wl, ?_, ?_, ?_, ?_, fun _ => h1, ?_⟩
  · have := run_enterLoop_outer (P := P) (w := w) fn a.tmps ps assign body
    rw [hB] at this
    rw [← hWl, hlp]
    exact this
  · simp only [resolve, hg]
    simp [go_sem]
  · intro f' hf'
    simp [Target.leads] at hf'
    subst hf'
    exact hFg
  · simp [invoke, go_sem, eg]
  · have seq := hseq (B + 1) (fun pre W => I pre W ∧ W.heap[B + 1]? = some (.loop (lp .ready none)) ∧ W.heap[B]? = some (.deferred (some [])))
      (fun pre W => ∃ c, Ix c pre W ∧ W.heap[B + 1]? = some (.loop (lp .done (some c))) ∧ W.heap[B]? = some (.deferred (some []))) Wl
      ((ownFrom_up hI (by omega)).and ((ownFrom_at (by omega)).and (ownFrom_at (by omega))))
      (fun s W W' row hs hg' hr => by
        obtain ⟨c, q1, q2, q3⟩ := hs
        exact ⟨c, (ownFrom_up (B' := Wl.heap.size) (hIx c) (by omega)) s W W' row q1 hg' hr, ownFrom_at (α := List α) (B := Wl.heap.size) (by omega) s W W' row q2 hg' hr, ownFrom_at (α := List α) (B := Wl.heap.size) (by omega) s W W' row q3 hg' hr⟩)
      (fun pre W h => hV pre W h.1)
      ?_ ⟨by rw [← hWl]; exact hI.alloc _ (hI.alloc _ h0), rec1, def1⟩
    · refine seq.mono ?_
      rintro e W2 ⟨⟨v, rfl⟩, (⟨xs, hS, hi, hl, hk⟩ | ⟨pre, hSp, c, hi, hl, hk⟩)⟩
      · have he := run_endLoop (P := P) hl (by rw [hlp]; simp)
        rw [hlp] at he
        exact ⟨none, _, he, hdone _ xs _ (Nat.le_refl _) hS (hI.putObj _ hi (by omega) hl rfl) ((World.putObj_heap_other (by omega)).trans hk)⟩
      · have he := run_endLoop (P := P) hl (by rw [hlp]; simp)
        rw [hlp] at he
        exact ⟨some c, _, he, hstop _ c pre _ (Nat.le_refl _) hSp ((hIx c).putObj _ hi (by omega) hl rfl) ((World.putObj_heap_other (by omega)).trans hk)⟩
    · rintro pre x W ⟨hi, hl, hk⟩ hok
      have hy := run_yield (P := P) (args := encs x) hl (by rw [hlp]; exact hps x)
      rw [hlp] at hy
      refine ⟨fn, _, assign, body, hy, roundIn_of_wpIn hfn (hassign _ pre x W _ hi hok ?_)⟩
      intro a' Wa kf kc hia hax
      have la := kf.same _ _ (by omega) hl rfl
      have ka := kf.same _ _ (Nat.le_refl _) hk rfl
      have lt : B + 1 < Wa.heap.size := (Array.getElem?_eq_some_iff.1 la).1
      refine ⟨_, run_beginRound la (by rw [hlp]), ?_⟩
      obtain ⟨busy, hbusy⟩ : ∃ busy : Loop, busy = { lp .ready none with state := .busy } := ⟨_, rfl⟩
      rw [← hbusy]
      have lb2 : (Wa.putObj (B + 1) (.loop busy)).heap[B + 1]? = some (.loop busy) := World.putObj_heap_same lt
      have kb2 : (Wa.putObj (B + 1) (.loop busy)).heap[B]? = some (.deferred (some [])) := (World.putObj_heap_other (by omega)).trans ka
      refine wpIn_mono (hbody _ pre x a' _ (hI.putObj _ hia (by omega) la rfl) hok ((hAx x a').putObj (s := ()) _ hax (by omega) la rfl)) ?_
      have fin : ∀ (jump : Option Code) (W3 : World), KeepsFrom B (Wa.putObj (B + 1) (.loop busy)) W3 →
          (Instr.endRound (B + 1) jump).run P W3 = .ok (.bool jump.isNone) (W3.putObj (B + 1) (.loop (lp (if jump.isNone then .ready else .done) jump))) ∧ W3.heap[B + 1]? = some (.loop busy) ∧
          (W3.putObj (B + 1) (.loop (lp (if jump.isNone then .ready else .done) jump))).heap[B + 1]? = some (.loop (lp (if jump.isNone then .ready else .done) jump)) ∧
          (W3.putObj (B + 1) (.loop (lp (if jump.isNone then .ready else .done) jump))).heap[B]? = some (.deferred (some [])) := fun jump W3 hk3 => by
        have hl3 := hk3.same _ _ (by omega) lb2 rfl
        have her := run_endRound (P := P) jump hl3
        rw [hbusy, hlp] at her
        rw [hlp]
        exact ⟨her, hl3, World.putObj_heap_same (Array.getElem?_eq_some_iff.1 hl3).1, (World.putObj_heap_other (by omega)).trans (hk3.same _ _ (Nat.le_refl _) kb2 rfl)⟩
      intro e a3 W3 hp
      cases e with
      | normal =>
        obtain ⟨hk3, hc3, hi3⟩ := hp
        obtain ⟨hr, hl3, hl4, hk4⟩ := fin none W3 hk3
        exact ⟨_, _, hr, .inl ⟨rfl, ⟨hI.putObj _ hi3 (by omega) hl3 rfl, hl4, hk4⟩, (((kc.trans (Kc.putObj la rfl)).trans hc3).trans (Kc.putObj hl3 rfl)).up (by omega)⟩⟩
      | ret =>
        obtain ⟨hk3, hi3⟩ := hp
        obtain ⟨hr, hl3, hl4, hk4⟩ := fin (some .ret) W3 hk3
        exact ⟨_, _, hr, .inr ⟨rfl, .ret, (hIx _).putObj _ hi3 (by omega) hl3 rfl, hl4, hk4⟩⟩
      | exit id =>
        obtain ⟨hk3, hi3⟩ := hp
        obtain ⟨hr, hl3, hl4, hk4⟩ := fin (some (.exit id)) W3 hk3
        exact ⟨_, _, hr, .inr ⟨rfl, .exit id, (hIx _).putObj _ hi3 (by omega) hl3 rfl, hl4, hk4⟩⟩
      | goto t =>
        obtain ⟨hk3, hi3⟩ := hp
        obtain ⟨hr, hl3, hl4, hk4⟩ := fin (some (.goto t)) W3 hk3
        exact ⟨_, _, hr, .inr ⟨rfl, .goto t, (hIx _).putObj _ hi3 (by omega) hl3 rfl, hl4, hk4⟩⟩
      | panic ch => exact hp.elim
      | outgrown => exact hp.elim
end Go.Proofs.Ytajdelinfkodbaa
