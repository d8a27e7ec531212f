/- A range over a function: what comes next may be said of the world. -/
import Derived.Test.YtajdelinfkodbaaRng
import Derived.Test.YtajdelinfkodbaaRis
namespace Go.Proofs.Ytajdelinfkodbaa
open Go.RowKit
variable {F : Fence} {n : Nat} {P : Program}
/-- All cells from a block on are kept, but those that somebody has for his own. -/
structure KcO (O : World → Nat → Prop) (B : Nat) (W W' : World) : Prop where
  size : W.heap.size ≤ W'.heap.size
  keep : ∀ (k : Nat) (cur : Array Value) (e : Nat), B ≤ k → ¬ O W k → W.heap[k]? = some (.cells cur e (0, 0)) → W'.heap[k]? = W.heap[k]?
  new : ∀ k, O W' k → O W k ∨ W.heap.size ≤ k
theorem KcO.trans {O : World → Nat → Prop} {B : Nat} {X Y Z : World} (h : KcO O B X Y) (k : KcO O B Y Z) : KcO O B X Z := by
  refine ⟨Nat.le_trans h.size k.size, fun i cur e hB hn hi => ?_, fun i hi => ?_⟩
  · have h1 := h.keep i cur e hB hn hi
    refine (k.keep i cur e hB (fun hO => ?_) (h1.trans hi)).trans h1
    rcases h.new i hO with q | q
    · exact hn q
    · have := (Array.getElem?_eq_some_iff.1 hi).1
      omega
  · rcases k.new i hi with q | q
    · exact h.new i q
    · exact .inr (Nat.le_trans h.size q)
theorem KcO.up {O : World → Nat → Prop} {B B' : Nat} {X Y : World} (h : KcO O B X Y) (hB : B ≤ B') : KcO O B' X Y := ⟨h.size, fun i cur e hi hn hh => h.keep i cur e (Nat.le_trans hB hi) hn hh, h.new⟩
theorem KcO.of_below {O : World → Nat → Prop} {B : Nat} {W W' : World} (h : Below W.heap.size W W') (hO : ∀ k, O W' k → O W k ∨ W.heap.size ≤ k) : KcO O B W W' := ⟨h.size, fun k _ _ _ _ hh => h.block k (Array.getElem?_eq_some_iff.1 hh).1, hO⟩
/-- An iterator: V is what it reads, said by whatever J the caller keeps between two rounds; Ok is what comes next, in that world. -/
def SeqW {α : Type} (F : Fence) (n : Nat) (P : Program) (g : Nat) (lb : Array Value) (encs : α → Array Value) (V : List α → World → Prop) (Ok : List α → α → World → Prop) (S Sp : List α → Prop) : Prop :=
  ∀ (l : Nat) (J Jx : List α → World → Prop) (O : World → Nat → Prop) (W : World), OwnFrom W.heap.size J → OwnFrom W.heap.size Jx → (∀ pre W1, J pre W1 → V pre W1) →
    (∀ pre W1, J pre W1 → ∀ k, O W1 k → k < W1.heap.size) → (∀ pre W1 W2 row, J pre W1 → W1.grownBy W2 row → (∀ r, row = some r → W.heap.size ≤ r ∧ ∃ o : Obj, W1.heap[r]? = some o ∧ o.isCells = false) → ∀ k, O W2 k → O W1 k) →
    (∀ pre x W1, J pre W1 → Ok pre x W1 → YieldAt F (n - 1) P l (encs x) W1 fun e W' => (e = .returned (.bool true) ∧ J (pre ++ [x]) W' ∧ KcO O W.heap.size W1 W' ∧ KeepsFrom W.heap.size W1 W') ∨ (e = .returned (.bool false) ∧ Jx (pre ++ [x]) W' ∧ KeepsFrom W.heap.size W1 W')) →
    J [] W →
    CallsIn F n P g (#[.func (.yield l) #[] #[]] ++ lb) W fun e W' => (∃ v, e = .returned v) ∧ ((∃ xs, S xs ∧ J xs W') ∨ (∃ pre, Sp pre ∧ Jx pre W'))
theorem KeepsFrom.upTo {B B' : Nat} {W W' : World} (h : KeepsFrom B W W') (hB : B ≤ B') : KeepsFrom B' W W' := ⟨h.size, fun k o hk h0 ho => h.same k o (Nat.le_trans hB hk) h0 ho⟩
theorem room_wide (k : Nat) : Fence.wide.room k := fun d h => by cases h
/-- Where no depth is asked a round is one at any. -/
theorem round_any {m m' : Nat} {P : Program} {l l2 : Nat} {f : FuncId} {tmps : Array Value} {assign body : Code} {w : World} {R : Ending → World → Prop} (h : RoundIn Fence.wide m P l f tmps assign body w R) : RoundIn (Fence.wide.inRound l2) m' P l f tmps assign body w R := ⟨h.1, fun c cs _ => h.2 c cs (room_wide _)⟩
/-- How a round's body may be left. -/
def PostO {α : Type} (O : World → Nat → Prop) (B : Nat) (I : List α → World → Prop) (Ix : Code → List α → World → Prop) (xs : List α) (W : World) : Exit → Act → World → Prop
  | .normal, _, W' => KeepsFrom B W W' ∧ KcO O B W W' ∧ I xs W'
  | .ret, _, W' => KeepsFrom B W W' ∧ Ix .ret xs W'
  | .exit id, _, W' => KeepsFrom B W W' ∧ Ix (.exit id) xs W'
  | .goto t, _, W' => KeepsFrom B W W' ∧ Ix (.goto t) xs W'
  | _, _, _ => False
set_option maxHeartbeats 1000000 in
theorem rangeW {α : Type} {g : Operand} {ps : Array Tmp} {assign body : Code} {Q : Exit → Act → World → Prop} {a : Act} {w : World}
    (hro : F.round = none) (h1 : 1 ≤ n) {gf : Nat} {lb : Array Value} (hg : a.eval g = .func (.func gf) #[] lb) (hFg : F.fn gf) (eg : ∀ args w, (callFunc gf args).run P w = .ok (.enter gf args) w)
    {encs : α → Array Value} {V : List α → World → Prop} {Ok : List α → α → World → Prop} {S Sp : List α → Prop} (hseq : SeqW F (n - 1) P gf lb encs V Ok S Sp) (hps : ∀ x, (encs x).size = ps.size)
    (I : List α → World → Prop) (Ix : Code → List α → World → Prop) (O : World → Nat → Prop) (hI : OwnFrom w.heap.size I) (hIx : ∀ c, OwnFrom w.heap.size (Ix c)) (hV : ∀ pre W, I pre W → V pre W) (hO1 : ∀ pre W, I pre W → ∀ k, O W k → k < W.heap.size) (hO2 : ∀ pre W W2 row, I pre W → W.grownBy W2 row → (∀ r, row = some r → w.heap.size ≤ r ∧ ∃ o : Obj, W.heap[r]? = some o ∧ o.isCells = false) → ∀ k, O W2 k → O W k) (hOk : ∀ pre x, OwnFrom w.heap.size (fun (_ : Unit) W => Ok pre x W)) (h0 : I [] w)
    (Ax : α → Act → World → Prop) (hAx : ∀ x a', OwnFrom w.heap.size (fun (_ : Unit) W => Ax x a' W))
    (hassign : ∀ (l : Nat) (pre : List α) (x : α) (W : World) (K : Act → World → Prop), I pre W → Ok pre x W → (∀ a' W', KeepsFrom w.heap.size W W' → KcO O w.heap.size W W' → I pre W' → Ok pre x W' → Ax x a' W' → K a' W') →
      assign.wpIn (F.inRound l) (n - 1 - 1) P (Exit.then K (fun _ _ _ => False)) { tmps := (ps.zip (encs x)).foldl (fun t (p, v) => t.setIfInBounds p v) a.tmps, defers := [] } W)
    (hbody : ∀ (l : Nat) (pre : List α) (x : α) (a' : Act) (W : World), I pre W → Ok pre x W → Ax x a' W → body.wpIn (F.inRound l) (n - 1 - 1) P (PostO O w.heap.size I Ix (pre ++ [x]) W) a' W)
    (hdone : ∀ (D : Nat) (xs : List α) (W : World), w.heap.size ≤ D → S xs → I xs W → W.heap[D]? = some (.deferred (some [])) → Q .normal { a with defers := { target := .collected D, args := #[] } :: a.defers } W)
    (hstop : ∀ (D : Nat) (c : Code) (pre : List α) (W : World), w.heap.size ≤ D → Sp pre → Ix c pre W → W.heap[D]? = some (.deferred (some [])) → c.wpIn F n P Q { a with defers := { target := .collected D, args := #[] } :: a.defers } W) :
    (Code.rangeFunc g ps assign body).wpIn F n P Q a w := by
  refine wpIn_rangeFunc ?_
  intro fn hfn
  rw [hro]
  generalize hB : w.heap.size = B at *
  obtain ⟨lp, hlp⟩ : ∃ lp : LoopState → Option Code → Loop, lp = fun st pe => { state := st, pending := pe, fn, tmps := a.tmps, params := ps, assign, body, defers := B } := ⟨_, rfl⟩
  obtain ⟨Wl, hWl⟩ : ∃ Wl, (w.alloc (.deferred (some []))).alloc (.loop (lp .ready none)) = Wl := ⟨_, rfl⟩
  have sz : Wl.heap.size = B + 2 := by rw [← hWl]; simp; omega
  have rec1 : Wl.heap[B + 1]? = some (.loop (lp .ready none)) := by
    have := World.alloc_heap_new (w.alloc (.deferred (some []))) (.loop (lp .ready none))
    rw [World.size_alloc, hB] at this
    rw [← hWl]
    exact this
  have def1 : Wl.heap[B]? = some (.deferred (some [])) := by
    have := World.alloc_heap_new w (.deferred (some []))
    rw [hB] at this
    rw [← hWl]
    exact (Below.heap_alloc _ _ _ (by simp; omega)).trans this
  refine ⟨B + 1, [{ target := .collected B, args := #[] }], Wl, { target := .fn (.func gf) lb, args := #[.func (.yield (B + 1)) #[] #[]] }, Wl, gf, #[.func (.yield (B + 1)) #[] #[]] ++ lb, Wl, ?_, ?_, ?_, ?_, fun _ => h1, ?_⟩
  · have := run_enterLoop_outer (P := P) (w := w) fn a.tmps ps assign body
    rw [hB] at this
    rw [← hWl, hlp]
    exact this
  · simp only [resolve, hg]
    simp [go_sem]
  · intro f' hf'
    simp [Target.leads] at hf'
    subst hf'
    exact hFg
  · simp [invoke, go_sem, eg]
  · have seq := hseq (B + 1) (fun pre W => I pre W ∧ W.heap[B + 1]? = some (.loop (lp .ready none)) ∧ W.heap[B]? = some (.deferred (some [])))
      (fun pre W => ∃ c, Ix c pre W ∧ W.heap[B + 1]? = some (.loop (lp .done (some c))) ∧ W.heap[B]? = some (.deferred (some []))) O Wl
      ((ownFrom_up hI (by omega)).and ((ownFrom_at (by omega)).and (ownFrom_at (by omega))))
      (fun s W W' row hs hg' hr => by
        obtain ⟨c, q1, q2, q3⟩ := hs
        exact ⟨c, (ownFrom_up (B' := Wl.heap.size) (hIx c) (by omega)) s W W' row q1 hg' hr, ownFrom_at (α := List α) (B := Wl.heap.size) (by omega) s W W' row q2 hg' hr, ownFrom_at (α := List α) (B := Wl.heap.size) (by omega) s W W' row q3 hg' hr⟩)
      (fun pre W h => hV pre W h.1) (fun pre W h => hO1 pre W h.1) (fun pre W W2 row h hg' hr => hO2 pre W W2 row h.1 hg' (fun r e => ⟨by have := (hr r e).1; omega, (hr r e).2⟩))
      ?_ ⟨by rw [← hWl]; exact hI.alloc _ (hI.alloc _ h0), rec1, def1⟩
    · refine seq.mono ?_
      rintro e W2 ⟨⟨v, rfl⟩, (⟨xs, hS, hi, hl, hk⟩ | ⟨pre, hSp, c, hi, hl, hk⟩)⟩
      · have he := run_endLoop (P := P) hl (by rw [hlp]; simp)
        rw [hlp] at he
        exact ⟨none, _, he, hdone _ xs _ (Nat.le_refl _) hS (hI.putObj _ hi (by omega) hl rfl) ((World.putObj_heap_other (by omega)).trans hk)⟩
      · have he := run_endLoop (P := P) hl (by rw [hlp]; simp)
        rw [hlp] at he
        exact ⟨some c, _, he, hstop _ c pre _ (Nat.le_refl _) hSp ((hIx c).putObj _ hi (by omega) hl rfl) ((World.putObj_heap_other (by omega)).trans hk)⟩
    · rintro pre x W ⟨hi, hl, hk⟩ hok
      have hy := run_yield (P := P) (args := encs x) hl (by rw [hlp]; exact hps x)
      rw [hlp] at hy
      refine ⟨fn, _, assign, body, hy, roundIn_of_wpIn hfn (hassign _ pre x W _ hi hok ?_)⟩
      intro a' Wa kf kc hia hoka hax
      have la := kf.same _ _ (by omega) hl rfl
      have ka := kf.same _ _ (Nat.le_refl _) hk rfl
      have lt : B + 1 < Wa.heap.size := (Array.getElem?_eq_some_iff.1 la).1
      refine ⟨_, run_beginRound la (by rw [hlp]), ?_⟩
      obtain ⟨busy, hbusy⟩ : ∃ busy : Loop, busy = { lp .ready none with state := .busy } := ⟨_, rfl⟩
      rw [← hbusy]
      have lb2 : (Wa.putObj (B + 1) (.loop busy)).heap[B + 1]? = some (.loop busy) := World.putObj_heap_same lt
      have kb2 : (Wa.putObj (B + 1) (.loop busy)).heap[B]? = some (.deferred (some [])) := (World.putObj_heap_other (by omega)).trans ka
      refine wpIn_mono (hbody _ pre x a' _ (hI.putObj _ hia (by omega) la rfl) ((hOk pre x).putObj (s := ()) _ hoka (by omega) la rfl) ((hAx x a').putObj (s := ()) _ hax (by omega) la rfl)) ?_
      have fin : ∀ (jump : Option Code) (W3 : World), KeepsFrom B (Wa.putObj (B + 1) (.loop busy)) W3 →
          (Instr.endRound (B + 1) jump).run P W3 = .ok (.bool jump.isNone) (W3.putObj (B + 1) (.loop (lp (if jump.isNone then .ready else .done) jump))) ∧ W3.heap[B + 1]? = some (.loop busy) ∧
          (W3.putObj (B + 1) (.loop (lp (if jump.isNone then .ready else .done) jump))).heap[B + 1]? = some (.loop (lp (if jump.isNone then .ready else .done) jump)) ∧
          (W3.putObj (B + 1) (.loop (lp (if jump.isNone then .ready else .done) jump))).heap[B]? = some (.deferred (some [])) := fun jump W3 hk3 => by
        have hl3 := hk3.same _ _ (by omega) lb2 rfl
        have her := run_endRound (P := P) jump hl3
        rw [hbusy, hlp] at her
        rw [hlp]
        exact ⟨her, hl3, World.putObj_heap_same (Array.getElem?_eq_some_iff.1 hl3).1, (World.putObj_heap_other (by omega)).trans (hk3.same _ _ (Nat.le_refl _) kb2 rfl)⟩
      have pk : ∀ (pr : List α) (X : World) (o o' : Obj), I pr X → X.heap[B + 1]? = some o → o.isCells = false → KcO O B X (X.putObj (B + 1) o') := fun pr X o o' hx hl ho => by
        have hgx := grownBy_putObj' X (B + 1) o'
        exact ⟨hgx.size, fun k cur e _ _ hh => World.putObj_heap_other (fun q => by
          subst q
          rw [hl] at hh
          cases hh
          cases ho), fun k hk => .inl (hO2 pr X _ _ hx hgx (fun r e => by cases e; exact ⟨by omega, o, hl, ho⟩) k hk)⟩
      have kfa : ∀ (jump : Option Code) (W3 : World), KeepsFrom B (Wa.putObj (B + 1) (.loop busy)) W3 → KeepsFrom Wl.heap.size W (W3.putObj (B + 1) (.loop (lp (if jump.isNone then .ready else .done) jump))) := fun jump W3 hk3 =>
        ((KeepsFrom.upTo kf (by omega)).trans (KeepsFrom.of_grownBy (grownBy_putObj' Wa (B + 1) (.loop busy)) (fun j e => by cases e; omega))).trans ((KeepsFrom.upTo hk3 (by omega)).trans (KeepsFrom.of_grownBy (grownBy_putObj' W3 (B + 1) _) (fun j e => by cases e; omega)))
      intro e a3 W3 hp
      cases e with
      | normal =>
        obtain ⟨hk3, hc3, hi3⟩ := hp
        obtain ⟨hr, hl3, hl4, hk4⟩ := fin none W3 hk3
        exact ⟨_, _, hr, .inl ⟨rfl, ⟨hI.putObj _ hi3 (by omega) hl3 rfl, hl4, hk4⟩, (((kc.trans (pk pre Wa _ _ hia la rfl)).trans hc3).trans (pk (pre ++ [x]) W3 _ _ hi3 hl3 rfl)).up (by omega), kfa none W3 hk3⟩⟩
      | ret =>
        obtain ⟨hk3, hi3⟩ := hp
        obtain ⟨hr, hl3, hl4, hk4⟩ := fin (some .ret) W3 hk3
        exact ⟨_, _, hr, .inr ⟨rfl, ⟨.ret, (hIx _).putObj _ hi3 (by omega) hl3 rfl, hl4, hk4⟩, kfa (some .ret) W3 hk3⟩⟩
      | exit id =>
        obtain ⟨hk3, hi3⟩ := hp
        obtain ⟨hr, hl3, hl4, hk4⟩ := fin (some (.exit id)) W3 hk3
        exact ⟨_, _, hr, .inr ⟨rfl, ⟨.exit id, (hIx _).putObj _ hi3 (by omega) hl3 rfl, hl4, hk4⟩, kfa (some (.exit id)) W3 hk3⟩⟩
      | goto t =>
        obtain ⟨hk3, hi3⟩ := hp
        obtain ⟨hr, hl3, hl4, hk4⟩ := fin (some (.goto t)) W3 hk3
        exact ⟨_, _, hr, .inr ⟨rfl, ⟨.goto t, (hIx _).putObj _ hi3 (by omega) hl3 rfl, hl4, hk4⟩, kfa (some (.goto t)) W3 hk3⟩⟩
      | panic ch => exact hp.elim
      | outgrown => exact hp.elim
end Go.Proofs.Ytajdelinfkodbaa
namespace Go.Proofs.Ytajdelinfkodbaa
open Go.RowKit Go.Shelf
attribute [local go_sem] Oper.semAt_some
set_option maxRecDepth 100000
set_option maxHeartbeats 4000000 in
theorem rising_seqO {n : Nat} (hn : 6 ≤ n) {bx b : Nat} {mv : Option Nat} {ks : List Int} {pv : Int → Value} (hks : ks.Pairwise (fun x y => x < y)) (hkl : ks.length ≤ 4096) :
    SeqW Fence.wide n Try.prog 55 #[.pointer (some ⟨bx, 0, none⟩)] (fun k => #[.int .i64 k, pv k]) (VRis bx b mv ks pv) (fun pre x _ => ks[pre.length]? = some x) (fun xs => xs = ks) (fun _ => True) := by
  intro l J Jx O W hJ hJx hV hO1 hO2 hY h0
  have V0 := hV [] W h0
  have cS := sorted_any (n - 1) (by omega) hks V0
  have cK := keys_call (n - 1) mv W
  obtain ⟨v0, v1, _⟩ := V0
  refine callsIn_of_wp Try.func55 rfl trivial ?_ rfl
  simp only [Try.ntmps55, List.size_toArray, List.length_cons, List.length_nil, Nat.reduceAdd, Nat.reduceSub, Array.replicate_succ, Array.replicate_zero, List.push_toArray, List.append_toArray, List.nil_append, List.cons_append]
  have hf1 : Fence.wide.fn 57 := trivial
  have hf2 : Fence.wide.fn 56 := trivial
  have h1 : 1 ≤ n := by omega
  gi_wp2_with (first
    | (gi_at_call 57; refine cK.mono ?_; rintro e w1 ⟨rfl, rfl⟩)
    | (gi_at_call 56; refine cS.mono ?_; rintro e w2 ⟨ka, kc, rfl, hrow, hb⟩))
  have h2 : J [] w2 := hJ [] W w2 none h0 (grown_of_below hb) (fun r e => by cases e)
  have hO0 : ∀ g, (Value.slice ka ks.length kc).ownBlock = some g → ¬ O w2 g := fun g hg hO => by
    have q1 := hO2 [] W w2 none h0 (grown_of_below hb) (fun r e => by cases e) g hO
    have q2 := hO1 [] W h0 g q1
    have q3 := (own_block hrow hg).1
    omega
  clear cK cS v0 v1 h0
  have hkI : ks.length ≤ 9223372036854775807 := by omega
  gi_loopw [12] (fun iv wr => ∃ k : Nat, k ≤ ks.length ∧ iv = .int .i64 (k : Int) ∧ J (ks.take k) wr ∧ wr.ownsRow W.heap.size 2 1 (.slice ka ks.length kc) ks.length (ks.map (Value.int .i64)) ∧ ∀ g, (Value.slice ka ks.length kc).ownBlock = some g → ¬ O wr g) (fun iv _ => ks.length - (intOf iv).toNat)
  case atStart => exact ⟨0, Nat.zero_le _, rfl, by simpa using h2, hrow, hO0⟩
  case round =>
    clear hrow hb h2 hO0
    obtain ⟨k, hk, rfl, hJs, hrow, hOr⟩ := hrel
    by_cases hlt : k < ks.length
    · obtain ⟨x, hx⟩ : ∃ x, ks[k]? = some x := ⟨_, List.getElem?_eq_getElem hlt⟩
      obtain ⟨v0, v1, v2⟩ := hV _ wr hJs
      have hpl : (ks.take k).length = k := by rw [List.length_take]; omega
      rw [hpl] at v2
      obtain ⟨fn, tmps, assign, body, hy, hR⟩ := hY (ks.take k) x wr hJs (by rw [hpl]; exact hx)
      have hxm : x ∈ ks.drop k := List.mem_iff_getElem?.2 ⟨0, by rw [List.getElem?_drop]; exact hx⟩
      obtain ⟨kb, rfl⟩ : ∃ kb, ka = some ⟨kb, 0, none⟩ := by
        rcases hrow.2 with ⟨e, h0⟩ | ⟨g, cap, cur, e, _⟩
        · omega
        · cases e; exact ⟨g, rfl⟩
      have hcell : wr.cell? ⟨kb, 0 + k * 1, none⟩ = some (.int .i64 x) := by
        have := World.ownsRow.cells hrow (g := kb) rfl k (.int .i64 x) (by rw [List.getElem?_map, hx]; rfl)
        rw [addr_add] at this
        rw [Nat.mul_one]
        exact this
      have hcell' : wr.cell? ⟨kb, k, none⟩ = some (.int .i64 x) := by simpa using hcell
      have hlk : (Instr.lookup 70 (.map mv) (.int .i64 x) false).run Try.prog wr = .ok (pv x) wr := by
        cases mv with
        | none =>
          have v2 : ks = [] := v2
          rw [v2] at hlt
          simp at hlt
        | some mb =>
          obtain ⟨F, q1, _, _, q4⟩ := v2
          have := q1.lookup (P := Try.prog) (t := 70) Try.underlying70 Try.underlying2 (Try.zeroValue78 wr) x
          rw [q4 x hxm] at this
          exact this
      have hki : (k : Int) < (ks.length : Int) := by omega
      replace hx : Hid (ks[k]? = some x) := hx
      clear v2 hcell hpl hxm
      gi_wp2
      refine hR.mono ?_
      rintro e W3 (⟨rfl, hJ3, hk3, _⟩ | ⟨rfl, hJx3, _⟩)
      · rw [← take_at hx.out] at hJ3
        have hrow3 := own_same hrow (fun g hg => by obtain ⟨hl, cur, hh⟩ := own_block hrow hg; exact hk3.keep g cur 2 hl (hOr g hg) hh)
        have hO3 : ∀ g, (Value.slice (some ⟨kb, 0, none⟩) ks.length kc).ownBlock = some g → ¬ O W3 g := fun g hg hO => by
          obtain ⟨_, cur, hh⟩ := own_block hrow hg
          have hl := lt_of_block hh
          rcases hk3.new g hO with q | q
          · exact hOr g hg q
          · omega
        clear hy hk3 hrow
        gi_wp2
        go_roundw
        case rel => exact ⟨k + 1, by omega, by go_num, hJ3, hrow3, hO3⟩
        case measure => simp [intOf]; omega
      · clear hy
        gi_wp2
        refine bodyPost_ret (results_none rfl _ _ _) rfl ?_
        exact ⟨⟨_, rfl⟩, .inr ⟨_, trivial, hJx3⟩⟩
    · have hki : ¬ (k : Int) < (ks.length : Int) := by omega
      rw [List.take_of_length_le (by omega)] at hJs
      gi_wp2
      go_end0
      exact ⟨⟨_, rfl⟩, .inl hJs⟩
end Go.Proofs.Ytajdelinfkodbaa
