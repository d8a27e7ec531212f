/- Commits at keys: what lies in memory, what a commit more leaves. -/
import Derived.Test.YtigmpmichhghdaaTxn
import Derived.Test.YtigmpmichhghdaaMapI
namespace Go.Proofs.Ytigmpmichhghdaa
open Go.RowKit
set_option maxRecDepth 100000
/-- append of one number: where the new row lies. -/
theorem append_at (w : World) (ty base : Nat) (v : Value) (xs : List Int) (hown : OwnI w base v xs) (y : Int) (hy : I64 y) (b8 : Nat) (hb8 : w.cell? ⟨b8, 0, none⟩ = some (.int .i64 y)) (hn : xs.length ≤ 1000000000) (hbase : base ≤ w.heap.size) :
    ∃ a' n' c' w', (Builtin.append_ #[23, 23] ty #[v, .slice (some ⟨b8, 0, none⟩) 1 1]).run Try.prog w = .ok (.slice a' n' c') w' ∧ OwnI w' base (.slice a' n' c') (xs ++ [y]) ∧ w.grownBy w' v.ownBlock ∧ (∀ g, (Value.slice a' n' c').ownBlock = some g → v.ownBlock = some g ∨ w.heap.size ≤ g) := by
  obtain ⟨i, hi, hz, hs, hb⟩ := info_parts Try.info2
  have hnews : ∀ j u, ([Value.int .i64 y])[j]? = some u → w.cell? ((⟨b8, 0, none⟩ : Addr).add j) = some u := by
    intro j u hj
    match j with
    | 0 => cases hj; exact hb8
    | j + 1 => cases hj
  have h1c : ∀ u ∈ [Value.int .i64 y], u.oneCell' = true := by simp [Value.oneCell']
  obtain ⟨v', w', hr, h1, h2, _⟩ := run_append_own (P := Try.prog) w base 23 ty 2 i _ 1 8 Try.underlying23 hi hz hs hb rfl (by decide) v xs.length _ hown.1 ⟨b8, 0, none⟩ 1 1 [.int .i64 y] rfl hnews h1c (by unfold maxLen; omega) (by omega) hbase
  have O : OwnI w' base v' (xs ++ [y]) := ⟨by rw [List.map_append, List.length_append]; exact h1, fun z hz => by
    rcases List.mem_append.1 hz with hz | hz
    · exact hown.2 z hz
    · rw [List.mem_singleton] at hz; subst hz; exact hy⟩
  obtain ⟨a', n', c', hv, _⟩ := O.shape
  subst hv
  refine ⟨a', n', c', w', hr, O, h2, fun g hg => ?_⟩
  rcases hown.1.2 with ⟨rfl, h0⟩ | ⟨g0, cap, cur, rfl, hbg, hgh, hnc, hcm, hcs, htake⟩
  · have hx0 : xs = [] := List.eq_nil_of_length_eq_zero h0
    subst hx0
    obtain ⟨v2, w2, hr2, h12, _, _⟩ := run_append_own (P := Try.prog) w w.heap.size 23 ty 2 i _ 1 8 Try.underlying23 hi hz hs hb rfl (by decide) (.slice none 0 0) 0 [] (World.ownsRow_nil _ _ _ _) ⟨b8, 0, none⟩ 1 1 [.int .i64 y] rfl hnews h1c (by unfold maxLen; omega) (by omega) (Nat.le_refl _)
    rw [hr] at hr2
    injection hr2 with e1 e2
    subst e1
    exact .inr (own_block h12 hg).1
  · by_cases hroom : xs.length + 1 ≤ cap
    · obtain ⟨w2, hr2, _, _⟩ := run_append_own_spare (P := Try.prog) w base 23 ty 2 i 1 Try.underlying23 hi hs g0 xs.length cap _ hown.1 ⟨b8, 0, none⟩ 1 1 [.int .i64 y] rfl hnews h1c hroom
      rw [hr] at hr2
      injection hr2 with e1 e2
      rw [e1] at hg
      exact .inl hg
    · have holds : ∀ j u, (xs.map (Value.int .i64))[j]? = some u → w.cell? ((⟨g0, 0, none⟩ : Addr).add j) = some u := World.ownsRow.cells hown.1 (g := g0) rfl
      have hr2 := run_append_grow (P := Try.prog) w 23 ty 2 i _ Try.underlying23 hi hz ⟨g0, 0, none⟩ xs.length cap _ (by rw [hs]; exact hown.1.1) holds ⟨b8, 0, none⟩ 1 1 [.int .i64 y] (by rw [hs]; rfl) hnews (by omega) (by omega) (growslice_fits (by omega) (by rw [hb]; omega))
      rw [hr] at hr2
      injection hr2 with e1 e2
      rw [e1] at hg
      simp [Value.ownBlock] at hg
      exact .inr (by omega)
/-- A map of rows of commits, as a function. -/
structure PlM (w : World) (S : Nat → Prop) (mb : Nat) (F : Int → Option Value) (f : Int → List Int) : Prop where
  map : IsMap w mb F
  own : S mb
  no : ∀ k, F k = none → f k = []
  yes : ∀ k v, F k = some v → OwnI w 0 v (f k) ∧ f k ≠ [] ∧ ∀ g, v.ownBlock = some g → S g
  apart : ∀ k k' v v' g, F k = some v → F k' = some v' → v.ownBlock = some g → v'.ownBlock = some g → k = k'
def PlV (w : World) (S : Nat → Prop) (mv : Option Nat) (f : Int → List Int) : Prop := match mv with
  | none => ∀ o, f o = []
  | some mb => ∃ F, PlM w S mb F f
/-- Commits at keys, in memory; S: the blocks that are its own. -/
structure Pl (w : World) (S : Nat → Prop) (bp : Nat) (f : Int → List Int) : Prop where
  cell : ∃ mv, w.cell? ⟨bp, 0, none⟩ = some (.map mv) ∧ PlV w S mv f
  own : S bp
  ty : ∃ cs t, w.heap[bp]? = some (.cells cs t (0, 0)) ∧ t ≠ 2
theorem Pl.fro {w : World} {S : Nat → Prop} {bp : Nat} {f : Int → List Int} (h : Pl w S bp f) : w.frozen? ⟨bp, 0, none⟩ = false := by
  obtain ⟨cs, t, hb, _⟩ := h.ty
  unfold World.frozen?
  rw [hb]
  rfl
theorem PlM.same {w w' : World} {S S' : Nat → Prop} {mb : Nat} {F : Int → Option Value} {f : Int → List Int} (h : PlM w S mb F f) (hS : ∀ b, S b → S' b) (hk : ∀ b, b < w.heap.size → S b → w'.heap[b]? = w.heap[b]?) : PlM w' S' mb F f := by
  refine ⟨h.map.same (hk mb h.map.lt h.own), hS _ h.own, h.no, fun k v hv => ?_, h.apart⟩
  obtain ⟨h1, h2, h3⟩ := h.yes k v hv
  exact ⟨⟨own_same h1.1 (fun g hg => hk g (lt_of_block (own_block h1.1 hg).2.choose_spec) (h3 g hg)), h1.2⟩, h2, fun g hg => hS g (h3 g hg)⟩
theorem PlV.same {w w' : World} {S S' : Nat → Prop} {mv : Option Nat} {f : Int → List Int} (h : PlV w S mv f) (hS : ∀ b, S b → S' b) (hk : ∀ b, b < w.heap.size → S b → w'.heap[b]? = w.heap[b]?) : PlV w' S' mv f := by
  cases mv with
  | none => exact h
  | some mb =>
    obtain ⟨F, h1⟩ := h
    exact ⟨F, h1.same hS hk⟩
theorem Pl.same {w w' : World} {S S' : Nat → Prop} {bp : Nat} {f : Int → List Int} (h : Pl w S bp f) (hS : ∀ b, S b → S' b) (hk : ∀ b, b < w.heap.size → S b → w'.heap[b]? = w.heap[b]?) : Pl w' S' bp f := by
  obtain ⟨⟨mv, hc, hv⟩, ho, ⟨cs, t, hb, ht⟩⟩ := h
  have e := hk bp (lt_of_block hb) ho
  exact ⟨⟨mv, (cell_eq e).trans hc, hv.same hS hk⟩, hS _ ho, ⟨cs, t, e.trans hb, ht⟩⟩
theorem Pl.below {w w' : World} {S : Nat → Prop} {bp : Nat} {f : Int → List Int} (h : Pl w S bp f) (hb : Below w.heap.size w w') : Pl w' S bp f := h.same (fun _ h => h) (fun b hl _ => hb.block b hl)
theorem Pl.mono {w : World} {S S' : Nat → Prop} {bp : Nat} {f : Int → List Int} (h : Pl w S bp f) (hS : ∀ b, S b → S' b) : Pl w S' bp f := h.same hS (fun _ _ _ => rfl)
theorem Pl.lt {w : World} {S : Nat → Prop} {bp : Nat} {f : Int → List Int} (h : Pl w S bp f) : bp < w.heap.size := by
  obtain ⟨cs, t, hb, _⟩ := h.ty
  exact lt_of_block hb
theorem OwnI.len0 {w : World} {base : Nat} {v : Value} {xs : List Int} (h : OwnI w base v xs) : xs.length ≤ maxLen := by
  obtain ⟨a, n, c, rfl, hn⟩ := h.shape
  have h1 := h.isI.room
  have h2 := h.isI.most
  omega
/-- What a look-up tells. -/
theorem PlM.get {w : World} {S : Nat → Prop} {mb : Nat} {F : Int → Option Value} {f : Int → List Int} (h : PlM w S mb F f) (k : Int) : ∃ a n c, (F k).getD (.slice none 0 0) = .slice a n c ∧ OwnI w 0 (.slice a n c) (f k) := by
  cases hk : F k with
  | none =>
    rw [h.no k hk]
    exact ⟨none, 0, 0, rfl, ownI_nil _ _⟩
  | some v =>
    obtain ⟨h1, _⟩ := h.yes k v hk
    obtain ⟨a, n, c, rfl, _⟩ := h1.shape
    exact ⟨a, n, c, rfl, h1⟩
/-- A row with one commit more, unless it is the last one. -/
def addL (c : Int) (l : List Int) : List Int := if l.getLast? = some c then l else l ++ [c]
theorem addL_idem (c : Int) (l : List Int) : addL c (addL c l) = addL c l := by
  unfold addL
  by_cases h : l.getLast? = some c
  · simp [h]
  · simp [h]
theorem addL_len (c : Int) (l : List Int) : (addL c l).length ≤ l.length + 1 := by
  unfold addL
  split <;> simp
theorem addL_ne (c : Int) (l : List Int) : addL c l ≠ [] := by
  unfold addL
  split
  · rename_i h
    intro e
    rw [e] at h
    cases h
  · simp
/-- A commit at some keys. -/
def putF (c : Int) (ks : List Int) (f : Int → List Int) : Int → List Int := fun o => if o ∈ ks then addL c (f o) else f o
theorem putF_nil (c : Int) (f : Int → List Int) : putF c [] f = f := by funext o; simp [putF]
theorem putF_snoc (c : Int) (ks : List Int) (k : Int) (f : Int → List Int) : putF c (ks ++ [k]) f = fun o => if o = k then addL c (putF c ks f o) else putF c ks f o := by
  funext o
  unfold putF
  by_cases h : o = k
  · subst h
    by_cases h2 : o ∈ ks
    · simp [h2, addL_idem]
    · simp [h2]
  · simp [h]
/-- What is kept but for some blocks. -/
structure Fp (S : Nat → Prop) (w w' : World) : Prop where
  os : w'.os = w.os
  tape : w'.tape = w.tape
  output : w'.output = w.output
  size : w.heap.size ≤ w'.heap.size
  block : ∀ b, b < w.heap.size → ¬ S b → w'.heap[b]? = w.heap[b]?
theorem Fp.refl (S : Nat → Prop) (w : World) : Fp S w w := ⟨rfl, rfl, rfl, Nat.le_refl _, fun _ _ _ => rfl⟩
theorem Fp.trans {S : Nat → Prop} {w w1 w2 : World} (h : Fp S w w1) (k : Fp (fun b => S b ∨ w.heap.size ≤ b) w1 w2) : Fp S w w2 :=
  ⟨k.os.trans h.os, k.tape.trans h.tape, k.output.trans h.output, Nat.le_trans h.size k.size, fun b hb hs => (k.block b (Nat.lt_of_lt_of_le hb h.size) (fun e => e.elim hs (fun e' => by omega))).trans (h.block b hb hs)⟩
theorem Fp.of_below {S : Nat → Prop} {w w' : World} (h : Below w.heap.size w w') : Fp S w w' := ⟨h.os, h.tape, h.output, h.size, fun b hb _ => h.block b hb⟩
theorem Fp.below {S : Nat → Prop} {w w' : World} {N : Nat} (h : Fp S w w') (hN : N ≤ w.heap.size) (hS : ∀ b, S b → N ≤ b) : Below N w w' := ⟨h.os, h.tape, h.output, h.size, fun b hb => h.block b (by omega) (fun e => by have := hS b e; omega)⟩
theorem IsI.fp {S : Nat → Prop} {w w' : World} {a : Option Addr} {n c : Nat} {xs : List Int} (h : IsI w a n c xs) (k : Fp S w w') (hS : ∀ b off, a = some ⟨b, off, none⟩ → 0 < n → ¬ S b) : IsI w' a n c xs :=
  ⟨h.size, h.room, h.most, h.nil0, h.wf, fun h0 => by
    obtain ⟨b, off, ha, hc⟩ := h.cells h0
    exact ⟨b, off, ha, fun i hi => (cell_eq (k.block b (lt_of_cell (hc i hi)) (hS b off ha h0))).trans (hc i hi)⟩⟩
/-- The head's other cells stay. -/
def KeepC (bp : Nat) (w w' : World) : Prop := ∀ cs t, w.heap[bp]? = some (.cells cs t (0, 0)) → ∃ v, w'.heap[bp]? = some (.cells (cs.setIfInBounds 0 v) t (0, 0))
theorem set_set (cs : Array Value) (v u : Value) : (cs.setIfInBounds 0 v).setIfInBounds 0 u = cs.setIfInBounds 0 u := by
  apply Array.ext'
  simp
theorem set_get (cs : Array Value) : cs.setIfInBounds 0 (cs[0]?.getD undef) = cs := by
  apply Array.ext'
  simp only [Array.toList_setIfInBounds]
  cases h : cs.toList with
  | nil => rfl
  | cons x r =>
    have : cs[0]? = some x := by rw [← Array.getElem?_toList, h]; rfl
    rw [this]
    rfl
theorem KeepC.trans {bp : Nat} {w w1 w2 : World} (h : KeepC bp w w1) (k : KeepC bp w1 w2) : KeepC bp w w2 := fun cs t hb => by
  obtain ⟨v, h1⟩ := h cs t hb
  obtain ⟨v2, h2⟩ := k _ _ h1
  rw [set_set] at h2
  exact ⟨v2, h2⟩
theorem KeepC.of_eq {bp : Nat} {w w' : World} (e : w'.heap[bp]? = w.heap[bp]?) : KeepC bp w w' := fun cs t hb => by
  refine ⟨cs[0]?.getD undef, ?_⟩
  rw [set_get]
  exact e.trans hb
/-- What one store into the map leaves. -/
theorem PlM.upd {w w1 w2 : World} {S S' : Nat → Prop} {mb : Nat} {F : Int → Option Value} {f : Int → List Int} {k : Int} {v v' : Value} {l : List Int}
    (h : PlM w S mb F f) (hv : (F k).getD (.slice none 0 0) = v) (g1 : w.grownBy w1 v.ownBlock) (O : OwnI w1 0 v' l) (hl : l ≠ []) (hat : ∀ g, v'.ownBlock = some g → v.ownBlock = some g ∨ w.heap.size ≤ g)
    (M : IsMap w2 mb (fun i => if i = k then some v' else F i)) (g2 : w1.grownBy w2 (some mb)) (hS : ∀ b, S b → S' b) (hN : ∀ b, w.heap.size ≤ b → S' b) : PlM w2 S' mb (fun i => if i = k then some v' else F i) (fun o => if o = k then l else f o) := by
  have hmb := h.map.lt
  have hmap1 : ∀ g cur, w1.heap[g]? = some (Obj.cells cur 2 (0, 0)) → g ≠ mb := fun g cur hg e => by
    subst e
    obtain ⟨L, c, hL, _⟩ := h.map
    have hne : some g ≠ v.ownBlock := fun e' => by
      cases hF : F k with
      | none => rw [hF] at hv; subst hv; cases e'
      | some u =>
        rw [hF] at hv
        cases hv
        obtain ⟨_, cur', hc'⟩ := own_block (h.yes k _ hF).1.1 e'.symm
        rw [hL] at hc'
        cases hc'
    have := (g1.block g hmb hne).trans hL
    rw [hg] at this
    cases this
  have hSv : ∀ g, v.ownBlock = some g → S g := fun g hg => by
    cases hF : F k with
    | none => rw [hF] at hv; subst hv; cases hg
    | some u =>
      rw [hF] at hv
      cases hv
      exact (h.yes k _ hF).2.2 g hg
  have hother : ∀ k' u, k' ≠ k → F k' = some u → OwnI w2 0 u (f k') := fun k' u hne hu => by
    obtain ⟨h1, _, _⟩ := h.yes k' u hu
    refine ⟨own_same h1.1 (fun g hg => ?_), h1.2⟩
    obtain ⟨_, cur, hc⟩ := own_block h1.1 hg
    have e1 : w1.heap[g]? = w.heap[g]? := g1.block g (lt_of_block hc) (fun e => by
      cases hF : F k with
      | none => rw [hF] at hv; subst hv; cases e
      | some u' =>
        rw [hF] at hv
        cases hv
        exact hne (h.apart k' k u _ g hu hF hg e.symm))
    have hc1 := e1.trans hc
    exact (g2.block g (lt_of_block hc1) (fun e => hmap1 g cur hc1 (Option.some.inj e))).trans e1
  refine ⟨M, hS _ h.own, fun k' hk' => ?_, fun k' u hu => ?_, fun i j u u' g hi hj hg hg' => ?_⟩
  · by_cases e : k' = k
    · subst e; simp at hk'
    · simp only [e, if_false] at hk' ⊢
      exact h.no k' hk'
  · by_cases e : k' = k
    · subst e
      simp only [if_true, Option.some.injEq] at hu ⊢
      subst hu
      refine ⟨⟨own_same O.1 (fun g hg => ?_), O.2⟩, hl, fun g hg => ?_⟩
      · obtain ⟨_, cur, hc⟩ := own_block O.1 hg
        exact g2.block g (lt_of_block hc) (fun e => hmap1 g cur hc (Option.some.inj e))
      · rcases hat g hg with h1 | h1
        · exact hS g (hSv g h1)
        · exact hN g h1
    · simp only [e, if_false] at hu ⊢
      obtain ⟨_, h2, h3⟩ := h.yes k' u hu
      exact ⟨hother k' u e hu, h2, fun g hg => hS g (h3 g hg)⟩
  · by_cases ei : i = k
    · by_cases ej : j = k
      · exact ei.trans ej.symm
      · exfalso
        subst ei
        simp only [if_true, Option.some.injEq, ej, if_false] at hi hj
        subst hi
        obtain ⟨h1, _, h3⟩ := h.yes j u' hj
        obtain ⟨_, cur, hc⟩ := own_block h1.1 hg'
        rcases hat g hg with h4 | h4
        · cases hF : F i with
          | none => rw [hF] at hv; subst hv; cases h4
          | some u'' =>
            rw [hF] at hv
            cases hv
            exact ej (h.apart j i u' _ g hj hF hg' h4)
        · have := lt_of_block hc
          omega
    · by_cases ej : j = k
      · exfalso
        subst ej
        simp only [if_true, Option.some.injEq, ei, if_false] at hi hj
        subst hj
        obtain ⟨h1, _, h3⟩ := h.yes i u hi
        obtain ⟨_, cur, hc⟩ := own_block h1.1 hg
        rcases hat g hg' with h4 | h4
        · cases hF : F j with
          | none => rw [hF] at hv; subst hv; cases h4
          | some u'' =>
            rw [hF] at hv
            cases hv
            exact ei (h.apart i j u _ g hi hF hg h4)
        · have := lt_of_block hc
          omega
      · simp only [ei, ej, if_false] at hi hj
        exact h.apart i j u u' g hi hj hg hg'
end Go.Proofs.Ytigmpmichhghdaa
