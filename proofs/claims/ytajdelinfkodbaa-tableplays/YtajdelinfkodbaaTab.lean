/- Rows of versions, and tables of pasts: what lies in memory. -/
import Derived.Test.YtajdelinfkodbaaTkn
import Derived.Test.YtajdelinfkodbaaPst
import Derived.Test.YtajdelinfkodbaaMapI
import Derived.Deep.DeepAppendRoom
namespace Go.Proofs.Ytajdelinfkodbaa
open Go.RowKit
set_option maxRecDepth 100000
/-- All is kept but for some blocks. -/
structure Fr (S : Nat → Prop) (w w' : World) : Prop where
  os : w'.os = w.os
  tape : w'.tape = w.tape
  output : w'.output = w.output
  size : w.heap.size ≤ w'.heap.size
  block : ∀ b, b < w.heap.size → ¬ S b → w'.heap[b]? = w.heap[b]?
theorem Fr.refl (S : Nat → Prop) (w : World) : Fr S w w := ⟨rfl, rfl, rfl, Nat.le_refl _, fun _ _ _ => rfl⟩
theorem Fr.of_below {S : Nat → Prop} {w w' : World} (h : Below w.heap.size w w') : Fr S w w' := ⟨h.os, h.tape, h.output, h.size, fun b hb _ => h.block b hb⟩
theorem Fr.mono {S S' : Nat → Prop} {w w' : World} (h : Fr S w w') (hS : ∀ b, b < w.heap.size → S b → S' b) : Fr S' w w' := ⟨h.os, h.tape, h.output, h.size, fun b hb hn => h.block b hb (fun k => hn (hS b hb k))⟩
theorem Fr.trans {S S1 : Nat → Prop} {w w1 w2 : World} (h : Fr S w w1) (k : Fr S1 w1 w2) (hS : ∀ b, b < w.heap.size → S1 b → S b) : Fr S w w2 :=
  ⟨k.os.trans h.os, k.tape.trans h.tape, k.output.trans h.output, Nat.le_trans h.size k.size, fun b hb hn => (k.block b (Nat.lt_of_lt_of_le hb h.size) (fun q => hn (hS b hb q))).trans (h.block b hb hn)⟩
theorem Fr.below {S : Nat → Prop} {w0 w w' : World} {N : Nat} (k : Fr S w w') (B : Below N w0 w) (hN : N ≤ w.heap.size) (hS : ∀ b, S b → N ≤ b) : Below N w0 w' :=
  ⟨k.os.trans B.os, k.tape.trans B.tape, k.output.trans B.output, Nat.le_trans B.size k.size, fun b hb => (k.block b (Nat.lt_of_lt_of_le hb hN) (fun q => by have := hS b q; omega)).trans (B.block b hb)⟩
/-- The rows of values and bytes that are new, too. -/
def plusR (R : Nat → Prop) (w w' : World) : Nat → Prop := fun g => R g ∨ (w.heap.size ≤ g ∧ ∃ cur e, (e = 84 ∨ e = 5) ∧ w'.heap[g]? = some (.cells cur e (0, 0)))
def InT (T : Nat → Prop) (v : Value) : Prop := ∀ g, v.ownBlock = some g → T g
structure ElT (w : World) (T : Nat → Prop) (s : Cs) : Prop where
  el : El w s
  v : InT T (.slice s.sa s.sn s.sc)
  b : InT T (.slice s.ba s.bn s.bc)
theorem El.same' {w w' : World} {s : Cs} (h : El w s) (h1 : ∀ g, (Value.slice s.sa s.sn s.sc).ownBlock = some g → w'.heap[g]? = w.heap[g]?) (h2 : ∀ g, (Value.slice s.ba s.bn s.bc).ownBlock = some g → w'.heap[g]? = w.heap[g]?) : El w' s := by
  obtain ⟨h0, ⟨b1, q1⟩, ⟨b2, q2⟩⟩ := h
  exact ⟨h0, ⟨b1, q1.same h1⟩, ⟨b2, q2.same h2⟩⟩
theorem El.lt {w : World} {s : Cs} (h : El w s) : (∀ g, (Value.slice s.sa s.sn s.sc).ownBlock = some g → g < w.heap.size ∧ ∃ cur, w.heap[g]? = some (.cells cur 84 (0, 0))) ∧ (∀ g, (Value.slice s.ba s.bn s.bc).ownBlock = some g → g < w.heap.size ∧ ∃ cur, w.heap[g]? = some (.cells cur 5 (0, 0))) := by
  obtain ⟨_, ⟨_, h1⟩, ⟨_, h2⟩⟩ := h
  refine ⟨fun g hg => ?_, fun g hg => ?_⟩
  · obtain ⟨_, cur, hc⟩ := own_block h1.1 hg
    exact ⟨lt_of_block hc, cur, hc⟩
  · obtain ⟨_, cur, hc⟩ := own_block h2.1 hg
    exact ⟨lt_of_block hc, cur, hc⟩
theorem ElT.same {w w' : World} {T T' : Nat → Prop} {s : Cs} (h : ElT w T s) (hT : ∀ g, T g → T' g) (hk : ∀ g, g < w.heap.size → T g → w'.heap[g]? = w.heap[g]?) : ElT w' T' s :=
  ⟨h.el.same' (fun g hg => hk g (h.el.lt.1 g hg).1 (h.v g hg)) (fun g hg => hk g (h.el.lt.2 g hg).1 (h.b g hg)), fun g hg => hT g (h.v g hg), fun g hg => hT g (h.b g hg)⟩
/-- A row of which no more is used than stands there, in a block that is somebody else's too. -/
def ClipR (w : World) (S T : Nat → Prop) (v : Value) (ss : List Cs) : Prop :=
  ∃ (g : Nat) (cur : Array Value), v = .slice (some ⟨g, 0, none⟩) ss.length ss.length ∧ 0 ≤ ss.length ∧ ss.length ≤ maxLen ∧ T g ∧ ¬ S g ∧ w.heap[g]? = some (.cells cur 104 (0, 0)) ∧ ∀ (j : Nat) (u : Value), (flatC ss)[j]? = some u → cur[j]? = some u
/-- A row of versions. -/
def RowT (w : World) (S T : Nat → Prop) (v : Value) (xs : List Ch) : Prop :=
  ∃ ss : List Cs, ss.map Cs.x = xs ∧ (∀ s ∈ ss, ElT w T s) ∧ (∀ x ∈ xs, -9223372036854775808 ≤ x.oop ∧ x.oop ≤ 9223372036854775807) ∧ ((w.ownsRow 0 104 5 v ss.length (flatC ss) ∧ InT S v) ∨ ClipR w S T v ss)
theorem RowT.nil (w : World) (S T : Nat → Prop) : RowT w S T (.slice none 0 0) [] := ⟨[], rfl, by simp, by simp, .inl ⟨World.ownsRow_nil _ _ _ _, fun g hg => by simp [Value.ownBlock] at hg⟩⟩
theorem RowT.shape {w : World} {S T : Nat → Prop} {v : Value} {xs : List Ch} (h : RowT w S T v xs) : ∃ a n c, v = .slice a n c ∧ n = xs.length := by
  obtain ⟨ss, rfl, _, _, (⟨h1, _⟩ | ⟨g, cur, rfl, _⟩)⟩ := h
  · rcases h1.2 with ⟨rfl, h0⟩ | ⟨g, cap, cur, rfl, _⟩
    · exact ⟨none, 0, 0, rfl, by rw [List.length_map, h0]⟩
    · exact ⟨_, _, _, rfl, by rw [List.length_map]⟩
  · exact ⟨_, _, _, rfl, by rw [List.length_map]⟩
theorem RowT.block {w : World} {S T : Nat → Prop} {v : Value} {xs : List Ch} (h : RowT w S T v xs) {g : Nat} (hg : v.ownBlock = some g) : (S g ∨ T g) ∧ g < w.heap.size ∧ ∃ cur, w.heap[g]? = some (.cells cur 104 (0, 0)) := by
  obtain ⟨ss, _, _, _, (⟨h1, h2⟩ | ⟨g', cur, rfl, _, _, h3, _, h4, _⟩)⟩ := h
  · obtain ⟨_, cur, hc⟩ := own_block h1 hg
    exact ⟨.inl (h2 g hg), lt_of_block hc, cur, hc⟩
  · simp [Value.ownBlock] at hg
    subst hg
    exact ⟨.inr h3, lt_of_block h4, cur, h4⟩
theorem RowT.same {w w' : World} {S S' T T' : Nat → Prop} {v : Value} {xs : List Ch} (h : RowT w S T v xs) (hS : ∀ g, S g → S' g) (hN : ∀ g, g < w.heap.size → ¬ S g → ¬ S' g) (hT : ∀ g, T g → T' g) (hk : ∀ g, g < w.heap.size → T g → w'.heap[g]? = w.heap[g]?) (hv : ∀ g, v.ownBlock = some g → w'.heap[g]? = w.heap[g]?) : RowT w' S' T' v xs := by
  obtain ⟨ss, h0, h1, h2, h3⟩ := h
  refine ⟨ss, h0, fun s hs => (h1 s hs).same hT hk, h2, ?_⟩
  rcases h3 with ⟨q1, q2⟩ | ⟨g, cur, rfl, q1, q2, q3, q4, q5, q6⟩
  · exact .inl ⟨own_same q1 hv, fun g hg => hS g (q2 g hg)⟩
  · exact .inr ⟨g, cur, rfl, q1, q2, hT g q3, hN g (lt_of_block q5) q4, (hv g rfl).trans q5, q6⟩
theorem RowT.isC {w : World} {S T : Nat → Prop} {a : Option Addr} {n c : Nat} {xs : List Ch} (h : RowT w S T (.slice a n c) xs) : IsC w a n c xs := by
  obtain ⟨ss, rfl, h1, h2, h3⟩ := h
  have hc : ∀ (g : Nat), (∀ j u, (flatC ss)[j]? = some u → w.cell? ⟨g, j, none⟩ = some u) → ∀ i x, (ss.map Cs.x)[i]? = some x → IsCh w g (0 + i * 5) x := by
    intro g hg i x hx
    rw [List.getElem?_map] at hx
    cases hs : ss[i]? with
    | none => rw [hs] at hx; cases hx
    | some s =>
      rw [hs] at hx
      cases hx
      have key : ∀ j v, s.cells[j]? = some v → w.cell? ⟨g, 0 + i * 5 + j, none⟩ = some v := fun j v hj => by
        have h5 : j < 5 := by have := (List.getElem?_eq_some_iff.1 hj).1; simpa [Cs.cells] using this
        rw [Nat.zero_add]
        exact hg _ _ (by rw [flatC_at ss i s hs j h5]; exact hj)
      exact ⟨s.sa, s.sn, s.sc, s.ba, s.bn, s.bc, key 0 _ rfl, key 1 _ rfl, key 2 _ rfl, key 3 _ rfl, key 4 _ rfl, (h1 s (List.mem_of_getElem? hs)).el.isO⟩
  rcases h3 with ⟨q1, _⟩ | ⟨g, cur, e, q1, q2, _, _, q5, q6⟩
  · rcases q1.2 with ⟨e, h0⟩ | ⟨g, cap, cur, e, hrest⟩
    · have : ss = [] := List.eq_nil_of_length_eq_zero h0
      subst this
      cases e
      exact ⟨rfl, Nat.le_refl _, by decide, fun _ => rfl, by simp, fun h => absurd h (by simp)⟩
    · cases e
      refine ⟨by rw [List.length_map], hrest.2.2.1, hrest.2.2.2.1, by simp, h2, fun _ => ⟨g, 0, rfl, hc g (fun j u hj => ?_)⟩⟩
      have := World.ownsRow.cells q1 (g := g) rfl j u hj
      rw [addr_add, Nat.zero_add] at this
      exact this
  · cases e
    refine ⟨by rw [List.length_map], Nat.le_refl _, q2, by simp, h2, fun _ => ⟨g, 0, rfl, hc g (fun j u hj => ?_)⟩⟩
    rw [cell_of_row w g j cur 104 _ q5]
    exact q6 j u hj
theorem flatC_len' (ss : List Cs) : (flatC ss).length = ss.length * 5 := by
  induction ss with
  | nil => rfl
  | cons s t ih =>
    have e : flatC (s :: t) = s.cells ++ flatC t := rfl
    rw [e, List.length_append, ih, List.length_cons]
    simp [Cs.cells]
    omega
/-- append of one version: where the new row lies. -/
theorem app_ver (w : World) {S T : Nat → Prop} {v : Value} {xs : List Ch} (h : RowT w S T v xs) (ty : Nat) (y : Cs) (nb : Nat) (hc : ∀ j u, y.cells[j]? = some u → w.cell? ⟨nb, j, none⟩ = some u) (hy : ElT w T y) (hyo : -9223372036854775808 ≤ y.x.oop ∧ y.x.oop ≤ 9223372036854775807) (hlen : xs.length ≤ 1099511627776)
    (hSt : ∀ g cur e, S g → w.heap[g]? = some (.cells cur e (0, 0)) → e ≠ 84 ∧ e ≠ 5) :
    ∃ a' n' c' w' row, (Builtin.append_ #[76, 76] ty #[v, .slice (some ⟨nb, 0, none⟩) 1 1]).run Try.prog w = .ok (.slice a' n' c') w' ∧ RowT w' (fun g => S g ∨ (w.heap.size ≤ g ∧ (Value.slice a' n' c').ownBlock = some g)) T (.slice a' n' c') (xs ++ [y.x]) ∧ w.grownBy w' row ∧ (∀ g, row = some g → S g ∧ v.ownBlock = some g ∧ ∃ cur, w'.heap[g]? = some (.cells cur 104 (0, 0))) ∧ ∀ g, (Value.slice a' n' c').ownBlock = some g → (S g ∧ v.ownBlock = some g) ∨ w.heap.size ≤ g := by
  obtain ⟨i, hi, hz, hs, hb⟩ := info_parts Try.info104
  obtain ⟨ss, rfl, h1, h2, h3⟩ := h
  rw [List.length_map] at hlen
  have hnews : ∀ j u, (flatC [y])[j]? = some u → w.cell? ((⟨nb, 0, none⟩ : Addr).add j) = some u := cell_at rfl hc
  have h1c : ∀ u ∈ flatC [y], u.oneCell' = true := flatC_one _
  have hmap : ss.map Cs.x ++ [y.x] = (ss ++ [y]).map Cs.x := by simp
  have hel : ∀ (w' : World) (row : Option Nat), w.grownBy w' row → (∀ g, row = some g → S g) → ∀ s ∈ ss ++ [y], ElT w' T s := by
    intro w' row hg hr s hs'
    have e0 : ElT w T s := by
      rcases List.mem_append.1 hs' with hs' | hs'
      · exact h1 s hs'
      · rw [List.mem_singleton] at hs'; subst hs'; exact hy
    refine ⟨e0.el.same' (fun g hg' => hg.block g (e0.el.lt.1 g hg').1 (fun e => ?_)) (fun g hg' => hg.block g (e0.el.lt.2 g hg').1 (fun e => ?_)), e0.v, e0.b⟩
    · obtain ⟨_, cur, hc'⟩ := e0.el.lt.1 g hg'
      exact (hSt g cur 84 (hr g e.symm) hc').1 rfl
    · obtain ⟨_, cur, hc'⟩ := e0.el.lt.2 g hg'
      exact (hSt g cur 5 (hr g e.symm) hc').2 rfl
  have hoops : ∀ x ∈ (ss ++ [y]).map Cs.x, -9223372036854775808 ≤ x.oop ∧ x.oop ≤ 9223372036854775807 := by
    intro x hx
    rw [← hmap] at hx
    rcases List.mem_append.1 hx with hx | hx
    · exact h2 x hx
    · rw [List.mem_singleton] at hx; subst hx; exact hyo
  rw [hmap]
  rcases h3 with ⟨q1, q2⟩ | ⟨g0, cur, rfl, q1, q2, q3, q4, q5, q6⟩
  · obtain ⟨v', w', hr, o1, o2, _⟩ := run_append_own (P := Try.prog) w 0 76 ty 104 i _ 5 72 Try.underlying76 hi hz hs hb rfl (by decide) v ss.length _ q1 ⟨nb, 0, none⟩ 1 1 (flatC [y]) rfl hnews h1c (by unfold maxLen; omega) (by omega) (Nat.zero_le _)
    rw [← flatC_app] at o1
    have o1' : w'.ownsRow 0 104 5 v' (ss ++ [y]).length (flatC (ss ++ [y])) := by rw [List.length_append]; exact o1
    obtain ⟨a', n', c', rfl⟩ : ∃ a n c, v' = .slice a n c := by
      rcases o1'.2 with ⟨rfl, _⟩ | ⟨g, cap, cur, rfl, _⟩
      · exact ⟨_, _, _, rfl⟩
      · exact ⟨_, _, _, rfl⟩
    have at6 : ∀ g, (Value.slice a' n' c').ownBlock = some g → v.ownBlock = some g ∨ w.heap.size ≤ g := by
      intro g hg
      rcases q1.2 with ⟨rfl, h0⟩ | ⟨g0, cap, cur, rfl, hbg, hgh, hnc, hcm, hcs, htake⟩
      · have hx0 : ss = [] := List.eq_nil_of_length_eq_zero h0
        subst hx0
        obtain ⟨v2, w2, hr2, h12, _, _⟩ := run_append_own (P := Try.prog) w w.heap.size 76 ty 104 i _ 5 72 Try.underlying76 hi hz hs hb rfl (by decide) (.slice none 0 0) 0 [] (World.ownsRow_nil _ _ _ _) ⟨nb, 0, none⟩ 1 1 (flatC [y]) rfl hnews h1c (by unfold maxLen; omega) (by omega) (Nat.le_refl _)
        rw [hr] at hr2
        injection hr2 with e1 e2
        subst e1
        exact .inr (own_block h12 hg).1
      · by_cases hroom : ss.length + 1 ≤ cap
        · obtain ⟨w2, hr2, _, _⟩ := run_append_own_spare (P := Try.prog) w 0 76 ty 104 i 5 Try.underlying76 hi hs g0 ss.length cap _ q1 ⟨nb, 0, none⟩ 1 1 (flatC [y]) rfl hnews h1c hroom
          rw [hr] at hr2
          injection hr2 with e1 e2
          rw [e1] at hg
          exact .inl hg
        · have holds : ∀ j u, (flatC ss)[j]? = some u → w.cell? ((⟨g0, 0, none⟩ : Addr).add j) = some u := World.ownsRow.cells q1 (g := g0) rfl
          have hr2 := run_append_grow (P := Try.prog) w 76 ty 104 i _ Try.underlying76 hi hz ⟨g0, 0, none⟩ ss.length cap _ (by rw [hs]; exact q1.1) holds ⟨nb, 0, none⟩ 1 1 (flatC [y]) (by rw [hs]; rfl) hnews (by omega) (by omega) (growslice_fits (by omega) (by rw [hb]; omega))
          rw [hr] at hr2
          injection hr2 with e1 e2
          rw [e1] at hg
          simp [Value.ownBlock] at hg
          exact .inr (by omega)
    have at7 : ∀ g, v.ownBlock = some g → ∃ cur, w'.heap[g]? = some (.cells cur 104 (0, 0)) := by
      intro g hg
      rcases q1.2 with ⟨rfl, h0⟩ | ⟨g0, cap, cur, rfl, hbg, hgh, hnc, hcm, hcs, htake⟩
      · simp [Value.ownBlock] at hg
      · simp [Value.ownBlock] at hg
        subst hg
        by_cases hroom : ss.length + 1 ≤ cap
        · obtain ⟨w2, hr2, _, _⟩ := run_append_own_spare (P := Try.prog) w 0 76 ty 104 i 5 Try.underlying76 hi hs g0 ss.length cap _ q1 ⟨nb, 0, none⟩ 1 1 (flatC [y]) rfl hnews h1c hroom
          rw [hr] at hr2
          injection hr2 with e1 e2
          rw [e1] at o1'
          exact (own_block o1' (g := g0) rfl).2
        · have holds : ∀ j u, (flatC ss)[j]? = some u → w.cell? ((⟨g0, 0, none⟩ : Addr).add j) = some u := World.ownsRow.cells q1 (g := g0) rfl
          have hr2 := run_append_grow (P := Try.prog) w 76 ty 104 i _ Try.underlying76 hi hz ⟨g0, 0, none⟩ ss.length cap _ (by rw [hs]; exact q1.1) holds ⟨nb, 0, none⟩ 1 1 (flatC [y]) (by rw [hs]; rfl) hnews (by omega) (by omega) (growslice_fits (by omega) (by rw [hb]; omega))
          rw [hr] at hr2
          injection hr2 with e1 e2
          rw [e2]
          exact ⟨cur, (Below.heap_alloc w.drew _ g0 (lt_of_block hgh)).trans hgh⟩
    refine ⟨a', n', c', w', v.ownBlock, hr, ⟨ss ++ [y], rfl, hel w' _ o2 (fun g hg => q2 g hg), hoops, .inl ⟨o1', fun g hg => ?_⟩⟩, o2, fun g hg => ⟨q2 g hg, hg, at7 g hg⟩, fun g hg => ?_⟩
    · rcases at6 g hg with h | h
      · exact .inl (q2 g h)
      · exact .inr ⟨h, hg⟩
    · rcases at6 g hg with h | h
      · exact .inl ⟨q2 g h, h⟩
      · exact .inr h
  · have holds : ∀ j u, (flatC ss)[j]? = some u → w.cell? ((⟨g0, 0, none⟩ : Addr).add j) = some u := fun j u hj => by
      rw [addr_add, Nat.zero_add, cell_of_row w g0 j cur 104 _ q5]
      exact q6 j u hj
    have hr2 := run_append_grow (P := Try.prog) w 76 ty 104 i _ Try.underlying76 hi hz ⟨g0, 0, none⟩ ss.length ss.length _ (by rw [hs]; exact flatC_len' ss) holds ⟨nb, 0, none⟩ 1 1 (flatC [y]) (by rw [hs]; rfl) hnews (by omega) (by omega) (growslice_fits (by omega) (by rw [hb]; omega))
    have hge := grownCap_ge w (ss.length + 1) ss.length 104
    have hcm := grownCap_le_maxLen w (ss.length + 1) ss.length 104 (by unfold maxLen; omega)
    refine ⟨_, _, _, _, none, hr2, ⟨ss ++ [y], rfl, hel _ none ⟨rfl, rfl, rfl, by simp, fun k hk _ => Below.heap_alloc w.drew _ k hk⟩ (fun g hg => by cases hg), hoops, .inl ⟨⟨?_, .inr ⟨w.heap.size, _, _, by rw [List.length_append]; rfl, Nat.zero_le _, heap_alloc_new w.drew _, by rw [List.length_append]; exact hge, hcm, ?_, ?_⟩⟩, fun g hg => ?_⟩⟩, ⟨rfl, rfl, rfl, by simp, fun k hk _ => Below.heap_alloc w.drew _ k hk⟩, fun g hg => (by cases hg), fun g hg => ?_⟩
    · exact flatC_len' _
    · rw [Array.size_append, size_zeroCells, Array.size_append]
      simp only [List.size_toArray, flatC_len', List.length_singleton]
      show ss.length * 5 + 1 * 5 + (grownCap w (ss.length + 1) ss.length 104 - (ss.length + 1)) * 5 = grownCap w (ss.length + 1) ss.length 104 * 5
      omega
    · rw [flatC_app, Array.toList_append, Array.toList_append]
      exact List.take_left' (by rw [List.length_append, List.toList_toArray, List.toList_toArray, flatC_len', flatC_len', List.length_append]; simp; omega)
    · have hg' := hg
      simp [Value.ownBlock] at hg'
      exact .inr ⟨by omega, hg⟩
    · simp [Value.ownBlock] at hg
      exact .inr (by omega)
end Go.Proofs.Ytajdelinfkodbaa
