/- Ops, slices of them; what is done to a Counter. -/
import Derived.Test.YtkkilenokpoaoaaBase
namespace Go.Proofs.Ytkkilenokpoaoaa
open Go.RowKit
set_option maxRecDepth 100000
/-- An op: the object's number, whether it adds, the value's kind and number. -/
structure Pp where
  oop : Int
  add : Bool
  k : Int
  n : Int
def I64 (x : Int) : Prop := -9223372036854775808 ≤ x ∧ x ≤ 9223372036854775807
def Pp.ok (p : Pp) : Prop := I64 p.oop ∧ I64 p.k ∧ I64 p.n
def Pp.cells (p : Pp) : List Value := [.int .i64 p.oop, .bool p.add, .int .i64 p.k, .int .i64 p.n]
def flatP (ps : List Pp) : List Value := ps.flatMap Pp.cells
theorem flatP_len : ∀ ps : List Pp, (flatP ps).length = ps.length * 4
  | [] => rfl
  | s :: t => by
    have h := flatP_len t
    have e : flatP (s :: t) = s.cells ++ flatP t := rfl
    rw [e, List.length_append, h, List.length_cons]
    simp [Pp.cells]
    omega
theorem flatP_app (ss tt : List Pp) : flatP (ss ++ tt) = flatP ss ++ flatP tt := by unfold flatP; rw [List.flatMap_append]
theorem flatP_at : ∀ (ss : List Pp) (i : Nat) (s : Pp), ss[i]? = some s → ∀ j, j < 4 → (flatP ss)[i * 4 + j]? = s.cells[j]?
  | [], _, _, h, _, _ => by cases h
  | t :: r, 0, s, h, j, hj => by
    cases h
    have e : flatP (t :: r) = t.cells ++ flatP r := rfl
    rw [e, Nat.zero_mul, Nat.zero_add, List.getElem?_append_left (by simp [Pp.cells]; omega)]
  | t :: r, i + 1, s, h, j, hj => by
    have e : flatP (t :: r) = t.cells ++ flatP r := rfl
    have h' : r[i]? = some s := h
    rw [e, List.getElem?_append_right (by simp [Pp.cells]; omega), show (i + 1) * 4 + j - t.cells.length = i * 4 + j by simp [Pp.cells]; omega]
    exact flatP_at r i s h' j hj
theorem flatP_one (ss : List Pp) : ∀ u ∈ flatP ss, u.oneCell' = true := by
  intro u hu
  unfold flatP at hu
  obtain ⟨s, _, hs⟩ := List.mem_flatMap.1 hu
  simp only [Pp.cells, List.mem_cons, List.not_mem_nil, or_false] at hs
  rcases hs with rfl | rfl | rfl | rfl <;> rfl
/-- An op in memory. -/
def IsPp (w : World) (b off : Nat) (p : Pp) : Prop := w.cell? ⟨b, off, none⟩ = some (.int .i64 p.oop) ∧ w.cell? ⟨b, off + 1, none⟩ = some (.bool p.add) ∧ w.cell? ⟨b, off + 2, none⟩ = some (.int .i64 p.k) ∧ w.cell? ⟨b, off + 3, none⟩ = some (.int .i64 p.n)
theorem IsPp.below {w w' : World} {b off : Nat} {p : Pp} (h : IsPp w b off p) (hb : Below w.heap.size w w') : IsPp w' b off p := by
  obtain ⟨h0, h1, h2, h3⟩ := h
  have hl := lt_of_cell h0
  exact ⟨(hb.cell (p := ⟨b, _, none⟩) hl).trans h0, (hb.cell (p := ⟨b, _, none⟩) hl).trans h1, (hb.cell (p := ⟨b, _, none⟩) hl).trans h2, (hb.cell (p := ⟨b, _, none⟩) hl).trans h3⟩
/-- A slice of ops that is only read. -/
structure IsP (w : World) (a : Option Addr) (len cap : Nat) (ps : List Pp) : Prop where
  size : ps.length = len
  room : len ≤ cap
  most : cap ≤ maxLen
  nil0 : a = none → cap = 0
  wf : ∀ p ∈ ps, p.ok
  cells : 0 < len → ∃ b off, a = some ⟨b, off, none⟩ ∧ ∀ i p, ps[i]? = some p → IsPp w b (off + i * 4) p
theorem IsP.below {w w' : World} {a : Option Addr} {len cap : Nat} {ps : List Pp} (h : IsP w a len cap ps) (hb : Below w.heap.size w w') : IsP w' a len cap ps :=
  ⟨h.size, h.room, h.most, h.nil0, h.wf, fun h0 => by obtain ⟨b, off, e, k⟩ := h.cells h0; exact ⟨b, off, e, fun i x hx => (k i x hx).below hb⟩⟩
theorem IsP.at_ {w : World} {a : Option Addr} {len cap : Nat} {ps : List Pp} (h : IsP w a len cap ps) (k : Nat) (hk : k < len) : ∃ b off p, a = some ⟨b, off, none⟩ ∧ b < w.heap.size ∧ Hid (ps[k]? = some p) ∧ IsPp w b (off + k * 4) p ∧ p.ok := by
  obtain ⟨b, off, e, c⟩ := h.cells (by omega)
  have hs := h.size
  obtain ⟨x, hx⟩ : ∃ x, ps[k]? = some x := ⟨_, List.getElem?_eq_getElem (by omega)⟩
  have hc := c k x hx
  exact ⟨b, off, x, e, lt_of_cell hc.1, hx, hc, h.wf x (List.mem_of_getElem? hx)⟩
theorem isP_nil (w : World) : IsP w none 0 0 [] := ⟨rfl, Nat.le_refl _, by decide, fun _ => rfl, by simp, fun h => absurd h (by decide)⟩
theorem isPp_own {w : World} {base g n cap : Nat} {ps : List Pp} (h : w.ownsRow base 66 4 (.slice (some ⟨g, 0, none⟩) n cap) n (flatP ps)) {i : Nat} {p : Pp} (hp : ps[i]? = some p) : IsPp w g (0 + i * 4) p := by
  have hc := fun j (hj : j < 4) => World.ownsRow.cells h (g := g) rfl (i * 4 + j) _ ((flatP_at ps i p hp j hj).trans (List.getElem?_eq_getElem (by simpa [Pp.cells] using hj)))
  have c0 := hc 0 (by decide)
  have c1 := hc 1 (by decide)
  have c2 := hc 2 (by decide)
  have c3 := hc 3 (by decide)
  rw [addr_add] at c0 c1 c2 c3
  exact ⟨c0, c1, c2, c3⟩
theorem isP_own {w : World} {base g n cap : Nat} {ps : List Pp} (h : w.ownsRow base 66 4 (.slice (some ⟨g, 0, none⟩) n cap) n (flatP ps)) (hb : ∀ p ∈ ps, p.ok) : IsP w (some ⟨g, 0, none⟩) n cap ps := by
  have hl : ps.length = n := by have := h.1; rw [flatP_len] at this; omega
  have h2 := h.2
  refine ⟨hl, ?_, ?_, by simp, hb, fun _ => ⟨g, 0, rfl, fun i p hi => isPp_own h hi⟩⟩
  · rcases h2 with ⟨h', _⟩ | ⟨g', cap', cur, h', _, _, hnc, _⟩
    · simp at h'
    · simp at h'; omega
  · rcases h2 with ⟨h', _⟩ | ⟨g', cap', cur, h', _, _, _, hcm, _⟩
    · simp at h'
    · simp at h'; omega
/-- A slice of ops of the call's own. -/
def OwnP (w : World) (base : Nat) (v : Value) (ps : List Pp) : Prop :=
  w.ownsRow base 66 4 v ps.length (flatP ps) ∧ ∃ a cap, v = .slice a ps.length cap ∧ IsP w a ps.length cap ps
theorem ownP_of {w : World} {base n : Nat} {v : Value} {ps : List Pp} (h : w.ownsRow base 66 4 v n (flatP ps)) (hb : ∀ p ∈ ps, p.ok) : OwnP w base v ps := by
  have hl : ps.length = n := by have := h.1; rw [flatP_len] at this; omega
  subst hl
  refine ⟨h, ?_⟩
  rcases h.2 with ⟨rfl, h0⟩ | ⟨g, cap, cur, rfl, _⟩
  · have : ps = [] := List.eq_nil_of_length_eq_zero h0
    subst this
    exact ⟨none, 0, rfl, isP_nil w⟩
  · exact ⟨_, cap, rfl, isP_own h hb⟩
theorem OwnP.below {w w' : World} {base : Nat} {v : Value} {ps : List Pp} (h : OwnP w base v ps) (hb : Below w.heap.size w w') : OwnP w' base v ps :=
  ⟨own_below h.1 hb, by obtain ⟨a, cap, e, k⟩ := h.2; exact ⟨a, cap, e, k.below hb⟩⟩
/-- All blocks but the one that a value owns are as they were. -/
structure Kp (v : Value) (w w' : World) : Prop where
  os : w'.os = w.os
  tape : w'.tape = w.tape
  output : w'.output = w.output
  size : w.heap.size ≤ w'.heap.size
  block : ∀ j, j < w.heap.size → v.ownBlock ≠ some j → w'.heap[j]? = w.heap[j]?
theorem Kp.of {v : Value} {w w' : World} (h : Below w.heap.size w w') : Kp v w w' := ⟨h.os, h.tape, h.output, h.size, fun j hj _ => h.block j hj⟩
theorem Kp.below {v : Value} {N : Nat} {w0 w w' : World} (k : Kp v w w') (B : Below N w0 w) (hN : N ≤ w.heap.size) (hv : ∀ g, v.ownBlock = some g → N ≤ g) : Below N w0 w' :=
  ⟨k.os.trans B.os, k.tape.trans B.tape, k.output.trans B.output, Nat.le_trans B.size k.size, fun j hj => (k.block j (by omega) (fun e => by have := hv j e; omega)).trans (B.block j hj)⟩
/-- A Counter's slots behind an op. -/
def cnt (vs : List (Int × Int)) (p : Pp) : Option (List (Int × Int)) :=
  match vs with
  | [] => none
  | (k, n) :: t => if k = 3 ∧ p.k = 3 ∧ p.add = true ∧ -1152921504606846976 ≤ n + p.n ∧ n + p.n < 1152921504606846976 then some ((k, n + p.n) :: t) else none
/-- What a call leaves that does an op: no slots, or slots of the call's own. -/
def Did (base : Nat) (v : Value) (w : World) (r : Option (List (Int × Int))) (e : Ending) (w' : World) : Prop :=
  match r with
  | none => e = .returned (.tuple #[.slice none 0 0, .bool false]) ∧ Kp v w w'
  | some us => ∃ a c, e = .returned (.tuple #[.slice a us.length c, .bool true]) ∧ OwnV w' base (.slice a us.length c) us ∧ Kp v w w'
end Go.Proofs.Ytkkilenokpoaoaa
