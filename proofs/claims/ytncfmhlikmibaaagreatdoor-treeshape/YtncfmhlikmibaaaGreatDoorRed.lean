/- Parts of a source in memory. -/
import Derived.Test.YtncfmhlikmibaaaGreatDoorTreR
import Derived.WalkKit
import Derived.Laws.AppendOwn
import Derived.Below
import Derived.Test.YtncfmhlikmibaaaGreatDoorTok
import Derived.StillTailTactics
import Derived.Deep.RegionWith
import Derived.WalkMore
import Derived.Deep.CutRange
import Derived.Deep.CutBlock
namespace Go.Proofs.YtncfmhlikmibaaaGreatDoor
open Go.RowKit
set_option maxRecDepth 100000
theorem addrAdd (b off i : Nat) : (⟨b, off, none⟩ : Addr).add i = ⟨b, off + i, none⟩ := by unfold Addr.add; split <;> simp_all
/-- A slice that reads as these cells, its block in a set. -/
structure SlF (A : Nat → Prop) (w : World) (a : Option Addr) (n c : Nat) (fl : List Value) : Prop where
  room : n ≤ c
  most : c ≤ maxLen
  nil0 : a = none → c = 0
  cells : 0 < fl.length → ∃ b off, a = some ⟨b, off, none⟩ ∧ A b ∧ ∀ j u, fl[j]? = some u → w.cell? ⟨b, off + j, none⟩ = some u
theorem SlF.nil (A : Nat → Prop) (w : World) : SlF A w none 0 0 [] := ⟨Nat.le_refl _, by decide, fun _ => rfl, fun h => absurd h (by decide)⟩
theorem SlF.imp {A A' : Nat → Prop} {w w' : World} {a : Option Addr} {n c : Nat} {fl : List Value} (h : ∀ b, b < w.heap.size → A b → A' b ∧ w'.heap[b]? = w.heap[b]?) (s : SlF A w a n c fl) : SlF A' w' a n c fl :=
  ⟨s.room, s.most, s.nil0, fun h0 => by
    obtain ⟨b, off, ha, hA, hc⟩ := s.cells h0
    have hb : b < w.heap.size := block_lt_of_cell (hc 0 _ (List.getElem?_eq_getElem h0))
    exact ⟨b, off, ha, (h b hb hA).1, fun j u hj => (World.cell?_of_block (a := ⟨b, off + j, none⟩) (h b hb hA).2).trans (hc j u hj)⟩⟩
def strV (s : List Int) : Value := .string (strOfNums s)
mutual
/-- A part, as it lies in memory: its blocks in a set. -/
def NdV (A : Nat → Prop) (w : World) : Nd → Value → Prop
  | .mk k t p n l kids, v => ∃ na nc ka kc fl, v = .agg #[.int .i64 k, .string (strOfNums t), .int .i64 (p : Int), .int .i64 (n : Int), .slice na l.length nc, .slice ka kids.length kc] ∧ SlF A w na l.length nc (l.map strV) ∧ SlF A w ka kids.length kc fl ∧ KsF A w kids fl ∧ l.length ≤ 100000 ∧ kids.length ≤ 100000 ∧ t.length ≤ 100000000
/-- Parts, one behind the other. -/
def KsF (A : Nat → Prop) (w : World) : List Nd → List Value → Prop
  | [], fl => fl = []
  | x :: xs, fl => ∃ v0 v1 v2 v3 v4 v5 r, fl = v0 :: v1 :: v2 :: v3 :: v4 :: v5 :: r ∧ NdV A w x (.agg #[v0, v1, v2, v3, v4, v5]) ∧ KsF A w xs r
end
mutual
theorem NdV.imp {A A' : Nat → Prop} {w w' : World} (h : ∀ b, b < w.heap.size → A b → A' b ∧ w'.heap[b]? = w.heap[b]?) : ∀ (x : Nd) (v : Value), NdV A w x v → NdV A' w' x v
  | .mk k t p n l kids, v, hx => by
    simp only [NdV] at hx ⊢
    obtain ⟨na, nc, ka, kc, fl, e, s1, s2, hk, b1, b2, b3⟩ := hx
    exact ⟨na, nc, ka, kc, fl, e, s1.imp h, s2.imp h, KsF.imp h kids fl hk, b1, b2, b3⟩
theorem KsF.imp {A A' : Nat → Prop} {w w' : World} (h : ∀ b, b < w.heap.size → A b → A' b ∧ w'.heap[b]? = w.heap[b]?) : ∀ (xs : List Nd) (fl : List Value), KsF A w xs fl → KsF A' w' xs fl
  | [], fl, hx => by
    simp only [KsF] at hx ⊢
    exact hx
  | x :: xs, fl, hx => by
    simp only [KsF] at hx ⊢
    obtain ⟨v0, v1, v2, v3, v4, v5, r, e, h1, h2⟩ := hx
    exact ⟨v0, v1, v2, v3, v4, v5, r, e, NdV.imp h x _ h1, KsF.imp h xs r h2⟩
end
theorem KsF.len {A : Nat → Prop} {w : World} : ∀ {xs : List Nd} {fl : List Value}, KsF A w xs fl → fl.length = xs.length * 6
  | [], fl, h => by simp only [KsF] at h; subst h; rfl
  | x :: xs, fl, h => by
    simp only [KsF] at h
    obtain ⟨v0, v1, v2, v3, v4, v5, r, rfl, _, h2⟩ := h
    have := KsF.len h2
    simp only [List.length_cons]
    omega
theorem KsF.app {A : Nat → Prop} {w : World} : ∀ {xs : List Nd} {fl : List Value} {ys : List Nd} {gl : List Value}, KsF A w xs fl → KsF A w ys gl → KsF A w (xs ++ ys) (fl ++ gl)
  | [], fl, ys, gl, h, k => by simp only [KsF] at h; subst h; exact k
  | x :: xs, fl, ys, gl, h, k => by
    simp only [KsF, List.cons_append] at h ⊢
    obtain ⟨v0, v1, v2, v3, v4, v5, r, rfl, h1, h2⟩ := h
    exact ⟨v0, v1, v2, v3, v4, v5, r ++ gl, rfl, h1, KsF.app h2 k⟩
theorem KsF.nil (A : Nat → Prop) (w : World) : KsF A w [] [] := by simp only [KsF]
theorem KsF.one {A : Nat → Prop} {w : World} {x : Nd} {v0 v1 v2 v3 v4 v5 : Value} (h : NdV A w x (.agg #[v0, v1, v2, v3, v4, v5])) : KsF A w [x] [v0, v1, v2, v3, v4, v5] := by
  simp only [KsF]
  exact ⟨v0, v1, v2, v3, v4, v5, [], rfl, h, rfl⟩
/-- The six cells of a part. -/
theorem NdV.parts {A : Nat → Prop} {w : World} {x : Nd} {v : Value} (h : NdV A w x v) : ∃ na nc ka kc fl, v = .agg #[.int .i64 x.kind, .string (strOfNums x.text), .int .i64 (x.pos : Int), .int .i64 (x.n : Int), .slice na x.names.length nc, .slice ka x.kids.length kc] ∧ SlF A w na x.names.length nc (x.names.map strV) ∧ SlF A w ka x.kids.length kc fl ∧ KsF A w x.kids fl ∧ x.names.length ≤ 100000 ∧ x.kids.length ≤ 100000 ∧ x.text.length ≤ 100000000 := by
  cases x
  simp only [NdV] at h
  exact h
theorem NdV.mk_ {A : Nat → Prop} {w : World} {k : Int} {t : List Int} {p n : Nat} {l : List (List Int)} {kids : List Nd} {na : Option Addr} {nc : Nat} {ka : Option Addr} {kc : Nat} {fl : List Value} (s1 : SlF A w na l.length nc (l.map strV)) (s2 : SlF A w ka kids.length kc fl) (hk : KsF A w kids fl) (b1 : l.length ≤ 100000) (b2 : kids.length ≤ 100000) (b3 : t.length ≤ 100000000) : NdV A w (.mk k t p n l kids) (.agg #[.int .i64 k, .string (strOfNums t), .int .i64 (p : Int), .int .i64 (n : Int), .slice na l.length nc, .slice ka kids.length kc]) := by
  simp only [NdV]
  exact ⟨na, nc, ka, kc, fl, rfl, s1, s2, hk, b1, b2, b3⟩
/-- A part without parts. -/
theorem NdV.leaf {A : Nat → Prop} {w : World} {k : Int} {t : List Int} {p : Nat} (b3 : t.length ≤ 100000000) : NdV A w (.mk k t p 0 [] []) (.agg #[.int .i64 k, .string (strOfNums t), .int .i64 (p : Int), .int .i64 0, .slice none 0 0, .slice none 0 0]) := by
  have h := NdV.mk_ (A := A) (w := w) (k := k) (t := t) (p := p) (n := 0) (l := []) (kids := []) (SlF.nil A w) (SlF.nil A w) (KsF.nil A w) (by decide) (by decide) b3
  exact h
def zNd : Nd := .mk 0 [] 0 0 [] []
theorem NdV.zero {A : Nat → Prop} {w : World} : NdV A w zNd (.agg #[.int .i64 0, .string ⟨#[]⟩, .int .i64 0, .int .i64 0, .slice none 0 0, .slice none 0 0]) := NdV.leaf (t := []) (p := 0) (by decide)
theorem KsF.flat {A : Nat → Prop} {w : World} : ∀ {xs : List Nd} {fl : List Value}, KsF A w xs fl → ∀ u ∈ fl, u.oneCell' = true
  | [], fl, h, u, hu => by simp only [KsF] at h; subst h; simp at hu
  | x :: xs, fl, h, u, hu => by
    simp only [KsF] at h
    obtain ⟨v0, v1, v2, v3, v4, v5, r, rfl, h1, h2⟩ := h
    obtain ⟨na, nc, ka, kc, gl, e, _⟩ := h1.parts
    simp only [Value.agg.injEq, Array.mk.injEq, List.cons.injEq, and_true] at e
    obtain ⟨rfl, rfl, rfl, rfl, rfl, rfl⟩ := e
    simp only [List.mem_cons] at hu
    rcases hu with rfl | rfl | rfl | rfl | rfl | rfl | hu
    · rfl
    · rfl
    · rfl
    · rfl
    · rfl
    · rfl
    · exact KsF.flat h2 u hu
/-- The part at a place. -/
theorem KsF.at_ {A : Nat → Prop} {w : World} : ∀ {xs : List Nd} {fl : List Value} (i : Nat) (x : Nd), KsF A w xs fl → xs[i]? = some x → ∃ v0 v1 v2 v3 v4 v5, NdV A w x (.agg #[v0, v1, v2, v3, v4, v5]) ∧ fl[i * 6]? = some v0 ∧ fl[i * 6 + 1]? = some v1 ∧ fl[i * 6 + 2]? = some v2 ∧ fl[i * 6 + 3]? = some v3 ∧ fl[i * 6 + 4]? = some v4 ∧ fl[i * 6 + 5]? = some v5
  | [], fl, i, x, h, hi => by simp at hi
  | y :: xs, fl, 0, x, h, hi => by
    simp at hi
    subst hi
    simp only [KsF] at h
    obtain ⟨v0, v1, v2, v3, v4, v5, r, rfl, h1, h2⟩ := h
    exact ⟨v0, v1, v2, v3, v4, v5, h1, rfl, rfl, rfl, rfl, rfl, rfl⟩
  | y :: xs, fl, i + 1, x, h, hi => by
    simp only [KsF] at h
    obtain ⟨v0, v1, v2, v3, v4, v5, r, rfl, h1, h2⟩ := h
    have := KsF.at_ i x h2 (by simpa using hi)
    rw [show (i + 1) * 6 = i * 6 + 6 by omega]
    exact this
/-- All is kept below a place but for one block (the reader's). -/
structure Fr (p B : Nat) (w w' : World) : Prop where
  os : w'.os = w.os
  tape : w'.tape = w.tape
  output : w'.output = w.output
  size : w.heap.size ≤ w'.heap.size
  block : ∀ b, b < B → b ≠ p → w'.heap[b]? = w.heap[b]?
theorem Fr.refl (p B : Nat) (w : World) : Fr p B w w := ⟨rfl, rfl, rfl, Nat.le_refl _, fun _ _ _ => rfl⟩
theorem Fr.of_below {p B : Nat} {w w' : World} (h : Below B w w') : Fr p B w w' := ⟨h.os, h.tape, h.output, h.size, fun b hb _ => h.block b hb⟩
theorem Fr.trans {p B B' : Nat} {w w1 w2 : World} (h : Fr p B w w1) (k : Fr p B' w1 w2) (hB : B ≤ B') : Fr p B w w2 :=
  ⟨k.os.trans h.os, k.tape.trans h.tape, k.output.trans h.output, Nat.le_trans h.size k.size, fun b hb hn => (k.block b (by omega) hn).trans (h.block b hb hn)⟩
theorem Fr.low {p B B' : Nat} {w w' : World} (h : Fr p B w w') (hB : B' ≤ B) : Fr p B' w w' := ⟨h.os, h.tape, h.output, h.size, fun b hb hn => h.block b (by omega) hn⟩
theorem Fr.below {p B B' : Nat} {w w' : World} (h : Fr p B w w') (hB : B' ≤ B) (hp : B' ≤ p) : Below B' w w' := ⟨h.os, h.tape, h.output, h.size, fun b hb => h.block b (by omega) (by omega)⟩
theorem NdV.fr {p B : Nat} {A : Nat → Prop} {w w' : World} {x : Nd} {v : Value} (h : NdV A w x v) (k : Fr p B w w') (hA : ∀ b, A b → b < w.heap.size → b < B ∧ b ≠ p) : NdV A w' x v :=
  h.imp (fun b hb hb' => ⟨hb', k.block b (hA b hb' hb).1 (hA b hb' hb).2⟩) x v
theorem NdV.mono {A A' : Nat → Prop} {w : World} {x : Nd} {v : Value} (h : NdV A w x v) (hA : ∀ b, b < w.heap.size → A b → A' b) : NdV A' w x v := h.imp (fun b hb hb' => ⟨hA b hb hb', rfl⟩) x v
/-- A row of parts that is being made: its own block holds no part of them; all its blocks lie in a set. -/
def RowN (w : World) (A : Nat → Prop) (v : Value) (xs : List Nd) : Prop :=
  ∃ fl, w.ownsRow 0 25 6 v xs.length fl ∧ (∀ g, v.ownBlock = some g → A g) ∧ KsF (fun b => A b ∧ ∀ g, v.ownBlock = some g → b ≠ g) w xs fl
theorem RowN.nil (w : World) (A : Nat → Prop) : RowN w A (.slice none 0 0) [] := ⟨[], World.ownsRow_nil w 0 25 6, fun g hg => by simp [Value.ownBlock] at hg, KsF.nil _ _⟩
theorem RowN.shape {w : World} {A : Nat → Prop} {v : Value} {xs : List Nd} (h : RowN w A v xs) : ∃ a c, v = .slice a xs.length c := by
  obtain ⟨fl, h1, _⟩ := h
  rcases h1.2 with ⟨rfl, h0⟩ | ⟨g, cap, cur, rfl, _⟩
  · exact ⟨none, 0, by rw [h0]⟩
  · exact ⟨_, _, rfl⟩
/-- A row that is made is read. -/
theorem RowN.sl {w : World} {A : Nat → Prop} {a : Option Addr} {c n : Nat} {xs : List Nd} (h : RowN w A (.slice a n c) xs) : n = xs.length ∧ ∃ fl, SlF A w a n c fl ∧ KsF A w xs fl := by
  obtain ⟨fl, h1, hA, h2⟩ := h
  have h3 := h1.2
  have hs := h1.1
  rcases h3 with ⟨e, h0⟩ | ⟨g, cap, cur, e, _, hg, hn, hm, hc, ht⟩
  · simp only [Value.slice.injEq] at e
    obtain ⟨rfl, rfl, rfl⟩ := e
    rw [h0] at hs
    have : fl = [] := List.eq_nil_of_length_eq_zero (by omega)
    subst this
    exact ⟨h0.symm, [], SlF.nil _ _, h2.imp (fun b _ hb => ⟨hb.1, rfl⟩) _ _⟩
  · simp only [Value.slice.injEq] at e
    obtain ⟨rfl, rfl, rfl⟩ := e
    refine ⟨rfl, fl, ⟨hn, hm, by simp, fun _ => ⟨g, 0, rfl, hA g rfl, fun j u hj => ?_⟩⟩, h2.imp (fun b _ hb => ⟨hb.1, rfl⟩) _ _⟩
    have := h1.cells (g := g) rfl j u hj
    rw [addrAdd] at this
    exact this
/-- A row in the making, where its blocks are kept. -/
theorem RowN.keep {w w' : World} {A : Nat → Prop} {v : Value} {xs : List Nd} (h : RowN w A v xs) (hk : ∀ b, A b → b < w.heap.size → w'.heap[b]? = w.heap[b]?) : RowN w' A v xs := by
  obtain ⟨fl, h1, hA, h2⟩ := h
  refine ⟨fl, ⟨h1.1, ?_⟩, hA, h2.imp (fun b hb hA => ⟨hA, hk b hA.1 hb⟩) _ _⟩
  rcases h1.2 with h | ⟨g, cap, cur, e, hB, hg, rest⟩
  · exact .inl h
  · exact .inr ⟨g, cap, cur, e, hB, (hk g (hA g (by rw [e]; rfl)) (lt_of_block hg)).trans hg, rest⟩
end Go.Proofs.YtncfmhlikmibaaaGreatDoor
namespace Go.Proofs.YtncfmhlikmibaaaGreatDoor
open Go.RowKit
set_option maxRecDepth 100000
/-- The reader's block. -/
def redO (a : Option Addr) (n c : Nat) (i : Nat) (d y : Int) : Obj := .cells #[.slice a n c, .int .i64 (i : Int), .int .i64 d, .int .i64 y] 50
/-- A reader at a place, so deep; its words lie below it. -/
structure Rdw (w : World) (p : Nat) (W : List Tk) (i : Nat) (d y : Int) : Prop where
  ex : ∃ b off c, w.heap[p]? = some (redO (some ⟨b, off, none⟩) W.length c i d y) ∧ b < p ∧ IsT w (some ⟨b, off, none⟩) W.length c W
theorem Rdw.lt {w : World} {p : Nat} {W : List Tk} {i : Nat} {d y : Int} (h : Rdw w p W i d y) : p < w.heap.size := by
  obtain ⟨b, off, c, h1, _⟩ := h.ex
  exact lt_of_block h1
theorem Rdw.same {w w' : World} {p : Nat} {W : List Tk} {i : Nat} {d y : Int} (h : Rdw w p W i d y) (hk : ∀ b, b < p → w'.heap[b]? = w.heap[b]?) (hp : w'.heap[p]? = w.heap[p]?) : Rdw w' p W i d y := by
  obtain ⟨b, off, c, h1, h2, h3⟩ := h.ex
  refine ⟨b, off, c, hp.trans h1, h2, ?_⟩
  refine ⟨h3.size, h3.room, h3.most, h3.nil0, fun h0 => ?_⟩
  obtain ⟨b', off', e, hc⟩ := h3.cells h0
  simp only [Option.some.injEq, Addr.mk.injEq, and_true] at e
  obtain ⟨rfl, rfl⟩ := e
  have hb := hk b h2
  exact ⟨b, off, rfl, fun i hi => ⟨(World.cell?_of_block (a := ⟨b, off + i * 3, none⟩) hb).trans (hc i hi).1, (World.cell?_of_block (a := ⟨b, off + i * 3 + 1, none⟩) hb).trans (hc i hi).2.1, (World.cell?_of_block (a := ⟨b, off + i * 3 + 2, none⟩) hb).trans (hc i hi).2.2⟩⟩
theorem Rdw.below {w w' : World} {p B : Nat} {W : List Tk} {i : Nat} {d y : Int} (h : Rdw w p W i d y) (hb : Below B w w') (hp : p < B) : Rdw w' p W i d y :=
  h.same (fun b h => hb.block b (by omega)) (hb.block p hp)
/-- Its fields, and the word that comes. -/
theorem Rdw.open_ {w : World} {p : Nat} {W : List Tk} {i : Nat} {d y : Int} (h : Rdw w p W i d y) (hi : i < W.length) : ∃ b off c, w.heap[p]? = some (redO (some ⟨b, off, none⟩) W.length c i d y) ∧ b < p ∧ w.cell? ⟨p, 0, none⟩ = some (.slice (some ⟨b, off, none⟩) W.length c) ∧ w.cell? ⟨p, 1, none⟩ = some (.int .i64 (i : Int)) ∧ w.cell? ⟨p, 2, none⟩ = some (.int .i64 d) ∧ w.cell? ⟨p, 3, none⟩ = some (.int .i64 y) ∧ w.frozen? ⟨p, 0, none⟩ = false ∧ w.cell? ⟨b, off + i * 3, none⟩ = some (.int .i64 (kdW W i)) ∧ w.cell? ⟨b, off + i * 3 + 1, none⟩ = some (.string (strOfNums (txW W i))) ∧ w.cell? ⟨b, off + i * 3 + 2, none⟩ = some (.int .i64 (psW W i : Int)) := by
  obtain ⟨b, off, c, h1, h2, h3⟩ := h.ex
  obtain ⟨b', off', e, hc⟩ := h3.cells (by omega)
  simp only [Option.some.injEq, Addr.mk.injEq, and_true] at e
  obtain ⟨rfl, rfl⟩ := e
  have := hc i hi
  refine ⟨b, off, c, h1, h2, ?_, ?_, ?_, ?_, ?_, this.1, this.2.1, this.2.2⟩
  · simp [World.cell?, h1, redO]
  · simp [World.cell?, h1, redO]
  · simp [World.cell?, h1, redO]
  · simp [World.cell?, h1, redO]
  · simp [World.frozen?, h1, redO]
theorem newO (w : World) (o : Obj) : (w.alloc o).heap[w.heap.size]? = some o := heap_alloc_new w o
theorem boxO {w : World} {o : Obj} : Below w.heap.size w (w.alloc o) := (Below.refl _ _).alloc (Nat.le_refl _) _
theorem below_sz {B : Nat} {w w1 w2 : World} (h1 : Below B w w1) (hB : B ≤ w.heap.size) (h2 : Below w1.heap.size w1 w2) : Below B w w2 :=
  ⟨h2.os.trans h1.os, h2.tape.trans h1.tape, h2.output.trans h1.output, Nat.le_trans h1.size h2.size, fun k hk => (h2.block k (by have := h1.size; omega)).trans (h1.block k hk)⟩
def tokB (k : Int) (s : ByteArray) (p : Int) : Obj := .cells #[.int .i64 k, .string s, .int .i64 p] 54
theorem tok_cells {w : World} {b : Nat} {k : Int} {s : ByteArray} {p : Int} (h : w.heap[b]? = some (tokB k s p)) : w.cell? ⟨b, 0, none⟩ = some (.int .i64 k) ∧ w.cell? ⟨b, 1, none⟩ = some (.string s) ∧ w.cell? ⟨b, 2, none⟩ = some (.int .i64 p) ∧ ∀ j, w.frozen? ⟨b, j, none⟩ = false := by
  refine ⟨?_, ?_, ?_, fun j => ?_⟩ <;> simp [World.cell?, World.frozen?, h, tokB]
theorem rd_cells {w : World} {p : Nat} {a : Option Addr} {n c i : Nat} {d y : Int} (h : w.heap[p]? = some (redO a n c i d y)) : w.cell? ⟨p, 0, none⟩ = some (.slice a n c) ∧ w.cell? ⟨p, 1, none⟩ = some (.int .i64 (i : Int)) ∧ w.cell? ⟨p, 2, none⟩ = some (.int .i64 d) ∧ w.cell? ⟨p, 3, none⟩ = some (.int .i64 y) ∧ ∀ j, w.frozen? ⟨p, j, none⟩ = false := by
  refine ⟨?_, ?_, ?_, ?_, fun j => ?_⟩ <;> simp [World.cell?, World.frozen?, h, redO]
theorem results_cellT {P : Program} {fn : Func} {tmps : Array Value} {a t : Nat} {ad : Addr} {w : World} {v : Value} (hf : fn.results = #[.cell a t]) (ha : tmps[a]?.getD undef = .pointer (some ad)) (hl : (loadVar t ad).run P w = .ok v w) : (results fn tmps).run P w = .ok v w := by
  unfold results
  rw [hf]
  simp [ha, asAddr, hl]
/-- All but one block is kept. -/
structure St (g : Nat) (w w' : World) : Prop where
  os : w'.os = w.os
  tape : w'.tape = w.tape
  output : w'.output = w.output
  size : w'.heap.size = w.heap.size
  block : ∀ b, b ≠ g → w'.heap[b]? = w.heap[b]?
theorem St.row (w : World) (g : Nat) (cs : Array Value) : St g w (w.setRow g cs) := ⟨rfl, rfl, rfl, setRow_size w g cs, fun b hb => setRow_other w g b cs hb⟩
theorem St.cell (w : World) (g i : Nat) (v : Value) : St g w (w.setCell ⟨g, i, none⟩ v) := ⟨rfl, rfl, rfl, by simp [World.setCell], fun b hb => by simp [World.setCell, Array.getElem?_modify, Ne.symm hb]⟩
theorem St.below {g B : Nat} {w w' : World} (h : St g w w') (hg : B ≤ g) : Below B w w' := ⟨h.os, h.tape, h.output, Nat.le_of_eq h.size.symm, fun b hb => h.block b (by omega)⟩
theorem Below.thn {B : Nat} {w w1 w2 : World} (h : Below B w w1) (k : Below B w1 w2) : Below B w w2 := h.trans k
theorem St.fr {p B : Nat} {w w' : World} (h : St p w w') : Fr p B w w' := ⟨h.os, h.tape, h.output, Nat.le_of_eq h.size.symm, fun b _ hn => h.block b hn⟩
section
variable {ops : Array Oper} {rest : List Oper} {o : Oper} {a : Act} {Q : Exit → Act → World → Prop}
theorem st54 (w : World) (hgd : o.guard = none) (x y : Operand) (ho : o.op = .store 54 x y) (hd : o.dst = none) (g : Nat) (k : Int) (s : ByteArray) (p : Int) (hx : a.eval x = .pointer (some ⟨g, 0, none⟩)) (hy : a.eval y = .agg #[.int .i64 k, .string s, .int .i64 p]) {k0 p0 : Int} {s0 : ByteArray} (hg : w.heap[g]? = some (tokB k0 s0 p0))
    (h : ∀ w', w'.heap[g]? = some (tokB k s p) → St g w w' → wpList Tryz.prog ops Q rest a w') : wpList Tryz.prog ops Q (o :: rest) a w := by
  refine wpList_store_row hgd 54 x y ho g _ hx hy 54 _ hg (by kernel_rfl) rfl (by simp [Value.oneCell']) ?_
  rw [hd]
  exact h _ (setRow_heap w g _ _ _ _ hg) (St.row w g _)
theorem st25 (w : World) (hgd : o.guard = none) (x y : Operand) (ho : o.op = .store 25 x y) (hd : o.dst = none) (g : Nat) (k : Int) (s : ByteArray) (p n : Int) (na : Option Addr) (nl nc : Nat) (ka : Option Addr) (kl kc : Nat) (hx : a.eval x = .pointer (some ⟨g, 0, none⟩)) (hy : a.eval y = .agg #[.int .i64 k, .string s, .int .i64 p, .int .i64 n, .slice na nl nc, .slice ka kl kc]) {u0 u1 u2 u3 u4 u5 : Value} (hg : w.heap[g]? = some (.cells #[u0, u1, u2, u3, u4, u5] 25))
    (h : ∀ w', w'.heap[g]? = some (.cells #[.int .i64 k, .string s, .int .i64 p, .int .i64 n, .slice na nl nc, .slice ka kl kc] 25) → St g w w' → wpList Tryz.prog ops Q rest a w') : wpList Tryz.prog ops Q (o :: rest) a w := by
  refine wpList_store_row hgd 25 x y ho g _ hx hy 25 _ hg (by kernel_rfl) rfl (by simp [Value.oneCell']) ?_
  rw [hd]
  exact h _ (setRow_heap w g _ _ _ _ hg) (St.row w g _)
end
theorem nd_cells {w : World} {b : Nat} {u0 u1 u2 u3 u4 u5 : Value} (h : w.heap[b]? = some (.cells #[u0, u1, u2, u3, u4, u5] 25)) : w.cell? ⟨b, 0, none⟩ = some u0 ∧ w.cell? ⟨b, 1, none⟩ = some u1 ∧ w.cell? ⟨b, 2, none⟩ = some u2 ∧ w.cell? ⟨b, 3, none⟩ = some u3 ∧ w.cell? ⟨b, 4, none⟩ = some u4 ∧ w.cell? ⟨b, 5, none⟩ = some u5 ∧ ∀ j, w.frozen? ⟨b, j, none⟩ = false := by
  refine ⟨?_, ?_, ?_, ?_, ?_, ?_, fun j => ?_⟩ <;> simp [World.cell?, World.frozen?, h]
theorem load25 {w : World} {b : Nat} {u0 u1 u2 u3 u4 u5 : Value} (h : w.heap[b]? = some (.cells #[u0, u1, u2, u3, u4, u5] 25)) : (loadVar 25 ⟨b, 0, none⟩).run Tryz.prog w = .ok (.agg #[u0, u1, u2, u3, u4, u5]) w := by
  obtain ⟨z0, z1, z2, z3, z4, z5, _⟩ := nd_cells h
  simp [go_sem, z0, z1, z2, z3, z4, z5]
theorem load54 {w : World} {b : Nat} {k : Int} {s : ByteArray} {p : Int} (h : w.heap[b]? = some (tokB k s p)) : (loadVar 54 ⟨b, 0, none⟩).run Tryz.prog w = .ok (.agg #[.int .i64 k, .string s, .int .i64 p]) w := by
  obtain ⟨z0, z1, z2, _⟩ := tok_cells h
  simp [go_sem, z0, z1, z2]
def TokV (W : List Tk) (i : Nat) : Value := .agg #[.int .i64 (kdW W i), .string (strOfNums (txW W i)), .int .i64 (psW W i : Int)]
theorem wordR_any {w : World} {p : Nat} {W : List Tk} {i : Nat} {d y : Int} (h : Rdw w p W i d y) (hi : i < W.length) :
    Calls Tryz.prog 28 #[.pointer (some ⟨p, 0, none⟩)] w fun e w' => e = .returned (.agg #[.int .i64 (kdW W i), .string (strOfNums (txW W i)), .int .i64 (psW W i : Int)]) ∧ Below w.heap.size w w' := by
  have hiI : (i : Int) < (W.length : Int) := by omega
  have hi0 : (0 : Int) ≤ (i : Int) := by omega
  have B1 : Below w.heap.size w (w.alloc (tokB 0 ⟨#[]⟩ 0)) := boxO
  have E1 := newO w (tokB 0 ⟨#[]⟩ 0)
  have h1 := h.below B1 h.lt
  clear h
  unfold tokB at B1 E1 h1
  go_enter Tryz.func28, Tryz.ntmps28
  go_wp2_with fail
  generalize w.alloc (.cells #[.int .i64 0, .string ⟨#[]⟩, .int .i64 0] 54) = w1 at *
  obtain ⟨b, off, c, e1, h2, c0, c1, c2, c3, cf, k0, k1, k2⟩ := h1.open_ hi
  clear h1 e1
  go_still_tail 10, (by kernel_rfl)
  refine st54 _ rfl _ _ rfl rfl w.heap.size _ _ _ rfl rfl E1 ?_
  intro w2 E2 S2
  go_wp2
  refine bodyPost_ret (v := TokV W i) (results_cellT (a := 2) (t := 54) (by rfl) (by rfl) (load54 E2)) (by rfl) ⟨rfl, B1.drew.trans (S2.below (Nat.le_refl _))⟩
theorem fld0 (k : Int) (s : ByteArray) (p : Int) (w : World) : (Instr.field 54 (.agg #[.int .i64 k, .string s, .int .i64 p]) 0).run Tryz.prog w = .ok (.int .i64 k) w := by
  simp [Instr.field, asAgg, go_sem]
theorem fld1 (k : Int) (s : ByteArray) (p : Int) (w : World) : (Instr.field 54 (.agg #[.int .i64 k, .string s, .int .i64 p]) 1).run Tryz.prog w = .ok (.string s) w := by
  simp [Instr.field, asAgg, go_sem]
theorem fld2 (k : Int) (s : ByteArray) (p : Int) (w : World) : (Instr.field 54 (.agg #[.int .i64 k, .string s, .int .i64 p]) 2).run Tryz.prog w = .ok (.int .i64 p) w := by
  simp [Instr.field, asAgg, go_sem]
theorem is_any {w : World} {p : Nat} {W : List Tk} {i : Nat} {d y : Int} (h : Rdw w p W i d y) (hi : i < W.length) (k : Int) :
    Calls Tryz.prog 27 #[.pointer (some ⟨p, 0, none⟩), .int .i64 k] w fun e w' => e = .returned (.bool (kdW W i == k)) ∧ Below w.heap.size w w' := by
  have f0 := fld0
  go_enter Tryz.func27, Tryz.ntmps27
  go_wp2_with fail
  refine (wordR_any h hi).mono ?_
  rintro e w1 ⟨rfl, B1⟩
  go_wp2
  exact bodyPost_ret (v := .bool (kdW W i == k)) (by simp [results, go_sem]) rfl ⟨rfl, B1⟩
theorem Rdw.len {w : World} {p : Nat} {W : List Tk} {i : Nat} {d y : Int} (h : Rdw w p W i d y) : W.length ≤ maxLen := by
  obtain ⟨b, off, c, _, _, h3⟩ := h.ex
  exact Nat.le_trans h3.room h3.most
theorem Rdw.st {w w' : World} {p g : Nat} {W : List Tk} {i : Nat} {d y : Int} (h : Rdw w p W i d y) (hs : St g w w') (hg : p < g) : Rdw w' p W i d y :=
  h.same (fun b hb => hs.block b (by omega)) (hs.block p (by omega))
theorem Rdw.put {w w' : World} {p : Nat} {W : List Tk} {i i' : Nat} {d d' y y' : Int} (h : Rdw w p W i d y) (hs : St p w w') (hp : ∀ b off c, w.heap[p]? = some (redO (some ⟨b, off, none⟩) W.length c i d y) → w'.heap[p]? = some (redO (some ⟨b, off, none⟩) W.length c i' d' y')) : Rdw w' p W i' d' y' := by
  obtain ⟨b, off, c, h1, h2, h3⟩ := h.ex
  refine ⟨b, off, c, hp b off c h1, h2, ?_⟩
  refine ⟨h3.size, h3.room, h3.most, h3.nil0, fun h0 => ?_⟩
  obtain ⟨b', off', e, hc⟩ := h3.cells h0
  simp only [Option.some.injEq, Addr.mk.injEq, and_true] at e
  obtain ⟨rfl, rfl⟩ := e
  have hb := hs.block b (by omega)
  exact ⟨b, off, rfl, fun i hi => ⟨(World.cell?_of_block (a := ⟨b, off + i * 3, none⟩) hb).trans (hc i hi).1, (World.cell?_of_block (a := ⟨b, off + i * 3 + 1, none⟩) hb).trans (hc i hi).2.1, (World.cell?_of_block (a := ⟨b, off + i * 3 + 2, none⟩) hb).trans (hc i hi).2.2⟩⟩
theorem Rdw.setAt {w : World} {p : Nat} {W : List Tk} {i : Nat} {d y : Int} (h : Rdw w p W i d y) (j : Nat) : Rdw (w.setCell ⟨p, 1, none⟩ (.int .i64 (j : Int))) p W j d y :=
  h.put (St.cell w p 1 _) fun b off c e => by unfold redO at e ⊢; rw [heap_setCell_same w p 1 _ _ _ e]; simp
theorem Rdw.setNext {w : World} {p : Nat} {W : List Tk} {i : Nat} {d y : Int} (h : Rdw w p W i d y) : Rdw (w.setCell ⟨p, 1, none⟩ (.int .i64 ((i : Int) + 1))) p W (i + 1) d y := h.setAt (i + 1)
theorem Rdw.setDepth {w : World} {p : Nat} {W : List Tk} {i : Nat} {d y : Int} (h : Rdw w p W i d y) (e : Int) : Rdw (w.setCell ⟨p, 2, none⟩ (.int .i64 e)) p W i e y :=
  h.put (St.cell w p 2 _) fun b off c e => by unfold redO at e ⊢; rw [heap_setCell_same w p 2 _ _ _ e]; simp
theorem Rdw.setWhy {w : World} {p : Nat} {W : List Tk} {i : Nat} {d y : Int} (h : Rdw w p W i d y) (e : Int) : Rdw (w.setCell ⟨p, 3, none⟩ (.int .i64 e)) p W i d e :=
  h.put (St.cell w p 3 _) fun b off c e => by unfold redO at e ⊢; rw [heap_setCell_same w p 3 _ _ _ e]; simp
/-- Its own fields. -/
theorem Rdw.own {w : World} {p : Nat} {W : List Tk} {i : Nat} {d y : Int} (h : Rdw w p W i d y) : w.cell? ⟨p, 1, none⟩ = some (.int .i64 (i : Int)) ∧ w.cell? ⟨p, 2, none⟩ = some (.int .i64 d) ∧ w.cell? ⟨p, 3, none⟩ = some (.int .i64 y) ∧ w.frozen? ⟨p, 1, none⟩ = false ∧ w.frozen? ⟨p, 2, none⟩ = false ∧ w.frozen? ⟨p, 3, none⟩ = false := by
  obtain ⟨b, off, c, h1, _⟩ := h.ex
  obtain ⟨_, c1, c2, c3, zf⟩ := rd_cells h1
  exact ⟨c1, c2, c3, zf 1, zf 2, zf 3⟩
theorem Fr.thn {p B : Nat} {w w1 w2 : World} (h : Fr p B w w1) (hB : B ≤ w.heap.size) (k : Fr p w1.heap.size w1 w2) : Fr p B w w2 := h.trans k (Nat.le_trans hB h.size)
theorem next_any {w : World} {p : Nat} {W : List Tk} {i : Nat} {d y : Int} (h : Rdw w p W i d y) (hi : i < W.length) :
    Calls Tryz.prog 39 #[.pointer (some ⟨p, 0, none⟩)] w fun e w' => e = .returned (.agg #[.int .i64 (kdW W i), .string (strOfNums (txW W i)), .int .i64 (psW W i : Int)]) ∧ Rdw w' p W (i + 1) d y ∧ Fr p w.heap.size w w' := by
  have hw : IntKind.i64.wrap ((i : Int) + 1) = (i : Int) + 1 := by have := h.len; unfold maxLen at this; rw [IntKind.wrap_i64]; omega
  have B1 : Below w.heap.size w (w.alloc (tokB 0 ⟨#[]⟩ 0)) := boxO
  have E1 := newO w (tokB 0 ⟨#[]⟩ 0)
  have h1 := h.below B1 h.lt
  have hp := h.lt
  clear h
  unfold tokB at B1 E1 h1
  go_enter Tryz.func39, Tryz.ntmps39
  go_wp2_with fail
  generalize w.alloc (.cells #[.int .i64 0, .string ⟨#[]⟩, .int .i64 0] 54) = w1 at *
  refine (wordR_any h1 hi).mono ?_
  rintro e w2 ⟨rfl, B2⟩
  replace h1 := h1.below B2 h1.lt
  replace E1 := (B2.block _ (lt_of_block E1)).trans E1
  have hs2 := lt_of_block E1
  replace B1 := below_sz B1 (Nat.le_refl _) B2
  clear B2
  go_wp2_with (refine st54 _ rfl _ _ rfl rfl _ _ _ _ rfl rfl (newO _ _) ?_)
  intro w3 E3 S3
  replace h1 := (h1.below boxO h1.lt).st S3 (by omega)
  replace E1 := (S3.block _ (by omega)).trans ((boxO.block _ hs2).trans E1)
  replace B1 := (B1.trans ((boxO (w := w2) (o := .cells #[.int .i64 0, .string ⟨#[]⟩, .int .i64 0] 54)).mono (by omega))).trans (S3.below (B := w.heap.size) (by omega))
  clear S3
  obtain ⟨c1, c2, c3, f1, f2, f3⟩ := h1.own
  go_upto_region 3 with fail
  replace h1 := h1.setNext
  have F1 : Fr p w.heap.size w (w3.setCell ⟨p, 1, none⟩ (.int .i64 ((i : Int) + 1))) := (Fr.of_below B1).trans (St.cell w3 p 1 _).fr (Nat.le_refl _)
  have E3' := ((St.cell w3 p 1 (.int .i64 ((i : Int) + 1))).block w2.heap.size (by omega)).trans E3
  have E1' := ((St.cell w3 p 1 (.int .i64 ((i : Int) + 1))).block w.heap.size (by omega)).trans E1
  clear E1 E3 B1 c1 c2 c3 f1 f2 f3
  generalize w3.setCell ⟨p, 1, none⟩ (.int .i64 ((i : Int) + 1)) = w4 at *
  obtain ⟨z0, z1, z2, _⟩ := tok_cells E3'
  go_wp2_with (refine st54 _ rfl _ _ rfl rfl _ _ _ _ rfl rfl E1' ?_)
  intro w5 E5 S5
  go_wp2
  exact bodyPost_ret (v := TokV W i) (results_cellT (a := 2) (t := 54) (by rfl) (by rfl) (load54 E5)) (by rfl) ⟨rfl, h1.st S5 hp, F1.trans (Fr.of_below (B := w.heap.size) (S5.below (Nat.le_refl _))) (Nat.le_refl _)⟩
theorem skip_no {w : World} {p : Nat} {W : List Tk} {i : Nat} {d y : Int} (h : Rdw w p W i d y) (hi : i < W.length) (k : Int) (hk : kdW W i ≠ k) :
    Calls Tryz.prog 41 #[.pointer (some ⟨p, 0, none⟩), .int .i64 k] w fun e w' => e = .returned (.bool false) ∧ Rdw w' p W i d y ∧ Fr p w.heap.size w w' := by
  have hkb : (kdW W i == k) = false := by simp [hk]
  go_enter Tryz.func41, Tryz.ntmps41
  go_wp2_with fail
  refine (is_any h hi k).mono ?_
  rintro e w1 ⟨rfl, B1⟩
  rw [hkb]
  go_wp2
  go_ret
  exact ⟨rfl, h.below B1 h.lt, Fr.of_below B1⟩
theorem skip_yes {w : World} {p : Nat} {W : List Tk} {i : Nat} {d y : Int} (h : Rdw w p W i d y) (hi : i < W.length) (k : Int) (hk : kdW W i = k) :
    Calls Tryz.prog 41 #[.pointer (some ⟨p, 0, none⟩), .int .i64 k] w fun e w' => e = .returned (.bool true) ∧ Rdw w' p W (i + 1) d y ∧ Fr p w.heap.size w w' := by
  have hkb : (kdW W i == k) = true := by simp [hk]
  have hw : IntKind.i64.wrap ((i : Int) + 1) = (i : Int) + 1 := by have := h.len; unfold maxLen at this; rw [IntKind.wrap_i64]; omega
  go_enter Tryz.func41, Tryz.ntmps41
  go_wp2_with fail
  refine (is_any h hi k).mono ?_
  rintro e w1 ⟨rfl, B1⟩
  rw [hkb]
  have h1 := h.below B1 h.lt
  obtain ⟨c1, c2, c3, f1, f2, f3⟩ := h1.own
  go_wp2
  go_ret
  exact ⟨rfl, h1.setNext, (Fr.of_below B1).trans (St.cell w1 p 1 _).fr (Nat.le_refl _)⟩
theorem enter_no {w : World} {p : Nat} {W : List Tk} {i : Nat} {y : Int} (h : Rdw w p W i 40 y) :
    Calls Tryz.prog 133 #[.pointer (some ⟨p, 0, none⟩)] w fun e w' => e = .returned (.bool false) ∧ Rdw w' p W i 40 3 ∧ Fr p w.heap.size w w' := by
  obtain ⟨c1, c2, c3, f1, f2, f3⟩ := h.own
  go_enter Tryz.func133, Tryz.ntmps133
  go_wp2
  go_ret
  exact ⟨rfl, h.setWhy 3, (St.cell w p 3 _).fr⟩
theorem enter_yes {w : World} {p : Nat} {W : List Tk} {i d : Nat} {y : Int} (h : Rdw w p W i d y) (hd : d < 40) (hi : i < W.length) :
    Calls Tryz.prog 133 #[.pointer (some ⟨p, 0, none⟩)] w fun e w' => e = .returned (.bool true) ∧ Rdw w' p W (i + 1) ((d : Int) + 1) y ∧ Fr p w.heap.size w w' := by
  have hw : IntKind.i64.wrap ((i : Int) + 1) = (i : Int) + 1 := by have := h.len; unfold maxLen at this; rw [IntKind.wrap_i64]; omega
  have hwd : IntKind.i64.wrap ((d : Int) + 1) = (d : Int) + 1 := by rw [IntKind.wrap_i64]; omega
  have hne : ((d : Int) == 40) = false := by simp; omega
  obtain ⟨c1, c2, c3, f1, f2, f3⟩ := h.own
  go_enter Tryz.func133, Tryz.ntmps133
  go_upto_region 5 with fail
  have h1 := h.setDepth ((d : Int) + 1)
  have S1 := St.cell w p 2 (.int .i64 ((d : Int) + 1))
  clear c1 c2 c3 f1 f2 f3
  generalize w.setCell ⟨p, 2, none⟩ (.int .i64 ((d : Int) + 1)) = w1 at *
  obtain ⟨c1, c2, c3, f1, f2, f3⟩ := h1.own
  go_wp2
  go_ret
  exact ⟨rfl, h1.setNext, S1.fr.trans (St.cell w1 p 1 _).fr (Nat.le_refl _)⟩
theorem leave_no {w : World} {p : Nat} {W : List Tk} {i : Nat} {d y : Int} (h : Rdw w p W i d y) (hi : i < W.length) (hd : 0 ≤ d ∧ d ≤ 100) (k : Int) (hk : kdW W i ≠ k) :
    Calls Tryz.prog 161 #[.pointer (some ⟨p, 0, none⟩), .int .i64 k] w fun e w' => e = .returned (.bool false) ∧ Rdw w' p W i (d - 1) y ∧ Fr p w.heap.size w w' := by
  have hwd : IntKind.i64.wrap (d - 1) = d - 1 := by rw [IntKind.wrap_i64]; omega
  obtain ⟨c1, c2, c3, f1, f2, f3⟩ := h.own
  have h1 := h.setDepth (d - 1)
  have S1 := St.cell w p 2 (.int .i64 (d - 1))
  go_enter Tryz.func161, Tryz.ntmps161
  go_wp2_with fail
  generalize w.setCell ⟨p, 2, none⟩ (.int .i64 (d - 1)) = w1 at *
  refine (skip_no h1 hi k hk).mono ?_
  rintro e w2 ⟨rfl, h2, F2⟩
  go_wp2
  go_ret
  exact ⟨rfl, h2, S1.fr.trans F2 (Nat.le_of_eq S1.size.symm)⟩
theorem leave_yes {w : World} {p : Nat} {W : List Tk} {i : Nat} {d y : Int} (h : Rdw w p W i d y) (hi : i < W.length) (hd : 0 ≤ d ∧ d ≤ 100) (k : Int) (hk : kdW W i = k) :
    Calls Tryz.prog 161 #[.pointer (some ⟨p, 0, none⟩), .int .i64 k] w fun e w' => e = .returned (.bool true) ∧ Rdw w' p W (i + 1) (d - 1) y ∧ Fr p w.heap.size w w' := by
  have hwd : IntKind.i64.wrap (d - 1) = d - 1 := by rw [IntKind.wrap_i64]; omega
  obtain ⟨c1, c2, c3, f1, f2, f3⟩ := h.own
  have h1 := h.setDepth (d - 1)
  have S1 := St.cell w p 2 (.int .i64 (d - 1))
  go_enter Tryz.func161, Tryz.ntmps161
  go_wp2_with fail
  generalize w.setCell ⟨p, 2, none⟩ (.int .i64 (d - 1)) = w1 at *
  refine (skip_yes h1 hi k hk).mono ?_
  rintro e w2 ⟨rfl, h2, F2⟩
  go_wp2
  go_ret
  exact ⟨rfl, h2, S1.fr.trans F2 (Nat.le_of_eq S1.size.symm)⟩
end Go.Proofs.YtncfmhlikmibaaaGreatDoor
