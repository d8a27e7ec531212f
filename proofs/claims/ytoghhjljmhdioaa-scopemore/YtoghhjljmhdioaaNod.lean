/- Parts of a source in memory. -/
import Derived.Test.YtoghhjljmhdioaaTreR
import Derived.WalkKit
import Derived.Laws.AppendOwn
import Derived.Below
namespace Go.Proofs.Ytoghhjljmhdioaa
open Go.RowKit
set_option maxRecDepth 100000
theorem addrAdd (b off i : Nat) : (⟨b, off, none⟩ : Addr).add i = ⟨b, off + i, none⟩ := by unfold Addr.add; split <;> simp_all
/-- A slice that reads as these cells, its block in a set. -/
structure SlF (A : Nat → Prop) (w : World) (a : Option Addr) (n c : Nat) (fl : List Value) : Prop where
  room : n ≤ c
  most : c ≤ maxLen
  nil0 : a = none → c = 0
  cells : 0 < fl.length → ∃ b off, a = some ⟨b, off, none⟩ ∧ A b ∧ ∀ j u, fl[j]? = some u → w.cell? ⟨b, off + j, none⟩ = some u
theorem SlF.nil (A : Nat → Prop) (w : World) : SlF A w none 0 0 [] := ⟨Nat.le_refl _, by decide, fun _ => rfl, fun h => absurd h (by decide)⟩
theorem SlF.imp {A A' : Nat → Prop} {w w' : World} {a : Option Addr} {n c : Nat} {fl : List Value} (h : ∀ b, b < w.heap.size → A b → A' b ∧ w'.heap[b]? = w.heap[b]?) (s : SlF A w a n c fl) : SlF A' w' a n c fl :=
  ⟨s.room, s.most, s.nil0, fun h0 => by
    obtain ⟨b, off, ha, hA, hc⟩ := s.cells h0
    have hb : b < w.heap.size := block_lt_of_cell (hc 0 _ (List.getElem?_eq_getElem h0))
    exact ⟨b, off, ha, (h b hb hA).1, fun j u hj => (World.cell?_of_block (a := ⟨b, off + j, none⟩) (h b hb hA).2).trans (hc j u hj)⟩⟩
def strV (s : List Int) : Value := .string (strOfNums s)
mutual
/-- A part, as it lies in memory: its blocks in a set. -/
def NdV (A : Nat → Prop) (w : World) : Nd → Value → Prop
  | .mk k t p n l kids, v => ∃ na nc ka kc fl, v = .agg #[.int .i64 k, .string (strOfNums t), .int .i64 (p : Int), .int .i64 (n : Int), .slice na l.length nc, .slice ka kids.length kc] ∧ SlF A w na l.length nc (l.map strV) ∧ SlF A w ka kids.length kc fl ∧ KsF A w kids fl ∧ l.length ≤ 100000 ∧ kids.length ≤ 100000 ∧ t.length ≤ 100000000
/-- Parts, one behind the other. -/
def KsF (A : Nat → Prop) (w : World) : List Nd → List Value → Prop
  | [], fl => fl = []
  | x :: xs, fl => ∃ v0 v1 v2 v3 v4 v5 r, fl = v0 :: v1 :: v2 :: v3 :: v4 :: v5 :: r ∧ NdV A w x (.agg #[v0, v1, v2, v3, v4, v5]) ∧ KsF A w xs r
end
mutual
theorem NdV.imp {A A' : Nat → Prop} {w w' : World} (h : ∀ b, b < w.heap.size → A b → A' b ∧ w'.heap[b]? = w.heap[b]?) : ∀ (x : Nd) (v : Value), NdV A w x v → NdV A' w' x v
  | .mk k t p n l kids, v, hx => by
    simp only [NdV] at hx ⊢
    obtain ⟨na, nc, ka, kc, fl, e, s1, s2, hk, b1, b2, b3⟩ := hx
    exact ⟨na, nc, ka, kc, fl, e, s1.imp h, s2.imp h, KsF.imp h kids fl hk, b1, b2, b3⟩
theorem KsF.imp {A A' : Nat → Prop} {w w' : World} (h : ∀ b, b < w.heap.size → A b → A' b ∧ w'.heap[b]? = w.heap[b]?) : ∀ (xs : List Nd) (fl : List Value), KsF A w xs fl → KsF A' w' xs fl
  | [], fl, hx => by
    simp only [KsF] at hx ⊢
    exact hx
  | x :: xs, fl, hx => by
    simp only [KsF] at hx ⊢
    obtain ⟨v0, v1, v2, v3, v4, v5, r, e, h1, h2⟩ := hx
    exact ⟨v0, v1, v2, v3, v4, v5, r, e, NdV.imp h x _ h1, KsF.imp h xs r h2⟩
end
theorem KsF.len {A : Nat → Prop} {w : World} : ∀ {xs : List Nd} {fl : List Value}, KsF A w xs fl → fl.length = xs.length * 6
  | [], fl, h => by simp only [KsF] at h; subst h; rfl
  | x :: xs, fl, h => by
    simp only [KsF] at h
    obtain ⟨v0, v1, v2, v3, v4, v5, r, rfl, _, h2⟩ := h
    have := KsF.len h2
    simp only [List.length_cons]
    omega
theorem KsF.app {A : Nat → Prop} {w : World} : ∀ {xs : List Nd} {fl : List Value} {ys : List Nd} {gl : List Value}, KsF A w xs fl → KsF A w ys gl → KsF A w (xs ++ ys) (fl ++ gl)
  | [], fl, ys, gl, h, k => by simp only [KsF] at h; subst h; exact k
  | x :: xs, fl, ys, gl, h, k => by
    simp only [KsF, List.cons_append] at h ⊢
    obtain ⟨v0, v1, v2, v3, v4, v5, r, rfl, h1, h2⟩ := h
    exact ⟨v0, v1, v2, v3, v4, v5, r ++ gl, rfl, h1, KsF.app h2 k⟩
theorem KsF.nil (A : Nat → Prop) (w : World) : KsF A w [] [] := by simp only [KsF]
theorem KsF.one {A : Nat → Prop} {w : World} {x : Nd} {v0 v1 v2 v3 v4 v5 : Value} (h : NdV A w x (.agg #[v0, v1, v2, v3, v4, v5])) : KsF A w [x] [v0, v1, v2, v3, v4, v5] := by
  simp only [KsF]
  exact ⟨v0, v1, v2, v3, v4, v5, [], rfl, h, rfl⟩
/-- The six cells of a part. -/
theorem NdV.parts {A : Nat → Prop} {w : World} {x : Nd} {v : Value} (h : NdV A w x v) : ∃ na nc ka kc fl, v = .agg #[.int .i64 x.kind, .string (strOfNums x.text), .int .i64 (x.pos : Int), .int .i64 (x.n : Int), .slice na x.names.length nc, .slice ka x.kids.length kc] ∧ SlF A w na x.names.length nc (x.names.map strV) ∧ SlF A w ka x.kids.length kc fl ∧ KsF A w x.kids fl ∧ x.names.length ≤ 100000 ∧ x.kids.length ≤ 100000 ∧ x.text.length ≤ 100000000 := by
  cases x
  simp only [NdV] at h
  exact h
theorem NdV.mk_ {A : Nat → Prop} {w : World} {k : Int} {t : List Int} {p n : Nat} {l : List (List Int)} {kids : List Nd} {na : Option Addr} {nc : Nat} {ka : Option Addr} {kc : Nat} {fl : List Value} (s1 : SlF A w na l.length nc (l.map strV)) (s2 : SlF A w ka kids.length kc fl) (hk : KsF A w kids fl) (b1 : l.length ≤ 100000) (b2 : kids.length ≤ 100000) (b3 : t.length ≤ 100000000) : NdV A w (.mk k t p n l kids) (.agg #[.int .i64 k, .string (strOfNums t), .int .i64 (p : Int), .int .i64 (n : Int), .slice na l.length nc, .slice ka kids.length kc]) := by
  simp only [NdV]
  exact ⟨na, nc, ka, kc, fl, rfl, s1, s2, hk, b1, b2, b3⟩
/-- A part without parts. -/
theorem NdV.leaf {A : Nat → Prop} {w : World} {k : Int} {t : List Int} {p : Nat} (b3 : t.length ≤ 100000000) : NdV A w (.mk k t p 0 [] []) (.agg #[.int .i64 k, .string (strOfNums t), .int .i64 (p : Int), .int .i64 0, .slice none 0 0, .slice none 0 0]) := by
  have h := NdV.mk_ (A := A) (w := w) (k := k) (t := t) (p := p) (n := 0) (l := []) (kids := []) (SlF.nil A w) (SlF.nil A w) (KsF.nil A w) (by decide) (by decide) b3
  exact h
def zNd : Nd := .mk 0 [] 0 0 [] []
theorem NdV.zero {A : Nat → Prop} {w : World} : NdV A w zNd (.agg #[.int .i64 0, .string ⟨#[]⟩, .int .i64 0, .int .i64 0, .slice none 0 0, .slice none 0 0]) := NdV.leaf (t := []) (p := 0) (by decide)
theorem KsF.flat {A : Nat → Prop} {w : World} : ∀ {xs : List Nd} {fl : List Value}, KsF A w xs fl → ∀ u ∈ fl, u.oneCell' = true
  | [], fl, h, u, hu => by simp only [KsF] at h; subst h; simp at hu
  | x :: xs, fl, h, u, hu => by
    simp only [KsF] at h
    obtain ⟨v0, v1, v2, v3, v4, v5, r, rfl, h1, h2⟩ := h
    obtain ⟨na, nc, ka, kc, gl, e, _⟩ := h1.parts
    simp only [Value.agg.injEq, Array.mk.injEq, List.cons.injEq, and_true] at e
    obtain ⟨rfl, rfl, rfl, rfl, rfl, rfl⟩ := e
    simp only [List.mem_cons] at hu
    rcases hu with rfl | rfl | rfl | rfl | rfl | rfl | hu
    · rfl
    · rfl
    · rfl
    · rfl
    · rfl
    · rfl
    · exact KsF.flat h2 u hu
/-- The part at a place. -/
theorem KsF.at_ {A : Nat → Prop} {w : World} : ∀ {xs : List Nd} {fl : List Value} (i : Nat) (x : Nd), KsF A w xs fl → xs[i]? = some x → ∃ v0 v1 v2 v3 v4 v5, NdV A w x (.agg #[v0, v1, v2, v3, v4, v5]) ∧ fl[i * 6]? = some v0 ∧ fl[i * 6 + 1]? = some v1 ∧ fl[i * 6 + 2]? = some v2 ∧ fl[i * 6 + 3]? = some v3 ∧ fl[i * 6 + 4]? = some v4 ∧ fl[i * 6 + 5]? = some v5
  | [], fl, i, x, h, hi => by simp at hi
  | y :: xs, fl, 0, x, h, hi => by
    simp at hi
    subst hi
    simp only [KsF] at h
    obtain ⟨v0, v1, v2, v3, v4, v5, r, rfl, h1, h2⟩ := h
    exact ⟨v0, v1, v2, v3, v4, v5, h1, rfl, rfl, rfl, rfl, rfl, rfl⟩
  | y :: xs, fl, i + 1, x, h, hi => by
    simp only [KsF] at h
    obtain ⟨v0, v1, v2, v3, v4, v5, r, rfl, h1, h2⟩ := h
    have := KsF.at_ i x h2 (by simpa using hi)
    rw [show (i + 1) * 6 = i * 6 + 6 by omega]
    exact this
/-- All is kept below a place but for one block (the reader's). -/
structure Fr (p B : Nat) (w w' : World) : Prop where
  os : w'.os = w.os
  tape : w'.tape = w.tape
  output : w'.output = w.output
  size : w.heap.size ≤ w'.heap.size
  block : ∀ b, b < B → b ≠ p → w'.heap[b]? = w.heap[b]?
theorem Fr.refl (p B : Nat) (w : World) : Fr p B w w := ⟨rfl, rfl, rfl, Nat.le_refl _, fun _ _ _ => rfl⟩
theorem Fr.of_below {p B : Nat} {w w' : World} (h : Below B w w') : Fr p B w w' := ⟨h.os, h.tape, h.output, h.size, fun b hb _ => h.block b hb⟩
theorem Fr.trans {p B B' : Nat} {w w1 w2 : World} (h : Fr p B w w1) (k : Fr p B' w1 w2) (hB : B ≤ B') : Fr p B w w2 :=
  ⟨k.os.trans h.os, k.tape.trans h.tape, k.output.trans h.output, Nat.le_trans h.size k.size, fun b hb hn => (k.block b (by omega) hn).trans (h.block b hb hn)⟩
theorem Fr.low {p B B' : Nat} {w w' : World} (h : Fr p B w w') (hB : B' ≤ B) : Fr p B' w w' := ⟨h.os, h.tape, h.output, h.size, fun b hb hn => h.block b (by omega) hn⟩
theorem Fr.below {p B B' : Nat} {w w' : World} (h : Fr p B w w') (hB : B' ≤ B) (hp : B' ≤ p) : Below B' w w' := ⟨h.os, h.tape, h.output, h.size, fun b hb => h.block b (by omega) (by omega)⟩
theorem NdV.fr {p B : Nat} {A : Nat → Prop} {w w' : World} {x : Nd} {v : Value} (h : NdV A w x v) (k : Fr p B w w') (hA : ∀ b, A b → b < w.heap.size → b < B ∧ b ≠ p) : NdV A w' x v :=
  h.imp (fun b hb hb' => ⟨hb', k.block b (hA b hb' hb).1 (hA b hb' hb).2⟩) x v
theorem NdV.mono {A A' : Nat → Prop} {w : World} {x : Nd} {v : Value} (h : NdV A w x v) (hA : ∀ b, b < w.heap.size → A b → A' b) : NdV A' w x v := h.imp (fun b hb hb' => ⟨hA b hb hb', rfl⟩) x v
/-- A row of parts that is being made: its own block holds no part of them; all its blocks lie in a set. -/
def RowN (w : World) (A : Nat → Prop) (v : Value) (xs : List Nd) : Prop :=
  ∃ fl, w.ownsRow 0 36 6 v xs.length fl ∧ (∀ g, v.ownBlock = some g → A g) ∧ KsF (fun b => A b ∧ ∀ g, v.ownBlock = some g → b ≠ g) w xs fl
theorem RowN.nil (w : World) (A : Nat → Prop) : RowN w A (.slice none 0 0) [] := ⟨[], World.ownsRow_nil w 0 36 6, fun g hg => by simp [Value.ownBlock] at hg, KsF.nil _ _⟩
theorem RowN.shape {w : World} {A : Nat → Prop} {v : Value} {xs : List Nd} (h : RowN w A v xs) : ∃ a c, v = .slice a xs.length c := by
  obtain ⟨fl, h1, _⟩ := h
  rcases h1.2 with ⟨rfl, h0⟩ | ⟨g, cap, cur, rfl, _⟩
  · exact ⟨none, 0, by rw [h0]⟩
  · exact ⟨_, _, rfl⟩
/-- A row that is made is read. -/
theorem RowN.sl {w : World} {A : Nat → Prop} {a : Option Addr} {c n : Nat} {xs : List Nd} (h : RowN w A (.slice a n c) xs) : n = xs.length ∧ ∃ fl, SlF A w a n c fl ∧ KsF A w xs fl := by
  obtain ⟨fl, h1, hA, h2⟩ := h
  have h3 := h1.2
  have hs := h1.1
  rcases h3 with ⟨e, h0⟩ | ⟨g, cap, cur, e, _, hg, hn, hm, hc, ht⟩
  · simp only [Value.slice.injEq] at e
    obtain ⟨rfl, rfl, rfl⟩ := e
    rw [h0] at hs
    have : fl = [] := List.eq_nil_of_length_eq_zero (by omega)
    subst this
    exact ⟨h0.symm, [], SlF.nil _ _, h2.imp (fun b _ hb => ⟨hb.1, rfl⟩) _ _⟩
  · simp only [Value.slice.injEq] at e
    obtain ⟨rfl, rfl, rfl⟩ := e
    refine ⟨rfl, fl, ⟨hn, hm, by simp, fun _ => ⟨g, 0, rfl, hA g rfl, fun j u hj => ?_⟩⟩, h2.imp (fun b _ hb => ⟨hb.1, rfl⟩) _ _⟩
    have := h1.cells (g := g) rfl j u hj
    rw [addrAdd] at this
    exact this
/-- A row in the making, where its blocks are kept. -/
theorem RowN.keep {w w' : World} {A : Nat → Prop} {v : Value} {xs : List Nd} (h : RowN w A v xs) (hk : ∀ b, A b → b < w.heap.size → w'.heap[b]? = w.heap[b]?) : RowN w' A v xs := by
  obtain ⟨fl, h1, hA, h2⟩ := h
  refine ⟨fl, ⟨h1.1, ?_⟩, hA, h2.imp (fun b hb hA => ⟨hA, hk b hA.1 hb⟩) _ _⟩
  rcases h1.2 with h | ⟨g, cap, cur, e, hB, hg, rest⟩
  · exact .inl h
  · exact .inr ⟨g, cap, cur, e, hB, (hk g (hA g (by rw [e]; rfl)) (lt_of_block hg)).trans hg, rest⟩
end Go.Proofs.Ytoghhjljmhdioaa
