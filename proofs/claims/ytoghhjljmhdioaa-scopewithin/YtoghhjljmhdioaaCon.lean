/- What the reader's calls do, in the grammar's words; leaf, named, send. -/
import Derived.Test.YtoghhjljmhdioaaNda
namespace Go.Proofs.Ytoghhjljmhdioaa
open Go.RowKit
set_option maxRecDepth 100000
/-- A source's words. -/
structure Src (W : List Tk) (E : Nat) : Prop where
  ends : EndAt W E
  small : E ≤ 5000
  txt : ∀ i, (txW W i).length ≤ 5000
theorem Src.lt {W : List Tk} {E i : Nat} (S : Src W E) (hi : i ≤ E) : i < W.length := by have := S.ends.len; omega
/-- A part whose blocks lie above a place. -/
def NdB (B : Nat) (w : World) (x : Nd) (v : Value) : Prop := NdV (fun b => B ≤ b) w x v
theorem NdB.fr {p B : Nat} {w w' : World} {x : Nd} {v : Value} (h : NdB B w x v) (k : Fr p w.heap.size w w') (hp : p < B) : NdB B w' x v :=
  NdV.fr h k fun b hb hl => ⟨hl, by omega⟩
theorem NdB.bel {B : Nat} {w w' : World} {x : Nd} {v : Value} (h : NdB B w x v) (k : Below w.heap.size w w') : NdB B w' x v :=
  h.imp (fun b hb hb' => ⟨hb', k.block b hb⟩) x v
theorem NdB.st {B g : Nat} {w w' : World} {x : Nd} {v : Value} (h : NdB B w x v) (k : St g w w') (hg : g < B) : NdB B w' x v :=
  h.imp (fun b _ hb' => ⟨hb', k.block b (by omega)⟩) x v
theorem NdB.up {B B' : Nat} {w : World} {x : Nd} {v : Value} (h : NdB B w x v) (hB : B' ≤ B) : NdB B' w x v := NdV.mono h fun b _ hb => by omega
theorem NdB.zero {B : Nat} {w : World} : NdB B w zNd (.agg #[.int .i64 0, .string ⟨#[]⟩, .int .i64 0, .int .i64 0, .slice none 0 0, .slice none 0 0]) := NdV.zero
/-- What a call of the reader answers, and where it stands then. -/
def AnsA (A : Nat → Prop) (p : Nat) (W : List Tk) (d : Nat) (e : Ending) (w' : World) : Rs → Prop
  | .ok x j => ∃ v, e = .returned (.tuple #[v, .bool true]) ∧ NdV A w' x v ∧ Rdw w' p W j (d : Int) 20
  | .er j c => ∃ v x d', e = .returned (.tuple #[v, .bool false]) ∧ NdV A w' x v ∧ Rdw w' p W j d' c
def AnsR (B p : Nat) (W : List Tk) (d : Nat) (e : Ending) (w' : World) (r : Rs) : Prop := AnsA (fun b => B ≤ b) p W d e w' r
/-- A function of the reader alone. -/
def Con0 (f : Nat) (W : List Tk) (q : Qy) (i d : Nat) : Prop :=
  ∀ w p, Rdw w p W i (d : Int) 20 → Calls Try.prog f #[.pointer (some ⟨p, 0, none⟩)] w fun e w' => ∃ r, Reads W q r ∧ AnsR w.heap.size p W d e w' r ∧ Fr p w.heap.size w w'
/-- A function of the reader and a part. -/
def Con1 (f : Nat) (W : List Tk) (q : Qy) (x : Nd) (i d : Nat) : Prop :=
  ∀ w p (A : Nat → Prop) v, Rdw w p W i (d : Int) 20 → ¬ A p → (∀ b, w.heap.size ≤ b → A b) → NdV A w x v → Calls Try.prog f #[.pointer (some ⟨p, 0, none⟩), v] w fun e w' => ∃ r, Reads W q r ∧ AnsA A p W d e w' r ∧ Fr p w.heap.size w w'
theorem Rdw.fr {p : Nat} {w w' : World} {W : List Tk} {i : Nat} {d y : Int} (h : Rdw w p W i d y) (k : Below w.heap.size w w') : Rdw w' p W i d y := h.below k h.lt
theorem results_cellb {P : Program} {fn : Func} {tmps : Array Value} {a t b : Nat} {ad : Addr} {w : World} {v u : Value} (hf : fn.results = #[.cell a t, .tmp b]) (ha : tmps[a]?.getD undef = .pointer (some ad)) (hu : tmps[b]?.getD undef = u) (hl : (loadVar t ad).run P w = .ok v w) : (results fn tmps).run P w = .ok (.tuple #[v, u]) w := by
  unfold results
  rw [hf]
  simp [ha, hu, asAddr, hl]
/-- A leaf: the word that comes, as a part of a kind. -/
theorem leaf_any {W : List Tk} {E : Nat} (S : Src W E) {w : World} {p i d : Nat} {y : Int} (h : Rdw w p W i d y) (hi : i ≤ E) (k : Int) :
    Calls Try.prog 80 #[.pointer (some ⟨p, 0, none⟩), .int .i64 k] w fun e w' => ∃ v, e = .returned v ∧ NdB w.heap.size w' (leafW W k i) v ∧ Rdw w' p W (i + 1) d y ∧ Fr p w.heap.size w w' := by
  have hp := h.lt
  have htx := S.txt i
  go_enter Try.func80, Try.ntmps80
  go_wp2_with (refine al25 _ rfl rfl ?_)
  intro q w1 E1 hq B1
  go_wp2_with fail
  refine (next_any (h.fr B1) (S.lt hi)).mono ?_
  rintro e w2 ⟨rfl, h2, F2⟩
  have E2 : w2.heap[q]? = _ := (F2.block q (lt_of_block E1) (by omega)).trans E1
  have F02 := (Fr.of_below B1).thn (Nat.le_refl _) F2
  clear E1 F2 B1 h
  go_wp2_with (refine al54 _ rfl rfl ?_)
  intro t w3 E3 ht B3
  go_wp2_with (refine st54 _ rfl _ _ rfl rfl _ _ _ _ rfl rfl E3 ?_)
  intro w4 E4 S4
  have B34 : Below w2.heap.size w2 w4 := B3.trans (S4.below ht)
  replace E2 := (B34.block q (lt_of_block E2)).trans E2
  replace h2 := h2.fr B34
  replace F02 := F02.thn (Nat.le_refl _) (Fr.of_below B34)
  have hqs := lt_of_block E2
  clear E3 S4 B3 B34
  obtain ⟨z0, z1, z2, zf⟩ := tok_cells E4
  go_wp2_with (refine st25 _ rfl _ _ rfl rfl _ _ _ _ _ _ _ _ _ _ _ rfl rfl E2 ?_)
  intro w5 E5 S5
  go_wp2
  refine bodyPost_ret (results_cellT (a := 4) (t := 36) (by rfl) (by rfl) (load25 E5)) (by rfl) ⟨_, rfl, NdV.leaf (by omega), h2.st S5 (by omega), F02.trans (Fr.of_below (S5.below hq)) (Nat.le_refl _)⟩
end Go.Proofs.Ytoghhjljmhdioaa
