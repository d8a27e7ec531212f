/- The reader: word, is, next, skip, enter, leave. -/
import Derived.Test.YtoghhjljmhdioaaNod
import Derived.Test.YtoghhjljmhdioaaTok
import Derived.StillTailTactics
import Derived.Deep.RegionWith
import Derived.WalkMore
import Derived.Deep.CutRange
import Derived.Deep.CutBlock
import Derived.Laws.AppendOwnNone
import Derived.Laws.OwnMore
import Derived.Lib.AppendZeros
import Derived.Lib.LazyBuf
import Derived.Deep.DeepAppendRoom
import Derived.Great.BuildSlice
namespace Go.Proofs.Ytoghhjljmhdioaa
open Go.RowKit
set_option maxRecDepth 100000
/-- The reader's block. -/
def redO (a : Option Addr) (n c : Nat) (i : Nat) (d y : Int) : Obj := .cells #[.slice a n c, .int .i64 (i : Int), .int .i64 d, .int .i64 y] 54
/-- A reader at a place, so deep; its words lie below it. -/
structure Rdw (w : World) (p : Nat) (W : List Tk) (i : Nat) (d y : Int) : Prop where
  ex : ∃ b off c, w.heap[p]? = some (redO (some ⟨b, off, none⟩) W.length c i d y) ∧ b < p ∧ IsT w (some ⟨b, off, none⟩) W.length c W
theorem Rdw.lt {w : World} {p : Nat} {W : List Tk} {i : Nat} {d y : Int} (h : Rdw w p W i d y) : p < w.heap.size := by
  obtain ⟨b, off, c, h1, _⟩ := h.ex
  exact lt_of_block h1
theorem Rdw.same {w w' : World} {p : Nat} {W : List Tk} {i : Nat} {d y : Int} (h : Rdw w p W i d y) (hk : ∀ b, b < p → w'.heap[b]? = w.heap[b]?) (hp : w'.heap[p]? = w.heap[p]?) : Rdw w' p W i d y := by
  obtain ⟨b, off, c, h1, h2, h3⟩ := h.ex
  refine ⟨b, off, c, hp.trans h1, h2, ?_⟩
  refine ⟨h3.size, h3.room, h3.most, h3.nil0, fun h0 => ?_⟩
  obtain ⟨b', off', e, hc⟩ := h3.cells h0
  simp only [Option.some.injEq, Addr.mk.injEq, and_true] at e
  obtain ⟨rfl, rfl⟩ := e
  have hb := hk b h2
  exact ⟨b, off, rfl, fun i hi => ⟨(World.cell?_of_block (a := ⟨b, off + i * 3, none⟩) hb).trans (hc i hi).1, (World.cell?_of_block (a := ⟨b, off + i * 3 + 1, none⟩) hb).trans (hc i hi).2.1, (World.cell?_of_block (a := ⟨b, off + i * 3 + 2, none⟩) hb).trans (hc i hi).2.2⟩⟩
theorem Rdw.below {w w' : World} {p B : Nat} {W : List Tk} {i : Nat} {d y : Int} (h : Rdw w p W i d y) (hb : Below B w w') (hp : p < B) : Rdw w' p W i d y :=
  h.same (fun b h => hb.block b (by omega)) (hb.block p hp)
/-- Its fields, and the word that comes. -/
theorem Rdw.open_ {w : World} {p : Nat} {W : List Tk} {i : Nat} {d y : Int} (h : Rdw w p W i d y) (hi : i < W.length) : ∃ b off c, w.heap[p]? = some (redO (some ⟨b, off, none⟩) W.length c i d y) ∧ b < p ∧ w.cell? ⟨p, 0, none⟩ = some (.slice (some ⟨b, off, none⟩) W.length c) ∧ w.cell? ⟨p, 1, none⟩ = some (.int .i64 (i : Int)) ∧ w.cell? ⟨p, 2, none⟩ = some (.int .i64 d) ∧ w.cell? ⟨p, 3, none⟩ = some (.int .i64 y) ∧ w.frozen? ⟨p, 0, none⟩ = false ∧ w.cell? ⟨b, off + i * 3, none⟩ = some (.int .i64 (kdW W i)) ∧ w.cell? ⟨b, off + i * 3 + 1, none⟩ = some (.string (strOfNums (txW W i))) ∧ w.cell? ⟨b, off + i * 3 + 2, none⟩ = some (.int .i64 (psW W i : Int)) := by
  obtain ⟨b, off, c, h1, h2, h3⟩ := h.ex
  obtain ⟨b', off', e, hc⟩ := h3.cells (by omega)
  simp only [Option.some.injEq, Addr.mk.injEq, and_true] at e
  obtain ⟨rfl, rfl⟩ := e
  have := hc i hi
  refine ⟨b, off, c, h1, h2, ?_, ?_, ?_, ?_, ?_, this.1, this.2.1, this.2.2⟩
  · simp [World.cell?, h1, redO]
  · simp [World.cell?, h1, redO]
  · simp [World.cell?, h1, redO]
  · simp [World.cell?, h1, redO]
  · simp [World.frozen?, h1, redO]
theorem newO (w : World) (o : Obj) : (w.alloc o).heap[w.heap.size]? = some o := heap_alloc_new w o
theorem boxO {w : World} {o : Obj} : Below w.heap.size w (w.alloc o) := (Below.refl _ _).alloc (Nat.le_refl _) _
theorem below_sz {B : Nat} {w w1 w2 : World} (h1 : Below B w w1) (hB : B ≤ w.heap.size) (h2 : Below w1.heap.size w1 w2) : Below B w w2 :=
  ⟨h2.os.trans h1.os, h2.tape.trans h1.tape, h2.output.trans h1.output, Nat.le_trans h1.size h2.size, fun k hk => (h2.block k (by have := h1.size; omega)).trans (h1.block k hk)⟩
def tokB (k : Int) (s : ByteArray) (p : Int) : Obj := .cells #[.int .i64 k, .string s, .int .i64 p] 59
theorem tok_cells {w : World} {b : Nat} {k : Int} {s : ByteArray} {p : Int} (h : w.heap[b]? = some (tokB k s p)) : w.cell? ⟨b, 0, none⟩ = some (.int .i64 k) ∧ w.cell? ⟨b, 1, none⟩ = some (.string s) ∧ w.cell? ⟨b, 2, none⟩ = some (.int .i64 p) ∧ ∀ j, w.frozen? ⟨b, j, none⟩ = false := by
  refine ⟨?_, ?_, ?_, fun j => ?_⟩ <;> simp [World.cell?, World.frozen?, h, tokB]
theorem rd_cells {w : World} {p : Nat} {a : Option Addr} {n c i : Nat} {d y : Int} (h : w.heap[p]? = some (redO a n c i d y)) : w.cell? ⟨p, 0, none⟩ = some (.slice a n c) ∧ w.cell? ⟨p, 1, none⟩ = some (.int .i64 (i : Int)) ∧ w.cell? ⟨p, 2, none⟩ = some (.int .i64 d) ∧ w.cell? ⟨p, 3, none⟩ = some (.int .i64 y) ∧ ∀ j, w.frozen? ⟨p, j, none⟩ = false := by
  refine ⟨?_, ?_, ?_, ?_, fun j => ?_⟩ <;> simp [World.cell?, World.frozen?, h, redO]
theorem results_cellT {P : Program} {fn : Func} {tmps : Array Value} {a t : Nat} {ad : Addr} {w : World} {v : Value} (hf : fn.results = #[.cell a t]) (ha : tmps[a]?.getD undef = .pointer (some ad)) (hl : (loadVar t ad).run P w = .ok v w) : (results fn tmps).run P w = .ok v w := by
  unfold results
  rw [hf]
  simp [ha, asAddr, hl]
/-- All but one block is kept. -/
structure St (g : Nat) (w w' : World) : Prop where
  os : w'.os = w.os
  tape : w'.tape = w.tape
  output : w'.output = w.output
  size : w'.heap.size = w.heap.size
  block : ∀ b, b ≠ g → w'.heap[b]? = w.heap[b]?
theorem St.row (w : World) (g : Nat) (cs : Array Value) : St g w (w.setRow g cs) := ⟨rfl, rfl, rfl, setRow_size w g cs, fun b hb => setRow_other w g b cs hb⟩
theorem St.cell (w : World) (g i : Nat) (v : Value) : St g w (w.setCell ⟨g, i, none⟩ v) := ⟨rfl, rfl, rfl, by simp [World.setCell], fun b hb => by simp [World.setCell, Array.getElem?_modify, Ne.symm hb]⟩
theorem St.below {g B : Nat} {w w' : World} (h : St g w w') (hg : B ≤ g) : Below B w w' := ⟨h.os, h.tape, h.output, Nat.le_of_eq h.size.symm, fun b hb => h.block b (by omega)⟩
theorem Below.thn {B : Nat} {w w1 w2 : World} (h : Below B w w1) (k : Below B w1 w2) : Below B w w2 := h.trans k
theorem St.fr {p B : Nat} {w w' : World} (h : St p w w') : Fr p B w w' := ⟨h.os, h.tape, h.output, Nat.le_of_eq h.size.symm, fun b _ hn => h.block b hn⟩
section
variable {ops : Array Oper} {rest : List Oper} {o : Oper} {a : Act} {Q : Exit → Act → World → Prop}
theorem st54 (w : World) (hgd : o.guard = none) (x y : Operand) (ho : o.op = .store 59 x y) (hd : o.dst = none) (g : Nat) (k : Int) (s : ByteArray) (p : Int) (hx : a.eval x = .pointer (some ⟨g, 0, none⟩)) (hy : a.eval y = .agg #[.int .i64 k, .string s, .int .i64 p]) {k0 p0 : Int} {s0 : ByteArray} (hg : w.heap[g]? = some (tokB k0 s0 p0))
    (h : ∀ w', w'.heap[g]? = some (tokB k s p) → St g w w' → wpList Try.prog ops Q rest a w') : wpList Try.prog ops Q (o :: rest) a w := by
  refine wpList_store_row hgd 59 x y ho g _ hx hy 59 _ hg (by kernel_rfl) rfl (by simp [Value.oneCell']) ?_
  rw [hd]
  exact h _ (setRow_heap w g _ _ _ _ hg) (St.row w g _)
theorem st25 (w : World) (hgd : o.guard = none) (x y : Operand) (ho : o.op = .store 36 x y) (hd : o.dst = none) (g : Nat) (k : Int) (s : ByteArray) (p n : Int) (na : Option Addr) (nl nc : Nat) (ka : Option Addr) (kl kc : Nat) (hx : a.eval x = .pointer (some ⟨g, 0, none⟩)) (hy : a.eval y = .agg #[.int .i64 k, .string s, .int .i64 p, .int .i64 n, .slice na nl nc, .slice ka kl kc]) {u0 u1 u2 u3 u4 u5 : Value} (hg : w.heap[g]? = some (.cells #[u0, u1, u2, u3, u4, u5] 36))
    (h : ∀ w', w'.heap[g]? = some (.cells #[.int .i64 k, .string s, .int .i64 p, .int .i64 n, .slice na nl nc, .slice ka kl kc] 36) → St g w w' → wpList Try.prog ops Q rest a w') : wpList Try.prog ops Q (o :: rest) a w := by
  refine wpList_store_row hgd 36 x y ho g _ hx hy 36 _ hg (by kernel_rfl) rfl (by simp [Value.oneCell']) ?_
  rw [hd]
  exact h _ (setRow_heap w g _ _ _ _ hg) (St.row w g _)
end
theorem nd_cells {w : World} {b : Nat} {u0 u1 u2 u3 u4 u5 : Value} (h : w.heap[b]? = some (.cells #[u0, u1, u2, u3, u4, u5] 36)) : w.cell? ⟨b, 0, none⟩ = some u0 ∧ w.cell? ⟨b, 1, none⟩ = some u1 ∧ w.cell? ⟨b, 2, none⟩ = some u2 ∧ w.cell? ⟨b, 3, none⟩ = some u3 ∧ w.cell? ⟨b, 4, none⟩ = some u4 ∧ w.cell? ⟨b, 5, none⟩ = some u5 ∧ ∀ j, w.frozen? ⟨b, j, none⟩ = false := by
  refine ⟨?_, ?_, ?_, ?_, ?_, ?_, fun j => ?_⟩ <;> simp [World.cell?, World.frozen?, h]
theorem load25 {w : World} {b : Nat} {u0 u1 u2 u3 u4 u5 : Value} (h : w.heap[b]? = some (.cells #[u0, u1, u2, u3, u4, u5] 36)) : (loadVar 36 ⟨b, 0, none⟩).run Try.prog w = .ok (.agg #[u0, u1, u2, u3, u4, u5]) w := by
  obtain ⟨z0, z1, z2, z3, z4, z5, _⟩ := nd_cells h
  simp [go_sem, z0, z1, z2, z3, z4, z5]
theorem load54 {w : World} {b : Nat} {k : Int} {s : ByteArray} {p : Int} (h : w.heap[b]? = some (tokB k s p)) : (loadVar 59 ⟨b, 0, none⟩).run Try.prog w = .ok (.agg #[.int .i64 k, .string s, .int .i64 p]) w := by
  obtain ⟨z0, z1, z2, _⟩ := tok_cells h
  simp [go_sem, z0, z1, z2]
def TokV (W : List Tk) (i : Nat) : Value := .agg #[.int .i64 (kdW W i), .string (strOfNums (txW W i)), .int .i64 (psW W i : Int)]
theorem wordR_any {w : World} {p : Nat} {W : List Tk} {i : Nat} {d y : Int} (h : Rdw w p W i d y) (hi : i < W.length) :
    Calls Try.prog 19 #[.pointer (some ⟨p, 0, none⟩)] w fun e w' => e = .returned (.agg #[.int .i64 (kdW W i), .string (strOfNums (txW W i)), .int .i64 (psW W i : Int)]) ∧ Below w.heap.size w w' := by
  have hiI : (i : Int) < (W.length : Int) := by omega
  have hi0 : (0 : Int) ≤ (i : Int) := by omega
  have B1 : Below w.heap.size w (w.alloc (tokB 0 ⟨#[]⟩ 0)) := boxO
  have E1 := newO w (tokB 0 ⟨#[]⟩ 0)
  have h1 := h.below B1 h.lt
  clear h
  unfold tokB at B1 E1 h1
  go_enter Try.func19, Try.ntmps19
  go_wp2_with fail
  generalize w.alloc (.cells #[.int .i64 0, .string ⟨#[]⟩, .int .i64 0] 59) = w1 at *
  obtain ⟨b, off, c, e1, h2, c0, c1, c2, c3, cf, k0, k1, k2⟩ := h1.open_ hi
  clear h1 e1
  go_still_tail 10, (by kernel_rfl)
  refine st54 _ rfl _ _ rfl rfl w.heap.size _ _ _ rfl rfl E1 ?_
  intro w2 E2 S2
  go_wp2
  refine bodyPost_ret (v := TokV W i) (results_cellT (a := 2) (t := 59) (by rfl) (by rfl) (load54 E2)) (by rfl) ⟨rfl, B1.drew.trans (S2.below (Nat.le_refl _))⟩
theorem fld0 (k : Int) (s : ByteArray) (p : Int) (w : World) : (Instr.field 59 (.agg #[.int .i64 k, .string s, .int .i64 p]) 0).run Try.prog w = .ok (.int .i64 k) w := by
  simp [Instr.field, asAgg, go_sem]
theorem fld1 (k : Int) (s : ByteArray) (p : Int) (w : World) : (Instr.field 59 (.agg #[.int .i64 k, .string s, .int .i64 p]) 1).run Try.prog w = .ok (.string s) w := by
  simp [Instr.field, asAgg, go_sem]
theorem fld2 (k : Int) (s : ByteArray) (p : Int) (w : World) : (Instr.field 59 (.agg #[.int .i64 k, .string s, .int .i64 p]) 2).run Try.prog w = .ok (.int .i64 p) w := by
  simp [Instr.field, asAgg, go_sem]
theorem is_any {w : World} {p : Nat} {W : List Tk} {i : Nat} {d y : Int} (h : Rdw w p W i d y) (hi : i < W.length) (k : Int) :
    Calls Try.prog 18 #[.pointer (some ⟨p, 0, none⟩), .int .i64 k] w fun e w' => e = .returned (.bool (kdW W i == k)) ∧ Below w.heap.size w w' := by
  have f0 := fld0
  go_enter Try.func18, Try.ntmps18
  go_wp2_with fail
  refine (wordR_any h hi).mono ?_
  rintro e w1 ⟨rfl, B1⟩
  go_wp2
  exact bodyPost_ret (v := .bool (kdW W i == k)) (by simp [results, go_sem]) rfl ⟨rfl, B1⟩
theorem Rdw.len {w : World} {p : Nat} {W : List Tk} {i : Nat} {d y : Int} (h : Rdw w p W i d y) : W.length ≤ maxLen := by
  obtain ⟨b, off, c, _, _, h3⟩ := h.ex
  exact Nat.le_trans h3.room h3.most
theorem Rdw.st {w w' : World} {p g : Nat} {W : List Tk} {i : Nat} {d y : Int} (h : Rdw w p W i d y) (hs : St g w w') (hg : p < g) : Rdw w' p W i d y :=
  h.same (fun b hb => hs.block b (by omega)) (hs.block p (by omega))
theorem Rdw.put {w w' : World} {p : Nat} {W : List Tk} {i i' : Nat} {d d' y y' : Int} (h : Rdw w p W i d y) (hs : St p w w') (hp : ∀ b off c, w.heap[p]? = some (redO (some ⟨b, off, none⟩) W.length c i d y) → w'.heap[p]? = some (redO (some ⟨b, off, none⟩) W.length c i' d' y')) : Rdw w' p W i' d' y' := by
  obtain ⟨b, off, c, h1, h2, h3⟩ := h.ex
  refine ⟨b, off, c, hp b off c h1, h2, ?_⟩
  refine ⟨h3.size, h3.room, h3.most, h3.nil0, fun h0 => ?_⟩
  obtain ⟨b', off', e, hc⟩ := h3.cells h0
  simp only [Option.some.injEq, Addr.mk.injEq, and_true] at e
  obtain ⟨rfl, rfl⟩ := e
  have hb := hs.block b (by omega)
  exact ⟨b, off, rfl, fun i hi => ⟨(World.cell?_of_block (a := ⟨b, off + i * 3, none⟩) hb).trans (hc i hi).1, (World.cell?_of_block (a := ⟨b, off + i * 3 + 1, none⟩) hb).trans (hc i hi).2.1, (World.cell?_of_block (a := ⟨b, off + i * 3 + 2, none⟩) hb).trans (hc i hi).2.2⟩⟩
theorem Rdw.setAt {w : World} {p : Nat} {W : List Tk} {i : Nat} {d y : Int} (h : Rdw w p W i d y) (j : Nat) : Rdw (w.setCell ⟨p, 1, none⟩ (.int .i64 (j : Int))) p W j d y :=
  h.put (St.cell w p 1 _) fun b off c e => by unfold redO at e ⊢; rw [heap_setCell_same w p 1 _ _ _ e]; simp
theorem Rdw.setNext {w : World} {p : Nat} {W : List Tk} {i : Nat} {d y : Int} (h : Rdw w p W i d y) : Rdw (w.setCell ⟨p, 1, none⟩ (.int .i64 ((i : Int) + 1))) p W (i + 1) d y := h.setAt (i + 1)
theorem Rdw.setDepth {w : World} {p : Nat} {W : List Tk} {i : Nat} {d y : Int} (h : Rdw w p W i d y) (e : Int) : Rdw (w.setCell ⟨p, 2, none⟩ (.int .i64 e)) p W i e y :=
  h.put (St.cell w p 2 _) fun b off c e => by unfold redO at e ⊢; rw [heap_setCell_same w p 2 _ _ _ e]; simp
theorem Rdw.setWhy {w : World} {p : Nat} {W : List Tk} {i : Nat} {d y : Int} (h : Rdw w p W i d y) (e : Int) : Rdw (w.setCell ⟨p, 3, none⟩ (.int .i64 e)) p W i d e :=
  h.put (St.cell w p 3 _) fun b off c e => by unfold redO at e ⊢; rw [heap_setCell_same w p 3 _ _ _ e]; simp
/-- Its own fields. -/
theorem Rdw.own {w : World} {p : Nat} {W : List Tk} {i : Nat} {d y : Int} (h : Rdw w p W i d y) : w.cell? ⟨p, 1, none⟩ = some (.int .i64 (i : Int)) ∧ w.cell? ⟨p, 2, none⟩ = some (.int .i64 d) ∧ w.cell? ⟨p, 3, none⟩ = some (.int .i64 y) ∧ w.frozen? ⟨p, 1, none⟩ = false ∧ w.frozen? ⟨p, 2, none⟩ = false ∧ w.frozen? ⟨p, 3, none⟩ = false := by
  obtain ⟨b, off, c, h1, _⟩ := h.ex
  obtain ⟨_, c1, c2, c3, zf⟩ := rd_cells h1
  exact ⟨c1, c2, c3, zf 1, zf 2, zf 3⟩
theorem Fr.thn {p B : Nat} {w w1 w2 : World} (h : Fr p B w w1) (hB : B ≤ w.heap.size) (k : Fr p w1.heap.size w1 w2) : Fr p B w w2 := h.trans k (Nat.le_trans hB h.size)
theorem next_any {w : World} {p : Nat} {W : List Tk} {i : Nat} {d y : Int} (h : Rdw w p W i d y) (hi : i < W.length) :
    Calls Try.prog 25 #[.pointer (some ⟨p, 0, none⟩)] w fun e w' => e = .returned (.agg #[.int .i64 (kdW W i), .string (strOfNums (txW W i)), .int .i64 (psW W i : Int)]) ∧ Rdw w' p W (i + 1) d y ∧ Fr p w.heap.size w w' := by
  have hw : IntKind.i64.wrap ((i : Int) + 1) = (i : Int) + 1 := by have := h.len; unfold maxLen at this; rw [IntKind.wrap_i64]; omega
  have B1 : Below w.heap.size w (w.alloc (tokB 0 ⟨#[]⟩ 0)) := boxO
  have E1 := newO w (tokB 0 ⟨#[]⟩ 0)
  have h1 := h.below B1 h.lt
  have hp := h.lt
  clear h
  unfold tokB at B1 E1 h1
  go_enter Try.func25, Try.ntmps25
  go_wp2_with fail
  generalize w.alloc (.cells #[.int .i64 0, .string ⟨#[]⟩, .int .i64 0] 59) = w1 at *
  refine (wordR_any h1 hi).mono ?_
  rintro e w2 ⟨rfl, B2⟩
  replace h1 := h1.below B2 h1.lt
  replace E1 := (B2.block _ (lt_of_block E1)).trans E1
  have hs2 := lt_of_block E1
  replace B1 := below_sz B1 (Nat.le_refl _) B2
  clear B2
  go_wp2_with (refine st54 _ rfl _ _ rfl rfl _ _ _ _ rfl rfl (newO _ _) ?_)
  intro w3 E3 S3
  replace h1 := (h1.below boxO h1.lt).st S3 (by omega)
  replace E1 := (S3.block _ (by omega)).trans ((boxO.block _ hs2).trans E1)
  replace B1 := (B1.trans ((boxO (w := w2) (o := .cells #[.int .i64 0, .string ⟨#[]⟩, .int .i64 0] 59)).mono (by omega))).trans (S3.below (B := w.heap.size) (by omega))
  clear S3
  obtain ⟨c1, c2, c3, f1, f2, f3⟩ := h1.own
  go_upto_region 3 with fail
  replace h1 := h1.setNext
  have F1 : Fr p w.heap.size w (w3.setCell ⟨p, 1, none⟩ (.int .i64 ((i : Int) + 1))) := (Fr.of_below B1).trans (St.cell w3 p 1 _).fr (Nat.le_refl _)
  have E3' := ((St.cell w3 p 1 (.int .i64 ((i : Int) + 1))).block w2.heap.size (by omega)).trans E3
  have E1' := ((St.cell w3 p 1 (.int .i64 ((i : Int) + 1))).block w.heap.size (by omega)).trans E1
  clear E1 E3 B1 c1 c2 c3 f1 f2 f3
  generalize w3.setCell ⟨p, 1, none⟩ (.int .i64 ((i : Int) + 1)) = w4 at *
  obtain ⟨z0, z1, z2, _⟩ := tok_cells E3'
  go_wp2_with (refine st54 _ rfl _ _ rfl rfl _ _ _ _ rfl rfl E1' ?_)
  intro w5 E5 S5
  go_wp2
  exact bodyPost_ret (v := TokV W i) (results_cellT (a := 2) (t := 59) (by rfl) (by rfl) (load54 E5)) (by rfl) ⟨rfl, h1.st S5 hp, F1.trans (Fr.of_below (B := w.heap.size) (S5.below (Nat.le_refl _))) (Nat.le_refl _)⟩
theorem skip_no {w : World} {p : Nat} {W : List Tk} {i : Nat} {d y : Int} (h : Rdw w p W i d y) (hi : i < W.length) (k : Int) (hk : kdW W i ≠ k) :
    Calls Try.prog 27 #[.pointer (some ⟨p, 0, none⟩), .int .i64 k] w fun e w' => e = .returned (.bool false) ∧ Rdw w' p W i d y ∧ Fr p w.heap.size w w' := by
  have hkb : (kdW W i == k) = false := by simp [hk]
  go_enter Try.func27, Try.ntmps27
  go_wp2_with fail
  refine (is_any h hi k).mono ?_
  rintro e w1 ⟨rfl, B1⟩
  rw [hkb]
  go_wp2
  go_ret
  exact ⟨rfl, h.below B1 h.lt, Fr.of_below B1⟩
theorem skip_yes {w : World} {p : Nat} {W : List Tk} {i : Nat} {d y : Int} (h : Rdw w p W i d y) (hi : i < W.length) (k : Int) (hk : kdW W i = k) :
    Calls Try.prog 27 #[.pointer (some ⟨p, 0, none⟩), .int .i64 k] w fun e w' => e = .returned (.bool true) ∧ Rdw w' p W (i + 1) d y ∧ Fr p w.heap.size w w' := by
  have hkb : (kdW W i == k) = true := by simp [hk]
  have hw : IntKind.i64.wrap ((i : Int) + 1) = (i : Int) + 1 := by have := h.len; unfold maxLen at this; rw [IntKind.wrap_i64]; omega
  go_enter Try.func27, Try.ntmps27
  go_wp2_with fail
  refine (is_any h hi k).mono ?_
  rintro e w1 ⟨rfl, B1⟩
  rw [hkb]
  have h1 := h.below B1 h.lt
  obtain ⟨c1, c2, c3, f1, f2, f3⟩ := h1.own
  go_wp2
  go_ret
  exact ⟨rfl, h1.setNext, (Fr.of_below B1).trans (St.cell w1 p 1 _).fr (Nat.le_refl _)⟩
theorem enter_no {w : World} {p : Nat} {W : List Tk} {i : Nat} {y : Int} (h : Rdw w p W i 40 y) :
    Calls Try.prog 73 #[.pointer (some ⟨p, 0, none⟩)] w fun e w' => e = .returned (.bool false) ∧ Rdw w' p W i 40 3 ∧ Fr p w.heap.size w w' := by
  obtain ⟨c1, c2, c3, f1, f2, f3⟩ := h.own
  go_enter Try.func73, Try.ntmps73
  go_wp2
  go_ret
  exact ⟨rfl, h.setWhy 3, (St.cell w p 3 _).fr⟩
theorem enter_yes {w : World} {p : Nat} {W : List Tk} {i d : Nat} {y : Int} (h : Rdw w p W i d y) (hd : d < 40) (hi : i < W.length) :
    Calls Try.prog 73 #[.pointer (some ⟨p, 0, none⟩)] w fun e w' => e = .returned (.bool true) ∧ Rdw w' p W (i + 1) ((d : Int) + 1) y ∧ Fr p w.heap.size w w' := by
  have hw : IntKind.i64.wrap ((i : Int) + 1) = (i : Int) + 1 := by have := h.len; unfold maxLen at this; rw [IntKind.wrap_i64]; omega
  have hwd : IntKind.i64.wrap ((d : Int) + 1) = (d : Int) + 1 := by rw [IntKind.wrap_i64]; omega
  have hne : ((d : Int) == 40) = false := by simp; omega
  obtain ⟨c1, c2, c3, f1, f2, f3⟩ := h.own
  go_enter Try.func73, Try.ntmps73
  go_upto_region 5 with fail
  have h1 := h.setDepth ((d : Int) + 1)
  have S1 := St.cell w p 2 (.int .i64 ((d : Int) + 1))
  clear c1 c2 c3 f1 f2 f3
  generalize w.setCell ⟨p, 2, none⟩ (.int .i64 ((d : Int) + 1)) = w1 at *
  obtain ⟨c1, c2, c3, f1, f2, f3⟩ := h1.own
  go_wp2
  go_ret
  exact ⟨rfl, h1.setNext, S1.fr.trans (St.cell w1 p 1 _).fr (Nat.le_refl _)⟩
theorem leave_no {w : World} {p : Nat} {W : List Tk} {i : Nat} {d y : Int} (h : Rdw w p W i d y) (hi : i < W.length) (hd : 0 ≤ d ∧ d ≤ 100) (k : Int) (hk : kdW W i ≠ k) :
    Calls Try.prog 89 #[.pointer (some ⟨p, 0, none⟩), .int .i64 k] w fun e w' => e = .returned (.bool false) ∧ Rdw w' p W i (d - 1) y ∧ Fr p w.heap.size w w' := by
  have hwd : IntKind.i64.wrap (d - 1) = d - 1 := by rw [IntKind.wrap_i64]; omega
  obtain ⟨c1, c2, c3, f1, f2, f3⟩ := h.own
  have h1 := h.setDepth (d - 1)
  have S1 := St.cell w p 2 (.int .i64 (d - 1))
  go_enter Try.func89, Try.ntmps89
  go_wp2_with fail
  generalize w.setCell ⟨p, 2, none⟩ (.int .i64 (d - 1)) = w1 at *
  refine (skip_no h1 hi k hk).mono ?_
  rintro e w2 ⟨rfl, h2, F2⟩
  go_wp2
  go_ret
  exact ⟨rfl, h2, S1.fr.trans F2 (Nat.le_of_eq S1.size.symm)⟩
theorem leave_yes {w : World} {p : Nat} {W : List Tk} {i : Nat} {d y : Int} (h : Rdw w p W i d y) (hi : i < W.length) (hd : 0 ≤ d ∧ d ≤ 100) (k : Int) (hk : kdW W i = k) :
    Calls Try.prog 89 #[.pointer (some ⟨p, 0, none⟩), .int .i64 k] w fun e w' => e = .returned (.bool true) ∧ Rdw w' p W (i + 1) (d - 1) y ∧ Fr p w.heap.size w w' := by
  have hwd : IntKind.i64.wrap (d - 1) = d - 1 := by rw [IntKind.wrap_i64]; omega
  obtain ⟨c1, c2, c3, f1, f2, f3⟩ := h.own
  have h1 := h.setDepth (d - 1)
  have S1 := St.cell w p 2 (.int .i64 (d - 1))
  go_enter Try.func89, Try.ntmps89
  go_wp2_with fail
  generalize w.setCell ⟨p, 2, none⟩ (.int .i64 (d - 1)) = w1 at *
  refine (skip_yes h1 hi k hk).mono ?_
  rintro e w2 ⟨rfl, h2, F2⟩
  go_wp2
  go_ret
  exact ⟨rfl, h2, S1.fr.trans F2 (Nat.le_of_eq S1.size.symm)⟩
end Go.Proofs.Ytoghhjljmhdioaa
namespace Go.Proofs.Ytoghhjljmhdioaa
open Go.RowKit
set_option maxRecDepth 100000
theorem info_pts {P : Program} {e : TypeId} {z : Value} {size bytes : Nat} (h : (P.info? e).map (fun i => (i.zero, i.size, i.bytes)) = some (some z, size, bytes)) : ∃ i, P.info? e = some i ∧ i.zero = some z ∧ i.size = size ∧ i.bytes = bytes := by
  cases hi : P.info? e with
  | none => simp [hi] at h
  | some i => simp [hi] at h; exact ⟨i, rfl, h.1, h.2.1, h.2.2⟩
theorem info25 : (Try.prog.info? 36).map (fun i => (i.zero, i.size, i.bytes)) = some (some (.agg #[.int .i64 0, .string ⟨#[]⟩, .int .i64 0, .int .i64 0, .slice none 0 0, .slice none 0 0]), 6, 88) := by kernel_rfl
theorem info9 : (Try.prog.info? 9).map (fun i => (i.zero, i.size, i.bytes)) = some (some (.string ⟨#[]⟩), 1, 16) := by kernel_rfl
section
variable {ops : Array Oper} {rest : List Oper} {o : Oper} {a : Act} {Q : Exit → Act → World → Prop}
theorem al25 (w : World) (hgd : o.guard = none) (ho : o.op = .alloc 36) (h : ∀ q w', w'.heap[q]? = some (.cells #[.int .i64 0, .string ⟨#[]⟩, .int .i64 0, .int .i64 0, .slice none 0 0, .slice none 0 0] 36) → w.heap.size ≤ q → Below w.heap.size w w' → wpList Try.prog ops Q rest (a.put o.dst (.pointer (some ⟨q, 0, none⟩))) w') : wpList Try.prog ops Q (o :: rest) a w :=
  wpList_plain hgd fun _ hK => by
    unfold Oper.wp execOp
    simp [ho, go_sem]
    exact hK _ _ (h w.heap.size _ (newO w _) (Nat.le_refl _) boxO)
theorem al54 (w : World) (hgd : o.guard = none) (ho : o.op = .alloc 59) (h : ∀ q w', w'.heap[q]? = some (tokB 0 ⟨#[]⟩ 0) → w.heap.size ≤ q → Below w.heap.size w w' → wpList Try.prog ops Q rest (a.put o.dst (.pointer (some ⟨q, 0, none⟩))) w') : wpList Try.prog ops Q (o :: rest) a w :=
  wpList_plain hgd fun _ hK => by
    unfold Oper.wp execOp
    simp [ho, go_sem]
    exact hK _ _ (h w.heap.size _ (newO w _) (Nat.le_refl _) boxO)
/-- A slice literal of one part. -/
theorem bs25 (w : World) (hgd : o.guard = none) (x : Operand) (ho : o.op = .buildSlice 34 1 #[(0, x)]) (k : Int) (s : ByteArray) (p n : Int) (na : Option Addr) (nl nc : Nat) (ka : Option Addr) (kl kc : Nat) (hx : a.eval x = .agg #[.int .i64 k, .string s, .int .i64 p, .int .i64 n, .slice na nl nc, .slice ka kl kc])
    (h : ∀ g w', w'.heap[g]? = some (.cells #[.int .i64 k, .string s, .int .i64 p, .int .i64 n, .slice na nl nc, .slice ka kl kc] 36) → w.heap.size ≤ g → Below w.heap.size w w' → wpList Try.prog ops Q rest (a.put o.dst (.slice (some ⟨g, 0, none⟩) 1 1)) w') : wpList Try.prog ops Q (o :: rest) a w :=
  by
  obtain ⟨i, hi, hz, hsize, hby⟩ := info_pts info25
  refine wpList_buildSlice hgd 34 36 1 _ ho #[.int .i64 k, .string s, .int .i64 p, .int .i64 n, .slice na nl nc, .slice ka kl kc] i _ Try.underlying34 hi hz (by rw [hsize]; decide) (by rw [hsize]; decide) ?_ (h w.heap.size _ (newO w _) (Nat.le_refl _) boxO)
  rw [Array.toList_map]
  show Instr.fill _ _ [(0, a.eval x)] = _
  rw [hx, hsize]
  first | kernel_rfl | simp [Instr.fill, Value.cells] | decide
end
/-- append of some elements onto a row of one's own: where the new row lies. -/
theorem app_gen (w : World) (t ty e : TypeId) {i : TypeInfo} {z : Value} {size bytes : Nat} (ht : Try.prog.underlying t = some (.slice e)) (hi : Try.prog.info? e = some i) (hz : i.zero = some z) (hsize : i.size = size) (hby : i.bytes = bytes) (hzs : z.cells.size = size) (hsz : 0 < size) (hb1 : bytes ≤ 100) {base : Nat} {v : Value} {n : Nat} {xs : List Value} (q1 : w.ownsRow base e size v n xs) (ad : Addr) (m c : Nat) (news : List Value) (hl : news.length = m * size) (hnews : ∀ j u, news[j]? = some u → w.cell? (ad.add j) = some u) (h1c : ∀ u ∈ news, u.oneCell' = true) (hn : n + m ≤ 1000000000) (hbase : base ≤ w.heap.size) :
    ∃ v' w', (Builtin.append_ #[t, t] ty #[v, .slice (some ad) m c]).run Try.prog w = .ok v' w' ∧ w'.ownsRow base e size v' (n + m) (xs ++ news) ∧ w.grownBy w' v.ownBlock ∧ ∀ g, v'.ownBlock = some g → v.ownBlock = some g ∨ w.heap.size ≤ g := by
  have hbb : (n + m) * bytes ≤ 140737488355328 := Nat.le_trans (Nat.mul_le_mul hn hb1) (by decide)
  obtain ⟨v', w', hr, o1, o2, _⟩ := run_append_own (P := Try.prog) w base t ty e i _ size bytes ht hi hz hsize hby hzs hsz v n _ q1 ad m c news hl hnews h1c (by unfold maxLen; omega) hbb hbase
  refine ⟨v', w', hr, o1, o2, fun g hg => ?_⟩
  rcases q1.2 with ⟨rfl, h0⟩ | ⟨g0, cap, cur, rfl, hbg, hgh, hnc, hcm, hcs, htake⟩
  · have hx0 : xs = [] := by
      have := q1.1
      rw [h0, Nat.zero_mul] at this
      exact List.eq_nil_of_length_eq_zero this
    subst hx0
    subst h0
    obtain ⟨v2, w2, hr2, h12, _, _⟩ := run_append_own (P := Try.prog) w w.heap.size t ty e i _ size bytes ht hi hz hsize hby hzs hsz (.slice none 0 0) 0 [] (World.ownsRow_nil _ _ _ _) ad m c news hl hnews h1c (by unfold maxLen; omega) hbb (Nat.le_refl _)
    rw [hr] at hr2
    injection hr2 with e1 e2
    subst e1
    rcases h12.2 with ⟨rfl, _⟩ | ⟨g', cap', cur', rfl, hb', _⟩
    · simp [Value.ownBlock] at hg
    · simp [Value.ownBlock] at hg
      exact .inr (by omega)
  · by_cases hroom : n + m ≤ cap
    · obtain ⟨w2, hr2, _, _⟩ := run_append_own_spare (P := Try.prog) w base t ty e i size ht hi hsize g0 n cap _ q1 ad m c news hl hnews h1c hroom
      rw [hr] at hr2
      injection hr2 with e1 e2
      rw [e1] at hg
      exact .inl hg
    · have holds : ∀ j u, xs[j]? = some u → w.cell? ((⟨g0, 0, none⟩ : Addr).add j) = some u := World.ownsRow.cells q1 (g := g0) rfl
      have hr2 := run_append_grow (P := Try.prog) w t ty e i _ ht hi hz ⟨g0, 0, none⟩ n cap _ (by rw [hsize]; exact q1.1) holds ad m c news (by rw [hsize]; exact hl) hnews (by omega) (by omega) (growslice_fits (by omega) (by rw [hby]; exact hbb))
      rw [hr] at hr2
      injection hr2 with e1 e2
      rw [e1] at hg
      simp [Value.ownBlock] at hg
      exact .inr (by omega)
/-- All but a row's own block is kept. -/
structure Kp (v : Value) (w w' : World) : Prop where
  os : w'.os = w.os
  tape : w'.tape = w.tape
  output : w'.output = w.output
  size : w.heap.size ≤ w'.heap.size
  block : ∀ b, b < w.heap.size → v.ownBlock ≠ some b → w'.heap[b]? = w.heap[b]?
theorem Kp.below {v : Value} {w w' : World} {B : Nat} (h : Kp v w w') (hB : B ≤ w.heap.size) (hv : ∀ g, v.ownBlock = some g → B ≤ g) : Below B w w' :=
  ⟨h.os, h.tape, h.output, h.size, fun b hb => h.block b (by omega) (fun e => by have := hv b e; omega)⟩
theorem RowN.own {w : World} {A : Nat → Prop} {v : Value} {xs : List Nd} (h : RowN w A v xs) {g : Nat} (hg : v.ownBlock = some g) : A g ∧ g < w.heap.size := by
  obtain ⟨fl, h1, hA, _⟩ := h
  refine ⟨hA g hg, ?_⟩
  rcases h1.2 with ⟨rfl, _⟩ | ⟨g', cap', cur', rfl, hb', hh, _⟩
  · simp [Value.ownBlock] at hg
  · simp [Value.ownBlock] at hg
    subst hg
    exact lt_of_block hh
/-- append of parts that are read onto a row that is being made. -/
theorem app_nds (w : World) (ty : TypeId) {A : Nat → Prop} {v : Value} {xs : List Nd} (q1 : RowN w A v xs) {xa : Option Addr} {c : Nat} {ys : List Nd} {gl : List Value} (s : SlF (fun b => A b ∧ ∀ g, v.ownBlock = some g → b ≠ g) w xa ys.length c gl) (hk : KsF (fun b => A b ∧ ∀ g, v.ownBlock = some g → b ≠ g) w ys gl) (hn : xs.length + ys.length ≤ 1000000) (hbase : ∀ b, w.heap.size ≤ b → A b) :
    ∃ v' w', (Builtin.append_ #[34, 34] ty #[v, .slice xa ys.length c]).run Try.prog w = .ok v' w' ∧ RowN w' A v' (xs ++ ys) ∧ Kp v w w' ∧ ∀ g, v'.ownBlock = some g → v.ownBlock = some g ∨ w.heap.size ≤ g := by
  obtain ⟨i, hi, hz, hsize, hby⟩ := info_pts info25
  obtain ⟨fl, o1, hA0, k1⟩ := q1
  cases xa with
  | none =>
    have hc := s.nil0 rfl
    have hr := s.room
    have : ys.length = 0 := by omega
    have hy : ys = [] := List.eq_nil_of_length_eq_zero this
    subst hy
    obtain rfl : c = 0 := hc
    refine ⟨v, w, run_append_owned_none (P := Try.prog) (w := w) 0 34 ty 36 i 6 Try.underlying34 hi v xs.length fl o1, ?_, ⟨rfl, rfl, rfl, Nat.le_refl _, fun _ _ _ => rfl⟩, fun g hg => .inl hg⟩
    rw [List.append_nil]
    exact ⟨fl, o1, hA0, k1⟩
  | some ad =>
    have hnews : ∀ j u, gl[j]? = some u → w.cell? (ad.add j) = some u := by
      intro j u hj
      have h0 : 0 < gl.length := by
        have := (List.getElem?_eq_some_iff.1 hj).1
        omega
      obtain ⟨b, off, e, _, hc⟩ := s.cells h0
      simp only [Option.some.injEq] at e
      subst e
      rw [addrAdd]
      exact hc j u hj
    obtain ⟨v', w', hr, r1, r2, r3⟩ := app_gen w 34 ty 36 Try.underlying34 hi hz hsize hby rfl (by decide) (by decide) o1 ad ys.length c gl hk.len hnews hk.flat (by omega) (Nat.zero_le _)
    refine ⟨v', w', hr, ⟨fl ++ gl, by rw [List.length_append]; exact r1, fun g hg => (r3 g hg).elim (hA0 g) (hbase g), ?_⟩, ⟨r2.os, r2.tape, r2.output, r2.size, fun b hb hne => r2.block b hb (fun e => hne e.symm)⟩, r3⟩
    have tr : ∀ b, b < w.heap.size → (A b ∧ ∀ g, v.ownBlock = some g → b ≠ g) → (A b ∧ ∀ g, v'.ownBlock = some g → b ≠ g) ∧ w'.heap[b]? = w.heap[b]? := by
      intro b hb hA
      refine ⟨⟨hA.1, fun g hg => ?_⟩, r2.block b hb (fun e => hA.2 b e.symm rfl)⟩
      rcases r3 g hg with h | h
      · exact hA.2 g h
      · omega
    exact KsF.app (k1.imp tr _ _) (hk.imp tr _ _)
section
variable {ops : Array Oper} {rest : List Oper} {o : Oper} {a : Act} {Q : Exit → Act → World → Prop}
theorem ap25 (w : World) (hgd : o.guard = none) (s x : Operand) (ho : o.op = .call { callee := .builtin .append, args := #[s, x], argTypes := #[34, 34] }) {A : Nat → Prop} {v : Value} {xs : List Nd} (hs : a.eval s = v) (q1 : RowN w A v xs) {xa : Option Addr} {m c : Nat} (hx : a.eval x = .slice xa m c) {ys : List Nd} {gl : List Value} (hm : m = ys.length) (sl : SlF (fun b => A b ∧ ∀ g, v.ownBlock = some g → b ≠ g) w xa ys.length c gl) (hk : KsF (fun b => A b ∧ ∀ g, v.ownBlock = some g → b ≠ g) w ys gl) (hn : xs.length + ys.length ≤ 1000000) (hbase : ∀ b, w.heap.size ≤ b → A b)
    (h : ∀ (va : Option Addr) (vc : Nat) w', RowN w' A (.slice va (xs.length + ys.length) vc) (xs ++ ys) → Kp v w w' → wpList Try.prog ops Q rest (a.put o.dst (.slice va (xs.length + ys.length) vc)) w') : wpList Try.prog ops Q (o :: rest) a w := by
  subst hm
  obtain ⟨v', w', hr, r1, r2, _⟩ := app_nds w o.type q1 sl hk hn hbase
  obtain ⟨va, vc, rfl⟩ := r1.shape
  refine Lib.wpList_append_run w hgd s x 34 34 ho _ _ hs hx _ w' hr ?_
  rw [List.length_append] at r1 ⊢
  exact h va vc w' r1 r2
end
/-- One part, as it lies in a block of its own. -/
theorem lit_sl {A : Nat → Prop} {w : World} {g : Nat} {v0 v1 v2 v3 v4 v5 : Value} (h : w.heap[g]? = some (.cells #[v0, v1, v2, v3, v4, v5] 36)) (hA : A g) : SlF A w (some ⟨g, 0, none⟩) 1 1 [v0, v1, v2, v3, v4, v5] := by
  obtain ⟨z0, z1, z2, z3, z4, z5, _⟩ := nd_cells h
  refine ⟨Nat.le_refl _, by decide, by simp, fun _ => ⟨g, 0, rfl, hA, fun j u hj => ?_⟩⟩
  rw [Nat.zero_add]
  match j, hj with
  | 0, hj => simp at hj; subst hj; exact z0
  | 1, hj => simp at hj; subst hj; exact z1
  | 2, hj => simp at hj; subst hj; exact z2
  | 3, hj => simp at hj; subst hj; exact z3
  | 4, hj => simp at hj; subst hj; exact z4
  | 5, hj => simp at hj; subst hj; exact z5
/-- append of one part. -/
theorem ap25one {ops : Array Oper} {rest : List Oper} {o : Oper} {a : Act} {Q : Exit → Act → World → Prop} (w : World) (hgd : o.guard = none) (s x : Operand) (ho : o.op = .call { callee := .builtin .append, args := #[s, x], argTypes := #[34, 34] }) {A : Nat → Prop} {v : Value} {xs : List Nd} (hs : a.eval s = v) (q1 : RowN w A v xs) {g : Nat} (hx : a.eval x = .slice (some ⟨g, 0, none⟩) 1 1) {v0 v1 v2 v3 v4 v5 : Value} (hg : w.heap[g]? = some (.cells #[v0, v1, v2, v3, v4, v5] 36)) {y : Nd} {A' : Nat → Prop} (hy : NdV A' w y (.agg #[v0, v1, v2, v3, v4, v5])) (hA : ∀ b, b < w.heap.size → A' b ∨ b = g → A b ∧ ∀ q, v.ownBlock = some q → b ≠ q) (hn : xs.length ≤ 500000) (hbase : ∀ b, w.heap.size ≤ b → A b)
    (h : ∀ (va : Option Addr) (vc : Nat) w', RowN w' A (.slice va (xs.length + 1) vc) (xs ++ [y]) → Kp v w w' → wpList Try.prog ops Q rest (a.put o.dst (.slice va (xs.length + 1) vc)) w') : wpList Try.prog ops Q (o :: rest) a w :=
  ap25 w hgd s x ho hs q1 hx (ys := [y]) rfl (lit_sl hg (hA g (lt_of_block hg) (.inr rfl))) (KsF.one (hy.mono fun b hb h => hA b hb (.inl h))) (by simp only [List.length_singleton]; omega) hbase h
end Go.Proofs.Ytoghhjljmhdioaa
