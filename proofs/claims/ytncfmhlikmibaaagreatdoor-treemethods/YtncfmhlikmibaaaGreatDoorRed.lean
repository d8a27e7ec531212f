/- The reader: word, is, next, skip, enter, leave. -/
import Derived.Test.YtncfmhlikmibaaaGreatDoorDbs
import Derived.Test.YtncfmhlikmibaaaGreatDoorLxR
import Derived.StillTailTactics
import Derived.Deep.RegionWith
import Derived.WalkMore
import Derived.Deep.CutRange
import Derived.Deep.CutBlock
namespace Go.Proofs.YtncfmhlikmibaaaGreatDoor
open Go.RowKit
set_option maxRecDepth 100000
set_option maxHeartbeats 16000000
section
def Zky (a : Option Addr) (n c : Nat) (i : Nat) (d y : Int) : Obj := .cells #[.slice a n c, .int .i64 (i : Int), .int .i64 d, .int .i64 y] 50
structure Rdw (w : World) (p : Nat) (W : List Tk) (i : Nat) (d y : Int) : Prop where
 ex : ∃ b off c, w.heap[p]? = some (Zky (some ⟨b, off, none⟩) W.length c i d y) ∧ b < p ∧ IsT w (some ⟨b, off, none⟩) W.length c W
theorem Rdw.lt {w : World} {p : Nat} {W : List Tk} {i : Nat} {d y : Int} (h : Rdw w p W i d y) : p < w.heap.size := by
 obtain ⟨b, off, c, h1, _⟩ := h.ex
 exact lt_of_block h1
theorem Rdw.same {w w' : World} {p : Nat} {W : List Tk} {i : Nat} {d y : Int} (h : Rdw w p W i d y) (hk : ∀ b, b < p → w'.heap[b]? = w.heap[b]?) (hp : w'.heap[p]? = w.heap[p]?) : Rdw w' p W i d y := by
 obtain ⟨b, off, c, h1, h2, h3⟩ := h.ex
 refine ⟨b, off, c, hp.trans h1, h2, ?_⟩
 refine ⟨h3.size, h3.room, h3.most, h3.nil0, fun h0 => ?_⟩
 obtain ⟨b', off', e, hc⟩ := h3.cells h0
 simp only [Option.some.injEq, Addr.mk.injEq, and_true] at e
 obtain ⟨rfl, rfl⟩ := e
 have hb := hk b h2
 exact ⟨b, off, rfl, fun i hi => ⟨(World.cell?_of_block (a := ⟨b, off + i * 3, none⟩) hb).trans (hc i hi).1, (World.cell?_of_block (a := ⟨b, off + i * 3 + 1, none⟩) hb).trans (hc i hi).2.1, (World.cell?_of_block (a := ⟨b, off + i * 3 + 2, none⟩) hb).trans (hc i hi).2.2⟩⟩
theorem Rdw.below {w w' : World} {p B : Nat} {W : List Tk} {i : Nat} {d y : Int} (h : Rdw w p W i d y) (hb : Below B w w') (hp : p < B) : Rdw w' p W i d y :=
 h.same (fun b h => hb.block b (by omega)) (hb.block p hp)
theorem Rdw.open_ {w : World} {p : Nat} {W : List Tk} {i : Nat} {d y : Int} (h : Rdw w p W i d y) (hi : i < W.length) : ∃ b off c, w.heap[p]? = some (Zky (some ⟨b, off, none⟩) W.length c i d y) ∧ b < p ∧ w.cell? ⟨p, 0, none⟩ = some (.slice (some ⟨b, off, none⟩) W.length c) ∧ w.cell? ⟨p, 1, none⟩ = some (.int .i64 (i : Int)) ∧ w.cell? ⟨p, 2, none⟩ = some (.int .i64 d) ∧ w.cell? ⟨p, 3, none⟩ = some (.int .i64 y) ∧ w.frozen? ⟨p, 0, none⟩ = false ∧ w.cell? ⟨b, off + i * 3, none⟩ = some (.int .i64 (kdW W i)) ∧ w.cell? ⟨b, off + i * 3 + 1, none⟩ = some (.string (strOfNums (txW W i))) ∧ w.cell? ⟨b, off + i * 3 + 2, none⟩ = some (.int .i64 (psW W i : Int)) := by
 obtain ⟨b, off, c, h1, h2, h3⟩ := h.ex
 obtain ⟨b', off', e, hc⟩ := h3.cells (by omega)
 simp only [Option.some.injEq, Addr.mk.injEq, and_true] at e
 obtain ⟨rfl, rfl⟩ := e
 have := hc i hi
 refine ⟨b, off, c, h1, h2, ?_, ?_, ?_, ?_, ?_, this.1, this.2.1, this.2.2⟩
 ·simp [World.cell?, h1, Zky]
 ·simp [World.cell?, h1, Zky]
 ·simp [World.cell?, h1, Zky]
 ·simp [World.cell?, h1, Zky]
 simp [World.frozen?, h1, Zky]
theorem Zc0 (w : World) (o : Obj) : (w.alloc o).heap[w.heap.size]? = some o := heap_alloc_new w o
theorem Zbc {w : World} {o : Obj} : Below w.heap.size w (w.alloc o) := (Below.refl _ _).alloc (Nat.le_refl _) _
theorem Zab {B : Nat} {w w1 w2 : World} (h1 : Below B w w1) (hB : B ≤ w.heap.size) (h2 : Below w1.heap.size w1 w2) : Below B w w2 :=
 ⟨h2.os.trans h1.os, h2.tape.trans h1.tape, h2.output.trans h1.output, Nat.le_trans h1.size h2.size, fun k hk => (h2.block k (by have := h1.size; omega)).trans (h1.block k hk)⟩
def Zoy (k : Int) (s : ByteArray) (p : Int) : Obj := .cells #[.int .i64 k, .string s, .int .i64 p] 54
theorem Zbx {w : World} {b : Nat} {k : Int} {s : ByteArray} {p : Int} (h : w.heap[b]? = some (Zoy k s p)) : w.cell? ⟨b, 0, none⟩ = some (.int .i64 k) ∧ w.cell? ⟨b, 1, none⟩ = some (.string s) ∧ w.cell? ⟨b, 2, none⟩ = some (.int .i64 p) ∧ ∀ j, w.frozen? ⟨b, j, none⟩ = false := by
 refine ⟨?_, ?_, ?_, fun j => ?_⟩ <;> simp [World.cell?, World.frozen?, h, Zoy]
theorem Zkg {w : World} {p : Nat} {a : Option Addr} {n c i : Nat} {d y : Int} (h : w.heap[p]? = some (Zky a n c i d y)) : w.cell? ⟨p, 0, none⟩ = some (.slice a n c) ∧ w.cell? ⟨p, 1, none⟩ = some (.int .i64 (i : Int)) ∧ w.cell? ⟨p, 2, none⟩ = some (.int .i64 d) ∧ w.cell? ⟨p, 3, none⟩ = some (.int .i64 y) ∧ ∀ j, w.frozen? ⟨p, j, none⟩ = false := by
 refine ⟨?_, ?_, ?_, ?_, fun j => ?_⟩ <;> simp [World.cell?, World.frozen?, h, Zky]
theorem Zas {P : Program} {fn : Func} {tmps : Array Value} {a t : Nat} {ad : Addr} {w : World} {v : Value} (hf : fn.results = #[.cell a t]) (ha : tmps[a]?.getD undef = .pointer (some ad)) (hl : (loadVar t ad).run P w = .ok v w) : (results fn tmps).run P w = .ok v w := by
 unfold results
 rw [hf]
 simp [ha, asAddr, hl]
structure St (g : Nat) (w w' : World) : Prop where
 os : w'.os = w.os
 tape : w'.tape = w.tape
 output : w'.output = w.output
 size : w'.heap.size = w.heap.size
 block : ∀ b, b ≠ g → w'.heap[b]? = w.heap[b]?
theorem St.row (w : World) (g : Nat) (cs : Array Value) : St g w (w.setRow g cs) := ⟨rfl, rfl, rfl, setRow_size w g cs, fun b hb => setRow_other w g b cs hb⟩
theorem St.cell (w : World) (g i : Nat) (v : Value) : St g w (w.setCell ⟨g, i, none⟩ v) := ⟨rfl, rfl, rfl, by simp [World.setCell], fun b hb => by simp [World.setCell, Array.getElem?_modify, Ne.symm hb]⟩
theorem St.below {g B : Nat} {w w' : World} (h : St g w w') (hg : B ≤ g) : Below B w w' := ⟨h.os, h.tape, h.output, Nat.le_of_eq h.size.symm, fun b hb => h.block b (by omega)⟩
theorem St.fr {p B : Nat} {w w' : World} (h : St p w w') : Fr p B w w' := ⟨h.os, h.tape, h.output, Nat.le_of_eq h.size.symm, fun b _ hn => h.block b hn⟩
section
variable {ops : Array Oper} {rest : List Oper} {o : Oper} {a : Act} {Q : Exit → Act → World → Prop}
theorem st54 (w : World) (hgd : o.guard = none) (x y : Operand) (ho : o.op = .store 54 x y) (hd : o.dst = none) (g : Nat) (k : Int) (s : ByteArray) (p : Int) (hx : a.eval x = .pointer (some ⟨g, 0, none⟩)) (hy : a.eval y = .agg #[.int .i64 k, .string s, .int .i64 p]) {k0 p0 : Int} {s0 : ByteArray} (hg : w.heap[g]? = some (Zoy k0 s0 p0))
  (h : ∀ w', w'.heap[g]? = some (Zoy k s p) → St g w w' → wpList Tryz.prog ops Q rest a w') : wpList Tryz.prog ops Q (o :: rest) a w := by
 refine wpList_store_row hgd 54 x y ho g _ hx hy 54 _ hg (by kernel_rfl) rfl (by simp [Value.oneCell']) ?_
 rw [hd]
 exact h _ (setRow_heap w g _ _ _ _ hg) (St.row w g _)
theorem st25 (w : World) (hgd : o.guard = none) (x y : Operand) (ho : o.op = .store 25 x y) (hd : o.dst = none) (g : Nat) (k : Int) (s : ByteArray) (p n : Int) (na : Option Addr) (nl nc : Nat) (ka : Option Addr) (kl kc : Nat) (hx : a.eval x = .pointer (some ⟨g, 0, none⟩)) (hy : a.eval y = .agg #[.int .i64 k, .string s, .int .i64 p, .int .i64 n, .slice na nl nc, .slice ka kl kc]) {u0 u1 u2 u3 u4 u5 : Value} (hg : w.heap[g]? = some (.cells #[u0, u1, u2, u3, u4, u5] 25))
  (h : ∀ w', w'.heap[g]? = some (.cells #[.int .i64 k, .string s, .int .i64 p, .int .i64 n, .slice na nl nc, .slice ka kl kc] 25) → St g w w' → wpList Tryz.prog ops Q rest a w') : wpList Tryz.prog ops Q (o :: rest) a w := by
 refine wpList_store_row hgd 25 x y ho g _ hx hy 25 _ hg (by kernel_rfl) rfl (by simp [Value.oneCell']) ?_
 rw [hd]
 exact h _ (setRow_heap w g _ _ _ _ hg) (St.row w g _)
end
theorem Zae {w : World} {b : Nat} {u0 u1 u2 u3 u4 u5 : Value} (h : w.heap[b]? = some (.cells #[u0, u1, u2, u3, u4, u5] 25)) : w.cell? ⟨b, 0, none⟩ = some u0 ∧ w.cell? ⟨b, 1, none⟩ = some u1 ∧ w.cell? ⟨b, 2, none⟩ = some u2 ∧ w.cell? ⟨b, 3, none⟩ = some u3 ∧ w.cell? ⟨b, 4, none⟩ = some u4 ∧ w.cell? ⟨b, 5, none⟩ = some u5 ∧ ∀ j, w.frozen? ⟨b, j, none⟩ = false := by
 refine ⟨?_, ?_, ?_, ?_, ?_, ?_, fun j => ?_⟩ <;> simp [World.cell?, World.frozen?, h]
theorem Zal {w : World} {b : Nat} {u0 u1 u2 u3 u4 u5 : Value} (h : w.heap[b]? = some (.cells #[u0, u1, u2, u3, u4, u5] 25)) : (loadVar 25 ⟨b, 0, none⟩).run Tryz.prog w = .ok (.agg #[u0, u1, u2, u3, u4, u5]) w := by
 obtain ⟨z0, z1, z2, z3, z4, z5, _⟩ := Zae h
 simp [go_sem, z0, z1, z2, z3, z4, z5]
theorem load54 {w : World} {b : Nat} {k : Int} {s : ByteArray} {p : Int} (h : w.heap[b]? = some (Zoy k s p)) : (loadVar 54 ⟨b, 0, none⟩).run Tryz.prog w = .ok (.agg #[.int .i64 k, .string s, .int .i64 p]) w := by
 obtain ⟨z0, z1, z2, _⟩ := Zbx h
 simp [go_sem, z0, z1, z2]
def Zdh (W : List Tk) (i : Nat) : Value := .agg #[.int .i64 (kdW W i), .string (strOfNums (txW W i)), .int .i64 (psW W i : Int)]
theorem Zbw {w : World} {p : Nat} {W : List Tk} {i : Nat} {d y : Int} (h : Rdw w p W i d y) (hi : i < W.length) :
  Calls Tryz.prog 28 #[.pointer (some ⟨p, 0, none⟩)] w fun e w' => e = .returned (.agg #[.int .i64 (kdW W i), .string (strOfNums (txW W i)), .int .i64 (psW W i : Int)]) ∧ Below w.heap.size w w' := by
 have hiI : (i : Int) < (W.length : Int) := by omega
 have hi0 : (0 : Int) ≤ (i : Int) := by omega
 have B1 : Below w.heap.size w (w.alloc (Zoy 0 ⟨#[]⟩ 0)) := Zbc
 have E1 := Zc0 w (Zoy 0 ⟨#[]⟩ 0)
 have h1 := h.below B1 h.lt
 clear h
 unfold Zoy at B1 E1 h1
 go_enter Tryz.func28, Tryz.ntmps28
 go_wp2_with fail
 generalize w.alloc (.cells #[.int .i64 0, .string ⟨#[]⟩, .int .i64 0] 54) = w1 at *
 obtain ⟨b, off, c, e1, h2, c0, c1, c2, c3, cf, k0, k1, k2⟩ := h1.open_ hi
 clear h1 e1
 go_still_tail 10, (by kernel_rfl)
 refine st54 _ rfl _ _ rfl rfl w.heap.size _ _ _ rfl rfl E1 ?_
 intro w2 E2 S2
 go_wp2
 refine bodyPost_ret (v := Zdh W i) (Zas (a := 2) (t := 54) (by rfl) (by rfl) (load54 E2)) (by rfl) ⟨rfl, B1.drew.trans (S2.below (Nat.le_refl _))⟩
theorem fld0 (k : Int) (s : ByteArray) (p : Int) (w : World) : (Instr.field 54 (.agg #[.int .i64 k, .string s, .int .i64 p]) 0).run Tryz.prog w = .ok (.int .i64 k) w := by
 simp [Instr.field, asAgg, go_sem]
theorem fld1 (k : Int) (s : ByteArray) (p : Int) (w : World) : (Instr.field 54 (.agg #[.int .i64 k, .string s, .int .i64 p]) 1).run Tryz.prog w = .ok (.string s) w := by
 simp [Instr.field, asAgg, go_sem]
theorem fld2 (k : Int) (s : ByteArray) (p : Int) (w : World) : (Instr.field 54 (.agg #[.int .i64 k, .string s, .int .i64 p]) 2).run Tryz.prog w = .ok (.int .i64 p) w := by
 simp [Instr.field, asAgg, go_sem]
theorem Zb8 {w : World} {p : Nat} {W : List Tk} {i : Nat} {d y : Int} (h : Rdw w p W i d y) (hi : i < W.length) (k : Int) :
  Calls Tryz.prog 27 #[.pointer (some ⟨p, 0, none⟩), .int .i64 k] w fun e w' => e = .returned (.bool (kdW W i == k)) ∧ Below w.heap.size w w' := by
 have f0 := fld0
 go_enter Tryz.func27, Tryz.ntmps27
 go_wp2_with fail
 refine (Zbw h hi).mono ?_
 rintro e w1 ⟨rfl, B1⟩
 go_wp2
 exact bodyPost_ret (v := .bool (kdW W i == k)) (by simp [results, go_sem]) rfl ⟨rfl, B1⟩
theorem Rdw.len {w : World} {p : Nat} {W : List Tk} {i : Nat} {d y : Int} (h : Rdw w p W i d y) : W.length ≤ maxLen := by
 obtain ⟨b, off, c, _, _, h3⟩ := h.ex
 exact Nat.le_trans h3.room h3.most
theorem Rdw.st {w w' : World} {p g : Nat} {W : List Tk} {i : Nat} {d y : Int} (h : Rdw w p W i d y) (hs : St g w w') (hg : p < g) : Rdw w' p W i d y :=
 h.same (fun b hb => hs.block b (by omega)) (hs.block p (by omega))
theorem Rdw.put {w w' : World} {p : Nat} {W : List Tk} {i i' : Nat} {d d' y y' : Int} (h : Rdw w p W i d y) (hs : St p w w') (hp : ∀ b off c, w.heap[p]? = some (Zky (some ⟨b, off, none⟩) W.length c i d y) → w'.heap[p]? = some (Zky (some ⟨b, off, none⟩) W.length c i' d' y')) : Rdw w' p W i' d' y' := by
 obtain ⟨b, off, c, h1, h2, h3⟩ := h.ex
 refine ⟨b, off, c, hp b off c h1, h2, ?_⟩
 refine ⟨h3.size, h3.room, h3.most, h3.nil0, fun h0 => ?_⟩
 obtain ⟨b', off', e, hc⟩ := h3.cells h0
 simp only [Option.some.injEq, Addr.mk.injEq, and_true] at e
 obtain ⟨rfl, rfl⟩ := e
 have hb := hs.block b (by omega)
 exact ⟨b, off, rfl, fun i hi => ⟨(World.cell?_of_block (a := ⟨b, off + i * 3, none⟩) hb).trans (hc i hi).1, (World.cell?_of_block (a := ⟨b, off + i * 3 + 1, none⟩) hb).trans (hc i hi).2.1, (World.cell?_of_block (a := ⟨b, off + i * 3 + 2, none⟩) hb).trans (hc i hi).2.2⟩⟩
theorem Rdw.setAt {w : World} {p : Nat} {W : List Tk} {i : Nat} {d y : Int} (h : Rdw w p W i d y) (j : Nat) : Rdw (w.setCell ⟨p, 1, none⟩ (.int .i64 (j : Int))) p W j d y :=
 h.put (St.cell w p 1 _) fun b off c e => by unfold Zky at e ⊢; rw [heap_setCell_same w p 1 _ _ _ e]; simp
theorem Rdw.setNext {w : World} {p : Nat} {W : List Tk} {i : Nat} {d y : Int} (h : Rdw w p W i d y) : Rdw (w.setCell ⟨p, 1, none⟩ (.int .i64 ((i : Int) + 1))) p W (i + 1) d y := h.setAt (i + 1)
theorem Rdw.setDepth {w : World} {p : Nat} {W : List Tk} {i : Nat} {d y : Int} (h : Rdw w p W i d y) (e : Int) : Rdw (w.setCell ⟨p, 2, none⟩ (.int .i64 e)) p W i e y :=
 h.put (St.cell w p 2 _) fun b off c e => by unfold Zky at e ⊢; rw [heap_setCell_same w p 2 _ _ _ e]; simp
theorem Rdw.setWhy {w : World} {p : Nat} {W : List Tk} {i : Nat} {d y : Int} (h : Rdw w p W i d y) (e : Int) : Rdw (w.setCell ⟨p, 3, none⟩ (.int .i64 e)) p W i d e :=
 h.put (St.cell w p 3 _) fun b off c e => by unfold Zky at e ⊢; rw [heap_setCell_same w p 3 _ _ _ e]; simp
theorem Rdw.own {w : World} {p : Nat} {W : List Tk} {i : Nat} {d y : Int} (h : Rdw w p W i d y) : w.cell? ⟨p, 1, none⟩ = some (.int .i64 (i : Int)) ∧ w.cell? ⟨p, 2, none⟩ = some (.int .i64 d) ∧ w.cell? ⟨p, 3, none⟩ = some (.int .i64 y) ∧ w.frozen? ⟨p, 1, none⟩ = false ∧ w.frozen? ⟨p, 2, none⟩ = false ∧ w.frozen? ⟨p, 3, none⟩ = false := by
 obtain ⟨b, off, c, h1, _⟩ := h.ex
 obtain ⟨_, c1, c2, c3, zf⟩ := Zkg h1
 exact ⟨c1, c2, c3, zf 1, zf 2, zf 3⟩
theorem Fr.thn {p B : Nat} {w w1 w2 : World} (h : Fr p B w w1) (hB : B ≤ w.heap.size) (k : Fr p w1.heap.size w1 w2) : Fr p B w w2 := h.trans k (Nat.le_trans hB h.size)
theorem Zch {w : World} {p : Nat} {W : List Tk} {i : Nat} {d y : Int} (h : Rdw w p W i d y) (hi : i < W.length) :
  Calls Tryz.prog 39 #[.pointer (some ⟨p, 0, none⟩)] w fun e w' => e = .returned (.agg #[.int .i64 (kdW W i), .string (strOfNums (txW W i)), .int .i64 (psW W i : Int)]) ∧ Rdw w' p W (i + 1) d y ∧ Fr p w.heap.size w w' := by
 have hw : IntKind.i64.wrap ((i : Int) + 1) = (i : Int) + 1 := by have := h.len; unfold maxLen at this; rw [IntKind.wrap_i64]; omega
 have B1 : Below w.heap.size w (w.alloc (Zoy 0 ⟨#[]⟩ 0)) := Zbc
 have E1 := Zc0 w (Zoy 0 ⟨#[]⟩ 0)
 have h1 := h.below B1 h.lt
 have hp := h.lt
 clear h
 unfold Zoy at B1 E1 h1
 go_enter Tryz.func39, Tryz.ntmps39
 go_wp2_with fail
 generalize w.alloc (.cells #[.int .i64 0, .string ⟨#[]⟩, .int .i64 0] 54) = w1 at *
 refine (Zbw h1 hi).mono ?_
 rintro e w2 ⟨rfl, B2⟩
 replace h1 := h1.below B2 h1.lt
 replace E1 := (B2.block _ (lt_of_block E1)).trans E1
 have hs2 := lt_of_block E1
 replace B1 := Zab B1 (Nat.le_refl _) B2
 clear B2
 go_wp2_with (refine st54 _ rfl _ _ rfl rfl _ _ _ _ rfl rfl (Zc0 _ _) ?_)
 intro w3 E3 S3
 replace h1 := (h1.below Zbc h1.lt).st S3 (by omega)
 replace E1 := (S3.block _ (by omega)).trans ((Zbc.block _ hs2).trans E1)
 replace B1 := (B1.trans ((Zbc (w := w2) (o := .cells #[.int .i64 0, .string ⟨#[]⟩, .int .i64 0] 54)).mono (by omega))).trans (S3.below (B := w.heap.size) (by omega))
 clear S3
 obtain ⟨c1, c2, c3, f1, f2, f3⟩ := h1.own
 go_upto_region 3 with fail
 replace h1 := h1.setNext
 have F1 : Fr p w.heap.size w (w3.setCell ⟨p, 1, none⟩ (.int .i64 ((i : Int) + 1))) := (Fr.of_below B1).trans (St.cell w3 p 1 _).fr (Nat.le_refl _)
 have E3' := ((St.cell w3 p 1 (.int .i64 ((i : Int) + 1))).block w2.heap.size (by omega)).trans E3
 have E1' := ((St.cell w3 p 1 (.int .i64 ((i : Int) + 1))).block w.heap.size (by omega)).trans E1
 clear E1 E3 B1 c1 c2 c3 f1 f2 f3
 generalize w3.setCell ⟨p, 1, none⟩ (.int .i64 ((i : Int) + 1)) = w4 at *
 obtain ⟨z0, z1, z2, _⟩ := Zbx E3'
 go_wp2_with (refine st54 _ rfl _ _ rfl rfl _ _ _ _ rfl rfl E1' ?_)
 intro w5 E5 S5
 go_wp2
 exact bodyPost_ret (v := Zdh W i) (Zas (a := 2) (t := 54) (by rfl) (by rfl) (load54 E5)) (by rfl) ⟨rfl, h1.st S5 hp, F1.trans (Fr.of_below (B := w.heap.size) (S5.below (Nat.le_refl _))) (Nat.le_refl _)⟩
theorem Zem {w : World} {p : Nat} {W : List Tk} {i : Nat} {d y : Int} (h : Rdw w p W i d y) (hi : i < W.length) (k : Int) (hk : kdW W i ≠ k) :
  Calls Tryz.prog 41 #[.pointer (some ⟨p, 0, none⟩), .int .i64 k] w fun e w' => e = .returned (.bool false) ∧ Rdw w' p W i d y ∧ Fr p w.heap.size w w' := by
 have hkb : (kdW W i == k) = false := by simp [hk]
 go_enter Tryz.func41, Tryz.ntmps41
 go_wp2_with fail
 refine (Zb8 h hi k).mono ?_
 rintro e w1 ⟨rfl, B1⟩
 rw [hkb]
 go_wp2
 go_ret
 exact ⟨rfl, h.below B1 h.lt, Fr.of_below B1⟩
theorem Zdc {w : World} {p : Nat} {W : List Tk} {i : Nat} {d y : Int} (h : Rdw w p W i d y) (hi : i < W.length) (k : Int) (hk : kdW W i = k) :
  Calls Tryz.prog 41 #[.pointer (some ⟨p, 0, none⟩), .int .i64 k] w fun e w' => e = .returned (.bool true) ∧ Rdw w' p W (i + 1) d y ∧ Fr p w.heap.size w w' := by
 have hkb : (kdW W i == k) = true := by simp [hk]
 have hw : IntKind.i64.wrap ((i : Int) + 1) = (i : Int) + 1 := by have := h.len; unfold maxLen at this; rw [IntKind.wrap_i64]; omega
 go_enter Tryz.func41, Tryz.ntmps41
 go_wp2_with fail
 refine (Zb8 h hi k).mono ?_
 rintro e w1 ⟨rfl, B1⟩
 rw [hkb]
 have h1 := h.below B1 h.lt
 obtain ⟨c1, c2, c3, f1, f2, f3⟩ := h1.own
 go_wp2
 go_ret
 exact ⟨rfl, h1.setNext, (Fr.of_below B1).trans (St.cell w1 p 1 _).fr (Nat.le_refl _)⟩
theorem Zgk {w : World} {p : Nat} {W : List Tk} {i : Nat} {y : Int} (h : Rdw w p W i 40 y) :
  Calls Tryz.prog 133 #[.pointer (some ⟨p, 0, none⟩)] w fun e w' => e = .returned (.bool false) ∧ Rdw w' p W i 40 3 ∧ Fr p w.heap.size w w' := by
 obtain ⟨c1, c2, c3, f1, f2, f3⟩ := h.own
 go_enter Tryz.func133, Tryz.ntmps133
 go_wp2
 go_ret
 exact ⟨rfl, h.setWhy 3, (St.cell w p 3 _).fr⟩
theorem Zfd {w : World} {p : Nat} {W : List Tk} {i d : Nat} {y : Int} (h : Rdw w p W i d y) (hd : d < 40) (hi : i < W.length) :
  Calls Tryz.prog 133 #[.pointer (some ⟨p, 0, none⟩)] w fun e w' => e = .returned (.bool true) ∧ Rdw w' p W (i + 1) ((d : Int) + 1) y ∧ Fr p w.heap.size w w' := by
 have hw : IntKind.i64.wrap ((i : Int) + 1) = (i : Int) + 1 := by have := h.len; unfold maxLen at this; rw [IntKind.wrap_i64]; omega
 have hwd : IntKind.i64.wrap ((d : Int) + 1) = (d : Int) + 1 := by rw [IntKind.wrap_i64]; omega
 have hne : ((d : Int) == 40) = false := by simp; omega
 obtain ⟨c1, c2, c3, f1, f2, f3⟩ := h.own
 go_enter Tryz.func133, Tryz.ntmps133
 go_upto_region 5 with fail
 have h1 := h.setDepth ((d : Int) + 1)
 have S1 := St.cell w p 2 (.int .i64 ((d : Int) + 1))
 clear c1 c2 c3 f1 f2 f3
 generalize w.setCell ⟨p, 2, none⟩ (.int .i64 ((d : Int) + 1)) = w1 at *
 obtain ⟨c1, c2, c3, f1, f2, f3⟩ := h1.own
 go_wp2
 go_ret
 exact ⟨rfl, h1.setNext, S1.fr.trans (St.cell w1 p 1 _).fr (Nat.le_refl _)⟩
theorem Znd {w : World} {p : Nat} {W : List Tk} {i : Nat} {d y : Int} (h : Rdw w p W i d y) (hi : i < W.length) (hd : 0 ≤ d ∧ d ≤ 100) (k : Int) (hk : kdW W i ≠ k) :
  Calls Tryz.prog 161 #[.pointer (some ⟨p, 0, none⟩), .int .i64 k] w fun e w' => e = .returned (.bool false) ∧ Rdw w' p W i (d - 1) y ∧ Fr p w.heap.size w w' := by
 have hwd : IntKind.i64.wrap (d - 1) = d - 1 := by rw [IntKind.wrap_i64]; omega
 obtain ⟨c1, c2, c3, f1, f2, f3⟩ := h.own
 have h1 := h.setDepth (d - 1)
 have S1 := St.cell w p 2 (.int .i64 (d - 1))
 go_enter Tryz.func161, Tryz.ntmps161
 go_wp2_with fail
 generalize w.setCell ⟨p, 2, none⟩ (.int .i64 (d - 1)) = w1 at *
 refine (Zem h1 hi k hk).mono ?_
 rintro e w2 ⟨rfl, h2, F2⟩
 go_wp2
 go_ret
 exact ⟨rfl, h2, S1.fr.trans F2 (Nat.le_of_eq S1.size.symm)⟩
theorem Zhd {w : World} {p : Nat} {W : List Tk} {i : Nat} {d y : Int} (h : Rdw w p W i d y) (hi : i < W.length) (hd : 0 ≤ d ∧ d ≤ 100) (k : Int) (hk : kdW W i = k) :
  Calls Tryz.prog 161 #[.pointer (some ⟨p, 0, none⟩), .int .i64 k] w fun e w' => e = .returned (.bool true) ∧ Rdw w' p W (i + 1) (d - 1) y ∧ Fr p w.heap.size w w' := by
 have hwd : IntKind.i64.wrap (d - 1) = d - 1 := by rw [IntKind.wrap_i64]; omega
 obtain ⟨c1, c2, c3, f1, f2, f3⟩ := h.own
 have h1 := h.setDepth (d - 1)
 have S1 := St.cell w p 2 (.int .i64 (d - 1))
 go_enter Tryz.func161, Tryz.ntmps161
 go_wp2_with fail
 generalize w.setCell ⟨p, 2, none⟩ (.int .i64 (d - 1)) = w1 at *
 refine (Zdc h1 hi k hk).mono ?_
 rintro e w2 ⟨rfl, h2, F2⟩
 go_wp2
 go_ret
 exact ⟨rfl, h2, S1.fr.trans F2 (Nat.le_of_eq S1.size.symm)⟩
theorem Zar {ops : Array Oper} {rest : List Oper} {o : Oper} {a : Act} {Q : Exit → Act → World → Prop} {w : World} {x y : Operand} {g : Nat} {k : Int} {s : ByteArray} {p n : Int} {na : Option Addr} {nl nc : Nat} {ka : Option Addr} {kl kc : Nat} {u0 u1 u2 u3 u4 u5 : Value} (hgd : o.guard = none) (ho : o.op = .store 25 x y) (hd : o.dst = none) (hx : a.eval x = .pointer (some ⟨g, 0, none⟩)) (hy : a.eval y = .agg #[.int .i64 k, .string s, .int .i64 p, .int .i64 n, .slice na nl nc, .slice ka kl kc]) (hg : w.heap[g]? = some (.cells #[u0, u1, u2, u3, u4, u5] 25))
  (h : ∀ w', w'.heap[g]? = some (.cells #[.int .i64 k, .string s, .int .i64 p, .int .i64 n, .slice na nl nc, .slice ka kl kc] 25) → St g w w' → wpList Tryz.prog ops Q rest a w') : wpList Tryz.prog ops Q (o :: rest) a w := st25 w hgd x y ho hd g k s p n na nl nc ka kl kc hx hy hg h
theorem zT {P : Program} {fn : Func} {a : Act} (i : Nat) {ad : Addr} {w : World} {v : Value} {R : Ending → World → Prop} (hf : fn.results = #[.cell i 31]) (ha : a.tmps[i]?.getD undef = .pointer (some ad)) (hl : (loadVar 31 ad).run P w = .ok v w) (hd : a.defers = []) (hR : R (.returned v) w) : bodyPost P fn R .ret a w := bodyPost_ret (Zas hf ha hl) hd hR
theorem zE {P : Program} {fn : Func} {a : Act} {w : World} {R : Ending → World → Prop} (hR : R (.returned (.tuple #[])) w) (hf : fn.results = #[] := by rfl) (hd : a.defers = [] := by rfl) : bodyPost P fn R .ret a w := bodyPost_ret (by simp [results, hf, go_sem]) hd hR
end
end Go.Proofs.YtncfmhlikmibaaaGreatDoor
