/- spoil: only an object's own rows turn. -/
import Derived.Test.YtajdelinfkodbaaAtx
import Derived.Test.YtajdelinfkodbaaOpn
namespace Go.Proofs.Ytajdelinfkodbaa
open Go.RowKit
set_option maxRecDepth 100000
set_option maxRecDepth 100000
/-- All but a row is as it was. -/
structure Sp (o : Option Nat) (w w' : World) : Prop where
  os : w'.os = w.os
  tape : w'.tape = w.tape
  output : w'.output = w.output
  size : w'.heap.size = w.heap.size
  block : ∀ g, o ≠ some g → w'.heap[g]? = w.heap[g]?
  sh : ∀ (g : Nat) (cur : Array Value) (t : Nat), w.heap[g]? = some (.cells cur t (0, 0)) → ∃ cur', w'.heap[g]? = some (.cells cur' t (0, 0)) ∧ cur'.size = cur.size
theorem Sp.refl (o : Option Nat) (w : World) : Sp o w w := ⟨rfl, rfl, rfl, rfl, fun _ _ => rfl, fun _ cur _ h => ⟨cur, h, rfl⟩⟩
theorem Sp.set {o : Option Nat} {w w' : World} (h : Sp o w w') {g i : Nat} (ho : o = some g) (v : Value) : Sp o w (w'.setCell ⟨g, i, none⟩ v) := by
  have B : Below 0 w' (w'.setCell ⟨g, i, none⟩ v) := (Below.refl 0 w').setCell (p := ⟨g, i, none⟩) (Nat.zero_le _) _
  exact ⟨B.os.trans h.os, B.tape.trans h.tape, B.output.trans h.output, by rw [← h.size]; simp, fun q hq => (heap_setCell_other w' ⟨g, i, none⟩ q v (fun e => hq (by rw [ho, e]))).trans (h.block q hq), fun q cur t hq => by
    obtain ⟨c1, e1, e2⟩ := h.sh q cur t hq
    by_cases e : q = g
    · subst e
      rw [heap_setCell_same w' q i _ _ _ e1]
      exact ⟨_, rfl, by simpa using e2⟩
    · exact ⟨c1, (heap_setCell_other w' ⟨g, i, none⟩ q v e).trans e1, e2⟩⟩
theorem row_cell {w : World} {g i t : Nat} {cur : Array Value} (h : w.heap[g]? = some (.cells cur t (0, 0))) (hi : i < cur.size) : ∃ v, w.cell? ⟨g, i, none⟩ = some v := by
  rw [cell_of_row w g i _ _ _ h]
  exact ⟨_, Array.getElem?_eq_getElem hi⟩
theorem row_set {w : World} {g i t : Nat} {cur : Array Value} (h : w.heap[g]? = some (.cells cur t (0, 0))) (v : Value) : ∃ cur', (w.setCell ⟨g, i, none⟩ v).heap[g]? = some (.cells cur' t (0, 0)) ∧ cur'.size = cur.size := by
  rw [heap_setCell_same w g i _ _ _ h]
  exact ⟨_, rfl, by simp⟩
set_option maxHeartbeats 2000000 in
theorem spoilB_row {w : World} {g n c : Nat} {cur : Array Value} (hgh : w.heap[g]? = some (.cells cur 5 (0, 0))) (hs0 : n ≤ cur.size) (hn : n ≤ 9223372036854775807) : Calls Try.prog 38 #[.slice (some ⟨g, 0, none⟩) n c] w fun e w' => e = .returned (.tuple #[]) ∧ Sp (some g) w w' := by
  have hs : Hid (n ≤ cur.size) := hs0
  clear hs0
  go_enter Try.func38, Try.ntmps38
  go_wp2
  go_loopw [2] (fun iv wr => ∃ (k : Nat) (cur' : Array Value), k ≤ n ∧ iv = .int .i64 (k : Int) ∧ wr.heap[g]? = some (.cells cur' 5 (0, 0)) ∧ Hid (cur'.size = cur.size) ∧ Sp (some g) w wr) (fun iv _ => n - (intOf iv).toNat)
  case atStart => exact ⟨0, cur, by omega, rfl, hgh, rfl, Sp.refl _ _⟩
  case round =>
    obtain ⟨k, cur', hk, rfl, hg, hcs', hsp⟩ := hrel
    by_cases hlt : k < n
    · have hki : (k : Int) < (n : Int) := by omega
      obtain ⟨x, hx⟩ := row_cell (i := k) hg (by have := hs.out; have := hcs'.out; omega)
      have hfr := frozen_of_row wr g k _ _ hg
      obtain ⟨cur2, hg2, hc2⟩ := row_set (i := k) hg (.int .u8 90)
      have hsp2 := hsp.set (i := k) rfl (.int .u8 90)
      have hc3 : Hid (cur2.size = cur.size) := hc2.trans hcs'.out
      clear hc2
      go_wp2
      go_roundw
      case rel => exact ⟨k + 1, cur2, by omega, by go_num, hg2, hc3, hsp2⟩
      case measure => simp [intOf]; omega
    · have hki : ¬ (k : Int) < (n : Int) := by omega
      go_wp2
      go_end0
      exact ⟨rfl, hsp⟩
theorem spoilB_nil (w : World) : Calls Try.prog 38 #[.slice none 0 0] w fun e w' => e = .returned (.tuple #[]) ∧ Sp none w w' := by
  go_enter Try.func38, Try.ntmps38
  go_wp2
  go_loopw [2] (fun iv wr => iv = .int .i64 0 ∧ wr = w) (fun _ _ => 0)
  case atStart => exact ⟨rfl, rfl⟩
  case round =>
    obtain ⟨rfl, rfl⟩ := hrel
    go_wp2
    go_end0
    exact ⟨rfl, Sp.refl _ _⟩
/-- A row of values, whatever they are. -/
structure ShV (w : World) (a : Option Addr) (n c : Nat) : Prop where
  row : (a = none ∧ n = 0 ∧ c = 0) ∨ ∃ g cur, a = some ⟨g, 0, none⟩ ∧ w.heap[g]? = some (.cells cur 84 (0, 0)) ∧ n * 2 ≤ cur.size
  most : n ≤ 9223372036854775807
structure ShB (w : World) (a : Option Addr) (n c : Nat) : Prop where
  row : (a = none ∧ n = 0 ∧ c = 0) ∨ ∃ g cur, a = some ⟨g, 0, none⟩ ∧ w.heap[g]? = some (.cells cur 5 (0, 0)) ∧ n ≤ cur.size
  most : n ≤ 9223372036854775807
theorem ShV.blk {w : World} {a : Option Addr} {n c g : Nat} (h : ShV w a n c) (hg : (Value.slice a n c).ownBlock = some g) : ∃ cur, w.heap[g]? = some (.cells cur 84 (0, 0)) := by
  rcases h.row with ⟨e, _⟩ | ⟨g', cur, e, e2, _⟩
  · rw [e] at hg; cases hg
  · rw [e] at hg; cases hg; exact ⟨cur, e2⟩
theorem ShB.blk {w : World} {a : Option Addr} {n c g : Nat} (h : ShB w a n c) (hg : (Value.slice a n c).ownBlock = some g) : ∃ cur, w.heap[g]? = some (.cells cur 5 (0, 0)) := by
  rcases h.row with ⟨e, _⟩ | ⟨g', cur, e, e2, _⟩
  · rw [e] at hg; cases hg
  · rw [e] at hg; cases hg; exact ⟨cur, e2⟩
def Shk (w w' : World) : Prop := ∀ (g : Nat) (cur : Array Value) (t : Nat), w.heap[g]? = some (.cells cur t (0, 0)) → ∃ cur', w'.heap[g]? = some (.cells cur' t (0, 0)) ∧ cur'.size = cur.size
theorem Shk.below {w w' : World} (h : Below w.heap.size w w') : Shk w w' := fun g cur _ hg => ⟨cur, (h.block g (lt_of_block hg)).trans hg, rfl⟩
theorem Shk.trans {w w1 w2 : World} (h : Shk w w1) (k : Shk w1 w2) : Shk w w2 := fun g cur t hg => by
  obtain ⟨c1, e1, e2⟩ := h g cur t hg
  obtain ⟨c2, e3, e4⟩ := k g c1 t e1
  exact ⟨c2, e3, e4.trans e2⟩
theorem ShV.keep {w w' : World} {a : Option Addr} {n c : Nat} (h : ShV w a n c) (k : Shk w w') : ShV w' a n c := ⟨by
  rcases h.row with q | ⟨g', cur, e, e2, e3⟩
  · exact .inl q
  · obtain ⟨c1, e4, e5⟩ := k g' cur 84 e2
    exact .inr ⟨g', c1, e, e4, by omega⟩, h.most⟩
theorem ShB.keep {w w' : World} {a : Option Addr} {n c : Nat} (h : ShB w a n c) (k : Shk w w') : ShB w' a n c := ⟨by
  rcases h.row with q | ⟨g', cur, e, e2, e3⟩
  · exact .inl q
  · obtain ⟨c1, e4, e5⟩ := k g' cur 5 e2
    exact .inr ⟨g', c1, e, e4, by omega⟩, h.most⟩
theorem spoilB_any {w : World} {n c : Nat} {a : Option Addr} (h : ShB w a n c) : Calls Try.prog 38 #[.slice a n c] w fun e w' => e = .returned (.tuple #[]) ∧ Sp (Value.slice a n c).ownBlock w w' := by
  rcases h.row with ⟨rfl, rfl, rfl⟩ | ⟨g, cur, rfl, hgh, hl⟩
  · exact spoilB_nil w
  · exact spoilB_row hgh hl h.most
set_option maxHeartbeats 4000000 in
theorem spoil_any {w : World} {sn sc bn bc : Nat} {sa ba : Option Addr} {cls : Int} (hV : ShV w sa sn sc) (hB : ShB w ba bn bc) :
    Calls Try.prog 15 #[.agg #[.int .i64 cls, .slice sa sn sc, .slice ba bn bc]] w fun e w' => e = .returned (.tuple #[]) ∧ Fr (fun g => (Value.slice sa sn sc).ownBlock = some g ∨ (Value.slice ba bn bc).ownBlock = some g) w w' ∧ Shk w w' := by
  have hn : sn ≤ 9223372036854775807 := hV.most
  have E1 := new1 w (objB cls (.slice sa sn sc) (.slice ba bn bc))
  have B1 : Below w.heap.size w (w.alloc (objB cls (.slice sa sn sc) (.slice ba bn bc))) := box_below
  have hV1 := hV.keep (Shk.below B1)
  have hB1 := hB.keep (Shk.below B1)
  have nb : ∀ g cur, (Value.slice sa sn sc).ownBlock = some g → (Value.slice ba bn bc).ownBlock = some g → w.heap[g]? = some (.cells cur 84 (0, 0)) → False := fun g cur _ h2 h3 => by
    obtain ⟨cur', hh⟩ := hB.blk h2
    rw [hh] at h3
    cases h3
  have hne : ∀ g, (Value.slice sa sn sc).ownBlock = some g → g < w.heap.size := fun g hg => by
    obtain ⟨cur', hh⟩ := hV.blk hg
    exact lt_of_block hh
  have hsep : ∀ g, (Value.slice ba bn bc).ownBlock = some g → (Value.slice sa sn sc).ownBlock ≠ some g := fun g hg e => by
    obtain ⟨cur', hh⟩ := hV.blk e
    exact nb g cur' e hg hh
  clear nb
  unfold objB at E1 B1 hV1 hB1
  clear hV hB
  go_enter Try.func15, Try.ntmps15
  go_wp2_with fail
  generalize w.alloc (.cells #[.int .i64 cls, .slice sa sn sc, .slice ba bn bc] 49) = w1 at *
  obtain ⟨b1, hb1⟩ : ∃ q, q = w.heap.size := ⟨_, rfl⟩
  rw [← hb1] at E1 ⊢
  replace hb1 : Hid _ := hb1
  replace E1 : w1.heap[b1]? = some (objB cls (.slice sa sn sc) (.slice ba bn bc)) := E1
  have hb : ∀ g, (Value.slice sa sn sc).ownBlock = some g → b1 ≠ g := fun g hg e => by have := hne g hg; have := hb1.out; omega
  go_loopw [2] (fun iv wr => ∃ (k : Nat), k ≤ sn ∧ iv = .int .i64 (k : Int) ∧ (∀ g, (Value.slice sa sn sc).ownBlock = some g → ∃ cur', wr.heap[g]? = some (.cells cur' 84 (0, 0)) ∧ sn * 2 ≤ cur'.size) ∧ Sp (Value.slice sa sn sc).ownBlock w1 wr) (fun iv _ => sn - (intOf iv).toNat)
  case atStart =>
    refine ⟨0, by omega, rfl, fun g hg => ?_, Sp.refl _ _⟩
    rcases hV1.row with ⟨e1, _⟩ | ⟨g', cur, e1, e2, e3⟩
    · rw [e1] at hg; cases hg
    · rw [e1] at hg; cases hg; exact ⟨cur, e2, e3⟩
  case round =>
    obtain ⟨k, hk, rfl, hrow, hsp⟩ := hrel
    have Er : wr.heap[b1]? = some (objB cls (.slice sa sn sc) (.slice ba bn bc)) := (hsp.block b1 (fun e => hb b1 e rfl)).trans E1
    obtain ⟨x0, x1, x2, xf⟩ := obj_cells Er
    by_cases hlt : k < sn
    · have hki : (k : Int) < (sn : Int) := by omega
      obtain ⟨g, rfl⟩ : ∃ g, sa = some ⟨g, 0, none⟩ := by
        rcases hV1.row with ⟨_, e2, _⟩ | ⟨g', cur, e1, _⟩
        · omega
        · exact ⟨g', e1⟩
      obtain ⟨cur', hg, hcs⟩ := hrow g rfl
      obtain ⟨y0, hy0⟩ := row_cell (i := k * 2) hg (by omega)
      obtain ⟨y1, hy1⟩ := row_cell (i := k * 2 + 1) hg (by omega)
      have hf0 := frozen_of_row wr g (k * 2) _ _ hg
      have hf1 := frozen_of_row wr g (k * 2 + 1) _ _ hg
      obtain ⟨cur2, hg2, hc2⟩ := row_set (i := k * 2) hg (.int .i64 77)
      obtain ⟨cur3, hg3, hc3⟩ := row_set (i := k * 2 + 1) hg2 (.int .i64 0)
      have hsp3 := (hsp.set (i := k * 2) (g := g) rfl (.int .i64 77)).set (i := k * 2 + 1) (g := g) rfl (.int .i64 0)
      have hc4 : Hid (sn * 2 ≤ cur3.size) := by show _ ≤ _; rw [hc3, hc2]; exact hcs
      have hfz : (wr.setCell ⟨g, k * 2, none⟩ (.int .i64 77)).frozen? ⟨g, k * 2 + 1, none⟩ = false := frozen_of_row _ g (k * 2 + 1) _ _ hg2
      clear hc2 hc3 hcs
      go_wp2
      go_roundw
      case rel => exact ⟨k + 1, by omega, by go_num, fun g' e => by cases e; exact ⟨cur3, hg3, hc4.out⟩, hsp3⟩
      case measure => simp [intOf]; omega
    · have hki : ¬ (k : Int) < (sn : Int) := by omega
      have hB2 : ShB wr ba bn bc := hB1.keep hsp.sh
      have hk1 : Hid (Shk w wr) := (Shk.below B1).trans hsp.sh
      go_wp2_with fail
      refine (spoilB_any hB2).mono ?_
      rintro e w3 ⟨rfl, hs3⟩
      have fin : Hid (Fr (fun g => (Value.slice sa sn sc).ownBlock = some g ∨ (Value.slice ba bn bc).ownBlock = some g) w w3) := ⟨hs3.os.trans (hsp.os.trans B1.os), hs3.tape.trans (hsp.tape.trans B1.tape), hs3.output.trans (hsp.output.trans B1.output), by have := B1.size; have := hs3.size; have := hsp.size; omega, fun g hg hno => (hs3.block g (fun e => hno (.inr e))).trans ((hsp.block g (fun e => hno (.inl e))).trans (B1.block g hg))⟩
      have fin2 : Hid (Shk w w3) := hk1.out.trans hs3.sh
      go_wp2
      go_end0
      exact ⟨rfl, fin.out, fin2.out⟩
end Go.Proofs.Ytajdelinfkodbaa
namespace Go.Proofs.Ytajdelinfkodbaa
open Go.ChangeShapes Go.WideShapes Go.ChangeAt Go.RowKit Go.Deep
set_option maxRecDepth 100000
theorem Try.cells31 : Try.prog.cellsOf 31 = 5 := by kernel_rfl
theorem Try.fields31 : ∃ f0 f1 f2 f3, Try.prog.underlying 31 = some (.struct #[f0, f1, f2, f3]) ∧ (f0.type = 3 ∧ f0.offset = 0) ∧ (f1.type = 29 ∧ f1.offset = 1) ∧ (f2.type = 2 ∧ f2.offset = 3) ∧ (f3.type = 2 ∧ f3.offset = 4) := ⟨_, _, _, _, Try.underlying31, ⟨rfl, rfl⟩, ⟨rfl, rfl⟩, ⟨rfl, rfl⟩, ⟨rfl, rfl⟩⟩
structure Ac where
  kind : Int
  com : Int
  ra : Option Addr
  rn : Nat
  rc : Nat
  rxs : List Ch
  c : Int
  o : Int
instance : Inhabited Ac := ⟨⟨0, 0, none, 0, 0, [], 0, 0⟩⟩
structure Ac.In (m : Ac) (W : World) : Prop where
  rec_ : (⟨m.com, m.ra, m.rn, m.rc, m.rxs⟩ : Rm).In W
  c : -9223372036854775808 ≤ m.c ∧ m.c ≤ 9223372036854775807
  o : -9223372036854775808 ≤ m.o ∧ m.o ≤ 9223372036854775807
def Ac.cells (m : Ac) : List Value := [.int .i64 m.kind, .int .i64 m.com, .slice m.ra m.rn m.rc, .int .i64 m.c, .int .i64 m.o]
structure IsAs (W : World) (a : Option Addr) (len cap : Nat) (ms : List Ac) : Prop where
  size : ms.length = len
  room : len ≤ cap
  most : cap ≤ maxLen
  cells : 0 < len → ∃ b off, a = some ⟨b, off, none⟩ ∧ ∀ i m, ms[i]? = some m → ∀ j v, m.cells[j]? = some v → W.cell? ⟨b, off + i * 5 + j, none⟩ = some v
  ins : ∀ m ∈ ms, m.In W
theorem open_actT {H : Type} {enc : TypeId × Value → H} {W : World} {fuel : Nat} {cs : List Value} {x : DataW H × List MemPlace}
    (hf : DataW.trod enc Try.prog W 0 (fun _ => true) true fuel 31 cs = some x) (hs : ∀ n ∈ x.1.weights Try.prog 31, n ≤ reachBytes) : ∃ m : Ac, cs = m.cells ∧ m.In W := by
  obtain ⟨f0, f1, f2, f3, hu, ⟨t0, o0⟩, ⟨t1, o1⟩, ⟨t2, o2⟩, ⟨t3, o3⟩⟩ := Try.fields31
  obtain ⟨ys, k, _, rfl, hcl, hyl, hfl⟩ := DataW.trod_struct hu hf
  have hy4 : ys.length = 4 := hyl
  rw [Try.cells31] at hcl
  obtain ⟨y0, y1, y2, y3, rfl⟩ : ∃ y0 y1 y2 y3, ys = [y0, y1, y2, y3] := by
    match ys, hy4 with
    | [y0, y1, y2, y3], _ => exact ⟨_, _, _, _, rfl⟩
  obtain ⟨c0, c1, c2, c3, c4, rfl⟩ : ∃ c0 c1 c2 c3 c4, cs = [c0, c1, c2, c3, c4] := by
    match cs, hcl with
    | [c0, c1, c2, c3, c4], _ => exact ⟨_, _, _, _, _, rfl⟩
  have g0 : DataW.trod enc Try.prog W 0 (fun _ => true) true k 3 [c0] = some y0 := by have h := hfl 0 f0 rfl; rw [t0, o0, Try.cells3] at h; exact h
  have g1 : DataW.trod enc Try.prog W 0 (fun _ => true) true k 29 [c1, c2] = some y1 := by have h := hfl 1 f1 rfl; rw [t1, o1, Try.cells29] at h; exact h
  have g2 : DataW.trod enc Try.prog W 0 (fun _ => true) true k 2 [c3] = some y2 := by have h := hfl 2 f2 rfl; rw [t2, o2, Try.cells2] at h; exact h
  have g3 : DataW.trod enc Try.prog W 0 (fun _ => true) true k 2 [c4] = some y3 := by have h := hfl 3 f3 rfl; rw [t3, o3, Try.cells2] at h; exact h
  have e : (DataW.agg [y0.1, y1.1, y2.1, y3.1]).weights Try.prog 31 = DataW.weightsEach Try.prog [f0.type, f1.type, f2.type, f3.type] [y0.1, y1.1, y2.1, y3.1] := by
    simp only [DataW.weights, hu]
    rfl
  have hs' : ∀ n ∈ (DataW.agg [y0.1, y1.1, y2.1, y3.1]).weights Try.prog 31, n ≤ reachBytes := hs
  rw [e] at hs'
  have h1 : ∀ n ∈ y1.1.weights Try.prog 29, n ≤ reachBytes := fun n hn => hs' n (DataW.weights_mem_each (j := 1) rfl rfl n (by rw [t1]; exact hn))
  obtain ⟨n0, e0, _, w0⟩ := DataW.trod_int Try.underlying3 g0
  obtain ⟨n2, e2, _, w2⟩ := DataW.trod_int Try.underlying2 g2
  obtain ⟨n3, e3, _, w3⟩ := DataW.trod_int Try.underlying2 g3
  obtain ⟨m1, e1, r1⟩ := open_recT g1 h1
  obtain rfl := (List.cons.inj e0).1
  obtain rfl := (List.cons.inj e2).1
  obtain rfl := (List.cons.inj e3).1
  simp only [List.cons.injEq, and_true] at e1
  obtain ⟨rfl, rfl⟩ := e1
  exact ⟨⟨n0, m1.com, m1.a, m1.n, m1.cap, m1.xs, n2, n3⟩, rfl, ⟨r1, okI w2, okI w3⟩⟩
theorem open_acts {H : Type} {enc : TypeId × Value → H} {W : World} {a : Option Addr} {len cap fuel : Nat} {x : DataW H × List MemPlace}
    (hf : DataW.trod enc Try.prog W 0 (fun _ => true) true fuel 22 [Value.slice a len cap] = some x) (hs : ∀ n ∈ x.1.weights Try.prog 22, n ≤ reachBytes) : ∃ ms, IsAs W a len cap ms := by
  rcases open_slice Try.underlying22 hf with ⟨hcs, _⟩ | ⟨ad, len', cap', m, n, D, Pl, hcs, _, hl, hm, hmm, rfl, hel⟩
  · simp at hcs
    obtain ⟨rfl, rfl, rfl⟩ := hcs
    exact ⟨[], ⟨rfl, Nat.le_refl _, by decide, fun h => absurd h (by decide), by simp⟩⟩
  · simp at hcs
    obtain ⟨rfl, rfl, rfl⟩ := hcs
    simp only [if_true] at hmm
    subst hmm
    have hw : ∀ i, i < len → ∀ z ∈ (D i).weights Try.prog 31, z ≤ reachBytes := fun i hi z hz => hs z (by
      simp only [DataW.weights, Try.underlying22, List.mem_cons, List.mem_append]
      exact Or.inr (Or.inl (weightsAll_mem (List.mem_map.2 ⟨i, List.mem_range.2 hi, rfl⟩) z hz)))
    have key : ∀ i, i < len → ∃ y : Ac, (∀ j v, y.cells[j]? = some v → W.cell? (ad.add (i * 5 + j)) = some v) ∧ y.In W := by
      intro i hi
      obtain ⟨cs', h1, h2⟩ := hel i (by omega)
      rw [Try.cells31] at h1
      obtain ⟨_, hcl, hcell⟩ := World.cells?_some h1
      obtain ⟨y, rfl, hin⟩ := open_actT h2 (hw i hi)
      refine ⟨y, fun j v hj => ?_, hin⟩
      have h7 : j < 5 := by have := (List.getElem?_eq_some_iff.1 hj).1; simpa [Ac.cells] using this
      have q := hcell j (by omega)
      rw [add_add] at q
      rw [q]
      exact hj
    obtain ⟨f, hf'⟩ := choose_lt key
    refine ⟨(List.range len).map f, ⟨by simp, hl, hm, fun h0 => ?_, fun z hz => ?_⟩⟩
    · obtain ⟨b, off, spot⟩ := ad
      have hc : W.cell? ((⟨b, off, spot⟩ : Addr).add (0 * 5 + 0)) = some (.int .i64 (f 0).kind) := (hf' 0 h0).1 0 _ rfl
      have hsp : spot = none := by simpa [Addr.add] using World.cell?_spot hc
      subst hsp
      refine ⟨b, off, rfl, fun i x hx j v hj => ?_⟩
      have hi : i < len := by
        have := (List.getElem?_eq_some_iff.1 hx).1
        simpa using this
      have ex : f i = x := by
        rw [List.getElem?_map, List.getElem?_range hi] at hx
        exact Option.some.inj hx
      subst ex
      have q := (hf' i hi).1 j v hj
      rw [Addr.add_lit] at q
      rw [Nat.add_assoc]
      exact q
    · obtain ⟨i, hi, rfl⟩ := List.mem_map.1 hz
      exact (hf' i (List.mem_range.1 hi)).2
/-- A call of the list. -/
theorem IsAs.at_ {W : World} {a : Option Addr} {len cap : Nat} {ms : List Ac} (h : IsAs W a len cap ms) (k : Nat) (hk : k < len) : ∃ (b off : Nat) (m : Ac), a = some ⟨b, off, none⟩ ∧ m.In W ∧ ∀ w, Below W.heap.size W w → b < w.heap.size ∧ ∀ j v, m.cells[j]? = some v → w.cell? ⟨b, off + k * 5 + j, none⟩ = some v := by
  obtain ⟨b, off, e, hc⟩ := h.cells (by omega)
  have hm : ms[k]? = some (ms[k]'(by rw [h.size]; exact hk)) := List.getElem?_eq_getElem _
  have hi := h.ins _ (List.mem_of_getElem? hm)
  refine ⟨b, off, _, e, hi, fun w hb => ⟨?_, fun j v hj => ?_⟩⟩
  · exact Nat.lt_of_lt_of_le (lt_of_cell (hc k _ hm 0 _ rfl)) hb.size
  · have := hc k _ hm j v hj
    exact (hb.cell (lt_of_cell this)).trans this
end Go.Proofs.Ytajdelinfkodbaa
