/- A device in memory: its cells, its two maps, its writes that are not safe; what a call on it leaves alone. -/
import Derived.Test.YtofgphiamllmdabPut
import Derived.Test.YtofgphiamllmdabAnyG
import Derived.Laws.AppendOwn
import Derived.ProofKit
namespace Go.Proofs.Ytofgphiamllmdab
open Go.RowKit
set_option maxRecDepth 100000

theorem eval_of {a : Act} {k : Nat} {v : Value} (h : a.tmps[k]?.getD undef = v) : a.eval (.tmp k) = v := by simpa [Act.eval] using h
theorem wp_value {P : Program} {o : Oper} {a : Act} {w w' : World} {K : Act → World → Prop} {Q : Exit → Act → World → Prop} {v : Value} (h : (execOp a.eval o).run P w = .ok (.value v) w') (hk : K (a.put o.dst v) w') : o.wp P a w K Q := by
  unfold Oper.wp; rw [h]; exact hk
theorem wp_enter {P : Program} {o : Oper} {a : Act} {w : World} {K : Act → World → Prop} {Q : Exit → Act → World → Prop} {f : FuncId} {args : Array Value} (h : (execOp a.eval o).run P w = .ok (.enter f args) w) (hk : Calls P f args w fun e w' => ∃ v, e = .returned v ∧ K (a.put o.dst v) w') : o.wp P a w K Q := by
  unfold Oper.wp
  rw [h]
  refine hk.mono ?_
  rintro e w' ⟨v, rfl, h⟩
  exact h
theorem below_size {B : Nat} {w w1 w2 : World} (h1 : Below B w w1) (hB : B ≤ w.heap.size) (h2 : Below w1.heap.size w1 w2) : Below B w w2 :=
  h1.trans (h2.mono (Nat.le_trans hB h1.size))

/-- A write's cells. -/
def wcells (q : Int × List Int) : List Value := .int .i64 q.1 :: q.2.map (Value.int .u8)
/-- A device's cells. -/
def devO (size : Int) (bs bn : Nat) (pv : Value) (left : Int) (dead : Bool) : Obj := .cells #[.int .i64 size, .map (some bs), .map (some bn), pv, .int .i64 left, .bool dead] 104 (0, 0)
structure Dev (w : World) (n₀ p bs bn : Nat) (pv : Value) (size : Int) (G0 G1 : Int → List Int) (L : List (Int × List Int)) (left : Int) (dead : Bool) : Prop where
  obj : w.heap[p]? = some (devO size bs bn pv left dead)
  safe : HasSec w bs G0
  now : HasSec w bn G1
  pend : w.ownsRow n₀ 107 129 pv L.length (L.flatMap wcells)
  secs : ∀ q ∈ L, IsSec q.2
  ne : bs ≠ bn
  fromP : n₀ ≤ p
  fromS : n₀ ≤ bs
  fromN : n₀ ≤ bn

theorem dev_cells {w : World} {p : Nat} {size : Int} {bs bn : Nat} {pv : Value} {left : Int} {dead : Bool} (h : w.heap[p]? = some (devO size bs bn pv left dead)) :
    w.cell? ⟨p, 0, none⟩ = some (.int .i64 size) ∧ w.cell? ⟨p, 1, none⟩ = some (.map (some bs)) ∧ w.cell? ⟨p, 2, none⟩ = some (.map (some bn)) ∧ w.cell? ⟨p, 3, none⟩ = some pv ∧ w.cell? ⟨p, 4, none⟩ = some (.int .i64 left) ∧ w.cell? ⟨p, 5, none⟩ = some (.bool dead) ∧ ∀ i, w.frozen? ⟨p, i, none⟩ = false := by
  unfold devO at h
  refine ⟨?_, ?_, ?_, ?_, ?_, ?_, fun i => frozen_of_row w p i _ _ h⟩ <;> (rw [cell_of_row w p _ _ _ _ h]; rfl)
theorem devO_pv {w : World} {p : Nat} {size : Int} {bs bn : Nat} {pv : Value} {left : Int} {dead : Bool} (h : w.heap[p]? = some (devO size bs bn pv left dead)) (v : Value) : (w.setCell ⟨p, 3, none⟩ v).heap[p]? = some (devO size bs bn v left dead) := by
  unfold devO at h ⊢
  rw [heap_setCell_same w p 3 _ _ _ h]
  simp
theorem devO_left {w : World} {p : Nat} {size : Int} {bs bn : Nat} {pv : Value} {left : Int} {dead : Bool} (h : w.heap[p]? = some (devO size bs bn pv left dead)) (l : Int) : (w.setCell ⟨p, 4, none⟩ (.int .i64 l)).heap[p]? = some (devO size bs bn pv l dead) := by
  unfold devO at h ⊢
  rw [heap_setCell_same w p 4 _ _ _ h]
  simp
theorem devO_dead {w : World} {p : Nat} {size : Int} {bs bn : Nat} {pv : Value} {left : Int} {dead : Bool} (h : w.heap[p]? = some (devO size bs bn pv left dead)) (d : Bool) : (w.setCell ⟨p, 5, none⟩ (.bool d)).heap[p]? = some (devO size bs bn pv left d) := by
  unfold devO at h ⊢
  rw [heap_setCell_same w p 5 _ _ _ h]
  simp

theorem own_block {w : World} {n₀ e sz n : Nat} {v : Value} {xs : List Value} (h : w.ownsRow n₀ e sz v n xs) {g : Nat} (hg : v.ownBlock = some g) : n₀ ≤ g ∧ ∃ cur, w.heap[g]? = some (.cells cur e (0, 0)) := by
  rcases h.2 with ⟨rfl, _⟩ | ⟨g', cap, cur, rfl, hb, hh, _⟩
  · simp [Value.ownBlock] at hg
  · simp [Value.ownBlock] at hg
    subst hg
    exact ⟨hb, cur, hh⟩
theorem own_same {w w' : World} {n₀ e sz n : Nat} {v : Value} {xs : List Value} (h : w.ownsRow n₀ e sz v n xs) (hk : ∀ g, v.ownBlock = some g → w'.heap[g]? = w.heap[g]?) : w'.ownsRow n₀ e sz v n xs := by
  obtain ⟨h1, h2⟩ := h
  refine ⟨h1, ?_⟩
  rcases h2 with ⟨rfl, h3⟩ | ⟨g', cap, cur, rfl, hb, hh, h4⟩
  · exact .inl ⟨rfl, h3⟩
  · exact .inr ⟨g', cap, cur, rfl, hb, (hk g' rfl).trans hh, h4⟩

section
variable {w w' : World} {n₀ p bs bn : Nat} {pv : Value} {size : Int} {G0 G1 : Int → List Int} {L : List (Int × List Int)} {left : Int} {dead : Bool}

theorem Dev.lt (h : Dev w n₀ p bs bn pv size G0 G1 L left dead) : p < w.heap.size := lt_of_block h.obj
theorem Dev.base (h : Dev w n₀ p bs bn pv size G0 G1 L left dead) : n₀ ≤ w.heap.size := by have := h.lt; have := h.fromP; omega
theorem Dev.pbs (h : Dev w n₀ p bs bn pv size G0 G1 L left dead) : p ≠ bs := by
  rintro rfl
  obtain ⟨f, ⟨L, c, hb, _⟩, _⟩ := h.safe
  rw [h.obj] at hb
  cases hb
theorem Dev.pbn (h : Dev w n₀ p bs bn pv size G0 G1 L left dead) : p ≠ bn := by
  rintro rfl
  obtain ⟨f, ⟨L, c, hb, _⟩, _⟩ := h.now
  rw [h.obj] at hb
  cases hb
theorem Dev.pvp (h : Dev w n₀ p bs bn pv size G0 G1 L left dead) : pv.ownBlock ≠ some p := by
  intro hg
  obtain ⟨_, cur, hh⟩ := own_block h.pend hg
  rw [h.obj] at hh
  cases hh
theorem Dev.pvs (h : Dev w n₀ p bs bn pv size G0 G1 L left dead) : pv.ownBlock ≠ some bs := by
  intro hg
  obtain ⟨_, cur, hh⟩ := own_block h.pend hg
  obtain ⟨f, ⟨L, c, hb, _⟩, _⟩ := h.safe
  rw [hb] at hh
  cases hh
theorem Dev.pvn (h : Dev w n₀ p bs bn pv size G0 G1 L left dead) : pv.ownBlock ≠ some bn := by
  intro hg
  obtain ⟨_, cur, hh⟩ := own_block h.pend hg
  obtain ⟨f, ⟨L, c, hb, _⟩, _⟩ := h.now
  rw [hb] at hh
  cases hh
theorem Dev.pvlt (h : Dev w n₀ p bs bn pv size G0 G1 L left dead) {g : Nat} (hg : pv.ownBlock = some g) : g < w.heap.size := by
  obtain ⟨_, cur, hh⟩ := own_block h.pend hg
  exact lt_of_block hh
/-- All of its blocks are as they were. -/
theorem Dev.same (h : Dev w n₀ p bs bn pv size G0 G1 L left dead) (hk : ∀ i, i < w.heap.size → w'.heap[i]? = w.heap[i]?) : Dev w' n₀ p bs bn pv size G0 G1 L left dead :=
  ⟨(hk _ h.lt).trans h.obj, h.safe.same (hk _ h.safe.lt), h.now.same (hk _ h.now.lt), own_same h.pend (fun _ hg => hk _ (h.pvlt hg)), h.secs, h.ne, h.fromP, h.fromS, h.fromN⟩
end

/-- What a call on a device leaves alone. -/
structure Fr (p bs bn : Nat) (w : World) (pv : Value) (w' : World) (pv' : Value) : Prop where
  os : w'.os = w.os
  tape : w'.tape = w.tape
  output : w'.output = w.output
  size : w.heap.size ≤ w'.heap.size
  keep : ∀ i, i < w.heap.size → i ≠ p → i ≠ bs → i ≠ bn → pv.ownBlock ≠ some i → w'.heap[i]? = w.heap[i]? ∧ pv'.ownBlock ≠ some i

theorem Fr.refl (p bs bn : Nat) (w : World) (pv : Value) : Fr p bs bn w pv w pv := ⟨rfl, rfl, rfl, Nat.le_refl _, fun _ _ _ _ _ h => ⟨rfl, h⟩⟩
theorem Fr.trans {p bs bn : Nat} {w w1 w2 : World} {pv pv1 pv2 : Value} (h : Fr p bs bn w pv w1 pv1) (k : Fr p bs bn w1 pv1 w2 pv2) : Fr p bs bn w pv w2 pv2 :=
  ⟨k.os.trans h.os, k.tape.trans h.tape, k.output.trans h.output, Nat.le_trans h.size k.size, fun i hi h1 h2 h3 h4 => by
    obtain ⟨e1, n1⟩ := h.keep i hi h1 h2 h3 h4
    obtain ⟨e2, n2⟩ := k.keep i (Nat.lt_of_lt_of_le hi h.size) h1 h2 h3 n1
    exact ⟨e2.trans e1, n2⟩⟩
theorem Fr.grown {p bs bn : Nat} {w w' : World} {pv : Value} {r : Option Nat} (h : w.grownBy w' r) (hr : r = none ∨ r = some p ∨ r = some bs ∨ r = some bn) : Fr p bs bn w pv w' pv :=
  ⟨h.os, h.tape, h.output, h.size, fun i hi h1 h2 h3 h4 => ⟨h.block i hi (by
    rintro rfl
    rcases hr with hr | hr | hr | hr
    · cases hr
    · exact h1 (Option.some.inj hr)
    · exact h2 (Option.some.inj hr)
    · exact h3 (Option.some.inj hr)), h4⟩⟩
theorem Fr.set {p bs bn : Nat} (w : World) (pv : Value) (i : Nat) (v : Value) : Fr p bs bn w pv (w.setCell ⟨p, i, none⟩ v) pv :=
  ⟨rfl, rfl, rfl, by simp, fun j _ h1 _ _ h4 => ⟨heap_setCell_other _ _ _ _ h1, h4⟩⟩
theorem Fr.below {w w' : World} {n₀ p bs bn : Nat} {pv pv' : Value} {size : Int} {G0 G1 : Int → List Int} {L : List (Int × List Int)} {left : Int} {dead : Bool} (h : Dev w n₀ p bs bn pv size G0 G1 L left dead) (k : Fr p bs bn w pv w' pv') : Below n₀ w w' :=
  ⟨k.os, k.tape, k.output, k.size, fun i hi => (k.keep i (Nat.lt_of_lt_of_le hi h.base) (by have := h.fromP; omega) (by have := h.fromS; omega) (by have := h.fromN; omega) (fun hg => by
    obtain ⟨hb, _⟩ := own_block h.pend hg
    omega)).1⟩
end Go.Proofs.Ytofgphiamllmdab
