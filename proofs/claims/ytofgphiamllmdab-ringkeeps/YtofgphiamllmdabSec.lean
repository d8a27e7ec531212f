/- Sectors as values, and maps of them: filled.put. -/
import Derived.Test.YtofgphiamllmdabRows
import Derived.Test.YtofgphiamllmdabMapI
import Derived.WalkKit
import Derived.WalkSpells
import Derived.WalkLawsBesides
import Derived.Laws.Tables
import Derived.ChangeKeysEq
import Derived.Deep.WholeRow
namespace Go.Proofs.Ytofgphiamllmdab
open Go.RowKit
set_option maxRecDepth 100000

/-- Bytes as cells. -/
def cellsB (xs : List Int) : Array Value := (xs.map (Value.int .u8)).toArray
def secV (xs : List Int) : Value := .agg (cellsB xs)
/-- The sector whose bytes are all 0. -/
def z128 : List Int := List.replicate 128 0
structure IsSec (xs : List Int) : Prop where
  len : xs.length = 128
  byte : ∀ x ∈ xs, 0 ≤ x ∧ x < 256
theorem isSec_z : IsSec z128 := ⟨by simp [z128], fun x hx => by
  obtain ⟨_, rfl⟩ := List.mem_replicate.1 hx
  decide⟩
theorem cellsB_size (xs : List Int) : (cellsB xs).size = xs.length := by simp [cellsB]
theorem cellsB_one (xs : List Int) : (cellsB xs).all (·.oneCell') = true := by simp [cellsB, Value.oneCell']
theorem size57 {xs : List Int} (h : IsSec xs) : (Try.prog.info? 105).map (·.size) = some (cellsB xs).size := by
  rw [cellsB_size, h.len]; kernel_rfl
theorem Try.info105 : (Try.prog.info? 105).map (fun i => (i.zero, i.size)) = some (some (secV z128), 128) := by kernel_rfl
theorem zero57 (w : World) : (zeroValue 105).run Try.prog w = .ok (secV z128) w := (zero_of_info Try.info105).1 w

theorem part_byte (xs : List Int) (i : Nat) (hi : i < xs.length) (w : World) : (part 5 (cellsB xs) i).run Try.prog w = .ok (.int .u8 (xs.getD i 0)) w := by
  simp [part, cellsB, hi, go_sem]
theorem eqItems_bytes (d : Nat) (xs ys : List Int) (w : World) : ∀ (is : List Nat), (∀ i ∈ is, i < xs.length ∧ i < ys.length) →
    (Op.eqItems (d + 1) 5 1 (cellsB xs) (cellsB ys) is).run Try.prog w = .ok (is.all fun i => xs.getD i 0 == ys.getD i 0) w
  | [], _ => by simp [Op.eqItems]
  | i :: is, h => by
    have hi := h i (by simp)
    have ih := eqItems_bytes d xs ys w is (fun j hj => h j (by simp [hj]))
    simp only [Op.eqItems, Sem.run_bind, Nat.mul_one, part_byte xs i hi.1 w, part_byte ys i hi.2 w, Result.andThen_ok, run_equalIn_int w d 5 .u8 .u8 _ _ Try.underlying5]
    cases hb : (xs.getD i 0 == ys.getD i 0)
    · rw [List.all_cons, hb, Bool.false_and]; simp
    · simp only [Bool.not_true, Bool.false_eq_true, if_false, ih]
      rw [List.all_cons, hb, Bool.true_and]
set_option maxRecDepth 100000 in
theorem equal_sec (d : Nat) (hd : d = Op.maxDepth) {xs ys : List Int} (hx : IsSec xs) (hy : IsSec ys) (w : World) : (Op.equalIn d 105 (.agg (cellsB xs)) (.agg (cellsB ys))).run Try.prog w = .ok (decide (xs = ys)) w := by
  obtain ⟨i, hi⟩ : ∃ i, Try.prog.info? 5 = some i := by
    have hs : (Try.prog.info? 5).map (·.size) = some 1 := by kernel_rfl
    cases hq : Try.prog.info? 5 with
    | none => simp [hq] at hs
    | some i => exact ⟨i, rfl⟩
  have hc : Try.prog.cellsOf 5 = 1 := by kernel_rfl
  obtain ⟨k, rfl⟩ : ∃ k, d = k + 1 + 1 := ⟨d - 2, by have : Op.maxDepth = 10000 := rfl; omega⟩
  clear hd
  rw [run_equalIn_array w (k + 1) _ _ Try.underlying105 hi, hc]
  rw [eqItems_bytes k _ _ w _ (fun i hi => by rw [List.mem_range] at hi; rw [hx.len, hy.len]; exact ⟨hi, hi⟩)]
  congr 1
  by_cases h : xs = ys
  · subst h
    rw [decide_eq_true rfl, List.all_eq_true]
    intro i _
    exact beq_self_eq_true _
  · rw [decide_eq_false h, Bool.eq_false_iff]
    intro hall
    rw [List.all_eq_true] at hall
    apply h
    apply List.ext_getElem (by rw [hx.len, hy.len])
    intro i h1 h2
    have := hall i (by rw [List.mem_range, ← hx.len]; exact h1)
    rw [beq_iff_eq] at this
    simpa [List.getD, h1, h2] using this

/-- A map of sectors: what stands at each place. -/
def HasSec (w : World) (b : Nat) (g : Int → List Int) : Prop := ∃ f, IsMap w b f ∧ (∀ k, IsSec (g k)) ∧ ∀ k, (f k).getD (secV z128) = secV (g k)
theorem HasSec.same {w w' : World} {b : Nat} {g : Int → List Int} (h : HasSec w b g) (e : w'.heap[b]? = w.heap[b]?) : HasSec w' b g := by
  obtain ⟨f, h1, h2, h3⟩ := h
  exact ⟨f, h1.same e, h2, h3⟩
theorem HasSec.lt {w : World} {b : Nat} {g : Int → List Int} (h : HasSec w b g) : b < w.heap.size := by
  obtain ⟨f, h1, _⟩ := h
  exact h1.lt
theorem HasSec.isSec {w : World} {b : Nat} {g : Int → List Int} (h : HasSec w b g) (k : Int) : IsSec (g k) := by
  obtain ⟨f, _, h2, _⟩ := h
  exact h2 k
theorem HasSec.made (w : World) : HasSec (w.alloc (.map #[] 0)) w.heap.size (fun _ => z128) := ⟨_, IsMap.made w, fun _ => isSec_z, fun _ => rfl⟩
theorem HasSec.lookup {w : World} {b : Nat} {g : Int → List Int} (h : HasSec w b g) (k : Int) : (Instr.lookup 101 (.map (some b)) (.int .i64 k) false).run Try.prog w = .ok (secV (g k)) w := by
  obtain ⟨f, h1, _, h3⟩ := h
  rw [h1.lookup Try.underlying101 Try.underlying3 (zero57 w) k, h3]
theorem HasSec.update {w : World} {b : Nat} {g : Int → List Int} (h : HasSec w b g) (k : Int) {xs : List Int} (hx : IsSec xs) :
    ∃ w', (Instr.mapUpdate 101 (.map (some b)) (.int .i64 k) (secV xs)).run Try.prog w = .ok () w' ∧ HasSec w' b (fun i => if i = k then xs else g i) ∧ w.grownBy w' (some b) := by
  obtain ⟨f, h1, h2, h3⟩ := h
  obtain ⟨w', e, h4, h5⟩ := h1.update Try.underlying101 Try.underlying3 k (secV xs)
  refine ⟨w', e, ⟨_, h4, fun i => ?_, fun i => ?_⟩, h5⟩
  · by_cases hi : i = k
    · simp only [hi, if_true]; exact hx
    · simp only [hi, if_false]; exact h2 i
  · by_cases hi : i = k
    · simp only [hi, if_true, Option.getD_some]
    · simp only [hi, if_false]; exact h3 i
theorem HasSec.delete {w : World} {b : Nat} {g : Int → List Int} (h : HasSec w b g) (k : Int) {ts : Array TypeId} (h0 : ts[0]? = some 101) (rt : TypeId) :
    ∃ w', (Builtin.delete_ ts rt #[.map (some b), .int .i64 k]).run Try.prog w = .ok (.tuple #[]) w' ∧ HasSec w' b (fun i => if i = k then z128 else g i) ∧ w.grownBy w' (some b) := by
  obtain ⟨f, h1, h2, h3⟩ := h
  obtain ⟨w', e, h4, h5⟩ := h1.delete (rt := rt) h0 Try.underlying101 Try.underlying3 k
  refine ⟨w', e, ⟨_, h4, fun i => ?_, fun i => ?_⟩, h5⟩
  · by_cases hi : i = k
    · simp only [hi, if_true]; exact isSec_z
    · simp only [hi, if_false]; exact h2 i
  · by_cases hi : i = k
    · simp only [hi, if_true, Option.getD_none]
    · simp only [hi, if_false]; exact h3 i

end Go.Proofs.Ytofgphiamllmdab
