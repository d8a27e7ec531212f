/- A write as a value and as a slice of one. -/
import Derived.Test.YtofgphiamllmdabApp
import Derived.Great.BuildSlice
namespace Go.Proofs.Ytofgphiamllmdab
open Go.RowKit
set_option maxRecDepth 100000

theorem fold_all (k : Nat) : ∀ (ys : List Value) (A : List Value) (j : Nat), k + j + ys.length ≤ A.length → (ys.zipIdx j).foldl (fun cs x => cs.setIfInBounds (k + x.2) x.1) A.toArray = (A.take (k + j) ++ (ys ++ A.drop (k + j + ys.length))).toArray
  | [], A, j, _ => by simp
  | y :: ys, A, j, h => by
    simp only [List.length_cons] at h
    rw [List.zipIdx_cons, List.foldl_cons]
    have e : (A.toArray.setIfInBounds (k + j) y) = (A.set (k + j) y).toArray := by simp
    simp only [e]
    rw [fold_all k ys (A.set (k + j) y) (j + 1) (by simp; omega)]
    congr 1
    have h1 : k + j < A.length := by omega
    rw [show k + (j + 1) = k + j + 1 by omega, List.take_set, List.drop_set_of_lt (by omega)]
    rw [List.take_succ_eq_append_getElem h1, List.set_append_right _ _ (by simp; omega)]
    simp [show min (k + j) A.length = k + j by omega]
    congr 1
    omega
theorem fill_one {place : Nat → Option (Nat × Nat)} {A : List Value} {v : Value} {i off size : Nat} {rest : List (Nat × Value)} (hp : place i = some (off, size)) (hs : v.cells.size = size) (hf : off + size ≤ A.length) :
    Instr.fill place A.toArray ((i, v) :: rest) = Instr.fill place (A.take off ++ (v.cells.toList ++ A.drop (off + size))).toArray rest := by
  conv => lhs; unfold Instr.fill
  simp only [hp]
  rw [if_neg (by simp [hs]; omega)]
  have e := fold_all off v.cells.toList A 0 (by simp [hs]; omega)
  simp only [Nat.add_zero, Array.length_toList, hs] at e
  rw [← e]
  congr 1
  rw [← Array.foldl_toList]
  simp

theorem built59 (at' : Int) {xs : List Int} (hx : IsSec xs) : Try.prog.built 107 [(0, .int .i64 at'), (1, .agg (cellsB xs))] = some (wcells (at', xs)).toArray := by
  obtain ⟨i, hi, hz, hs, hb⟩ := info59
  have h3 : (Try.prog.info? 3).map (·.size) = some 1 := by kernel_rfl
  have h57 : (Try.prog.info? 105).map (·.size) = some 128 := by kernel_rfl
  cases q3 : Try.prog.info? 3 with
  | none => rw [q3] at h3; cases h3
  | some i3 =>
    cases q57 : Try.prog.info? 105 with
    | none => rw [q57] at h57; cases h57
    | some i57 =>
      rw [q3] at h3
      rw [q57] at h57
      simp only [Option.map_some, Option.some.injEq] at h3 h57
      simp [Program.built, hi, Try.underlying107, hz, q3, q57, h3, h57]
      have z1 : (Value.agg (wcells (0, z128)).toArray).cells = (wcells (0, z128)).toArray := rfl
      have l0 : (wcells (0, z128)).length = 129 := wcells_len isSec_z
      rw [z1, fill_one (off := 0) (size := 1) rfl rfl (by rw [l0]; decide), fill_one (off := 1) (size := 128) rfl (by simp [Value.cells, cellsB_size, hx.len]) (by simp [Value.cells, l0])]
      unfold Instr.fill
      congr 1
      simp [Value.cells, wcells, cellsB, z128]
theorem run_build59 {a : Act} {w : World} {o : Oper} {at' : Int} {xs : List Int} (h1 : a.eval (.tmp 40) = .int .i64 at') (h2 : a.eval (.tmp 41) = .agg (cellsB xs)) (hx : IsSec xs) (ho : o.op = .build 107 #[(0, .tmp 40), (1, .tmp 41)]) : (execOp a.eval o).run Try.prog w = .ok (.value (.agg (wcells (at', xs)).toArray)) w := by
  have hb := run_build w 107 #[(0, .int .i64 at'), (1, .agg (cellsB xs))] _ (built59 at' hx)
  simp only [execOp, ho, List.map_toArray, List.map_cons, List.map_nil, h1, h2, Sem.run_bind, hb, Result.andThen_ok]
  rfl
theorem range_zero : ((Array.range 129).map ((wcells (0, z128)).toArray[· % (wcells (0, z128)).toArray.size]!)) = (wcells (0, z128)).toArray := by kernel_rfl
theorem run_slice59 {a : Act} {w : World} {o : Oper} {at' : Int} {xs : List Int} (h1 : a.eval (.tmp 42) = .agg (wcells (at', xs)).toArray) (hx : IsSec xs) (ho : o.op = .buildSlice 102 1 #[(0, .tmp 42)]) : (execOp a.eval o).run Try.prog w = .ok (.value (.slice (some ⟨w.heap.size, 0, none⟩) 1 1)) (w.alloc (.cells (wcells (at', xs)).toArray 107)) := by
  obtain ⟨i, hi, hz, hs, hb⟩ := info59
  have l0 : (wcells (0, z128)).length = 129 := wcells_len isSec_z
  have l1 : (wcells (at', xs)).length = 129 := wcells_len hx
  have hf : Instr.fill (fun j => some (j * i.size, i.size)) ((Array.range (1 * i.size)).map ((Value.agg (wcells (0, z128)).toArray).cells[· % (Value.agg (wcells (0, z128)).toArray).cells.size]!)) (#[(0, Value.agg (wcells (at', xs)).toArray)] : Array (Nat × Value)).toList = some (wcells (at', xs)).toArray := by
    rw [hs]
    have z1 : (Value.agg (wcells (0, z128)).toArray).cells = (wcells (0, z128)).toArray := rfl
    rw [z1, Nat.one_mul, range_zero, fill_one (off := 0) (size := 129) rfl (by simp [Value.cells, l1]) (by rw [l0]; decide)]
    unfold Instr.fill
    simp [Value.cells, l0]
  have hr := run_buildSlice w 102 107 1 #[(0, .agg (wcells (at', xs)).toArray)] _ i _ Try.underlying102 hi hz (by rw [hs]; decide) (by rw [hs]; decide) hf
  simp only [execOp, ho, List.map_toArray, List.map_cons, List.map_nil, h1, Sem.run_bind, hr, Result.andThen_ok]
  rfl
end Go.Proofs.Ytofgphiamllmdab
