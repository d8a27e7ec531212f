/- What stands there behind writes; loads of sectors and writes. -/
import Derived.Test.YtofgphiamllmdabFill
namespace Go.Proofs.Ytofgphiamllmdab
open Go.RowKit
set_option maxRecDepth 100000

/-- What stands there behind writes. -/
def appl (G : Int → List Int) (L : List (Int × List Int)) : Int → List Int := L.foldl (fun G q i => if i = q.1 then q.2 else G i) G
theorem appl_snoc (G : Int → List Int) (L : List (Int × List Int)) (q : Int × List Int) : appl G (L ++ [q]) = fun i => if i = q.1 then q.2 else appl G L i := by simp [appl]
theorem appl_nil (G : Int → List Int) : appl G [] = G := rfl

theorem load57 {w : World} {ad : Addr} {ys : List Int} (h : (loadCells ad 128).run Try.prog w = .ok (cellsB ys) w) : (loadVar 105 ad).run Try.prog w = .ok (.agg (cellsB ys)) w := by
  have hi : (Try.prog.info? 105).map (·.size) = some 128 := by kernel_rfl
  cases hq : Try.prog.info? 105 with
  | none => simp [hq] at hi
  | some i =>
    have hs : i.size = 128 := by simpa [hq] using hi
    have hagg : (isAgg 105).run Try.prog w = .ok true w := by
      unfold isAgg
      rw [Sem.run_bind, run_underlying Try.underlying105 w]
      rfl
    simp [loadVar, Sem.run_bind, hagg, sizeOf, typeInfo, hq, hs, h]
theorem run_load57x {a : Act} {w : World} {o : Oper} {x : Operand} {ad : Addr} {ys : List Int} (h1 : a.eval x = .pointer (some ad)) (ho : o.op = .load 105 x) (h : (loadCells ad 128).run Try.prog w = .ok (cellsB ys) w) : (execOp a.eval o).run Try.prog w = .ok (.value (.agg (cellsB ys))) w := by
  simp only [execOp, ho, h1, Instr.loadAt, Instr.sureAddr, Sem.run_bind, Sem.run_pure, Result.andThen_ok, load57 h]
theorem wpList_value {P : Program} {ops : Array Oper} {rest : List Oper} {o : Oper} {a : Act} {w w' : World} {Q : Exit → Act → World → Prop} {v : Value} (hgd : o.guard = none) (hr : (execOp a.eval o).run P w = .ok (.value v) w') (h : wpList P ops Q rest (a.put o.dst v) w') : wpList P ops Q (o :: rest) a w :=
  wpList_plain hgd fun _ hK => wp_value hr (hK _ _ h)
theorem load59 {w : World} {ad : Addr} {C : Array Value} (h : (loadCells ad 129).run Try.prog w = .ok C w) : (loadVar 107 ad).run Try.prog w = .ok (.agg C) w := by
  obtain ⟨i, hq, _, hs, _⟩ := info59
  have hagg : (isAgg 107).run Try.prog w = .ok true w := by
    unfold isAgg
    rw [Sem.run_bind, run_underlying Try.underlying107 w]
    rfl
  simp [loadVar, Sem.run_bind, hagg, sizeOf, typeInfo, hq, hs, h]
theorem run_load59 {a : Act} {w : World} {o : Oper} {x : Operand} {ad : Addr} {C : Array Value} (h1 : a.eval x = .pointer (some ad)) (ho : o.op = .load 107 x) (h : (loadCells ad 129).run Try.prog w = .ok C w) : (execOp a.eval o).run Try.prog w = .ok (.value (.agg C)) w := by
  simp only [execOp, ho, h1, Instr.loadAt, Instr.sureAddr, Sem.run_bind, Sem.run_pure, Result.andThen_ok, load59 h]
theorem zero59 (w : World) : (zeroValue 107).run Try.prog w = .ok (.agg (wcells (0, z128)).toArray) w := by
  obtain ⟨i, hq, hz, hs, _⟩ := info59
  simp [zeroValue, typeInfo, hq, hz]

theorem flat_get : ∀ (L : List (Int × List Int)), (∀ q ∈ L, IsSec q.2) → ∀ (j : Nat) (q : Int × List Int), L[j]? = some q → ∀ i, i < 129 → (L.flatMap wcells)[j * 129 + i]? = (wcells q)[i]?
  | [], _, j, q, h, _, _ => by simp at h
  | p :: r, hs, 0, q, h, i, hi => by
    simp at h
    subst h
    rw [List.flatMap_cons, Nat.zero_mul, Nat.zero_add, List.getElem?_append_left (by rw [wcells_len (hs p (by simp))]; exact hi)]
  | p :: r, hs, j + 1, q, h, i, hi => by
    have hl := wcells_len (hs p (by simp))
    rw [List.flatMap_cons, List.getElem?_append_right (by omega), hl, show (j + 1) * 129 + i - 129 = j * 129 + i by omega]
    exact flat_get r (fun q hq => hs q (by simp [hq])) j q (by simpa using h) i hi
theorem own_load {w : World} {n₀ g n cap : Nat} {L : List (Int × List Int)} (h : w.ownsRow n₀ 107 129 (.slice (some ⟨g, 0, none⟩) n cap) n (L.flatMap wcells)) (hs : ∀ q ∈ L, IsSec q.2) {j : Nat} {q : Int × List Int} (hq : L[j]? = some q) : (loadCells ⟨g, j * 129, none⟩ 129).run Try.prog w = .ok (wcells q).toArray w := by
  have hlen := wcells_len (hs q (List.mem_of_getElem? hq))
  have hr := run_loadCells_list (P := Try.prog) w ⟨g, j * 129, none⟩ (wcells q) (fun i v hi => by
    have hil : i < 129 := by rw [← hlen]; exact (List.getElem?_eq_some_iff.1 hi).1
    have hadd : (⟨g, j * 129, none⟩ : Addr).add i = (⟨g, 0, none⟩ : Addr).add (j * 129 + i) := by unfold Addr.add; split <;> simp_all
    rw [hadd]
    exact World.ownsRow.cells h (g := g) rfl _ _ (by rw [flat_get L hs j q hq i hil]; exact hi))
  rw [hlen] at hr
  exact hr

theorem box_load {w : World} {B : Nat} {q : Int × List Int} (hs : IsSec q.2) (hb : w.heap[B]? = some (.cells (wcells q).toArray 107 (0, 0))) : (loadCells ⟨B, 1, none⟩ 128).run Try.prog w = .ok (cellsB q.2) w := by
  have hr := run_loadCells_list (P := Try.prog) w ⟨B, 1, none⟩ (q.2.map (Value.int .u8)) (fun i v hi => by
    have hadd : (⟨B, 1, none⟩ : Addr).add i = ⟨B, i + 1, none⟩ := by unfold Addr.add; split <;> simp_all <;> omega
    rw [hadd, cell_of_row w B (i + 1) _ _ _ hb]
    simpa [wcells] using hi)
  rw [List.length_map, hs.len] at hr
  exact hr
theorem box_at {w : World} {B : Nat} {q : Int × List Int} (hb : w.heap[B]? = some (.cells (wcells q).toArray 107 (0, 0))) : w.cell? ⟨B, 0, none⟩ = some (.int .i64 q.1) := by
  rw [cell_of_row w B 0 _ _ _ hb]
  rfl
end Go.Proofs.Ytofgphiamllmdab
