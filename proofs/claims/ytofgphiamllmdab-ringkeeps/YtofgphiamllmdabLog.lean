/- A log in memory: start, told; a head's place. -/
import Derived.Test.YtofgphiamllmdabHead
namespace Go.Proofs.Ytofgphiamllmdab
open Go.RowKit
set_option maxRecDepth 100000

/-- A log's cells. -/
def logO (p : Nat) (life half first since seq hs used : Int) (failed : Bool) : Obj := .cells #[.pointer (some ⟨p, 0, none⟩), .int .i64 life, .int .i64 half, .int .i64 first, .int .i64 since, .int .i64 seq, .int .i64 hs, .int .i64 used, .bool failed] 89 (0, 0)
theorem log_cells {w : World} {b p : Nat} {life half first since seq hs used : Int} {failed : Bool} (h : w.heap[b]? = some (logO p life half first since seq hs used failed)) :
    w.cell? ⟨b, 0, none⟩ = some (.pointer (some ⟨p, 0, none⟩)) ∧ w.cell? ⟨b, 1, none⟩ = some (.int .i64 life) ∧ w.cell? ⟨b, 2, none⟩ = some (.int .i64 half) ∧ w.cell? ⟨b, 3, none⟩ = some (.int .i64 first) ∧ w.cell? ⟨b, 4, none⟩ = some (.int .i64 since) ∧ w.cell? ⟨b, 5, none⟩ = some (.int .i64 seq) ∧ w.cell? ⟨b, 6, none⟩ = some (.int .i64 hs) ∧ w.cell? ⟨b, 7, none⟩ = some (.int .i64 used) ∧ w.cell? ⟨b, 8, none⟩ = some (.bool failed) ∧ ∀ i, w.frozen? ⟨b, i, none⟩ = false := by
  unfold logO at h
  refine ⟨?_, ?_, ?_, ?_, ?_, ?_, ?_, ?_, ?_, fun i => frozen_of_row w b i _ _ h⟩ <;> (rw [cell_of_row w b _ _ _ _ h]; rfl)
section
variable {w : World} {b p : Nat} {life half first since seq hs used : Int} {failed : Bool}
set_option maxHeartbeats 1000000 in
theorem start_any (h : w.heap[b]? = some (logO p life half first since seq hs used failed)) (k : Int) (hk : k = 0 ∨ k = 1) (h0 : 0 ≤ hs) (h1 : hs ≤ 100000) :
    Calls Try.prog 55 #[.pointer (some ⟨b, 0, none⟩), .int .i64 k] w fun e w' => e = .returned (.int .i64 (2 + k * hs)) ∧ w = w' := by
  obtain ⟨c0, c1, c2, c3, c4, c5, c6, c7, c8, cf⟩ := log_cells h
  have hw1 : IntKind.i64.wrap (k * hs) = k * hs := by rcases hk with rfl | rfl <;> (rw [IntKind.wrap_i64]; omega)
  have hw2 : IntKind.i64.wrap (2 + k * hs) = 2 + k * hs := by rcases hk with rfl | rfl <;> (rw [IntKind.wrap_i64]; omega)
  go_enter Try.func55, Try.ntmps55
  go_wp2
  go_ret
  exact ⟨rfl, rfl⟩
set_option maxHeartbeats 1000000 in
theorem told_other (v : Value) (e : Int) (he : e ≠ 14) : Calls Try.prog 83 #[v, .int .i64 e] w fun r w' => r = .returned (.int .i64 e) ∧ w = w' := by
  go_enter Try.func83, Try.ntmps83
  go_wp2
  go_ret
  exact ⟨rfl, rfl⟩
set_option maxHeartbeats 1000000 in
theorem told_dead (h : w.heap[b]? = some (logO p life half first since seq hs used failed)) : Calls Try.prog 83 #[.pointer (some ⟨b, 0, none⟩), .int .i64 14] w fun r w' => r = .returned (.int .i64 14) ∧ w' = w.setCell ⟨b, 8, none⟩ (.bool true) := by
  obtain ⟨c0, c1, c2, c3, c4, c5, c6, c7, c8, cf⟩ := log_cells h
  go_enter Try.func83, Try.ntmps83
  go_wp2
  go_ret
  exact ⟨rfl, rfl⟩
end
set_option maxHeartbeats 1000000 in
theorem place_any (w : World) (life half first since : Int) (h0 : 0 ≤ life) : Calls Try.prog 85 #[.agg #[.int .i64 life, .int .i64 half, .int .i64 first, .int .i64 since]] w fun e w' => e = .returned (.int .i64 (life % 2)) ∧ Below w.heap.size w w' := by
  have hm : life.tmod 2 = life % 2 := Int.tmod_eq_emod_of_nonneg h0
  have hw : IntKind.i64.wrap (life % 2) = life % 2 := by rw [IntKind.wrap_i64]; omega
  go_enter Try.func85, Try.ntmps85
  go_wp2
  go_ret
  exact ⟨rfl, box_below w _⟩
end Go.Proofs.Ytofgphiamllmdab
