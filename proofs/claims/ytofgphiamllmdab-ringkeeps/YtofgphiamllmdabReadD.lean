/- Disk.Read. -/
import Derived.Test.YtofgphiamllmdabRead
namespace Go.Proofs.Ytofgphiamllmdab
open Go.RowKit
set_option maxRecDepth 100000

section
variable {w : World} {n₀ p bs bn : Nat} {pv : Value} {size : Int} {G0 G1 : Int → List Int} {L : List (Int × List Int)} {left : Int} {dead : Bool}
set_option maxRecDepth 100000 in
set_option maxHeartbeats 1000000 in
theorem Read_some (h : Dev w n₀ p bs bn pv size G0 G1 L left false) (hs : 0 ≤ size) (hs1 : size ≤ 4096) (at' : Int) (n : Nat) (h0 : 0 ≤ at') (h1 : at' + n ≤ size) :
    Calls Try.prog 31 #[.pointer (some ⟨p, 0, none⟩), .int .i64 at', .int .i64 (n : Int)] w fun e w' => e = .returned (.tuple #[.slice (some ⟨w.heap.size, 0, none⟩) (n * 128) (n * 128), .int .i64 0]) ∧ w'.heap[w.heap.size]? = some (.cells (cellsB (catS G1 at' n)) 5 (0, 0)) ∧ w.grownBy w' none := by
  obtain ⟨d0, d1, d2, d3, d4, d5, df⟩ := dev_cells h.obj
  have hlt : ¬ (max 0 (size - at') < (n : Int)) := by omega
  go_enter Try.func31, Try.ntmps31
  go_wp2_with fail
  refine (from_any h hs hs1 at' h0 (by omega)).mono ?_
  rintro e w' ⟨rfl, rfl⟩
  go_wp2_with fail
  refine (read_any h.now at' n h0 (by omega) (by omega)).mono ?_
  rintro e w' ⟨rfl, hb, hg⟩
  go_wp2
  exact bodyPost_ret (v := .tuple #[.slice (some ⟨w.heap.size, 0, none⟩) (n * 128) (n * 128), .int .i64 0]) (by simp [results, Try.results31, go_sem]) rfl ⟨rfl, hb, hg⟩
end
end Go.Proofs.Ytofgphiamllmdab
