/- Log.mayWrite of one record. -/
import Derived.Test.YtofgphiamllmdabLog
import Derived.Test.YtofgphiamllmdabSmall
namespace Go.Proofs.Ytofgphiamllmdab
open Go.RowKit
set_option maxRecDepth 100000
section
variable {w : World} {lb p : Nat} {life half first since seq hs used : Int}
set_option maxHeartbeats 1000000 in
theorem may_one (hl : w.heap[lb]? = some (logO p life half first since seq hs used false)) (sb n c : Nat) (ga : Option Addr) (hsb : w.heap[sb]? = some (.cells #[.slice ga n c] 38 (0, 0))) (h0 : 0 < n) (h1 : n ≤ 60000) :
    Calls Try.prog 53 #[.pointer (some ⟨lb, 0, none⟩), .slice (some ⟨sb, 0, none⟩) 1 1] w fun e w' => e = .returned (.int .i64 0) ∧ w = w' := by
  obtain ⟨c0, c1, c2, c3, c4, c5, c6, c7, c8, cf⟩ := log_cells hl
  have q0 : w.cell? ⟨sb, 0, none⟩ = some (.slice ga n c) := by rw [cell_of_row _ sb _ _ _ _ hsb]; rfl
  have hse : ∃ k : Int, secs (n : Int) = k ∧ 1 ≤ k := ⟨_, rfl, by unfold secs; rw [if_neg (by omega)]; omega⟩
  obtain ⟨k, hk, hk1⟩ := hse
  have hk0 : ¬ k = 0 := by omega
  go_enter Try.func53, Try.ntmps53
  go_wp2
  refine wp_loop_rounds 2 ?_
  rw [rounds_succ]
  go_wp2_with fail
  refine (sectors_any (n : Int) w).mono ?_
  rintro e w' ⟨rfl, rfl⟩
  rw [hk]
  clear hk
  go_wp2_with fail
  rw [rounds_succ]
  go_wp2
  go_ret
  exact ⟨rfl, rfl⟩
/-- Of no log. -/
theorem may_nil (v : Value) : Calls Try.prog 53 #[.pointer none, v] w fun e w' => e = .returned (.int .i64 2) ∧ w = w' := by
  go_enter Try.func53, Try.ntmps53
  go_wp2
  go_ret
  exact ⟨rfl, rfl⟩
end
end Go.Proofs.Ytofgphiamllmdab
