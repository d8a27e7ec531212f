/- The ring's small functions: Sectors, counts, check. -/
import Derived.Test.YtofgphiamllmdabFull
namespace Go.Proofs.Ytofgphiamllmdab
open Go.RowKit
set_option maxRecDepth 100000

/-- How many sectors a record takes. -/
def secs (n : Int) : Int := if n < 1 ∨ 60000 < n then 0 else (n + 111) / 112
set_option maxHeartbeats 1000000 in
theorem sectors_any (n : Int) (w : World) : Calls Try.prog 39 #[.int .i64 n] w fun e w' => e = .returned (.int .i64 (secs n)) ∧ w = w' := by
  by_cases h1 : n < 1
  · have hs : secs n = 0 := if_pos (.inl h1)
    rw [hs]
    go_enter Try.func39, Try.ntmps39
    go_wp2
    go_ret
    exact ⟨rfl, rfl⟩
  · by_cases h2 : 60000 < n
    · have hs : secs n = 0 := if_pos (.inr h2)
      rw [hs]
      go_enter Try.func39, Try.ntmps39
      go_wp2
      go_ret
      exact ⟨rfl, rfl⟩
    · have hs : secs n = (n + 112 - 1) / 112 := by
        unfold secs
        rw [if_neg (by omega)]
        omega
      have hw1 : IntKind.i64.wrap (n + 112) = n + 112 := by rw [IntKind.wrap_i64]; omega
      have hw2 : IntKind.i64.wrap (n + 111) = n + 111 := by rw [IntKind.wrap_i64]; omega
      have hw3 : IntKind.i64.wrap (n + 112 - 1) = n + 112 - 1 := by rw [IntKind.wrap_i64]; omega
      have hd : (n + 112 - 1).tdiv 112 = (n + 112 - 1) / 112 := Int.tdiv_eq_ediv_of_nonneg (by omega)
      have hw4 : IntKind.i64.wrap ((n + 112 - 1) / 112) = (n + 112 - 1) / 112 := by rw [IntKind.wrap_i64]; omega
      rw [hs]
      clear hs
      go_enter Try.func39, Try.ntmps39
      go_wp2
      go_ret
      exact ⟨rfl, rfl⟩
set_option maxHeartbeats 1000000 in
theorem counts_true (n : Int) (h1 : 1 ≤ n) (h2 : n ≤ 1099511627776) (w : World) : Calls Try.prog 92 #[.int .i64 n] w fun e w' => e = .returned (.bool true) ∧ w = w' := by
  go_enter Try.func92, Try.ntmps92
  go_wp2
  go_ret
  exact ⟨rfl, rfl⟩
set_option maxHeartbeats 1000000 in
theorem check_ok {w : World} {n₀ p bs bn : Nat} {pv : Value} {size : Int} {G0 G1 : Int → List Int} {L : List (Int × List Int)} {left : Int} {dead : Bool} (h : Dev w n₀ p bs bn pv size G0 G1 L left dead) (hs : 4 ≤ size) :
    Calls Try.prog 45 #[.pointer (some ⟨p, 0, none⟩)] w fun e w' => e = .returned (.int .i64 0) ∧ w = w' := by
  have hlt : ¬ size < 4 := by omega
  go_enter Try.func45, Try.ntmps45
  go_wp2_with fail
  refine (size_any h).mono ?_
  rintro e w' ⟨rfl, rfl⟩
  go_wp2
  go_ret
  exact ⟨rfl, rfl⟩
end Go.Proofs.Ytofgphiamllmdab
