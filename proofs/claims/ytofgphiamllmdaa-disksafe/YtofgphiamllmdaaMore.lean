/- Count; Fail; calls on a device that is dead; places that are not there. -/
import Derived.Test.YtofgphiamllmdaaWrite
namespace Go.Proofs.Ytofgphiamllmdaa
open Go.RowKit

set_option maxHeartbeats 1000000 in
theorem count_any (k : Int) (n : Nat) (h1 : 1 ≤ n) (h2 : n ≤ 1000000) (w : World) :
    Calls Try.prog 11 #[.int .i64 k, .int .i64 (n : Int)] w fun e w' => (∃ r : Nat, r < n ∧ e = .returned (.int .i64 (r : Int))) ∧ w = w' := by
  have ha := Int.tmod_lt_of_pos k (show (0 : Int) < n by omega)
  have hb := Int.lt_tmod_of_pos k (show (0 : Int) < n by omega)
  have hlt : ¬ (n : Int) < 1 := by omega
  have hn0 : ¬ (n : Int) = 0 := by omega
  have hw0 : IntKind.i64.wrap (k.tmod n) = k.tmod n := by rw [IntKind.wrap_i64]; omega
  have hw1 : IntKind.i64.wrap (k.tmod n + n) = k.tmod n + n := by rw [IntKind.wrap_i64]; omega
  go_enter Try.func11, Try.ntmps11
  by_cases hneg : k.tmod n < 0
  · go_wp2
    go_ret
    exact ⟨⟨(k.tmod n + n).toNat, by omega, by rw [Int.toNat_of_nonneg (by omega)]; rfl⟩, rfl⟩
  · go_wp2
    go_ret
    exact ⟨⟨(k.tmod n).toNat, by omega, by rw [Int.toNat_of_nonneg (by omega)]; rfl⟩, rfl⟩

section
variable {w : World} {n₀ p bs bn : Nat} {pv : Value} {size : Int} {G0 G1 : Int → List Int} {L : List (Int × List Int)} {left : Int} {dead : Bool}
set_option maxHeartbeats 1000000 in
theorem fail_any (h : Dev w n₀ p bs bn pv size G0 G1 L left dead) (n : Int) (hn : 0 ≤ n) :
    Calls Try.prog 18 #[.pointer (some ⟨p, 0, none⟩), .int .i64 n] w fun e w' => e = .returned (.tuple #[]) ∧ Dev w' n₀ p bs bn pv size G0 G1 L n dead ∧ Fr p bs bn w pv w' pv := by
  obtain ⟨d0, d1, d2, d3, d4, d5, df⟩ := dev_cells h.obj
  have hO := devO_left h.obj n
  by_cases h0 : n = 0
  · subst h0
    go_enter Try.func18, Try.ntmps18
    go_wp2
    go_end0
    exact ⟨rfl, h.set hO, Fr.set _ _ _ _⟩
  · have h1 : 0 < n := by omega
    go_enter Try.func18, Try.ntmps18
    go_wp2
    go_end0
    exact ⟨rfl, h.set hO, Fr.set _ _ _ _⟩
set_option maxHeartbeats 1000000 in
theorem flush_dead (h : Dev w n₀ p bs bn pv size G0 G1 L left true) : Calls Try.prog 12 #[.pointer (some ⟨p, 0, none⟩)] w fun e w' => e = .returned (.int .i64 14) ∧ w = w' := by
  obtain ⟨d0, d1, d2, d3, d4, d5, df⟩ := dev_cells h.obj
  go_enter Try.func12, Try.ntmps12
  go_wp2
  go_ret
  exact ⟨rfl, rfl⟩
set_option maxRecDepth 100000 in
set_option maxHeartbeats 1000000 in
theorem read_dead (h : Dev w n₀ p bs bn pv size G0 G1 L left true) (hs : 0 ≤ size) (hs1 : size ≤ 4096) (at' : Int) (n : Nat) (h0 : 0 ≤ at') (h1 : at' + n ≤ size) :
    Calls Try.prog 13 #[.pointer (some ⟨p, 0, none⟩), .int .i64 at', .int .i64 (n : Int)] w fun e w' => e = .returned (.tuple #[.slice none 0 0, .int .i64 14]) ∧ w = w' := by
  obtain ⟨d0, d1, d2, d3, d4, d5, df⟩ := dev_cells h.obj
  have hlt : ¬ (max 0 (size - at') < (n : Int)) := by omega
  go_enter Try.func13, Try.ntmps13
  go_wp2_with fail
  refine (from_any h hs hs1 at' h0 (by omega)).mono ?_
  rintro e w' ⟨rfl, rfl⟩
  go_wp2
  exact bodyPost_ret (v := .tuple #[.slice none 0 0, .int .i64 14]) (by simp [results, Try.results13, go_sem]) rfl ⟨rfl, rfl⟩
end
end Go.Proofs.Ytofgphiamllmdaa
