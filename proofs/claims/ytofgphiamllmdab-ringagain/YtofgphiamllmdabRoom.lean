/- Log.Room, Life, Seq; calls on no log, no device; a Write that goes well. -/
import Derived.Test.YtofgphiamllmdabTake
import Derived.Test.YtofgphiamllmdabMay
import Derived.BigQuiet
import Derived.Deep.QuietTactic
namespace Go.Proofs.Ytofgphiamllmdab
open Go.RowKit
set_option maxRecDepth 100000
section
variable {w : World} {lb p : Nat} {life half first since seq hs used : Int} {failed : Bool}
set_option maxHeartbeats 1000000 in
theorem room_any (h : w.heap[lb]? = some (logO p life half first since seq hs used failed)) (h0 : 0 ≤ hs) (h1 : hs ≤ 100000) (h2 : 0 ≤ used) (h3 : used ≤ 100000) :
    Calls Try.prog 34 #[.pointer (some ⟨lb, 0, none⟩)] w fun e w' => e = .returned (.int .i64 (hs - used)) ∧ ∃ n, w' = w.drewN n := by
  obtain ⟨c0, c1, c2, c3, c4, c5, c6, c7, c8, cf⟩ := log_cells h
  have hw : IntKind.i64.wrap (hs - used) = hs - used := by rw [IntKind.wrap_i64]; omega
  go_enter Try.func34, Try.ntmps34
  go_upto_region 3 with fail
  go_quiet (fail)
  go_wp2
  go_ret
  exact ⟨rfl, _, rfl⟩
theorem room_nil : Calls Try.prog 34 #[.pointer none] w fun e w' => e = .returned (.int .i64 0) ∧ w = w' := by
  go_enter Try.func34, Try.ntmps34
  go_wp2
  go_ret
  exact ⟨rfl, rfl⟩
theorem life_nil : Calls Try.prog 36 #[.pointer none] w fun e w' => e = .returned (.int .i64 0) ∧ w = w' := by
  go_enter Try.func36, Try.ntmps36
  go_wp2
  go_ret
  exact ⟨rfl, rfl⟩
theorem seq_nil : Calls Try.prog 37 #[.pointer none] w fun e w' => e = .returned (.int .i64 0) ∧ w = w' := by
  go_enter Try.func37, Try.ntmps37
  go_wp2
  go_ret
  exact ⟨rfl, rfl⟩
theorem check_nil : Calls Try.prog 45 #[.pointer none] w fun e w' => e = .returned (.int .i64 2) ∧ w = w' := by
  go_enter Try.func45, Try.ntmps45
  go_wp2
  go_ret
  exact ⟨rfl, rfl⟩
theorem format_nil : Calls Try.prog 11 #[.pointer none] w fun e w' => e = .returned (.int .i64 2) ∧ w = w' := by
  go_enter Try.func11, Try.ntmps11
  go_wp2_with fail
  refine check_nil.mono ?_
  rintro e w1 ⟨rfl, rfl⟩
  go_wp2
  go_ret
  exact ⟨rfl, rfl⟩
theorem open_nil : Calls Try.prog 42 #[.pointer none] w fun e w' => e = .returned (.tuple #[.pointer none, .slice none 0 0, .int .i64 2]) ∧ w = w' := by
  go_enter Try.func42, Try.ntmps42
  go_wp2_with fail
  refine check_nil.mono ?_
  rintro e w1 ⟨rfl, rfl⟩
  go_wp2
  exact bodyPost_ret (v := .tuple #[.pointer none, .slice none 0 0, .int .i64 2]) (by simp [results, Try.results42, go_sem]) rfl ⟨rfl, rfl⟩
theorem append_nil (v : Value) (a : Option Addr) (n c : Nat) (hv : v = .slice a n c) : Calls Try.prog 16 #[.pointer none, v] w fun e w' => e = .returned (.int .i64 2) ∧ Below w.heap.size w w' := by
  subst hv
  go_enter Try.func16, Try.ntmps16
  go_wp2_with fail
  refine (may_nil _).mono ?_
  rintro e w1 ⟨rfl, rfl⟩
  go_wp2
  go_ret
  exact ⟨rfl, box_below _ _⟩
theorem rewrite_nil : Calls Try.prog 22 #[.pointer none, .slice none 0 0] w fun e w' => e = .returned (.int .i64 2) ∧ w = w' := by
  go_enter Try.func22, Try.ntmps22
  go_wp2_with fail
  refine (may_nil _).mono ?_
  rintro e w1 ⟨rfl, rfl⟩
  go_wp2
  go_ret
  exact ⟨rfl, rfl⟩
end
section
variable {w : World} {n₀ p bs bn : Nat} {pv : Value} {size : Int} {G0 G1 : Int → List Int} {L : List (Int × List Int)}
theorem Write_ok (D : Dev w n₀ p bs bn pv size G0 G1 L 0 false) (hs1 : size ≤ 4096) (at' : Int) (h0 : 0 ≤ at') (gb off cap m : Nat) (hm : 128 * m ≤ cap) (hc : cap ≤ maxLen) (hm0 : 0 < m) (hsz : at' + m ≤ size) (xs : List Int) (hxl : xs.length = 128 * m) (hx : Bytes w gb off xs)
    (hg0 : gb < w.heap.size) (hg1 : gb ≠ p) (hg2 : gb ≠ bs) (hg3 : gb ≠ bn) (hg4 : pv.ownBlock ≠ some gb) (hL : L.length ≤ 999990000) :
    Calls Try.prog 29 #[.pointer (some ⟨p, 0, none⟩), .int .i64 at', .slice (some ⟨gb, off, none⟩) (128 * m) cap] w fun e w' => e = .returned (.int .i64 0) ∧ ∃ pv', Dev w' n₀ p bs bn pv' size G0 (appl G1 (wsP at' xs (List.finRange m))) (L ++ wsP at' xs (List.finRange m)) 0 false ∧ Fr p bs bn w pv w' pv' := by
  refine (Write_some D hs1 at' h0 gb off cap m hm hc hm0 hsz xs hxl hx hg0 hg1 hg2 hg3 hg4 (by decide) (by decide) hL).mono ?_
  rintro e w1 (⟨rfl, _, _, pv1, D1, F1⟩ | ⟨rfl, j, hj, hd, _⟩)
  · have em : max 0 ((0 : Int) - ((List.finRange m).length : Int)) = 0 := by omega
    rw [em] at D1
    exact ⟨rfl, pv1, D1, F1⟩
  · exfalso
    rcases hd with ⟨hd, _⟩ | ⟨_, hd⟩
    · cases hd
    · omega
end
end Go.Proofs.Ytofgphiamllmdab
