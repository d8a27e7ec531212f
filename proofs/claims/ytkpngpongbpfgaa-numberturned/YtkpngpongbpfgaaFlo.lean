/- Floats by their bits. -/
import Derived.Test.YtkpngpongbpfgaaRows
import Derived.WalkKit
import Derived.WalkSpells
import Derived.WalkLawsBesides
import Derived.Lib.BitFns
import Derived.Laws.Cover3
import Derived.Laws.FloatArith
namespace Go.Proofs.Ytkpngpongbpfgaa
open Go.RowKit
set_option maxRecDepth 100000
theorem run_f64bits (w : World) (x : Nat) : (callFunc 69 #[.float .f64 x]).run Try.prog w = .ok (.value (.int .u64 (x : Int))) w := by
  rw [run_callFunc_extern Try.func69 (by kernel_rfl) (by kernel_rfl) (by kernel_rfl) (e := Extern.MathFloatBits.float64bits) (by kernel_rfl)]
  rfl
theorem run_f64from (w : World) (n : Int) : (callFunc 43 #[.int .u64 n]).run Try.prog w = .ok (.value (.float .f64 n.toNat)) w := by
  rw [run_callFunc_extern Try.func43 (by kernel_rfl) (by kernel_rfl) (by kernel_rfl) (e := Extern.MathFloatBits.float64frombits) (by kernel_rfl)]
  rfl
theorem plus_any (x : Nat) (w : World) : Calls Try.prog 45 #[.float .f64 x] w fun e w' => e = .returned (.bool (decide (x = 0))) ∧ w = w' := by
  have hb := fun w => run_f64bits w x
  have e0 : Hid (((x : Int) == 0) = decide (x = 0)) := by
    show _ = _
    by_cases h : x = 0 <;> simp [h]
  go_enter Try.func45, Try.ntmps45
  go_wp2
  go_ret
  exact ⟨by rw [← e0.out]; rfl, rfl⟩
/-- Is it a NaN? -/
def nanB (x : Nat) : Bool := FloatKind.f64.format.order x x != some .eq
def bitsB (x y : Nat) : Bool := if nanB x = true ∨ nanB y = true then nanB x && nanB y else decide (x = y)
set_option maxHeartbeats 1000000 in
theorem bits_any (x y : Nat) (w : World) : Calls Try.prog 68 #[.float .f64 x, .float .f64 y] w fun e w' => e = .returned (.bool (bitsB x y)) ∧ Below w.heap.size w w' := by
  have hb1 := fun w => run_f64bits w x
  have hb2 := fun w => run_f64bits w y
  have e0 : Hid (((x : Int) == (y : Int)) = decide (x = y)) := by
    show _ = _
    by_cases h : x = y
    · simp [h]
    · rw [decide_eq_false h]; simp; omega
  unfold bitsB
  cases h1 : nanB x <;> cases h2 : nanB y
  · unfold nanB at h1 h2
    go_enter Try.func68, Try.ntmps68
    go_wp2
    go_ret
    exact ⟨by rw [← e0.out]; rfl, Below.refl _ _⟩
  · unfold nanB at h1 h2
    go_enter Try.func68, Try.ntmps68
    go_wp2
    go_ret
    exact ⟨rfl, Below.refl _ _⟩
  · unfold nanB at h1 h2
    go_enter Try.func68, Try.ntmps68
    go_wp2
    go_ret
    exact ⟨rfl, Below.refl _ _⟩
  · unfold nanB at h1 h2
    go_enter Try.func68, Try.ntmps68
    go_wp2
    go_ret
    exact ⟨rfl, Below.refl _ _⟩
end Go.Proofs.Ytkpngpongbpfgaa
