/- For every int n and every list acts of acts, lapidarylaw04.RingKeeps(n, acts) returns true (behind any failing writes and crashes, whatever of the writes that are not safe stays, all records that were said to be there are there, in order, and at most the one that was being written; of a rewriting the old ones, or all the new ones; and the fixed calls on a device of ten sectors come out as known), and each argument reads afterwards as it read before; no condition. -/
import Derived.Test.YtofgphiamllmdabRows
import Derived.Test.YtofgphiamllmdabPlayC
import Derived.WalkKit
import Derived.ProofKit
import Derived.OpenShut
import Derived.ShutString
import Derived.SizedLaws
import Derived.ChangeOld
import Derived.Below
namespace Go.Proofs.Ytofgphiamllmdab
open Go.RowKit
set_option maxRecDepth 100000
set_option maxHeartbeats 8000000 in
theorem ringKeeps_law (w : World) (n : Int) (sa : Option Addr) (len cap : Nat) (ha : ActsR w sa len) : Calls Try.prog 5 #[.int .i64 n, .slice sa len cap] w fun e w' => e = .returned (.bool true) ∧ Below w.heap.size w w' := by
  go_enter Try.func5, Try.ntmps5
  go_wp2_with fail
  refine (count_any n 40 (by decide) (by decide) w).mono ?_
  rintro e wq ⟨⟨r, hr, rfl⟩, rfl⟩
  have hwr : IntKind.i64.wrap (8 + (r : Int)) = ((8 + r : Nat) : Int) := by rw [IntKind.wrap_i64]; omega
  obtain ⟨S, hS⟩ : ∃ S, Hid (8 + r = S) := ⟨_, rfl⟩
  have hS0 : 8 ≤ S := by have := hS.out; omega
  have hS1 : S ≤ 100 := by have := hS.out; omega
  rw [hS.out] at hwr
  clear hS
  go_wp2_with fail
  refine (play_any w S hS0 hS1 sa len cap ha).mono ?_
  rintro e w1 ⟨sb, p, bs, bn, lb, hs, rs, sv, mv, rfl, _, T, _⟩
  have B1 := T.B
  clear T
  go_wp2_with fail
  refine (known_true w1).mono ?_
  rintro e w2 ⟨rfl, B2⟩
  have B3 := below_size B1 (Nat.le_refl _) B2
  clear B1 B2
  go_wp2
  go_ret
  exact ⟨rfl, B3⟩
end Go.Proofs.Ytofgphiamllmdab
namespace Go.Proofs.Ytofgphiamllmdab.ringKeeps
open Go.ChangeShapes Go.WideShapes Go.ChangeAt Go.RowKit
open Go.ChangeMaps (open_string shut_string)
set_option linter.unusedVariables false

theorem own : ownKnob Try.prog.godebug = none := by kernel_rfl
theorem laidOut : laidOutB Try.prog = true := by kernel_rfl

set_option maxRecDepth 100000 in
theorem lifted (os : Os) (started : os.Started) (H : Type) (enc : TypeId × Value → H) :
    ReturnsInHanded {} Try.checked os 5 .any (Rows.ringKeepsSpec.pre6 enc Try.prog Try.f5 Rows.ringKeepsRow.domain false) (Rows.ringKeepsSpec.post enc Try.prog Try.f5 false true false false) := by
  refine returnsInHanded_of_change_sized (C := Try.checked) own started (by kernel_rfl) Try.func5
    (ChangeSpec.witness6 (enc := enc) (C := Try.checked) false ⟨#[], #[.int .i64 0, .slice none 0 0], []⟩ 8 (by kernel_rfl) (by kernel_rfl) (by kernel_rfl) (by kernel_rfl)) ?_
  intro W base args ds gs before hval0 hW hcnd hsz0 _
  have hval : ∀ (j : Nat) t v, Try.f5.params[j]? = some t → args[j]? = some v → Value.okWide Try.prog W .any base t v := hval0
  clear hsz0
  have hW' := hW
  obtain ⟨p, q, hA0, hV, rfl, hfz, hnd⟩ := hW
  have hA : DataW.TrodAll enc Try.prog W 0 (fun _ => true) true Try.f5.params.toList args.toList ds p := hA0
  rw [Try.params5] at hA hval
  obtain ⟨v0, vs0, d0, ds0, p0, q0, hargs, rfl, rfl, h0, r0⟩ := trodAll_cons hA
  obtain ⟨v1, vs1, d1, ds1, p1, q1, rfl, rfl, rfl, h1, r1⟩ := trodAll_cons r0
  obtain ⟨rfl, rfl, rfl⟩ := trodAll_nil r1
  obtain rfl : args = #[v0, v1] := by cases args; simp_all
  obtain ⟨rfl, rfl⟩ := trodVars_none hV
  obtain ⟨a0, rfl, rfl, rfl, w0⟩ := open_int Try.underlying3 (hval 0 3 v0 rfl rfl) h0
  obtain ⟨a1, len1, cap1, rfl⟩ := okWide_slice Try.underlying22 (hval 1 22 v1 rfl rfl)
  have k1 := h1
  have lt1 : ∀ x ∈ p1, x.block < W.heap.size := by obtain ⟨m, hm⟩ := k1; exact DataW.trod_lt m _ _ _ hm
  have A1 : ActsR W a1 len1 := by
    obtain ⟨fuel, hf⟩ := h1
    exact open_actsX hf
  clear hA0 hval0
  refine (ringKeeps_law W a0 a1 len1 cap1 A1).mono fun e W' ⟨he, bel⟩ => ?_
  subst he
  exact ⟨_, rfl, _, _, _, [], _, [], hW', trodAll_mk1 (shut_bool Try.underlying4 _), (trodAll_cons_mk (shut_int Try.underlying3 w0) (trodAll_cons_mk (Below.trod laidOut (by kernel_rfl) (of_decide_eq_true (by kernel_rfl)) k1 bel lt1) trodAll_mk0)), rfl, bel.frame _, fun h => by cases h⟩

theorem over : Rows.ringKeepsRow.holds Try.pinned (OpenSpec.ofChange Rows.ringKeepsSpec) :=
  OpenClaim.holds_of_wide 5 Try.f5 rfl rfl rfl rfl rfl rfl rfl ⟨rfl, rfl, rfl, rfl, rfl⟩ rfl rfl rfl rfl rfl (by kernel_rfl) Try.func5 (by kernel_rfl)
    (of_decide_eq_true (by kernel_rfl)) (by unfold Func.isWrapper; first | (rw [if_pos (by decide +kernel)]; kernel_rfl) | (rw [if_neg (by decide +kernel)]; exact ⟨rfl, rfl⟩))
    (fun os started H enc _ => lifted os started H enc)

end Go.Proofs.Ytofgphiamllmdab.ringKeeps

namespace Go.Proofs.Ytofgphiamllmdab
/-- The statement. -/
theorem RingKeeps_holds : Rows.RingKeepsSaid := ringKeeps.over
#print axioms RingKeeps_holds
end Go.Proofs.Ytofgphiamllmdab
