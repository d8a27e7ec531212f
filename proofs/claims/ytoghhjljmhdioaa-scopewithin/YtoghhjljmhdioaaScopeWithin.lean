/- A whole source without temps has within a block the same names as it has alone. -/
import Derived.Test.YtoghhjljmhdioaaRows
import Derived.Test.YtoghhjljmhdioaaOpnS
import Derived.Test.YtoghhjljmhdioaaLwW
import Derived.WalkKit
import Derived.ProofKit
import Derived.OpenShut
import Derived.ShutString
import Derived.SizedLaws
import Derived.ChangeOld
import Derived.Below
namespace Go.Proofs.Ytoghhjljmhdioaa.scopeWithin
open Go.ChangeShapes Go.WideShapes Go.ChangeAt Go.RowKit
set_option linter.unusedVariables false

theorem own : ownKnob Try.prog.godebug = none := by kernel_rfl
theorem laidOut : laidOutB Try.prog = true := by kernel_rfl

set_option maxRecDepth 100000 in
theorem lifted (os : Os) (started : os.Started) (H : Type) (enc : TypeId × Value → H) :
    ReturnsInHanded {} Try.checked os 4 .any (Rows.scopeWithinSpec.pre6 enc Try.prog Try.f4 Rows.scopeWithinRow.domain false) (Rows.scopeWithinSpec.post enc Try.prog Try.f4 false true false false) := by
  refine returnsInHanded_of_change_sized (C := Try.checked) own started (by kernel_rfl) Try.func4
    (ChangeSpec.witness6 (enc := enc) (C := Try.checked) false ⟨#[], #[.string ⟨#[]⟩, .slice none 0 0], []⟩ 8 (by kernel_rfl) (by kernel_rfl) (by kernel_rfl) (by kernel_rfl)) ?_
  intro W base args ds gs before hval0 hW hcnd hsz0 _
  have hval : ∀ (j : Nat) t v, Try.f4.params[j]? = some t → args[j]? = some v → Value.okWide Try.prog W .any base t v := hval0
  have hsz : (DataW.weightsEach Try.prog (Try.f4.params.toList ++ Rows.scopeWithinSpec.plain.varTypes Try.prog) (ds ++ gs)).all (· ≤ reachBytes) = true := hsz0
  clear hsz0
  have hW' := hW
  obtain ⟨p, q, hA0, hV, rfl, hfz, hnd⟩ := hW
  have hA : DataW.TrodAll enc Try.prog W 0 (fun _ => true) true Try.f4.params.toList args.toList ds p := hA0
  rw [Try.params4] at hA hval hsz
  obtain ⟨v0, vs0, d0, ds0, p0, q0, hargs, rfl, rfl, h0, r0⟩ := trodAll_cons hA
  obtain ⟨v1, vs1, d1, ds1, p1, q1, rfl, rfl, rfl, h1, r1⟩ := trodAll_cons r0
  obtain ⟨rfl, rfl, rfl⟩ := trodAll_nil r1
  obtain rfl : args = #[v0, v1] := by cases args; simp_all
  obtain ⟨rfl, rfl⟩ := trodVars_none hV
  obtain ⟨s0, rfl, rfl, rfl, hs0⟩ := Go.ChangeMaps.open_string Try.underlying9 (hval 0 9 v0 rfl rfl) h0
  have hz0 := hs0
  have hsb0 := numsOf_byte s0
  obtain ⟨ss0, hss0⟩ : ∃ ss, ss = numsOf s0 := ⟨_, rfl⟩
  have hst0 : s0 = strOfNums ss0 := by rw [hss0, numsOf_str]
  rw [← hss0] at hsb0
  clear hss0
  have hsl0 : ss0.length ≤ 9223372036854775807 := by
    have e : s0.size = ss0.length := by rw [hst0, strOfNums_size]
    unfold maxLen at hs0
    omega
  subst hst0
  have k1 := h1
  have lt1 : ∀ x ∈ p1, x.block < W.heap.size := by obtain ⟨m, hm⟩ := k1; exact DataW.trod_lt m _ _ _ hm
  obtain ⟨a1, len1, cap1, rfl⟩ := okWide_slice Try.underlying22 (hval 1 22 v1 rfl rfl)
  obtain ⟨fuel1, hf1⟩ := h1
  obtain ⟨sl1, hlen1, BS1, SF1, hd1⟩ := open_sl hf1
  subst hlen1
  have hcap1 : cap1 * 16 ≤ 140737488351232 := by
    rcases hd1 with ⟨_, h⟩ | ⟨el, sp, hd, h⟩
    · omega
    · have hw := sized_slice hsz (j := 1) (t := 22) (e := 9) (elems := el) (spare := sp) rfl (by rw [hd]; rfl) Try.underlying22
      rw [Try.bytes9, h] at hw
      unfold reachBytes at hw
      omega
  clear hA0 hval0
  refine (within_true ss0 sl1 W hsb0 hsl0 SF1 BS1).mono fun e W' ⟨he, bel⟩ => ?_
  subst he
  exact ⟨_, rfl, _, _, _, [], _, [], hW', trodAll_mk1 (shut_bool Try.underlying4 _), (trodAll_cons_mk (Go.ChangeMaps.shut_string Try.underlying9 hz0) (trodAll_cons_mk (Below.trod laidOut (by kernel_rfl) (of_decide_eq_true (by kernel_rfl)) k1 bel lt1) trodAll_mk0)), rfl, bel.frame _, fun h => by cases h⟩

theorem over : Rows.scopeWithinRow.holds Try.pinned (OpenSpec.ofChange Rows.scopeWithinSpec) :=
  OpenClaim.holds_of_wide 4 Try.f4 rfl rfl rfl rfl rfl rfl rfl ⟨rfl, rfl, rfl, rfl, rfl⟩ rfl rfl rfl rfl rfl (by kernel_rfl) Try.func4 (by kernel_rfl)
    (of_decide_eq_true (by kernel_rfl)) (by unfold Func.isWrapper; first | (rw [if_pos (by decide +kernel)]; kernel_rfl) | (rw [if_neg (by decide +kernel)]; exact ⟨rfl, rfl⟩))
    (fun os started H enc _ => lifted os started H enc)

end Go.Proofs.Ytoghhjljmhdioaa.scopeWithin

namespace Go.Proofs.Ytoghhjljmhdioaa
/-- The statement. -/
theorem ScopeWithin_holds : Rows.ScopeWithinSaid := scopeWithin.over
#print axioms ScopeWithin_holds
end Go.Proofs.Ytoghhjljmhdioaa
