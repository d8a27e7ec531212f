/- TreeMethods: any source of a method is the tree, or is none at the place, that the document says: true for every text; as a tied card. -/
import Derived.Test.YtncfmhlikmibaaaGreatDoorRows
import Derived.Test.YtncfmhlikmibaaaGreatDoorTie
import Derived.Test.YtncfmhlikmibaaaGreatDoorCards
import Derived.Test.YtncfmhlikmibaaaGreatDoorLwT
import Derived.WalkKit
import Derived.ProofKit
import Derived.OpenShut
import Derived.ShutString
import Derived.SizedLaws
import Derived.ChangeOld
import Derived.Below
import Derived.LaidMore
import Derived.Lay
import Derived.SevenTiedAt
import Derived.Stop.Joined
namespace Go.Proofs.YtncfmhlikmibaaaGreatDoor.treeMethods
open Go.ChangeShapes Go.WideShapes Go.ChangeAt Go.RowKit
set_option linter.unusedVariables false

theorem own : ownKnob Tryz.prog.godebug = none := by kernel_rfl
theorem str_list (s : ByteArray) : ∃ ss : List Int, s = strOfNums ss ∧ ∀ x ∈ ss, 0 ≤ x ∧ x < 256 := by
 refine ⟨s.data.toList.map (fun b => (b.toNat : Int)), ?_, ?_⟩
 ·rw [Lib.Lz.strOfNums_map]
 intro x hx
 obtain ⟨b, _, rfl⟩ := List.mem_map.1 hx
 have := b.toNat_lt
 omega

set_option maxRecDepth 100000 in
theorem lifted (os : Os) (started : os.Started) (H : Type) (enc : TypeId × Value → H) :
  ReturnsInHanded {} Tryz.checked os 4 .any (fun w args => (Rows.treeMethodsSpec.pre enc Tryz.prog Tryz.f4 [] false w args ∧ laidMetH Tryz.prog Rows.treeMethodsRow.laid w) ∧ sizedMet enc Tryz.prog Tryz.f4 (OpenSpec.ofChange Rows.treeMethodsSpec) false w args)
   (Rows.treeMethodsSpec.post enc Tryz.prog Tryz.f4 false true false false) := by
 refine returnsInHanded_of_change_and (C := Tryz.checked) (X := fun w _ => laidMetH Tryz.prog Rows.treeMethodsRow.laid w) (fun _ _ _ hh h => h.of_heap hh) own started (by kernel_rfl) Tryz.func4
  (ChangeSpec.witness_shaped (enc := enc) (C := Tryz.checked) (os := os) (X := fun w _ => laidMetH Tryz.prog Rows.treeMethodsRow.laid w) false (World.laidAll Tryz.prog os Rows.treeMethodsRow.laid) #[.string ⟨#[]⟩] 8 (World.laidAll_os _ _ _)
   (World.shaped_of_ZipB (by kernel_rfl) (by kernel_rfl)) (by kernel_rfl) (by kernel_rfl) (by kernel_rfl)
   (by rw [MakeChecks.laidMetH_plain _ _ _ (by kernel_rfl)]; exact laidMet_laidAll _ (by kernel_rfl) (by kernel_rfl))) ?_
 intro W base args ds gs before hval0 hW _ hsz0 hL _
 have hval : ∀ (j : Nat) t v, Tryz.f4.params[j]? = some t → args[j]? = some v → Value.okWide Tryz.prog W .any base t v := hval0
 have hsz : (DataW.weightsEach Tryz.prog (Tryz.f4.params.toList ++ Rows.treeMethodsSpec.plain.varTypes Tryz.prog) (ds ++ gs)).all (· ≤ reachBytes) = true := hsz0
 clear hsz0
 have hW' := hW
 obtain ⟨p, q, hA0, hV, rfl, hfz, hnd⟩ := hW
 have hA : DataW.TrodAll enc Tryz.prog W 0 (fun _ => true) true Tryz.f4.params.toList args.toList ds p := hA0
 rw [Tryz.params4] at hA hval hsz
 obtain ⟨v0, vs0, d0, ds0, p0, q0, hargs, rfl, rfl, h0, r0⟩ := trodAll_cons hA
 obtain ⟨rfl, rfl, rfl⟩ := trodAll_nil r0
 obtain rfl : args = #[v0] := Array.ext' hargs
 obtain ⟨rfl, rfl⟩ := trodVars_none hV
 obtain ⟨s0, rfl, rfl, rfl, hs0⟩ := Go.ChangeMaps.open_string Tryz.underlying9 (hval 0 9 v0 rfl rfl) h0
 obtain ⟨ss0, hss0, hsb0⟩ := str_list s0
 have hsl0 : ss0.length ≤ 9223372036854775807 := by
  have e : s0.size = ss0.length := by rw [hss0, strOfNums_size]
  unfold maxLen at hs0
  omega
 have hsw0 : ss0.length ≤ 140737488355328 := by
  have hw := sized_string hsz (j := 0) (t := 9) rfl rfl
  have e : s0.size = ss0.length := by rw [hss0, strOfNums_size]
  have e2 : s0.data.toList.length = s0.size := Array.length_toList
  unfold reachBytes at hw
  omega
 have hz0 := hs0
 subst hss0
 clear hA0 hval0
 refine (treeMethods_true ss0 W hsb0 hsl0).mono fun e W' ⟨he, bel⟩ => ?_
 subst he
 exact ⟨_, rfl, _, _, _, [], _, [], hW', trodAll_mk1 (shut_bool Tryz.underlying4 _), (trodAll_cons_mk (Go.ChangeMaps.shut_string Tryz.underlying9 hz0) trodAll_mk0), rfl, bel.frame _, fun h => by cases h⟩

theorem holds : Rows.TreeMethodsSaid :=
 OpenClaim.holds_of_wide 4 Tryz.f4 rfl rfl rfl rfl rfl rfl rfl ⟨rfl, rfl, rfl, rfl, rfl⟩ rfl rfl rfl rfl rfl (by kernel_rfl) Tryz.func4 (by kernel_rfl)
  (of_decide_eq_true (by kernel_rfl)) (by unfold Func.isWrapper; first | (rw [if_pos (by decide +kernel)]; kernel_rfl) | (rw [if_neg (by decide +kernel)]; exact ⟨rfl, rfl⟩))
  (fun os started H enc _ => lifted os started H enc)

theorem card : Rows.TreeMethodsCardSaid :=
 Claim7.holds_tied_plain_at .later [] [.data, .pinned] true (true, "74ac383916b550e10caf8b2284aab2fd5b6db5fa274c721851ac8fd2eacd6f3d") false holds (fun _ h => by cases h) (by kernel_rfl) (fun _ h => by cases h) treeMethods_row_tie rfl ⟨rfl, rfl⟩ (by kernel_rfl) rfl
  (fun f fn hf hfn => by
   obtain rfl : f = 4 := Option.some.inj ((show Tryz.prog.funcNamed "lapidary/lapidarylaw08.TreeMethods" = some 4 by kernel_rfl).symm.trans hf) |>.symm
   obtain rfl : fn = Tryz.f4 := (Option.some.inj (Tryz.func4.symm.trans hfn)).symm
   exact ⟨by kernel_rfl, fun j t ht => by
    rw [Tryz.params4] at ht
    have hm : t ∈ [9] := by simpa using Array.mem_of_getElem? ht
    have hall : ([9].all fun u => !Tryz.prog.wantsStandIn u) = true := by kernel_rfl
    exact (show Tryz.prog.wantsStandIn t = false by simpa using List.all_eq_true.1 hall t hm)⟩)
  (by kernel_rfl)
end Go.Proofs.YtncfmhlikmibaaaGreatDoor.treeMethods

namespace Go.Proofs.YtncfmhlikmibaaaGreatDoor
theorem TreeMethods_holds : Rows.TreeMethodsCardSaid := treeMethods.card
#print axioms TreeMethods_holds
end Go.Proofs.YtncfmhlikmibaaaGreatDoor
