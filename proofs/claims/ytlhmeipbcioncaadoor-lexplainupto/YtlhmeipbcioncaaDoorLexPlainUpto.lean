/- For every text s of at most 1048575 letters (bulk at most 1048576), lapidarylaw07.LexPlain(s) returns true (lex.Quote, PlainName and PlainSymbol answer as the document says; what is quoted is read as one text, where it is no longer than a text may be; and the fixed calls come out as known), and nothing that was there is changed; the card ties what the listed package-level variables hold to the program's text. -/
import Derived.Test.YtlhmeipbcioncaaDoorRows
import Derived.Test.YtlhmeipbcioncaaDoorTie
import Derived.Test.YtlhmeipbcioncaaDoorCards
import Derived.Test.YtlhmeipbcioncaaDoorLwN
import Derived.WalkKit
import Derived.ProofKit
import Derived.OpenShut
import Derived.ShutString
import Derived.SizedLaws
import Derived.ChangeOld
import Derived.Below
import Derived.LaidMore
import Derived.Lay
import Derived.SevenTiedAt
import Derived.Stop.Joined
import Derived.Deep.DeepHandedRow
namespace Go.Proofs.YtlhmeipbcioncaaDoor.lexPlainUpto
open Go.ChangeShapes Go.WideShapes Go.ChangeAt Go.RowKit
set_option linter.unusedVariables false

theorem own : ownKnob Tryd.prog.godebug = none := by kernel_rfl

theorem str_list (s : ByteArray) : ∃ ss : List Int, s = strOfNums ss ∧ ∀ x ∈ ss, 0 ≤ x ∧ x < 256 := by
  refine ⟨s.data.toList.map (fun b => (b.toNat : Int)), ?_, ?_⟩
  · rw [Lib.Lz.strOfNums_map]
  · intro x hx
    obtain ⟨b, _, rfl⟩ := List.mem_map.1 hx
    have := b.toNat_lt
    omega

theorem small {H : Type} {s : ByteArray} (h : Rows.uptoSmall H ([DataW.lit (.string s.data.toList)] ++ []) = true) : s.size ≤ 1048576 := by
  have h1 := of_decide_eq_true h
  simp only [List.cons_append, List.nil_append, Rows.uptoBulkAll, Rows.uptoBulk] at h1
  have e : s.data.toList.length = s.size := by rw [Array.length_toList]; rfl
  omega

theorem reads (os : Os) {H : Type} (enc : TypeId × Value → H) : DataW.whole enc Tryd.prog ((World.laidAll Tryd.prog os Rows.lexPlainUptoRow.laid).forCall (fun _ _ => 0) ⟨#[], #[.string ⟨#[]⟩], []⟩).memory Tryd.f4.params.toList (Rows.OpenSpec.upto Rows.lexPlainSpec).vars false #[Value.string ⟨#[]⟩].toList 8 = some ([.lit (.string [])], [], []) := by kernel_rfl

set_option maxRecDepth 100000 in
theorem lifted (os : Os) (started : os.Started) (H : Type) (enc : TypeId × Value → H) (F : Stop.Interp) :
    ReturnsInHanded {} Tryd.checked os 4 .any ((Rows.OpenSpec.upto Rows.lexPlainSpec).preRow enc Tryd.prog Tryd.f4 Rows.lexPlainUptoRow.domain false Rows.lexPlainUptoRow.laid) (((Rows.OpenSpec.upto Rows.lexPlainSpec).at F).post enc Tryd.prog Tryd.f4 false true false false) := by
  refine returnsInHanded_of_row (C := Tryd.checked) (s := Rows.OpenSpec.upto Rows.lexPlainSpec) own started (by kernel_rfl) Tryd.func4 ?_ ?_
  · obtain ⟨w, t, i, a, b, c, d, ⟨⟨_, hX⟩, _⟩, e⟩ := ChangeSpec.witness_shaped (enc := enc) (C := Tryd.checked) (os := os) (f := 4) (fn := Tryd.f4) (s := Rows.lexPlainSpec) (conds := []) (apart := false)
      (X := fun w args => (Rows.OpenSpec.upto Rows.lexPlainSpec).preRow enc Tryd.prog Tryd.f4 Rows.lexPlainUptoRow.domain false Rows.lexPlainUptoRow.laid w args) false (World.laidAll Tryd.prog os Rows.lexPlainUptoRow.laid) #[.string ⟨#[]⟩] 8 (World.laidAll_os _ _ _)
      (World.shaped_of_ZipB (by kernel_rfl) (by kernel_rfl)) (by kernel_rfl) (by kernel_rfl) (by kernel_rfl)
      (OpenSpec.preRow_of_cond 8 (reads os enc) (by kernel_rfl) (fun k hk => by cases hk; kernel_rfl) (by kernel_rfl)
        (by rw [MakeChecks.laidMetH_plain _ _ _ (by kernel_rfl)]; exact laidMet_laidAll _ (by kernel_rfl) (by kernel_rfl)))
    exact ⟨w, t, i, a, b, c, d, hX, e⟩
  intro W base args ds gs before hval0 hW _ hcond _ hL _ _
  have hval : ∀ (j : Nat) t v, Tryd.f4.params[j]? = some t → args[j]? = some v → Value.okWide Tryd.prog W .any base t v := hval0
  have hW' := hW
  have hk := hcond _ rfl
  obtain ⟨p, q, hA0, hV, rfl, hfz, hnd⟩ := hW
  have hA : DataW.TrodAll enc Tryd.prog W 0 (fun _ => true) true Tryd.f4.params.toList args.toList ds p := hA0
  rw [Tryd.params4] at hA hval
  obtain ⟨v0, vs0, d0, ds0, p0, q0, hargs, rfl, rfl, h0, r0⟩ := trodAll_cons hA
  obtain ⟨rfl, rfl, rfl⟩ := trodAll_nil r0
  obtain rfl : args = #[v0] := by cases args; simp_all
  obtain ⟨rfl, rfl⟩ := trodVars_none hV
  obtain ⟨s0, rfl, rfl, rfl, hs0⟩ := Go.ChangeMaps.open_string Tryd.underlying9 (hval 0 9 v0 rfl rfl) h0
  have hz := small hk
  obtain ⟨ss0, hss0, hsb0⟩ := str_list s0
  have hsl0 : ss0.length ≤ 1048576 := by
    have e : s0.size = ss0.length := by rw [hss0, strOfNums_size]
    omega
  have hz0 := hs0
  subst hss0
  clear hA0 hval0
  refine (plain_law ss0 W hsb0 hsl0).mono fun e W' ⟨he, bel⟩ => ?_
  subst he
  exact ⟨_, rfl, _, _, _, [], _, [], hW', trodAll_mk1 (shut_bool Tryd.underlying4 _), (trodAll_cons_mk (Go.ChangeMaps.shut_string Tryd.underlying9 hz0) trodAll_mk0), rfl, bel.frame _, fun h => by cases h⟩

theorem holds : Rows.LexPlainUptoSaid :=
  OpenClaim.holds_of_cond 4 Tryd.f4 rfl rfl rfl rfl rfl rfl rfl ⟨rfl, rfl, rfl, rfl, rfl⟩ rfl rfl rfl rfl rfl (by kernel_rfl) Tryd.func4 (by kernel_rfl)
    (of_decide_eq_true (by kernel_rfl)) (by unfold Func.isWrapper; first | (rw [if_pos (by decide +kernel)]; kernel_rfl) | (rw [if_neg (by decide +kernel)]; exact ⟨rfl, rfl⟩))
    (fun os started H enc _ F => by rw [OpenClaim.pre_eq_preRow]; exact lifted os started H enc F)

theorem card : Rows.LexPlainUptoCardSaid :=
  Claim7.holds_tied_plain_at .later [] [.data, .pinned] true (true, "827c14d117565d47d52ed9ba6e8ae4d20433a4ed6c375ac67320d114652655c5") false holds (fun _ h => by cases h) (by kernel_rfl) (fun _ h => by cases h) lexPlainUpto_row_tie rfl ⟨rfl, rfl⟩ (by kernel_rfl) rfl
    (fun f fn hf hfn => by
      obtain rfl : f = 4 := Option.some.inj ((show Tryd.prog.funcNamed "lapidary/lapidarylaw07.LexPlain" = some 4 by kernel_rfl).symm.trans hf) |>.symm
      obtain rfl : fn = Tryd.f4 := (Option.some.inj (Tryd.func4.symm.trans hfn)).symm
      exact ⟨by kernel_rfl, fun j t ht => by
        rw [Tryd.params4] at ht
        have hm : t ∈ [9] := by simpa using Array.mem_of_getElem? ht
        have hall : ([9].all fun u => !Tryd.prog.wantsStandIn u) = true := by kernel_rfl
        exact (show Tryd.prog.wantsStandIn t = false by simpa using List.all_eq_true.1 hall t hm)⟩)
    (by kernel_rfl)
end Go.Proofs.YtlhmeipbcioncaaDoor.lexPlainUpto

namespace Go.Proofs.YtlhmeipbcioncaaDoor
/-- The statement. -/
theorem LexPlainUpto_holds : Rows.LexPlainUptoCardSaid := lexPlainUpto.card
#print axioms LexPlainUpto_holds
end Go.Proofs.YtlhmeipbcioncaaDoor
