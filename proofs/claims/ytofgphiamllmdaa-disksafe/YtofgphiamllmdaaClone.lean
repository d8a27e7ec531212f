/- maps.Clone and slices.Clone of a device's parts. -/
import Derived.Test.YtofgphiamllmdaaApp
import Derived.Shelf.SlMaps.Clone
import Derived.Lib.SliceRun
namespace Go.Proofs.Ytofgphiamllmdaa
open Go.RowKit

set_option maxHeartbeats 1000000 in
theorem clone_map (b : Nat) (es : Array MapEntry) (clock : Nat) (w : World) (hb : w.heap[b]? = some (.map es clock)) :
    Calls Try.prog 25 #[.map (some b)] w fun e w' => e = .returned (.map (some w.heap.size)) ∧ w' = w.alloc (.map es clock) := by
  have hq := fun w => run_eql_map_nil_sl (P := Try.prog) w 47 _ _ (some b) Try.underlying47
  go_enter Try.func25, Try.ntmps25
  go_wp2
  rw [run_callFunc_extern (show Try.prog.funcs[28]? = _ from rfl) (by kernel_rfl) (by kernel_rfl) (by kernel_rfl) (e := Extern.MapsClone.clone) (by kernel_rfl), run_maps_clone_sl w 47 hb]
  simp only [Result.andThen]
  rw [Oper.upon_value]
  go_wp2
  rw [run_typeAssert_map_sl _ 47 20 _ _ _ Try.underlying47]
  simp only [Result.andThen]
  rw [Oper.upon_value]
  go_wp2
  go_ret
  exact ⟨rfl, rfl⟩

theorem oneCell_flat (L : List (Int × List Int)) : ∀ u ∈ L.flatMap wcells, u.oneCell' = true := by
  intro u hu
  obtain ⟨q, _, hq⟩ := List.mem_flatMap.1 hu
  exact wcells_one q u hq
set_option maxRecDepth 100000 in
set_option maxHeartbeats 1000000 in
theorem clone_pend (w : World) (n₀ : Nat) (pv : Value) (L : List (Int × List Int)) (hown : w.ownsRow n₀ 59 129 pv L.length (L.flatMap wcells)) (hL : L.length ≤ 1000000000) :
    Calls Try.prog 26 #[pv] w fun e w' => ∃ v', e = .returned v' ∧ w'.ownsRow w.heap.size 59 129 v' L.length (L.flatMap wcells) ∧ Below w.heap.size w w' := by
  have q48 : ∀ (w : World) (a : Option Addr) (n c n' c' : Nat), (binOp .eql 48 (.slice a n c) (.slice none n' c')).run Try.prog w = .ok (.bool a.isNone) w := fun w a n c n' c' => Lib.run_eql_slice_nil w _ _ a n c n' c' Try.underlying48
  obtain ⟨i0, hi, hz0, hz1, hz2⟩ := info59
  rcases hown.2 with ⟨rfl, hn⟩ | ⟨g, cap, cur, rfl, hb, hh, h1, h2, h3, h4⟩
  · go_enter Try.func26, Try.ntmps26
    go_wp2
    go_ret
    obtain rfl : L = [] := List.eq_nil_of_length_eq_zero hn
    exact ⟨_, rfl, World.ownsRow_nil _ _ _ _, Below.refl _ _⟩
  · have holds := World.ownsRow.cells hown (g := g) rfl
    have hxl := hown.1
    have h1c := oneCell_flat L
    obtain ⟨xs, hxs⟩ : ∃ xs, L.flatMap wcells = xs := ⟨_, rfl⟩
    obtain ⟨n, hnn⟩ : ∃ n, L.length = n := ⟨_, rfl⟩
    rw [hxs] at holds hxl h1c ⊢
    rw [hnn] at hL hxl ⊢
    clear hxs hnn hown h4 h1 h3
    have A : Hid (∀ j u, xs[j]? = some u → w.cell? ((⟨g, 0, none⟩ : Addr).add j) = some u) := holds
    clear holds
    go_enter Try.func26, Try.ntmps26
    go_wp2_with (at_builtin; refine wpList_append_own _ rfl _ _ 48 rfl w.heap.size 59 i0 _ 129 136 Try.underlying48 hi hz0 hz1 hz2 (by simp [Value.cells, wcells, z128]) (by decide) _ _ _ rfl (World.ownsRow_made w #[] 0 (Nat.le_refl _) (Nat.zero_le _) rfl) ⟨g, 0, none⟩ n cap xs rfl ?qc1 ?qc2 ?qc3 ?qc4 ?qc5 ?qc6 ?_)
    case qc1 => exact hxl
    case qc2 =>
      intro j u hj
      exact Lib.cell?_alloc_some _ (A.out j u hj)
    case qc3 => exact h1c
    case qc4 => unfold maxLen; omega
    case qc5 => omega
    case qc6 => simp
    intro v' w1 hown hgrow hnil
    go_wp2
    go_ret
    refine ⟨v', rfl, by simpa using hown, ?_⟩
    exact ((Below.refl _ w).alloc (Nat.le_refl _) _).grown hgrow (by simp) (by intro k hk; simp [Value.ownBlock] at hk; omega)
end Go.Proofs.Ytofgphiamllmdaa
