/- append to an owned row: where the new row lies. -/
import Derived.Test.YtofgphiamllmdabDev
import Derived.Deep.DeepAppendRoom
namespace Go.Proofs.Ytofgphiamllmdab
open Go.RowKit
set_option maxRecDepth 100000

theorem Try.info107 : (Try.prog.info? 107).map (fun i => (i.zero, i.size, i.bytes)) = some (some (.agg (wcells (0, z128)).toArray), 129, 136) := by kernel_rfl
theorem info59 : ∃ i, Try.prog.info? 107 = some i ∧ i.zero = some (.agg (wcells (0, z128)).toArray) ∧ i.size = 129 ∧ i.bytes = 136 := by
  have h := Try.info107
  cases hq : Try.prog.info? 107 with
  | none => rw [hq] at h; cases h
  | some i =>
    rw [hq] at h
    simp only [Option.map_some, Option.some.injEq, Prod.mk.injEq] at h
    exact ⟨i, rfl, h⟩
theorem wcells_len {q : Int × List Int} (h : IsSec q.2) : (wcells q).length = 129 := by simp [wcells, h.len]
theorem wcells_one (q : Int × List Int) : ∀ u ∈ wcells q, u.oneCell' = true := by
  intro u hu
  simp only [wcells, List.mem_cons, List.mem_map] at hu
  rcases hu with rfl | ⟨x, _, rfl⟩ <;> rfl

theorem append_dev (w : World) (base ty : Nat) (v : Value) (n : Nat) (xs : List Value) (hown : w.ownsRow base 107 129 v n xs) {q : Int × List Int} (hq : IsSec q.2) (b8 : Nat) (hb8 : w.heap[b8]? = some (.cells (wcells q).toArray 107 (0, 0))) (hn : n ≤ 1000000000) (hbase : base ≤ w.heap.size) :
    ∃ v' w', (Builtin.append_ #[102, 102] ty #[v, .slice (some ⟨b8, 0, none⟩) 1 1]).run Try.prog w = .ok v' w' ∧ w'.ownsRow base 107 129 v' (n + 1) (xs ++ wcells q) ∧ w.grownBy w' v.ownBlock ∧ (∀ g, v'.ownBlock = some g → v.ownBlock = some g ∨ w.heap.size ≤ g) := by
  obtain ⟨i, hi, hz, hs, hb⟩ := info59
  have hnews : ∀ j u, (wcells q)[j]? = some u → w.cell? ((⟨b8, 0, none⟩ : Addr).add j) = some u := by
    intro j u hj
    rw [show (⟨b8, 0, none⟩ : Addr).add j = ⟨b8, 0 + j, none⟩ by simp [Addr.add]; omega, Nat.zero_add, cell_of_row w b8 j _ _ _ hb8]
    simpa using hj
  have hlen : (wcells q).length = 1 * 129 := by rw [wcells_len hq]
  have hzs : (Value.agg (wcells (0, z128)).toArray).cells.size = 129 := by simp [Value.cells, wcells, z128]
  obtain ⟨v', w', hr, h1, h2, _⟩ := run_append_own (P := Try.prog) w base 102 ty 107 i _ 129 136 Try.underlying102 hi hz hs hb hzs (by decide) v n xs hown ⟨b8, 0, none⟩ 1 1 (wcells q) hlen hnews (wcells_one q) (by unfold maxLen; omega) (by omega) hbase
  refine ⟨v', w', hr, h1, h2, fun g hg => ?_⟩
  rcases hown.2 with ⟨rfl, rfl⟩ | ⟨g0, cap, cur, rfl, hbg, hgh, hnc, hcm, hcs, htake⟩
  · obtain ⟨v2, w2, hr2, h12, _, _⟩ := run_append_own (P := Try.prog) w w.heap.size 102 ty 107 i _ 129 136 Try.underlying102 hi hz hs hb hzs (by decide) (.slice none 0 0) 0 xs ⟨hown.1, .inl ⟨rfl, rfl⟩⟩ ⟨b8, 0, none⟩ 1 1 (wcells q) hlen hnews (wcells_one q) (by unfold maxLen; omega) (by omega) (Nat.le_refl _)
    rw [hr] at hr2
    injection hr2 with e1 e2
    subst e1
    exact .inr (own_block h12 hg).1
  · by_cases hroom : n + 1 ≤ cap
    · obtain ⟨w2, hr2, _, _⟩ := run_append_own_spare (P := Try.prog) w base 102 ty 107 i 129 Try.underlying102 hi hs g0 n cap xs hown ⟨b8, 0, none⟩ 1 1 (wcells q) hlen hnews (wcells_one q) hroom
      rw [hr] at hr2
      injection hr2 with e1 e2
      subst e1
      exact .inl hg
    · have holds : ∀ j u, xs[j]? = some u → w.cell? ((⟨g0, 0, none⟩ : Addr).add j) = some u := World.ownsRow.cells hown (g := g0) rfl
      have hr2 := run_append_grow (P := Try.prog) w 102 ty 107 i _ Try.underlying102 hi hz ⟨g0, 0, none⟩ n cap xs (by rw [hs]; exact hown.1) holds ⟨b8, 0, none⟩ 1 1 (wcells q) (by rw [hs]; exact hlen) hnews (by omega) (by omega) (growslice_fits (by omega) (by rw [hb]; omega))
      rw [hr] at hr2
      injection hr2 with e1 e2
      subst e1
      simp [Value.ownBlock] at hg
      exact .inr (by omega)
end Go.Proofs.Ytofgphiamllmdab
