/- AppendSeq and Collect over transactions. -/
import Derived.Test.YtigmpmichhghdaaSeq
namespace Go.Proofs.Ytigmpmichhghdaa
open Go.RowKit Go.Shelf
attribute [local go_sem] Oper.semAt_some
set_option maxRecDepth 100000 in
set_option maxHeartbeats 2000000 in
theorem appendSeq_any {w : World} {Bs : Nat} {a : Option Addr} {len cap : Nat} {ms : List Tm} (hBs : Bs < w.heap.size) (hl : len ≤ 1048576) (hc : w.cell? ⟨Bs, 0, none⟩ = some (.slice a len cap)) (hI : IsTs w a len cap ms) :
    Calls Try.prog 54 #[.slice none 0 0, .func (.func 49) #[] #[.pointer (some ⟨Bs, 0, none⟩)]] w fun e w' => ∃ v, e = .returned v ∧ w'.ownsRow w.heap.size 31 4 v ms.length (flatT ms) ∧ Below w.heap.size w w' := by
  refine (callsIn_wide (n := 3)).1 ?_
  refine callsIn_of_wp_marks Try.func54 rfl trivial ?_ rfl
  simp only [Try.ntmps54, List.size_toArray, List.length_cons, List.length_nil, Nat.reduceAdd, Nat.reduceSub, Array.replicate_succ, Array.replicate_zero, List.push_toArray, List.append_toArray, List.nil_append, List.cons_append]
  gi_wp2
  obtain ⟨i0, hi, hz0, hz1, hz2⟩ := info_parts Try.info31
  refine wpIn_rangeFunc_ownH rfl (by decide) (gf := 49) (lb := #[.pointer (some ⟨Bs, 0, none⟩)]) rfl trivial (enters_of Try.func49 (by kernel_rfl) rfl)
    (values_stops _ (by decide) Bs w.heap.size a len cap ms w hBs rfl hl hc hI) belowK_t (belowK_b (by simp)) ((Below.refl _ _).alloc (Nat.le_refl _) _) (fun _ => rfl)
    (fun pre W => (∃ v, Boxed W w.heap.size 26 v ∧ W.ownsRow w.heap.size 31 4 v pre.length (flatT pre) ∧ True) ∧ Below w.heap.size w W)
    (fun _ _ _ => False)
    (OwnFrom.and (Own.from (holdsRow_own w.heap.size w.heap.size 26 31 4 (fun pre => pre.length) (fun pre => flatT pre) (fun _ _ => True)) _) (ownFrom_below (Nat.le_refl _) (by simp)))
    (fun _ _ _ _ _ hs _ _ => hs)
    ⟨⟨_, Boxed.new _ _ _, World.ownsRow_nil _ _ _ _, trivial⟩, (Below.refl _ _).alloc (Nat.le_refl _) _⟩
    (fun x a' W => ∃ Bx, w.heap.size < Bx ∧ W.heap[Bx]? = some (txB x 31) ∧ a' = { tmps := #[.slice none 0 0, .func (.func 49) #[] #[.pointer (some ⟨Bs, 0, none⟩)], .pointer (some ⟨w.heap.size, 0, none⟩), undef, .slice none 0 0, .pointer (some ⟨Bx, 0, none⟩), .func (.func 49) #[] #[.pointer (some ⟨Bs, 0, none⟩)], Tm.val x, undef, undef, undef, undef, undef], defers := [] })
    (fun x a' s A B row hs hg hr => by
      obtain ⟨Bx, h1, h2, h3⟩ := hs
      refine ⟨Bx, h1, (hg.block Bx (lt_of_block h2) (fun e => ?_)).trans h2, h3⟩
      obtain ⟨_, o, ho, hoc⟩ := hr Bx e.symm
      rw [h2] at ho
      cases ho
      cases hoc)
    ?assign ?body ?done ?stop
  case assign =>
    rintro l pre x W K ⟨⟨v, bS, hrow, _⟩, hB⟩ hK
    unfold Tm.val
    gi_wp2
    exact hK _ _ ((KeepsOthers.alloc _ _).from _) ((Below.refl _ W).alloc hB.size _) ⟨⟨v, bS.alloc _, own_below hrow box_below, trivial⟩, hB.alloc hB.size _⟩ ⟨W.heap.size, bS.lt, new1 _ _, rfl⟩
  case body =>
    rintro l pre x a' W _ _ ⟨⟨v, bS, hrow, _⟩, hB⟩ ⟨Bx, hBx, bX, rfl⟩ hlt
    obtain ⟨z0, z1, z2, z3, zf⟩ := tx_cells bX
    have cS := bS.cell
    obtain ⟨sa, sn, sc, rfl⟩ : ∃ a n c, v = .slice a n c := by
      rcases hrow.2 with ⟨rfl, h0⟩ | ⟨g, cap, cur, rfl, _⟩
      · exact ⟨_, _, _, rfl⟩
      · exact ⟨_, _, _, rfl⟩
    have hsW := hB.size
    gi_wp2_with (gi_at_builtin; refine wpListIn_append_own _ rfl _ _ 26 rfl w.heap.size 31 i0 (.agg #[.int .i64 0, .int .i64 0, .slice none 0 0, .slice none 0 0]) 4 64 Try.underlying26 hi hz0 hz1 hz2 rfl (by decide) _ _ _ rfl (own_below hrow box_below) ⟨W.heap.size, 0, none⟩ 1 1 (flatT [x]) rfl rfl (tcell_at lit_cells) (flatT_one _) (by unfold maxLen; omega) (by omega) (by simp; omega) ?_; intro v' w1 hown' hgrow _; obtain ⟨g', cap', rfl⟩ := ownsRow_succ hown'; obtain ⟨hv1, hv2, hr2, hk2, hb2⟩ := bS.appended (by decide) hrow hB.size (Nat.le_refl _) hown' hgrow; have hc1 := hv1.cell; have hf1 := hv1.frozen)
    refine ⟨hk2.from _, hb2, ⟨_, hv2, ?_, trivial⟩, hB.trans hb2⟩
    rw [flatT_app, List.length_append]
    exact hr2
  case done =>
    rintro D xs W hD rfl ⟨⟨v, bS, hrow, _⟩, hB⟩ hK
    have cS := bS.cell
    obtain ⟨sa, sn, sc, rfl⟩ : ∃ a n c, v = .slice a n c := by
      rcases hrow.2 with ⟨rfl, h0⟩ | ⟨g, cap, cur, rfl, _⟩
      · exact ⟨_, _, _, rfl⟩
      · exact ⟨_, _, _, rfl⟩
    gi_wp2
    refine ⟨by simp, .inl ⟨_, _, rfl, run_takeDeferred hK, ?_⟩⟩
    exact ⟨_, results_tmp rfl _ _ _, ⟨_, rfl, ownsRow_putObj hrow _ hK rfl, hB.trans (belowK_b (w := w) (Nat.le_refl _) W D _ _ (by simp at hD; omega) hK rfl rfl)⟩⟩
  case stop =>
    rintro D c pre W _ _ h _
    exact h.elim
set_option maxHeartbeats 1000000 in
theorem collect_any {w : World} {Bs : Nat} {a : Option Addr} {len cap : Nat} {ms : List Tm} (hBs : Bs < w.heap.size) (hl : len ≤ 1048576) (hc : w.cell? ⟨Bs, 0, none⟩ = some (.slice a len cap)) (hI : IsTs w a len cap ms) :
    Calls Try.prog 47 #[.func (.func 49) #[] #[.pointer (some ⟨Bs, 0, none⟩)]] w fun e w' => ∃ v, e = .returned v ∧ w'.ownsRow w.heap.size 31 4 v ms.length (flatT ms) ∧ Below w.heap.size w w' := by
  have hs := appendSeq_any hBs hl hc hI
  go_enter Try.func47, Try.ntmps47
  go_wp2_with fail
  refine hs.mono ?_
  rintro e w2 ⟨v, rfl, O, B⟩
  obtain ⟨sa, sn, sc, rfl⟩ : ∃ a n c, v = .slice a n c := by
    rcases O.2 with ⟨rfl, h0⟩ | ⟨g, cap, cur, rfl, _⟩
    · exact ⟨_, _, _, rfl⟩
    · exact ⟨_, _, _, rfl⟩
  go_wp2
  go_ret
  exact ⟨_, rfl, O, B⟩
end Go.Proofs.Ytigmpmichhghdaa
