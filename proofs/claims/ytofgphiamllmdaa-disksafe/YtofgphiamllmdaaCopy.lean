/- Disk.Copy. -/
import Derived.Test.YtofgphiamllmdaaClone
namespace Go.Proofs.Ytofgphiamllmdaa
open Go.RowKit

theorem own_base {w : World} {b b' e sz n : Nat} {v : Value} {xs : List Value} (h : w.ownsRow b e sz v n xs) (hb : b' ≤ b) : w.ownsRow b' e sz v n xs := by
  refine ⟨h.1, ?_⟩
  rcases h.2 with h1 | ⟨g, cap, cur, rfl, hg, h2⟩
  · exact .inl h1
  · exact .inr ⟨g, cap, cur, rfl, by omega, h2⟩
section
variable {w : World} {n₀ p bs bn : Nat} {pv : Value} {size : Int} {G0 G1 : Int → List Int} {L : List (Int × List Int)} {left : Int} {dead : Bool}
set_option maxRecDepth 100000 in
set_option maxHeartbeats 1000000 in
theorem Copy_some (h : Dev w n₀ p bs bn pv size G0 G1 L left dead) (hL : L.length ≤ 1000000000) :
    Calls Try.prog 17 #[.pointer (some ⟨p, 0, none⟩)] w fun e w' => ∃ q cs cn qv, e = .returned (.pointer (some ⟨q, 0, none⟩)) ∧ Dev w' w.heap.size q cs cn qv size G0 G1 L left dead ∧ Below w.heap.size w w' := by
  obtain ⟨d0, d1, d2, d3, d4, d5, df⟩ := dev_cells h.obj
  obtain ⟨f0, ⟨M0, c0, hb0, m0⟩, hs0⟩ := h.safe
  obtain ⟨f1, ⟨M1, c1, hb1, m1⟩, hs1⟩ := h.now
  have hpn := h.pend
  obtain ⟨pa, pc, hpv⟩ : ∃ a c, pv = .slice a L.length c := by
    rcases h.pend.2 with ⟨rfl, hn⟩ | ⟨g, cap, cur, rfl, _⟩
    · exact ⟨none, 0, by rw [hn]⟩
    · exact ⟨_, _, rfl⟩
  rw [hpv] at d3 hpn
  have hob := h.obj
  rw [hpv] at hob
  have hpl := h.lt
  have hA := heap_alloc_new w (devO size bs bn (.slice pa L.length pc) left dead)
  have hk1 : ∀ i, i < w.heap.size → (w.alloc (devO size bs bn (.slice pa L.length pc) left dead)).heap[i]? = w.heap[i]? := fun i hi => Below.heap_alloc _ _ _ hi
  have e1 : (w.alloc (devO size bs bn (.slice pa L.length pc) left dead)).cell? ⟨p, 1, none⟩ = some (.map (some bs)) := (dev_cells ((hk1 p hpl).trans hob)).2.1
  have hl1 : w.heap.size < (w.alloc (devO size bs bn (.slice pa L.length pc) left dead)).heap.size := by simp
  have hB1 : Below w.heap.size w (w.alloc (devO size bs bn (.slice pa L.length pc) left dead)) := (Below.refl _ w).alloc (Nat.le_refl _) _
  unfold devO at e1
  clear hpv
  go_enter Try.func17, Try.ntmps17
  go_wp2_with fail
  change Calls Try.prog 25 #[.map (some bs)] (w.alloc (devO size bs bn (.slice pa L.length pc) left dead)) _
  clear e1 d0 d1 d2 d3 d4 d5 df
  generalize w.alloc (devO size bs bn (.slice pa L.length pc) left dead) = w1 at *
  refine (clone_map bs _ c0 w1 ((hk1 bs (lt_of_block hb0)).trans hb0)).mono ?_
  rintro e w2 ⟨rfl, hw2⟩
  have hk2 : ∀ i, i < w1.heap.size → w2.heap[i]? = w1.heap[i]? := fun i hi => by rw [hw2]; exact Below.heap_alloc _ _ _ hi
  have hn2 : w2.heap[w1.heap.size]? = some (.map (M0.map ent).toArray c0) := by rw [hw2]; exact heap_alloc_new _ _
  have hB2 : Below w.heap.size w w2 := by rw [hw2]; exact hB1.alloc (by omega) _
  have hl2 : w1.heap.size < w2.heap.size := by rw [hw2]; simp
  clear hw2
  obtain ⟨cs, hcs, hcsl, hl2, hn2⟩ : ∃ cs, w1.heap.size = cs ∧ w.heap.size < cs ∧ cs < w2.heap.size ∧ w2.heap[cs]? = some (.map (M0.map ent).toArray c0) := ⟨_, rfl, hl1, hl2, hn2⟩
  have hob2 : w2.heap[w.heap.size]? = some (devO size bs bn (.slice pa L.length pc) left dead) := (hk2 _ hl1).trans hA
  obtain ⟨d0, d1, d2, d3, d4, d5, df⟩ := dev_cells hob2
  have hk2 : ∀ i, i < w.heap.size → w2.heap[i]? = w.heap[i]? := hB2.block
  rw [hcs]
  clear hk1 hB1 hA hl1 hcs
  have ho3 : (w2.setCell ⟨w.heap.size, 1, none⟩ (.map (some cs))).heap[w.heap.size]? = some (devO size cs bn (.slice pa L.length pc) left dead) := by
    unfold devO at hob2 ⊢
    rw [heap_setCell_same w2 _ 1 _ _ _ hob2]
    simp
  have hk3 : ∀ i, i ≠ w.heap.size → (w2.setCell ⟨w.heap.size, 1, none⟩ (.map (some cs))).heap[i]? = w2.heap[i]? := fun i hi => heap_setCell_other _ _ _ _ hi
  have e2 : (w2.setCell ⟨w.heap.size, 1, none⟩ (.map (some cs))).cell? ⟨p, 2, none⟩ = some (.map (some bn)) := (dev_cells ((hk3 p (by omega)).trans ((hk2 p hpl).trans hob))).2.2.1
  have hB3 : Below w.heap.size w (w2.setCell ⟨w.heap.size, 1, none⟩ (.map (some cs))) := hB2.setCell (Nat.le_refl _) _
  have hs3 : cs < (w2.setCell ⟨w.heap.size, 1, none⟩ (.map (some cs))).heap.size := by simpa using hl2
  go_wp2_with fail
  generalize w2.setCell ⟨w.heap.size, 1, none⟩ (.map (some cs)) = w3 at *
  refine (clone_map bn _ c1 w3 ((hB3.block bn (lt_of_block hb1)).trans hb1)).mono ?_
  rintro e w4 ⟨rfl, hw4⟩
  have hn3 := (hk3 cs (by omega)).trans hn2
  have hk4 : ∀ i, i < w3.heap.size → w4.heap[i]? = w3.heap[i]? := fun i hi => by rw [hw4]; exact Below.heap_alloc _ _ _ hi
  have hn4 : w4.heap[w3.heap.size]? = some (.map (M1.map ent).toArray c1) := by rw [hw4]; exact heap_alloc_new _ _
  have hB4 : Below w.heap.size w w4 := by rw [hw4]; exact hB3.alloc (by omega) _
  have hl4 : w3.heap.size < w4.heap.size := by rw [hw4]; simp
  have hn5 := (hk4 cs hs3).trans hn3
  have hob4 := (hk4 w.heap.size (by omega)).trans ho3
  clear hw4
  obtain ⟨cn, hcn, hcnl, hl4, hn4⟩ : ∃ cn, w3.heap.size = cn ∧ cs < cn ∧ cn < w4.heap.size ∧ w4.heap[cn]? = some (.map (M1.map ent).toArray c1) := ⟨_, rfl, hs3, hl4, hn4⟩
  rw [hcn]
  clear hk4 hcn hs3 hk3 hn3 hB3 ho3 e2 d0 d1 d2 d3 d4 d5 df hob2 hn2 hB2 hk2
  obtain ⟨d0, d1, d2, d3, d4, d5, df⟩ := dev_cells hob4
  have ho5 : (w4.setCell ⟨w.heap.size, 2, none⟩ (.map (some cn))).heap[w.heap.size]? = some (devO size cs cn (.slice pa L.length pc) left dead) := by
    unfold devO at hob4 ⊢
    rw [heap_setCell_same w4 _ 2 _ _ _ hob4]
    simp
  have hk5 : ∀ i, i ≠ w.heap.size → (w4.setCell ⟨w.heap.size, 2, none⟩ (.map (some cn))).heap[i]? = w4.heap[i]? := fun i hi => heap_setCell_other _ _ _ _ hi
  have e3 : (w4.setCell ⟨w.heap.size, 2, none⟩ (.map (some cn))).cell? ⟨p, 3, none⟩ = some (.slice pa L.length pc) := (dev_cells ((hk5 p (by omega)).trans ((hB4.block p hpl).trans hob))).2.2.2.1
  have hB5 : Below w.heap.size w (w4.setCell ⟨w.heap.size, 2, none⟩ (.map (some cn))) := hB4.setCell (Nat.le_refl _) _
  have hs5 : cn < (w4.setCell ⟨w.heap.size, 2, none⟩ (.map (some cn))).heap.size := by simpa using hl4
  go_wp2_with fail
  generalize w4.setCell ⟨w.heap.size, 2, none⟩ (.map (some cn)) = w5 at *
  have hpn5 : w5.ownsRow n₀ 59 129 (.slice pa L.length pc) L.length (L.flatMap wcells) := own_same hpn (fun g hg => hB5.block g (by obtain ⟨_, _, hh⟩ := own_block hpn hg; exact lt_of_block hh))
  refine (clone_pend w5 n₀ _ L hpn5 hL).mono ?_
  rintro e w6 ⟨qv, rfl, hown, hB6⟩
  have ho6 := (hB6.block _ (lt_of_block ho5)).trans ho5
  have hn6 := (hB6.block _ (by omega)).trans ((hk5 cs (by omega)).trans hn5)
  have hn7 := (hB6.block _ hs5).trans ((hk5 cn (by omega)).trans hn4)
  have hB7 := below_size hB5 (Nat.le_refl _) hB6
  obtain ⟨qa, qc, rfl⟩ : ∃ a c, qv = .slice a L.length c := by
    rcases hown.2 with ⟨rfl, hn⟩ | ⟨g, cap, cur, rfl, _⟩
    · exact ⟨none, 0, by rw [hn]⟩
    · exact ⟨_, _, rfl⟩
  clear d0 d1 d2 d3 d4 d5 df
  obtain ⟨d0, d1, d2, d3, d4, d5, df⟩ := dev_cells ho6
  have o8 := devO_pv ho6 (.slice qa L.length qc)
  clear hk5 e3 hB4 hB5 hn5 hn4 hob4 ho5
  go_wp2
  go_ret
  refine ⟨w.heap.size, cs, cn, .slice qa L.length qc, rfl, ⟨o8, ⟨f0, ⟨M0, c0, (heap_setCell_other _ _ _ _ (by show cs ≠ w.heap.size; omega)).trans hn6, m0⟩, hs0⟩, ⟨f1, ⟨M1, c1, (heap_setCell_other _ _ _ _ (by show cn ≠ w.heap.size; omega)).trans hn7, m1⟩, hs1⟩, ?_, h.secs, by omega, Nat.le_refl _, by omega, by omega⟩, hB7.setCell (Nat.le_refl _) _⟩
  have hbig : w5.heap.size ≥ w.heap.size := by omega
  refine own_base (own_same hown (fun g hg => heap_setCell_other _ _ _ _ ?_)) hbig
  obtain ⟨hb, _⟩ := own_block hown hg
  show g ≠ w.heap.size
  omega
end
end Go.Proofs.Ytofgphiamllmdaa
