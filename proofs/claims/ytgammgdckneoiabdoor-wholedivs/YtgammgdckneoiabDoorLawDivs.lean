/- The walk of WholeDivs: how often one number is in another one, and what is left. -/
import Derived.Test.YtgammgdckneoiabDoorOne
import Derived.Test.YtgammgdckneoiabDoorRDivMod
namespace Go.Proofs.YtgammgdckneoiabDoor
open Go.RowKit

theorem OwnB.keep {w w' : World} {base : Nat} {v : Value} {xs : List Int} (h : OwnB w base v xs) (hk : ∀ g, base ≤ g → g < w.heap.size → w'.heap[g]? = w.heap[g]?) : OwnB w' base v xs := by
  obtain ⟨h1, a, cap, hv, hB⟩ := h
  refine ownB_of (n := xs.length) ⟨h1.1, ?_⟩ hB.byte
  rcases h1.2 with h2 | ⟨g, cap, cur, hv, hg, hh, h3⟩
  · exact .inl h2
  · exact .inr ⟨g, cap, cur, hv, hg, (hk g hg (lt_of_block hh)).trans hh, h3⟩

set_option maxRecDepth 100000 in
set_option maxHeartbeats 8000000 in
theorem divs_law {a1 a2 : Option Addr} {l1 l2 c1 c2 : Nat} {xs ys : List Int} {w : World} (n1 n2 : Bool) (h1 : IsB w a1 l1 c1 xs) (h2 : IsB w a2 l2 c2 ys) (hl1 : l1 ≤ 140737488351232) (hl2 : l2 ≤ 140737488351232) :
    Calls Tryd.prog 6 #[.agg #[.bool n1, .slice a1 l1 c1], .agg #[.bool n2, .slice a2 l2 c2]] w fun e w' => e = .returned (.bool true) ∧ Below w.heap.size w w' := by
  have hb := box2 w (.cells #[.bool n1, .slice a1 l1 c1] 24) (.cells #[.bool n2, .slice a2 l2 c2] 24)
  go_enter Tryd.func6, Tryd.ntmps6
  go_wp2_with fail
  refine (given_any n1 (h1.below hb) hl1).mono ?_
  rintro e w1 ⟨g1, rfl, hg1, _, hb1⟩
  obtain ⟨t2, t3, hB1⟩ := vars2 hb1
  have b5 : Below w1.heap.size w1 (w1.alloc (.cells #[.bool n1, .slice (some ⟨g1, 0, none⟩) l1 (l1 + 8)] 25)) := (Below.refl _ _).alloc (Nat.le_refl _) _
  have t5 := heap_alloc_new w1 (.cells #[.bool n1, .slice (some ⟨g1, 0, none⟩) l1 (l1 + 8)] 25)
  replace t2 := (b5.block _ (lt_of_block t2)).trans t2
  replace t3 := (b5.block _ (lt_of_block t3)).trans t3
  have kx := ((h1.below hb).below hb1).below b5
  have ky := ((h2.below hb).below hb1).below b5
  replace hg1 := hg1.below b5
  replace hB1 := below_size hB1 (Nat.le_refl _) b5
  obtain ⟨y0, y1, _, _⟩ := intVarT t3
  clear hb hb1 b5
  go_wp2_with fail
  generalize w1.alloc (.cells #[.bool n1, .slice (some ⟨g1, 0, none⟩) l1 (l1 + 8)] 25) = w2 at *
  generalize w1.heap.size = i5 at *
  refine (given_any n2 ky hl2).mono ?_
  rintro e w3 ⟨g2, rfl, hg2, _, hb3⟩
  have b6 : Below w3.heap.size w3 (w3.alloc (.cells #[.bool n2, .slice (some ⟨g2, 0, none⟩) l2 (l2 + 8)] 25)) := (Below.refl _ _).alloc (Nat.le_refl _) _
  have t6 := heap_alloc_new w3 (.cells #[.bool n2, .slice (some ⟨g2, 0, none⟩) l2 (l2 + 8)] 25)
  have b23 := hb3.trans (b6.mono hb3.size)
  replace t2 := (b23.block _ (lt_of_block t2)).trans t2
  replace t3 := (b23.block _ (lt_of_block t3)).trans t3
  replace t5 := (b23.block _ (lt_of_block t5)).trans t5
  replace kx := kx.below b23
  replace ky := ky.below b23
  replace hg1 := hg1.below b23
  replace hg2 := hg2.below b6
  replace hB1 := below_size hB1 (Nat.le_refl _) b23
  obtain ⟨x0, x1, _, _⟩ := intVarT t5
  obtain ⟨q0, q1, _, _⟩ := intVarT t6
  clear y0 y1 hb3 b6 b23
  go_wp2_with fail
  generalize w3.alloc (.cells #[.bool n2, .slice (some ⟨g2, 0, none⟩) l2 (l2 + 8)] 25) = w4 at *
  generalize w3.heap.size = i6 at *
  have hx1 := hg1.front (ys := pad) h1.size
  have hx2 := hg2.front (ys := pad) h2.size
  refine (div_any n1 n2 hx1 hx2).mono ?_
  rintro e w5 ⟨va, rfl, oa, hb5⟩
  obtain ⟨pa, ca, rfl, _⟩ := oa.2
  -- a: whole.Div
  obtain ⟨ba, Hba⟩ : ∃ b, Hid (divB n1 xs n2 ys = b) := ⟨_, rfl⟩
  obtain ⟨ea, Hea⟩ : ∃ b, Hid (dvE n1 xs n2 ys = b) := ⟨_, rfl⟩
  obtain ⟨ma, Hma⟩ : ∃ b, Hid (divM n1 xs n2 ys = b) := ⟨_, rfl⟩
  rw [Hma.out] at oa ⊢
  rw [Hba.out, Hea.out]
  have b7 : Below w5.heap.size w5 (w5.alloc (.cells #[.bool ba, .slice pa ma.length ca] 25)) := (Below.refl _ _).alloc (Nat.le_refl _) _
  have t7 := heap_alloc_new w5 (.cells #[.bool ba, .slice pa ma.length ca] 25)
  have bA := hb5.trans (b7.mono hb5.size)
  replace oa := oa.below b7
  have u2 := (bA.block _ (lt_of_block t2)).trans t2
  have u3 := (bA.block _ (lt_of_block t3)).trans t3
  have u5 := (bA.block _ (lt_of_block t5)).trans t5
  have u6 := (bA.block _ (lt_of_block t6)).trans t6
  have hBA := below_size hB1 (Nat.le_refl _) bA
  have s7 : w4.heap.size ≤ w5.heap.size := hb5.size
  obtain ⟨r0, r1, _, _⟩ := intVarT u2
  obtain ⟨r2, r3, _, _⟩ := intVarT u3
  clear x0 x1 q0 q1 hb5 b7
  go_wp2_with fail
  generalize hq7 : w5.alloc (.cells #[.bool ba, .slice pa ma.length ca] 25) = w6 at *
  clear hq7
  generalize w5.heap.size = i7 at *
  -- b: the document's Div
  refine (rdiv_any n1 n2 (kx.below bA) (ky.below bA)).mono ?_
  rintro e w7 ⟨vb, rfl, ob, hb7⟩
  rw [Hma.out] at ob
  rw [Hba.out, Hea.out]
  obtain ⟨pb, cb, rfl, hIb⟩ := ob.2
  have b9 : Below w7.heap.size w7 (w7.alloc (.cells #[.bool ba, .slice pb ma.length cb] 24)) := (Below.refl _ _).alloc (Nat.le_refl _) _
  have t9 := heap_alloc_new w7 (.cells #[.bool ba, .slice pb ma.length cb] 24)
  have bB := hb7.trans (b9.mono hb7.size)
  replace oa := oa.below bB
  have hIb9 := hIb.below b9
  replace u2 := (bB.block _ (lt_of_block u2)).trans u2
  replace u3 := (bB.block _ (lt_of_block u3)).trans u3
  replace u5 := (bB.block _ (lt_of_block u5)).trans u5
  replace u6 := (bB.block _ (lt_of_block u6)).trans u6
  replace t7 := (bB.block _ (lt_of_block t7)).trans t7
  have bAB := below_size bA (Nat.le_refl _) bB
  replace hBA := below_size hBA (Nat.le_refl _) bB
  have s9 : w6.heap.size ≤ w7.heap.size := hb7.size
  obtain ⟨r4, r5, _, _⟩ := intVarT u5
  obtain ⟨r6, r7, _, _⟩ := intVarT u6
  clear r0 r1 r2 r3 hb7 b9 ob hIb
  go_wp2_with fail
  generalize hq9 : w7.alloc (.cells #[.bool ba, .slice pb ma.length cb] 24) = w8 at *
  clear hq9
  generalize w7.heap.size = i9 at *
  have hpa : ∀ g' n' c', Value.slice pa ma.length ca = .slice (some ⟨g', 0, none⟩) n' c' → g' < w8.heap.size := by
    intro g' n' c' he
    have ho := oa.1
    rw [he] at ho
    exact (ho.lt g' rfl).2
  -- c: whole.Mod
  have hg1c := hg1.below bAB
  have hg2c := hg2.below bAB
  have kyc := ky.below bAB
  have kxc := kx.below bAB
  refine (mod_any n1 n2 (hg1c.front (ys := pad) h1.size) (hg2c.front (ys := pad) h2.size)).mono ?_
  rintro e w9 ⟨vc, rfl, oc, hb9⟩
  obtain ⟨bc, Hbc⟩ : ∃ b, Hid (modB n1 xs n2 ys = b) := ⟨_, rfl⟩
  obtain ⟨ec, Hec⟩ : ∃ b, Hid (dvE n1 xs n2 ys = b) := ⟨_, rfl⟩
  obtain ⟨mc, Hmc⟩ : ∃ b, Hid (modM n1 xs n2 ys = b) := ⟨_, rfl⟩
  rw [Hmc.out] at oc
  rw [Hbc.out, Hec.out]
  obtain ⟨pc, cc, rfl, _⟩ := oc.2
  have b11 : Below w9.heap.size w9 (w9.alloc (.cells #[.bool bc, .slice pc mc.length cc] 25)) := (Below.refl _ _).alloc (Nat.le_refl _) _
  have t11 := heap_alloc_new w9 (.cells #[.bool bc, .slice pc mc.length cc] 25)
  have bC := hb9.trans (b11.mono hb9.size)
  replace oc := oc.below b11
  replace oa := oa.below bC
  replace hIb9 := hIb9.below bC
  replace u2 := (bC.block _ (lt_of_block u2)).trans u2
  replace u3 := (bC.block _ (lt_of_block u3)).trans u3
  replace u5 := (bC.block _ (lt_of_block u5)).trans u5
  replace u6 := (bC.block _ (lt_of_block u6)).trans u6
  replace t7 := (bC.block _ (lt_of_block t7)).trans t7
  replace t9 := (bC.block _ (lt_of_block t9)).trans t9
  have bAC := below_size bAB (Nat.le_refl _) bC
  replace hBA := below_size hBA (Nat.le_refl _) bC
  have s11 : w8.heap.size ≤ w9.heap.size := hb9.size
  obtain ⟨r0, r1, _, _⟩ := intVarT u2
  obtain ⟨r2, r3, _, _⟩ := intVarT u3
  clear r4 r5 r6 r7 hb9 b11
  go_wp2_with fail
  generalize hq11 : w9.alloc (.cells #[.bool bc, .slice pc mc.length cc] 25) = w10 at *
  clear hq11
  generalize w9.heap.size = i11 at *
  -- d: the document's Mod
  refine (rmod_any n1 n2 (kxc.below bC) (kyc.below bC)).mono ?_
  rintro e w11 ⟨vd, rfl, od, hb11⟩
  rw [Hmc.out] at od
  rw [Hbc.out, Hec.out]
  obtain ⟨pd, cd, rfl, hId⟩ := od.2
  have b13 : Below w11.heap.size w11 (w11.alloc (.cells #[.bool bc, .slice pd mc.length cd] 24)) := (Below.refl _ _).alloc (Nat.le_refl _) _
  have t13 := heap_alloc_new w11 (.cells #[.bool bc, .slice pd mc.length cd] 24)
  have bD := hb11.trans (b13.mono hb11.size)
  replace oa := oa.below bD
  replace oc := oc.below bD
  replace hIb9 := hIb9.below bD
  replace hId := hId.below b13
  replace od := od.below b13
  replace u2 := (bD.block _ (lt_of_block u2)).trans u2
  replace u3 := (bD.block _ (lt_of_block u3)).trans u3
  replace u5 := (bD.block _ (lt_of_block u5)).trans u5
  replace u6 := (bD.block _ (lt_of_block u6)).trans u6
  replace t7 := (bD.block _ (lt_of_block t7)).trans t7
  replace t9 := (bD.block _ (lt_of_block t9)).trans t9
  replace t11 := (bD.block _ (lt_of_block t11)).trans t11
  have bAD := below_size bAC (Nat.le_refl _) bD
  have bCD := below_size bC (Nat.le_refl _) bD
  replace hBA := below_size hBA (Nat.le_refl _) bD
  have s13 : w10.heap.size ≤ w11.heap.size := hb11.size
  clear r0 r1 r2 r3 hb11 b13
  obtain ⟨r0, r1, _, _⟩ := intVarT t7
  obtain ⟨r2, r3, _, _⟩ := intVarT t9
  obtain ⟨r4, r5, _, _⟩ := intVarT u5
  obtain ⟨r6, r7, _, _⟩ := intVarT u2
  go_wp2_with fail
  generalize hq13 : w11.alloc (.cells #[.bool bc, .slice pd mc.length cd] 24) = w12 at *
  clear hq13
  generalize w11.heap.size = i13 at *
  clear r0 r1 r2 r3 r4 r5 r6 r7
  refine (one_true (wo := w4) ba n1 n1 ea bAD oa hIb9 hg1 kx hl1).mono ?_
  rintro e w13 ⟨rfl, hW13, hk13⟩
  have s8 : w4.heap.size ≤ w8.heap.size := bAB.size
  have s10 : w8.heap.size ≤ w10.heap.size := bC.size
  have K : ∀ j, w8.heap.size ≤ j → j < w12.heap.size → w13.heap[j]? = w12.heap[j]? := fun j hj hj' => hk13 j hj' (fun g' n' c' he => by have := hpa g' n' c' he; omega)
  have oc13 := oc.keep (fun g hg hg' => K g hg hg')
  have od13 := od.keep (fun g hg hg' => K g (by omega) hg')
  have v11 := (K _ s11 (lt_of_block t11)).trans t11
  have v13 := (K _ (by omega) (lt_of_block t13)).trans t13
  have v2 := (hW13.block _ (lt_of_block t2)).trans t2
  have v3 := (hW13.block _ (lt_of_block t3)).trans t3
  have v5 := (hW13.block _ (lt_of_block t5)).trans t5
  have v6 := (hW13.block _ (lt_of_block t6)).trans t6
  clear K hk13
  obtain ⟨r0, r1, _, _⟩ := intVarT v11
  obtain ⟨r2, r3, _, _⟩ := intVarT v13
  obtain ⟨r4, r5, _, _⟩ := intVarT v6
  obtain ⟨r6, r7, _, _⟩ := intVarT v3
  go_wp2_with fail
  refine (one_true (wo := w4) bc n2 n2 ec hW13 (oc13.mono s8) od13.isB hg2 ky hl2).mono ?_
  rintro e w14 ⟨rfl, hW14, _⟩
  clear r0 r1 r2 r3 r4 r5 r6 r7
  go_wp2_with fail
  refine (known_true _).mono ?_
  rintro e w17 ⟨rfl, hb17⟩
  have hB17 := below_size (below_size hB1 (Nat.le_refl _) hW14) (Nat.le_refl _) hb17
  go_wp2
  go_ret
  exact ⟨rfl, hB17⟩
end Go.Proofs.YtgammgdckneoiabDoor
