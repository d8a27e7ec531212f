/- Format. -/
import Derived.Test.YtofgphiamllmdabRoom
import Derived.Test.YtofgphiamllmdabCat
import Derived.Test.YtofgphiamllmdabRecR
import Derived.Test.YtofgphiamllmdabLogR
namespace Go.Proofs.Ytofgphiamllmdab
open Go.RowKit
set_option maxRecDepth 100000

theorem arr_isB {w : World} {b ty : Nat} {xs : List Int} (h : ArrS w b ty xs) (hs : IsSec xs) : IsB w (some ⟨b, 0, none⟩) 128 128 xs :=
  ⟨hs.len, Nat.le_refl _, by unfold maxLen; decide, (fun h => by cases h), hs.byte, fun _ => ⟨b, 0, rfl, fun i hi => by rw [Nat.zero_add]; exact h.cell i (by rw [hs.len]; exact hi)⟩⟩
theorem own_lt {w : World} {n₀ e sz n g : Nat} {v : Value} {xs : List Value} (h : w.ownsRow n₀ e sz v n xs) (hg : v.ownBlock = some g) : g < w.heap.size := by
  obtain ⟨_, cur, hh⟩ := own_block h hg
  exact lt_of_block hh
theorem own_cells {w : World} {n₀ n g c : Nat} {v : Value} {xs : List Int} (h : w.ownsRow n₀ 5 1 v n (xs.map (Value.int .u8))) (hv : v = .slice (some ⟨g, 0, none⟩) n c) : (n ≤ c ∧ c ≤ maxLen) ∧ ∀ (_ : ∀ x ∈ xs, 0 ≤ x ∧ x < 256), Bytes w g 0 xs := by
  subst hv
  rcases h.2 with ⟨h1, _⟩ | ⟨g', cap, cur, h1, hb, hh, hnc, hcm, hrest⟩
  · cases h1
  · injection h1 with h1 h2 h3
    injection h1 with h1
    injection h1 with h1
    subst h1 h3
    refine ⟨⟨hnc, hcm⟩, fun hby => ⟨hby, fun i hi => ?_⟩⟩
    have := World.ownsRow.cells h (g := g) rfl i (.int .u8 (xs.getD i 0)) (by rw [List.getElem?_map, List.getD_eq_getElem?_getD, List.getElem?_eq_getElem hi]; rfl)
    rwa [show (⟨g, 0, none⟩ : Addr).add i = ⟨g, 0 + i, none⟩ by unfold Addr.add; split <;> simp_all] at this
section
variable {w : World} {n₀ p bs bn : Nat} {pv : Value} {size : Int} {G0 G1 : Int → List Int} {L : List (Int × List Int)}
/-- A block that is newer than the device is none of its. -/
theorem Dev.aside {w' : World} {left : Int} {dead : Bool} (_ : Dev w' n₀ p bs bn pv size G0 G1 L left dead) {g : Nat} (hg : w.heap.size ≤ g) (D : Dev w n₀ p bs bn pv size G0 G1 L left dead) : g ≠ p ∧ g ≠ bs ∧ g ≠ bn ∧ pv.ownBlock ≠ some g := by
  have h1 := D.lt
  have h2 := D.safe.lt
  have h3 := D.now.lt
  refine ⟨by omega, by omega, by omega, fun e => ?_⟩
  have := D.pvlt e
  omega
set_option maxHeartbeats 4000000 in
theorem format_ok (D0 : Dev w n₀ p bs bn pv size G0 G1 L 0 false) (hs0 : 4 ≤ size) (hs1 : size ≤ 4096) (hL : L.length ≤ 999990000) :
    Calls Try.prog 11 #[.pointer (some ⟨p, 0, none⟩)] w fun e w' => e = .returned (.int .i64 0) ∧ Dev w' n₀ p bs bn (.slice none 0 0) size (appl G0 (L ++ wsP 0 (z128 ++ headB 1 0 1 1) (List.finRange 2))) (appl G1 (wsP 0 (z128 ++ headB 1 0 1 1) (List.finRange 2))) [] 0 false ∧ Fr p bs bn w pv w' (.slice none 0 0) := by
  go_enter Try.func11, Try.ntmps11
  go_wp2_with fail
  refine (check_ok D0 hs0).mono ?_
  rintro e w1 ⟨rfl, rfl⟩
  have hE0 : ArrS (w.alloc (.cells Try.zeroCells78 78)) w.heap.size 78 z128 := by have := heap_alloc_new w (.cells Try.zeroCells78 78); rw [zero78] at this; exact this
  have hB0 := box_below w (.cells Try.zeroCells78 78)
  go_wp2_with fail
  generalize w.alloc (.cells Try.zeroCells78 78) = w1 at *
  refine (head_sector w1 1 0 1 1).mono ?_
  rintro e w2 ⟨rfl, hb2⟩
  have hHS := headB_sec 1 0 1 1
  obtain ⟨HB', hHB⟩ : ∃ X, Hid (headB 1 0 1 1 = X) := ⟨_, rfl⟩
  rw [hHB.out] at hHS ⊢
  have hB2 := below_size hB0 (Nat.le_refl _) hb2
  have hE2 : ArrS w2 w.heap.size 78 z128 := (hb2.block _ (lt_of_block hE0)).trans hE0
  have hA0 := heap_alloc_new w2 (.cells Try.zeroCells78 78)
  have z1 : (Try.prog.info? 78).map (·.size) = some (cellsB HB').size := by rw [cellsB_size, hHS.len]; kernel_rfl
  have z2 : Try.zeroCells78.size = (cellsB HB').size := by rw [zero78, cellsB_size, cellsB_size, hHS.len, fillB_len (by decide)]
  have z3 := cellsB_one HB'
  have hA : ArrS ((w2.alloc (.cells Try.zeroCells78 78)).setRow w2.heap.size (cellsB HB')) w2.heap.size 78 HB' := setRow_heap _ _ _ _ _ _ hA0
  have hbW : Below w2.heap.size w2 ((w2.alloc (.cells Try.zeroCells78 78)).setRow w2.heap.size (cellsB HB')) := below_setRow (box_below w2 _) (Nat.le_refl _) _
  have hE : ArrS ((w2.alloc (.cells Try.zeroCells78 78)).setRow w2.heap.size (cellsB HB')) w.heap.size 78 z128 := (hbW.block _ (lt_of_block hE2)).trans hE2
  go_upto_region 6 with (first | refine wpList_store_row rfl 78 _ _ rfl w2.heap.size _ rfl rfl 78 _ hA0 z1 z2 z3 ?_)
  generalize (w2.alloc (.cells Try.zeroCells78 78)).setRow w2.heap.size (cellsB HB') = W at *
  have hBW := below_size hB2 (Nat.le_refl _) hbW
  have DV := D0.same (fun i hi => hBW.block i hi)
  generalize w2.heap.size = ab at *
  clear hA0 z1 z2 z3 hbW hE2 hE0 hB0 hb2 hB2
  obtain ⟨eb, heb⟩ : ∃ eb, w.heap.size = eb := ⟨_, rfl⟩
  rw [heb] at hE
  have e0 : (Value.pointer (some ⟨w.heap.size, 0, none⟩)) = .pointer (some ⟨eb, 0, none⟩) := by rw [heb]
  rw [e0]
  clear heb e0
  have hby : ∀ x ∈ z128 ++ HB', 0 ≤ x ∧ x < 256 := fun x hx => (List.mem_append.1 hx).elim (isSec_z.byte x) (hHS.byte x)
  have hxl : (z128 ++ HB').length = 128 * 2 := by rw [List.length_append, isSec_z.len, hHS.len]
  refine wp_region_inv' (fun A D a w' => ∃ v14 v15 v16 v17 v18 v19 v6 nb gb cc, a = (((((((A.put (some 14) v14).put (some 15) v15).put (some 16) v16).put (some 17) v17).put (some 18) v18).put (some 19) v19).put (some 6) v6) ∧ (D 5 ∨ Below W.heap.size W w') ∧ (D 0 → v14 = .pointer (some ⟨p, 0, none⟩)) ∧ (D 1 → v15 = .slice (some ⟨eb, 0, none⟩) 128 128) ∧ (D 2 → v16 = .slice (some ⟨ab, 0, none⟩) 128 128) ∧ (D 3 → v17 = .slice (some ⟨nb, 0, none⟩) 2 2) ∧ (D 3 → w'.heap[nb]? = some (.cells #[.slice (some ⟨eb, 0, none⟩) 128 128, .slice (some ⟨ab, 0, none⟩) 128 128] 38 (0, 0))) ∧ (D 4 → v18 = .slice (some ⟨gb, 0, none⟩) 256 cc) ∧ (D 4 → w'.ownsRow W.heap.size 5 1 (.slice (some ⟨gb, 0, none⟩) 256 cc) 256 ((z128 ++ HB').map (Value.int .u8)) ∧ W.heap.size ≤ gb) ∧ (D 5 → v19 = .int .i64 0) ∧ (D 5 → ∃ pv', Dev w' n₀ p bs bn pv' size G0 (appl G1 (wsP 0 (z128 ++ HB') (List.finRange 2))) (L ++ wsP 0 (z128 ++ HB') (List.finRange 2)) 0 false ∧ Fr p bs bn W pv w' pv') ∧ (D 6 → v6 = .int .i64 0)) (by kernel_rfl) (by kernel_rfl) ?mono ?start ?step ?done
  case mono =>
    rintro D D' a w' hD ⟨v14, v15, v16, v17, v18, v19, v6, nb, gb, cc, ha, hB, e0, e1, e2, e3, h3, e4, h4, e5, hz, e6⟩
    exact ⟨v14, v15, v16, v17, v18, v19, v6, nb, gb, cc, ha, hB.imp_left (hD 5).1, fun h => e0 ((hD 0).2 h), fun h => e1 ((hD 1).2 h), fun h => e2 ((hD 2).2 h), fun h => e3 ((hD 3).2 h), fun h => h3 ((hD 3).2 h), fun h => e4 ((hD 4).2 h), fun h => h4 ((hD 4).2 h), fun h => e5 ((hD 5).2 h), fun h => hz ((hD 5).2 h), fun h => e6 ((hD 6).2 h)⟩
  case start => exact ⟨undef, undef, undef, undef, undef, undef, undef, 0, 0, 0, by kernel_rfl, .inr ((Below.refl _ _).drew), fun h => h.elim, fun h => h.elim, fun h => h.elim, fun h => h.elim, fun h => h.elim, fun h => h.elim, fun h => h.elim, fun h => h.elim, fun h => h.elim, fun h => h.elim⟩
  case step =>
    intro i o ho D a w' hI hn hcl hd
    obtain ⟨v14, v15, v16, v17, v18, v19, v6, nb, gb, cc, ha, hB, e0, e1, e2, e3, h3, e4, h4, e5, hz, e6⟩ := hI
    match i, ho with
    | 0, ho =>
      cases Option.some.inj ho
      have ev : a.tmps[0]?.getD undef = .pointer (some ⟨p, 0, none⟩) := by rw [ha]; kernel_rfl
      refine wp_value (w' := w') (v := .pointer (some ⟨p, 0, none⟩)) (by simp [execOp, ev, go_sem]) ?_
      exact ⟨(.pointer (some ⟨p, 0, none⟩)), v15, v16, v17, v18, v19, v6, nb, gb, cc, by rw [ha]; kernel_rfl, hB.imp_left .inr, fun _ => rfl, fun h => e1 (h.resolve_left (by decide)), fun h => e2 (h.resolve_left (by decide)), fun h => e3 (h.resolve_left (by decide)), fun h => h3 (h.resolve_left (by decide)), fun h => e4 (h.resolve_left (by decide)), fun h => h4 (h.resolve_left (by decide)), fun h => e5 (h.resolve_left (by decide)), fun h => hz (h.resolve_left (by decide)), fun h => e6 (h.resolve_left (by decide))⟩
    | 1, ho =>
      cases Option.some.inj ho
      have ev : a.tmps[4]?.getD undef = .pointer (some ⟨eb, 0, none⟩) := by rw [ha]; kernel_rfl
      refine wp_value (w' := w') (v := .slice (some ⟨eb, 0, none⟩) 128 128) (by simp [execOp, ev, go_sem]) ?_
      exact ⟨v14, (.slice (some ⟨eb, 0, none⟩) 128 128), v16, v17, v18, v19, v6, nb, gb, cc, by rw [ha]; kernel_rfl, hB.imp_left .inr, fun h => e0 (h.resolve_left (by decide)), fun _ => rfl, fun h => e2 (h.resolve_left (by decide)), fun h => e3 (h.resolve_left (by decide)), fun h => h3 (h.resolve_left (by decide)), fun h => e4 (h.resolve_left (by decide)), fun h => h4 (h.resolve_left (by decide)), fun h => e5 (h.resolve_left (by decide)), fun h => hz (h.resolve_left (by decide)), fun h => e6 (h.resolve_left (by decide))⟩
    | 2, ho =>
      cases Option.some.inj ho
      have ev : a.tmps[5]?.getD undef = .pointer (some ⟨ab, 0, none⟩) := by rw [ha]; kernel_rfl
      refine wp_value (w' := w') (v := .slice (some ⟨ab, 0, none⟩) 128 128) (by simp [execOp, ev, go_sem]) ?_
      exact ⟨v14, v15, (.slice (some ⟨ab, 0, none⟩) 128 128), v17, v18, v19, v6, nb, gb, cc, by rw [ha]; kernel_rfl, hB.imp_left .inr, fun h => e0 (h.resolve_left (by decide)), fun h => e1 (h.resolve_left (by decide)), fun _ => rfl, fun h => e3 (h.resolve_left (by decide)), fun h => h3 (h.resolve_left (by decide)), fun h => e4 (h.resolve_left (by decide)), fun h => h4 (h.resolve_left (by decide)), fun h => e5 (h.resolve_left (by decide)), fun h => hz (h.resolve_left (by decide)), fun h => e6 (h.resolve_left (by decide))⟩
    | 3, ho =>
      cases Option.some.inj ho
      have ev : a.tmps[15]?.getD undef = .slice (some ⟨eb, 0, none⟩) 128 128 := by rw [ha, e1 (hd ⟨1, .data⟩ (by simp) rfl)]; kernel_rfl
      have ev' : a.tmps[16]?.getD undef = .slice (some ⟨ab, 0, none⟩) 128 128 := by rw [ha, e2 (hd ⟨2, .data⟩ (by simp) rfl)]; kernel_rfl
      refine wp_value (w' := w'.alloc (.cells #[.slice (some ⟨eb, 0, none⟩) 128 128, .slice (some ⟨ab, 0, none⟩) 128 128] 38)) (v := .slice (some ⟨w'.heap.size, 0, none⟩) 2 2) (by simp [execOp, ev, ev', go_sem]) ?_
      exact ⟨v14, v15, v16, (.slice (some ⟨w'.heap.size, 0, none⟩) 2 2), v18, v19, v6, w'.heap.size, gb, cc, by rw [ha]; kernel_rfl, hB.imp .inr (fun h => h.alloc h.size _), fun h => e0 (h.resolve_left (by decide)), fun h => e1 (h.resolve_left (by decide)), fun h => e2 (h.resolve_left (by decide)), fun _ => rfl, fun _ => heap_alloc_new _ _, fun h => e4 (h.resolve_left (by decide)), fun h => absurd (h.resolve_left (by decide)) (fun h => hn (hcl 4 _ rfl h ⟨3, .data⟩ (by simp) rfl)), fun h => e5 (h.resolve_left (by decide)), fun h => absurd (h.resolve_left (by decide)) (fun h => (fun h => hn (hcl 4 _ rfl h ⟨3, .data⟩ (by simp) rfl)) (hcl 5 _ rfl h ⟨4, .data⟩ (by simp) rfl)), fun h => e6 (h.resolve_left (by decide))⟩
    | 4, ho =>
      cases Option.some.inj ho
      have ev : a.tmps[17]?.getD undef = .slice (some ⟨nb, 0, none⟩) 2 2 := by rw [ha, e3 (hd ⟨3, .data⟩ (by simp) rfl)]; kernel_rfl
      have hb4 := hB.resolve_left (fun h => hn (hcl 5 _ rfl h ⟨4, .data⟩ (by simp) rfl))
      have A4 : ArrS w' ab 78 HB' := (hb4.block ab (lt_of_block hA)).trans hA
      have E4 : ArrS w' eb 78 z128 := (hb4.block eb (lt_of_block hE)).trans hE
      have h3' := h3 (hd ⟨3, .data⟩ (by simp) rfl)
      refine wp_enter (f := 47) (args := #[.slice (some ⟨nb, 0, none⟩) 2 2]) (by simp [execOp, ev, go_sem]) ?_
      refine (concat2 nb (some ⟨eb, 0, none⟩) (some ⟨ab, 0, none⟩) 128 128 128 128 z128 HB' w' (arr_isB E4 isSec_z) (arr_isB A4 hHS) (by rw [cell_of_row _ nb _ _ _ _ h3']; rfl) (by rw [cell_of_row _ nb _ _ _ _ h3']; rfl) (by decide) (by decide)).mono ?_
      rintro e w6 ⟨cap', rfl, hO, HB⟩
      refine ⟨_, rfl, ?_⟩
      exact ⟨v14, v15, v16, v17, (.slice (some ⟨w'.heap.size, 0, none⟩) 256 cap'), v19, v6, nb, w'.heap.size, cap', by rw [ha]; kernel_rfl, hB.imp .inr (fun h => below_size h (Nat.le_refl _) HB), fun h => e0 (h.resolve_left (by decide)), fun h => e1 (h.resolve_left (by decide)), fun h => e2 (h.resolve_left (by decide)), fun h => e3 (h.resolve_left (by decide)), fun h => (HB.block _ (lt_of_block (h3 (h.resolve_left (by decide))))).trans (h3 (h.resolve_left (by decide))), fun _ => rfl, fun _ => ⟨own_mono hO hb4.size, hb4.size⟩, fun h => e5 (h.resolve_left (by decide)), fun h => absurd (h.resolve_left (by decide)) (fun h => hn (hcl 5 _ rfl h ⟨4, .data⟩ (by simp) rfl)), fun h => e6 (h.resolve_left (by decide))⟩
    | 5, ho =>
      cases Option.some.inj ho
      have ev : a.tmps[14]?.getD undef = .pointer (some ⟨p, 0, none⟩) := by rw [ha, e0 (hd ⟨0, .data⟩ (by simp) rfl)]; kernel_rfl
      have ev' : a.tmps[18]?.getD undef = .slice (some ⟨gb, 0, none⟩) 256 cc := by rw [ha, e4 (hd ⟨4, .data⟩ (by simp) rfl)]; kernel_rfl
      have hb5 := hB.resolve_left hn
      have D5 := DV.same (fun i hi => hb5.block i hi)
      obtain ⟨O5, hgb5⟩ := h4 (hd ⟨4, .data⟩ (by simp) rfl)
      obtain ⟨c5, hg5⟩ := own_cells O5 rfl
      have hgp := D5.aside hgb5 DV
      refine wp_enter (f := 29) (args := #[.pointer (some ⟨p, 0, none⟩), .int .i64 0, .slice (some ⟨gb, 0, none⟩) 256 cc]) (by simp [execOp, ev, ev', go_sem]) ?_
      refine (Write_ok D5 hs1 0 (by decide) gb 0 cc 2 c5.1 c5.2 (by decide) (by omega) (z128 ++ HB') hxl (hg5 hby) (own_lt O5 rfl) hgp.1 hgp.2.1 hgp.2.2.1 hgp.2.2.2 hL).mono ?_
      rintro e w6 ⟨rfl, pv6, D6, F6⟩
      refine ⟨_, rfl, ?_⟩
      exact ⟨v14, v15, v16, v17, v18, (.int .i64 0), v6, nb, gb, cc, by rw [ha]; kernel_rfl, .inl (.inl rfl), fun h => e0 (h.resolve_left (by decide)), fun h => e1 (h.resolve_left (by decide)), fun h => e2 (h.resolve_left (by decide)), fun h => e3 (h.resolve_left (by decide)), fun h => (F6.cells D5 (h3 (h.resolve_left (by decide))) (by decide) (by decide)), fun h => e4 (h.resolve_left (by decide)), fun h => ⟨own_same O5 (fun g hg => by obtain ⟨_, cur, hh⟩ := own_block O5 hg; exact (F6.cells D5 hh (by decide) (by decide)).trans hh.symm), hgb5⟩, fun _ => rfl, fun _ => ⟨pv6, D6, (Fr.of_below hb5).trans F6⟩, fun h => e6 (h.resolve_left (by decide))⟩
    | 6, ho =>
      cases Option.some.inj ho
      have ev : a.tmps[19]?.getD undef = .int .i64 0 := by rw [ha, e5 (hd ⟨5, .data⟩ (by simp) rfl)]; kernel_rfl
      refine wp_value (w' := w') (v := .int .i64 0) (by simp [execOp, ev, go_sem]) ?_
      exact ⟨v14, v15, v16, v17, v18, v19, (.int .i64 0), nb, gb, cc, by rw [ha]; kernel_rfl, hB.imp_left .inr, fun h => e0 (h.resolve_left (by decide)), fun h => e1 (h.resolve_left (by decide)), fun h => e2 (h.resolve_left (by decide)), fun h => e3 (h.resolve_left (by decide)), fun h => h3 (h.resolve_left (by decide)), fun h => e4 (h.resolve_left (by decide)), fun h => h4 (h.resolve_left (by decide)), fun h => e5 (h.resolve_left (by decide)), fun h => hz (h.resolve_left (by decide)), fun _ => rfl⟩
    | i + 7, ho => simp at ho
  case done =>
    rintro D a w' ⟨v14, v15, v16, v17, v18, v19, v6, nb, gb, cc, ha, hB, e0, e1, e2, e3, h3, e4, h4, e5, hz, e6⟩ hall
    obtain ⟨pv6, D6, F6⟩ := hz (hall 5 (by decide))
    obtain rfl := e0 (hall 0 (by decide))
    obtain rfl := e1 (hall 1 (by decide))
    obtain rfl := e2 (hall 2 (by decide))
    obtain rfl := e3 (hall 3 (by decide))
    obtain rfl := e4 (hall 4 (by decide))
    obtain rfl := e5 (hall 5 (by decide))
    obtain rfl := e6 (hall 6 (by decide))
    clear h3 h4 hz hall hB e0 e1 e2 e3 e4 e5 e6
    rw [ha]
    clear ha
    simp only [Act.put, List.setIfInBounds_toArray, List.set_cons_zero, List.set_cons_succ]
    go_wp2_with fail
    refine (Flush_some D6 (by rw [List.length_append, wsP_len, List.length_finRange]; omega)).mono ?_
    rintro e w7 ⟨rfl, D7, F7⟩
    have F8 := (Fr.of_below hBW).trans (F6.trans F7)
    clear D6 F6 F7 DV hA hE
    go_wp2
    go_ret
    rw [hHB.out]
    exact ⟨rfl, D7, F8⟩
end
end Go.Proofs.Ytofgphiamllmdab
