/- Bytes read as a number. -/
import Derived.Test.YtkpngpongbpfgaaRdN
import Derived.BigQuiet
import Derived.Deep.CutBlock
namespace Go.Proofs.Ytkpngpongbpfgaa
open Go.RowKit
set_option maxRecDepth 100000
/-- What bytes are read as: whether it could be, Pair, Neg, the digits, the two parts. -/
def parseN : List Int → Bool × Bool × Bool × List Int × Nat × Nat
  | [] => (false, false, false, [], 0, 0)
  | b :: r => if b = 0 ∨ b = 1 then (true, false, decide (b = 1), r, 0, 0) else if b = 2 ∧ r.length = 16 then (true, true, false, [], val8 (r.take 8), val8 ((r.drop 8).take 8)) else (false, false, false, [], 0, 0)
def RdP (w : World) (xs : List Int) (e : Ending) (w' : World) : Prop := ∃ a n c, e = .returned (.tuple #[.agg #[.bool (parseN xs).2.1, .bool (parseN xs).2.2.1, .slice a n c, .complex .f64 (parseN xs).2.2.2.2.1 (parseN xs).2.2.2.2.2], .bool (parseN xs).1]) ∧ IsB w' a n c (parseN xs).2.2.2.1 ∧ Below w.heap.size w w'
theorem isB_nilN (w : World) : IsB w none 0 0 [] := ⟨rfl, Nat.le_refl _, by decide, fun _ => rfl, by simp, fun h => absurd h (by decide)⟩
theorem Try.results40 : Try.f40.results = #[.cell 2 31, .tmp 3] := by kernel_rfl
set_option maxHeartbeats 4000000 in
theorem readNum_any {w : World} {ja : Option Addr} {jn jc : Nat} {xs : List Int} (h : IsB w ja jn jc xs) : Calls Try.prog 40 #[.slice ja jn jc] w fun e w' => RdP w xs e w' := by
  have hsz := h.size
  have E1 := newF w (numP false false (.slice none 0 0) 0 0)
  have B1 : Below w.heap.size w (w.alloc (numP false false (.slice none 0 0) 0 0)) := box_belowF
  have I1 := h.below B1
  have hsc := stC_run
  unfold numP at E1 B1 I1
  go_enter Try.func40, Try.ntmps40
  go_upto_region 1 with fail
  generalize w.alloc (.cells #[.bool false, .bool false, .slice none 0 0, .complex .f64 0 0] 31) = w1 at *
  replace E1 : w1.heap[w.heap.size]? = some (numP false false (.slice none 0 0) 0 0) := E1
  obtain ⟨z0, z1, z2, z3, zf⟩ := numP_cells E1
  have E9 := stP_blk E1 false false (.slice none 0 0) 0 0
  have fin0 : parseN xs = (false, false, false, [], 0, 0) → RdP w xs (.returned (.tuple #[.agg #[.bool false, .bool false, .slice none 0 0, .complex .f64 0 0], .bool false])) (stP w1 w.heap.size false false (.slice none 0 0) 0 0) := fun e => by
    unfold RdP
    rw [e]
    exact ⟨none, 0, 0, rfl, isB_nilN _, stP_below B1 (Nat.le_refl _) _ _ _ _ _⟩
  cases xs with
  | nil =>
    obtain rfl : jn = 0 := hsz.symm
    go_wp2
    exact bodyPost_ret (v := .tuple #[.agg #[.bool false, .bool false, .slice none 0 0, .complex .f64 0 0], .bool false]) (results_twoN Try.results40 rfl (load31 E9) rfl) rfl (fin0 rfl)
  | cons b r =>
    rw [List.length_cons] at hsz
    obtain ⟨g, off, rfl, hc⟩ := I1.cells (by omega)
    have c0 := hc 0 (by omega)
    rw [Nat.add_zero] at c0
    simp only [List.getD_cons_zero] at c0
    have hb0 : ((jn : Int) == 0) = false := by simp; omega
    have hn0 : (0 : Int) < (jn : Int) := by omega
    have hbb := h.byte b (by simp)
    have hsl := run_from (some ⟨g, off, none⟩) jn jc 1
    have IR := I1.from 1 (by omega)
    have IW := h.from 1 (by omega)
    rw [List.drop_succ_cons, List.drop_zero] at IR IW
    obtain ⟨ra, hra⟩ : ∃ ra, Hid (winA (some ⟨g, off, none⟩) 1 jc = ra) := ⟨_, rfl⟩
    obtain ⟨rn, hrn⟩ : ∃ rn, Hid (jn - 1 = rn) := ⟨_, rfl⟩
    obtain ⟨rc, hrc⟩ : ∃ rc, Hid (jc - 1 = rc) := ⟨_, rfl⟩
    rw [hra.out, hrn.out, hrc.out] at IR IW
    have hsl1 : ∀ w : World, (Instr.slice 22 (.slice (some ⟨g, off, none⟩) jn jc) (some (.int .i64 1)) none none).run Try.prog w = .ok (.slice ra rn rc) w := fun w => by
      have := hsl w (by omega)
      rw [hra.out, hrn.out, hrc.out] at this
      exact this
    clear hsl hc
    have hrl := IR.size
    go_upto_region 3 with fail
    go_quiet (fail)
    have E2 : (w1.drewN nq).heap[w.heap.size]? = some (numP false false (.slice none 0 0) 0 0) := by simpa using E1
    have B2 : Below w.heap.size w (w1.drewN nq) := below_drewN B1 nq
    have I2 : IsB (w1.drewN nq) ra rn rc r := IW.below B2
    clear z0 z1 z2 z3 zf E9 fin0 E1 B1 IR c0 hb0 hn0 hsl1 I1 h hra hrn hrc
    generalize w1.drewN nq = w2 at *
    obtain ⟨z0, z1, z2, z3, zf⟩ := numP_cells E2
    by_cases h01 : b = 0 ∨ b = 1
    · have ep : parseN (b :: r) = (true, false, decide (b = 1), r, 0, 0) := by show (if _ then _ else _) = _; rw [if_pos h01]
      have E8 := stP_blk E2 false (decide (b = 1)) (.slice ra rn rc) 0 0
      have fin1 : RdP w (b :: r) (.returned (.tuple #[.agg #[.bool false, .bool (decide (b = 1)), .slice ra rn rc, .complex .f64 0 0], .bool true])) (stP w2 w.heap.size false (decide (b = 1)) (.slice ra rn rc) 0 0) := by
        unfold RdP
        rw [ep]
        exact ⟨ra, rn, rc, rfl, IW.below (stP_below B2 (Nat.le_refl _) _ _ _ _ _), stP_below B2 (Nat.le_refl _) _ _ _ _ _⟩
      rcases h01 with rfl | rfl
      · go_wp2
        exact bodyPost_ret (v := .tuple #[.agg #[.bool false, .bool (decide ((0 : Int) = 1)), .slice ra rn rc, .complex .f64 0 0], .bool true]) (results_twoN Try.results40 rfl (load31 E8) rfl) rfl fin1
      · go_wp2
        exact bodyPost_ret (v := .tuple #[.agg #[.bool false, .bool (decide ((1 : Int) = 1)), .slice ra rn rc, .complex .f64 0 0], .bool true]) (results_twoN Try.results40 rfl (load31 E8) rfl) rfl fin1
    · have b0 : (b == 0) = false := by simp; omega
      have b1 : (b == 1) = false := by simp; omega
      have E9 := stP_blk E2 false false (.slice none 0 0) 0 0
      have fin0 : parseN (b :: r) = (false, false, false, [], 0, 0) → RdP w (b :: r) (.returned (.tuple #[.agg #[.bool false, .bool false, .slice none 0 0, .complex .f64 0 0], .bool false])) (stP w2 w.heap.size false false (.slice none 0 0) 0 0) := fun e => by
        unfold RdP
        rw [e]
        exact ⟨none, 0, 0, rfl, isB_nilN _, stP_below B2 (Nat.le_refl _) _ _ _ _ _⟩
      by_cases h2 : b = 2
      · subst h2
        by_cases h16 : rn = 16
        · subst h16
          have ep : parseN ((2 : Int) :: r) = (true, true, false, [], val8 (r.take 8), val8 ((r.drop 8).take 8)) := by show (if _ then _ else _) = _; rw [if_pos ⟨rfl, hrl⟩]
          have I3 := I2.from 8 (by omega)
          have hsl8 := run_from ra 16 rc 8
          obtain ⟨ta, hta⟩ : ∃ ta, Hid (winA ra 8 rc = ta) := ⟨_, rfl⟩
          obtain ⟨tc, htc⟩ : ∃ tc, Hid (rc - 8 = tc) := ⟨_, rfl⟩
          rw [hta.out, htc.out] at I3
          have hslice : ∀ w : World, (Instr.slice 22 (.slice ra 16 rc) (some (.int .i64 8)) none none).run Try.prog w = .ok (.slice ta 8 tc) w := fun w => by
            have := hsl8 w (by omega)
            rw [hta.out, htc.out] at this
            exact this
          have IR' : IsB w2.drew ra 16 rc r := I2.drewN 1
          have IT' : IsB w2.drew ta 8 tc (r.drop 8) := I3.drewN 1
          have E1' : w2.drew.heap[w.heap.size]? = some (numP false false (.slice none 0 0) 0 0) := E2
          have B3 : Below w.heap.size w w2.drew := B2.drew
          clear hsl8 hta htc
          go_upto_region 11 with fail
          clear z0 z1 z2 z3 zf
          refine wp_region_inv' (fun A D a w' => ∃ v30 v31 v32 v33 v34 v35 v36 v3, a = ((((((((A.put (some 30) v30).put (some 31) v31).put (some 32) v32).put (some 33) v33).put (some 34) v34).put (some 35) v35).put (some 36) v36).put (some 3) v3) ∧ (D 7 ∨ w' = w2.drew) ∧ (D 7 → w' = stP w2.drew w.heap.size true false (.slice none 0 0) (val8 (r.take 8)) (val8 ((r.drop 8).take 8))) ∧ (D 0 → v30 = .slice ra 16 rc) ∧ (D 1 → v31 = .float .f64 (val8 (r.take 8))) ∧ (D 2 → v32 = .slice ra 16 rc) ∧ (D 3 → v33 = .slice ta 8 tc) ∧ (D 4 → v34 = .float .f64 (val8 ((r.drop 8).take 8))) ∧ (D 5 → v35 = .complex .f64 (val8 (r.take 8)) (val8 ((r.drop 8).take 8))) ∧ (D 6 → v36 = .agg #[.bool true, .bool false, .slice none 0 0, .complex .f64 (val8 (r.take 8)) (val8 ((r.drop 8).take 8))]) ∧ (D 8 → v3 = .bool true)) (by kernel_rfl) (by kernel_rfl) ?mono ?start ?step ?done
          case mono =>
            rintro D D' a w' hD ⟨v30, v31, v32, v33, v34, v35, v36, v3, ha, hw, hQ, e0, e1, e2, e3, e4, e5, e6, e8⟩
            exact ⟨v30, v31, v32, v33, v34, v35, v36, v3, ha, hw.imp_left (hD 7).1, fun h => hQ ((hD 7).2 h), fun h => e0 ((hD 0).2 h), fun h => e1 ((hD 1).2 h), fun h => e2 ((hD 2).2 h), fun h => e3 ((hD 3).2 h), fun h => e4 ((hD 4).2 h), fun h => e5 ((hD 5).2 h), fun h => e6 ((hD 6).2 h), fun h => e8 ((hD 8).2 h)⟩
          case start => exact ⟨undef, undef, undef, undef, undef, undef, undef, .bool false, by kernel_rfl, .inr (rfl), fun h => h.elim, fun h => h.elim, fun h => h.elim, fun h => h.elim, fun h => h.elim, fun h => h.elim, fun h => h.elim, fun h => h.elim, fun h => h.elim⟩
          case step =>
            intro i o ho D a w' hI hn hcl hd
            obtain ⟨v30, v31, v32, v33, v34, v35, v36, v3, ha, hw, hQ, e0, e1, e2, e3, e4, e5, e6, e8⟩ := hI
            match i, ho with
            | 0, ho =>
              cases Option.some.inj ho
              have ev : a.tmps[5]?.getD undef = .slice ra 16 rc := by rw [ha]; kernel_rfl
              refine wp_value (w' := w') (v := .slice ra 16 rc) (by simp [execOp, ev, go_sem]) ?_
              exact ⟨(.slice ra 16 rc), v31, v32, v33, v34, v35, v36, v3, by rw [ha]; kernel_rfl, hw.imp_left .inr, fun h => hQ (h.resolve_left (by decide)), fun _ => rfl, fun h => e1 (h.resolve_left (by decide)), fun h => e2 (h.resolve_left (by decide)), fun h => e3 (h.resolve_left (by decide)), fun h => e4 (h.resolve_left (by decide)), fun h => e5 (h.resolve_left (by decide)), fun h => e6 (h.resolve_left (by decide)), fun h => e8 (h.resolve_left (by decide))⟩
            | 1, ho =>
              cases Option.some.inj ho
              have ev : a.tmps[30]?.getD undef = .slice ra 16 rc := by rw [ha, e0 (hd ⟨0, .data⟩ (by simp) rfl)]; kernel_rfl
              obtain rfl := hw.resolve_left (fun h => (fun h => (fun h => hn (hcl 5 _ rfl h ⟨1, .data⟩ (by simp) rfl)) (hcl 6 _ rfl h ⟨5, .data⟩ (by simp) rfl)) (hcl 7 _ rfl h ⟨6, .data⟩ (by simp) rfl))
              refine wp_enter (f := 70) (args := #[.slice ra 16 rc]) (by simp [execOp, ev, go_sem]) ?_
              refine (readFloat_any IR' (by omega)).mono ?_
              rintro e w6 ⟨rfl, rfl⟩
              refine ⟨_, rfl, ?_⟩
              exact ⟨v30, (.float .f64 (val8 (r.take 8))), v32, v33, v34, v35, v36, v3, by rw [ha]; kernel_rfl, hw.imp_left .inr, fun h => hQ (h.resolve_left (by decide)), fun h => e0 (h.resolve_left (by decide)), fun _ => rfl, fun h => e2 (h.resolve_left (by decide)), fun h => e3 (h.resolve_left (by decide)), fun h => e4 (h.resolve_left (by decide)), fun h => e5 (h.resolve_left (by decide)), fun h => e6 (h.resolve_left (by decide)), fun h => e8 (h.resolve_left (by decide))⟩
            | 2, ho =>
              cases Option.some.inj ho
              have ev : a.tmps[5]?.getD undef = .slice ra 16 rc := by rw [ha]; kernel_rfl
              refine wp_value (w' := w') (v := .slice ra 16 rc) (by simp [execOp, ev, go_sem]) ?_
              exact ⟨v30, v31, (.slice ra 16 rc), v33, v34, v35, v36, v3, by rw [ha]; kernel_rfl, hw.imp_left .inr, fun h => hQ (h.resolve_left (by decide)), fun h => e0 (h.resolve_left (by decide)), fun h => e1 (h.resolve_left (by decide)), fun _ => rfl, fun h => e3 (h.resolve_left (by decide)), fun h => e4 (h.resolve_left (by decide)), fun h => e5 (h.resolve_left (by decide)), fun h => e6 (h.resolve_left (by decide)), fun h => e8 (h.resolve_left (by decide))⟩
            | 3, ho =>
              cases Option.some.inj ho
              have ev : a.tmps[32]?.getD undef = .slice ra 16 rc := by rw [ha, e2 (hd ⟨2, .data⟩ (by simp) rfl)]; kernel_rfl
              refine wp_value (w' := w') (v := .slice ta 8 tc) (by simp [execOp, ev, go_sem, hslice]) ?_
              exact ⟨v30, v31, v32, (.slice ta 8 tc), v34, v35, v36, v3, by rw [ha]; kernel_rfl, hw.imp_left .inr, fun h => hQ (h.resolve_left (by decide)), fun h => e0 (h.resolve_left (by decide)), fun h => e1 (h.resolve_left (by decide)), fun h => e2 (h.resolve_left (by decide)), fun _ => rfl, fun h => e4 (h.resolve_left (by decide)), fun h => e5 (h.resolve_left (by decide)), fun h => e6 (h.resolve_left (by decide)), fun h => e8 (h.resolve_left (by decide))⟩
            | 4, ho =>
              cases Option.some.inj ho
              have ev : a.tmps[33]?.getD undef = .slice ta 8 tc := by rw [ha, e3 (hd ⟨3, .data⟩ (by simp) rfl)]; kernel_rfl
              obtain rfl := hw.resolve_left (fun h => (fun h => (fun h => hn (hcl 5 _ rfl h ⟨4, .data⟩ (by simp) rfl)) (hcl 6 _ rfl h ⟨5, .data⟩ (by simp) rfl)) (hcl 7 _ rfl h ⟨6, .data⟩ (by simp) rfl))
              refine wp_enter (f := 70) (args := #[.slice ta 8 tc]) (by simp [execOp, ev, go_sem]) ?_
              refine (readFloat_any IT' (by omega)).mono ?_
              rintro e w6 ⟨rfl, rfl⟩
              refine ⟨_, rfl, ?_⟩
              exact ⟨v30, v31, v32, v33, (.float .f64 (val8 ((r.drop 8).take 8))), v35, v36, v3, by rw [ha]; kernel_rfl, hw.imp_left .inr, fun h => hQ (h.resolve_left (by decide)), fun h => e0 (h.resolve_left (by decide)), fun h => e1 (h.resolve_left (by decide)), fun h => e2 (h.resolve_left (by decide)), fun h => e3 (h.resolve_left (by decide)), fun _ => rfl, fun h => e5 (h.resolve_left (by decide)), fun h => e6 (h.resolve_left (by decide)), fun h => e8 (h.resolve_left (by decide))⟩
            | 5, ho =>
              cases Option.some.inj ho
              have ev : a.tmps[31]?.getD undef = .float .f64 (val8 (r.take 8)) := by rw [ha, e1 (hd ⟨1, .data⟩ (by simp) rfl)]; kernel_rfl
              have ev' : a.tmps[34]?.getD undef = .float .f64 (val8 ((r.drop 8).take 8)) := by rw [ha, e4 (hd ⟨4, .data⟩ (by simp) rfl)]; kernel_rfl
              refine wp_value (w' := w') (v := .complex .f64 (val8 (r.take 8)) (val8 ((r.drop 8).take 8))) (by simp [execOp, ev, ev', go_sem]) ?_
              exact ⟨v30, v31, v32, v33, v34, (.complex .f64 (val8 (r.take 8)) (val8 ((r.drop 8).take 8))), v36, v3, by rw [ha]; kernel_rfl, hw.imp_left .inr, fun h => hQ (h.resolve_left (by decide)), fun h => e0 (h.resolve_left (by decide)), fun h => e1 (h.resolve_left (by decide)), fun h => e2 (h.resolve_left (by decide)), fun h => e3 (h.resolve_left (by decide)), fun h => e4 (h.resolve_left (by decide)), fun _ => rfl, fun h => e6 (h.resolve_left (by decide)), fun h => e8 (h.resolve_left (by decide))⟩
            | 6, ho =>
              cases Option.some.inj ho
              have ev : a.tmps[35]?.getD undef = .complex .f64 (val8 (r.take 8)) (val8 ((r.drop 8).take 8)) := by rw [ha, e5 (hd ⟨5, .data⟩ (by simp) rfl)]; kernel_rfl
              refine wp_value (w' := w') (v := .agg #[.bool true, .bool false, .slice none 0 0, .complex .f64 (val8 (r.take 8)) (val8 ((r.drop 8).take 8))]) (by simp [execOp, ev, go_sem]) ?_
              exact ⟨v30, v31, v32, v33, v34, v35, (.agg #[.bool true, .bool false, .slice none 0 0, .complex .f64 (val8 (r.take 8)) (val8 ((r.drop 8).take 8))]), v3, by rw [ha]; kernel_rfl, hw.imp_left .inr, fun h => hQ (h.resolve_left (by decide)), fun h => e0 (h.resolve_left (by decide)), fun h => e1 (h.resolve_left (by decide)), fun h => e2 (h.resolve_left (by decide)), fun h => e3 (h.resolve_left (by decide)), fun h => e4 (h.resolve_left (by decide)), fun h => e5 (h.resolve_left (by decide)), fun _ => rfl, fun h => e8 (h.resolve_left (by decide))⟩
            | 7, ho =>
              cases Option.some.inj ho
              have ev : a.tmps[2]?.getD undef = .pointer (some ⟨w.heap.size, 0, none⟩) := by rw [ha]; kernel_rfl
              have ev' : a.tmps[36]?.getD undef = .agg #[.bool true, .bool false, .slice none 0 0, .complex .f64 (val8 (r.take 8)) (val8 ((r.drop 8).take 8))] := by rw [ha, e6 (hd ⟨6, .data⟩ (by simp) rfl)]; kernel_rfl
              obtain rfl := hw.resolve_left hn
              obtain ⟨z0, z1, z2, z3, zf⟩ := numP_cells E2
              refine wp_skip (w' := stP w2.drew w.heap.size true false (.slice none 0 0) (val8 (r.take 8)) (val8 ((r.drop 8).take 8))) (by simp [execOp, ev, ev', go_sem, z0, z1, z2, z3, zf, hsc, stP]) ?_
              exact ⟨v30, v31, v32, v33, v34, v35, v36, v3, by rw [ha]; kernel_rfl, .inl (.inl rfl), fun _ => rfl, fun h => e0 (h.resolve_left (by decide)), fun h => e1 (h.resolve_left (by decide)), fun h => e2 (h.resolve_left (by decide)), fun h => e3 (h.resolve_left (by decide)), fun h => e4 (h.resolve_left (by decide)), fun h => e5 (h.resolve_left (by decide)), fun h => e6 (h.resolve_left (by decide)), fun h => e8 (h.resolve_left (by decide))⟩
            | 8, ho =>
              cases Option.some.inj ho
              refine wp_value (w' := w') (v := .bool true) (by simp [execOp, go_sem]) ?_
              exact ⟨v30, v31, v32, v33, v34, v35, v36, (.bool true), by rw [ha]; kernel_rfl, hw.imp_left .inr, fun h => hQ (h.resolve_left (by decide)), fun h => e0 (h.resolve_left (by decide)), fun h => e1 (h.resolve_left (by decide)), fun h => e2 (h.resolve_left (by decide)), fun h => e3 (h.resolve_left (by decide)), fun h => e4 (h.resolve_left (by decide)), fun h => e5 (h.resolve_left (by decide)), fun h => e6 (h.resolve_left (by decide)), fun _ => rfl⟩
            | i + 9, ho => simp at ho
          case done =>
            rintro D a w' ⟨v30, v31, v32, v33, v34, v35, v36, v3, ha, hw, hQ, e0, e1, e2, e3, e4, e5, e6, e8⟩ hall
            have hq := hQ (hall 7 (by decide))
            obtain rfl := e0 (hall 0 (by decide))
            obtain rfl := e1 (hall 1 (by decide))
            obtain rfl := e2 (hall 2 (by decide))
            obtain rfl := e3 (hall 3 (by decide))
            obtain rfl := e4 (hall 4 (by decide))
            obtain rfl := e5 (hall 5 (by decide))
            obtain rfl := e6 (hall 6 (by decide))
            obtain rfl := e8 (hall 8 (by decide))
            subst hq
            clear hw hQ hall e0 e1 e2 e3 e4 e5 e6 e8
            rw [ha]
            clear ha
            simp only [Act.put, List.setIfInBounds_toArray, List.set_cons_zero, List.set_cons_succ]
            go_wp2
            exact bodyPost_ret (v := .tuple #[.agg #[.bool true, .bool false, .slice none 0 0, .complex .f64 (val8 (r.take 8)) (val8 ((r.drop 8).take 8))], .bool true]) (results_twoN Try.results40 rfl (load31 (stP_blk E1' true false (.slice none 0 0) _ _)) rfl) rfl (by unfold RdP; rw [ep]; exact ⟨none, 0, 0, rfl, isB_nilN _, stP_below B3 (Nat.le_refl _) _ _ _ _ _⟩)
        · have hn16 : ((rn : Int) == 16) = false := by simp; omega
          go_wp2
          exact bodyPost_ret (v := .tuple #[.agg #[.bool false, .bool false, .slice none 0 0, .complex .f64 0 0], .bool false]) (results_twoN Try.results40 rfl (load31 E9) rfl) rfl (fin0 (by show (if _ then _ else _) = _; rw [if_neg (by rintro ⟨_, h⟩; omega)]))
      · have b2 : (b == 2) = false := by simp; omega
        go_wp2
        exact bodyPost_ret (v := .tuple #[.agg #[.bool false, .bool false, .slice none 0 0, .complex .f64 0 0], .bool false]) (results_twoN Try.results40 rfl (load31 E9) rfl) rfl (fin0 (by show (if _ then _ else _) = _; rw [if_neg h01, if_neg (by rintro ⟨h, _⟩; exact h2 h)]))
end Go.Proofs.Ytkpngpongbpfgaa
