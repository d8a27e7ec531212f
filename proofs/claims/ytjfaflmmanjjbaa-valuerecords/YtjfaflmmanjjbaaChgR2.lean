/- The reader: a record's changes. -/
import Derived.Test.YtjfaflmmanjjbaaChgR
namespace Go.Proofs.Ytjfaflmmanjjbaa
open Go.RowKit
set_option maxRecDepth 100000
set_option maxHeartbeats 8000000 in
theorem changes_rd {w0 w : World} {b : Nat} {s : Option (List Int)} (h : Rd w0 w b s) (B : Below w0.heap.size w0 w) (hb0 : w0.heap.size ≤ b) (hl : lenS s ≤ 140737488500000) : Calls Try.prog 53 #[.pointer (some ⟨b, 0, none⟩)] w fun e w' => ∃ v, e = .returned v ∧ OwnC w' w.heap.size 77 v (chsR (nR 4096 s).1 (nR 4096 s).2).1 ∧ Rd w0 w' b (chsR (nR 4096 s).1 (nR 4096 s).2).2 ∧ But b w w' := by
  have hbw : b < w.heap.size := by obtain ⟨_, _, _, E, _⟩ := h.blk; exact lt_of_block E
  have hN := nR_le (most := 4096) (s := s)
  have hN2 := nR_len 4096 s
  obtain ⟨N, s0, hNs⟩ : ∃ N s0, Hid (nR 4096 s = (N, s0)) := ⟨_, _, rfl⟩
  rw [hNs.out] at hN hN2 ⊢
  dsimp only at hN hN2 ⊢
  go_enter Try.func53, Try.ntmps53
  go_wp2_with fail
  go_step3
  go_wp2_with fail
  go_step3
  go_wp2_with fail
  refine (number_lit h B 4096 4096 rfl (by decide)).mono ?_
  rintro e w1 ⟨rfl, R1, K1⟩
  rw [hNs.out] at R1 ⊢
  dsimp only at R1 ⊢
  clear h
  go_wp2
  go_loopw [3, 7] (fun ov iv wr => ∃ (k : Nat) (a : Option Addr) (n c : Nat) (vs : List Ch) (s' : Option (List Int)), k ≤ N ∧ iv = .int .i64 (k : Int) ∧ ov = .slice a n c ∧ OwnC wr w.heap.size 77 (.slice a n c) vs ∧ vs.length = k ∧ Rd w0 wr b s' ∧ lenS s' ≤ 140737488500000 ∧ But b w wr ∧ chsR N s0 = (vs ++ (chsR (N - k) s').1, (chsR (N - k) s').2)) (fun _ iv _ => N - (intOf iv).toNat)
  case atStart => exact ⟨0, none, 0, 0, [], s0, by omega, rfl, rfl, ownC_nil _ _ _, rfl, R1, by omega, K1, by simp⟩
  case round =>
    clear R1 K1
    obtain ⟨k, a, n, c, vs, s', hk, rfl, rfl, O, hvl, R, hls, K, hS0⟩ := hrel
    have hS : Hid (chsR N s0 = (vs ++ (chsR (N - k) s').1, (chsR (N - k) s').2)) := hS0
    clear hS0
    have Bw := K.below B B.size hb0
    by_cases hlt : k < N
    · obtain ⟨j, hj⟩ : ∃ j, Hid (N - k = j + 1) := ⟨N - k - 1, by show N - k = _; omega⟩
      have hm := nR_le (most := 4096) (s := s')
      have hm2 := nR_len 4096 s'
      obtain ⟨m, t', hmt⟩ : ∃ m t', Hid (nR 4096 s' = (m, t')) := ⟨_, _, rfl⟩
      rw [hmt.out] at hm hm2
      dsimp only at hm hm2
      have ho2 := oR_len t'
      obtain ⟨o, u', ho⟩ : ∃ o u', Hid (oR t' = (o, u')) := ⟨_, _, rfl⟩
      rw [ho.out] at ho2
      dsimp only at ho2
      have hc0 : chR s' = if o = 0 then (⟨(m : Int), false, (objR u').1, (objR u').2.1, (objR u').2.2.1⟩, (objR u').2.2.2) else if o = 1 then (⟨(m : Int), true, 0, [], []⟩, u') else (⟨(m : Int), false, 0, [], []⟩, none) := by unfold chR; rw [hmt.out]; dsimp only; rw [ho.out]
      obtain ⟨_, _, _, rE, _⟩ := R.blk
      unfold rdO at rE
      go_wp2_with fail
      refine (number_lit R Bw 4096 4096 rfl (by decide)).mono ?_
      rintro e w2 ⟨rfl, R2, K2⟩
      rw [hmt.out] at R2 ⊢
      dsimp only at R2 ⊢
      obtain ⟨mi, hmi⟩ : ∃ mi : Int, Hid ((m : Int) = mi) := ⟨_, rfl⟩
      have hmb : 0 ≤ mi ∧ mi ≤ 4096 := by have := hmi.out; omega
      rw [hmi.out] at hc0 ⊢
      have O2 := O.but K2 rE hbw (by decide) (by decide)
      have K2' := K.trans K2
      clear O R K K2 Bw rE
      have B3 : Below w2.heap.size w2 (w2.alloc (.cells #[.int .i64 mi, .bool false, .int .i64 0, .slice none 0 0, .slice none 0 0] 77)) := box_below
      have E3 : (w2.alloc (.cells #[.int .i64 mi, .bool false, .int .i64 0, .slice none 0 0, .slice none 0 0] 77)).heap[w2.heap.size]? = some (chO mi false 0 (.slice none 0 0) (.slice none 0 0)) := new1 _ _
      have O3 := O2.below B3
      have R3 := R2.keep (B3.block b (by have := K2'.size; omega))
      have K3 := K2'.trans (But.of B3)
      have hvb : w.heap.size ≤ w2.heap.size := K2'.size
      have hgv : ∀ g, (Value.slice a n c).ownBlock = some g → g ≠ w2.heap.size := fun g hg => Nat.ne_of_lt (O2.lt g hg).2
      clear R2 O2 B3 K2'
      go_wp2_with fail
      generalize w2.alloc (.cells #[.int .i64 mi, .bool false, .int .i64 0, .slice none 0 0, .slice none 0 0] 77) = w3 at *
      generalize w2.heap.size = cb at *
      have hcb : cb ≠ b := by omega
      have Bw3 := K3.below B B.size hb0
      obtain ⟨_, _, _, rE, _⟩ := R3.blk
      unfold rdO at rE
      refine (octet_rd R3 Bw3).mono ?_
      rintro e w4 ⟨rfl, R4, K4⟩
      rw [ho.out] at R4 ⊢
      dsimp only at R4 ⊢
      have E4 := (K4.block cb (lt_of_block E3) hcb).trans E3
      have O4 := O3.but K4 rE hbw (by decide) (by decide)
      have K4' := K3.trans K4
      clear R3 O3 K3 E3 K4 Bw3 rE hmt ho hmi
      by_cases h0 : o = 0
      · subst h0
        rw [if_pos rfl] at hc0
        have Bw4 := K4'.below B B.size hb0
        have hol := objR_len u'
        have hcl := nR_le (most := 4096) (s := u')
        have hcl2 : (objR u').1 = ((nR 4096 u').1 : Int) := rfl
        obtain ⟨oc, os, ob, t5, hob⟩ : ∃ oc os ob t5, Hid (objR u' = (oc, os, ob, t5)) := ⟨_, _, _, _, rfl⟩
        rw [hob.out] at hc0 hol hcl2
        dsimp only at hc0 hol hcl2
        have hocb : 0 ≤ oc ∧ oc ≤ 4096 := by omega
        clear hcl hcl2
        obtain ⟨_, _, _, rE, _⟩ := R4.blk
        unfold rdO at rE
        go_wp2_with fail
        refine (object_rd R4 Bw4 hb0 (by omega)).mono ?_
        rintro e w5 ⟨vv, bv, rfl, V5, P5, R5, K5⟩
        rw [hob.out] at V5 P5 R5 ⊢
        dsimp only at V5 P5 R5 ⊢
        obtain ⟨va, vn, vc, rfl⟩ := V5.shape'
        obtain ⟨ba, bn, bc, rfl⟩ := P5.shape'
        have E5 := (K5.block cb (lt_of_block E4) hcb).trans E4
        have hcw : cb < w4.heap.size := lt_of_block E4
        have O5 := O4.but K5 rE hbw (by decide) (by decide)
        have K5' := K4'.trans K5
        clear O4 R4 K4' K5 E4 Bw4 rE hob
        have E6 := stC_blk E5 oc (.slice va vn vc) (.slice ba bn bc)
        have O6 : OwnC (stC w5 cb oc (.slice va vn vc) (.slice ba bn bc)) w.heap.size 77 (.slice a n c) vs := by
          refine O5.keep (fun g hg => stC_other (hgv g hg) _ _ _) fun g cur e' he hg => stC_other ?_ _ _ _
          rintro rfl
          rw [E5] at hg
          have := cells_ty hg
          omega
        have V6 := V5.same (w' := stC w5 cb oc (.slice va vn vc) (.slice ba bn bc)) (fun g hg => stC_other (by have := (V5.lt g hg).1; omega) _ _ _)
        have P6 := P5.same (w' := stC w5 cb oc (.slice va vn vc) (.slice ba bn bc)) (fun g hg => stC_other (by have := (P5.lt g hg).1; omega) _ _ _)
        have R6 := R5.keep (w' := stC w5 cb oc (.slice va vn vc) (.slice ba bn bc)) (stC_other (Ne.symm hcb) _ _ _)
        have K6 : But b w (stC w5 cb oc (.slice va vn vc) (.slice ba bn bc)) := K5'.then_below (stC_below (Below.refl _ _) hvb _ _ _)
        obtain ⟨v0, v1, v2, v3, v4, vf⟩ := chO_cells E5
        clear O5 V5 P5 K5'
        cases t5 with
        | none =>
          have hsl : Hid (chR s' = (⟨mi, false, oc, os, ob⟩, none)) := hc0
          obtain ⟨y0', y1', yf'⟩ := rd_cells R5
          have R6' := R6
          unfold stC at R6'
          obtain ⟨y0, y1, yf⟩ := rd_cells R6'
          clear hc0 E5 E6 V6 P6 R5 R6'
          unfold stC at O6 R6 K6
          go_wp2
          (try rw [Exit.noGoto_ret])
          go_ret
          exact ⟨_, rfl, by rw [hS.out, hj.out, chsR_stop hsl.out]; simpa using O6, by rw [hS.out, hj.out, chsR_stop hsl.out]; exact R6, K6⟩
        | some t5 =>
          have hsl : Hid (chR s' = (⟨mi, false, oc, os, ob⟩, some t5)) := hc0
          obtain ⟨_, _, _, yE', _⟩ := R5
          obtain ⟨y0', y1', yf'⟩ := rd_cells yE'
          clear hc0 E5 yE'
          have B9 : Below (((w5.setCell ⟨cb, 2, none⟩ (.int .i64 oc)).setCell ⟨cb, 3, none⟩ (.slice va vn vc)).setCell ⟨cb, 4, none⟩ (.slice ba bn bc)).heap.size (((w5.setCell ⟨cb, 2, none⟩ (.int .i64 oc)).setCell ⟨cb, 3, none⟩ (.slice va vn vc)).setCell ⟨cb, 4, none⟩ (.slice ba bn bc)) ((((w5.setCell ⟨cb, 2, none⟩ (.int .i64 oc)).setCell ⟨cb, 3, none⟩ (.slice va vn vc)).setCell ⟨cb, 4, none⟩ (.slice ba bn bc)).alloc (.cells #[.int .i64 mi, .bool false, .int .i64 oc, .slice va vn vc, .slice ba bn bc] 77)) := box_below
          have I9 := lit_cells (w := (((w5.setCell ⟨cb, 2, none⟩ (.int .i64 oc)).setCell ⟨cb, 3, none⟩ (.slice va vn vc)).setCell ⟨cb, 4, none⟩ (.slice ba bn bc))) (y := (⟨⟨mi, false, oc, os, ob⟩, va, vn, vc, ba, bn, bc⟩ : Cs)) (t := 77)
          rw [show (((w5.setCell ⟨cb, 2, none⟩ (.int .i64 oc)).setCell ⟨cb, 3, none⟩ (.slice va vn vc)).setCell ⟨cb, 4, none⟩ (.slice ba bn bc)).heap.size = w5.heap.size by simp] at I9
          have L9 : El (((w5.setCell ⟨cb, 2, none⟩ (.int .i64 oc)).setCell ⟨cb, 3, none⟩ (.slice va vn vc)).setCell ⟨cb, 4, none⟩ (.slice ba bn bc)) (⟨⟨mi, false, oc, os, ob⟩, va, vn, vc, ba, bn, bc⟩ : Cs) := ⟨by dsimp only; omega, ⟨_, V6⟩, ⟨_, P6⟩⟩
          have L9' := L9.below B9
          have O9 := OwnC.below (w := (((w5.setCell ⟨cb, 2, none⟩ (.int .i64 oc)).setCell ⟨cb, 3, none⟩ (.slice va vn vc)).setCell ⟨cb, 4, none⟩ (.slice ba bn bc))) O6 B9
          have K9 : But b w ((((w5.setCell ⟨cb, 2, none⟩ (.int .i64 oc)).setCell ⟨cb, 3, none⟩ (.slice va vn vc)).setCell ⟨cb, 4, none⟩ (.slice ba bn bc)).alloc (.cells #[.int .i64 mi, .bool false, .int .i64 oc, .slice va vn vc, .slice ba bn bc] 77)) := But.trans (w1 := (((w5.setCell ⟨cb, 2, none⟩ (.int .i64 oc)).setCell ⟨cb, 3, none⟩ (.slice va vn vc)).setCell ⟨cb, 4, none⟩ (.slice ba bn bc))) K6 (But.of B9)
          have R9 := Rd.keep (w := (((w5.setCell ⟨cb, 2, none⟩ (.int .i64 oc)).setCell ⟨cb, 3, none⟩ (.slice va vn vc)).setCell ⟨cb, 4, none⟩ (.slice ba bn bc))) R6 (B9.block b (by have := K6.size; (try simp only [stC] at this); omega))
          obtain ⟨x0, x1, x2, x3, x4, xf⟩ := chO_cells (w := (((w5.setCell ⟨cb, 2, none⟩ (.int .i64 oc)).setCell ⟨cb, 3, none⟩ (.slice va vn vc)).setCell ⟨cb, 4, none⟩ (.slice ba bn bc))) E6
          obtain ⟨_, _, _, yE, _⟩ := R6
          obtain ⟨y0, y1, yf⟩ := rd_cells (w := (((w5.setCell ⟨cb, 2, none⟩ (.int .i64 oc)).setCell ⟨cb, 3, none⟩ (.slice va vn vc)).setCell ⟨cb, 4, none⟩ (.slice ba bn bc))) yE
          clear O6 K6 E6 L9 yE V6 P6
          go_wp2_with (at_builtin; refine app_chL _ rfl _ _ rfl w.heap.size _ vs rfl O9 _ (⟨⟨mi, false, oc, os, ob⟩, va, vn, vc, ba, bn, bc⟩ : Cs) rfl I9 L9' (by dsimp only; omega) (by omega) (by have := K9.size; omega) ?_)
          intro a5 n5 c5 w9 O10 B10
          have R10 := R9.keep (B10.block b hbw)
          have K10 := K9.then_below B10
          clear O9 K9 R9 I9 B9 B10 L9' x0 x1 x2 x3 x4 xf y0 y1 yf v0 v1 v2 v3 v4 vf y0' y1' yf'
          go_wp2
          go_roundw
          case rel => exact ⟨k + 1, a5, n5, c5, vs ++ [⟨mi, false, oc, os, ob⟩], _, by omega, by go_num, rfl, O10, by simp [hvl], R10, by omega, K10, by rw [hS.out, hj.out, chsR_go hsl.out]; simp [show N - (k + 1) = j by have := hj.out; omega]⟩
          case measure => simp [intOf]; omega
      rw [if_neg h0] at hc0
      have b0 : (o == 0) = false := by simp; omega
      by_cases h1 : o = 1
      · subst h1
        rw [if_pos rfl] at hc0
        have E6 := chO_set1 E4 true
        have O6 : OwnC (w4.setCell ⟨cb, 1, none⟩ (.bool true)) w.heap.size 77 (.slice a n c) vs := O4.put E4 hgv (by decide) (by decide)
        have R6 := R4.keep (w' := w4.setCell ⟨cb, 1, none⟩ (.bool true)) (heap_setCell_other _ _ _ _ (Ne.symm hcb))
        have K6 : But b w (w4.setCell ⟨cb, 1, none⟩ (.bool true)) := K4'.then_below (below_setCell (Below.refl _ _) hvb)
        obtain ⟨v0, v1, v2, v3, v4, vf⟩ := chO_cells E4
        clear O4 K4' E4
        cases u' with
        | none =>
          have hsl : Hid (chR s' = (⟨mi, true, 0, [], []⟩, none)) := hc0
          obtain ⟨y0', y1', yf'⟩ := rd_cells R4
          obtain ⟨y0, y1, yf⟩ := rd_cells R6
          clear hc0 E6 R4
          go_wp2
          (try rw [Exit.noGoto_ret])
          go_ret
          exact ⟨_, rfl, by rw [hS.out, hj.out, chsR_stop hsl.out]; simpa using O6, by rw [hS.out, hj.out, chsR_stop hsl.out]; exact R6, K6⟩
        | some t5 =>
          have hsl : Hid (chR s' = (⟨mi, true, 0, [], []⟩, some t5)) := hc0
          have hol : lenS (some t5) ≤ lenS (some t5) := Nat.le_refl _
          obtain ⟨_, _, _, yE', _⟩ := R4
          obtain ⟨y0', y1', yf'⟩ := rd_cells yE'
          clear hc0 yE'
          have B9 : Below (w4.setCell ⟨cb, 1, none⟩ (.bool true)).heap.size (w4.setCell ⟨cb, 1, none⟩ (.bool true)) ((w4.setCell ⟨cb, 1, none⟩ (.bool true)).alloc (.cells #[.int .i64 mi, .bool true, .int .i64 0, .slice none 0 0, .slice none 0 0] 77)) := box_below
          have I9 := lit_cells (w := (w4.setCell ⟨cb, 1, none⟩ (.bool true))) (y := (⟨⟨mi, true, 0, [], []⟩, none, 0, 0, none, 0, 0⟩ : Cs)) (t := 77)
          rw [show (w4.setCell ⟨cb, 1, none⟩ (.bool true)).heap.size = w4.heap.size by simp] at I9
          have L9 : El (w4.setCell ⟨cb, 1, none⟩ (.bool true)) (⟨⟨mi, true, 0, [], []⟩, none, 0, 0, none, 0, 0⟩ : Cs) := ⟨by dsimp only; omega, ⟨_, ownV_nil _ 0⟩, ⟨_, ownB_nil _ 0⟩⟩
          have L9' := L9.below B9
          have O9 := OwnC.below (w := (w4.setCell ⟨cb, 1, none⟩ (.bool true))) O6 B9
          have K9 : But b w ((w4.setCell ⟨cb, 1, none⟩ (.bool true)).alloc (.cells #[.int .i64 mi, .bool true, .int .i64 0, .slice none 0 0, .slice none 0 0] 77)) := But.trans (w1 := (w4.setCell ⟨cb, 1, none⟩ (.bool true))) K6 (But.of B9)
          have R9 := Rd.keep (w := (w4.setCell ⟨cb, 1, none⟩ (.bool true))) R6 (B9.block b (by have := K6.size; (try simp only [stC] at this); omega))
          obtain ⟨x0, x1, x2, x3, x4, xf⟩ := chO_cells (w := (w4.setCell ⟨cb, 1, none⟩ (.bool true))) E6
          obtain ⟨_, _, _, yE, _⟩ := R6
          obtain ⟨y0, y1, yf⟩ := rd_cells (w := (w4.setCell ⟨cb, 1, none⟩ (.bool true))) yE
          clear O6 K6 E6 L9 yE
          go_wp2_with (at_builtin; refine app_chL _ rfl _ _ rfl w.heap.size _ vs rfl O9 _ (⟨⟨mi, true, 0, [], []⟩, none, 0, 0, none, 0, 0⟩ : Cs) rfl I9 L9' (by dsimp only; omega) (by omega) (by have := K9.size; omega) ?_)
          intro a5 n5 c5 w9 O10 B10
          have R10 := R9.keep (B10.block b hbw)
          have K10 := K9.then_below B10
          clear O9 K9 R9 I9 B9 B10 L9' x0 x1 x2 x3 x4 xf y0 y1 yf v0 v1 v2 v3 v4 vf y0' y1' yf'
          go_wp2
          go_roundw
          case rel => exact ⟨k + 1, a5, n5, c5, vs ++ [⟨mi, true, 0, [], []⟩], _, by omega, by go_num, rfl, O10, by simp [hvl], R10, by omega, K10, by rw [hS.out, hj.out, chsR_go hsl.out]; simp [show N - (k + 1) = j by have := hj.out; omega]⟩
          case measure => simp [intOf]; omega
      rw [if_neg h1] at hc0
      have b1 : (o == 1) = false := by simp; omega
      have hsl : Hid (chR s' = (⟨mi, false, 0, [], []⟩, none)) := hc0
      clear hc0
      go_wp2_with fail
      obtain ⟨_, _, _, rE, _⟩ := R4.blk
      unfold rdO at rE
      refine (giveUp_any R4).mono ?_
      rintro e w5 ⟨rfl, R5, K5⟩
      have O5 := O4.but K5 rE hbw (by decide) (by decide)
      have K5' := K4'.trans K5
      clear R4 O4 K4' K5 E4 rE
      go_wp2
      (try rw [Exit.noGoto_ret])
      go_ret
      exact ⟨_, rfl, by rw [hS.out, hj.out, chsR_stop hsl.out]; simpa using O5, by rw [hS.out, hj.out, chsR_stop hsl.out]; exact R5, K5'⟩
    · obtain rfl : k = N := by omega
      have hkk : ¬ ((k : Int) < (k : Int)) := by omega
      go_wp2
      go_ret
      have h0 : k - k = 0 := by omega
      rw [h0] at hS
      exact ⟨_, rfl, by rw [hS.out]; simpa [chsR] using O, by rw [hS.out]; simpa [chsR] using R, K⟩
end Go.Proofs.Ytjfaflmmanjjbaa
