/- The statement RingFull, walked. -/
import Derived.Test.YtofgphiamllmdabRewN
import Derived.Test.YtofgphiamllmdabKnown
namespace Go.Proofs.Ytofgphiamllmdab
open Go.RowKit
set_option maxRecDepth 100000
section
variable {w : World} {n₀ p bs bn : Nat} {pv : Value} {size : Int} {G0 G1 : Int → List Int} {L : List (Int × List Int)}
/-- A device that is new, formatted and opened. -/
theorem fresh_heads {G2 : Int → List Int} (hG : G2 = appl (fun _ => z128) (wsP 0 (z128 ++ headB 1 0 1 1) (List.finRange 2))) : G2 0 = z128 ∧ G2 1 = headB 1 0 1 1 ∧ ∀ i, 2 ≤ i → G2 i = z128 := by
  subst hG
  refine ⟨?_, ?_, fun i hi => ?_⟩
  · rw [appl_write, if_pos (by decide)]; exact ch_two0 isSec_z.len
  · rw [appl_write, if_pos (by decide)]; exact ch_two1 isSec_z.len (headB_sec 1 0 1 1).len
  · rw [appl_write, if_neg (by omega)]
set_option maxHeartbeats 1000000 in
/-- Open of a device that was formatted just now. -/
theorem open_fresh {S hs : Nat} (D0 : Dev w n₀ p bs bn (.slice none 0 0) (S : Int) (appl (fun _ => z128) (wsP 0 (z128 ++ headB 1 0 1 1) (List.finRange 2))) (appl (fun _ => z128) (wsP 0 (z128 ++ headB 1 0 1 1) (List.finRange 2))) [] 0 false) (hs0 : 4 ≤ S) (hs1 : S ≤ 4096) (hhs : hs = (S - 2) / 2) :
    Calls Try.prog 42 #[.pointer (some ⟨p, 0, none⟩)] w fun e w' => ∃ lb v G, e = .returned (.tuple #[.pointer (some ⟨lb, 0, none⟩), v, .int .i64 0]) ∧ w.heap.size ≤ lb ∧ w'.heap[lb]? = some (logO p 2 0 1 1 1 (hs : Int) 0 false) ∧ Recs w' w.heap.size v [] ∧ Dev w' n₀ p bs bn (.slice none 0 0) (S : Int) G G [] 0 false ∧ Fr p bs bn w (.slice none 0 0) w' (.slice none 0 0) ∧ G 0 = headB 2 0 1 1 ∧ G 1 = headB 1 0 1 1 ∧ (∀ i, 2 ≤ i → G i = z128) := by
  obtain ⟨G2a, G2b, G2c⟩ := fresh_heads (G2 := appl (fun _ => z128) (wsP 0 (z128 ++ headB 1 0 1 1) (List.finRange 2))) rfl
  generalize appl (fun _ => z128) (wsP 0 (z128 ++ headB 1 0 1 1) (List.finRange 2)) = G2 at *
  have S2 : ∀ k, IsSec (G2 k) := fun k => D0.now.isSec k
  have r2 : rdLog (fun k => ch (catS G2 0 S) (2 + 0 * hs + k)) hs 1 (hs + 1) 0 1 1 [] = ([], 0, 1) := by
    unfold rdLog
    rw [rdRec_none (by show ch (catS G2 0 S) (2 + 0 * hs + (0 + 0)) = z128; rw [Nat.zero_mul, ch_cat S2 0 S (2 + 0 + (0 + 0)) (by omega)]; exact G2c _ (by omega))]
  have h2 : newer (rdHead (G2 0)) (rdHead (G2 1)) = some (1, 0, 1, 1) := by rw [G2a, G2b, rdHead_zero, rdHead_head (by decide) (by decide) (by decide) (by decide) (by decide) (by decide) (by decide) (by decide)]; rfl
  refine (open_ok (S := S) (hs := hs) D0 hs0 hs1 hhs (by decide) h2 (by decide) (by decide) (hf := 0) rfl (by decide) (by decide) (by decide) r2 (by decide)).mono ?_
  rintro e w3 ⟨lb, v3, rfl, hlb, L3, RC3, D3, F3⟩
  rw [List.nil_append] at D3
  exact ⟨lb, v3, _, rfl, hlb, L3, RC3, D3, F3, by rw [appl_write, if_pos (by decide)]; exact ch_one (headB_sec _ _ _ _).len, by rw [appl_write, if_neg (by decide)]; exact G2b, fun i hi => by rw [appl_write, if_neg (by omega)]; exact G2c i hi⟩
end
set_option maxHeartbeats 8000000 in
theorem ringFull_law (w : World) (n0 size0 : Int) : Calls Try.prog 7 #[.int .i64 n0, .int .i64 size0] w fun e w' => e = .returned (.bool true) ∧ Below w.heap.size w w' := by
  go_enter Try.func7, Try.ntmps7
  go_wp2_with fail
  refine (count_any n0 40 (by decide) (by decide) w).mono ?_
  rintro e w1 ⟨⟨r1, hr1, rfl⟩, rfl⟩
  obtain ⟨S, hS⟩ : ∃ S : Nat, Hid (S = r1 + 4) := ⟨_, rfl⟩
  have hwS : IntKind.i64.wrap (4 + (r1 : Int)) = (S : Int) := by have := hS.out; rw [IntKind.wrap_i64]; omega
  have bS0 : 4 ≤ S := by have := hS.out; omega
  have bS1 : S ≤ 43 := by have := hS.out; omega
  clear hS
  go_wp2_with fail
  refine (count_any size0 500 (by decide) (by decide) w).mono ?_
  rintro e w1 ⟨⟨r2, hr2, rfl⟩, rfl⟩
  obtain ⟨N, hN⟩ : ∃ N : Nat, Hid (N = r2 + 1) := ⟨_, rfl⟩
  have hwN : IntKind.i64.wrap (1 + (r2 : Int)) = (N : Int) := by have := hN.out; rw [IntKind.wrap_i64]; omega
  have bN0 : 1 ≤ N := by have := hN.out; omega
  have bN1 : N ≤ 500 := by have := hN.out; omega
  clear hN
  go_wp2_with fail
  clear hwS hwN hr1 hr2
  obtain ⟨K, hK⟩ : ∃ K : Nat, Hid ((N + 111) / 112 = K) := ⟨_, rfl⟩
  have bK0 : 1 ≤ K := by have := hK.out; omega
  have bK1 : K ≤ 5 := by have := hK.out; omega
  obtain ⟨hs, hhs⟩ : ∃ hs : Nat, Hid (hs = (S - 2) / 2) := ⟨_, rfl⟩
  have bh0 : 1 ≤ hs := by have := hhs.out; omega
  have bh1 : 2 * hs ≤ S - 2 := by have := hhs.out; omega
  have bh2 : Hid ((hs : Int) = ((S : Int) - 2) / 2) := by have := hhs.out; show _ = _; omega
  refine (device_ok w S (by omega) (by omega)).mono ?_
  rintro e w1 ⟨p, bs, bn, q, rfl, D1, B1⟩
  go_wp2_with fail
  refine (format_ok D1 (by omega) (by omega) (by simp)).mono ?_
  rintro e w2 ⟨rfl, D2, F2⟩
  have B2 := B1.trans (F2.below D1)
  rw [List.nil_append] at D2
  clear D1 B1 F2
  go_wp2_with fail
  refine (open_fresh (hs := hs) D2 bS0 (by omega) hhs.out).mono ?_
  rintro e w3 ⟨lb, v3, G, rfl, hlb, L3, _, D3, F3, _, _, _⟩
  have B3 := B2.trans (F3.below D2)
  have hlw : w.heap.size ≤ lb := Nat.le_trans B2.size hlb
  clear D2 B2 F3
  go_wp2_with fail
  refine (sectors_any (N : Int) w3).mono ?_
  rintro e w4 ⟨rfl, rfl⟩
  have hsec : secs (N : Int) = (K : Int) := by
    have := hK.out
    unfold secs
    rw [if_neg (by omega)]
    omega
  rw [hsec]
  have c1 : ¬ (K : Int) < 1 := by omega
  have hw2 : IntKind.i64.wrap ((S : Int) - 2) = (S : Int) - 2 := by rw [IntKind.wrap_i64]; omega
  have hq2 : ((S : Int) - 2).tdiv 2 = (hs : Int) := by rw [Int.tdiv_eq_ediv_of_nonneg (by omega)]; exact bh2.out.symm
  have hwh : IntKind.i64.wrap (hs : Int) = (hs : Int) := by rw [IntKind.wrap_i64]; omega
  go_wp2_with fail
  refine (room_any L3 (by omega) (by omega) (by omega) (by omega)).mono ?_
  rintro e w4 ⟨rfl, k4, rfl⟩
  rw [show (hs : Int) - 0 = (hs : Int) by omega]
  have L4 : (w3.drewN k4).heap[lb]? = some (logO p 2 0 1 1 1 (hs : Int) 0 false) := L3
  have D4 := D3.same (w' := w3.drewN k4) (fun _ _ => rfl)
  have B4 : Below w.heap.size w (w3.drewN k4) := ⟨B3.os, B3.tape, B3.output, B3.size, B3.block⟩
  generalize w3.drewN k4 = w4 at *
  clear L3 D3 B3
  go_wp2
  go_loopw [11] (fun iv wr => ∃ (i U : Nat), iv = .int .i64 (i : Int) ∧ i ≤ U ∧ U ≤ hs ∧ (∃ G0 G1, Dev wr w.heap.size p bs bn (.slice none 0 0) (S : Int) G0 G1 [] 0 false) ∧ wr.heap[lb]? = some (logO p 2 0 1 1 (1 + (i : Int)) (hs : Int) (U : Int) false) ∧ Below w.heap.size w wr) (fun iv _ => 60 - (intOf iv).toNat)
  case atStart => exact ⟨0, 0, rfl, by omega, by omega, ⟨_, _, D4⟩, L4, B4⟩
  case round =>
    obtain ⟨i, U, rfl, hiU, hUh, ⟨G0, G1, D⟩, Lg, B⟩ := hrel
    clear L4 D4 B4
    have i1 : (i : Int) < 60 := by omega
    go_wp2_with fail
    refine (room_any Lg (by omega) (by omega) (by omega) (by omega)).mono ?_
    rintro e w5 ⟨rfl, k5, rfl⟩
    have L5 : (wr.drewN k5).heap[lb]? = some (logO p 2 0 1 1 (1 + (i : Int)) (hs : Int) (U : Int) false) := Lg
    have D5 := D.same (w' := wr.drewN k5) (fun _ _ => rfl)
    have B5 : Below w.heap.size w (wr.drewN k5) := ⟨B.os, B.tape, B.output, B.size, B.block⟩
    generalize wr.drewN k5 = w5 at *
    clear Lg D B
    by_cases hrm : (K : Int) ≤ (hs : Int) - (U : Int)
    · go_wp2_with fail
      refine (room_any L5 (by omega) (by omega) (by omega) (by omega)).mono ?_
      rintro e w6 ⟨rfl, k6, rfl⟩
      have L6 : (w5.drewN k6).heap[lb]? = some (logO p 2 0 1 1 (1 + (i : Int)) (hs : Int) (U : Int) false) := L5
      have D6 := D5.same (w' := w5.drewN k6) (fun _ _ => rfl)
      have B6 : Below w.heap.size w (w5.drewN k6) := ⟨B5.os, B5.tape, B5.output, B5.size, B5.block⟩
      generalize w5.drewN k6 = w6 at *
      clear L5 D5 B5
      go_wp2_with fail
      refine (text_any w6 N 7 (by omega)).mono ?_
      rintro e w7 ⟨rfl, T7, g7⟩
      have B7' : Below w6.heap.size w6 w7 := ⟨g7.os, g7.tape, g7.output, g7.size, fun j hj => g7.block j hj (by simp)⟩
      have L7 := (B7'.block lb (lt_of_block L6)).trans L6
      have D7 := D6.same (fun j hj => B7'.block j hj)
      have B7 := below_size B6 (Nat.le_refl _) B7'
      have hlt := lt_of_block T7
      obtain ⟨tb, htb⟩ : ∃ b, w6.heap.size = b := ⟨_, rfl⟩
      rw [htb] at T7 hlt ⊢
      clear htb g7 B7' L6 D6 B6
      have hys : ∀ j, j < N → w7.cell? ⟨tb, 0 + j, none⟩ = some (.int .u8 ((List.replicate N (7 : Int)).getD j 0)) := fun j hj => by
        rw [Nat.zero_add]
        exact ArrS.cell (show ArrS w7 tb 5 (List.replicate N 7) from T7) j (by simpa using hj)
      go_wp2_with fail
      refine (append_ok (K := K) (ys := List.replicate N 7) D7 L7 (by omega) (by simp) (.inl rfl) (by omega) (by omega) (by omega) (by omega) (by omega) (by simp) (by omega) (by omega) (Nat.le_refl _) hlt (by intro y hy; obtain ⟨_, rfl⟩ := List.mem_replicate.1 hy; decide) hys hK.out (by omega) (2 + (U : Int)) (by omega) (by omega)).mono ?_
      rintro e w8 ⟨rfl, D8, L8, o1, o2, o3, o4, o5⟩
      have B8 : Below w.heap.size w w8 := ⟨o1.trans B7.os, o2.trans B7.tape, o3.trans B7.output, Nat.le_trans B7.size o4, fun j hj => (o5 j (by have := B7.size; omega) (by omega) (by have := D7.fromP; omega) (by have := D7.fromS; omega) (by have := D7.fromN; omega) (by simp [Value.ownBlock])).trans (B7.block j hj)⟩
      clear D7 L7 B7 o1 o2 o3 o4 o5 hys T7 hlt
      have hwk : IntKind.i64.wrap ((hs : Int) - (U : Int) - (K : Int)) = (hs : Int) - (U : Int) - (K : Int) := by rw [IntKind.wrap_i64]; omega
      have hwi : IntKind.i64.wrap ((i : Int) + 1) = (i : Int) + 1 := by rw [IntKind.wrap_i64]; omega
      go_wp2_with fail
      refine (room_any L8 (by omega) (by omega) (by omega) (by omega)).mono ?_
      rintro e w9 ⟨rfl, k9, rfl⟩
      have L9 : (w8.drewN k9).heap[lb]? = some (logO p 2 0 1 1 (1 + (i : Int) + 1) (hs : Int) ((U : Int) + (K : Int)) false) := L8
      have D9 := D8.same (w' := w8.drewN k9) (fun _ _ => rfl)
      have B9 : Below w.heap.size w (w8.drewN k9) := ⟨B8.os, B8.tape, B8.output, B8.size, B8.block⟩
      generalize w8.drewN k9 = w9 at *
      clear L8 D8 B8
      rw [show (hs : Int) - ((U : Int) + (K : Int)) = (hs : Int) - (U : Int) - (K : Int) by omega]
      go_wp2
      go_roundw
      case rel => exact ⟨i + 1, U + K, by push_cast; rfl, by omega, by omega, ⟨_, _, D9⟩, by rw [show (1 + ((i + 1 : Nat) : Int)) = 1 + (i : Int) + 1 by omega, show ((U + K : Nat) : Int) = (U : Int) + (K : Int) by omega]; exact L9, B9⟩
      case measure => simp [intOf]; omega
    · go_wp2_with fail
      refine (text_any w5 N 7 (by omega)).mono ?_
      rintro e w6 ⟨rfl, _, g6⟩
      have B6' : Below w5.heap.size w5 w6 := ⟨g6.os, g6.tape, g6.output, g6.size, fun j hj => g6.block j hj (by simp)⟩
      have L6 := (B6'.block lb (lt_of_block L5)).trans L5
      have D6 := D5.same (fun j hj => B6'.block j hj)
      have B6 := below_size B5 (Nat.le_refl _) B6'
      clear g6 B6' L5 D5 B5
      go_wp2_with fail
      refine (append_full (K := K) L6 (by omega) (by omega) (by omega) (by omega) (by omega) (by omega) hK.out (by omega)).mono ?_
      rintro e w7 ⟨rfl, B7'⟩
      have L7 := (B7'.block lb (lt_of_block L6)).trans L6
      have D7 := D6.same (fun j hj => B7'.block j hj)
      have B7 := below_size B6 (Nat.le_refl _) B7'
      clear B7' L6 D6 B6
      go_wp2_with fail
      refine (rewrite_none D7 L7 (by omega) (by omega) (by simp) (.inl rfl) (by omega) (by omega) (by omega) (by omega) (by decide) (by decide)).mono ?_
      rintro e w8 ⟨rfl, ⟨G8, G8', D8⟩, L8, o1, o2, o3, o4, o5⟩
      have B8 : Below w.heap.size w w8 := ⟨o1.trans B7.os, o2.trans B7.tape, o3.trans B7.output, Nat.le_trans B7.size o4, fun j hj => (o5 j (by have := B7.size; omega) (by omega) (by have := D7.fromP; omega) (by have := D7.fromS; omega) (by have := D7.fromN; omega) (by simp [Value.ownBlock])).trans (B7.block j hj)⟩
      change w8.heap[lb]? = some (logO p 3 1 (1 + (i : Int)) 3 (1 + (i : Int)) (hs : Int) 0 false) at L8
      clear D7 L7 B7 o1 o2 o3 o4 o5
      go_wp2_with fail
      refine (room_any L8 (by omega) (by omega) (by omega) (by omega)).mono ?_
      rintro e w9 ⟨rfl, k9, rfl⟩
      rw [show (hs : Int) - 0 = (hs : Int) by omega]
      have L9 : (w8.drewN k9).heap[lb]? = some (logO p 3 1 (1 + (i : Int)) 3 (1 + (i : Int)) (hs : Int) 0 false) := L8
      have D9 := D8.same (w' := w8.drewN k9) (fun _ _ => rfl)
      have B9 : Below w.heap.size w (w8.drewN k9) := ⟨B8.os, B8.tape, B8.output, B8.size, B8.block⟩
      generalize w8.drewN k9 = w9 at *
      clear L8 D8 B8
      go_wp2_with fail
      refine (room_any L9 (by omega) (by omega) (by omega) (by omega)).mono ?_
      rintro e w10 ⟨rfl, k10, rfl⟩
      rw [show (hs : Int) - 0 = (hs : Int) by omega]
      have L10 : (w9.drewN k10).heap[lb]? = some (logO p 3 1 (1 + (i : Int)) 3 (1 + (i : Int)) (hs : Int) 0 false) := L9
      have D10 := D9.same (w' := w9.drewN k10) (fun _ _ => rfl)
      have B10 : Below w.heap.size w (w9.drewN k10) := ⟨B9.os, B9.tape, B9.output, B9.size, B9.block⟩
      generalize w9.drewN k10 = w10 at *
      clear L9 D9 B9
      by_cases hlt : (hs : Int) < (K : Int)
      · have hltb : decide ((hs : Int) < (K : Int)) = true := by simp [hlt]
        go_wp2_with fail
        refine (known_true w10).mono ?_
        rintro e w11 ⟨rfl, B11⟩
        have Bf := below_size B10 (Nat.le_refl _) B11
        go_wp2
        go_ret
        exact ⟨rfl, Bf⟩
      · have hltb : decide ((hs : Int) < (K : Int)) = false := by simp [hlt]
        go_wp2_with fail
        refine (text_any w10 N 7 (by omega)).mono ?_
        rintro e w11 ⟨rfl, T11, g11⟩
        have B11' : Below w10.heap.size w10 w11 := ⟨g11.os, g11.tape, g11.output, g11.size, fun j hj => g11.block j hj (by simp)⟩
        have L11 := (B11'.block lb (lt_of_block L10)).trans L10
        have D11 := D10.same (fun j hj => B11'.block j hj)
        have B11 := below_size B10 (Nat.le_refl _) B11'
        have hlt11 := lt_of_block T11
        obtain ⟨tb, htb⟩ : ∃ b, w10.heap.size = b := ⟨_, rfl⟩
        rw [htb] at T11 hlt11 ⊢
        clear htb g11 B11' L10 D10 B10
        have hys : ∀ j, j < N → w11.cell? ⟨tb, 0 + j, none⟩ = some (.int .u8 ((List.replicate N (7 : Int)).getD j 0)) := fun j hj => by
          rw [Nat.zero_add]
          exact ArrS.cell (show ArrS w11 tb 5 (List.replicate N 7) from T11) j (by simpa using hj)
        go_wp2_with fail
        refine (append_ok (K := K) (ys := List.replicate N 7) D11 L11 (by omega) (by simp) (.inr rfl) (by omega) (by omega) (by omega) (by omega) (by omega) (by simp) (by omega) (by omega) (Nat.le_refl _) hlt11 (by intro y hy; obtain ⟨_, rfl⟩ := List.mem_replicate.1 hy; decide) hys hK.out (by omega) (2 + (hs : Int)) (by omega) (by omega)).mono ?_
        rintro e w12 ⟨rfl, _, _, o1, o2, o3, o4, o5⟩
        have B12 : Below w.heap.size w w12 := ⟨o1.trans B11.os, o2.trans B11.tape, o3.trans B11.output, Nat.le_trans B11.size o4, fun j hj => (o5 j (by have := B11.size; omega) (by omega) (by have := D11.fromP; omega) (by have := D11.fromS; omega) (by have := D11.fromN; omega) (by simp [Value.ownBlock])).trans (B11.block j hj)⟩
        clear D11 L11 B11 o1 o2 o3 o4 o5 hys T11 hlt11
        go_wp2_with fail
        refine (known_true w12).mono ?_
        rintro e w13 ⟨rfl, B13⟩
        have Bf := below_size B12 (Nat.le_refl _) B13
        go_wp2
        go_ret
        exact ⟨rfl, Bf⟩
end Go.Proofs.Ytofgphiamllmdab
