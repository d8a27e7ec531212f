/- The statement RingSeqs, walked. -/
import Derived.Test.YtehccbomjfmcjaaSeqA
namespace Go.Proofs.Ytehccbomjfmcjaa
open Go.RowKit
set_option maxRecDepth 100000
/-- A slice of ints that came in. -/
structure Ints (w : World) (a : Option Addr) (len : Nat) (zs : List Int) : Prop where
  size : zs.length = len
  cell : 0 < len → ∃ b off, a = some ⟨b, off, none⟩ ∧ b < w.heap.size ∧ ∀ i, i < len → w.cell? ⟨b, off + i, none⟩ = some (.int .i64 (zs.getD i 0))
theorem Recs.shape {w : World} {n₀ : Nat} {v : Value} {recs : List (List Int)} (h : Recs w n₀ v recs) : ∃ a c, v = .slice a recs.length c := by
  obtain ⟨vs, h1, _⟩ := h
  rcases h1.2 with ⟨rfl, h2⟩ | ⟨g, cap, cur, rfl, _⟩
  · exact ⟨none, 0, by rw [h2]⟩
  · exact ⟨_, _, rfl⟩
theorem fresh_heads {G2 : Int → List Int} (hG : G2 = appl (fun _ => z128) (wsP 0 (z128 ++ headB 1 0 1 1) (List.finRange 2))) : G2 0 = z128 ∧ G2 1 = headB 1 0 1 1 ∧ ∀ i, 2 ≤ i → G2 i = z128 := by
  subst hG
  refine ⟨?_, ?_, fun i hi => ?_⟩
  · rw [appl_write, if_pos (by decide)]; exact ch_two0 isSec_z.len
  · rw [appl_write, if_pos (by decide)]; exact ch_two1 isSec_z.len (headB_sec 1 0 1 1).len
  · rw [appl_write, if_neg (by omega)]
section
variable {w : World} {n₀ p bs bn : Nat}
set_option maxHeartbeats 1000000 in
/-- Open of a device that was formatted just now. -/
theorem open_new {S hs : Nat} (D0 : Dev w n₀ p bs bn (.slice none 0 0) (S : Int) (appl (fun _ => z128) (wsP 0 (z128 ++ headB 1 0 1 1) (List.finRange 2))) (appl (fun _ => z128) (wsP 0 (z128 ++ headB 1 0 1 1) (List.finRange 2))) [] 0 false) (hs0 : 4 ≤ S) (hs1 : S ≤ 4096) (hhs : hs = (S - 2) / 2) :
    Calls Try.prog 42 #[.pointer (some ⟨p, 0, none⟩)] w fun e w' => ∃ lb v G, e = .returned (.tuple #[.pointer (some ⟨lb, 0, none⟩), v, .int .i64 0]) ∧ w.heap.size ≤ lb ∧ Below n₀ w w' ∧ LogSt w' n₀ p bs bn lb S hs G 2 [] := by
  obtain ⟨G2a, G2b, G2c⟩ := fresh_heads (G2 := appl (fun _ => z128) (wsP 0 (z128 ++ headB 1 0 1 1) (List.finRange 2))) rfl
  generalize appl (fun _ => z128) (wsP 0 (z128 ++ headB 1 0 1 1) (List.finRange 2)) = G2 at *
  have S2 : ∀ k, IsSec (G2 k) := fun k => D0.now.isSec k
  have r2 : rdLog (fun k => ch (catS G2 0 S) (2 + 0 * hs + k)) hs 1 (hs + 1) 0 1 1 [] = ([], 0, 1) := by
    unfold rdLog
    rw [rdRec_none (by show ch (catS G2 0 S) (2 + 0 * hs + (0 + 0)) = z128; rw [Nat.zero_mul, ch_cat S2 0 S (2 + 0 + (0 + 0)) (by omega)]; exact G2c _ (by omega))]
  have h2 : newer (rdHead (G2 0)) (rdHead (G2 1)) = some (1, 0, 1, 1) := by rw [G2a, G2b, rdHead_zero, rdHead_head (by decide) (by decide) (by decide) (by decide) (by decide) (by decide) (by decide) (by decide)]; rfl
  refine (open_ok (S := S) (hs := hs) D0 hs0 hs1 hhs (by decide) h2 (by decide) (by decide) (hf := 0) rfl (by decide) (by decide) (by decide) r2 (by decide)).mono ?_
  rintro e w3 ⟨lb, v3, rfl, hlb, L3, RC3, D3, F3⟩
  rw [List.nil_append] at D3
  exact ⟨lb, v3, _, rfl, hlb, F3.below D0, D3, L3, by rw [appl_write, if_pos (by decide)]; exact ch_one (headB_sec _ _ _ _).len, by rw [appl_write, if_neg (by decide)]; exact G2b, trivial, fun i hi => by rw [appl_write, if_neg (by simp only [total] at hi; omega)]; exact G2c i (by simp only [total] at hi; omega), trivial, (fun q hq => by cases hq), by decide, by simp [total], Nat.le_trans D0.base F3.size⟩
end
set_option maxHeartbeats 8000000 in
theorem ringSeqs_law (w : World) (a : Option Addr) (len cap : Nat) (zs : List Int) (hz : Ints w a len zs) : Calls Try.prog 8 #[.slice a len cap] w fun e w' => e = .returned (.bool true) ∧ Below w.heap.size w w' := by
  obtain ⟨S, hS⟩ : ∃ S : Nat, Hid (S = 300) := ⟨_, rfl⟩
  have eS : (300 : Int) = (S : Int) := by have := hS.out; omega
  go_enter Try.func8, Try.ntmps8
  go_wp2_with fail
  have bS0 : 4 ≤ S := by have := hS.out; omega
  have bS1 : S ≤ 4096 := by have := hS.out; omega
  obtain ⟨hs, hhs⟩ : ∃ hs : Nat, Hid (hs = (S - 2) / 2) := ⟨_, rfl⟩
  have bh0 : hs = 149 := by have := hhs.out; have := hS.out; omega
  replace bh0 : Hid (hs = 149) := bh0
  clear eS
  refine (device_ok w S (by omega) (by omega)).mono ?_
  rintro e w1 ⟨p, bs, bn, q, rfl, D1, B1⟩
  go_wp2_with fail
  refine (format_ok D1 (by omega) (by omega) (by simp)).mono ?_
  rintro e w2 ⟨rfl, D2, F2⟩
  have B2 := B1.trans (F2.below D1)
  rw [List.nil_append] at D2
  clear D1 B1 F2
  go_wp2_with fail
  refine (open_new (hs := hs) D2 bS0 bS1 hhs.out).mono ?_
  rintro e w3 ⟨lb, v3, G, rfl, hlb, B3', St3⟩
  have B3 := B2.trans B3'
  have hlw : w.heap.size ≤ lb := Nat.le_trans B2.size hlb
  clear D2 B2 B3'
  go_wp2
  go_loopw [5, 8] (fun lv iv wr => ∃ (i lb : Nat) (G : Int → List Int) (life : Int) (rs : List (Int × List Int)), lv = .pointer (some ⟨lb, 0, none⟩) ∧ iv = .int .i64 (i : Int) ∧ LogSt wr w.heap.size p bs bn lb S hs G life rs ∧ rs.length = i ∧ total rs ≤ 6 * i ∧ life ≤ 2 + (i : Int) ∧ i ≤ 20 ∧ i ≤ len ∧ w.heap.size ≤ lb ∧ Below w.heap.size w wr) (fun _ iv _ => 20 - (intOf iv).toNat)
  case atStart => exact ⟨0, lb, G, 2, [], rfl, rfl, St3, rfl, by simp [total], by omega, by omega, by omega, hlw, B3⟩
  case round =>
    clear St3 B3 hlw hlb
    obtain ⟨i, lb', G', life, rs, rfl, rfl, St, hrl, hrt, hlf, hi20, hil, hlw, B⟩ := hrel
    by_cases h1 : i < len
    · by_cases h2 : i < 20
      · have h1i : (i : Int) < (len : Int) := by omega
        have h2i : (i : Int) < 20 := by omega
        obtain ⟨b, off, rfl, hb, hc0⟩ := hz.cell (by omega)
        have hc := hc0 i h1
        clear hc0
        generalize zs.getD i 0 = z at hc
        have hcw : wr.cell? ⟨b, off + i, none⟩ = some (.int .i64 z) := (B.cell (p := ⟨b, off + i, none⟩) hb).trans hc
        go_wp2_with fail
        refine (count_any z 600 (by decide) (by decide) wr).mono ?_
        rintro e w4 ⟨⟨r, hr, rfl⟩, rfl⟩
        clear hcw
        obtain ⟨N, hN⟩ : ∃ N : Nat, Hid (N = r + 1) := ⟨_, rfl⟩
        have hwN : IntKind.i64.wrap (1 + (r : Int)) = (N : Int) := by have := hN.out; rw [IntKind.wrap_i64]; omega
        have bN0 : 1 ≤ N := by have := hN.out; omega
        have bN1 : N ≤ 600 := by have := hN.out; omega
        clear hN
        obtain ⟨K, hK⟩ : ∃ K : Nat, Hid ((N + 111) / 112 = K) := ⟨_, rfl⟩
        have bK0 : 1 ≤ K := by have := hK.out; omega
        have bK1 : K ≤ 6 := by have := hK.out; omega
        have bh : hs = 149 := bh0.out
        obtain ⟨T, hT⟩ : ∃ T : Nat, Hid (total rs = T) := ⟨_, rfl⟩
        have bT : T ≤ 6 * i := by have := hT.out; omega
        have L := St.L
        rw [hrl, hT.out] at L
        have bfit : T + K ≤ hs := by omega
        have bhs : hs ≤ 149 := by omega
        replace bh : Hid (hs = 149) := bh
        replace hrl : Hid (rs.length = i) := hrl
        go_wp2_with fail
        refine (seq_any L).mono ?_
        rintro e w4 ⟨rfl, rfl⟩
        go_wp2_with fail
        refine (room_any L (by omega) (by omega) (by omega) (by omega)).mono ?_
        rintro e w4 ⟨rfl, k4, rfl⟩
        have B0 : Below wr.heap.size wr (wr.drewN k4) := ⟨rfl, rfl, rfl, Nat.le_refl _, fun _ _ => rfl⟩
        have St4 := St.keep B0
        have B4 := below_size B (Nat.le_refl _) B0
        generalize wr.drewN k4 = w4 at *
        clear St B B0 L hwN
        go_wp2_with fail
        refine (text_any w4 N 3 (by omega)).mono ?_
        rintro e w5 ⟨rfl, T5, g5⟩
        have B5' : Below w4.heap.size w4 w5 := ⟨g5.os, g5.tape, g5.output, g5.size, fun j hj => g5.block j hj (by simp)⟩
        have St5 := St4.keep B5'
        have B5 := below_size B4 (Nat.le_refl _) B5'
        have hlt := lt_of_block T5
        obtain ⟨tb, htb⟩ : ∃ b, w4.heap.size = b := ⟨_, rfl⟩
        rw [htb] at T5 hlt ⊢
        clear htb g5 B5' St4 B4
        have hys : ∀ j, j < N → w5.cell? ⟨tb, 0 + j, none⟩ = some (.int .u8 ((List.replicate N (3 : Int)).getD j 0)) := fun j hj => by
          rw [Nat.zero_add]
          exact ArrS.cell (show ArrS w5 tb 5 (List.replicate N 3) from T5) j (by simpa using hj)
        go_wp2_with fail
        refine (append_st (K := K) (ys := List.replicate N 3) St5 (by omega) hhs.out (by omega) (by simp) (by omega) (by omega) (Nat.le_refl _) hlt (by intro y hy; obtain ⟨_, rfl⟩ := List.mem_replicate.1 hy; decide) hys hK.out (by rw [hT.out]; exact bfit) hlw).mono ?_
        rintro e w6 ⟨rfl, B6', G6, St6⟩
        have B6 := B5.trans B6'
        have hrl6 : Hid ((rs ++ [(life, List.replicate N 3)]).length = i + 1) := by show _ = _; rw [List.length_append, hrl.out]; rfl
        have hT6 : Hid (total (rs ++ [(life, List.replicate N 3)]) = T + K) := by
          show _ = _
          rw [total_snoc, hT.out]
          congr 1
          show (List.replicate N (3 : Int)).length.add 111 / 112 = K
          rw [List.length_replicate]
          exact hK.out
        generalize rs ++ [(life, List.replicate N 3)] = rs6 at *
        clear St5 B5 B6' hys T5 hlt
        have L6 := St6.L
        rw [hrl6.out, hT6.out, show (1 + ((i + 1 : Nat) : Int)) = 1 + (i : Int) + 1 by omega, show ((T + K : Nat) : Int) = (T : Int) + (K : Int) by omega] at L6
        have hws : IntKind.i64.wrap (1 + (i : Int) + 1) = 1 + (i : Int) + 1 := by rw [IntKind.wrap_i64]; omega
        have hwk : IntKind.i64.wrap ((hs : Int) - (T : Int) - (K : Int)) = (hs : Int) - (T : Int) - (K : Int) := by rw [IntKind.wrap_i64]; omega
        have hwi : IntKind.i64.wrap ((i : Int) + 1) = (i : Int) + 1 := by rw [IntKind.wrap_i64]; omega
        go_wp2_with fail
        refine (seq_any L6).mono ?_
        rintro e w7 ⟨rfl, rfl⟩
        go_wp2_with fail
        refine (room_any L6 (by omega) (by omega) (by omega) (by omega)).mono ?_
        rintro e w7 ⟨rfl, k7, rfl⟩
        rw [show (hs : Int) - ((T : Int) + (K : Int)) = (hs : Int) - (T : Int) - (K : Int) by omega]
        have B0 : Below w6.heap.size w6 (w6.drewN k7) := ⟨rfl, rfl, rfl, Nat.le_refl _, fun _ _ => rfl⟩
        have St7 := St6.keep B0
        have B7 := below_size B6 (Nat.le_refl _) B0
        have L7 : (w6.drewN k7).heap[lb']? = some (logO p life 0 1 1 (1 + (i : Int) + 1) (hs : Int) ((T : Int) + (K : Int)) false) := L6
        generalize w6.drewN k7 = w7 at *
        clear St6 B6 B0 L6
        go_wp2_with fail
        refine (sectors_any (N : Int) w7).mono ?_
        rintro e w8 ⟨rfl, rfl⟩
        have hsec : secs (N : Int) = (K : Int) := by
          have := hK.out
          unfold secs
          rw [if_neg (by omega)]
          omega
        rw [hsec]
        have hcw : w7.cell? ⟨b, off + i, none⟩ = some (.int .i64 z) := (B7.cell (p := ⟨b, off + i, none⟩) hb).trans hc
        have hz1 := Int.tmod_lt_of_pos z (show (0 : Int) < 3 by decide)
        have hz2 := Int.lt_tmod_of_pos z (show (0 : Int) < 3 by decide)
        have hwz : IntKind.i64.wrap (z.tmod 3) = z.tmod 3 := by rw [IntKind.wrap_i64]; omega
        by_cases hz3 : z.tmod 3 = 0
        · have hz4 : (z.tmod 3 == 0) = true := by simp [hz3]
          go_wp2_with fail
          refine (life_any L7).mono ?_
          rintro e w8 ⟨rfl, rfl⟩
          clear hcw
          go_wp2_with fail
          refine (open_st St7 bS0 bS1 hhs.out (by omega)).mono ?_
          rintro e w8 ⟨lb8, v8, G8, rfl, hlb8, B8', RC8, St8, Lo8⟩
          have B8 := B7.trans B8'
          have hlw8 : w.heap.size ≤ lb8 := Nat.le_trans B7.size hlb8
          obtain ⟨av, cv, rfl⟩ := RC8.shape
          rw [List.length_map, hrl6.out]
          have L8 := St8.L
          rw [hrl6.out, hT6.out, show (1 + ((i + 1 : Nat) : Int)) = 1 + (i : Int) + 1 by omega, show ((T + K : Nat) : Int) = (T : Int) + (K : Int) by omega] at L8 Lo8
          clear St7 B7 B8' RC8 L7 hws hwk
          have hwl : IntKind.i64.wrap (life + 1) = life + 1 := by have := St8.l0; rw [IntKind.wrap_i64]; omega
          have hw9 : IntKind.i64.wrap (1 + (i : Int) + 1 - 1) = (i : Int) + 1 := by rw [IntKind.wrap_i64]; omega
          go_wp2_with fail
          refine (seq_any L8).mono ?_
          rintro e w9 ⟨rfl, rfl⟩
          go_wp2_with fail
          refine (seq_any Lo8).mono ?_
          rintro e w9 ⟨rfl, rfl⟩
          go_wp2_with fail
          refine (room_any L8 (by omega) (by omega) (by omega) (by omega)).mono ?_
          rintro e w9 ⟨rfl, k9, rfl⟩
          have B0 : Below w8.heap.size w8 (w8.drewN k9) := ⟨rfl, rfl, rfl, Nat.le_refl _, fun _ _ => rfl⟩
          have St9 := St8.keep B0
          have B9 := below_size B8 (Nat.le_refl _) B0
          have L9 : (w8.drewN k9).heap[lb8]? = _ := L8
          have Lo9 : (w8.drewN k9).heap[lb']? = _ := Lo8
          generalize w8.drewN k9 = w9 at *
          clear St8 B8 B0 L8 Lo8
          go_wp2_with fail
          refine (room_any Lo9 (by omega) (by omega) (by omega) (by omega)).mono ?_
          rintro e w10 ⟨rfl, k10, rfl⟩
          have B0 : Below w9.heap.size w9 (w9.drewN k10) := ⟨rfl, rfl, rfl, Nat.le_refl _, fun _ _ => rfl⟩
          have St10 := St9.keep B0
          have B10 := below_size B9 (Nat.le_refl _) B0
          have L10 : (w9.drewN k10).heap[lb8]? = _ := L9
          have Lo10 : (w9.drewN k10).heap[lb']? = _ := Lo9
          generalize w9.drewN k10 = w10 at *
          clear St9 B9 B0 L9 Lo9
          go_wp2_with fail
          refine (life_any L10).mono ?_
          rintro e w11 ⟨rfl, rfl⟩
          go_wp2_with fail
          refine (seq_any Lo10).mono ?_
          rintro e w11 ⟨rfl, rfl⟩
          go_wp2
          go_roundw
          case rel => exact ⟨i + 1, lb8, G8, life + 1, rs6, rfl, by push_cast; rfl, St10, hrl6.out, by rw [hT6.out]; omega, by push_cast; omega, by omega, by omega, hlw8, B10⟩
          case measure => simp [intOf]; omega
        · have hz4 : (z.tmod 3 == 0) = false := by simp [hz3]
          go_wp2
          go_roundw
          case rel => exact ⟨i + 1, lb', G6, life, rs6, rfl, by push_cast; rfl, St7, hrl6.out, by rw [hT6.out]; omega, by push_cast; omega, by omega, by omega, hlw, B7⟩
          case measure => simp [intOf]; omega
      · have h1i : (i : Int) < (len : Int) := by omega
        have h2i : ¬ (i : Int) < 20 := by omega
        go_wp2_with fail
        refine (known_true wr).mono ?_
        rintro e w4 ⟨rfl, B4⟩
        have Bf := below_size B (Nat.le_refl _) B4
        go_wp2
        go_ret
        exact ⟨rfl, Bf⟩
    · have h1i : ¬ (i : Int) < (len : Int) := by omega
      go_wp2_with fail
      refine (known_true wr).mono ?_
      rintro e w4 ⟨rfl, B4⟩
      have Bf := below_size B (Nat.le_refl _) B4
      go_wp2
      go_ret
      exact ⟨rfl, Bf⟩
end Go.Proofs.Ytehccbomjfmcjaa
