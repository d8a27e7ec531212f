/- device and known. -/
import Derived.Test.YtofgphiamllmdabEval
import Derived.Test.YtofgphiamllmdabCrash
import Derived.Lib.SlBytesConst
namespace Go.Proofs.Ytofgphiamllmdab
open Go.RowKit
set_option maxRecDepth 100000

set_option maxHeartbeats 1000000 in
theorem rnew_any (w : World) (n : Nat) (h0 : 1 ≤ n) (h1 : n ≤ 4096) : Calls Try.prog 44 #[.int .i64 (n : Int)] w fun e w' => ∃ q, e = .returned (.pointer (some ⟨q, 0, none⟩)) ∧ Below w.heap.size w w' := by
  obtain ⟨i0, hi, hz0, hz1, hz2⟩ := info_parts Try.info5
  have hw : IntKind.i64.wrap ((n : Int) * 128) = ((n * 128 : Nat) : Int) := by rw [IntKind.wrap_i64]; omega
  have c1 : ¬ (n : Int) < 1 := by omega
  have c2 : ¬ (4096 : Int) < (n : Int) := by omega
  go_enter Try.func44, Try.ntmps44
  go_wp2_with (at_make; refine wpList_make_row _ rfl _ _ 38 rfl 5 i0 (.int .u8 0) Try.underlying38 hi hz0 hz1 rfl .i64 .i64 (n * 128) (by simp [Act.eval]) (by simp [Act.eval]) (by rw [hz2]; omega) (by omega) ?_)
  go_ret
  exact ⟨⟨_, rfl⟩, ((Below.refl _ w).alloc (Nat.le_refl _) _).alloc (by simp) _⟩
set_option maxHeartbeats 1000000 in
theorem device_ok (w : World) (n : Nat) (h0 : 1 ≤ n) (h1 : n ≤ 4096) : Calls Try.prog 10 #[.int .i64 (n : Int)] w fun e w' => ∃ p bs bn q, e = .returned (.tuple #[.pointer (some ⟨p, 0, none⟩), .pointer (some ⟨q, 0, none⟩)]) ∧ Dev w' w.heap.size p bs bn (.slice none 0 0) (n : Int) (fun _ => z128) (fun _ => z128) [] 0 false ∧ Below w.heap.size w w' := by
  go_enter Try.func10, Try.ntmps10
  go_wp2_with fail
  refine (new_any w (n : Int) (by omega) (by omega)).mono ?_
  rintro e w1 ⟨rfl, D1, B1⟩
  go_wp2_with fail
  refine (rnew_any w1 n h0 h1).mono ?_
  rintro e w2 ⟨q, rfl, B2⟩
  have D2 := D1.same (fun i hi => B2.block i hi)
  have B3 := below_size B1 (Nat.le_refl _) B2
  go_wp2
  exact bodyPost_ret (v := .tuple #[.pointer (some ⟨w.heap.size + 2, 0, none⟩), .pointer (some ⟨q, 0, none⟩)]) (by simp [results, Try.results10, go_sem]) rfl ⟨_, _, _, q, rfl, D2, B3⟩
/-- A record of one sector, read. -/
theorem rdRec_one {g : Nat → List Int} {life seq : Int} {ys : List Int} (hg : g 0 = pieceB life seq 0 true ys) (l1 : 0 ≤ life) (l2 : life ≤ 1099511627776) (q1 : 0 ≤ seq) (q2 : seq ≤ 1099511627776) (y1 : 1 ≤ ys.length) (y2 : ys.length ≤ 112) (r : Nat) : rdRec g seq (r + 1) 0 0 [] = some (life, ys) := by
  unfold rdRec
  rw [hg, rdPiece_piece l1 l2 q1 q2 (by decide) (by decide) y1 y2 (fun h => by cases h)]
  simp only []
  rw [if_neg (show ¬ (seq ≠ seq ∨ (0 : Int) ≠ ((0 : Nat) : Int) ∨ (0 < 0 ∧ life ≠ 0)) by simp), List.nil_append, pieceB_bytes, if_neg (show ¬ 60000 < ys.length by omega), if_pos trivial]
theorem rdRec_none {g : Nat → List Int} {seq : Int} (hg : g 0 = z128) (r : Nat) : rdRec g seq r 0 0 [] = none := by
  cases r
  · rfl
  · unfold rdRec
    rw [hg, rdPiece_zero]
set_option maxHeartbeats 4000000 in
theorem known_true (w : World) : Calls Try.prog 38 #[] w fun e w' => e = .returned (.bool true) ∧ Below w.heap.size w w' := by
  go_enter Try.func38, Try.ntmps38
  go_wp2_with fail
  refine (device_ok w 10 (by decide) (by decide)).mono ?_
  rintro e w1 ⟨p, bs, bn, q, rfl, D1, B1⟩
  go_wp2_with fail
  refine (format_ok D1 (by decide) (by decide) (by decide)).mono ?_
  rintro e w2 ⟨rfl, D2, F2⟩
  have B2 := B1.trans (F2.below D1)
  rw [List.nil_append] at D2
  have G2a : appl (fun _ => z128) (wsP 0 (z128 ++ headB 1 0 1 1) (List.finRange 2)) 0 = z128 := by rw [appl_write, if_pos (by decide)]; exact ch_two0 isSec_z.len
  have G2b : appl (fun _ => z128) (wsP 0 (z128 ++ headB 1 0 1 1) (List.finRange 2)) 1 = headB 1 0 1 1 := by rw [appl_write, if_pos (by decide)]; exact ch_two1 isSec_z.len (headB_sec 1 0 1 1).len
  have G2c : ∀ i, 2 ≤ i → appl (fun _ => z128) (wsP 0 (z128 ++ headB 1 0 1 1) (List.finRange 2)) i = z128 := fun i hi => by rw [appl_write, if_neg (by omega)]
  generalize appl (fun _ => z128) (wsP 0 (z128 ++ headB 1 0 1 1) (List.finRange 2)) = G2 at *
  clear D1 B1 F2
  have S2 : ∀ k, IsSec (G2 k) := fun k => D2.now.isSec k
  have r2 : rdLog (fun k => ch (catS G2 0 10) (2 + 0 * 4 + k)) 4 1 (4 + 1) 0 1 1 [] = ([], 0, 1) := by
    unfold rdLog
    rw [rdRec_none (by show ch (catS G2 0 10) 2 = z128; rw [ch_cat S2 0 10 2 (by decide)]; exact G2c _ (by decide))]
  have h2 : newer (rdHead (G2 0)) (rdHead (G2 1)) = some (1, 0, 1, 1) := by rw [G2a, G2b, rdHead_zero, rdHead_head (by decide) (by decide) (by decide) (by decide) (by decide) (by decide) (by decide) (by decide)]; rfl
  go_wp2_with fail
  refine (open_ok (S := 10) (hs := 4) D2 (by decide) (by decide) (by decide) (by decide) h2 (by decide) (by decide) (hf := 0) rfl (by decide) (by decide) (by decide) r2 (by decide)).mono ?_
  rintro e w3 ⟨lb, v3, rfl, hlb, L3, RC3, D3, F3⟩
  have B3 := B2.trans (F3.below D2)
  rw [List.nil_append] at D3
  change Dev w3 w.heap.size p bs bn (.slice none 0 0) 10 (appl G2 (wsP 0 (headB 2 0 1 1) (List.finRange 1))) (appl G2 (wsP 0 (headB 2 0 1 1) (List.finRange 1))) [] 0 false at D3
  change w3.heap[lb]? = some (logO p 2 0 1 1 1 4 0 false) at L3
  have G3a : appl G2 (wsP 0 (headB 2 0 1 1) (List.finRange 1)) 0 = headB 2 0 1 1 := by rw [appl_write, if_pos (by decide)]; exact ch_one (headB_sec 2 0 1 1).len
  have G3b : appl G2 (wsP 0 (headB 2 0 1 1) (List.finRange 1)) 1 = headB 1 0 1 1 := by rw [appl_write, if_neg (by decide)]; exact G2b
  have G3c : ∀ i, 2 ≤ i → appl G2 (wsP 0 (headB 2 0 1 1) (List.finRange 1)) i = z128 := fun i hi => by rw [appl_write, if_neg (by omega)]; exact G2c i hi
  generalize appl G2 (wsP 0 (headB 2 0 1 1) (List.finRange 1)) = G3 at *
  have hlw : w.heap.size ≤ lb := Nat.le_trans B2.size hlb
  clear D2 B2 F3 r2 h2 G2a G2b G2c S2 RC3
  have hcv := Lib.run_convert_bytes_const (P := Try.prog) w3 38 5 #[.int .u8 97] 1 1 Try.underlying38 Try.underlying5
  have A4 := heap_alloc_new w3 (.cells #[.int .u8 97] 5 (1, 2))
  have B4 := below_size B3 (by omega) (box_below w3 (.cells #[.int .u8 97] 5 (1, 2)))
  have L4 : (w3.alloc (.cells #[.int .u8 97] 5 (1, 2))).heap[lb]? = some (logO p 2 0 1 1 1 4 0 false) := (Below.heap_alloc _ _ _ (lt_of_block L3)).trans L3
  have D4 := D3.same (w' := w3.alloc (.cells #[.int .u8 97] 5 (1, 2))) (fun i hi => Below.heap_alloc _ _ _ hi)
  have y4 : (w3.alloc (.cells #[.int .u8 97] 5 (1, 2))).cell? ⟨w3.heap.size, 0, none⟩ = some (.int .u8 97) := by
    unfold World.cell?
    rw [A4]
    rfl
  clear D3 L3 B3
  go_wp2_with fail
  change Calls Try.prog 16 _ (w3.alloc (.cells #[.int .u8 97] 5 (1, 2))) _
  clear hcv
  have hlt := lt_of_block A4
  generalize w3.alloc (.cells #[.int .u8 97] 5 (1, 2)) = w4 at *
  generalize w3.heap.size = yb at *
  have hys4 : ∀ i, i < 1 → w4.cell? ⟨yb, 0 + i, none⟩ = some (.int .u8 (([97] : List Int).getD i 0)) := by
    intro i hi
    obtain rfl : i = 0 := by omega
    exact y4
  refine (append_ok (K := 1) (ys := [97]) D4 L4 (by decide) (by decide) (.inl rfl) (by decide) (by decide) (by decide) (by decide) (by decide) rfl (by decide) (by decide) (by decide) hlt (by intro y hy; simp at hy; omega) hys4 (by decide) (by decide) 2 (by decide) (by decide)).mono ?_
  rintro e w5 ⟨rfl, D5, L5, o1, o2, o3, o4, o5⟩
  have B5 : Below w.heap.size w w5 := ⟨o1.trans B4.os, o2.trans B4.tape, o3.trans B4.output, Nat.le_trans B4.size o4, fun i hi => (o5 i (by have := B4.size; omega) (by omega) (by have := D4.fromP; omega) (by have := D4.fromS; omega) (by have := D4.fromN; omega) (by simp [Value.ownBlock])).trans (B4.block i hi)⟩
  rw [List.nil_append] at D5
  have G5a : appl G3 (wsP 2 (recB 2 1 [97]) (List.finRange 1)) 0 = headB 2 0 1 1 := by rw [appl_write, if_neg (by decide)]; exact G3a
  have G5b : appl G3 (wsP 2 (recB 2 1 [97]) (List.finRange 1)) 1 = headB 1 0 1 1 := by rw [appl_write, if_neg (by decide)]; exact G3b
  have G5c : appl G3 (wsP 2 (recB 2 1 [97]) (List.finRange 1)) 2 = pieceB 2 1 0 true [97] := by
    rw [appl_write, if_pos (by decide)]
    unfold recB
    exact (ch_cat (recG_sec 2 1 (by intro y hy; simp at hy; omega) _) 0 1 0 (by decide)).trans rfl
  have G5d : ∀ i, 3 ≤ i → appl G3 (wsP 2 (recB 2 1 [97]) (List.finRange 1)) i = z128 := fun i hi => by rw [appl_write, if_neg (by omega)]; exact G3c i (by omega)
  generalize appl G3 (wsP 2 (recB 2 1 [97]) (List.finRange 1)) = G5 at *
  clear D4 L4 B4 L5 o1 o2 o3 o4 o5 G3a G3b G3c y4 A4 hlt
  go_wp2_with fail
  refine (Crash_some D5 (fun i => rfl) none 0 0 [] ⟨rfl, fun h => absurd h (by decide)⟩ (by decide) (by decide) (by intro b off h; cases h)).mono ?_
  rintro e w6 ⟨rfl, D6, F6⟩
  have B6 := B5.trans (F6.below D5)
  change Dev w6 w.heap.size p bs bn (.slice none 0 0) 10 G5 G5 [] 0 false at D6
  clear D5 B5 F6
  have S6 : ∀ k, IsSec (G5 k) := fun k => D6.now.isSec k
  have r6 : rdLog (fun k => ch (catS G5 0 10) (2 + 0 * 4 + k)) 4 2 (4 + 1) 0 1 1 [] = ([[97]], 1, 2) := by
    unfold rdLog
    rw [rdRec_one (life := 2) (seq := 1) (ys := [97]) (by show ch (catS G5 0 10) 2 = _; rw [ch_cat S6 0 10 2 (by decide)]; exact G5c) (by decide) (by decide) (by decide) (by decide) (by decide) (by decide) 3]
    simp only []
    rw [if_neg (by decide)]
    unfold rdLog
    rw [rdRec_none (by show ch (catS G5 0 10) 3 = z128; rw [ch_cat S6 0 10 3 (by decide)]; exact G5d _ (by decide))]
    rfl
  have h6 : newer (rdHead (G5 0)) (rdHead (G5 1)) = some (2, 0, 1, 1) := by rw [G5a, G5b, rdHead_head (by decide) (by decide) (by decide) (by decide) (by decide) (by decide) (by decide) (by decide), rdHead_head (by decide) (by decide) (by decide) (by decide) (by decide) (by decide) (by decide) (by decide)]; rfl
  go_wp2_with fail
  refine (open_ok (S := 10) (hs := 4) D6 (by decide) (by decide) (by decide) (by decide) h6 (by decide) (by decide) (hf := 0) rfl (by decide) (by decide) (by decide) r6 (by decide)).mono ?_
  rintro e w7 ⟨lb7, v7, rfl, hlb7, L7, RC7, D7, F7⟩
  have B7 := B6.trans (F7.below D6)
  clear D6 B6 F7 r6 h6 G5a G5b G5c G5d S6 L7 D7
  obtain ⟨vs, O7, E7⟩ := RC7
  obtain ⟨x, hx, _, O8⟩ := E7 0 [97] rfl
  obtain ⟨g, cap, rfl⟩ := own_pos O7 (by decide)
  obtain ⟨g2, cap2, rfl⟩ := own_pos O8 (by decide)
  have q0 : w7.cell? ⟨g, 0, none⟩ = some (.slice (some ⟨g2, 0, none⟩) 1 cap2) := by
    have := World.ownsRow.cells O7 (g := g) rfl 0 _ hx
    rwa [show (⟨g, 0, none⟩ : Addr).add 0 = ⟨g, 0, none⟩ by unfold Addr.add; split <;> simp_all] at this
  have hst := (isB_own (w := w7) (xs := [97]) O8 (by intro y hy; simp at hy; omega)).str
  have hstr : strOfNums [97] = { data := #[97] } := by rfl
  rw [hstr] at hst
  change (convert 38 9 (.slice (some ⟨g2, 0, none⟩) 1 cap2)).run Try.prog w7 = _ at hst
  clear O7 O8 E7 hx hstr
  go_wp2_with fail
  refine (sectors_any 112 w7).mono ?_
  rintro e w8 ⟨rfl, rfl⟩
  rw [show secs 112 = 1 by decide]
  go_wp2_with fail
  refine (sectors_any 113 w7).mono ?_
  rintro e w8 ⟨rfl, rfl⟩
  rw [show secs 113 = 2 by decide]
  go_wp2
  go_ret
  exact ⟨rfl, B7⟩
end Go.Proofs.Ytofgphiamllmdab
