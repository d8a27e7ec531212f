/- Open, where all goes well. -/
import Derived.Test.YtofgphiamllmdabRoom
import Derived.Test.YtofgphiamllmdabReadD
import Derived.Test.YtofgphiamllmdabRecW
import Derived.Test.YtofgphiamllmdabFormat
namespace Go.Proofs.Ytofgphiamllmdab
open Go.RowKit
set_option maxRecDepth 100000

theorem catS_byte {G : Int → List Int} (hG : ∀ k, IsSec (G k)) (at' : Int) (n : Nat) : ∀ x ∈ catS G at' n, 0 ≤ x ∧ x < 256 := fun x hx => by
  obtain ⟨i, _, h⟩ := List.mem_flatMap.1 hx
  exact (hG _).byte x h
/-- A sector of sectors, one behind the other. -/
theorem ch_cat {G : Int → List Int} (hG : ∀ k, IsSec (G k)) (at' : Int) : ∀ (n k : Nat), k < n → ch (catS G at' n) k = G (at' + (k : Int))
  | 0, _, h => by omega
  | n + 1, k, h => by
    have hl := catS_len hG at' n
    rw [catS_succ]
    unfold ch
    by_cases hk : k = n
    · subst hk
      rw [List.drop_append, hl, List.drop_eq_nil_of_le (by omega), List.nil_append, show 128 * k - k * 128 = 0 by omega, List.drop_zero, List.take_of_length_le (by rw [(hG _).len]; omega)]
    · have ih := ch_cat hG at' n k (by omega)
      unfold ch at ih
      rw [List.drop_append_of_le_length (by omega), List.take_append_of_le_length (by rw [List.length_drop]; omega), ih]
section
variable {w : World} {n₀ p bs bn : Nat} {pv : Value} {G0 G1 : Int → List Int} {L : List (Int × List Int)}
theorem Fr.of_but {lb : Nat} {w' : World} (h : But lb w w') (hl : w.heap.size ≤ lb) : Fr p bs bn w pv w' pv := ⟨h.os, h.tape, h.output, h.size, fun i hi _ _ _ h4 => ⟨h.block i hi (by omega), h4⟩⟩
theorem Dev.but {size left : Int} {dead : Bool} {b : Nat} {w' : World} (D : Dev w n₀ p bs bn pv size G0 G1 L left dead) (h : But b w w') (hb : b ≠ p ∧ b ≠ bs ∧ b ≠ bn ∧ pv.ownBlock ≠ some b) : Dev w' n₀ p bs bn pv size G0 G1 L left dead :=
  ⟨(h.block p D.lt (Ne.symm hb.1)).trans D.obj, D.safe.same (h.block bs D.safe.lt (Ne.symm hb.2.1)), D.now.same (h.block bn D.now.lt (Ne.symm hb.2.2.1)), own_same D.pend (fun g hg => h.block g (D.pvlt hg) (fun e => hb.2.2.2 (e ▸ hg))), D.secs, D.ne, D.fromP, D.fromS, D.fromN⟩
theorem head_set0 {b : Nat} {l0 v1 v2 v3 : Value} (h : w.heap[b]? = some (.cells #[l0, v1, v2, v3] 80 (0, 0))) (l : Int) : (w.setCell ⟨b, 0, none⟩ (.int .i64 l)).heap[b]? = some (.cells #[.int .i64 l, v1, v2, v3] 80 (0, 0)) := by
  rw [heap_setCell_same w b 0 _ _ _ h]
  simp
theorem Recs.mono {n₁ n₂ : Nat} {v : Value} {recs : List (List Int)} (h : Recs w n₁ v recs) (hn : n₂ ≤ n₁) : Recs w n₂ v recs := by
  obtain ⟨vs, h1, h2⟩ := h
  exact ⟨vs, own_mono h1 hn, fun i ys hi => by
    obtain ⟨x, h3, h4, h5⟩ := h2 i ys hi
    exact ⟨x, h3, h4, own_mono h5 hn⟩⟩
set_option maxHeartbeats 8000000 in
theorem open_ok {S hs : Nat} (D0 : Dev w n₀ p bs bn pv (S : Int) G0 G1 L 0 false) (hs0 : 4 ≤ S) (hs1 : S ≤ 4096) (hhs : hs = (S - 2) / 2) (hL : L.length ≤ 999990000) {life half first since : Int} (hh : newer (rdHead (G1 0)) (rdHead (G1 1)) = some (life, half, first, since)) (hl0 : 0 ≤ life) (hl1 : life < 1099511627776) {hf : Nat} (hf0 : half = (hf : Int)) (hf1 : hf ≤ 1) (hi0 : 0 ≤ first) (hi1 : first ≤ 1099511627776)
    {recs : List (List Int)} {U : Nat} {sq : Int} (hrd : rdLog (fun k => ch (catS G1 0 S) (2 + hf * hs + k)) hs life (hs + 1) 0 first since [] = (recs, U, sq)) (hsq : sq ≤ 1099511627776) :
    Calls Try.prog 42 #[.pointer (some ⟨p, 0, none⟩)] w fun e w' => ∃ lb v, e = .returned (.tuple #[.pointer (some ⟨lb, 0, none⟩), v, .int .i64 0]) ∧ w.heap.size ≤ lb ∧ w'.heap[lb]? = some (logO p (life + 1) half first since sq (hs : Int) (U : Int) false) ∧ Recs w' w.heap.size v recs ∧
      Dev w' n₀ p bs bn (.slice none 0 0) (S : Int) (appl G0 (L ++ wsP ((life + 1) % 2) (headB (life + 1) half first since) (List.finRange 1))) (appl G1 (wsP ((life + 1) % 2) (headB (life + 1) half first since) (List.finRange 1))) [] 0 false ∧ Fr p bs bn w pv w' (.slice none 0 0) := by
  have hG : ∀ k, IsSec (G1 k) := fun k => D0.now.isSec k
  have hxl : (catS G1 0 S).length = 128 * S := by rw [catS_len hG]; omega
  have hxb := catS_byte hG 0 S
  have hh' : Hid (newer (rdHead (ch (catS G1 0 S) 0)) (rdHead (ch (catS G1 0 S) 1)) = some (life, half, first, since)) := by
    show _ = _
    rw [ch_cat hG 0 S 0 (by omega), ch_cat hG 0 S 1 (by omega)]
    exact hh
  replace hf0 : Hid (half = (hf : Int)) := hf0
  replace hhs : Hid (hs = (S - 2) / 2) := hhs
  have hS2 : 2 * hs ≤ S - 2 ∧ 1 ≤ hs ∧ (hs : Int) = ((S : Int) - 2) / 2 := by have := hhs.out; omega
  obtain ⟨hS3, hS4, hS5⟩ := hS2
  replace hS5 : Hid ((hs : Int) = ((S : Int) - 2) / 2) := hS5
  go_enter Try.func42, Try.ntmps42
  go_wp2_with fail
  refine (check_ok D0 (by omega)).mono ?_
  rintro e w1 ⟨rfl, rfl⟩
  go_wp2_with fail
  refine (size_any D0).mono ?_
  rintro e w1 ⟨rfl, rfl⟩
  go_wp2_with fail
  refine (Read_some D0 (by omega) (by omega) 0 S (by omega) (by omega)).mono ?_
  rintro e w1 ⟨rfl, hX, hg⟩
  rw [Nat.mul_comm S 128]
  have B1 : Below w.heap.size w w1 := ⟨hg.os, hg.tape, hg.output, hg.size, fun i hi => hg.block i hi (by simp)⟩
  have D1 := D0.same (fun i hi => B1.block i hi)
  clear hg
  obtain ⟨xb, hxb'⟩ : ∃ b, w.heap.size = b := ⟨_, rfl⟩
  have hxb1 : w.heap.size ≤ xb := by omega
  rw [hxb'] at hX
  have e0 : (Value.slice (some ⟨w.heap.size, 0, none⟩) (128 * S) (128 * S)) = .slice (some ⟨xb, 0, none⟩) (128 * S) (128 * S) := by rw [hxb']
  rw [e0]
  clear hxb' e0
  go_wp2_with fail
  refine (newest_any hX hxb hxl (by omega)).mono ?_
  rintro e w2 ⟨rfl, B2⟩
  rw [hh'.out]
  clear hh' hh
  have X2 : ArrS w2 xb 5 (catS G1 0 S) := (B2.block xb (lt_of_block hX)).trans hX
  have B3 := below_size B1 (Nat.le_refl _) B2
  have D2 := D0.same (fun i hi => B3.block i hi)
  unfold hdV
  have h8 := heap_alloc_new w2 (.cells #[.int .i64 life, .int .i64 half, .int .i64 first, .int .i64 since] 80)
  have X3 : ArrS (w2.alloc (.cells #[.int .i64 life, .int .i64 half, .int .i64 first, .int .i64 since] 80)) xb 5 (catS G1 0 S) := (Below.heap_alloc _ _ _ (lt_of_block X2)).trans X2
  have B4 := below_size B3 (Nat.le_refl _) (box_below w2 (.cells #[.int .i64 life, .int .i64 half, .int .i64 first, .int .i64 since] 80))
  have hhb : w.heap.size ≤ w2.heap.size := B3.size
  clear D1 B1 B2 B3 hX X2
  go_upto_region 10 with fail
  generalize w2.alloc (.cells #[.int .i64 life, .int .i64 half, .int .i64 first, .int .i64 since] 80) = W at *
  generalize w2.heap.size = hb at *
  have DV := D0.same (fun i hi => B4.block i hi)
  have hw2 : IntKind.i64.wrap ((S : Int) - 2) = (S : Int) - 2 := by rw [IntKind.wrap_i64]; omega
  have hq2 : ((S : Int) - 2).tdiv 2 = (hs : Int) := by rw [Int.tdiv_eq_ediv_of_nonneg (by omega)]; exact hS5.out.symm
  have hwh : IntKind.i64.wrap (hs : Int) = (hs : Int) := by rw [IntKind.wrap_i64]; omega
  clear D2
  refine wp_region_inv' (fun A D a w' => ∃ v36 v37 v38 v39 v40 v41 v42 v43 v10 lb, a = (((((((((A.put (some 36) v36).put (some 37) v37).put (some 38) v38).put (some 39) v39).put (some 40) v40).put (some 41) v41).put (some 42) v42).put (some 43) v43).put (some 10) v10) ∧ Below W.heap.size W w' ∧ (D 0 → v36 = .pointer (some ⟨p, 0, none⟩)) ∧ (D 1 → v37 = .agg #[.int .i64 life, .int .i64 half, .int .i64 first, .int .i64 since]) ∧ (D 2 → v38 = .pointer (some ⟨p, 0, none⟩)) ∧ (D 3 → v39 = .int .i64 (S : Int)) ∧ (D 4 → v40 = .int .i64 ((S : Int) - 2)) ∧ (D 5 → v41 = .int .i64 (hs : Int)) ∧ (D 6 → v42 = .agg #[.pointer (some ⟨p, 0, none⟩), .int .i64 life, .int .i64 half, .int .i64 first, .int .i64 since, .int .i64 0, .int .i64 (hs : Int), .int .i64 0, .bool false]) ∧ (D 7 → v43 = .pointer (some ⟨lb, 0, none⟩)) ∧ (D 7 → W.heap.size ≤ lb ∧ w'.heap[lb]? = some (logO p life half first since 0 (hs : Int) 0 false)) ∧ (D 8 → v10 = .pointer (some ⟨lb, 0, none⟩))) (by kernel_rfl) (by kernel_rfl) ?mono ?start ?step ?done
  case mono =>
    rintro D D' a w' hD ⟨v36, v37, v38, v39, v40, v41, v42, v43, v10, lb, ha, hB, e0, e1, e2, e3, e4, e5, e6, e7, hlb, e8⟩
    exact ⟨v36, v37, v38, v39, v40, v41, v42, v43, v10, lb, ha, hB, fun h => e0 ((hD 0).2 h), fun h => e1 ((hD 1).2 h), fun h => e2 ((hD 2).2 h), fun h => e3 ((hD 3).2 h), fun h => e4 ((hD 4).2 h), fun h => e5 ((hD 5).2 h), fun h => e6 ((hD 6).2 h), fun h => e7 ((hD 7).2 h), fun h => hlb ((hD 7).2 h), fun h => e8 ((hD 8).2 h)⟩
  case start => exact ⟨undef, undef, undef, undef, undef, undef, undef, undef, undef, 0, by kernel_rfl, (Below.refl _ _).drew, fun h => h.elim, fun h => h.elim, fun h => h.elim, fun h => h.elim, fun h => h.elim, fun h => h.elim, fun h => h.elim, fun h => h.elim, fun h => h.elim, fun h => h.elim⟩
  case step =>
    intro i o ho D a w' hI hn hcl hd
    obtain ⟨v36, v37, v38, v39, v40, v41, v42, v43, v10, lb, ha, hB, e0, e1, e2, e3, e4, e5, e6, e7, hlb, e8⟩ := hI
    match i, ho with
    | 0, ho =>
      cases Option.some.inj ho
      have ev : a.tmps[0]?.getD undef = .pointer (some ⟨p, 0, none⟩) := by rw [ha]; kernel_rfl
      refine wp_value (w' := w') (v := .pointer (some ⟨p, 0, none⟩)) (by simp [execOp, ev, go_sem]) ?_
      exact ⟨(.pointer (some ⟨p, 0, none⟩)), v37, v38, v39, v40, v41, v42, v43, v10, lb, by rw [ha]; kernel_rfl, hB, fun _ => rfl, fun h => e1 (h.resolve_left (by decide)), fun h => e2 (h.resolve_left (by decide)), fun h => e3 (h.resolve_left (by decide)), fun h => e4 (h.resolve_left (by decide)), fun h => e5 (h.resolve_left (by decide)), fun h => e6 (h.resolve_left (by decide)), fun h => e7 (h.resolve_left (by decide)), fun h => hlb (h.resolve_left (by decide)), fun h => e8 (h.resolve_left (by decide))⟩
    | 1, ho =>
      cases Option.some.inj ho
      have ev : a.tmps[8]?.getD undef = .pointer (some ⟨hb, 0, none⟩) := by rw [ha]; kernel_rfl
      refine wp_value (w' := w') (v := .agg #[.int .i64 life, .int .i64 half, .int .i64 first, .int .i64 since]) (run_load80 (eval_of ev) rfl ((hB.block hb (lt_of_block h8)).trans h8)) ?_
      exact ⟨v36, (.agg #[.int .i64 life, .int .i64 half, .int .i64 first, .int .i64 since]), v38, v39, v40, v41, v42, v43, v10, lb, by rw [ha]; kernel_rfl, hB, fun h => e0 (h.resolve_left (by decide)), fun _ => rfl, fun h => e2 (h.resolve_left (by decide)), fun h => e3 (h.resolve_left (by decide)), fun h => e4 (h.resolve_left (by decide)), fun h => e5 (h.resolve_left (by decide)), fun h => e6 (h.resolve_left (by decide)), fun h => e7 (h.resolve_left (by decide)), fun h => hlb (h.resolve_left (by decide)), fun h => e8 (h.resolve_left (by decide))⟩
    | 2, ho =>
      cases Option.some.inj ho
      have ev : a.tmps[0]?.getD undef = .pointer (some ⟨p, 0, none⟩) := by rw [ha]; kernel_rfl
      refine wp_value (w' := w') (v := .pointer (some ⟨p, 0, none⟩)) (by simp [execOp, ev, go_sem]) ?_
      exact ⟨v36, v37, (.pointer (some ⟨p, 0, none⟩)), v39, v40, v41, v42, v43, v10, lb, by rw [ha]; kernel_rfl, hB, fun h => e0 (h.resolve_left (by decide)), fun h => e1 (h.resolve_left (by decide)), fun _ => rfl, fun h => e3 (h.resolve_left (by decide)), fun h => e4 (h.resolve_left (by decide)), fun h => e5 (h.resolve_left (by decide)), fun h => e6 (h.resolve_left (by decide)), fun h => e7 (h.resolve_left (by decide)), fun h => hlb (h.resolve_left (by decide)), fun h => e8 (h.resolve_left (by decide))⟩
    | 3, ho =>
      cases Option.some.inj ho
      have ev : a.tmps[38]?.getD undef = .pointer (some ⟨p, 0, none⟩) := by rw [ha, e2 (hd ⟨2, .data⟩ (by simp) rfl)]; kernel_rfl
      refine wp_enter (f := 71) (args := #[.pointer (some ⟨p, 0, none⟩)]) (by simp [execOp, ev, go_sem]) ?_
      refine (size_any (DV.same (fun i hi => hB.block i hi))).mono ?_
      rintro e w6 ⟨rfl, rfl⟩
      refine ⟨_, rfl, ?_⟩
      exact ⟨v36, v37, v38, (.int .i64 (S : Int)), v40, v41, v42, v43, v10, lb, by rw [ha]; kernel_rfl, hB, fun h => e0 (h.resolve_left (by decide)), fun h => e1 (h.resolve_left (by decide)), fun h => e2 (h.resolve_left (by decide)), fun _ => rfl, fun h => e4 (h.resolve_left (by decide)), fun h => e5 (h.resolve_left (by decide)), fun h => e6 (h.resolve_left (by decide)), fun h => e7 (h.resolve_left (by decide)), fun h => hlb (h.resolve_left (by decide)), fun h => e8 (h.resolve_left (by decide))⟩
    | 4, ho =>
      cases Option.some.inj ho
      have ev : a.tmps[39]?.getD undef = .int .i64 (S : Int) := by rw [ha, e3 (hd ⟨3, .data⟩ (by simp) rfl)]; kernel_rfl
      refine wp_value (w' := w') (v := .int .i64 ((S : Int) - 2)) (by simp [execOp, ev, go_sem, hw2]) ?_
      exact ⟨v36, v37, v38, v39, (.int .i64 ((S : Int) - 2)), v41, v42, v43, v10, lb, by rw [ha]; kernel_rfl, hB, fun h => e0 (h.resolve_left (by decide)), fun h => e1 (h.resolve_left (by decide)), fun h => e2 (h.resolve_left (by decide)), fun h => e3 (h.resolve_left (by decide)), fun _ => rfl, fun h => e5 (h.resolve_left (by decide)), fun h => e6 (h.resolve_left (by decide)), fun h => e7 (h.resolve_left (by decide)), fun h => hlb (h.resolve_left (by decide)), fun h => e8 (h.resolve_left (by decide))⟩
    | 5, ho =>
      cases Option.some.inj ho
      have ev : a.tmps[40]?.getD undef = .int .i64 ((S : Int) - 2) := by rw [ha, e4 (hd ⟨4, .data⟩ (by simp) rfl)]; kernel_rfl
      refine wp_value (w' := w') (v := .int .i64 (hs : Int)) (by simp [execOp, ev, go_sem, hq2, hwh]) ?_
      exact ⟨v36, v37, v38, v39, v40, (.int .i64 (hs : Int)), v42, v43, v10, lb, by rw [ha]; kernel_rfl, hB, fun h => e0 (h.resolve_left (by decide)), fun h => e1 (h.resolve_left (by decide)), fun h => e2 (h.resolve_left (by decide)), fun h => e3 (h.resolve_left (by decide)), fun h => e4 (h.resolve_left (by decide)), fun _ => rfl, fun h => e6 (h.resolve_left (by decide)), fun h => e7 (h.resolve_left (by decide)), fun h => hlb (h.resolve_left (by decide)), fun h => e8 (h.resolve_left (by decide))⟩
    | 6, ho =>
      cases Option.some.inj ho
      have ev : a.tmps[36]?.getD undef = .pointer (some ⟨p, 0, none⟩) := by rw [ha, e0 (hd ⟨0, .data⟩ (by simp) rfl)]; kernel_rfl
      have ev' : a.tmps[37]?.getD undef = .agg #[.int .i64 life, .int .i64 half, .int .i64 first, .int .i64 since] := by rw [ha, e1 (hd ⟨1, .data⟩ (by simp) rfl)]; kernel_rfl
      have ev'' : a.tmps[41]?.getD undef = .int .i64 (hs : Int) := by rw [ha, e5 (hd ⟨5, .data⟩ (by simp) rfl)]; kernel_rfl
      refine wp_value (w' := w') (v := .agg #[.pointer (some ⟨p, 0, none⟩), .int .i64 life, .int .i64 half, .int .i64 first, .int .i64 since, .int .i64 0, .int .i64 (hs : Int), .int .i64 0, .bool false]) (by simp [execOp, ev, ev', ev'', go_sem]) ?_
      exact ⟨v36, v37, v38, v39, v40, v41, (.agg #[.pointer (some ⟨p, 0, none⟩), .int .i64 life, .int .i64 half, .int .i64 first, .int .i64 since, .int .i64 0, .int .i64 (hs : Int), .int .i64 0, .bool false]), v43, v10, lb, by rw [ha]; kernel_rfl, hB, fun h => e0 (h.resolve_left (by decide)), fun h => e1 (h.resolve_left (by decide)), fun h => e2 (h.resolve_left (by decide)), fun h => e3 (h.resolve_left (by decide)), fun h => e4 (h.resolve_left (by decide)), fun h => e5 (h.resolve_left (by decide)), fun _ => rfl, fun h => e7 (h.resolve_left (by decide)), fun h => hlb (h.resolve_left (by decide)), fun h => e8 (h.resolve_left (by decide))⟩
    | 7, ho =>
      cases Option.some.inj ho
      have ev : a.tmps[42]?.getD undef = .agg #[.pointer (some ⟨p, 0, none⟩), .int .i64 life, .int .i64 half, .int .i64 first, .int .i64 since, .int .i64 0, .int .i64 (hs : Int), .int .i64 0, .bool false] := by rw [ha, e6 (hd ⟨6, .data⟩ (by simp) rfl)]; kernel_rfl
      refine wp_value (w' := w'.alloc (.cells #[.pointer (some ⟨p, 0, none⟩), .int .i64 life, .int .i64 half, .int .i64 first, .int .i64 since, .int .i64 0, .int .i64 (hs : Int), .int .i64 0, .bool false] 89)) (v := .pointer (some ⟨w'.heap.size, 0, none⟩)) (by simp [execOp, ev, go_sem]) ?_
      exact ⟨v36, v37, v38, v39, v40, v41, v42, (.pointer (some ⟨w'.heap.size, 0, none⟩)), v10, w'.heap.size, by rw [ha]; kernel_rfl, hB.alloc hB.size _, fun h => e0 (h.resolve_left (by decide)), fun h => e1 (h.resolve_left (by decide)), fun h => e2 (h.resolve_left (by decide)), fun h => e3 (h.resolve_left (by decide)), fun h => e4 (h.resolve_left (by decide)), fun h => e5 (h.resolve_left (by decide)), fun h => e6 (h.resolve_left (by decide)), fun _ => rfl, fun _ => ⟨hB.size, heap_alloc_new _ _⟩, fun h => absurd (h.resolve_left (by decide)) (fun h => hn (hcl 8 _ rfl h ⟨7, .data⟩ (by simp) rfl))⟩
    | 8, ho =>
      cases Option.some.inj ho
      have ev : a.tmps[43]?.getD undef = .pointer (some ⟨lb, 0, none⟩) := by rw [ha, e7 (hd ⟨7, .data⟩ (by simp) rfl)]; kernel_rfl
      refine wp_value (w' := w') (v := .pointer (some ⟨lb, 0, none⟩)) (by simp [execOp, ev, go_sem]) ?_
      exact ⟨v36, v37, v38, v39, v40, v41, v42, v43, (.pointer (some ⟨lb, 0, none⟩)), lb, by rw [ha]; kernel_rfl, hB, fun h => e0 (h.resolve_left (by decide)), fun h => e1 (h.resolve_left (by decide)), fun h => e2 (h.resolve_left (by decide)), fun h => e3 (h.resolve_left (by decide)), fun h => e4 (h.resolve_left (by decide)), fun h => e5 (h.resolve_left (by decide)), fun h => e6 (h.resolve_left (by decide)), fun h => e7 (h.resolve_left (by decide)), fun h => hlb (h.resolve_left (by decide)), fun _ => rfl⟩
    | i + 9, ho => simp at ho
  case done =>
    rintro D a w' ⟨v36, v37, v38, v39, v40, v41, v42, v43, v10, lb, ha, hB, e0, e1, e2, e3, e4, e5, e6, e7, hlb, e8⟩ hall
    obtain ⟨hlb1, hlb2⟩ := hlb (hall 7 (by decide))
    obtain rfl := e0 (hall 0 (by decide))
    obtain rfl := e1 (hall 1 (by decide))
    obtain rfl := e2 (hall 2 (by decide))
    obtain rfl := e3 (hall 3 (by decide))
    obtain rfl := e4 (hall 4 (by decide))
    obtain rfl := e5 (hall 5 (by decide))
    obtain rfl := e6 (hall 6 (by decide))
    obtain rfl := e7 (hall 7 (by decide))
    obtain rfl := e8 (hall 8 (by decide))
    clear hlb hall e0 e1 e2 e3 e4 e5 e6 e7 e8
    rw [ha]
    clear ha
    simp only [Act.put, List.setIfInBounds_toArray, List.set_cons_zero, List.set_cons_succ]
    have B5 := below_size B4 (Nat.le_refl _) hB
    have X5 : ArrS w' xb 5 (catS G1 0 S) := (hB.block xb (lt_of_block X3)).trans X3
    have h85 := (hB.block hb (lt_of_block h8)).trans h8
    have D5 := D0.same (fun i hi => B5.block i hi)
    have hwl : w.heap.size ≤ W.heap.size := B4.size
    have hlh : hb ≠ lb := by have := lt_of_block h8; omega
    clear X3 h8 DV B4 hB hw2 hq2 hwh
    have a1 : w'.cell? ⟨hb, 1, none⟩ = some (.int .i64 half) := by rw [cell_of_row _ hb _ _ _ _ h85]; rfl
    go_wp2_with fail
    refine (start_any hlb2 half (by have := hf0.out; omega) (by omega) (by omega)).mono ?_
    rintro e w3 ⟨rfl, rfl⟩
    obtain ⟨u, hu⟩ : ∃ u : Nat, Hid (2 + hf * hs = u) := ⟨_, rfl⟩
    have eu : 2 + half * (hs : Int) = (u : Int) := by rw [hf0.out, ← hu.out]; push_cast; rfl
    have hu2 : u + hs ≤ S := by
      have := hu.out
      rcases Nat.le_one_iff_eq_zero_or_eq_one.1 hf1 with rfl | rfl <;> omega
    rw [eu]
    rw [hu.out] at hrd
    clear eu
    have a6 := (log_cells hlb2).2.2.2.2.2.2.1
    have v1 : IntKind.i64.wrap ((u : Int) * 128) = (u : Int) * 128 := by rw [IntKind.wrap_i64]; omega
    have v2 : IntKind.i64.wrap ((u : Int) + (hs : Int)) = (u : Int) + (hs : Int) := by rw [IntKind.wrap_i64]; omega
    have v3 : IntKind.i64.wrap (((u : Int) + (hs : Int)) * 128) = ((u : Int) + (hs : Int)) * 128 := by rw [IntKind.wrap_i64]; omega
    go_wp2_with (first | (refine wpList_value rfl (run_slice38b (k := u * 128) (E := (u + hs) * 128) rfl (by simp [Act.eval]) (by simp [Act.eval]) rfl (by omega) (by omega) (by omega)) ?_) | fail)
    rw [show (u + hs) * 128 - u * 128 = 128 * hs by omega, Nat.mul_comm u 128]
    refine (logRead_any hlb2 X5 hxb hxl hu2 (by omega) (by omega) hi0 hi1).mono ?_
    rintro e w4 ⟨v, recs', U', sq', hrd', rfl, RC, L4, N4⟩
    rw [hrd] at hrd'
    injection hrd' with r1 r2
    injection r2 with r2 r3
    subst r1 r2 r3
    clear hrd a6 v1 v2 v3 a1
    have ap := D5.apart hlb2 (by decide) (by decide)
    have D6 := D5.but N4 ap
    have h86 := (N4.block hb (lt_of_block h85) hlh).trans h85
    have F6 : Fr p bs bn w pv w4 pv := ⟨N4.os.trans B5.os, N4.tape.trans B5.tape, N4.output.trans B5.output, Nat.le_trans B5.size N4.size, fun i hi _ _ _ h4 => ⟨(N4.block i (by have := B5.size; omega) (by omega)).trans (B5.block i hi), h4⟩⟩
    have RC6 := RC.mono B5.size
    clear D5 h85 X5 N4 B5 RC hlb2 ap
    have a0 : w4.cell? ⟨hb, 0, none⟩ = some (.int .i64 life) := by rw [cell_of_row _ hb _ _ _ _ h86]; rfl
    have a5 := (log_cells L4).2.2.2.2.2.1
    have b1 : ¬ life = 1099511627776 := by omega
    have b2 : ¬ (1099511627776 : Int) < sq := by omega
    have b3 : (life == 1099511627776) = false := by simp [b1]
    have b4 : decide ((1099511627776 : Int) < sq) = false := by simp [b2]
    have hwl1 : IntKind.i64.wrap (life + 1) = life + 1 := by rw [IntKind.wrap_i64]; omega
    have f0 : w4.frozen? ⟨hb, 0, none⟩ = false := frozen_of_row w4 hb 0 _ _ h86
    have h87 := head_set0 h86 (life + 1)
    have nh : hb ≠ p ∧ hb ≠ bs ∧ hb ≠ bn ∧ pv.ownBlock ≠ some hb := D6.apart h86 (by decide) (by decide)
    have N7 := (But.refl hb w4).set (i := 0) (v := .int .i64 (life + 1))
    have D7 := D6.but N7 nh
    have L7 := (N7.block lb (lt_of_block L4) (Ne.symm hlh)).trans L4
    have RC7 := RC6.set (i := 0) (x := .int .i64 (life + 1)) h86 (by decide) (by decide)
    have F7 : Fr p bs bn w pv (w4.setCell ⟨hb, 0, none⟩ (.int .i64 (life + 1))) pv := ⟨F6.os, F6.tape, F6.output, by simpa using F6.size, fun i hi k1 k2 k3 k4 => ⟨(heap_setCell_other _ _ _ _ (by show i ≠ hb; omega)).trans (F6.keep i hi k1 k2 k3 k4).1, k4⟩⟩
    go_wp2_with (first | (refine wpList_value rfl (run_load80 rfl rfl h87) ?_) | fail)
    generalize w4.setCell ⟨hb, 0, none⟩ (.int .i64 (life + 1)) = w5 at *
    clear a0 a5 f0 h86 h87 N7 D6 L4 RC6 F6 b1 b2 b3 b4
    refine (take_ok D7 L7 (by omega) (by omega) hL (life + 1) half first since (by omega)).mono ?_
    rintro e w6 ⟨rfl, D8, L8, o1, o2, o3, o4, o5⟩
    have hgl := fun g c t (h : w5.heap[g]? = some (.cells c t (0, 0))) (ht : t = 5 ∨ t = 38) (_ : w.heap.size ≤ g) => o5 g (lt_of_block h) (by
      rintro rfl
      rw [L7] at h
      have := cells_ty h
      rcases ht with rfl | rfl <;> exact absurd this (by decide)) (D7.apart h (by rcases ht with rfl | rfl <;> decide) (by rcases ht with rfl | rfl <;> decide)).1 (D7.apart h (by rcases ht with rfl | rfl <;> decide) (by rcases ht with rfl | rfl <;> decide)).2.1 (D7.apart h (by rcases ht with rfl | rfl <;> decide) (by rcases ht with rfl | rfl <;> decide)).2.2.1 (D7.apart h (by rcases ht with rfl | rfl <;> decide) (by rcases ht with rfl | rfl <;> decide)).2.2.2
    have RC8 := RC7.keep hgl
    have F8 : Fr p bs bn w pv w6 (.slice none 0 0) := ⟨o1.trans F7.os, o2.trans F7.tape, o3.trans F7.output, Nat.le_trans F7.size o4, fun i hi k1 k2 k3 k4 => ⟨(o5 i (by have := F7.size; omega) (by omega) k1 k2 k3 k4).trans (F7.keep i hi k1 k2 k3 k4).1, by simp [Value.ownBlock]⟩⟩
    clear D7 L7 RC7 F7 o1 o2 o3 o4 o5 hgl
    go_wp2
    exact bodyPost_ret (v := .tuple #[.pointer (some ⟨lb, 0, none⟩), v, .int .i64 0]) (by simp [results, Try.results42, go_sem]) rfl ⟨lb, v, rfl, by omega, L8, RC8, D8, F8⟩
end
end Go.Proofs.Ytofgphiamllmdab
