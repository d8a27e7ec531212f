/- The document's Read. -/
import Derived.Test.YtlhmeipbcioncaaDoorRxW
import Derived.Test.YtlhmeipbcioncaaDoorLxR
namespace Go.Proofs.YtlhmeipbcioncaaDoor
open Go.RowKit
set_option maxRecDepth 100000
theorem idx_none (r : List Int) (h : ∀ m, m < r.length → r.getD m 0 ≠ 34) : r.idxOf? 34 = none := by
  induction r with
  | nil => rfl
  | cons c r ih =>
    rw [List.idxOf?_cons, if_neg (by have := h 0 (by simp); simpa using this), ih fun m hm => by have := h (m + 1) (by simp; omega); simpa using this]
    rfl
theorem idx_first (r : List Int) (j : Nat) (hj : j < r.length) (h : ∀ m, m < j → r.getD m 0 ≠ 34) (he : r.getD j 0 = 34) : r.idxOf? 34 = some j := by
  induction r generalizing j with
  | nil => simp at hj
  | cons c r ih =>
    rw [List.idxOf?_cons]
    cases j with
    | zero => rw [if_pos (by simpa using he)]
    | succ j =>
      rw [if_neg (by have := h 0 (by omega); simpa using this), ih j (by simpa using hj) (fun m hm => by have := h (m + 1) (by omega); simpa using this) (by simpa using he)]
      rfl
set_option maxHeartbeats 16000000 in
theorem rread_lex (ss : List Int) (w : World) (hb : ∀ x ∈ ss, 0 ≤ x ∧ x < 256) : Calls Tryd.prog 10 #[.string (strOfNums ss)] w fun e w' => RdP ss e w' ∧ Below w.heap.size w w' := by
  have hsz : (strOfNums ss).size = ss.length := strOfNums_size ss
  by_cases hl : 4096 < ss.length
  · have hlI : (4096 : Int) < (ss.length : Int) := by omega
    go_enter Tryd.func10, Tryd.ntmps10
    go_wp2
    exact bodyPost_ret (v := .tuple #[.slice none 0 0, .int .i64 0, .int .i64 3]) (by simp [results, go_sem]) rfl ⟨rdp_large hl rfl, Below.refl _ _⟩
  · have hlI : ¬ (4096 : Int) < (ss.length : Int) := by omega
    obtain ⟨O, hO⟩ : ∃ O, Hid (lexR rdB0 0 ss = O) := ⟨_, rfl⟩
    have FOK : ∀ e w' ts, O = .ok ts → (∃ a cap, e = .returned (.tuple #[.slice a ts.length cap, .int .i64 0, .int .i64 0]) ∧ IsT w' a ts.length cap ts) → RdP ss e w' := fun e w' ts h => rdp_ok hl (hO.out.trans h)
    have FER : ∀ e w' p, O = .error p → e = .returned (.tuple #[.slice none 0 0, .int .i64 p, .int .i64 20]) → RdP ss e w' := fun e w' p h => rdp_err hl (hO.out.trans h)
    go_enter Tryd.func10, Tryd.ntmps10
    go_wp2
    go_loopw [5, 6] (fun v x wr => ∃ (i : Nat) (ts : List Tk), x = .int .i64 i ∧ i ≤ ss.length ∧ ts.length ≤ i ∧ OwnT wr w.heap.size 44 v ts ∧ Below w.heap.size w wr ∧ Hid (O = mapT ts (lexR rdB0 i (ss.drop i)))) (fun _ x _ => ss.length - (intOf x).toNat)
    case atStart =>
      refine ⟨0, [], rfl, Nat.zero_le _, Nat.le_refl _, OwnT.nil _ _ _, Below.refl _ _, ?_⟩
      show _ = _
      rw [← hO.out, List.drop_zero, mapT_nil]
    case round =>
      obtain ⟨i, ts, rfl, hi, hts, hown, hB, hv⟩ := hrel
      clear hO
      have hsw := hB.size
      have hw1 : IntKind.i64.wrap ((i : Int) + 1) = (i : Int) + 1 := by rw [IntKind.wrap_i64]; omega
      by_cases hlt : i < ss.length
      · have hltI : (i : Int) < (ss.length : Int) := by omega
        have hat := str_at ss hb i hlt
        have hdr : ss.drop i = ss.getD i 0 :: ss.drop (i + 1) := by rw [getD_lt hlt]; exact List.drop_eq_getElem_cons hlt
        cases hbl : blB (ss.getD i 0) with
        | true =>
          have hv' : Hid (O = mapT ts (lexR rdB0 (i + 1) (ss.drop (i + 1)))) := by
            show _ = _
            rw [hv.out, hdr, lexR_blank _ _ _ hbl]
          clear hv hdr FOK FER
          generalize ss.getD i 0 = c at *
          have h4 : c = 32 ∨ c = 9 ∨ c = 10 ∨ c = 13 := by
            unfold blB at hbl
            simp only [Bool.or_eq_true, beq_iff_eq] at hbl
            omega
          rcases h4 with rfl | rfl | rfl | rfl
          all_goals go_wp2
          all_goals go_roundw
          all_goals first | exact ⟨i + 1, ts, by go_num, by omega, by omega, hown, hB, hv'⟩ | (simp [intOf]; omega)
        | false =>
          have hbb : (ss.getD i 0 == 32) = false ∧ (ss.getD i 0 == 9) = false ∧ (ss.getD i 0 == 10) = false ∧ (ss.getD i 0 == 13) = false := by
            unfold blB at hbl
            simp only [Bool.or_eq_false_iff] at hbl
            exact ⟨hbl.1.1.1, hbl.1.1.2, hbl.1.2, hbl.2⟩
          obtain ⟨b1, b2, b3, b4⟩ := hbb
          by_cases h34 : ss.getD i 0 = 34
          · rw [h34] at hat
            have hdr' : ss.drop i = 34 :: ss.drop (i + 1) := by rw [hdr, h34]
            clear hdr b1 b2 b3 b4 hbl h34
            go_wp2
            go_loop [8] (fun y => ∃ j : Nat, y = .int .i64 j ∧ i + 1 ≤ j ∧ j ≤ ss.length ∧ Hid (∀ m, i + 1 ≤ m → m < j → ss.getD m 0 ≠ 34)) (fun y => ss.length - (intOf y).toNat)
            case atStart => exact ⟨i + 1, by go_num, Nat.le_refl _, hlt, fun m h1 h2 => absurd h1 (by omega)⟩
            case round =>
              clear hat
              obtain ⟨j, rfl, hj1, hj2, hno⟩ := hrel
              have hwj : IntKind.i64.wrap ((j : Int) + 1) = (j : Int) + 1 := by rw [IntKind.wrap_i64]; omega
              by_cases hjl : j < ss.length
              · have hjI : (j : Int) < (ss.length : Int) := by omega
                have hatj := str_at ss hb j hjl
                by_cases hq : ss.getD j 0 = 34
                · have hix : (ss.drop (i + 1)).idxOf? 34 = some (j - (i + 1)) := idx_first _ _ (by rw [List.length_drop]; omega) (fun m hm => by rw [getD_drop]; exact hno.out _ (by omega) (by omega)) (by rw [getD_drop, show i + 1 + (j - (i + 1)) = j by omega]; exact hq)
                  have hv' : Hid (O = mapT ts (lexR rdB0 (j + 1) (ss.drop (j + 1)))) := by
                    show _ = _
                    rw [hv.out, hdr', lexR_note _ _ _ hix, List.drop_drop, show i + (j - (i + 1)) + 2 = j + 1 by omega, show i + 1 + (j - (i + 1) + 1) = j + 1 by omega]
                  have hge : ¬ (ss.length : Int) ≤ (j : Int) := by omega
                  rw [hq] at hatj
                  clear hv hdr' hix hno hq FOK FER
                  go_wp2
                  go_roundw
                  case rel => exact ⟨j + 1, ts, by go_num, by omega, by omega, hown, hB, hv'⟩
                  case measure => simp [intOf]; omega
                · have hno' : Hid (∀ m, i + 1 ≤ m → m < j + 1 → ss.getD m 0 ≠ 34) := fun m h1 h2 => if h : m = j then h ▸ hq else hno.out m h1 (by omega)
                  have hqb : (ss.getD j 0 == 34) = false := by simpa using hq
                  clear hno hq hv FOK FER
                  generalize ss.getD j 0 = c at *
                  go_wp2
                  go_round
                  case rel => exact ⟨j + 1, by go_num, by omega, by omega, hno'⟩
                  case measure => simp [intOf]; omega
              · have hjI : ¬ (j : Int) < (ss.length : Int) := by omega
                have hge : (ss.length : Int) ≤ (j : Int) := by omega
                have hix : (ss.drop (i + 1)).idxOf? 34 = none := idx_none _ fun m hm => by
                  rw [List.length_drop] at hm
                  rw [getD_drop]
                  exact hno.out _ (by omega) (by omega)
                have hv' : O = .error i := by
                  rw [hv.out, hdr', lexR_open _ _ _ hix]
                  rfl
                clear hv hdr' hix hno
                go_wp2
                exact bodyPost_ret (v := .tuple #[.slice none 0 0, .int .i64 i, .int .i64 20]) (by simp [results, go_sem]) rfl ⟨FER _ _ i hv' rfl, hB⟩
          · have hqb : (ss.getD i 0 == 34) = false := by simpa using h34
            have hcall := fun w => rword_any ss i w hb hlt (by omega)
            rcases hW : word rdB0 (ss.drop i) with _ | ⟨kd, t, n⟩
            · have hv' : O = .error i := by
                rw [hv.out]
                rw [hdr] at hW ⊢
                rw [lexR_none _ _ hbl h34 hW]
                rfl
              rw [hW] at hcall
              clear hv hdr hW hbl h34
              generalize ss.getD i 0 = c at *
              go_wp2_with (go_at_call 23; refine (hcall _).mono ?_; rintro e w2 ⟨hA, hB2⟩; rcases hA with ⟨_, _, _, h, _⟩ | ⟨_, a0, b0, c0, rfl⟩; (first | cases h))
              exact bodyPost_ret (v := .tuple #[.slice none 0 0, .int .i64 i, .int .i64 20]) (by simp [results, go_sem]) rfl ⟨FER _ _ i hv' rfl, below_size (below_size hB (Nat.le_refl _) hB2) (Nat.le_refl _) boxT⟩
            · have hwl := word_len (r := ss.drop i) (by rw [hdr]; simp) hW
              rw [List.length_drop] at hwl
              have hv' : Hid (O = mapT (ts ++ [⟨kd, t, i⟩]) (lexR rdB0 (i + n) (ss.drop (i + n)))) := by
                show _ = _
                rw [hv.out]
                rw [hdr] at hW ⊢
                rw [lexR_word _ _ hbl h34 hW, ← hdr, List.drop_drop]
                exact mapT_cons _ _ _
              rw [hW] at hcall
              have hcall2 : ∀ w, Calls Tryd.prog 23 #[.string (strOfNums ss), .int .i64 i] w fun e w' => e = .returned (.tuple #[.agg #[.int .i64 kd, .string (strOfNums t), .int .i64 (i : Int)], .int .i64 (i + n : Nat)]) ∧ Below w.heap.size w w' := fun w => (hcall w).mono fun e w' h => by
                rcases h with ⟨⟨_, _, _, h, he⟩ | ⟨h, _⟩, hB⟩
                · cases h; exact ⟨he, hB⟩
                · cases h
              clear hcall
              have hnn : ¬ ((i + n : Nat) : Int) < 0 := by omega
              clear hv hdr hW hbl h34
              generalize ss.getD i 0 = c at *
              go_upto_region 19 with (go_at_call 23; refine (hcall2 _).mono ?_; rintro e w2 ⟨rfl, hB2⟩)
              replace hown := hown.below hB2
              replace hB := below_size hB (Nat.le_refl _) hB2
              have E : (w2.alloc (.cells #[.int .i64 kd, .string (strOfNums t), .int .i64 (i : Int)] 44)).heap[w2.heap.size]? = some (tkR kd (strOfNums t) i) := newT _ _
              have hsw2 : w.heap.size ≤ w2.heap.size := hB.size
              replace hown := hown.below (boxT (w := w2) (o := .cells #[.int .i64 kd, .string (strOfNums t), .int .i64 (i : Int)] 44))
              replace hB := below_size hB (Nat.le_refl _) (boxT (w := w2) (o := .cells #[.int .i64 kd, .string (strOfNums t), .int .i64 (i : Int)] 44))
              clear hB2
              generalize w2.alloc (.cells #[.int .i64 kd, .string (strOfNums t), .int .i64 (i : Int)] 44) = w3 at *
              obtain ⟨z0, z1, z2, zf⟩ := tkR_cells E
              have hsw3 : w.heap.size ≤ w3.heap.size := hB.size
              go_wp2_with (at_builtin; refine app_tok _ 26 44 Tryd.underlying26 Tryd.info44 rfl _ _ rfl w.heap.size _ ts rfl ?o1 w3.heap.size ⟨kd, t, i⟩ rfl ?o2 ?o3 ?o4 ?_)
              case o1 => exact hown.below boxT
              case o2 => exact (Array.getElem?_eq_some_iff.1 (newT w3 _)).2
              case o3 => omega
              case o4 => simp; omega
              intro v' w6 hown6 hB6
              go_wp2
              go_roundw
              case rel => exact ⟨i + n, ts ++ [⟨kd, t, i⟩], by go_num, by omega, by simp; omega, hown6, (below_size hB (Nat.le_refl _) boxT).trans hB6, hv'⟩
              case measure => simp [intOf]; omega
      · have hltI : ¬ (i : Int) < (ss.length : Int) := by omega
        obtain rfl : i = ss.length := by omega
        have hv' : Hid (O = .ok (ts ++ [⟨0, [], ss.length⟩])) := by
          show _ = _
          rw [hv.out, List.drop_of_length_le (by omega), lexR_nil]
          rfl
        clear hv FER
        go_wp2_with (at_builtin; refine app_tok _ 26 44 Tryd.underlying26 Tryd.info44 rfl _ _ rfl w.heap.size _ ts rfl ?o1 wr.heap.size ⟨0, [], ss.length⟩ rfl ?o2 ?o3 ?o4 ?_)
        case o1 => exact hown.below boxT
        case o2 => exact (Array.getElem?_eq_some_iff.1 (newT wr _)).2
        case o3 => omega
        case o4 => omega
        intro v' w3 hown3 hB3
        obtain ⟨va, vc, rfl, hT⟩ := hown3.isT
        go_wp2
        exact bodyPost_ret (v := .tuple #[.slice va (ts ++ ([⟨0, [], ss.length⟩] : List Tk)).length vc, .int .i64 0, .int .i64 0]) (by simp [results, go_sem]) rfl ⟨FOK _ _ _ hv'.out ⟨va, vc, rfl, hT⟩, (below_size hB (Nat.le_refl _) boxT).trans hB3⟩
end Go.Proofs.YtlhmeipbcioncaaDoor
