/- The document's letters, digits, signs; where its names end. -/
import Derived.Test.YtlhmeipbcioncaaDoorLxH
namespace Go.Proofs.YtlhmeipbcioncaaDoor
open Go.RowKit
set_option maxRecDepth 100000
theorem rletter_is {c : Int} {v : Bool} (h : letB c = v) (w : World) : Calls Tryd.prog 48 #[.int .u8 c] w fun e w' => e = .returned (.bool v) ∧ w = w' := by
  subst h
  unfold letB
  by_cases h1 : 97 ≤ c <;> by_cases h2 : c ≤ 122 <;> by_cases h3 : 65 ≤ c <;> by_cases h4 : c ≤ 90 <;>
  (go_enter Tryd.func48, Tryd.ntmps48; go_wp2; go_ret; exact ⟨ret_bool (by simp [h1, h2, h3, h4]), rfl⟩)
theorem rdigit_is {c : Int} {v : Bool} (h : dgB c = v) (w : World) : Calls Tryd.prog 41 #[.int .u8 c] w fun e w' => e = .returned (.bool v) ∧ w = w' := by
  subst h
  unfold dgB
  by_cases h1 : 48 ≤ c <;> by_cases h2 : c ≤ 57 <;>
  (go_enter Tryd.func41, Tryd.ntmps41; go_wp2; go_ret; exact ⟨ret_bool (by simp [h1, h2]), rfl⟩)
set_option maxHeartbeats 4000000 in
theorem among_any (cs : List Int) (b : Int) (w : World) (hc : ∀ x ∈ cs, 0 ≤ x ∧ x < 256) (hl : cs.length ≤ 1000) : Calls Tryd.prog 58 #[.int .u8 b, .string (strOfNums cs)] w fun e w' => e = .returned (.bool (cs.contains b)) ∧ w = w' := by
  have hsz : (strOfNums cs).size = cs.length := strOfNums_size cs
  obtain ⟨Q, hQ⟩ : ∃ Q, Hid (cs.contains b = Q) := ⟨_, rfl⟩
  rw [hQ.out]
  go_enter Tryd.func58, Tryd.ntmps58
  go_wp2
  go_loop [5] (fun v => ∃ i : Nat, i ≤ cs.length ∧ v = .int .i64 i ∧ Hid ((cs.take i).contains b = false)) (fun v => cs.length - (intOf v).toNat)
  case atStart => exact ⟨0, Nat.zero_le _, rfl, rfl⟩
  case round =>
    obtain ⟨i, hi, rfl, hno⟩ := hrel
    by_cases hlt : i < cs.length
    · have hltI : (i : Int) < (cs.length : Int) := by omega
      have hw1 : IntKind.i64.wrap ((i : Int) + 1) = (i : Int) + 1 := by rw [IntKind.wrap_i64]; omega
      have hat := str_at cs hc i hlt
      have htk := take_contains cs b i hlt
      have hme : cs.getD i 0 = b → Hid (cs.contains b = true) := fun heq => by
        show _ = _
        rw [List.contains_iff_mem, ← heq, getD_lt hlt]
        exact List.getElem_mem hlt
      have hnx : cs.getD i 0 ≠ b → Hid ((cs.take (i + 1)).contains b = false) := fun h => by
        show _ = _
        rw [htk, hno.out, beq_eq_false_iff_ne.2 h]
        rfl
      clear htk hno
      generalize cs.getD i 0 = c at *
      by_cases heq : c = b
      · have he := hme heq
        have hcb : (c == b) = true := by simp [heq]
        clear hme hnx
        go_wp2
        go_ret
        exact ⟨ret_bool (he.out.symm.trans hQ.out), rfl⟩
      · have he := hnx heq
        have hcb : (c == b) = false := by simp [heq]
        clear hme hnx
        go_wp2
        go_round
        case rel => exact ⟨i + 1, hlt, by go_num, he⟩
        case measure => simp [intOf]; omega
    · have hltI : ¬ (i : Int) < (cs.length : Int) := by omega
      have he : Hid (cs.contains b = false) := by
        show _ = _
        have := hno.out
        rwa [List.take_of_length_le (by omega)] at this
      go_wp2
      go_ret
      exact ⟨ret_bool (he.out.symm.trans hQ.out), rfl⟩
theorem rsign_is {c : Int} {v : Bool} (h : sgB c = v) (w : World) : Calls Tryd.prog 45 #[.int .u8 c] w fun e w' => e = .returned (.bool v) ∧ w = w' := by
  subst h
  have hA : Calls Tryd.prog 58 #[.int .u8 c, .string ⟨#[43, 45, 42, 47, 92, 60, 62, 61, 126, 44, 64, 37, 38, 63]⟩] w fun e w' => e = .returned (.bool (sgB c)) ∧ w = w' := among_any sgs c w (by decide) (by decide)
  go_enter Tryd.func45, Tryd.ntmps45
  go_wp2_with (go_at_call 58; refine hA.mono ?_; rintro e w' ⟨rfl, rfl⟩)
  go_ret
  exact ⟨rfl, rfl⟩
theorem rat_any (ss : List Int) (k : Nat) (w : World) (hb : ∀ x ∈ ss, 0 ≤ x ∧ x < 256) : Calls Tryd.prog 44 #[.string (strOfNums ss), .int .i64 k] w fun e w' => e = .returned (.int .u8 (ss.getD k 0)) ∧ w = w' := by
  have hsz : (strOfNums ss).size = ss.length := strOfNums_size ss
  by_cases hlt : k < ss.length
  · have hltI : (k : Int) < (ss.length : Int) := by omega
    have hat := str_at ss hb k hlt
    generalize ss.getD k 0 = c at *
    go_enter Tryd.func44, Tryd.ntmps44
    go_wp2
    go_ret
    exact ⟨rfl, rfl⟩
  · have hltI : ¬ (k : Int) < (ss.length : Int) := by omega
    have e : ss.getD k 0 = 0 := by simp only [List.getD_eq_getElem?_getD]; rw [List.getElem?_eq_none (by omega)]; rfl
    rw [e]
    go_enter Tryd.func44, Tryd.ntmps44
    go_wp2
    go_ret
    exact ⟨rfl, rfl⟩
set_option maxHeartbeats 4000000 in
theorem rname_any (ss : List Int) (k : Nat) (w : World) (hb : ∀ x ∈ ss, 0 ≤ x ∧ x < 256) (hm : ss.length ≤ 9223372036854775800) (hk : k ≤ ss.length) : Calls Tryd.prog 26 #[.string (strOfNums ss), .int .i64 k] w fun e w' => e = .returned (.int .i64 (k + nmLen (ss.drop k) : Nat)) ∧ w = w' := by
  have hsz : (strOfNums ss).size = ss.length := strOfNums_size ss
  by_cases hlt : k < ss.length
  · have hltJ : (k : Int) < (ss.length : Int) := by omega
    have hltK : ¬ (ss.length : Int) ≤ (k : Int) := by omega
    have hltD : decide ((ss.length : Int) ≤ (k : Int)) = false := by simp; omega
    have hat := str_at ss hb k hlt
    cases hl : letB (ss.getD k 0) with
    | false =>
      rw [nmLen_no ss k hl]
      generalize ss.getD k 0 = c at *
      go_enter Tryd.func26, Tryd.ntmps26
      go_wp2_with (go_at_call 48; refine (rletter_is hl _).mono ?_; rintro e w' ⟨rfl, rfl⟩)
      go_ret
      exact ⟨rfl, rfl⟩
    | true =>
      rw [nmLen_at ss k hl]
      obtain ⟨E, hE⟩ : ∃ E, Hid (k + ((ss.drop k).takeWhile nmB).length = E) := ⟨_, rfl⟩
      rw [hE.out]
      generalize ss.getD k 0 = c at *
      go_enter Tryd.func26, Tryd.ntmps26
      go_wp2_with (go_at_call 48; refine (rletter_is hl _).mono ?_; rintro e w' ⟨rfl, rfl⟩)
      clear hat hl hltJ hltK hltD
      go_loop [1] (fun n => ∃ i : Nat, i ≤ ss.length ∧ n = .int .i64 i ∧ Hid (i + ((ss.drop i).takeWhile nmB).length = E)) (fun n => ss.length - (intOf n).toNat)
      case atStart => exact ⟨k, hk, rfl, hE⟩
      case round =>
        obtain ⟨i, hi, rfl, hv⟩ := hrel
        clear hE
        by_cases hlt : i < ss.length
        · have hltI : (i : Int) < (ss.length : Int) := by omega
          have hat := str_at ss hb i hlt
          have hw1 : IntKind.i64.wrap ((i : Int) + 1) = (i : Int) + 1 := by rw [IntKind.wrap_i64]; omega
          have hs := tw_step nmB ss i hlt
          have hn : nmB (ss.getD i 0) = (letB (ss.getD i 0) || dgB (ss.getD i 0) || ss.getD i 0 == 95) := rfl
          have hyes : nmB (ss.getD i 0) = true → Hid ((i + 1) + ((ss.drop (i + 1)).takeWhile nmB).length = E) := fun h => by
            show _ = _
            rw [h, if_pos rfl] at hs
            have := hv.out
            omega
          have hnot : nmB (ss.getD i 0) = false → Hid (i = E) := fun h => by
            show _ = _
            rw [h, if_neg (by decide)] at hs
            have := hv.out
            omega
          clear hs hv
          generalize ss.getD i 0 = c at *
          rw [hn] at hyes hnot
          clear hn
          cases hl : letB c <;> cases hd : dgB c <;> cases h95 : (c == 95)
          all_goals rw [hl, hd, h95] at hyes hnot
          all_goals first | replace hyes := hyes rfl | replace hnot := hnot rfl
          all_goals go_wp2_with (first | (go_at_call 48; refine (rletter_is hl _).mono ?_; rintro e w' ⟨rfl, rfl⟩) | (go_at_call 41; refine (rdigit_is hd _).mono ?_; rintro e w' ⟨rfl, rfl⟩))
          any_goals (go_ret; exact ⟨ret_int (by rw [hnot.out]), rfl⟩)
          all_goals go_round
          all_goals first | exact ⟨i + 1, by omega, by go_num, hyes⟩ | (simp [intOf]; omega)
        · have hltI : ¬ (i : Int) < (ss.length : Int) := by omega
          have hs := tw_end nmB ss i (by omega)
          have hv' := hv.out
          go_wp2
          go_ret
          exact ⟨ret_int (by omega), rfl⟩
  · have e : k = ss.length := by omega
    subst e
    rw [nmLen_no ss _ (by simp [List.getD]; rfl)]
    go_enter Tryd.func26, Tryd.ntmps26
    go_wp2
    go_ret
    exact ⟨rfl, rfl⟩
theorem rcolon_any (ss : List Int) (k : Nat) (w : World) (hb : ∀ x ∈ ss, 0 ≤ x ∧ x < 256) (hm : ss.length ≤ 9223372036854775800) (hk : k ≤ ss.length) : Calls Tryd.prog 40 #[.string (strOfNums ss), .int .i64 k] w fun e w' => e = .returned (.bool (lone (ss.drop k))) ∧ w = w' := by
  have h1 := fun w => rat_any ss k w hb
  have h2 := fun w => rat_any ss (k + 1) w hb
  rw [show ((k + 1 : Nat) : Int) = (k : Int) + 1 by omega] at h2
  have hw1 : IntKind.i64.wrap ((k : Int) + 1) = (k : Int) + 1 := by rw [IntKind.wrap_i64]; omega
  unfold lone
  rw [getD_drop, getD_drop, Nat.add_zero]
  generalize ss.getD k 0 = c at *
  generalize ss.getD (k + 1) 0 = d at *
  cases hc : (c == 58) with
  | false =>
    go_enter Tryd.func40, Tryd.ntmps40
    go_wp2_with (go_at_call 44; refine (h1 _).mono ?_; rintro e w' ⟨rfl, rfl⟩)
    go_ret
    exact ⟨rfl, rfl⟩
  | true =>
    go_enter Tryd.func40, Tryd.ntmps40
    go_wp2_with fail
    refine (h1 _).mono ?_
    rintro e w' ⟨rfl, rfl⟩
    go_wp2_with fail
    refine (h2 _).mono ?_
    rintro e w' ⟨rfl, rfl⟩
    go_wp2
    all_goals go_ret
    all_goals exact ⟨ret_bool (by simp [*]), rfl⟩
end Go.Proofs.YtlhmeipbcioncaaDoor
