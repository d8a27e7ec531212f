/- Letters, digits, signs; where names end. -/
import Derived.Test.YtoghhjljmhdioaaLexM
import Derived.Test.YtoghhjljmhdioaaCut
import Derived.Lib.OthersKept
namespace Go.Proofs.Ytoghhjljmhdioaa
open Go.RowKit
set_option maxRecDepth 100000
theorem letter_any (c : Int) (w : World) : Calls Try.prog 35 #[.int .u8 c] w fun e w' => e = .returned (.bool (letB c)) ∧ w = w' := by
  unfold letB
  by_cases h1 : 97 ≤ c <;> by_cases h2 : c ≤ 122 <;> by_cases h3 : 65 ≤ c <;> by_cases h4 : c ≤ 90 <;>
  (go_enter Try.func35, Try.ntmps35; go_wp2; go_ret; exact ⟨ret_bool (by simp [h1, h2, h3, h4]), rfl⟩)
theorem digit_any (c : Int) (w : World) : Calls Try.prog 37 #[.int .u8 c] w fun e w' => e = .returned (.bool (dgB c)) ∧ w = w' := by
  unfold dgB
  by_cases h1 : 48 ≤ c <;> by_cases h2 : c ≤ 57 <;>
  (go_enter Try.func37, Try.ntmps37; go_wp2; go_ret; exact ⟨ret_bool (by simp [h1, h2]), rfl⟩)
theorem take_contains (cs : List Int) (b : Int) (pos : Nat) (hp : pos < cs.length) : (cs.take (pos + 1)).contains b = ((cs.take pos).contains b || cs.getD pos 0 == b) := by
  rw [List.take_succ_eq_append_getElem hp, List.contains_append, show cs.getD pos 0 = cs[pos] by simp [hp]]
  congr 1
  rw [List.contains_cons, List.contains_nil, Bool.or_false]
  exact Bool.beq_comm
set_option maxHeartbeats 4000000 in
/-- A byte that is one of a text of ASCII. -/
theorem has_any (cs : List Int) (b : Int) (w : World) (hc : ∀ x ∈ cs, 0 ≤ x ∧ x < 128) (hb : 0 ≤ b ∧ b < 256) : Calls Try.prog 33 #[.string (strOfNums cs), .int .u8 b] w fun e w' => e = .returned (.bool (cs.contains b)) ∧ Below w.heap.size w w' := by
  have hsz : (strOfNums cs).size = cs.length := strOfNums_size cs
  have hc' : ∀ x ∈ cs, 0 ≤ x ∧ x < 256 := fun x hx => ⟨(hc x hx).1, by have := (hc x hx).2; omega⟩
  have hwr : IntKind.i32.wrap b = b := by rw [IntKind.wrap_i32]; omega
  obtain ⟨S, hS⟩ : ∃ S, Hid (strOfNums cs = S) := ⟨_, rfl⟩
  have hat : ∀ k, k < cs.length → ∀ hp : k < S.size, (S[k]'hp).toNat = (cs.getD k 0).toNat := by
    intro k hk hp
    have h := str_at cs hc' k hk
    have e := hS.out
    subst e
    have := h hp
    omega
  rw [hS.out] at hsz ⊢
  go_enter Try.func33, Try.ntmps33
  go_wp2
  go_loopw [] (fun wr => ∃ pos : Nat, wr.heap[w.heap.size]? = some (.stringIter S pos) ∧ Below w.heap.size w wr ∧ pos ≤ cs.length ∧ Hid ((cs.take pos).contains b = false)) (fun wr => cs.length - wr.iterPos w.heap.size)
  case atStart =>
    refine ⟨0, ?_, (Below.refl _ w).alloc (Nat.le_refl _) _, Nat.zero_le _, rfl⟩
    simpa using World.iter_heap w S 0
  case round =>
    obtain ⟨pos, hit, hbw, hpos, hno⟩ := hrel
    have hit2 := fun p' => Lib.iterAt_heap wr w.heap.size S pos p' hit
    have hbw2 := fun p' => Lib.below_iterAt hbw (k := w.heap.size) (Nat.le_refl _) S p'
    by_cases hp : pos < cs.length
    · have hp' : pos < S.size := by omega
      have hch := hc (cs.getD pos 0) (by rw [show cs.getD pos 0 = cs[pos] by simp [hp]]; exact List.getElem_mem hp)
      have hv : ((S[pos]'hp').toNat : Int) = cs.getD pos 0 := by rw [hat pos hp hp']; omega
      have hnx : ∀ ty, (Instr.next (.pointer (some ⟨w.heap.size, 0, none⟩)) true ty).run Try.prog wr = .ok (.tuple #[.bool true, .int .i64 pos, .int .i32 (cs.getD pos 0)]) (wr.iterAt w.heap.size S (pos + 1)) := fun ty => by
        rw [Lib.run_next_ascii_at wr w.heap.size S pos ty hit hp' (by rw [hat pos hp hp']; omega), hv]
      have htk := take_contains cs b pos hp
      have hme : cs.getD pos 0 = b → cs.contains b = true := fun heq => by
        rw [List.contains_iff_mem, ← heq, show cs.getD pos 0 = cs[pos] by simp [hp]]
        exact List.getElem_mem hp
      clear hv hat
      generalize cs.getD pos 0 = c at *
      by_cases heq : c = b
      · have he := hme heq
        have hcb : (c == b) = true := by simp [heq]
        go_wp2
        go_ret
        exact ⟨ret_bool he.symm, hbw2 _⟩
      · have hcb : (c == b) = false := by simp [heq]
        go_wp2
        go_roundw
        case rel =>
          refine ⟨pos + 1, hit2 _, hbw2 _, hp, ?_⟩
          show _ = _
          rw [htk, hno.out, hcb]
          rfl
        case measure =>
          simp only [World.iterPos, hit2, hit]
          omega
    · have hnx : ∀ ty, (Instr.next (.pointer (some ⟨w.heap.size, 0, none⟩)) true ty).run Try.prog wr = _ := fun ty => Lib.run_next_end_at wr w.heap.size S pos ty hit (by omega)
      have he : cs.contains b = false := by
        have := hno.out
        rwa [List.take_of_length_le (by omega)] at this
      go_wp2
      go_ret
      exact ⟨ret_bool he.symm, hbw⟩
theorem lit_bl : (⟨#[32, 9, 10, 13]⟩ : ByteArray) = strOfNums [32, 9, 10, 13] := rfl
theorem lit_sg : (⟨#[43, 45, 42, 47, 92, 60, 62, 61, 126, 44, 64, 37, 38, 63]⟩ : ByteArray) = strOfNums sgs := rfl
theorem blB_eq (b : Int) : ([32, 9, 10, 13] : List Int).contains b = blB b := by
  unfold blB
  simp only [List.contains_cons, List.contains_nil, Bool.or_false, Bool.or_assoc]
theorem has_bl (b : Int) (w : World) (hb : 0 ≤ b ∧ b < 256) : Calls Try.prog 33 #[.string ⟨#[32, 9, 10, 13]⟩, .int .u8 b] w fun e w' => e = .returned (.bool (blB b)) ∧ Below w.heap.size w w' := by
  rw [lit_bl, ← blB_eq]
  exact has_any _ b w (by decide) hb
theorem has_sg (b : Int) (w : World) (hb : 0 ≤ b ∧ b < 256) : Calls Try.prog 33 #[.string ⟨#[43, 45, 42, 47, 92, 60, 62, 61, 126, 44, 64, 37, 38, 63]⟩, .int .u8 b] w fun e w' => e = .returned (.bool (sgB b)) ∧ Below w.heap.size w w' := by
  rw [lit_sg]
  exact has_any _ b w (by decide) hb
theorem getD_drop (ss : List Int) (k j : Nat) : (ss.drop k).getD j 0 = ss.getD (k + j) 0 := by simp [List.getD, List.getElem?_drop]
/-- A colon that is alone. -/
theorem lone_any (ss : List Int) (k : Nat) (w : World) (hb : ∀ x ∈ ss, 0 ≤ x ∧ x < 256) (hm : ss.length ≤ 9223372036854775806) (hk : k ≤ ss.length) : Calls Try.prog 50 #[.string (strOfNums ss), .int .i64 k] w fun e w' => e = .returned (.bool (lone (ss.drop k))) ∧ w = w' := by
  have hsz : (strOfNums ss).size = ss.length := strOfNums_size ss
  have hw1 : IntKind.i64.wrap ((k : Int) + 1) = (k : Int) + 1 := by rw [IntKind.wrap_i64]; omega
  unfold lone
  rw [getD_drop, getD_drop, Nat.add_zero]
  by_cases hlt : k < ss.length
  · have hltI : (k : Int) < (ss.length : Int) := by omega
    have hat := str_at ss hb k hlt
    obtain ⟨c, hc⟩ : ∃ c, ss.getD k 0 = c := ⟨_, rfl⟩
    rw [hc] at hat ⊢
    by_cases h58 : c = 58
    · subst h58
      by_cases hlt1 : k + 1 < ss.length
      · have hltJ : ¬ ((k : Int) + 1 = (ss.length : Int)) := by omega
        have hltK : (k : Int) + 1 < (ss.length : Int) := by omega
        have hat1 := str_at ss hb (k + 1) hlt1
        obtain ⟨d, hd⟩ : ∃ d, ss.getD (k + 1) 0 = d := ⟨_, rfl⟩
        rw [hd] at hat1 ⊢
        have hto : ((k : Int) + 1).toNat = k + 1 := by omega
        by_cases h61 : d = 61
        · subst h61
          go_enter Try.func50, Try.ntmps50
          go_wp2
          go_ret
          exact ⟨ret_bool (by simp; omega), rfl⟩
        · have h61' : (d == 61) = false := by simp [h61]
          have h61n : (d != 61) = true := by simp [h61]
          go_enter Try.func50, Try.ntmps50
          go_wp2
          all_goals go_ret
          all_goals exact ⟨ret_bool (by simp [h61]), rfl⟩
      · have e : ss.getD (k + 1) 0 = 0 := by simp [List.getD, Nat.not_lt.1 hlt1]
        have hJ : (k : Int) + 1 = (ss.length : Int) := by omega
        rw [e]
        go_enter Try.func50, Try.ntmps50
        go_wp2
        all_goals go_ret
        all_goals exact ⟨ret_bool (by simp), rfl⟩
    · have h58' : (c == 58) = false := by simp [h58]
      rw [h58']
      go_enter Try.func50, Try.ntmps50
      go_wp2
      go_ret
      exact ⟨rfl, rfl⟩
  · have e : ss.getD k 0 = 0 := by simp [List.getD, Nat.not_lt.1 hlt]
    have hltI : ¬ (k : Int) < (ss.length : Int) := by omega
    rw [e]
    go_enter Try.func50, Try.ntmps50
    go_wp2
    go_ret
    exact ⟨rfl, rfl⟩
end Go.Proofs.Ytoghhjljmhdioaa
namespace Go.Proofs.Ytoghhjljmhdioaa
open Go.RowKit
set_option maxRecDepth 100000
theorem getD_lt {ss : List Int} {i : Nat} (h : i < ss.length) : ss.getD i 0 = ss[i] := by simp [h]
theorem tw_step (p : Int → Bool) (ss : List Int) (i : Nat) (h : i < ss.length) : ((ss.drop i).takeWhile p).length = if p (ss.getD i 0) then 1 + ((ss.drop (i + 1)).takeWhile p).length else 0 := by
  rw [List.drop_eq_getElem_cons h, List.takeWhile_cons, getD_lt h]
  split
  · rw [List.length_cons]; omega
  · rfl
theorem tw_end (p : Int → Bool) (ss : List Int) (i : Nat) (h : ss.length ≤ i) : ((ss.drop i).takeWhile p).length = 0 := by
  rw [List.drop_of_length_le h]; rfl
theorem colLen_more (f g : Nat) (r : List Int) (hf : r.length ≤ f) (hg : r.length ≤ g) : colLen f r = colLen g r := by
  induction f generalizing g r with
  | zero =>
    obtain rfl : r = [] := List.eq_nil_of_length_eq_zero (by omega)
    cases g with
    | zero => rfl
    | succ g => rfl
  | succ f ih =>
    cases g with
    | zero =>
      obtain rfl : r = [] := List.eq_nil_of_length_eq_zero (by omega)
      rfl
    | succ g =>
      unfold colLen
      split
      · rename_i h
        have := lone_len h
        rw [ih g _ (by rw [List.length_drop]; omega) (by rw [List.length_drop]; omega)]
      · rfl
def cl (r : List Int) : Nat := colLen r.length r
theorem cl_yes {r : List Int} (h : lone r = true) : cl r = 1 + nmLen (r.drop 1) + cl (r.drop (1 + nmLen (r.drop 1))) := by
  unfold cl
  have hl := lone_len h
  obtain ⟨n, hn⟩ : ∃ n, r.length = n + 1 := ⟨r.length - 1, by omega⟩
  rw [hn, colLen, if_pos h]
  rw [colLen_more n _ _ (by rw [List.length_drop]; omega) (Nat.le_refl _)]
theorem cl_no {r : List Int} (h : lone r = false) : cl r = 0 := by
  unfold cl
  cases hn : r.length with
  | zero => rfl
  | succ n => rw [colLen, if_neg (by rw [h]; decide)]
theorem plLen_eq (r : List Int) : plLen r = if nmLen r = 0 then sgLen r else nmLen r + cl (r.drop (nmLen r)) := by
  unfold plLen cl
  split
  · rfl
  · rw [colLen_more r.length _ _ (by rw [List.length_drop]; omega) (Nat.le_refl _)]
theorem letter_is {c : Int} {v : Bool} (h : letB c = v) (w : World) : Calls Try.prog 35 #[.int .u8 c] w fun e w' => e = .returned (.bool v) ∧ w = w' := by
  rw [← h]; exact letter_any c w
theorem digit_is {c : Int} {v : Bool} (h : dgB c = v) (w : World) : Calls Try.prog 37 #[.int .u8 c] w fun e w' => e = .returned (.bool v) ∧ w = w' := by
  rw [← h]; exact digit_any c w
theorem sign_is {c : Int} {v : Bool} (h : sgB c = v) (hb : 0 ≤ c ∧ c < 256) (w : World) : Calls Try.prog 33 #[.string ⟨#[43, 45, 42, 47, 92, 60, 62, 61, 126, 44, 64, 37, 38, 63]⟩, .int .u8 c] w fun e w' => e = .returned (.bool v) ∧ Below w.heap.size w w' := by
  rw [← h]; exact has_sg c w hb
theorem nmLen_at (ss : List Int) (k : Nat) (h : letB (ss.getD k 0) = true) : nmLen (ss.drop k) = ((ss.drop k).takeWhile nmB).length := by
  unfold nmLen
  rw [getD_drop, Nat.add_zero, if_pos h]
theorem nmLen_no (ss : List Int) (k : Nat) (h : letB (ss.getD k 0) = false) : nmLen (ss.drop k) = 0 := by
  unfold nmLen
  rw [getD_drop, Nat.add_zero, if_neg (by rw [h]; decide)]
set_option maxHeartbeats 4000000 in
theorem nameEnd_any (ss : List Int) (k : Nat) (w : World) (hb : ∀ x ∈ ss, 0 ≤ x ∧ x < 256) (hm : ss.length ≤ 9223372036854775806) (hk : k ≤ ss.length) : Calls Try.prog 49 #[.string (strOfNums ss), .int .i64 k] w fun e w' => e = .returned (.int .i64 (k + nmLen (ss.drop k) : Nat)) ∧ w = w' := by
  have hsz : (strOfNums ss).size = ss.length := strOfNums_size ss
  by_cases hlt : k < ss.length
  · have hltI : ((k : Int) == (ss.length : Int)) = false := by simp; omega
    have hltJ : (k : Int) < (ss.length : Int) := by omega
    have hat := str_at ss hb k hlt
    cases hl : letB (ss.getD k 0) with
    | false =>
      rw [nmLen_no ss k hl]
      generalize ss.getD k 0 = c at *
      go_enter Try.func49, Try.ntmps49
      go_wp2_with (go_at_call 35; refine (letter_is hl _).mono ?_; rintro e w' ⟨rfl, rfl⟩)
      go_ret
      exact ⟨rfl, rfl⟩
    | true =>
      rw [nmLen_at ss k hl]
      obtain ⟨E, hE⟩ : ∃ E, Hid (k + ((ss.drop k).takeWhile nmB).length = E) := ⟨_, rfl⟩
      rw [hE.out]
      generalize ss.getD k 0 = c at *
      go_enter Try.func49, Try.ntmps49
      go_wp2_with (go_at_call 35; refine (letter_is hl _).mono ?_; rintro e w' ⟨rfl, rfl⟩)
      clear hat hl hltI hltJ
      go_loop [1] (fun n => ∃ i : Nat, i ≤ ss.length ∧ n = .int .i64 i ∧ Hid (i + ((ss.drop i).takeWhile nmB).length = E)) (fun n => ss.length - (intOf n).toNat)
      case atStart => exact ⟨k, hk, rfl, hE⟩
      case round =>
        obtain ⟨i, hi, rfl, hv⟩ := hrel
        clear hE
        by_cases hlt : i < ss.length
        · have hltI : (i : Int) < (ss.length : Int) := by omega
          have hat := str_at ss hb i hlt
          have hw1 : IntKind.i64.wrap ((i : Int) + 1) = (i : Int) + 1 := by rw [IntKind.wrap_i64]; omega
          have hs := tw_step nmB ss i hlt
          have hn : nmB (ss.getD i 0) = (letB (ss.getD i 0) || dgB (ss.getD i 0) || ss.getD i 0 == 95) := rfl
          have hyes : nmB (ss.getD i 0) = true → Hid ((i + 1) + ((ss.drop (i + 1)).takeWhile nmB).length = E) := fun h => by
            show _ = _
            rw [h, if_pos rfl] at hs
            have := hv.out
            omega
          have hnot : nmB (ss.getD i 0) = false → Hid (i = E) := fun h => by
            show _ = _
            rw [h, if_neg (by decide)] at hs
            have := hv.out
            omega
          clear hs hv
          generalize ss.getD i 0 = c at *
          rw [hn] at hyes hnot
          clear hn
          cases hl : letB c <;> cases hd : dgB c <;> cases h95 : (c == 95)
          all_goals rw [hl, hd, h95] at hyes hnot
          all_goals first | replace hyes := hyes rfl | replace hnot := hnot rfl
          all_goals go_wp2_with (first | (go_at_call 35; refine (letter_is hl _).mono ?_; rintro e w' ⟨rfl, rfl⟩) | (go_at_call 37; refine (digit_is hd _).mono ?_; rintro e w' ⟨rfl, rfl⟩))
          any_goals (go_ret; exact ⟨ret_int (by rw [hnot.out]), rfl⟩)
          all_goals go_round
          all_goals first | exact ⟨i + 1, by omega, by go_num, hyes⟩ | (simp [intOf]; omega)
        · have hltI : ¬ (i : Int) < (ss.length : Int) := by omega
          have hs := tw_end nmB ss i (by omega)
          have hv' := hv.out
          go_wp2
          go_ret
          exact ⟨ret_int (by omega), rfl⟩
  · have e : k = ss.length := by omega
    subst e
    rw [nmLen_no ss _ (by simp [List.getD]; rfl)]
    go_enter Try.func49, Try.ntmps49
    go_wp2
    go_ret
    exact ⟨rfl, rfl⟩
theorem sg_step (ss : List Int) (k i : Nat) (h : i < ss.length) (h2 : i < k + 2) : (((ss.drop i).take (k + 2 - i)).takeWhile sgB).length = if sgB (ss.getD i 0) then 1 + (((ss.drop (i + 1)).take (k + 2 - (i + 1))).takeWhile sgB).length else 0 := by
  obtain ⟨m, hm⟩ : ∃ m, k + 2 - i = m + 1 := ⟨k + 1 - i, by omega⟩
  rw [hm, show k + 2 - (i + 1) = m by omega, List.drop_eq_getElem_cons h, List.take_succ_cons, List.takeWhile_cons, getD_lt h]
  split
  · rw [List.length_cons]; omega
  · rfl
set_option maxHeartbeats 4000000 in
theorem signsEnd_any (ss : List Int) (k : Nat) (w : World) (hb : ∀ x ∈ ss, 0 ≤ x ∧ x < 256) (hm : ss.length ≤ 9223372036854775800) (hk : k ≤ ss.length) : Calls Try.prog 42 #[.string (strOfNums ss), .int .i64 k] w fun e w' => e = .returned (.int .i64 (k + sgLen (ss.drop k) : Nat)) ∧ Below w.heap.size w w' := by
  have hsz : (strOfNums ss).size = ss.length := strOfNums_size ss
  obtain ⟨E, hE⟩ : ∃ E, Hid (k + (((ss.drop k).take (k + 2 - k)).takeWhile sgB).length = E) := ⟨_, rfl⟩
  have hw2 : IntKind.i64.wrap ((k : Int) + 2) = (k : Int) + 2 := by rw [IntKind.wrap_i64]; omega
  have hE' : k + sgLen (ss.drop k) = E := by
    rw [← hE.out, show k + 2 - k = 2 by omega]; rfl
  rw [hE']
  clear hE'
  go_enter Try.func42, Try.ntmps42
  go_wp2
  go_loopw [5] (fun n wr => ∃ i : Nat, i ≤ ss.length ∧ i ≤ k + 2 ∧ n = .int .i64 i ∧ Below w.heap.size w wr ∧ Hid (i + (((ss.drop i).take (k + 2 - i)).takeWhile sgB).length = E)) (fun n _ => ss.length - (intOf n).toNat)
  case atStart => exact ⟨k, hk, by omega, rfl, Below.refl _ _, hE⟩
  case round =>
    obtain ⟨i, hi, hi2, rfl, hB, hv⟩ := hrel
    clear hE
    have hw1 : IntKind.i64.wrap ((i : Int) + 1) = (i : Int) + 1 := by rw [IntKind.wrap_i64]; omega
    by_cases hlt : i < ss.length
    · have hltI : (i : Int) < (ss.length : Int) := by omega
      by_cases hlt2 : i < k + 2
      · have hltJ : (i : Int) < (k : Int) + 2 := by omega
        have hat := str_at ss hb i hlt
        have hs := sg_step ss k i hlt hlt2
        have hcb := hb (ss.getD i 0) (by rw [getD_lt hlt]; exact List.getElem_mem hlt)
        cases hg : sgB (ss.getD i 0) with
        | true =>
          have hv' : Hid ((i + 1) + (((ss.drop (i + 1)).take (k + 2 - (i + 1))).takeWhile sgB).length = E) := by
            show _ = _
            rw [hg, if_pos rfl] at hs
            have := hv.out
            omega
          clear hs hv
          generalize ss.getD i 0 = c at *
          go_wp2_with (go_at_call 33; refine (sign_is hg hcb _).mono ?_; rintro e w2 ⟨rfl, hB2⟩)
          go_roundw
          case rel => exact ⟨i + 1, by omega, by omega, by go_num, below_size hB (Nat.le_refl _) hB2, hv'⟩
          case measure => simp [intOf]; omega
        | false =>
          have hv' : Hid (i = E) := by
            show _ = _
            rw [hg, if_neg (by decide)] at hs
            have := hv.out
            omega
          clear hs hv
          generalize ss.getD i 0 = c at *
          go_wp2_with (go_at_call 33; refine (sign_is hg hcb _).mono ?_; rintro e w2 ⟨rfl, hB2⟩)
          go_ret
          exact ⟨ret_int (by rw [hv'.out]), below_size hB (Nat.le_refl _) hB2⟩
      · have hltJ : ¬ (i : Int) < (k : Int) + 2 := by omega
        have hv' : Hid (i = E) := by
          show _ = _
          have := hv.out
          rw [show k + 2 - i = 0 by omega] at this
          simpa using this
        go_wp2
        go_ret
        exact ⟨ret_int (by rw [hv'.out]), hB⟩
    · have hltI : ¬ (i : Int) < (ss.length : Int) := by omega
      have hv' : Hid (i = E) := by
        show _ = _
        have := hv.out
        rw [List.drop_of_length_le (by omega)] at this
        simpa using this
      go_wp2
      go_ret
      exact ⟨ret_int (by rw [hv'.out]), hB⟩
set_option maxHeartbeats 4000000 in
theorem plainEnd_any (ss : List Int) (k : Nat) (w : World) (hb : ∀ x ∈ ss, 0 ≤ x ∧ x < 256) (hm : ss.length ≤ 9223372036854775800) (hk : k ≤ ss.length) : Calls Try.prog 55 #[.string (strOfNums ss), .int .i64 k] w fun e w' => e = .returned (.int .i64 (k + plLen (ss.drop k) : Nat)) ∧ Below w.heap.size w w' := by
  have hsz : (strOfNums ss).size = ss.length := strOfNums_size ss
  have hle := nmLen_le (ss.drop k)
  rw [List.length_drop] at hle
  rw [plLen_eq]
  by_cases h0 : nmLen (ss.drop k) = 0
  · rw [if_pos h0]
    have hn := nameEnd_any ss k w hb (by omega) hk
    rw [h0, Nat.add_zero] at hn
    go_enter Try.func55, Try.ntmps55
    go_wp2_with (first | (go_at_call 49; refine hn.mono ?_; rintro e w' ⟨rfl, rfl⟩) | (go_at_call 42; refine (signsEnd_any ss k _ hb hm hk).mono ?_; rintro e w2 ⟨rfl, hB2⟩))
    go_ret
    exact ⟨rfl, hB2⟩
  · rw [if_neg h0]
    obtain ⟨E, hE⟩ : ∃ E, Hid ((k + nmLen (ss.drop k)) + cl (ss.drop (k + nmLen (ss.drop k))) = E) := ⟨_, rfl⟩
    have hE' : k + (nmLen (ss.drop k) + cl ((ss.drop k).drop (nmLen (ss.drop k)))) = E := by
      rw [List.drop_drop, ← hE.out]; omega
    rw [hE']
    clear hE'
    have hn := nameEnd_any ss k w hb (by omega) hk
    obtain ⟨i0, hi0⟩ : ∃ i, Hid (k + nmLen (ss.drop k) = i) := ⟨_, rfl⟩
    have hi1 : i0 ≤ ss.length := by have := hi0.out; omega
    have hne : ((i0 : Int) == (k : Int)) = false := by have := hi0.out; simp; omega
    rw [hi0.out] at hn hE
    clear hi0 hle h0
    go_enter Try.func55, Try.ntmps55
    go_wp2_with (go_at_call 49; refine hn.mono ?_; rintro e w' ⟨rfl, rfl⟩)
    go_loop [5] (fun n => ∃ i : Nat, i ≤ ss.length ∧ n = .int .i64 i ∧ Hid (i + cl (ss.drop i) = E)) (fun n => ss.length - (intOf n).toNat)
    case atStart => exact ⟨i0, hi1, rfl, hE⟩
    case round =>
      obtain ⟨i, hi, rfl, hv⟩ := hrel
      clear hE hn
      have hl := lone_any ss i w hb (by omega) hi
      cases hg : lone (ss.drop i) with
      | false =>
        rw [hg] at hl
        have hv' : Hid (i = E) := by
          show _ = _
          have := hv.out
          rw [cl_no hg] at this
          omega
        clear hv
        go_wp2_with (go_at_call 50; refine hl.mono ?_; rintro e w' ⟨rfl, rfl⟩)
        go_ret
        exact ⟨ret_int (by rw [hv'.out]), Below.refl _ _⟩
      | true =>
        rw [hg] at hl
        have hlt : i < ss.length := by
          have := lone_len hg
          rw [List.length_drop] at this
          omega
        have hw1 : IntKind.i64.wrap ((i : Int) + 1) = ((i + 1 : Nat) : Int) := by rw [IntKind.wrap_i64]; omega
        have hn := nameEnd_any ss (i + 1) w hb (by omega) (by omega)
        have hle := nmLen_le (ss.drop (i + 1))
        rw [List.length_drop] at hle
        have hv' : Hid ((i + 1 + nmLen (ss.drop (i + 1))) + cl (ss.drop (i + 1 + nmLen (ss.drop (i + 1)))) = E) := by
          show _ = _
          have := hv.out
          rw [cl_yes hg, List.drop_drop, List.drop_drop] at this
          rw [← this]
          rw [show i + 1 + nmLen (ss.drop (i + 1)) = i + (1 + nmLen (ss.drop (i + 1))) by omega]
          omega
        clear hv hw1
        have hw1 : IntKind.i64.wrap ((i : Int) + 1) = (i : Int) + 1 := by rw [IntKind.wrap_i64]; omega
        have hn' : Calls Try.prog 49 #[.string (strOfNums ss), .int .i64 ((i : Int) + 1)] w fun e w' => e = .returned (.int .i64 (i + 1 + nmLen (ss.drop (i + 1)) : Nat)) ∧ w = w' := by
          have e : ((i + 1 : Nat) : Int) = (i : Int) + 1 := by omega
          rw [e] at hn
          exact hn
        clear hn
        obtain ⟨j, hj⟩ : ∃ j, Hid (i + 1 + nmLen (ss.drop (i + 1)) = j) := ⟨_, rfl⟩
        have hj1 : i < j ∧ j ≤ ss.length := by have := hj.out; omega
        rw [hj.out] at hn' hv'
        clear hj hle
        go_wp2_with (first | (go_at_call 50; refine hl.mono ?_; rintro e w' ⟨rfl, rfl⟩) | (go_at_call 49; refine hn'.mono ?_; rintro e w' ⟨rfl, rfl⟩))
        go_round
        case rel => exact ⟨j, hj1.2, rfl, hv'⟩
        case measure => simp [intOf]; omega
end Go.Proofs.Ytoghhjljmhdioaa
