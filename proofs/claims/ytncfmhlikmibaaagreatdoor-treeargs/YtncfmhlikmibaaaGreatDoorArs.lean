/- The document's PlainName, PlainSymbol and Quote. -/
import Derived.Test.YtncfmhlikmibaaaGreatDoorPln
import Derived.Test.YtncfmhlikmibaaaGreatDoorRxB
import Derived.Test.YtncfmhlikmibaaaGreatDoorShpM
import Derived.Lib.OthersKept
import Derived.Lib.DecodeN
namespace Go.Proofs.YtncfmhlikmibaaaGreatDoor
open Go.RowKit
set_option maxRecDepth 100000
set_option maxHeartbeats 4000000 in
theorem rplainName_is (ss : List Int) (w : World) (hb : ∀ x ∈ ss, 0 ≤ x ∧ x < 256) (hm : ss.length ≤ 9223372036854775800) : Calls Tryz.prog 23 #[.string (strOfNums ss)] w fun e w' => e = .returned (.bool (plainN ss)) ∧ w = w' := by
  have hsz : (strOfNums ss).size = ss.length := strOfNums_size ss
  by_cases h0 : ss = []
  · subst h0
    have e : strOfNums [] = ⟨#[]⟩ := rfl
    rw [e]
    go_enter Tryz.func23, Tryz.ntmps23
    go_wp2
    go_ret
    exact ⟨rfl, rfl⟩
  · have hpos : 0 < ss.length := List.length_pos_iff.2 h0
    have hposI : (0 : Int) < (ss.length : Int) := by omega
    have hc := fun w => rname_any ss 0 w hb hm (Nat.zero_le _)
    rw [List.drop_zero, Nat.zero_add, Int.natCast_zero] at hc
    have ep : plainN ss = ((nmLen ss : Int) == (ss.length : Int)) := by
      unfold plainN
      rw [decide_eq_true h0, Bool.true_and, Bool.eq_iff_iff, beq_iff_eq, decide_eq_true_eq]
      omega
    rw [ep]
    generalize nmLen ss = n at *
    go_enter Tryz.func23, Tryz.ntmps23
    go_wp2_with fail
    refine (hc _).mono ?_
    rintro e w2 ⟨rfl, rfl⟩
    go_wp2
    go_ret
    exact ⟨rfl, rfl⟩
theorem rs_plain (ss : List Int) (h0 : ss ≠ []) (h39 : ss.getD 0 0 ≠ 39) : (plainS ss = true ∧ RQ 0 (rsO ss 0) = .returned (.tuple #[.string (strOfNums ss), .int .i64 (ss.length : Int)])) ∨ (plainS ss = false ∧ ∃ s m, RQ 0 (rsO ss 0) = .returned (.tuple #[.string s, .int .i64 m]) ∧ (m == (ss.length : Int)) = false) := by
  have hpos : 0 < ss.length := List.length_pos_iff.2 h0
  have hle := plLen_le ss
  unfold rsO plainS
  rw [List.drop_zero]
  by_cases h : 0 < plLen ss
  · rw [if_pos h]
    by_cases h2 : 1024 < plLen ss
    · rw [if_pos h2]
      right
      refine ⟨?_, _, _, rfl, ?_⟩
      · rw [decide_eq_false (show ¬ ss.length ≤ 1024 by omega), Bool.and_false, Bool.false_and]
      · rw [beq_eq_false_iff_ne]; omega
    · rw [if_neg h2]
      by_cases h3 : plLen ss = ss.length
      · left
        rw [h3, List.take_length]
        refine ⟨?_, ?_⟩
        · rw [decide_eq_true h0, decide_eq_true (show ss.length ≤ 1024 by omega), decide_eq_true rfl]; rfl
        · simp only [RQ, Nat.zero_add]
      · right
        refine ⟨?_, _, _, rfl, ?_⟩
        · rw [decide_eq_false h3, Bool.and_false]
        · rw [beq_eq_false_iff_ne]; omega
  · rw [if_neg h]
    unfold rqO
    rw [if_neg h39]
    right
    refine ⟨?_, _, _, rfl, ?_⟩
    · rw [decide_eq_false (show ¬ plLen ss = ss.length by omega), Bool.and_false]
    · rw [beq_eq_false_iff_ne]; omega
theorem own_one (w : World) (c : Int) : (w.alloc (.cells #[.int .u8 c] 5)).ownsRow w.heap.size 5 1 (.slice (some ⟨w.heap.size, 0, none⟩) 1 1) 1 (([c] : List Int).map (Value.int .u8)) :=
  ⟨rfl, .inr ⟨w.heap.size, 1, #[.int .u8 c], rfl, Nat.le_refl _, heap_alloc_new w _, by decide, by decide, rfl, rfl⟩⟩
theorem dbl_step (ss : List Int) (i : Nat) (h : i < ss.length) : dbl (ss.take (i + 1)) = if ss.getD i 0 = 39 then (dbl (ss.take i) ++ [39]) ++ [39] else dbl (ss.take i) ++ [ss.getD i 0] := by
  rw [List.take_add_one, List.getElem?_eq_getElem h, dbl_app]
  have e : ss.getD i 0 = ss[i] := getD_lt h
  rw [e]
  split
  · rename_i hc
    rw [hc]
    simp [dbl]
  · rename_i hc
    simp [dbl, hc]
end Go.Proofs.YtncfmhlikmibaaaGreatDoor
namespace Go.Proofs.YtncfmhlikmibaaaGreatDoor
open Go.RowKit
set_option maxRecDepth 100000
theorem take_count1 (ss : List Int) (i : Nat) (h : i < ss.length) : (ss.take (i + 1)).count 58 = (ss.take i).count 58 + (if ss.getD i 0 = 58 then 1 else 0) := by
  rw [List.take_succ_eq_append_getElem h, List.count_append, List.count_singleton]
  have : ss.getD i 0 = ss[i] := by rw [List.getD_eq_getElem?_getD, List.getElem?_eq_getElem h]; rfl
  rw [this]
  by_cases hc : ss[i] = 58 <;> simp [hc]
theorem byte_at (ss : List Int) (hb : ∀ x ∈ ss, 0 ≤ x ∧ x < 256) (i : Nat) (h : i < ss.length) : (((strOfNums ss).get! i).toNat : Int) = ss.getD i 0 := by
  have h1 := hb _ (List.getElem_mem h)
  have e : ss.getD i 0 = ss[i] := by rw [List.getD_eq_getElem?_getD, List.getElem?_eq_getElem h]; rfl
  rw [e]
  show (((ss.map fun n => UInt8.ofNat n.toNat).toArray[i]!).toNat : Int) = ss[i]
  rw [getElem!_pos _ i (by simpa using h)]
  simp
  omega
/-- The rune at a place. -/
theorem rune_at (ss : List Int) (hb : ∀ x ∈ ss, 0 ≤ x ∧ x < 256) (i : Nat) (h : i < ss.length) : ∃ r n : Nat, Utf8.decode (strOfNums ss) i = (r, n) ∧ ((r : Int) = 58 ↔ ss.getD i 0 = 58) ∧ 1 ≤ n ∧ i + n ≤ ss.length ∧ (ss.take (i + n)).count 58 = (ss.take i).count 58 + (if ss.getD i 0 = 58 then 1 else 0) := by
  have hsz : (strOfNums ss).size = ss.length := strOfNums_size ss
  have h0 := byte_at ss hb i h
  have c0 := take_count1 ss i h
  refine ⟨(Utf8.decode (strOfNums ss) i).1, (Utf8.decode (strOfNums ss) i).2, rfl, ?_⟩
  rw [Lib.decode_at, hsz]
  have g1 : i + 1 < ss.length → (((strOfNums ss).get! (i + 1)).toNat : Int) = ss.getD (i + 1) 0 ∧ (ss.take (i + 2)).count 58 = (ss.take (i + 1)).count 58 + (if ss.getD (i + 1) 0 = 58 then 1 else 0) := fun h => ⟨byte_at ss hb _ h, take_count1 ss _ h⟩
  have g2 : i + 2 < ss.length → (((strOfNums ss).get! (i + 2)).toNat : Int) = ss.getD (i + 2) 0 ∧ (ss.take (i + 3)).count 58 = (ss.take (i + 2)).count 58 + (if ss.getD (i + 2) 0 = 58 then 1 else 0) := fun h => ⟨byte_at ss hb _ h, take_count1 ss _ h⟩
  have g3 : i + 3 < ss.length → (((strOfNums ss).get! (i + 3)).toNat : Int) = ss.getD (i + 3) 0 ∧ (ss.take (i + 4)).count 58 = (ss.take (i + 3)).count 58 + (if ss.getD (i + 3) 0 = 58 then 1 else 0) := fun h => ⟨byte_at ss hb _ h, take_count1 ss _ h⟩
  generalize ((strOfNums ss).get! i).toNat = b0 at *
  generalize ((strOfNums ss).get! (i + 1)).toNat = b1 at *
  generalize ((strOfNums ss).get! (i + 2)).toNat = b2 at *
  generalize ((strOfNums ss).get! (i + 3)).toNat = b3 at *
  generalize ss.getD i 0 = a0 at *
  generalize ss.getD (i + 1) 0 = a1 at *
  generalize ss.getD (i + 2) 0 = a2 at *
  generalize ss.getD (i + 3) 0 = a3 at *
  unfold Lib.decodeN
  split
  · refine ⟨by simp only; omega, by simp, by simp only; omega, c0⟩
  · split
    · rename_i hh
      obtain ⟨e1, k1⟩ := g1 (by omega)
      rw [if_neg (by omega)] at c0 k1
      split
      · exact ⟨by simp only; omega, by simp, by simp only; omega, by simp only; rw [if_neg (by omega), k1, c0]⟩
      · exact ⟨by simp only; omega, by simp, by simp only; omega, by simp only; rw [if_neg (by omega), c0]⟩
    · split
      · rename_i hh
        obtain ⟨e1, k1⟩ := g1 (by omega)
        obtain ⟨e2, k2⟩ := g2 (by omega)
        rw [if_neg (by omega)] at c0 k1 k2
        split
        · exact ⟨by simp only; omega, by simp, by simp only; omega, by simp only; rw [if_neg (by omega), k2, k1, c0]⟩
        · exact ⟨by simp only; omega, by simp, by simp only; omega, by simp only; rw [if_neg (by omega), c0]⟩
      · split
        · rename_i hh
          obtain ⟨e1, k1⟩ := g1 (by omega)
          obtain ⟨e2, k2⟩ := g2 (by omega)
          obtain ⟨e3, k3⟩ := g3 (by omega)
          rw [if_neg (by omega)] at c0 k1 k2 k3
          split
          · exact ⟨by simp only; omega, by simp, by simp only; omega, by simp only; rw [if_neg (by omega), k3, k2, k1, c0]⟩
          · exact ⟨by simp only; omega, by simp, by simp only; omega, by simp only; rw [if_neg (by omega), c0]⟩
        · rw [if_neg (by omega)] at c0
          exact ⟨by simp only; omega, by simp, by simp only; omega, by simp only; rw [if_neg (by omega), c0]⟩
theorem plain_one (c : Int) : plainN [c] = letB c := by
  by_cases h : letB c = true
  · have h2 := letB_nm h
    simp [plainN, nmLen, h, h2]
  · have h3 : letB c = false := by simpa using h
    simp [plainN, nmLen, h3]
theorem cut_one (c : Int) (r : List Int) : (strOfNums (c :: r)).extract 0 1 = strOfNums [c] := by
  rw [ext_str]; rfl
def sgnL (t : List Int) : Bool := match t with
  | [] => false
  | c :: _ => !letB c
theorem signed_is (ss : List Int) (w : World) (hb : ∀ x ∈ ss, 0 ≤ x ∧ x < 256) (hm : ss.length ≤ 9223372036854775806) : Calls Tryz.prog 22 #[.string (strOfNums ss)] w fun e w' => e = .returned (.bool (sgnL ss)) ∧ w = w' := by
  have hsz : (strOfNums ss).size = ss.length := strOfNums_size ss
  cases ss with
  | nil =>
    have e : strOfNums [] = ⟨#[]⟩ := rfl
    rw [e]
    go_enter Tryz.func22, Tryz.ntmps22
    go_wp2
    go_ret
    exact ⟨rfl, rfl⟩
  | cons c r =>
    have hne := str_ne (ss := c :: r) (by simp)
    have h1 : (1 : Int) ≤ ((strOfNums (c :: r)).size : Int) := by rw [hsz, List.length_cons]; omega
    have hx := cut_one c r
    go_enter Tryz.func22, Tryz.ntmps22
    go_wp2_with fail
    refine (plainName_is [c] w (fun x hx => hb x (by simp at hx; simp [hx])) (by simp)).mono ?_
    rintro e w2 ⟨rfl, rfl⟩
    rw [plain_one]
    go_wp2
    go_ret
    exact ⟨rfl, rfl⟩
theorem argsL_sgn (ss : List Int) : argsL ss = if sgnL ss then 1 else ss.count 58 := by
  cases ss with
  | nil => rfl
  | cons c r =>
    show (if letB c then (c :: r).count 58 else 1) = if !letB c then 1 else (c :: r).count 58
    cases letB c <;> rfl
theorem argsL_le (ss : List Int) : argsL ss ≤ ss.length + 1 := by
  rw [argsL_sgn]
  have := List.count_le_length (a := (58 : Int)) (l := ss)
  split <;> omega
set_option maxHeartbeats 4000000 in
/-- How many arguments a message has, for every selector. -/
theorem args_is (ss : List Int) (w : World) (hb : ∀ x ∈ ss, 0 ≤ x ∧ x < 256) (hm : ss.length ≤ 9223372036854775806) : Calls Tryz.prog 15 #[.string (strOfNums ss)] w fun e w' => e = .returned (.int .i64 (argsL ss : Int)) ∧ Below w.heap.size w w' := by
  have hsz : (strOfNums ss).size = ss.length := strOfNums_size ss
  have hA := argsL_sgn ss
  cases hs : sgnL ss with
  | true =>
    rw [hs, if_pos rfl] at hA
    rw [hA]
    go_enter Tryz.func15, Tryz.ntmps15
    go_wp2_with fail
    refine (signed_is ss w hb hm).mono ?_
    rintro e w2 ⟨rfl, rfl⟩
    rw [hs]
    go_wp2
    go_ret
    exact ⟨rfl, Below.refl _ _⟩
  | false =>
    rw [hs, if_neg (by decide)] at hA
    rw [hA]
    generalize argsL ss = na at *
    have hcl : ss.count 58 ≤ ss.length := List.count_le_length
    go_enter Tryz.func15, Tryz.ntmps15
    go_wp2_with fail
    refine (signed_is ss w hb hm).mono ?_
    rintro e w2 ⟨rfl, rfl⟩
    rw [hs]
    go_wp2_with fail
    go_loopw [3] (fun v wr => ∃ (i : Nat), v = .int .i64 (((ss.take i).count 58 : Nat) : Int) ∧ i ≤ ss.length ∧ wr.heap[w.heap.size]? = some (.stringIter (strOfNums ss) i) ∧ Below w.heap.size w wr) (fun _ wr => ss.length - wr.iterPos w.heap.size)
    case atStart => exact ⟨0, by simp, Nat.zero_le _, World.iter_heap w (strOfNums ss) 0, boxT⟩
    case round =>
      obtain ⟨i, rfl, hi, hit, hB⟩ := hrel
      by_cases hp : i < ss.length
      · have hp' : i < (strOfNums ss).size := by omega
        obtain ⟨r, n, hd, hr58, hn1, hn2, hc⟩ := rune_at ss hb i hp
        have hnx : ∀ ty, (Instr.next (.pointer (some ⟨w.heap.size, 0, none⟩)) true ty).run Tryz.prog wr = _ := fun ty => Lib.run_next_any_at wr w.heap.size (strOfNums ss) i ty hit hp'
        rw [hd] at hnx
        have hit2 := Lib.iterAt_heap wr w.heap.size (strOfNums ss) i (i + n) hit
        have hB2 := Lib.below_iterAt hB (Nat.le_refl _) (strOfNums ss) (i + n)
        have hcl2 : (ss.take i).count 58 ≤ i := Nat.le_trans List.count_le_length (by rw [List.length_take]; omega)
        by_cases h58 : ss.getD i 0 = 58
        · have hrb : ((r : Int) == 58) = true := by simpa using hr58.2 h58
          rw [if_pos h58] at hc
          have hw1 : IntKind.i64.wrap (((ss.take i).count 58 : Nat) + 1 : Int) = (((ss.take i).count 58 + 1 : Nat) : Int) := by rw [IntKind.wrap_i64]; omega
          go_wp2
          go_roundw
          case rel => exact ⟨i + n, by rw [hc]; rfl, hn2, hit2, hB2⟩
          case measure => simp only [World.iterPos, hit2, hit]; omega
        · have hrb : ((r : Int) == 58) = false := by simpa using fun h => h58 (hr58.1 h)
          rw [if_neg h58] at hc
          go_wp2
          go_roundw
          case rel => exact ⟨i + n, by rw [hc]; rfl, hn2, hit2, hB2⟩
          case measure => simp only [World.iterPos, hit2, hit]; omega
      · have hp' : ¬ i < (strOfNums ss).size := by omega
        obtain rfl : i = ss.length := by omega
        have hnx : ∀ ty, (Instr.next (.pointer (some ⟨w.heap.size, 0, none⟩)) true ty).run Tryz.prog wr = _ := fun ty => Lib.run_next_end_at wr w.heap.size (strOfNums ss) ss.length ty hit hp'
        rw [List.take_length]
        go_wp2
        go_ret
        exact ⟨rfl, hB⟩
theorem takeWhile_all (p : Int → Bool) : ∀ (l : List Int) (x : Int), x ∈ l.takeWhile p → p x = true
  | [], x, h => by cases h
  | c :: r, x, h => by
    rw [List.takeWhile_cons] at h
    split at h
    · rename_i hc
      rcases List.mem_cons.1 h with rfl | h
      · exact hc
      · exact takeWhile_all p r x h
    · cases h
theorem plain_args {ss : List Int} (h : plainN ss = true) : argsL ss = 0 := by
  unfold plainN at h
  rw [Bool.and_eq_true, decide_eq_true_eq, decide_eq_true_eq] at h
  cases ss with
  | nil => rfl
  | cons c r =>
    have hl : nmLen (c :: r) = (c :: r).length := h.2
    unfold nmLen at hl
    split at hl
    · rename_i hc
      show (if letB c then (c :: r).count 58 else 1) = 0
      have hc : letB c = true := hc
      rw [if_pos hc]
      have hall : ∀ x ∈ c :: r, nmB x = true := by
        have : (c :: r).takeWhile nmB = c :: r := (List.takeWhile_prefix nmB).eq_of_length hl
        intro x hx
        rw [← this] at hx
        exact takeWhile_all nmB _ x hx
      refine List.count_eq_zero.2 fun hm => ?_
      exact absurd (hall 58 hm) (by decide)
    · simp at hl
set_option maxHeartbeats 4000000 in
/-- The document's. -/
theorem rargs_is (ss : List Int) (w : World) (hb : ∀ x ∈ ss, 0 ≤ x ∧ x < 256) (hm : ss.length ≤ 9223372036854775800) : Calls Tryz.prog 16 #[.string (strOfNums ss)] w fun e w' => e = .returned (.int .i64 (argsL ss : Int)) ∧ w = w' := by
  have hsz : (strOfNums ss).size = ss.length := strOfNums_size ss
  have hA := argsL_sgn ss
  cases hpl : plainN ss with
  | true =>
    rw [plain_args hpl]
    go_enter Tryz.func16, Tryz.ntmps16
    go_wp2_with fail
    refine (rplainName_is ss w hb hm).mono ?_
    rintro e w2 ⟨rfl, rfl⟩
    rw [hpl]
    go_wp2
    go_ret
    exact ⟨rfl, rfl⟩
  | false =>
    have hcl : ss.count 58 ≤ ss.length := List.count_le_length
    have hpl' : ∀ w, Calls Tryz.prog 23 #[.string (strOfNums ss)] w fun e w' => e = .returned (.bool false) ∧ w = w' := fun w => by rw [← hpl]; exact rplainName_is ss w hb hm
    by_cases hz : ss.length = 0
    · have h0 : ((ss.length : Int) == 0) = true := by simp [hz]
      have hN : argsL ss = ss.count 58 := by rw [List.eq_nil_of_length_eq_zero hz]; rfl
      rw [hN]
      clear hA hpl hN hz
      generalize hcn : ss.count 58 = cn at *
      go_enter Tryz.func16, Tryz.ntmps16
      go_wp2_with fail
      refine (hpl' _).mono ?_
      rintro e w2 ⟨rfl, rfl⟩
      go_wp2_with fail
      go_loopw [3, 4] (fun v x wr => ∃ (i : Nat), v = .int .i64 (((ss.take i).count 58 : Nat) : Int) ∧ x = .int .i64 (i : Int) ∧ i ≤ ss.length ∧ wr = w) (fun _ x _ => ss.length - (intOf x).toNat)
      case atStart => exact ⟨0, by simp, rfl, Nat.zero_le _, rfl⟩
      case round =>
        obtain ⟨i, rfl, rfl, hi, rfl⟩ := hrel
        have hw0 : IntKind.i64.wrap ((i : Int) + 1) = ((i + 1 : Nat) : Int) := by rw [IntKind.wrap_i64]; omega
        by_cases hp : i < ss.length
        · have hltI : (i : Int) < (ss.length : Int) := by omega
          have hi0 : (0 : Int) ≤ (i : Int) := by omega
          have hgi := str_at ss hb i hp
          have hct := take_count1 ss i hp
          have hcl2 : (ss.take i).count 58 ≤ i := Nat.le_trans List.count_le_length (by rw [List.length_take]; omega)
          have hw1 : IntKind.i64.wrap (((ss.take i).count 58 : Nat) + 1 : Int) = (((ss.take i).count 58 + 1 : Nat) : Int) := by rw [IntKind.wrap_i64]; omega
          by_cases h58 : ss.getD i 0 = 58
          · have hcb : (ss.getD i 0 == 58) = true := by simpa using h58
            rw [if_pos h58] at hct
            clear hw1
            generalize ss.getD i 0 = b at *
            go_wp2
            go_roundw
            case rel => exact ⟨i + 1, by rw [hct]; rfl, rfl, hp, trivial⟩
            case measure => simp [intOf]; omega
          · have hcb : (ss.getD i 0 == 58) = false := by simpa using h58
            rw [if_neg h58] at hct
            clear hw1
            generalize ss.getD i 0 = b at *
            go_wp2
            go_roundw
            case rel => exact ⟨i + 1, by rw [hct]; rfl, rfl, hp, trivial⟩
            case measure => simp [intOf]; omega
        · have hltI : ¬ (i : Int) < (ss.length : Int) := by omega
          obtain rfl : i = ss.length := by omega
          rw [List.take_length, hcn]
          go_wp2
          go_ret
          exact ⟨rfl, rfl⟩
    · obtain ⟨c, r, hcr⟩ : ∃ c r, Hid (ss = c :: r) := by
        cases ss with
        | nil => exact absurd rfl hz
        | cons c r => exact ⟨c, r, rfl⟩
      have h0 : ((ss.length : Int) == 0) = false := by simp [hz]
      have h1 : (1 : Int) ≤ ((strOfNums ss).size : Int) := by rw [hsz]; omega
      have hx : (strOfNums ss).extract 0 1 = strOfNums [c] := by rw [hcr.out]; exact cut_one c r
      have hpc : ∀ w, Calls Tryz.prog 23 #[.string (strOfNums [c])] w fun e w' => e = .returned (.bool (letB c)) ∧ w = w' := fun w => by
        rw [← plain_one]
        exact rplainName_is [c] w (fun x hx => hb x (by rw [hcr.out]; simp at hx; simp [hx])) (by simp)
      have hN : argsL ss = if letB c then ss.count 58 else 1 := by rw [hcr.out]; rfl
      rw [hN]
      clear hA hpl hN hz hcr
      generalize hcn : ss.count 58 = cn at *
      cases hlb : letB c with
      | false =>
        rw [hlb] at hpc
        go_enter Tryz.func16, Tryz.ntmps16
        go_wp2_with fail
        refine (hpl' _).mono ?_
        rintro e w2 ⟨rfl, rfl⟩
        go_wp2_with fail
        refine (hpc _).mono ?_
        rintro e w2 ⟨rfl, rfl⟩
        go_wp2
        go_ret
        exact ⟨rfl, rfl⟩
      | true =>
        rw [hlb] at hpc
        go_enter Tryz.func16, Tryz.ntmps16
        go_wp2_with fail
        refine (hpl' _).mono ?_
        rintro e w2 ⟨rfl, rfl⟩
        go_wp2_with fail
        refine (hpc _).mono ?_
        rintro e w2 ⟨rfl, rfl⟩
        go_wp2_with fail
        go_loopw [3, 4] (fun v x wr => ∃ (i : Nat), v = .int .i64 (((ss.take i).count 58 : Nat) : Int) ∧ x = .int .i64 (i : Int) ∧ i ≤ ss.length ∧ wr = w) (fun _ x _ => ss.length - (intOf x).toNat)
        case atStart => exact ⟨0, by simp, rfl, Nat.zero_le _, rfl⟩
        case round =>
          obtain ⟨i, rfl, rfl, hi, rfl⟩ := hrel
          have hw0 : IntKind.i64.wrap ((i : Int) + 1) = ((i + 1 : Nat) : Int) := by rw [IntKind.wrap_i64]; omega
          by_cases hp : i < ss.length
          · have hltI : (i : Int) < (ss.length : Int) := by omega
            have hi0 : (0 : Int) ≤ (i : Int) := by omega
            have hgi := str_at ss hb i hp
            have hct := take_count1 ss i hp
            have hcl2 : (ss.take i).count 58 ≤ i := Nat.le_trans List.count_le_length (by rw [List.length_take]; omega)
            have hw1 : IntKind.i64.wrap (((ss.take i).count 58 : Nat) + 1 : Int) = (((ss.take i).count 58 + 1 : Nat) : Int) := by rw [IntKind.wrap_i64]; omega
            by_cases h58 : ss.getD i 0 = 58
            · have hcb : (ss.getD i 0 == 58) = true := by simpa using h58
              rw [if_pos h58] at hct
              clear hw1
              generalize ss.getD i 0 = b at *
              go_wp2
              go_roundw
              case rel => exact ⟨i + 1, by rw [hct]; rfl, rfl, hp, trivial⟩
              case measure => simp [intOf]; omega
            · have hcb : (ss.getD i 0 == 58) = false := by simpa using h58
              rw [if_neg h58] at hct
              clear hw1
              generalize ss.getD i 0 = b at *
              go_wp2
              go_roundw
              case rel => exact ⟨i + 1, by rw [hct]; rfl, rfl, hp, trivial⟩
              case measure => simp [intOf]; omega
          · have hltI : ¬ (i : Int) < (ss.length : Int) := by omega
            obtain rfl : i = ss.length := by omega
            rw [List.take_length, hcn]
            go_wp2
            go_ret
            exact ⟨rfl, rfl⟩
end Go.Proofs.YtncfmhlikmibaaaGreatDoor
