/- The document's PlainName, PlainSymbol and Quote. -/
import Derived.Test.YtlhmeipbcioncaaDoorPln
import Derived.Test.YtlhmeipbcioncaaDoorRxB
namespace Go.Proofs.YtlhmeipbcioncaaDoor
open Go.RowKit
set_option maxRecDepth 100000
set_option maxHeartbeats 4000000 in
theorem rplainName_is (ss : List Int) (w : World) (hb : ∀ x ∈ ss, 0 ≤ x ∧ x < 256) (hm : ss.length ≤ 9223372036854775800) : Calls Tryd.prog 17 #[.string (strOfNums ss)] w fun e w' => e = .returned (.bool (plainN ss)) ∧ w = w' := by
  have hsz : (strOfNums ss).size = ss.length := strOfNums_size ss
  by_cases h0 : ss = []
  · subst h0
    have e : strOfNums [] = ⟨#[]⟩ := rfl
    rw [e]
    go_enter Tryd.func17, Tryd.ntmps17
    go_wp2
    go_ret
    exact ⟨rfl, rfl⟩
  · have hpos : 0 < ss.length := List.length_pos_iff.2 h0
    have hposI : (0 : Int) < (ss.length : Int) := by omega
    have hc := fun w => rname_any ss 0 w hb hm (Nat.zero_le _)
    rw [List.drop_zero, Nat.zero_add, Int.natCast_zero] at hc
    have ep : plainN ss = ((nmLen ss : Int) == (ss.length : Int)) := by
      unfold plainN
      rw [decide_eq_true h0, Bool.true_and, Bool.eq_iff_iff, beq_iff_eq, decide_eq_true_eq]
      omega
    rw [ep]
    generalize nmLen ss = n at *
    go_enter Tryd.func17, Tryd.ntmps17
    go_wp2_with fail
    refine (hc _).mono ?_
    rintro e w2 ⟨rfl, rfl⟩
    go_wp2
    go_ret
    exact ⟨rfl, rfl⟩
theorem rs_plain (ss : List Int) (h0 : ss ≠ []) (h39 : ss.getD 0 0 ≠ 39) : (plainS ss = true ∧ RQ 0 (rsO ss 0) = .returned (.tuple #[.string (strOfNums ss), .int .i64 (ss.length : Int)])) ∨ (plainS ss = false ∧ ∃ s m, RQ 0 (rsO ss 0) = .returned (.tuple #[.string s, .int .i64 m]) ∧ (m == (ss.length : Int)) = false) := by
  have hpos : 0 < ss.length := List.length_pos_iff.2 h0
  have hle := plLen_le ss
  unfold rsO plainS
  rw [List.drop_zero]
  by_cases h : 0 < plLen ss
  · rw [if_pos h]
    by_cases h2 : 1024 < plLen ss
    · rw [if_pos h2]
      right
      refine ⟨?_, _, _, rfl, ?_⟩
      · rw [decide_eq_false (show ¬ ss.length ≤ 1024 by omega), Bool.and_false, Bool.false_and]
      · rw [beq_eq_false_iff_ne]; omega
    · rw [if_neg h2]
      by_cases h3 : plLen ss = ss.length
      · left
        rw [h3, List.take_length]
        refine ⟨?_, ?_⟩
        · rw [decide_eq_true h0, decide_eq_true (show ss.length ≤ 1024 by omega), decide_eq_true rfl]; rfl
        · simp only [RQ, Nat.zero_add]
      · right
        refine ⟨?_, _, _, rfl, ?_⟩
        · rw [decide_eq_false h3, Bool.and_false]
        · rw [beq_eq_false_iff_ne]; omega
  · rw [if_neg h]
    unfold rqO
    rw [if_neg h39]
    right
    refine ⟨?_, _, _, rfl, ?_⟩
    · rw [decide_eq_false (show ¬ plLen ss = ss.length by omega), Bool.and_false]
    · rw [beq_eq_false_iff_ne]; omega
set_option maxHeartbeats 4000000 in
theorem rplainSymbol_is (ss : List Int) (w : World) (hb : ∀ x ∈ ss, 0 ≤ x ∧ x < 256) (hm : ss.length ≤ 10000000) : Calls Tryd.prog 19 #[.string (strOfNums ss)] w fun e w' => e = .returned (.bool (plainS ss)) ∧ Below w.heap.size w w' := by
  have hsz : (strOfNums ss).size = ss.length := strOfNums_size ss
  by_cases h0 : ss = []
  · subst h0
    have e : strOfNums [] = ⟨#[]⟩ := rfl
    rw [e]
    go_enter Tryd.func19, Tryd.ntmps19
    go_wp2
    go_ret
    exact ⟨rfl, Below.refl _ _⟩
  · have hpos : 0 < ss.length := List.length_pos_iff.2 h0
    have hposI : (0 : Int) < (ss.length : Int) := by omega
    have h0b : ((ss.length : Int) == 0) = false := by rw [beq_eq_false_iff_ne]; omega
    have hat := str_at ss hb 0 hpos
    by_cases h39 : ss.getD 0 0 = 39
    · have ep : plainS ss = false := by
        cases hp : plainS ss with
        | false => rfl
        | true =>
          unfold plainS at hp
          simp only [Bool.and_eq_true, decide_eq_true_eq] at hp
          have := pl_head hp.2 h0
          rw [h39] at this
          exact absurd this (by decide)
      rw [ep]
      rw [h39] at hat
      go_enter Tryd.func19, Tryd.ntmps19
      go_wp2
      go_ret
      exact ⟨rfl, Below.refl _ _⟩
    · have h39b : (ss.getD 0 0 == 39) = false := by simpa using h39
      have hc := fun w => rsymbol_any ss 0 w hb hm (Nat.zero_le _)
      rw [Int.natCast_zero] at hc
      rcases rs_plain ss h0 h39 with ⟨ep, hr⟩ | ⟨ep, s, m, hr, hmm⟩
      · rw [ep]
        rw [hr] at hc
        have hss : ((strOfNums ss).toList == (strOfNums ss).toList) = true := beq_self_eq_true _
        generalize ss.getD 0 0 = c at *
        go_enter Tryd.func19, Tryd.ntmps19
        go_wp2_with fail
        refine (hc _).mono ?_
        rintro e w2 ⟨rfl, hB⟩
        go_wp2
        go_ret
        exact ⟨rfl, hB⟩
      · rw [ep]
        rw [hr] at hc
        generalize ss.getD 0 0 = c at *
        go_enter Tryd.func19, Tryd.ntmps19
        go_wp2_with fail
        refine (hc _).mono ?_
        rintro e w2 ⟨rfl, hB⟩
        go_wp2
        go_ret
        exact ⟨rfl, hB⟩
theorem own_one (w : World) (c : Int) : (w.alloc (.cells #[.int .u8 c] 5)).ownsRow w.heap.size 5 1 (.slice (some ⟨w.heap.size, 0, none⟩) 1 1) 1 (([c] : List Int).map (Value.int .u8)) :=
  ⟨rfl, .inr ⟨w.heap.size, 1, #[.int .u8 c], rfl, Nat.le_refl _, heap_alloc_new w _, by decide, by decide, rfl, rfl⟩⟩
theorem dbl_step (ss : List Int) (i : Nat) (h : i < ss.length) : dbl (ss.take (i + 1)) = if ss.getD i 0 = 39 then (dbl (ss.take i) ++ [39]) ++ [39] else dbl (ss.take i) ++ [ss.getD i 0] := by
  rw [List.take_add_one, List.getElem?_eq_getElem h, dbl_app]
  have e : ss.getD i 0 = ss[i] := getD_lt h
  rw [e]
  split
  · rename_i hc
    rw [hc]
    simp [dbl]
  · rename_i hc
    simp [dbl, hc]
set_option maxHeartbeats 8000000 in
theorem rquote_is (ss : List Int) (w : World) (hb : ∀ x ∈ ss, 0 ≤ x ∧ x < 256) (hm : ss.length ≤ 10000000) : Calls Tryd.prog 15 #[.string (strOfNums ss)] w fun e w' => e = .returned (.string (strOfNums (quoteL ss))) ∧ Below w.heap.size w w' := by
  have hsz : (strOfNums ss).size = ss.length := strOfNums_size ss
  obtain ⟨R, hR⟩ : ∃ R, Hid (quoteL ss = R) := ⟨_, rfl⟩
  rw [hR.out]
  go_enter Tryd.func15, Tryd.ntmps15
  go_wp2
  go_loopw [3, 4] (fun v x wr => ∃ (i : Nat) (acc : List Int), x = .int .i64 i ∧ i ≤ ss.length ∧ acc.length ≤ 2 * i + 1 ∧ (∀ x ∈ acc, 0 ≤ x ∧ x < 256) ∧ OwnB wr w.heap.size v acc ∧ Below w.heap.size w wr ∧ Hid (acc = 39 :: dbl (ss.take i))) (fun _ x _ => ss.length - (intOf x).toNat)
  case atStart =>
    exact ⟨0, [39], rfl, Nat.zero_le _, Nat.le_refl _, by decide, ownB_of (own_one w 39) (by decide), boxT, rfl⟩
  case round =>
    obtain ⟨i, acc, rfl, hi, hal, hab, ⟨hown, va, vc, rfl, hIB⟩, hB, hv⟩ := hrel
    have hsw := hB.size
    have hw1 : IntKind.i64.wrap ((i : Int) + 1) = (i : Int) + 1 := by rw [IntKind.wrap_i64]; omega
    by_cases hlt : i < ss.length
    · have hltI : (i : Int) < (ss.length : Int) := by omega
      have hat := str_at ss hb i hlt
      have hcb := hb (ss.getD i 0) (by rw [getD_lt hlt]; exact List.getElem_mem hlt)
      have hds := dbl_step ss i hlt
      clear hR hIB
      have hc1 : ∀ x ∈ [ss.getD i 0], 0 ≤ x ∧ x < 256 := fun x hx => by rw [List.mem_singleton.1 hx]; exact hcb
      by_cases h39 : ss.getD i 0 = 39
      · rw [if_pos h39] at hds
        rw [h39] at hat
        have hv' : Hid ((acc ++ [39]) ++ [39] = 39 :: dbl (ss.take (i + 1))) := by
          show _ = _
          rw [hds, hv.out]; rfl
        clear hv hds
        go_upto_region 6 with (at_builtin; refine app_bytes _ rfl _ _ rfl w.heap.size _ acc.length acc rfl ?o1 _ _ _ [39] rfl ?o2 ?o3 ?o4 ?o5 ?_)
        case o1 => exact own_below hown boxT
        case o2 => exact one_isB _ 39 (by decide)
        case o3 => omega
        case o4 => omega
        case o5 => simp; omega
        intro v' w6 hown6 hB6
        have hab6 := append_bytes acc [39] hab (by decide)
        obtain ⟨hown7, va2, vc2, rfl, _⟩ : OwnB w6 w.heap.size v' (acc ++ [39]) := ownB_of (n := acc.length + 1) (by simpa using hown6) hab6
        replace hB := (below_size hB (Nat.le_refl _) boxT).trans hB6
        have hs6 := hB.size
        have hal6 : (acc ++ [39]).length ≤ 2 * i + 2 := by simp; omega
        clear hown6 hB6 hown
        generalize acc ++ [39] = ac2 at *
        go_wp2_with (at_builtin; refine app_bytes _ rfl _ _ rfl w.heap.size _ ac2.length ac2 rfl ?o1 _ _ _ [39] rfl ?o2 ?o3 ?o4 ?o5 ?_)
        case o1 => exact own_below hown7 boxT
        case o2 => exact one_isB _ 39 (by decide)
        case o3 => omega
        case o4 => omega
        case o5 => simp; omega
        intro v' w7 hown8 hB7
        have hO8 : OwnB w7 w.heap.size v' (ac2 ++ [39]) := ownB_of (n := ac2.length + 1) (by simpa using hown8) (append_bytes ac2 [39] hab6 (by decide))
        go_wp2
        go_roundw
        case rel => exact ⟨i + 1, ac2 ++ [39], by go_num, by omega, by simp; omega, append_bytes ac2 [39] hab6 (by decide), hO8, (below_size hB (Nat.le_refl _) boxT).trans hB7, hv'⟩
        case measure => simp [intOf]; omega
      · rw [if_neg h39] at hds
        have h39b : (ss.getD i 0 == 39) = false := by simpa using h39
        have hv' : Hid (acc ++ [ss.getD i 0] = 39 :: dbl (ss.take (i + 1))) := by
          show _ = _
          rw [hds, hv.out]; rfl
        clear hv hds h39
        generalize ss.getD i 0 = c at *
        go_wp2_with (at_builtin; refine app_bytes _ rfl _ _ rfl w.heap.size _ acc.length acc rfl ?o1 _ _ _ [c] rfl ?o2 ?o3 ?o4 ?o5 ?_)
        case o1 => exact own_below hown boxT
        case o2 => exact one_isB _ c hcb
        case o3 => omega
        case o4 => omega
        case o5 => simp; omega
        intro v' w6 hown6 hB6
        have hab6 := append_bytes acc [c] hab hc1
        have hO6 : OwnB w6 w.heap.size v' (acc ++ [c]) := ownB_of (n := acc.length + 1) (by simpa using hown6) hab6
        go_wp2
        go_roundw
        case rel => exact ⟨i + 1, acc ++ [c], by go_num, by omega, by simp; omega, hab6, hO6, (below_size hB (Nat.le_refl _) boxT).trans hB6, hv'⟩
        case measure => simp [intOf]; omega
    · have hltI : ¬ (i : Int) < (ss.length : Int) := by omega
      have hfin : Hid (acc ++ [39] = R) := by
        show _ = _
        rw [← hR.out, hv.out, List.take_of_length_le (by omega)]; rfl
      clear hv hR hIB
      go_wp2_with (at_builtin; refine app_bytes _ rfl _ _ rfl w.heap.size _ acc.length acc rfl ?o1 _ _ _ [39] rfl ?o2 ?o3 ?o4 ?o5 ?_)
      case o1 => exact own_below hown boxT
      case o2 => exact one_isB _ 39 (by decide)
      case o3 => omega
      case o5 => first | omega | (simp; omega)
      intro v' w6 hown6 hB6
      have hab6 := append_bytes acc [39] hab (by decide)
      obtain ⟨hown7, va2, vc2, rfl, hIB2⟩ : OwnB w6 w.heap.size v' (acc ++ [39]) := ownB_of (n := acc.length + 1) (by simpa using hown6) hab6
      have hst := hIB2.str
      rw [hfin.out] at hst ⊢
      go_wp2
      go_ret
      exact ⟨rfl, (below_size hB (Nat.le_refl _) boxT).trans hB6⟩
end Go.Proofs.YtlhmeipbcioncaaDoor
