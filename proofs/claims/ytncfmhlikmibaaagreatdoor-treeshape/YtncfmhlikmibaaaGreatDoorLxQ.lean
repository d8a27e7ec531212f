/- Texts in quotes. -/
import Derived.Test.YtncfmhlikmibaaaGreatDoorLxC
import Derived.Test.YtncfmhlikmibaaaGreatDoorBld
namespace Go.Proofs.YtncfmhlikmibaaaGreatDoor
open Go.RowKit
set_option maxRecDepth 100000
theorem qtR_cons (c : Int) (r : List Int) : qtR (c :: r) = if c = 39 then (match r with | [] => some ([], 1) | d :: q => if d = 39 then (qtR q).map fun x => (39 :: x.1, x.2 + 2) else some ([], 1)) else (qtR r).map fun x => (c :: x.1, x.2 + 1) := by
  conv => lhs; unfold qtR
  rfl
theorem qt_end (ss : List Int) (i : Nat) (h : ss.length ≤ i) : qtR (ss.drop i) = none := by rw [List.drop_of_length_le h]; rfl
theorem qt_plain (ss : List Int) (i : Nat) (h : i < ss.length) (hc : ss.getD i 0 ≠ 39) : qtR (ss.drop i) = (qtR (ss.drop (i + 1))).map fun x => (ss.getD i 0 :: x.1, x.2 + 1) := by
  rw [getD_lt h] at hc ⊢
  rw [List.drop_eq_getElem_cons h, qtR_cons, if_neg hc]
theorem qt_stop (ss : List Int) (i : Nat) (h : i < ss.length) (hc : ss.getD i 0 = 39) (hd : i + 1 = ss.length ∨ ss.getD (i + 1) 0 ≠ 39) : qtR (ss.drop i) = some ([], 1) := by
  rw [getD_lt h] at hc
  rw [List.drop_eq_getElem_cons h, qtR_cons, if_pos hc]
  rcases hd with hd | hd
  · rw [List.drop_of_length_le (by omega)]
  · by_cases h1 : i + 1 < ss.length
    · rw [getD_lt h1] at hd
      rw [List.drop_eq_getElem_cons h1]
      simp only [if_neg hd]
    · rw [List.drop_of_length_le (by omega)]
theorem qt_two (ss : List Int) (i : Nat) (h : i + 1 < ss.length) (hc : ss.getD i 0 = 39) (hd : ss.getD (i + 1) 0 = 39) : qtR (ss.drop i) = (qtR (ss.drop (i + 2))).map fun x => (39 :: x.1, x.2 + 2) := by
  have h0 : i < ss.length := by omega
  rw [getD_lt h0] at hc
  rw [getD_lt h] at hd
  rw [List.drop_eq_getElem_cons h0, qtR_cons, if_pos hc, List.drop_eq_getElem_cons h]
  simp only [if_pos hd]
/-- What quoted answers. -/
def QP (k : Nat) (o : Option (List Int × Nat)) : Ending := match o with
  | none => .returned (.tuple #[.string (strOfNums []), .int .i64 k, .bool false])
  | some (t, n) => .returned (.tuple #[.string (strOfNums t), .int .i64 (k + 1 + n : Nat), .bool (decide (t.length ≤ 1024))])
def joinQ (acc : List Int) (d : Nat) (o : Option (List Int × Nat)) : Option (List Int × Nat) := o.map fun x => (acc ++ x.1, d + x.2)
theorem cells_bytes (acc : List Int) (h : ∀ x ∈ acc, 0 ≤ x ∧ x < 256) : Lib.byteCells (acc.map fun n => UInt8.ofNat n.toNat) = acc.map (Value.int .u8) := by
  unfold Lib.byteCells
  rw [List.map_map]
  apply List.map_congr_left
  intro x hx
  have := h x hx
  simp only [Function.comp_apply, UInt8.toNat_ofNat']
  rw [Nat.mod_eq_of_lt (by omega)]
  congr 1
  omega
theorem string_is (b : Nat) (acc : List Int) (w : World) (hb : ∀ x ∈ acc, 0 ≤ x ∧ x < 256) (h : Lib.IsBuilderF 68 5 b b (acc.map (Value.int .u8)) w) (hBw : b ≤ w.heap.size) : Calls Tryz.prog 34 #[.pointer (some ⟨b, 0, none⟩)] w fun e w' => e = .returned (.string (strOfNums acc)) ∧ Lib.IsBuilderF 68 5 b b (acc.map (Value.int .u8)) w' ∧ Below b w w' := by
  rw [← cells_bytes acc hb] at h ⊢
  refine (Tryz.Builder_String_any_k b b _ w h hBw).mono ?_
  rintro e w' ⟨rfl, h1, h2, _⟩
  exact ⟨rfl, h1, h2⟩
set_option maxHeartbeats 8000000 in
theorem quoted_any (ss : List Int) (k : Nat) (w : World) (hb : ∀ x ∈ ss, 0 ≤ x ∧ x < 256) (hk : k < ss.length) (hl : ss.length ≤ 100000) : Calls Tryz.prog 67 #[.string (strOfNums ss), .int .i64 k] w fun e w' => e = QP k (qtR (ss.drop (k + 1))) ∧ Below w.heap.size w w' := by
  have hsz : (strOfNums ss).size = ss.length := strOfNums_size ss
  have hw0 : IntKind.i64.wrap ((k : Int) + 1) = (k : Int) + 1 := by rw [IntKind.wrap_i64]; omega
  obtain ⟨O, hO⟩ : ∃ O, Hid (qtR (ss.drop (k + 1)) = O) := ⟨_, rfl⟩
  rw [hO.out]
  go_enter Tryz.func67, Tryz.ntmps67
  go_wp2
  go_loopw [8] (fun v wr => ∃ (i : Nat) (acc : List Int), v = .int .i64 i ∧ k + 1 ≤ i ∧ i ≤ ss.length ∧ acc.length ≤ i ∧ (∀ x ∈ acc, 0 ≤ x ∧ x < 256) ∧ Lib.IsBuilderF 68 5 w.heap.size w.heap.size (acc.map (Value.int .u8)) wr ∧ Below w.heap.size w wr ∧ Hid (O = joinQ acc (i - (k + 1)) (qtR (ss.drop i)))) (fun v _ => ss.length - (intOf v).toNat)
  case atStart =>
    refine ⟨k + 1, [], by go_num, Nat.le_refl _, hk, Nat.zero_le _, fun x hx => absurd hx List.not_mem_nil, Lib.IsBuilderF.of (Lib.fresh_isBuilder 68 5 w), boxT, ?_⟩
    show _ = _
    rw [hO.out, Nat.sub_self]
    unfold joinQ
    cases O with
    | none => rfl
    | some x => simp
  case round =>
    obtain ⟨i, acc, rfl, hi1, hi2, hal, hab, hI, hB, hv⟩ := hrel
    clear hO
    have hsw := hB.size
    have hw1 : IntKind.i64.wrap ((i : Int) + 1) = (i : Int) + 1 := by rw [IntKind.wrap_i64]; omega
    have hw2 : IntKind.i64.wrap ((i : Int) + 1 + 1) = (i : Int) + 1 + 1 := by rw [IntKind.wrap_i64]; omega
    by_cases hlt : i < ss.length
    · have hltI : (i : Int) < (ss.length : Int) := by omega
      have hat := str_at ss hb i hlt
      have hcb := hb (ss.getD i 0) (by rw [getD_lt hlt]; exact List.getElem_mem hlt)
      by_cases h39 : ss.getD i 0 = 39
      · rw [h39] at hat
        by_cases hst : i + 1 = ss.length ∨ ss.getD (i + 1) 0 ≠ 39
        · have hv' : Hid (O = some (acc, i - k)) := by
            show _ = _
            rw [hv.out, qt_stop ss i hlt h39 hst]
            unfold joinQ
            simp
            omega
          clear hv
          have fin : ∀ n : Nat, n = i + 1 → QP k O = .returned (.tuple #[.string (strOfNums acc), .int .i64 (n : Int), .bool (decide (acc.length ≤ 1024))]) := by
            rintro n rfl
            rw [hv'.out]
            unfold QP
            simp only
            rw [show k + 1 + (i - k) = i + 1 by omega]
          have hlen : ((acc.map (Value.int .u8)).length : Int) = (acc.length : Int) := by simp
          by_cases h1 : i + 1 < ss.length
          · have hd : ss.getD (i + 1) 0 ≠ 39 := by
              rcases hst with h | h
              · omega
              · exact h
            have hat1 := str_at ss hb (i + 1) h1
            have hJ : ((i : Int) + 1 == (ss.length : Int)) = false := by simp; omega
            have hK : (i : Int) + 1 < (ss.length : Int) := by omega
            have hto : ((i : Int) + 1).toNat = i + 1 := by omega
            generalize ss.getD (i + 1) 0 = d at *
            have hd' : (d != 39) = true := by simp [hd]
            go_wp2_with fail
            refine (string_is w.heap.size acc _ hab hI hsw).mono ?_
            rintro e w2 ⟨rfl, hI2, hB2⟩
            go_wp2_with fail
            refine (Tryz.Builder_Len_f w.heap.size w.heap.size _ _ hI2).mono ?_
            rintro e w3 ⟨rfl, rfl⟩
            rw [hlen]
            by_cases h1024 : acc.length ≤ 1024
            · have hq : (acc.length : Int) ≤ 1024 := by omega
              have hqq : decide (acc.length ≤ 1024) = true := by simp [h1024]
              go_wp2
              exact bodyPost_ret (v := .tuple #[.string (strOfNums acc), .int .i64 ((i : Int) + 1), .bool true]) (by simp [results, go_sem]) rfl ⟨by rw [fin (i + 1) rfl, hqq]; rfl, hB.trans hB2⟩
            · have hq : ¬ (acc.length : Int) ≤ 1024 := by omega
              have hqq : decide (acc.length ≤ 1024) = false := by simp [h1024]
              go_wp2
              exact bodyPost_ret (v := .tuple #[.string (strOfNums acc), .int .i64 ((i : Int) + 1), .bool false]) (by simp [results, go_sem]; omega) rfl ⟨by rw [fin (i + 1) rfl, hqq]; rfl, hB.trans hB2⟩
          · have hJ : ((i : Int) + 1 == (ss.length : Int)) = true := by simp; omega
            go_wp2_with fail
            refine (string_is w.heap.size acc _ hab hI hsw).mono ?_
            rintro e w2 ⟨rfl, hI2, hB2⟩
            go_wp2_with fail
            refine (Tryz.Builder_Len_f w.heap.size w.heap.size _ _ hI2).mono ?_
            rintro e w3 ⟨rfl, rfl⟩
            rw [hlen]
            by_cases h1024 : acc.length ≤ 1024
            · have hq : (acc.length : Int) ≤ 1024 := by omega
              have hqq : decide (acc.length ≤ 1024) = true := by simp [h1024]
              go_wp2
              exact bodyPost_ret (v := .tuple #[.string (strOfNums acc), .int .i64 ((i : Int) + 1), .bool true]) (by simp [results, go_sem]) rfl ⟨by rw [fin (i + 1) rfl, hqq]; rfl, hB.trans hB2⟩
            · have hq : ¬ (acc.length : Int) ≤ 1024 := by omega
              have hqq : decide (acc.length ≤ 1024) = false := by simp [h1024]
              go_wp2
              exact bodyPost_ret (v := .tuple #[.string (strOfNums acc), .int .i64 ((i : Int) + 1), .bool false]) (by simp [results, go_sem]; omega) rfl ⟨by rw [fin (i + 1) rfl, hqq]; rfl, hB.trans hB2⟩
        · have h1 : i + 1 < ss.length := by
            by_cases h : i + 1 = ss.length
            · exact absurd (.inl h) hst
            · omega
          have hd : ss.getD (i + 1) 0 = 39 := by
            by_cases h : ss.getD (i + 1) 0 = 39
            · exact h
            · exact absurd (.inr h) hst
          have hv' : Hid (O = joinQ (acc ++ [39]) (i + 2 - (k + 1)) (qtR (ss.drop (i + 2)))) := by
            show _ = _
            rw [hv.out, qt_two ss i h1 h39 hd]
            unfold joinQ
            cases qtR (ss.drop (i + 2)) with
            | none => rfl
            | some x => simp; omega
          clear hv
          have hat1 := str_at ss hb (i + 1) h1
          rw [hd] at hat1
          have hJ : ((i : Int) + 1 == (ss.length : Int)) = false := by simp; omega
          have hK : (i : Int) + 1 < (ss.length : Int) := by omega
          have hto : ((i : Int) + 1).toNat = i + 1 := by omega
          go_wp2_with fail
          refine (writeByte_k w.heap.size w.heap.size _ 39 _ hI (by simp; omega) hsw).mono ?_
          rintro e w2 ⟨rfl, hI2, hB2, _⟩
          go_wp2
          go_roundw
          case rel => exact ⟨i + 2, acc ++ [39], by go_num, by omega, by omega, by simp; omega, fun x hx => (List.mem_append.1 hx).elim (hab x) (fun h => by rw [List.mem_singleton.1 h]; omega), by rw [List.map_append]; exact Or.inr hI2, hB.trans hB2, hv'⟩
          case measure => simp [intOf]; omega
      · have hv' : Hid (O = joinQ (acc ++ [ss.getD i 0]) (i + 1 - (k + 1)) (qtR (ss.drop (i + 1)))) := by
          show _ = _
          rw [hv.out, qt_plain ss i hlt h39]
          unfold joinQ
          cases qtR (ss.drop (i + 1)) with
          | none => rfl
          | some x => simp; omega
        clear hv
        generalize ss.getD i 0 = c at *
        have h39' : (c == 39) = false := by simp [h39]
        go_wp2_with fail
        refine (writeByte_k w.heap.size w.heap.size _ c _ hI (by simp; omega) hsw).mono ?_
        rintro e w2 ⟨rfl, hI2, hB2, _⟩
        go_wp2
        go_roundw
        case rel => exact ⟨i + 1, acc ++ [c], by go_num, by omega, by omega, by simp; omega, fun x hx => (List.mem_append.1 hx).elim (hab x) (fun h => by rw [List.mem_singleton.1 h]; omega), by rw [List.map_append]; exact Or.inr hI2, hB.trans hB2, hv'⟩
        case measure => simp [intOf]; omega
    · have hltI : ¬ (i : Int) < (ss.length : Int) := by omega
      have hv' : Hid (O = none) := by
        show _ = _
        rw [hv.out, qt_end ss i (by omega)]
        rfl
      clear hv
      go_wp2
      exact bodyPost_ret (v := .tuple #[.string (strOfNums []), .int .i64 k, .bool false]) (by simp [results, go_sem]; rfl) rfl ⟨by rw [hv'.out]; rfl, hB⟩
end Go.Proofs.YtncfmhlikmibaaaGreatDoor
