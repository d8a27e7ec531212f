/- Replace of each quote by two, and Quote. -/
import Derived.Test.YtncfmhlikmibaaaGreatDoorBlq
import Derived.Test.YtncfmhlikmibaaaGreatDoorLxR
namespace Go.Proofs.YtncfmhlikmibaaaGreatDoor
open Go.RowKit
set_option maxRecDepth 100000
/-- Each quote twice. -/
def dbl : List Int → List Int
  | [] => []
  | c :: r => if c = 39 then 39 :: 39 :: dbl r else c :: dbl r
def quoteL (ss : List Int) : List Int := 39 :: (dbl ss ++ [39])
theorem dbl_app (a b : List Int) : dbl (a ++ b) = dbl a ++ dbl b := by
  induction a with
  | nil => rfl
  | cons c r ih =>
    simp only [List.cons_append, dbl]
    split
    · simp [ih]
    · simp [ih]
theorem dbl_no (a : List Int) (h : a.count 39 = 0) : dbl a = a := by
  induction a with
  | nil => rfl
  | cons c r ih =>
    rw [List.count_cons] at h
    have h1 : ¬ c = 39 := by
      intro e
      subst e
      simp at h
    rw [dbl, if_neg h1, ih (by omega)]
theorem dbl_len (a : List Int) : (dbl a).length = a.length + a.count 39 := by
  induction a with
  | nil => rfl
  | cons c r ih =>
    rw [dbl, List.count_cons]
    split
    · rename_i h
      subst h
      simp [ih]
      omega
    · rename_i h
      have : (c == 39) = false := by simp [h]
      rw [this]
      simp [ih]
      omega
theorem dbl_mem {a : List Int} {x : Int} (h : x ∈ dbl a) : x ∈ a := by
  induction a with
  | nil => exact h
  | cons c r ih =>
    rw [dbl] at h
    split at h
    · rename_i e
      subst e
      rcases List.mem_cons.1 h with rfl | h
      · exact List.mem_cons_self ..
      · rcases List.mem_cons.1 h with rfl | h
        · exact List.mem_cons_self ..
        · exact List.mem_cons_of_mem _ (ih h)
    · rcases List.mem_cons.1 h with rfl | h
      · exact List.mem_cons_self ..
      · exact List.mem_cons_of_mem _ (ih h)
theorem byte_eq {c d : Int} (hc : 0 ≤ c ∧ c < 256) (hd : 0 ≤ d ∧ d < 256) : (UInt8.ofNat c.toNat == UInt8.ofNat d.toNat) = (c == d) := by
  by_cases h : c = d
  · subst h; simp
  · have h2 : (c == d) = false := by simp [h]
    rw [h2, beq_eq_false_iff_ne]
    intro k
    have := congrArg UInt8.toNat k
    rw [UInt8.toNat_ofNat', UInt8.toNat_ofNat', Nat.mod_eq_of_lt (by omega), Nat.mod_eq_of_lt (by omega)] at this
    omega
theorem count_str (r : List Int) (hb : ∀ x ∈ r, 0 ≤ x ∧ x < 256) : Lib.countByte (strOfNums r).data.toList 39 = r.count 39 := by
  unfold Lib.countByte
  induction r with
  | nil => rfl
  | cons c r ih =>
    have e : (strOfNums (c :: r)).data.toList = UInt8.ofNat c.toNat :: (strOfNums r).data.toList := by simp [strOfNums]
    rw [e, List.count_cons, List.count_cons, ih fun x hx => hb x (List.mem_cons_of_mem _ hx)]
    have := byte_eq (hb c (List.mem_cons_self ..)) (show (0 : Int) ≤ 39 ∧ (39 : Int) < 256 by omega)
    rw [show UInt8.ofNat (39 : Int).toNat = 39 from rfl] at this
    rw [this]
theorem idx_str (r : List Int) (hb : ∀ x ∈ r, 0 ≤ x ∧ x < 256) : Lib.indexByte (strOfNums r).data.toList 39 = idxV (r.idxOf? 39) := by
  induction r with
  | nil => rfl
  | cons c r ih =>
    have ih := ih fun x hx => hb x (List.mem_cons_of_mem _ hx)
    have e : (strOfNums (c :: r)).data.toList = UInt8.ofNat c.toNat :: (strOfNums r).data.toList := by simp [strOfNums]
    have h1 := byte_eq (hb c (List.mem_cons_self ..)) (show (0 : Int) ≤ 39 ∧ (39 : Int) < 256 by omega)
    rw [show UInt8.ofNat (39 : Int).toNat = 39 from rfl] at h1
    rw [e, Lib.indexByte, List.idxOf?_cons, ih, h1]
    cases h2 : (c == 39) with
    | true => rfl
    | false =>
      simp only [Bool.false_eq_true, if_false]
      cases r.idxOf? 39 with
      | none => rfl
      | some k =>
        have hk : (idxV (some k) == -1) = false := by rw [beq_eq_false_iff_ne]; show (k : Int) ≠ -1; omega
        rw [hk]
        simp only [Bool.false_eq_true, if_false]
        show (k : Int) + 1 = ((k + 1 : Nat) : Int)
        omega
/-- The first quote, where there is one. -/
theorem first_quote (r : List Int) (h : 0 < r.count 39) : ∃ d, r.idxOf? 39 = some d ∧ d < r.length ∧ (r.take d).count 39 = 0 ∧ r.getD d 0 = 39 ∧ (r.drop (d + 1)).count 39 + 1 = r.count 39 := by
  induction r with
  | nil => simp at h
  | cons c r ih =>
    rw [List.count_cons] at h
    by_cases hc : c = 39
    · subst hc
      exact ⟨0, rfl, by simp, rfl, rfl, by simp⟩
    · have hc' : (c == 39) = false := by simp [hc]
      rw [hc'] at h
      obtain ⟨d, h1, h2, h3, h4, h5⟩ := ih (by simpa using h)
      refine ⟨d + 1, ?_, by simp; omega, ?_, by simpa using h4, ?_⟩
      · rw [List.idxOf?_cons, hc', h1]; rfl
      · rw [List.take_succ_cons, List.count_cons, hc', h3]; rfl
      · rw [List.drop_succ_cons, h5, List.count_cons, hc']; rfl
theorem strCells_nums (r : List Int) (hb : ∀ x ∈ r, 0 ≤ x ∧ x < 256) : Lib.strCells (strOfNums r) = r.map (Value.int .u8) := by
  have := cells_bytes r hb
  unfold Lib.byteCells at this
  unfold Lib.strCells
  rw [show (strOfNums r).data.toList = r.map fun n => UInt8.ofNat n.toNat by simp [strOfNums]]
  exact this
theorem write_is (b : Nat) (acc r : List Int) (w : World) (hr : ∀ x ∈ r, 0 ≤ x ∧ x < 256) (h : Lib.IsBuilderF 68 5 b b (acc.map (Value.int .u8)) w) (hlen : acc.length + r.length ≤ 140737488355328) (hBw : b ≤ w.heap.size) :
    Calls Tryz.prog 82 #[.pointer (some ⟨b, 0, none⟩), .string (strOfNums r)] w fun e w' => e = .returned (.tuple #[.int .i64 r.length, .nilIface]) ∧ Lib.IsBuilderF 68 5 b b ((acc ++ r).map (Value.int .u8)) w' ∧ Below b w w' := by
  refine (writeString_k b b _ _ w h (by rw [List.length_map, strOfNums_size]; exact hlen) hBw).mono ?_
  rintro e w' ⟨rfl, h1, h2, _⟩
  rw [strCells_nums r hr, ← List.map_append] at h1
  rw [strOfNums_size]
  exact ⟨rfl, Or.inr h1, h2⟩
theorem count_is (ss : List Int) (w : World) (hb : ∀ x ∈ ss, 0 ≤ x ∧ x < 256) : Calls Tryz.prog 125 #[.string (strOfNums ss), .string ⟨#[39]⟩] w fun e w' => e = .returned (.int .i64 (ss.count 39 : Nat)) ∧ w = w' := by
  refine (Tryz.strings_Count_one (strOfNums ss) 39 w).mono ?_
  rintro e w' ⟨rfl, rfl⟩
  rw [count_str ss hb]
  exact ⟨rfl, rfl⟩
theorem index_is (r : List Int) (w : World) (hb : ∀ x ∈ r, 0 ≤ x ∧ x < 256) (d : Nat) (hd : r.idxOf? 39 = some d) : Calls Tryz.prog 127 #[.string (strOfNums r), .string ⟨#[39]⟩] w fun e w' => e = .returned (.int .i64 d) ∧ w = w' := by
  refine (Tryz.strings_Index_one (strOfNums r) 39 w).mono ?_
  rintro e w' ⟨rfl, rfl⟩
  rw [idx_str r hb, hd]
  exact ⟨rfl, rfl⟩
theorem lit39 : (⟨#[39]⟩ : ByteArray) = strOfNums [39] := rfl
theorem lit3939 : (⟨#[39, 39]⟩ : ByteArray) = strOfNums [39, 39] := rfl
theorem ne39 : ((⟨#[39]⟩ : ByteArray).toList == (⟨#[39, 39]⟩ : ByteArray).toList) = false := by
  rw [lit39, lit3939, Lib.strOfNums_toList, Lib.strOfNums_toList]; rfl
set_option maxHeartbeats 8000000 in
theorem replace_any (ss : List Int) (w : World) (hb : ∀ x ∈ ss, 0 ≤ x ∧ x < 256) (hm : ss.length ≤ 70368744177000) : Calls Tryz.prog 106 #[.string (strOfNums ss), .string ⟨#[39]⟩, .string ⟨#[39, 39]⟩, .int .i64 (-1)] w fun e w' => e = .returned (.string (strOfNums (dbl ss))) ∧ Below w.heap.size w w' := by
  have hsz : (strOfNums ss).size = ss.length := strOfNums_size ss
  have hne := ne39
  have hcl : ss.count 39 ≤ ss.length := List.count_le_length
  have hcount := fun w => count_is ss w hb
  by_cases h0 : ss.count 39 = 0
  · rw [dbl_no ss h0]
    rw [h0] at hcount
    go_enter Tryz.func106, Tryz.ntmps106
    go_wp2_with (go_at_call 125; refine (hcount _).mono ?_; rintro e w' ⟨rfl, rfl⟩)
    go_ret
    exact ⟨rfl, Below.refl _ _⟩
  · obtain ⟨N, hN⟩ : ∃ N, Hid (ss.count 39 = N) := ⟨_, rfl⟩
    rw [hN.out] at h0 hcl hcount
    have hN0 : ((N : Int) == 0) = false := by simp; omega
    have hw1 : IntKind.i64.wrap ((ss.length : Int) + (N : Int)) = ((ss.length + N : Nat) : Int) := by rw [IntKind.wrap_i64]; omega
    have hw0 : IntKind.i64.wrap (N : Int) = (N : Int) := by rw [IntKind.wrap_i64]; omega
    go_enter Tryz.func106, Tryz.ntmps106
    go_wp2_with (go_at_call 125; refine (hcount _).mono ?_; rintro e w' ⟨rfl, rfl⟩)
    have hnew : (w.alloc (.cells #[.pointer none, .slice none 0 0] 68)).heap[w.heap.size]? = some (.cells #[.pointer none, .slice none 0 0] 68 (0, 0)) := newT _ _
    refine (Grow_fresh w.heap.size w.heap.size (ss.length + N) _ (Nat.le_refl _) hnew (by simp) (by omega)).mono ?_
    rintro e w1 ⟨rfl, hI1, hB1⟩
    have hI : Lib.IsBuilderF 68 5 w.heap.size w.heap.size (([] : List Int).map (Value.int .u8)) w1 := Lib.IsBuilderF.of (Or.inr hI1)
    have hB : Below w.heap.size w w1 := boxT.trans hB1
    clear hI1 hB1 hnew hcount
    go_wp2
    go_loopw [11, 53] (fun x y wr => ∃ st q : Nat, x = .int .i64 st ∧ y = .int .i64 q ∧ st ≤ ss.length ∧ q ≤ N ∧ Lib.IsBuilderF 68 5 w.heap.size w.heap.size ((dbl (ss.take st)).map (Value.int .u8)) wr ∧ Below w.heap.size w wr ∧ Hid ((ss.drop st).count 39 + q = N)) (fun _ y _ => N - (intOf y).toNat)
    case atStart => exact ⟨0, 0, rfl, rfl, Nat.zero_le _, Nat.zero_le _, by simpa [dbl] using hI, hB, by show _ = _; rw [List.drop_zero, hN.out]; omega⟩
    case round =>
      clear hI hB
      obtain ⟨st, q, rfl, rfl, hst, hq, hI, hB, hv⟩ := hrel
      have hsw := hB.size
      have hdl := dbl_len (ss.take st)
      have hct : (ss.take st).count 39 ≤ (ss.take st).length := List.count_le_length
      rw [List.length_take] at hdl hct
      have hab : ∀ x ∈ dbl (ss.take st), 0 ≤ x ∧ x < 256 := fun x h => hb x (List.mem_of_mem_take (dbl_mem h))
      have hxe := ext_str ss st ss.length
      rw [List.take_of_length_le (by rw [List.length_drop]; exact Nat.le_refl _)] at hxe
      have hstI : (st : Int) ≤ (ss.length : Int) := by omega
      by_cases hlt : q < N
      · have hltI : (q : Int) < (N : Int) := by omega
        obtain ⟨d, h1, h2, h3, h4, h5⟩ := first_quote (ss.drop st) (by have := hv.out; omega)
        rw [List.length_drop] at h2
        have hix := fun w => index_is (ss.drop st) w (fun x h => hb x (List.mem_of_mem_drop h)) d h1
        have hx := ext_str ss st (st + d)
        rw [show st + d - st = d by omega] at hx
        have hdb : dbl (ss.take (st + d + 1)) = (dbl (ss.take st) ++ (ss.drop st).take d) ++ [39, 39] := by
          have e1 : ss.take (st + d + 1) = (ss.take st ++ (ss.drop st).take d) ++ [39] := by
            rw [List.take_succ_eq_append_getElem (by omega), List.take_add]
            congr 1
            rw [getD_drop, getD_lt (by omega)] at h4
            rw [h4]
          rw [e1, dbl_app, dbl_app, dbl_no _ h3]
          rfl
        have hv' : Hid ((ss.drop (st + d + 1)).count 39 + (q + 1) = N) := by
          show _ = _
          have := hv.out
          rw [List.drop_drop, ← Nat.add_assoc] at h5
          omega
        have hwj : IntKind.i64.wrap ((st : Int) + (d : Int)) = ((st + d : Nat) : Int) := by rw [IntKind.wrap_i64]; omega
        have hwk : IntKind.i64.wrap (((st + d : Nat) : Int) + 1) = ((st + d + 1 : Nat) : Int) := by rw [IntKind.wrap_i64]; omega
        have hwq : IntKind.i64.wrap ((q : Int) + 1) = ((q + 1 : Nat) : Int) := by rw [IntKind.wrap_i64]; omega
        have hj1 : (st : Int) ≤ ((st + d : Nat) : Int) := by omega
        have hj2 : ((st + d : Nat) : Int) ≤ (ss.length : Int) := by omega
        have hj3 : st + d + 1 ≤ ss.length := by omega
        clear hv h1 h3 h4 h5
        obtain ⟨J, hJ⟩ : ∃ J : Nat, Hid (st + d = J) := ⟨_, rfl⟩
        rw [hJ.out] at hx hdb hv' hwj hwk hj1 hj2 hj3
        have hrl : ((ss.drop st).take d).length = d := by rw [List.length_take, List.length_drop]; omega
        have hrb : ∀ x ∈ (ss.drop st).take d, 0 ≤ x ∧ x < 256 := fun x h => hb x (List.mem_of_mem_drop (List.mem_of_mem_take h))
        generalize (ss.drop st).take d = R at *
        obtain ⟨E, hE⟩ : ∃ E, Hid (dbl (ss.take (J + 1)) = E) := ⟨_, rfl⟩
        rw [hE.out] at hdb
        generalize dbl (ss.take st) = acc at *
        clear hJ
        go_wp2_with (go_at_call 127; refine (hix _).mono ?_; rintro e w' ⟨rfl, rfl⟩)
        refine (write_is w.heap.size acc R _ hrb hI (by omega) hsw).mono ?_
        rintro e w2 ⟨rfl, hI2, hB2⟩
        have hsw2 := hB2.size
        go_wp2_with fail
        have hwr := write_is w.heap.size (acc ++ R) [39, 39] w2 (by decide) hI2 (by simp; omega) (by omega)
        rw [← lit3939] at hwr
        refine hwr.mono ?_
        rintro e w3 ⟨rfl, hI3, hB3⟩
        rw [← hdb] at hI3
        go_wp2
        go_roundw
        case rel => exact ⟨J + 1, q + 1, by go_num, by go_num, hj3, hlt, by rw [hE.out]; exact hI3, (hB.trans hB2).trans hB3, hv'⟩
        case measure => simp [intOf]; omega
      · have hltI : ¬ (q : Int) < (N : Int) := by omega
        have hfin : Hid (dbl (ss.take st) ++ ss.drop st = dbl ss) := by
          show _ = _
          have hz : (ss.drop st).count 39 = 0 := by have := hv.out; omega
          conv => rhs; rw [← List.take_append_drop st ss, dbl_app, dbl_no _ hz]
        have hrb : ∀ x ∈ ss.drop st, 0 ≤ x ∧ x < 256 := fun x h => hb x (List.mem_of_mem_drop h)
        have hrl : (ss.drop st).length = ss.length - st := List.length_drop
        have hdb : ∀ x ∈ dbl ss, 0 ≤ x ∧ x < 256 := fun x h => hb x (dbl_mem h)
        clear hv
        generalize dbl (ss.take st) = acc at *
        go_wp2_with fail
        refine (write_is w.heap.size acc (ss.drop st) _ hrb hI (by omega) hsw).mono ?_
        rintro e w2 ⟨rfl, hI2, hB2⟩
        have hsw2 := hB2.size
        rw [hfin.out] at hI2
        go_wp2_with fail
        refine (string_is w.heap.size (dbl ss) _ hdb hI2 (by omega)).mono ?_
        rintro e w3 ⟨rfl, hI3, hB3⟩
        go_wp2
        go_ret
        exact ⟨rfl, (hB.trans hB2).trans hB3⟩
theorem replaceAll_any (ss : List Int) (w : World) (hb : ∀ x ∈ ss, 0 ≤ x ∧ x < 256) (hm : ss.length ≤ 70368744177000) : Calls Tryz.prog 83 #[.string (strOfNums ss), .string ⟨#[39]⟩, .string ⟨#[39, 39]⟩] w fun e w' => e = .returned (.string (strOfNums (dbl ss))) ∧ Below w.heap.size w w' := by
  go_enter Tryz.func83, Tryz.ntmps83
  go_wp2_with (go_at_call 106; refine (replace_any ss _ hb hm).mono ?_; rintro e w' ⟨rfl, hB⟩)
  go_ret
  exact ⟨rfl, hB⟩
theorem app_str (a b : List Int) : strOfNums a ++ strOfNums b = strOfNums (a ++ b) := by
  apply ByteArray.ext
  simp [strOfNums]
set_option maxHeartbeats 2000000 in
theorem quote_any (ss : List Int) (w : World) (hb : ∀ x ∈ ss, 0 ≤ x ∧ x < 256) (hm : ss.length ≤ 70368744177000) : Calls Tryz.prog 51 #[.string (strOfNums ss)] w fun e w' => e = .returned (.string (strOfNums (quoteL ss))) ∧ Below w.heap.size w w' := by
  have e1 := app_str [39] (dbl ss)
  have e2 := app_str ([39] ++ dbl ss) [39]
  rw [← lit39] at e1 e2
  have e3 : ([39] ++ dbl ss) ++ [39] = quoteL ss := rfl
  rw [e3] at e2
  have hl := dbl_len ss
  have hcl : ss.count 39 ≤ ss.length := List.count_le_length
  have hs1 : ¬ 9223372036854775807 < 1 + (strOfNums (dbl ss)).size := by rw [strOfNums_size]; omega
  have hs2 : ¬ 9223372036854775807 < 1 + (strOfNums (dbl ss)).size + 1 := by rw [strOfNums_size]; omega
  have e4 : (⟨#[39]⟩ : ByteArray) ++ strOfNums (dbl ss) ++ ⟨#[39]⟩ = strOfNums (quoteL ss) := by rw [e1, e2]
  clear e1 e2 e3 hl hcl
  go_enter Tryz.func51, Tryz.ntmps51
  go_wp2_with (go_at_call 83; refine (replaceAll_any ss _ hb hm).mono ?_; rintro e w' ⟨rfl, hB⟩)
  go_ret
  exact ⟨rfl, hB⟩
end Go.Proofs.YtncfmhlikmibaaaGreatDoor
