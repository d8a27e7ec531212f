/- The library functions that lex calls, as this program bears them: the laying, by program, of contracts that the library proves once. -/
import Derived.Shelf.Strings.Builder2
import Derived.Shelf.Small.Strs
import Derived.Shelf.Strings.BuilderF
import Derived.Shelf.Strings.BuilderK
import Derived.Shelf.Strings.Search2
import Derived.Shelf.Strings.Search3
import Derived.Shelf.Strings.Count
import Derived.Test.YtoghhjljmhdioaaProg
import Derived.Test.YtoghhjljmhdioaaIsB
import Derived.Test.YtoghhjljmhdioaaLxC
namespace Go.Proofs
open Go.Shelf
def Try.lays170_ren : Go.Shelf.Ren := ⟨fun | 170 => 53 | n => n, fun | 70 => 90 | 3 => 3 | 0 => 0 | 72 => 92 | 37 => 85 | 5 => 5 | n => n, fun | n => n⟩
theorem Try.lays170 : Go.Proofs.Lays.n170 Try.prog Try.lays170_ren := {
  mixed := by kernel_rfl
  f170 := Try.func53.trans (congrArg some (by kernel_rfl))
  t0 := Try.underlying0
  a0 := Try.isAgg0
  z0 := Try.sizeOf0
  v0 := Try.zeroValue0
  t3 := Try.underlying3
  a3 := Try.isAgg3
  z3 := Try.sizeOf3
  v3 := Try.zeroValue3
  t37 := Try.underlying85
  a37 := Try.isAgg85
  z37 := Try.sizeOf85
  v37 := Try.zeroValue85
  t70 := Try.underlying90
  a70 := Try.isAgg90
  z70 := Try.sizeOf90
  v70 := Try.zeroValue90
  t72 := Try.underlying92
  a72 := Try.isAgg92
  z72 := Try.sizeOf92
  v72 := Try.zeroValue92 }
def Try.lays169_ren : Go.Shelf.Ren := ⟨fun | 169 => 52 | n => n, fun | 70 => 90 | 9 => 9 | 0 => 0 | 72 => 92 | 37 => 85 | 127 => 108 | 3 => 3 | 5 => 5 | n => n, fun | n => n⟩
theorem Try.lays169 : Go.Proofs.Lays.n169 Try.prog Try.lays169_ren := {
  mixed := by kernel_rfl
  f169 := Try.func52.trans (congrArg some (by kernel_rfl))
  t0 := Try.underlying0
  a0 := Try.isAgg0
  z0 := Try.sizeOf0
  v0 := Try.zeroValue0
  t3 := Try.underlying3
  a3 := Try.isAgg3
  z3 := Try.sizeOf3
  v3 := Try.zeroValue3
  t9 := Try.underlying9
  a9 := Try.isAgg9
  z9 := Try.sizeOf9
  v9 := Try.zeroValue9
  t37 := Try.underlying85
  a37 := Try.isAgg85
  z37 := Try.sizeOf85
  v37 := Try.zeroValue85
  t70 := Try.underlying90
  a70 := Try.isAgg90
  z70 := Try.sizeOf90
  v70 := Try.zeroValue90
  t72 := Try.underlying92
  a72 := Try.isAgg92
  z72 := Try.sizeOf92
  v72 := Try.zeroValue92
  t127 := Try.underlying108
  a127 := Try.isAgg108
  z127 := Try.sizeOf108
  v127 := Try.zeroValue108 }
theorem Try.Builder_Extra_169 : Builder.Extra Try.prog Try.lays169_ren := {
  sizeBuilder := by kernel_rfl
  liesBuilder := by kernel_rfl
  t5 := Try.underlying5
  a5 := Try.isAgg5
  z5 := Try.sizeOf5
  v5 := Try.zeroValue5
  infoByte := by kernel_rfl
  cellsByte := by kernel_rfl
  sizeByte := by kernel_rfl
  neB5 := by decide }
def Try.lays137_ren : Go.Shelf.Ren := ⟨fun | 137 => 34 | 217 => 48 | 266 => 59 | n => n, fun | 9 => 9 | 5 => 5 | 3 => 3 | n => n, fun | n => n⟩
theorem Try.lays137 : Go.Proofs.Lays.n137 Try.prog Try.lays137_ren := {
  mixed := by kernel_rfl
  f137 := Try.func34.trans (congrArg some (by kernel_rfl))
  f217 := Try.func48.trans (congrArg some (by kernel_rfl))
  f266 := Try.func59.trans (congrArg some (by kernel_rfl))
  t3 := Try.underlying3
  a3 := Try.isAgg3
  z3 := Try.sizeOf3
  v3 := Try.zeroValue3
  t5 := Try.underlying5
  a5 := Try.isAgg5
  z5 := Try.sizeOf5
  v5 := Try.zeroValue5
  t9 := Try.underlying9
  a9 := Try.isAgg9
  z9 := Try.sizeOf9
  v9 := Try.zeroValue9 }
open Go.RowKit in
theorem Try.strings_IndexByte (s : ByteArray) (c : Int) (w : World) :
    Calls Try.prog 34 #[.string s, .int .u8 c] w fun e w' => e = .returned (.int .i64 (Lib.indexByte s.data.toList c.toNat.toUInt8)) ∧ w' = w := Any.strings_IndexByte Try.lays137 s c w
open Go.RowKit in
theorem Try.Builder_Len_f (B b : Nat) (bs : List Value) (w : World) (h : Lib.IsBuilderF 92 5 B b bs w) :
    Calls Try.prog 53 #[.pointer (some ⟨b, 0, none⟩)] w fun e w' => e = .returned (.int .i64 bs.length) ∧ w' = w := Any.Builder_Len_f Try.lays170 B b bs w h
open Go.RowKit in
theorem Try.Builder_String_any_k (B b : Nat) (l : List UInt8) (w : World) (h : Lib.IsBuilderF 92 5 B b (Lib.byteCells l) w) (hBw : B ≤ w.heap.size) :
    Calls Try.prog 52 #[.pointer (some ⟨b, 0, none⟩)] w fun e w' => e = .returned (.string ⟨l.toArray⟩) ∧ (Lib.IsBuilderF 92 5 B b (Lib.byteCells l) w' ∧ Below B w w' ∧ Lib.OthersKept 5 (some b) w w') := Any.Builder_String_any_k Try.lays169 Try.Builder_Extra_169 B b l w h hBw
end Go.Proofs
namespace Go.Proofs.Ytoghhjljmhdioaa
open Go.RowKit
set_option maxRecDepth 100000
theorem bld_size : (Try.prog.info? 92).map (·.size) = some 2 := by kernel_rfl
theorem bld_lies : liesAt Try.prog Try.prog.depth 92 (2 / Try.prog.cellsOf 92) 0 92 1 = true := by kernel_rfl
set_option maxHeartbeats 2000000 in
theorem copyCheck_fresh (b : Nat) (w : World) (h0 : w.cell? ⟨b, 0, none⟩ = some (.pointer none)) (hsh : w.shape? b = some (92, 2)) (hfz : w.frozen? ⟨b, 0, none⟩ = false) :
    Calls Try.prog 64 #[.pointer (some ⟨b, 0, none⟩)] w fun e w' => e = .returned (.tuple #[]) ∧ w' = w.setCell ⟨b, 0, none⟩ (.pointer (some ⟨b, 0, none⟩)) := by
  obtain ⟨j, hj, hjs⟩ := Option.map_eq_some_iff.1 bld_size
  go_enter Try.func64, Try.ntmps64
  go_wp2
  rw [Lib.run_to_unsafe w ⟨b, 0, none⟩ Try.underlying90 Try.underlying111 hj (by rw [hjs]; decide) hsh (Nat.zero_lt_succ 1)]
  simp only [Result.andThen]
  rw [Oper.upon_value]
  go_wp2
  rw [run_callFunc_extern Try.func72 (by kernel_rfl) (by kernel_rfl) (by kernel_rfl) (e := Extern.AbiNoEscape.same) (by kernel_rfl)]
  rw [Lib.run_noEscape]
  simp only [Result.andThen]
  rw [Oper.upon_value]
  go_wp2
  rw [Lib.run_from_unsafe w ⟨b, 0, none⟩ Try.underlying111 Try.underlying90 hj hsh bld_lies]
  simp only [Result.andThen]
  rw [Oper.upon_value]
  go_wp2
  go_end0
  exact ⟨rfl, rfl⟩
theorem copyCheck_used (b : Nat) (w : World) (h0 : w.cell? ⟨b, 0, none⟩ = some (.pointer (some ⟨b, 0, none⟩))) :
    Calls Try.prog 64 #[.pointer (some ⟨b, 0, none⟩)] w fun e w' => e = .returned (.tuple #[]) ∧ w' = w := by
  obtain ⟨j, hj, _⟩ := Option.map_eq_some_iff.1 bld_size
  go_enter Try.func64, Try.ntmps64
  go_wp2
  rw [Lib.run_neq_ptr_same w _ Try.underlying90 hj]
  go_wp2
  go_end0
  exact ⟨rfl, rfl⟩
theorem copyCheck_k (B b : Nat) (bs : List Value) (w : World) (h : Lib.IsBuilderF 92 5 B b bs w) :
    Calls Try.prog 64 #[.pointer (some ⟨b, 0, none⟩)] w fun e w' => e = .returned (.tuple #[]) ∧ (Lib.BuilderAtF 92 5 B b (.pointer (some ⟨b, 0, none⟩)) bs w' ∧ Below B w w' ∧ Lib.OthersKept 5 (some b) w w') := by
  rcases h with h | h
  · refine (copyCheck_fresh b w h.cell0 h.shape h.frozen0).mono ?_
    rintro e w' ⟨rfl, rfl⟩
    exact ⟨rfl, h.used _, (Below.refl B w).setCell (p := ⟨b, 0, none⟩) h.1 _, (Lib.OthersKept.refl _ _ w).setCell ⟨b, 0, none⟩ rfl _⟩
  · refine (copyCheck_used b w h.cell0).mono ?_
    rintro e w' ⟨rfl, rfl⟩
    exact ⟨rfl, h, Below.refl B _, Lib.OthersKept.refl _ _ _⟩
set_option maxHeartbeats 2000000 in
theorem writeByte_k (B b : Nat) (bs : List Value) (c : Int) (w : World) (h : Lib.IsBuilderF 92 5 B b bs w) (hlen : bs.length + 1 ≤ 140737488355328) (hBw : B ≤ w.heap.size) :
    Calls Try.prog 54 #[.pointer (some ⟨b, 0, none⟩), .int .u8 c] w fun e w' => e = .returned .nilIface ∧ (Lib.BuilderAtF 92 5 B b (.pointer (some ⟨b, 0, none⟩)) (bs ++ [.int .u8 c]) w' ∧ Below B w w' ∧ Lib.OthersKept 5 (some b) w w') := by
  obtain ⟨i0, hi, hz0, hz1, hz2⟩ := info_parts Try.info5
  go_enter Try.func54, Try.ntmps54
  go_wp2_with (go_at_call 64; refine (copyCheck_k B b bs _ h).mono ?_)
  rintro e w1 ⟨rfl, h1, hb1, hk1⟩
  obtain ⟨hB, v, hbk, hown, hne⟩ := h1
  have c0 : w1.cell? ⟨b, 0, none⟩ = some (.pointer (some ⟨b, 0, none⟩)) := by rw [Lib.cell_of_heap hbk]; rfl
  have c1 : w1.cell? ⟨b, 1, none⟩ = some v := by rw [Lib.cell_of_heap hbk]; rfl
  go_wp2_with (at_builtin; refine wpList_append_ownF _ rfl _ _ 85 rfl B 5 i0 (.int .u8 0) 1 1 Try.underlying85 hi hz0 hz1 hz2 rfl (by decide) _ _ _ rfl (hown.alloc _) ⟨w1.heap.size, 0, none⟩ 1 1 [.int .u8 c] rfl rfl ?c1 ?c2 ?c3 ?c4 ?c5 ?_)
  case c1 =>
    intro j u hj
    match j, hj with
    | 0, hj => simp at hj; subst hj; simp [Addr.add]
  case c2 => intro u hu; simp at hu; subst hu; rfl
  case c3 => unfold maxLen; omega
  case c4 => omega
  case c5 => have := hb1.size; simp; omega
  intro v' w2 hown' hgrow _
  have hlt : b < w1.heap.size := lt_of_block hbk
  have hb2 : w2.heap[b]? = some (.cells #[.pointer (some ⟨b, 0, none⟩), v] 92 (0, 0)) := by
    rw [hgrow.block b (by simp; omega) (fun e => hne e.symm), Lib.alloc_old w1 _ b hlt]
    exact hbk
  have d0 : w2.cell? ⟨b, 0, none⟩ = some (.pointer (some ⟨b, 0, none⟩)) := by rw [Lib.cell_of_heap hb2]; rfl
  have d1 : w2.cell? ⟨b, 1, none⟩ = some v := by rw [Lib.cell_of_heap hb2]; rfl
  have f1 : w2.frozen? ⟨b, 1, none⟩ = false := Lib.frozen_of_heap hb2 1
  obtain ⟨g, cap, rfl⟩ : ∃ g cap, v' = .slice (some ⟨g, 0, none⟩) (bs.length + 1) cap := by
    rcases hown'.2 with ⟨_, h0⟩ | ⟨g, cap, cur, fz, hv, _⟩
    · omega
    · exact ⟨g, cap, hv⟩
  go_wp2
  go_ret
  refine ⟨rfl, ?_, ?_, ((hk1.alloc _).grown hgrow (Lib.ownsRowF_kind (hown.alloc _))).setCell ⟨b, 1, none⟩ rfl _⟩
  · exact Lib.BuilderAtF.put (T := 92) (e := 5) hB hb2 (bs' := bs ++ [.int .u8 c]) (by simpa using hown') (by decide)
  · exact ((hb1.alloc (by have := hb1.size; omega) _).grown hgrow (by have := hb1.size; simp; omega) (fun k hk => (hown.lt k hk).1)).setCell (p := ⟨b, 1, none⟩) hB _
end Go.Proofs.Ytoghhjljmhdioaa
namespace Go.Proofs.Ytoghhjljmhdioaa
open Go.RowKit
set_option maxRecDepth 100000
theorem qtR_cons (c : Int) (r : List Int) : qtR (c :: r) = if c = 39 then (match r with | [] => some ([], 1) | d :: q => if d = 39 then (qtR q).map fun x => (39 :: x.1, x.2 + 2) else some ([], 1)) else (qtR r).map fun x => (c :: x.1, x.2 + 1) := by
  conv => lhs; unfold qtR
  rfl
theorem qt_end (ss : List Int) (i : Nat) (h : ss.length ≤ i) : qtR (ss.drop i) = none := by rw [List.drop_of_length_le h]; rfl
theorem qt_plain (ss : List Int) (i : Nat) (h : i < ss.length) (hc : ss.getD i 0 ≠ 39) : qtR (ss.drop i) = (qtR (ss.drop (i + 1))).map fun x => (ss.getD i 0 :: x.1, x.2 + 1) := by
  rw [getD_lt h] at hc ⊢
  rw [List.drop_eq_getElem_cons h, qtR_cons, if_neg hc]
theorem qt_stop (ss : List Int) (i : Nat) (h : i < ss.length) (hc : ss.getD i 0 = 39) (hd : i + 1 = ss.length ∨ ss.getD (i + 1) 0 ≠ 39) : qtR (ss.drop i) = some ([], 1) := by
  rw [getD_lt h] at hc
  rw [List.drop_eq_getElem_cons h, qtR_cons, if_pos hc]
  rcases hd with hd | hd
  · rw [List.drop_of_length_le (by omega)]
  · by_cases h1 : i + 1 < ss.length
    · rw [getD_lt h1] at hd
      rw [List.drop_eq_getElem_cons h1]
      simp only [if_neg hd]
    · rw [List.drop_of_length_le (by omega)]
theorem qt_two (ss : List Int) (i : Nat) (h : i + 1 < ss.length) (hc : ss.getD i 0 = 39) (hd : ss.getD (i + 1) 0 = 39) : qtR (ss.drop i) = (qtR (ss.drop (i + 2))).map fun x => (39 :: x.1, x.2 + 2) := by
  have h0 : i < ss.length := by omega
  rw [getD_lt h0] at hc
  rw [getD_lt h] at hd
  rw [List.drop_eq_getElem_cons h0, qtR_cons, if_pos hc, List.drop_eq_getElem_cons h]
  simp only [if_pos hd]
/-- What quoted answers. -/
def QP (k : Nat) (o : Option (List Int × Nat)) : Ending := match o with
  | none => .returned (.tuple #[.string (strOfNums []), .int .i64 k, .bool false])
  | some (t, n) => .returned (.tuple #[.string (strOfNums t), .int .i64 (k + 1 + n : Nat), .bool (decide (t.length ≤ 1024))])
def joinQ (acc : List Int) (d : Nat) (o : Option (List Int × Nat)) : Option (List Int × Nat) := o.map fun x => (acc ++ x.1, d + x.2)
theorem cells_bytes (acc : List Int) (h : ∀ x ∈ acc, 0 ≤ x ∧ x < 256) : Lib.byteCells (acc.map fun n => UInt8.ofNat n.toNat) = acc.map (Value.int .u8) := by
  unfold Lib.byteCells
  rw [List.map_map]
  apply List.map_congr_left
  intro x hx
  have := h x hx
  simp only [Function.comp_apply, UInt8.toNat_ofNat']
  rw [Nat.mod_eq_of_lt (by omega)]
  congr 1
  omega
theorem string_is (b : Nat) (acc : List Int) (w : World) (hb : ∀ x ∈ acc, 0 ≤ x ∧ x < 256) (h : Lib.IsBuilderF 92 5 b b (acc.map (Value.int .u8)) w) (hBw : b ≤ w.heap.size) : Calls Try.prog 52 #[.pointer (some ⟨b, 0, none⟩)] w fun e w' => e = .returned (.string (strOfNums acc)) ∧ Lib.IsBuilderF 92 5 b b (acc.map (Value.int .u8)) w' ∧ Below b w w' := by
  rw [← cells_bytes acc hb] at h ⊢
  refine (Try.Builder_String_any_k b b _ w h hBw).mono ?_
  rintro e w' ⟨rfl, h1, h2, _⟩
  exact ⟨rfl, h1, h2⟩
set_option maxHeartbeats 8000000 in
theorem quoted_any (ss : List Int) (k : Nat) (w : World) (hb : ∀ x ∈ ss, 0 ≤ x ∧ x < 256) (hk : k < ss.length) (hl : ss.length ≤ 100000) : Calls Try.prog 39 #[.string (strOfNums ss), .int .i64 k] w fun e w' => e = QP k (qtR (ss.drop (k + 1))) ∧ Below w.heap.size w w' := by
  have hsz : (strOfNums ss).size = ss.length := strOfNums_size ss
  have hw0 : IntKind.i64.wrap ((k : Int) + 1) = (k : Int) + 1 := by rw [IntKind.wrap_i64]; omega
  obtain ⟨O, hO⟩ : ∃ O, Hid (qtR (ss.drop (k + 1)) = O) := ⟨_, rfl⟩
  rw [hO.out]
  go_enter Try.func39, Try.ntmps39
  go_wp2
  go_loopw [8] (fun v wr => ∃ (i : Nat) (acc : List Int), v = .int .i64 i ∧ k + 1 ≤ i ∧ i ≤ ss.length ∧ acc.length ≤ i ∧ (∀ x ∈ acc, 0 ≤ x ∧ x < 256) ∧ Lib.IsBuilderF 92 5 w.heap.size w.heap.size (acc.map (Value.int .u8)) wr ∧ Below w.heap.size w wr ∧ Hid (O = joinQ acc (i - (k + 1)) (qtR (ss.drop i)))) (fun v _ => ss.length - (intOf v).toNat)
  case atStart =>
    refine ⟨k + 1, [], by go_num, Nat.le_refl _, hk, Nat.zero_le _, fun x hx => absurd hx List.not_mem_nil, Lib.IsBuilderF.of (Lib.fresh_isBuilder 92 5 w), boxT, ?_⟩
    show _ = _
    rw [hO.out, Nat.sub_self]
    unfold joinQ
    cases O with
    | none => rfl
    | some x => simp
  case round =>
    obtain ⟨i, acc, rfl, hi1, hi2, hal, hab, hI, hB, hv⟩ := hrel
    clear hO
    have hsw := hB.size
    have hw1 : IntKind.i64.wrap ((i : Int) + 1) = (i : Int) + 1 := by rw [IntKind.wrap_i64]; omega
    have hw2 : IntKind.i64.wrap ((i : Int) + 1 + 1) = (i : Int) + 1 + 1 := by rw [IntKind.wrap_i64]; omega
    by_cases hlt : i < ss.length
    · have hltI : (i : Int) < (ss.length : Int) := by omega
      have hat := str_at ss hb i hlt
      have hcb := hb (ss.getD i 0) (by rw [getD_lt hlt]; exact List.getElem_mem hlt)
      by_cases h39 : ss.getD i 0 = 39
      · rw [h39] at hat
        by_cases hst : i + 1 = ss.length ∨ ss.getD (i + 1) 0 ≠ 39
        · have hv' : Hid (O = some (acc, i - k)) := by
            show _ = _
            rw [hv.out, qt_stop ss i hlt h39 hst]
            unfold joinQ
            simp
            omega
          clear hv
          have fin : ∀ n : Nat, n = i + 1 → QP k O = .returned (.tuple #[.string (strOfNums acc), .int .i64 (n : Int), .bool (decide (acc.length ≤ 1024))]) := by
            rintro n rfl
            rw [hv'.out]
            unfold QP
            simp only
            rw [show k + 1 + (i - k) = i + 1 by omega]
          have hlen : ((acc.map (Value.int .u8)).length : Int) = (acc.length : Int) := by simp
          by_cases h1 : i + 1 < ss.length
          · have hd : ss.getD (i + 1) 0 ≠ 39 := by
              rcases hst with h | h
              · omega
              · exact h
            have hat1 := str_at ss hb (i + 1) h1
            have hJ : ((i : Int) + 1 == (ss.length : Int)) = false := by simp; omega
            have hK : (i : Int) + 1 < (ss.length : Int) := by omega
            have hto : ((i : Int) + 1).toNat = i + 1 := by omega
            generalize ss.getD (i + 1) 0 = d at *
            have hd' : (d != 39) = true := by simp [hd]
            go_wp2_with fail
            refine (string_is w.heap.size acc _ hab hI hsw).mono ?_
            rintro e w2 ⟨rfl, hI2, hB2⟩
            go_wp2_with fail
            refine (Try.Builder_Len_f w.heap.size w.heap.size _ _ hI2).mono ?_
            rintro e w3 ⟨rfl, rfl⟩
            rw [hlen]
            by_cases h1024 : acc.length ≤ 1024
            · have hq : (acc.length : Int) ≤ 1024 := by omega
              have hqq : decide (acc.length ≤ 1024) = true := by simp [h1024]
              go_wp2
              exact bodyPost_ret (v := .tuple #[.string (strOfNums acc), .int .i64 ((i : Int) + 1), .bool true]) (by simp [results, go_sem]) rfl ⟨by rw [fin (i + 1) rfl, hqq]; rfl, hB.trans hB2⟩
            · have hq : ¬ (acc.length : Int) ≤ 1024 := by omega
              have hqq : decide (acc.length ≤ 1024) = false := by simp [h1024]
              go_wp2
              exact bodyPost_ret (v := .tuple #[.string (strOfNums acc), .int .i64 ((i : Int) + 1), .bool false]) (by simp [results, go_sem]; omega) rfl ⟨by rw [fin (i + 1) rfl, hqq]; rfl, hB.trans hB2⟩
          · have hJ : ((i : Int) + 1 == (ss.length : Int)) = true := by simp; omega
            go_wp2_with fail
            refine (string_is w.heap.size acc _ hab hI hsw).mono ?_
            rintro e w2 ⟨rfl, hI2, hB2⟩
            go_wp2_with fail
            refine (Try.Builder_Len_f w.heap.size w.heap.size _ _ hI2).mono ?_
            rintro e w3 ⟨rfl, rfl⟩
            rw [hlen]
            by_cases h1024 : acc.length ≤ 1024
            · have hq : (acc.length : Int) ≤ 1024 := by omega
              have hqq : decide (acc.length ≤ 1024) = true := by simp [h1024]
              go_wp2
              exact bodyPost_ret (v := .tuple #[.string (strOfNums acc), .int .i64 ((i : Int) + 1), .bool true]) (by simp [results, go_sem]) rfl ⟨by rw [fin (i + 1) rfl, hqq]; rfl, hB.trans hB2⟩
            · have hq : ¬ (acc.length : Int) ≤ 1024 := by omega
              have hqq : decide (acc.length ≤ 1024) = false := by simp [h1024]
              go_wp2
              exact bodyPost_ret (v := .tuple #[.string (strOfNums acc), .int .i64 ((i : Int) + 1), .bool false]) (by simp [results, go_sem]; omega) rfl ⟨by rw [fin (i + 1) rfl, hqq]; rfl, hB.trans hB2⟩
        · have h1 : i + 1 < ss.length := by
            by_cases h : i + 1 = ss.length
            · exact absurd (.inl h) hst
            · omega
          have hd : ss.getD (i + 1) 0 = 39 := by
            by_cases h : ss.getD (i + 1) 0 = 39
            · exact h
            · exact absurd (.inr h) hst
          have hv' : Hid (O = joinQ (acc ++ [39]) (i + 2 - (k + 1)) (qtR (ss.drop (i + 2)))) := by
            show _ = _
            rw [hv.out, qt_two ss i h1 h39 hd]
            unfold joinQ
            cases qtR (ss.drop (i + 2)) with
            | none => rfl
            | some x => simp; omega
          clear hv
          have hat1 := str_at ss hb (i + 1) h1
          rw [hd] at hat1
          have hJ : ((i : Int) + 1 == (ss.length : Int)) = false := by simp; omega
          have hK : (i : Int) + 1 < (ss.length : Int) := by omega
          have hto : ((i : Int) + 1).toNat = i + 1 := by omega
          go_wp2_with fail
          refine (writeByte_k w.heap.size w.heap.size _ 39 _ hI (by simp; omega) hsw).mono ?_
          rintro e w2 ⟨rfl, hI2, hB2, _⟩
          go_wp2
          go_roundw
          case rel => exact ⟨i + 2, acc ++ [39], by go_num, by omega, by omega, by simp; omega, fun x hx => (List.mem_append.1 hx).elim (hab x) (fun h => by rw [List.mem_singleton.1 h]; omega), by rw [List.map_append]; exact Or.inr hI2, hB.trans hB2, hv'⟩
          case measure => simp [intOf]; omega
      · have hv' : Hid (O = joinQ (acc ++ [ss.getD i 0]) (i + 1 - (k + 1)) (qtR (ss.drop (i + 1)))) := by
          show _ = _
          rw [hv.out, qt_plain ss i hlt h39]
          unfold joinQ
          cases qtR (ss.drop (i + 1)) with
          | none => rfl
          | some x => simp; omega
        clear hv
        generalize ss.getD i 0 = c at *
        have h39' : (c == 39) = false := by simp [h39]
        go_wp2_with fail
        refine (writeByte_k w.heap.size w.heap.size _ c _ hI (by simp; omega) hsw).mono ?_
        rintro e w2 ⟨rfl, hI2, hB2, _⟩
        go_wp2
        go_roundw
        case rel => exact ⟨i + 1, acc ++ [c], by go_num, by omega, by omega, by simp; omega, fun x hx => (List.mem_append.1 hx).elim (hab x) (fun h => by rw [List.mem_singleton.1 h]; omega), by rw [List.map_append]; exact Or.inr hI2, hB.trans hB2, hv'⟩
        case measure => simp [intOf]; omega
    · have hltI : ¬ (i : Int) < (ss.length : Int) := by omega
      have hv' : Hid (O = none) := by
        show _ = _
        rw [hv.out, qt_end ss i (by omega)]
        rfl
      clear hv
      go_wp2
      exact bodyPost_ret (v := .tuple #[.string (strOfNums []), .int .i64 k, .bool false]) (by simp [results, go_sem]; rfl) rfl ⟨by rw [hv'.out]; rfl, hB⟩
end Go.Proofs.Ytoghhjljmhdioaa
