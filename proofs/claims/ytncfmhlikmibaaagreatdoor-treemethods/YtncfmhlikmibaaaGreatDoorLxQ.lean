/- Texts in quotes. -/
import Derived.Shelf.Strings.Builder2
import Derived.Shelf.Small.Strs
import Derived.Shelf.Strings.BuilderF
import Derived.Shelf.Strings.BuilderK
import Derived.Shelf.Strings.Search2
import Derived.Shelf.Strings.Search3
import Derived.Shelf.Strings.Count
import Derived.Test.YtncfmhlikmibaaaGreatDoorProg
import Derived.Test.YtncfmhlikmibaaaGreatDoorIsB
import Derived.Test.YtncfmhlikmibaaaGreatDoorLxC
namespace Go.Proofs
open Go.Shelf
def Tryz.lays170_ren : Go.Shelf.Ren := ⟨fun | 170 => 94 | n => n, fun | 70 => 65 | 3 => 3 | 0 => 0 | 72 => 68 | 37 => 66 | 5 => 5 | n => n, fun | n => n⟩
theorem Tryz.lays170 : Go.Proofs.Lays.n170 Tryz.prog Tryz.lays170_ren := {
 mixed := by kernel_rfl
 f170 := Tryz.func94.trans (congrArg some (by kernel_rfl))
 t0 := Tryz.underlying0
 a0 := Tryz.isAgg0
 z0 := Tryz.sizeOf0
 v0 := Tryz.zeroValue0
 t3 := Tryz.underlying3
 a3 := Tryz.isAgg3
 z3 := Tryz.sizeOf3
 v3 := Tryz.zeroValue3
 t37 := Tryz.underlying66
 a37 := Tryz.isAgg66
 z37 := Tryz.sizeOf66
 v37 := Tryz.zeroValue66
 t70 := Tryz.underlying65
 a70 := Tryz.isAgg65
 z70 := Tryz.sizeOf65
 v70 := Tryz.zeroValue65
 t72 := Tryz.underlying68
 a72 := Tryz.isAgg68
 z72 := Tryz.sizeOf68
 v72 := Tryz.zeroValue68 }
def Tryz.lays169_ren : Go.Shelf.Ren := ⟨fun | 169 => 34 | n => n, fun | 70 => 65 | 9 => 9 | 0 => 0 | 72 => 68 | 37 => 66 | 127 => 90 | 3 => 3 | 5 => 5 | n => n, fun | n => n⟩
theorem Tryz.lays169 : Go.Proofs.Lays.n169 Tryz.prog Tryz.lays169_ren := {
 mixed := by kernel_rfl
 f169 := Tryz.func34.trans (congrArg some (by kernel_rfl))
 t0 := Tryz.underlying0
 a0 := Tryz.isAgg0
 z0 := Tryz.sizeOf0
 v0 := Tryz.zeroValue0
 t3 := Tryz.underlying3
 a3 := Tryz.isAgg3
 z3 := Tryz.sizeOf3
 v3 := Tryz.zeroValue3
 t9 := Tryz.underlying9
 a9 := Tryz.isAgg9
 z9 := Tryz.sizeOf9
 v9 := Tryz.zeroValue9
 t37 := Tryz.underlying66
 a37 := Tryz.isAgg66
 z37 := Tryz.sizeOf66
 v37 := Tryz.zeroValue66
 t70 := Tryz.underlying65
 a70 := Tryz.isAgg65
 z70 := Tryz.sizeOf65
 v70 := Tryz.zeroValue65
 t72 := Tryz.underlying68
 a72 := Tryz.isAgg68
 z72 := Tryz.sizeOf68
 v72 := Tryz.zeroValue68
 t127 := Tryz.underlying90
 a127 := Tryz.isAgg90
 z127 := Tryz.sizeOf90
 v127 := Tryz.zeroValue90 }
theorem Tryz.Builder_Extra_169 : Builder.Extra Tryz.prog Tryz.lays169_ren := {
 sizeBuilder := by kernel_rfl
 liesBuilder := by kernel_rfl
 t5 := Tryz.underlying5
 a5 := Tryz.isAgg5
 z5 := Tryz.sizeOf5
 v5 := Tryz.zeroValue5
 infoByte := by kernel_rfl
 cellsByte := by kernel_rfl
 sizeByte := by kernel_rfl
 neB5 := by decide }
def Tryz.lays137_ren : Go.Shelf.Ren := ⟨fun | 137 => 62 | 217 => 91 | 266 => 110 | n => n, fun | 9 => 9 | 5 => 5 | 3 => 3 | n => n, fun | n => n⟩
theorem Tryz.lays137 : Go.Proofs.Lays.n137 Tryz.prog Tryz.lays137_ren := {
 mixed := by kernel_rfl
 f137 := Tryz.func62.trans (congrArg some (by kernel_rfl))
 f217 := Tryz.func91.trans (congrArg some (by kernel_rfl))
 f266 := Tryz.func110.trans (congrArg some (by kernel_rfl))
 t3 := Tryz.underlying3
 a3 := Tryz.isAgg3
 z3 := Tryz.sizeOf3
 v3 := Tryz.zeroValue3
 t5 := Tryz.underlying5
 a5 := Tryz.isAgg5
 z5 := Tryz.sizeOf5
 v5 := Tryz.zeroValue5
 t9 := Tryz.underlying9
 a9 := Tryz.isAgg9
 z9 := Tryz.sizeOf9
 v9 := Tryz.zeroValue9 }
open Go.RowKit in
theorem Tryz.strings_IndexByte (s : ByteArray) (c : Int) (w : World) :
  Calls Tryz.prog 62 #[.string s, .int .u8 c] w fun e w' => e = .returned (.int .i64 (Lib.indexByte s.data.toList c.toNat.toUInt8)) ∧ w' = w := Any.strings_IndexByte Tryz.lays137 s c w
open Go.RowKit in
theorem Tryz.Builder_Len_f (B b : Nat) (bs : List Value) (w : World) (h : Lib.IsBuilderF 68 5 B b bs w) :
  Calls Tryz.prog 94 #[.pointer (some ⟨b, 0, none⟩)] w fun e w' => e = .returned (.int .i64 bs.length) ∧ w' = w := Any.Builder_Len_f Tryz.lays170 B b bs w h
open Go.RowKit in
theorem Tryz.Builder_String_any_k (B b : Nat) (l : List UInt8) (w : World) (h : Lib.IsBuilderF 68 5 B b (Lib.byteCells l) w) (hBw : B ≤ w.heap.size) :
  Calls Tryz.prog 34 #[.pointer (some ⟨b, 0, none⟩)] w fun e w' => e = .returned (.string ⟨l.toArray⟩) ∧ (Lib.IsBuilderF 68 5 B b (Lib.byteCells l) w' ∧ Below B w w' ∧ Lib.OthersKept 5 (some b) w w') := Any.Builder_String_any_k Tryz.lays169 Tryz.Builder_Extra_169 B b l w h hBw
end Go.Proofs
namespace Go.Proofs.YtncfmhlikmibaaaGreatDoor
open Go.RowKit
set_option maxRecDepth 100000
set_option maxHeartbeats 16000000
theorem Zgl : (Tryz.prog.info? 68).map (·.size) = some 2 := by kernel_rfl
theorem bld_lies : liesAt Tryz.prog Tryz.prog.depth 68 (2 / Tryz.prog.cellsOf 68) 0 68 1 = true := by kernel_rfl
theorem Zhj (b : Nat) (w : World) (h0 : w.cell? ⟨b, 0, none⟩ = some (.pointer none)) (hsh : w.shape? b = some (68, 2)) (hfz : w.frozen? ⟨b, 0, none⟩ = false) :
  Calls Tryz.prog 105 #[.pointer (some ⟨b, 0, none⟩)] w fun e w' => e = .returned (.tuple #[]) ∧ w' = w.setCell ⟨b, 0, none⟩ (.pointer (some ⟨b, 0, none⟩)) := by
 obtain ⟨j, hj, hjs⟩ := Option.map_eq_some_iff.1 Zgl
 go_enter Tryz.func105, Tryz.ntmps105
 go_wp2
 rw [Lib.run_to_unsafe w ⟨b, 0, none⟩ Tryz.underlying65 Tryz.underlying139 hj (by rw [hjs]; decide) hsh (Nat.zero_lt_succ 1)]
 simp only [Result.andThen]
 rw [Oper.upon_value]
 go_wp2
 rw [run_callFunc_extern Tryz.func124 (by kernel_rfl) (by kernel_rfl) (by kernel_rfl) (e := Extern.AbiNoEscape.same) (by kernel_rfl)]
 rw [Lib.run_noEscape]
 simp only [Result.andThen]
 rw [Oper.upon_value]
 go_wp2
 rw [Lib.run_from_unsafe w ⟨b, 0, none⟩ Tryz.underlying139 Tryz.underlying65 hj hsh bld_lies]
 simp only [Result.andThen]
 rw [Oper.upon_value]
 go_wp2
 go_end0
 exact ⟨rfl, rfl⟩
theorem Zik (b : Nat) (w : World) (h0 : w.cell? ⟨b, 0, none⟩ = some (.pointer (some ⟨b, 0, none⟩))) :
  Calls Tryz.prog 105 #[.pointer (some ⟨b, 0, none⟩)] w fun e w' => e = .returned (.tuple #[]) ∧ w' = w := by
 obtain ⟨j, hj, _⟩ := Option.map_eq_some_iff.1 Zgl
 go_enter Tryz.func105, Tryz.ntmps105
 go_wp2
 rw [Lib.run_neq_ptr_same w _ Tryz.underlying65 hj]
 go_wp2
 go_end0
 exact ⟨rfl, rfl⟩
theorem Zmr (B b : Nat) (bs : List Value) (w : World) (h : Lib.IsBuilderF 68 5 B b bs w) :
  Calls Tryz.prog 105 #[.pointer (some ⟨b, 0, none⟩)] w fun e w' => e = .returned (.tuple #[]) ∧ (Lib.BuilderAtF 68 5 B b (.pointer (some ⟨b, 0, none⟩)) bs w' ∧ Below B w w' ∧ Lib.OthersKept 5 (some b) w w') := by
 rcases h with h | h
 ·refine (Zhj b w h.cell0 h.shape h.frozen0).mono ?_
  rintro e w' ⟨rfl, rfl⟩
  exact ⟨rfl, h.used _, (Below.refl B w).setCell (p := ⟨b, 0, none⟩) h.1 _, (Lib.OthersKept.refl _ _ w).setCell ⟨b, 0, none⟩ rfl _⟩
 refine (Zik b w h.cell0).mono ?_
 rintro e w' ⟨rfl, rfl⟩
 exact ⟨rfl, h, Below.refl B _, Lib.OthersKept.refl _ _ _⟩
theorem Zgo (B b : Nat) (bs : List Value) (c : Int) (w : World) (h : Lib.IsBuilderF 68 5 B b bs w) (Lh : bs.length + 1 ≤ 140737488355328) (hBw : B ≤ w.heap.size) :
  Calls Tryz.prog 95 #[.pointer (some ⟨b, 0, none⟩), .int .u8 c] w fun e w' => e = .returned .nilIface ∧ (Lib.BuilderAtF 68 5 B b (.pointer (some ⟨b, 0, none⟩)) (bs ++ [.int .u8 c]) w' ∧ Below B w w' ∧ Lib.OthersKept 5 (some b) w w') := by
 obtain ⟨i0, hi, hz0, hz1, hz2⟩ := info_parts Tryz.info5
 go_enter Tryz.func95, Tryz.ntmps95
 go_wp2_with (go_at_call 105; refine (Zmr B b bs _ h).mono ?_)
 rintro e w1 ⟨rfl, h1, hb1, hk1⟩
 obtain ⟨hB, v, hbk, hown, hne⟩ := h1
 have c0 : w1.cell? ⟨b, 0, none⟩ = some (.pointer (some ⟨b, 0, none⟩)) := by rw [Lib.cell_of_heap hbk]; rfl
 have c1 : w1.cell? ⟨b, 1, none⟩ = some v := by rw [Lib.cell_of_heap hbk]; rfl
 go_wp2_with (at_builtin; refine wpList_append_ownF _ rfl _ _ 66 rfl B 5 i0 (.int .u8 0) 1 1 Tryz.underlying66 hi hz0 hz1 hz2 rfl (by decide) _ _ _ rfl (hown.alloc _) ⟨w1.heap.size, 0, none⟩ 1 1 [.int .u8 c] rfl rfl ?c1 ?c2 ?c3 ?c4 ?c5 ?_)
 case c1 =>
  intro j u hj
  match j, hj with
  | 0, hj => simp at hj; subst hj; simp [Addr.add]
 case c2 => intro u hu; simp at hu; subst hu; rfl
 case c3 => unfold maxLen; omega
 case c4 => omega
 case c5 => have := hb1.size; simp; omega
 intro v' w2 hown' hgrow _
 have hlt : b < w1.heap.size := lt_of_block hbk
 have hb2 : w2.heap[b]? = some (.cells #[.pointer (some ⟨b, 0, none⟩), v] 68 (0, 0)) := by
  rw [hgrow.block b (by simp; omega) (fun e => hne e.symm), Lib.alloc_old w1 _ b hlt]
  exact hbk
 have d0 : w2.cell? ⟨b, 0, none⟩ = some (.pointer (some ⟨b, 0, none⟩)) := by rw [Lib.cell_of_heap hb2]; rfl
 have d1 : w2.cell? ⟨b, 1, none⟩ = some v := by rw [Lib.cell_of_heap hb2]; rfl
 have f1 : w2.frozen? ⟨b, 1, none⟩ = false := Lib.frozen_of_heap hb2 1
 obtain ⟨g, cap, rfl⟩ : ∃ g cap, v' = .slice (some ⟨g, 0, none⟩) (bs.length + 1) cap := by
  rcases hown'.2 with ⟨_, h0⟩ | ⟨g, cap, cur, fz, hv, _⟩
  ·omega
  exact ⟨g, cap, hv⟩
 go_wp2
 go_ret
 refine ⟨rfl, ?_, ?_, ((hk1.alloc _).grown hgrow (Lib.ownsRowF_kind (hown.alloc _))).setCell ⟨b, 1, none⟩ rfl _⟩
 ·exact Lib.BuilderAtF.put (T := 68) (e := 5) hB hb2 (bs' := bs ++ [.int .u8 c]) (by simpa using hown') (by decide)
 exact ((hb1.alloc (by have := hb1.size; omega) _).grown hgrow (by have := hb1.size; simp; omega) (fun k hk => (hown.lt k hk).1)).setCell (p := ⟨b, 1, none⟩) hB _
theorem Zgi (c : Int) (r : List Int) : qtR (c :: r) = if c = 39 then (match r with | [] => some ([], 1) | d :: q => if d = 39 then (qtR q).map fun x => (39 :: x.1, x.2 + 2) else some ([], 1)) else (qtR r).map fun x => (c :: x.1, x.2 + 1) := by
 conv => lhs; unfold qtR
 rfl
theorem qt_end (ss : List Int) (i : Nat) (h : ss.length ≤ i) : qtR (ss.drop i) = none := by rw [List.drop_of_length_le h]; rfl
theorem Zm0 (ss : List Int) (i : Nat) (h : i < ss.length) (hc : ss.getD i 0 ≠ 39) : qtR (ss.drop i) = (qtR (ss.drop (i + 1))).map fun x => (ss.getD i 0 :: x.1, x.2 + 1) := by
 rw [Zbn h] at hc ⊢
 rw [List.drop_eq_getElem_cons h, Zgi, if_neg hc]
theorem Zpv (ss : List Int) (i : Nat) (h : i < ss.length) (hc : ss.getD i 0 = 39) (hd : i + 1 = ss.length ∨ ss.getD (i + 1) 0 ≠ 39) : qtR (ss.drop i) = some ([], 1) := by
 rw [Zbn h] at hc
 rw [List.drop_eq_getElem_cons h, Zgi, if_pos hc]
 rcases hd with hd | hd
 ·rw [List.drop_of_length_le (by omega)]
 by_cases h1 : i + 1 < ss.length
 ·rw [Zbn h1] at hd
  rw [List.drop_eq_getElem_cons h1]
  simp only [if_neg hd]
 rw [List.drop_of_length_le (by omega)]
theorem qt_two (ss : List Int) (i : Nat) (h : i + 1 < ss.length) (hc : ss.getD i 0 = 39) (hd : ss.getD (i + 1) 0 = 39) : qtR (ss.drop i) = (qtR (ss.drop (i + 2))).map fun x => (39 :: x.1, x.2 + 2) := by
 have h0 : i < ss.length := by omega
 rw [Zbn h0] at hc
 rw [Zbn h] at hd
 rw [List.drop_eq_getElem_cons h0, Zgi, if_pos hc, List.drop_eq_getElem_cons h]
 simp only [if_pos hd]
def QP (k : Nat) (o : Option (List Int × Nat)) : Ending := match o with
 | none => .returned (.tuple #[.string (strOfNums []), .int .i64 k, .bool false])
 | some (t, n) => .returned (.tuple #[.string (strOfNums t), .int .i64 (k + 1 + n : Nat), .bool (decide (t.length ≤ 1024))])
def Zfa (acc : List Int) (d : Nat) (o : Option (List Int × Nat)) : Option (List Int × Nat) := o.map fun x => (acc ++ x.1, d + x.2)
theorem Zeo (acc : List Int) (h : ∀ x ∈ acc, 0 ≤ x ∧ x < 256) : Lib.byteCells (acc.map fun n => UInt8.ofNat n.toNat) = acc.map (Value.int .u8) := by
 unfold Lib.byteCells
 rw [List.map_map]
 apply List.map_congr_left
 intro x hx
 have := h x hx
 simp only [Function.comp_apply, UInt8.toNat_ofNat']
 rw [Nat.mod_eq_of_lt (by omega)]
 congr 1
 omega
theorem Zk4 (b : Nat) (acc : List Int) (w : World) (hb : ∀ x ∈ acc, 0 ≤ x ∧ x < 256) (h : Lib.IsBuilderF 68 5 b b (acc.map (Value.int .u8)) w) (hBw : b ≤ w.heap.size) : Calls Tryz.prog 34 #[.pointer (some ⟨b, 0, none⟩)] w fun e w' => e = .returned (.string (strOfNums acc)) ∧ Lib.IsBuilderF 68 5 b b (acc.map (Value.int .u8)) w' ∧ Below b w w' := by
 rw [← Zeo acc hb] at h ⊢
 refine (Tryz.Builder_String_any_k b b _ w h hBw).mono ?_
 rintro e w' ⟨rfl, h1, h2, _⟩
 exact ⟨rfl, h1, h2⟩
theorem Ziw (ss : List Int) (k : Nat) (w : World) (hb : ∀ x ∈ ss, 0 ≤ x ∧ x < 256) (hk : k < ss.length) (hl : ss.length ≤ 100000) : Calls Tryz.prog 67 #[.string (strOfNums ss), .int .i64 k] w fun e w' => e = QP k (qtR (ss.drop (k + 1))) ∧ Below w.heap.size w w' := by
 have hsz : (strOfNums ss).size = ss.length := strOfNums_size ss
 have hw0 : IntKind.i64.wrap ((k : Int) + 1) = (k : Int) + 1 := by rw [IntKind.wrap_i64]; omega
 obtain ⟨O, hO⟩ : ∃ O, Hid (qtR (ss.drop (k + 1)) = O) := ⟨_, rfl⟩
 rw [hO.out]
 go_enter Tryz.func67, Tryz.ntmps67
 go_wp2
 go_loopw [8] (fun v wr => ∃ (i : Nat) (acc : List Int), v = .int .i64 i ∧ k + 1 ≤ i ∧ i ≤ ss.length ∧ acc.length ≤ i ∧ (∀ x ∈ acc, 0 ≤ x ∧ x < 256) ∧ Lib.IsBuilderF 68 5 w.heap.size w.heap.size (acc.map (Value.int .u8)) wr ∧ Below w.heap.size w wr ∧ Hid (O = Zfa acc (i - (k + 1)) (qtR (ss.drop i)))) (fun v _ => ss.length - (intOf v).toNat)
 case atStart =>
  refine ⟨k + 1, [], by go_num, zo, hk, Nat.zero_le _, fun x hx => absurd hx List.not_mem_nil, Lib.IsBuilderF.of (Lib.fresh_isBuilder 68 5 w), Zcz, ?_⟩
  show _ = _
  rw [hO.out, Nat.sub_self]
  unfold Zfa
  cases O with
  | none => rfl
  | some x => simp
 obtain ⟨i, acc, rfl, hi1, hi2, hal, hab, hI, hB, hv⟩ := hrel
 clear hO
 have hsw := hB.size
 have hw1 : IntKind.i64.wrap ((i : Int) + 1) = (i : Int) + 1 := by rw [IntKind.wrap_i64]; omega
 have hw2 : IntKind.i64.wrap ((i : Int) + 1 + 1) = (i : Int) + 1 + 1 := by rw [IntKind.wrap_i64]; omega
 by_cases hlt : i < ss.length
 ·have hltI : (i : Int) < (ss.length : Int) := by omega
  have hat := Zbd ss hb i hlt
  have hcb := hb (ss.getD i 0) (by rw [Zbn hlt]; exact List.getElem_mem hlt)
  by_cases h39 : ss.getD i 0 = 39
  ·rw [h39] at hat
   by_cases hst : i + 1 = ss.length ∨ ss.getD (i + 1) 0 ≠ 39
   ·have hv' : Hid (O = some (acc, i - k)) := by
     show _ = _
     rw [hv.out, Zpv ss i hlt h39 hst]
     unfold Zfa
     simp
     omega
    clear hv
    have fin : ∀ n : Nat, n = i + 1 → QP k O = .returned (.tuple #[.string (strOfNums acc), .int .i64 (n : Int), .bool (decide (acc.length ≤ 1024))]) := by
     rintro n rfl
     rw [hv'.out]
     unfold QP
     simp only
     rw [show k + 1 + (i - k) = i + 1 by omega]
    have Lh : ((acc.map (Value.int .u8)).length : Int) = (acc.length : Int) := by simp
    by_cases h1 : i + 1 < ss.length
    ·have hd : ss.getD (i + 1) 0 ≠ 39 := by
      rcases hst with h | h
      ·omega
      exact h
     have hat1 := Zbd ss hb (i + 1) h1
     have hJ : ((i : Int) + 1 == (ss.length : Int)) = false := by simp; omega
     have hK : (i : Int) + 1 < (ss.length : Int) := by omega
     have hto : ((i : Int) + 1).toNat = i + 1 := by omega
     generalize ss.getD (i + 1) 0 = d at *
     have hd' : (d != 39) = true := by simp [hd]
     go_wp2_with fail
     refine (Zk4 w.heap.size acc _ hab hI hsw).mono ?_
     rintro e w2 ⟨rfl, hI2, hB2⟩
     go_wp2_with fail
     refine (Tryz.Builder_Len_f w.heap.size w.heap.size _ _ hI2).mono ?_
     rintro e w3 ⟨rfl, rfl⟩
     rw [Lh]
     by_cases h1024 : acc.length ≤ 1024
     ·have hq : (acc.length : Int) ≤ 1024 := by omega
      have hqq : decide (acc.length ≤ 1024) = true := by simp [h1024]
      go_wp2
      exact bodyPost_ret (v := .tuple #[.string (strOfNums acc), .int .i64 ((i : Int) + 1), .bool true]) (by simp [results, go_sem]) rfl ⟨by rw [fin (i + 1) rfl, hqq]; rfl, hB.trans hB2⟩
     have hq : ¬ (acc.length : Int) ≤ 1024 := by omega
     have hqq : decide (acc.length ≤ 1024) = false := by simp [h1024]
     go_wp2
     exact bodyPost_ret (v := .tuple #[.string (strOfNums acc), .int .i64 ((i : Int) + 1), .bool false]) (by simp [results, go_sem]; omega) rfl ⟨by rw [fin (i + 1) rfl, hqq]; rfl, hB.trans hB2⟩
    have hJ : ((i : Int) + 1 == (ss.length : Int)) = true := by simp; omega
    go_wp2_with fail
    refine (Zk4 w.heap.size acc _ hab hI hsw).mono ?_
    rintro e w2 ⟨rfl, hI2, hB2⟩
    go_wp2_with fail
    refine (Tryz.Builder_Len_f w.heap.size w.heap.size _ _ hI2).mono ?_
    rintro e w3 ⟨rfl, rfl⟩
    rw [Lh]
    by_cases h1024 : acc.length ≤ 1024
    ·have hq : (acc.length : Int) ≤ 1024 := by omega
     have hqq : decide (acc.length ≤ 1024) = true := by simp [h1024]
     go_wp2
     exact bodyPost_ret (v := .tuple #[.string (strOfNums acc), .int .i64 ((i : Int) + 1), .bool true]) (by simp [results, go_sem]) rfl ⟨by rw [fin (i + 1) rfl, hqq]; rfl, hB.trans hB2⟩
    have hq : ¬ (acc.length : Int) ≤ 1024 := by omega
    have hqq : decide (acc.length ≤ 1024) = false := by simp [h1024]
    go_wp2
    exact bodyPost_ret (v := .tuple #[.string (strOfNums acc), .int .i64 ((i : Int) + 1), .bool false]) (by simp [results, go_sem]; omega) rfl ⟨by rw [fin (i + 1) rfl, hqq]; rfl, hB.trans hB2⟩
   have h1 : i + 1 < ss.length := by
    by_cases h : i + 1 = ss.length
    ·exact absurd (.inl h) hst
    omega
   have hd : ss.getD (i + 1) 0 = 39 := by
    by_cases h : ss.getD (i + 1) 0 = 39
    ·exact h
    exact absurd (.inr h) hst
   have hv' : Hid (O = Zfa (acc ++ [39]) (i + 2 - (k + 1)) (qtR (ss.drop (i + 2)))) := by
    show _ = _
    rw [hv.out, qt_two ss i h1 h39 hd]
    unfold Zfa
    cases qtR (ss.drop (i + 2)) with
    | none => rfl
    | some x => simp; omega
   clear hv
   have hat1 := Zbd ss hb (i + 1) h1
   rw [hd] at hat1
   have hJ : ((i : Int) + 1 == (ss.length : Int)) = false := by simp; omega
   have hK : (i : Int) + 1 < (ss.length : Int) := by omega
   have hto : ((i : Int) + 1).toNat = i + 1 := by omega
   go_wp2_with fail
   refine (Zgo w.heap.size w.heap.size _ 39 _ hI (by simp; omega) hsw).mono ?_
   rintro e w2 ⟨rfl, hI2, hB2, _⟩
   go_wp2
   go_roundw
   case rel => exact ⟨i + 2, acc ++ [39], by go_num, by omega, by omega, by simp; omega, fun x hx => (List.mem_append.1 hx).elim (hab x) (fun h => by rw [List.mem_singleton.1 h]; omega), by rw [List.map_append]; exact Or.inr hI2, hB.trans hB2, hv'⟩
   case measure => simp [intOf]; omega
  have hv' : Hid (O = Zfa (acc ++ [ss.getD i 0]) (i + 1 - (k + 1)) (qtR (ss.drop (i + 1)))) := by
   show _ = _
   rw [hv.out, Zm0 ss i hlt h39]
   unfold Zfa
   cases qtR (ss.drop (i + 1)) with
   | none => rfl
   | some x => simp; omega
  clear hv
  generalize ss.getD i 0 = c at *
  have h39' : (c == 39) = false := by simp [h39]
  go_wp2_with fail
  refine (Zgo w.heap.size w.heap.size _ c _ hI (by simp; omega) hsw).mono ?_
  rintro e w2 ⟨rfl, hI2, hB2, _⟩
  go_wp2
  go_roundw
  case rel => exact ⟨i + 1, acc ++ [c], by go_num, by omega, by omega, by simp; omega, fun x hx => (List.mem_append.1 hx).elim (hab x) (fun h => by rw [List.mem_singleton.1 h]; omega), by rw [List.map_append]; exact Or.inr hI2, hB.trans hB2, hv'⟩
  case measure => simp [intOf]; omega
 have hltI : ¬ (i : Int) < (ss.length : Int) := by omega
 have hv' : Hid (O = none) := by
  show _ = _
  rw [hv.out, qt_end ss i (by omega)]
  rfl
 clear hv
 go_wp2
 exact bodyPost_ret (v := .tuple #[.string (strOfNums []), .int .i64 k, .bool false]) (by simp [results, go_sem]; rfl) rfl ⟨by rw [hv'.out]; rfl, hB⟩
end Go.Proofs.YtncfmhlikmibaaaGreatDoor
