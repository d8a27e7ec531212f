/- The fixed calls that stand in each statement on a device. -/
import Derived.Test.YtofgphiamllmdaaCrash
import Derived.Test.YtofgphiamllmdaaWrite
import Derived.Test.YtofgphiamllmdaaReadD
import Derived.Test.YtofgphiamllmdaaReg
import Derived.Laws.BytesArg
namespace Go.Proofs.Ytofgphiamllmdaa
open Go.RowKit

theorem below_of {w w' : World} (h : w.grownBy w' none) : Below w.heap.size w w' := ⟨h.os, h.tape, h.output, h.size, fun k hk => h.block k hk (by simp)⟩
/-- Some bytes that are all the same. -/
def sv (n : Nat) (c : Int) : List Int := List.replicate n c
/-- Bytes in a block of their own. -/
def Row8 (w : World) (g : Nat) (xs : List Int) : Prop := w.heap[g]? = some (.cells (cellsB xs) 5 (0, 0))
theorem Row8.below {w w' : World} {g : Nat} {xs : List Int} (h : Row8 w g xs) (hb : Below w.heap.size w w') : Row8 w' g xs := (hb.block _ (lt_of_block h)).trans h
theorem Row8.bytes {w : World} {g : Nat} {xs : List Int} (h : Row8 w g xs) (hb : ∀ x ∈ xs, 0 ≤ x ∧ x < 256) : Bytes w g 0 xs := ⟨hb, fun i hi => by
  rw [Nat.zero_add, cell_of_row w g i _ _ _ h, cells_get, List.getElem?_eq_getElem hi]
  simp [List.getD, hi]⟩
theorem Row8.str {w : World} {g n : Nat} {xs : List Int} {S : ByteArray} (h : Row8 w g xs) (hS : Hid (strOfNums xs = S)) (hn : xs.length = n) : (convert 31 9 (.slice (some ⟨g, 0, none⟩) n n)).run Try.prog w = .ok (.string S) w := by
  rw [← hS.out]
  exact run_convert_bytes_arg w 31 5 Try.underlying31 Try.underlying5 g 0 n n xs hn (fun i hi => by
    rw [Nat.zero_add, cell_of_row w g i _ _ _ h, cells_get, List.getElem?_eq_getElem (by omega)]
    simp [List.getD, show i < xs.length by omega]) 9 Try.underlying9
theorem full_one (w : World) (c : Int) : Calls Try.prog 10 #[.int .i64 1, .int .u8 c] w fun e w' => ∃ b, e = .returned (.slice (some ⟨b, 0, none⟩) 128 128) ∧ Row8 w' b (sv 128 c) ∧ Below w.heap.size w w' := by
  refine (full_any w 1 c (by decide)).mono ?_
  rintro e w' ⟨rfl, hb, hg⟩
  exact ⟨_, rfl, hb, below_of hg⟩
theorem full_two (w : World) (c : Int) : Calls Try.prog 10 #[.int .i64 2, .int .u8 c] w fun e w' => ∃ b, e = .returned (.slice (some ⟨b, 0, none⟩) 256 256) ∧ w.heap.size ≤ b ∧ Row8 w' b (sv 256 c) ∧ Below w.heap.size w w' := by
  refine (full_any w 2 c (by decide)).mono ?_
  rintro e w' ⟨rfl, hb, hg⟩
  exact ⟨_, rfl, Nat.le_refl _, hb, below_of hg⟩
theorem str_size (xs : List Int) : (strOfNums xs).size = xs.length := by
  unfold strOfNums
  simp [ByteArray.size]
theorem str_append (xs ys : List Int) : strOfNums (xs ++ ys) = strOfNums xs ++ strOfNums ys := by
  apply ByteArray.ext
  simp [strOfNums]
/-- What the operations yield. -/
def valK (w : World) (gb b43 b45 : Nat) (S1 S2 : ByteArray) (j : Nat) : Value :=
  ([.int .i64 0,
    .bool true,
    .bool true,
    .int .i64 2,
    .bool true,
    .bool true,
    .bool true,
    .int .i64 0,
    .bool true,
    .bool true,
    .bool true,
    .slice (some ⟨gb, 0, none⟩) (2 * 128) (2 * 128),
    .string (S1 ++ S2),
    .slice (some ⟨b43, 0, none⟩) 128 128,
    .string S1,
    .slice (some ⟨b45, 0, none⟩) 128 128,
    .string S2,
    .string (S1 ++ S2),
    .bool true,
    .bool true,
    .bool true,
    .pointer (some ⟨w.heap.size + 2, 0, none⟩),
    .int .i64 4,
    .bool true,
    .bool true] : List Value).getD j undef
theorem valK_list {l : List Value} (hh : l.length = 25) : ∃ v0 v1 v2 v3 v4 v5 v6 v7 v8 v9 v10 v11 v12 v13 v14 v15 v16 v17 v18 v19 v20 v21 v22 v23 v24, l = [v0, v1, v2, v3, v4, v5, v6, v7, v8, v9, v10, v11, v12, v13, v14, v15, v16, v17, v18, v19, v20, v21, v22, v23, v24] := by
  obtain ⟨v0, t0, rfl, h0⟩ := cons_of hh
  obtain ⟨v1, t1, rfl, h1⟩ := cons_of h0
  obtain ⟨v2, t2, rfl, h2⟩ := cons_of h1
  obtain ⟨v3, t3, rfl, h3⟩ := cons_of h2
  obtain ⟨v4, t4, rfl, h4⟩ := cons_of h3
  obtain ⟨v5, t5, rfl, h5⟩ := cons_of h4
  obtain ⟨v6, t6, rfl, h6⟩ := cons_of h5
  obtain ⟨v7, t7, rfl, h7⟩ := cons_of h6
  obtain ⟨v8, t8, rfl, h8⟩ := cons_of h7
  obtain ⟨v9, t9, rfl, h9⟩ := cons_of h8
  obtain ⟨v10, t10, rfl, h10⟩ := cons_of h9
  obtain ⟨v11, t11, rfl, h11⟩ := cons_of h10
  obtain ⟨v12, t12, rfl, h12⟩ := cons_of h11
  obtain ⟨v13, t13, rfl, h13⟩ := cons_of h12
  obtain ⟨v14, t14, rfl, h14⟩ := cons_of h13
  obtain ⟨v15, t15, rfl, h15⟩ := cons_of h14
  obtain ⟨v16, t16, rfl, h16⟩ := cons_of h15
  obtain ⟨v17, t17, rfl, h17⟩ := cons_of h16
  obtain ⟨v18, t18, rfl, h18⟩ := cons_of h17
  obtain ⟨v19, t19, rfl, h19⟩ := cons_of h18
  obtain ⟨v20, t20, rfl, h20⟩ := cons_of h19
  obtain ⟨v21, t21, rfl, h21⟩ := cons_of h20
  obtain ⟨v22, t22, rfl, h22⟩ := cons_of h21
  obtain ⟨v23, t23, rfl, h23⟩ := cons_of h22
  obtain ⟨v24, t24, rfl, h24⟩ := cons_of h23
  obtain rfl := List.eq_nil_of_length_eq_zero h24
  exact ⟨_, _, _, _, _, _, _, _, _, _, _, _, _, _, _, _, _, _, _, _, _, _, _, _, _, rfl⟩

theorem ws_known : wsP 1 (sv 256 7) (List.finRange 2) = [(1, sv 128 7), (2, sv 128 7)] := by decide +kernel
theorem write_known {w : World} {n₀ p bs bn gb : Nat} (h : Dev w n₀ p bs bn (.slice none 0 0) 4 (fun _ => z128) (fun _ => z128) [] 0 false) (hR : Row8 w gb (sv 256 7)) (hg1 : gb ≠ p) (hg2 : gb ≠ bs) (hg3 : gb ≠ bn) :
    Calls Try.prog 9 #[.pointer (some ⟨p, 0, none⟩), .int .i64 1, .slice (some ⟨gb, 0, none⟩) 256 256] w fun e w' => e = .returned (.int .i64 0) ∧ ∃ pv', Dev w' n₀ p bs bn pv' 4 (fun _ => z128) (appl (fun _ => z128) [(1, sv 128 7), (2, sv 128 7)]) [(1, sv 128 7), (2, sv 128 7)] 0 false ∧ Fr p bs bn w (.slice none 0 0) w' pv' := by
  have hb : Bytes w gb 0 (sv 256 7) := hR.bytes (fun x hx => by obtain ⟨_, rfl⟩ := List.mem_replicate.1 hx; decide)
  have hl : (sv 256 7).length = 128 * 2 := List.length_replicate
  have hmx : 256 ≤ maxLen := by decide
  obtain ⟨xs, hxs⟩ : ∃ xs, sv 256 7 = xs := ⟨_, rfl⟩
  have hws := ws_known
  rw [hxs] at hb hl hws
  have hW := Write_some h (by decide) 1 (by decide) gb 0 256 2 (by decide) hmx (by decide) (by decide) xs hl hb (lt_of_block hR) hg1 hg2 hg3 (by simp [Value.ownBlock]) (by decide) (by decide) (by decide)
  refine Calls.mono hW ?_
  rintro e w' (⟨rfl, _, _, pv', D3, F3⟩ | ⟨_, j, _, h, _⟩)
  · refine ⟨rfl, pv', ?_, F3⟩
    rw [hws] at D3
    exact D3
  · exfalso
    rcases h with ⟨h, _⟩ | ⟨_, h⟩
    · cases h
    · omega
theorem crash_known {w : World} {n₀ p bs bn : Nat} {pv : Value} {A : List Int} (h : Dev w n₀ p bs bn pv 4 (fun _ => z128) (appl (fun _ => z128) [(1, A), (2, A)]) [(1, A), (2, A)] 0 false) :
    Calls Try.prog 14 #[.pointer (some ⟨p, 0, none⟩), .slice (some ⟨w.heap.size, 0, none⟩) 1 1] (w.alloc (.cells #[.bool true] 4)) fun e w' => e = .returned (.tuple #[]) ∧ Dev w' n₀ p bs bn (.slice none 0 0) 4 (appl (fun _ => z128) [(1, A)]) (appl (fun _ => z128) [(1, A)]) [] 0 false ∧ Below n₀ w w' := by
  have h2 := h.same (w' := w.alloc (.cells #[.bool true] 4)) (fun i hi => Below.heap_alloc w _ i hi)
  have hk : Bools (w.alloc (.cells #[.bool true] 4)) (some ⟨w.heap.size, 0, none⟩) 1 [true] := ⟨rfl, fun _ => ⟨w.heap.size, 0, rfl, fun i hi => by
    obtain rfl : i = 0 := by omega
    rw [Nat.zero_add, cell_of_row _ _ 0 _ _ _ (heap_alloc_new w (.cells #[.bool true] 4))]
    rfl⟩⟩
  have hl := h.lt
  have hs := h.safe.lt
  have hn := h.now.lt
  have c := Crash_some h2 (fun _ => rfl) (some ⟨w.heap.size, 0, none⟩) 1 1 [true] hk (by decide) (by simp) (fun b off e _ => by
    injection e with e
    injection e with e1 e2 e3
    subst e1
    exact ⟨by omega, by omega, by omega, fun e => by have := h.pvlt e; omega⟩)
  refine Calls.mono c ?_
  rintro e w' ⟨rfl, D, F⟩
  refine ⟨rfl, D, ((Below.refl n₀ w).alloc h.base _).trans (F.below h2)⟩

set_option maxRecDepth 100000 in
set_option maxHeartbeats 8000000 in
theorem known_true (w : World) : Calls Try.prog 16 #[] w fun e w' => e = .returned (.bool true) ∧ Below w.heap.size w w' := by
  go_enter Try.func16, Try.ntmps16
  go_wp2_with fail
  refine (new_any w 4 (by decide) (by decide)).mono ?_
  rintro e w1 ⟨rfl, D1, hB1⟩
  go_wp2_with fail
  refine (full_two w1 7).mono ?_
  rintro e w2 ⟨gb, rfl, hgb, hR2, hb2⟩
  have D2 := D1.same (fun i hi => hb2.block i hi)
  have hB2 := below_size hB1 (Nat.le_refl _) hb2
  have hD1lt := D1.lt
  have hD1s := D1.safe.lt
  have hD1n := D1.now.lt
  go_wp2_with fail
  refine (write_known D2 (gb := gb) hR2 (by omega) (by omega) (by omega)).mono ?_
  rintro e w3 ⟨rfl, pv3, D3, F3⟩
  have hB3 : Below w.heap.size w w3 := hB2.trans (F3.below D2)
  clear D2 F3 hR2 hb2 hB1 D1 hB2
  go_wp2_with fail
  refine (pending_any D3).mono ?_
  rintro e w4 ⟨rfl, rfl⟩
  go_wp2_with fail
  refine (crash_known D3).mono ?_
  rintro e w5 ⟨rfl, D5, hb5⟩
  have hB5 := hB3.trans hb5
  clear hb5 hB3 D3 hgb hD1lt hD1s hD1n
  go_wp2_with fail
  refine (Read_some D5 (by decide) (by decide) 1 2 (by decide) (by decide)).mono ?_
  rintro e w6 ⟨rfl, hR6, hg6⟩
  have hB6 := below_size hB5 (Nat.le_refl _) (below_of hg6)
  have D6 := D5.same (fun i hi => hg6.block i hi (by simp))
  obtain ⟨S1, hS1⟩ : ∃ S, Hid (strOfNums (sv 128 7) = S) := ⟨_, rfl⟩
  obtain ⟨S2, hS2⟩ : ∃ S, Hid (strOfNums (sv 128 0) = S) := ⟨_, rfl⟩
  have hzz : S1.size + S2.size ≤ 9223372036854775807 := by
    rw [← hS1.out, ← hS2.out, str_size, str_size, sv, sv, List.length_replicate, List.length_replicate]
    decide
  have hSB : Hid (strOfNums (catS (appl (fun _ => z128) [(1, sv 128 7)]) 1 2) = S1 ++ S2) := by
    show _ = _
    rw [← hS1.out, ← hS2.out, ← str_append]
    rfl
  have hBl : (catS (appl (fun _ => z128) [(1, sv 128 7)]) 1 2).length = 256 := catS_len (fun k => D5.now.isSec k) 1 2
  have hRb : Row8 w6 w5.heap.size (catS (appl (fun _ => z128) [(1, sv 128 7)]) 1 2) := hR6
  clear hR6 hg6 D5 hB5
  generalize hgb : w5.heap.size = gb at *
  clear hgb
  generalize catS (appl (fun _ => z128) [(1, sv 128 7)]) 1 2 = BS at *
  go_wp2
  have hB0 := hB6
  have hDb := D6
  clear hB6 D6
  generalize w6 = wb at *
  refine abstract_act fun A hA => ?_
  have hsz : A.tmps.size = 55 := by rw [hA]; rfl
  have st : A.tmps[0]? = some (.bool false) := by rw [hA]; rfl
  have s1 : A.tmps[1]? = some (.pointer (some ⟨w.heap.size + 2, 0, none⟩)) := by rw [hA]; rfl
  have s3 : A.tmps[3]? = some (.int .i64 0) := by rw [hA]; rfl
  have s4 : A.tmps[4]? = some (.int .i64 2) := by rw [hA]; rfl
  have s5 : A.tmps[5]? = some (.slice (some ⟨gb, 0, none⟩) (2 * 128) (2 * 128)) := by rw [hA]; rfl
  have s6 : A.tmps[6]? = some (.int .i64 0) := by rw [hA]; rfl
  refine wp_region_inv2' (fun A D a w' => ∃ (l : List Value) (vt : Value) (b43 : Nat) (b45 : Nat), a = (putAll A 30 l).put (some 0) vt ∧ l.length = 25 ∧ Below wb.heap.size wb w' ∧ (∀ j, j < 25 → D j → l[j]? = some (valK w gb b43 b45 S1 S2 j)) ∧ (D 25 → vt = .bool true) ∧ (D 13 → Row8 w' b43 (sv 128 7)) ∧ (D 15 → Row8 w' b45 (sv 128 0))) (by kernel_rfl) (by kernel_rfl) ?mono ?start ?step ?done
  case mono =>
    rintro D D' a w' hD ⟨l, vt, b43, b45, ha, hlen, hB, hl, hvt, i13, i15⟩
    exact ⟨l, vt, b43, b45, ha, hlen, hB, fun j hj h => hl j hj ((hD j).2 h), fun h => hvt ((hD 25).2 h), fun h => i13 ((hD 13).2 h), fun h => i15 ((hD 15).2 h)⟩
  case start => exact ⟨_, _, 0, 0, putT_start A 30 25 0 _ (by omega) (by decide) st, (putAll_start A 30 25 (by omega)).2, (Below.refl _ _).drew, fun _ _ h => h.elim, fun h => h.elim, fun h => h.elim, fun h => h.elim⟩
  case step =>
    clear hA
    intro i o ho D a w' hI hn hcl hd
    obtain ⟨l, vt, b43, b45, ha, hlen, hB, hl, hvt, i13, i15⟩ := hI
    match i, ho with
    | 0, ho =>
      cases Option.some.inj ho
      refine ⟨rfl, ?_⟩
      have ev : a.tmps[3]? = some (.int .i64 0) := by rw [ha, putT_other _ _ _ _ (by decide), putAll_low A 30 3 l (by omega) (by decide)]; exact s3
      refine wp_value (w' := w') (v := .int .i64 0) (by simp [execOp, ev, go_sem]) ?_
      exact ⟨_, vt, b43, b45, by rw [ha]; exact putT_put A 30 0 0 l _ _ (by omega) (by omega) (by decide), by rw [List.length_set]; exact hlen, hB, set_known hlen (by decide) hl, fun h => hvt (h.resolve_left (by decide)), fun h => (i13 (h.resolve_left (by decide))), fun h => (i15 (h.resolve_left (by decide)))⟩
    | 1, ho =>
      cases Option.some.inj ho
      refine ⟨rfl, ?_⟩
      have ev : a.tmps[30]? = some (.int .i64 0) := known_atT ha hsz hlen hl 0 (by decide) (hd ⟨0, .data⟩ (by simp) rfl)
      refine wp_value (w' := w') (v := .bool true) (by simp [execOp, ev, go_sem]) ?_
      exact ⟨_, vt, b43, b45, by rw [ha]; exact putT_put A 30 1 0 l _ _ (by omega) (by omega) (by decide), by rw [List.length_set]; exact hlen, hB, set_known hlen (by decide) hl, fun h => hvt (h.resolve_left (by decide)), fun h => (i13 (h.resolve_left (by decide))), fun h => (i15 (h.resolve_left (by decide)))⟩
    | 2, ho =>
      cases Option.some.inj ho
      refine ⟨rfl, ?_⟩
      have ev : a.tmps[31]? = some (.bool true) := known_atT ha hsz hlen hl 1 (by decide) (hd ⟨1, .data⟩ (by simp) rfl)
      refine wp_value (w' := w') (v := .bool true) (by simp [execOp, ev, go_sem]) ?_
      exact ⟨_, vt, b43, b45, by rw [ha]; exact putT_put A 30 2 0 l _ _ (by omega) (by omega) (by decide), by rw [List.length_set]; exact hlen, hB, set_known hlen (by decide) hl, fun h => hvt (h.resolve_left (by decide)), fun h => (i13 (h.resolve_left (by decide))), fun h => (i15 (h.resolve_left (by decide)))⟩
    | 3, ho =>
      cases Option.some.inj ho
      refine ⟨wanted_of (k := 32) rfl rfl rfl (known_atT ha hsz hlen hl 2 (by decide) (hd ⟨2, .guard⟩ (by simp) rfl)), ?_⟩
      have ev : a.tmps[4]? = some (.int .i64 2) := by rw [ha, putT_other _ _ _ _ (by decide), putAll_low A 30 4 l (by omega) (by decide)]; exact s4
      refine wp_value (w' := w') (v := .int .i64 2) (by simp [execOp, ev, go_sem]) ?_
      exact ⟨_, vt, b43, b45, by rw [ha]; exact putT_put A 30 3 0 l _ _ (by omega) (by omega) (by decide), by rw [List.length_set]; exact hlen, hB, set_known hlen (by decide) hl, fun h => hvt (h.resolve_left (by decide)), fun h => (i13 (h.resolve_left (by decide))), fun h => (i15 (h.resolve_left (by decide)))⟩
    | 4, ho =>
      cases Option.some.inj ho
      refine ⟨wanted_of (k := 32) rfl rfl rfl (known_atT ha hsz hlen hl 2 (by decide) (hd ⟨2, .guard⟩ (by simp) rfl)), ?_⟩
      have ev : a.tmps[33]? = some (.int .i64 2) := known_atT ha hsz hlen hl 3 (by decide) (hd ⟨3, .data⟩ (by simp) rfl)
      refine wp_value (w' := w') (v := .bool true) (by simp [execOp, ev, go_sem]) ?_
      exact ⟨_, vt, b43, b45, by rw [ha]; exact putT_put A 30 4 0 l _ _ (by omega) (by omega) (by decide), by rw [List.length_set]; exact hlen, hB, set_known hlen (by decide) hl, fun h => hvt (h.resolve_left (by decide)), fun h => (i13 (h.resolve_left (by decide))), fun h => (i15 (h.resolve_left (by decide)))⟩
    | 5, ho =>
      cases Option.some.inj ho
      refine ⟨rfl, ?_⟩
      have ev : a.tmps[32]? = some (.bool true) := known_atT ha hsz hlen hl 2 (by decide) (hd ⟨2, .data⟩ (by simp) rfl)
      have ev' : a.tmps[34]? = some (.bool true) := known_atT ha hsz hlen hl 4 (by decide) (hd ⟨4, .data⟩ (by simp) rfl)
      refine wp_value (w' := w') (v := .bool true) (by simp [execOp, ev, ev', go_sem]) ?_
      exact ⟨_, vt, b43, b45, by rw [ha]; exact putT_put A 30 5 0 l _ _ (by omega) (by omega) (by decide), by rw [List.length_set]; exact hlen, hB, set_known hlen (by decide) hl, fun h => hvt (h.resolve_left (by decide)), fun h => (i13 (h.resolve_left (by decide))), fun h => (i15 (h.resolve_left (by decide)))⟩
    | 6, ho =>
      cases Option.some.inj ho
      refine ⟨rfl, ?_⟩
      have ev : a.tmps[35]? = some (.bool true) := known_atT ha hsz hlen hl 5 (by decide) (hd ⟨5, .data⟩ (by simp) rfl)
      refine wp_value (w' := w') (v := .bool true) (by simp [execOp, ev, go_sem]) ?_
      exact ⟨_, vt, b43, b45, by rw [ha]; exact putT_put A 30 6 0 l _ _ (by omega) (by omega) (by decide), by rw [List.length_set]; exact hlen, hB, set_known hlen (by decide) hl, fun h => hvt (h.resolve_left (by decide)), fun h => (i13 (h.resolve_left (by decide))), fun h => (i15 (h.resolve_left (by decide)))⟩
    | 7, ho =>
      cases Option.some.inj ho
      refine ⟨wanted_of (k := 36) rfl rfl rfl (known_atT ha hsz hlen hl 6 (by decide) (hd ⟨6, .guard⟩ (by simp) rfl)), ?_⟩
      have ev : a.tmps[6]? = some (.int .i64 0) := by rw [ha, putT_other _ _ _ _ (by decide), putAll_low A 30 6 l (by omega) (by decide)]; exact s6
      refine wp_value (w' := w') (v := .int .i64 0) (by simp [execOp, ev, go_sem]) ?_
      exact ⟨_, vt, b43, b45, by rw [ha]; exact putT_put A 30 7 0 l _ _ (by omega) (by omega) (by decide), by rw [List.length_set]; exact hlen, hB, set_known hlen (by decide) hl, fun h => hvt (h.resolve_left (by decide)), fun h => (i13 (h.resolve_left (by decide))), fun h => (i15 (h.resolve_left (by decide)))⟩
    | 8, ho =>
      cases Option.some.inj ho
      refine ⟨wanted_of (k := 36) rfl rfl rfl (known_atT ha hsz hlen hl 6 (by decide) (hd ⟨6, .guard⟩ (by simp) rfl)), ?_⟩
      have ev : a.tmps[37]? = some (.int .i64 0) := known_atT ha hsz hlen hl 7 (by decide) (hd ⟨7, .data⟩ (by simp) rfl)
      refine wp_value (w' := w') (v := .bool true) (by simp [execOp, ev, go_sem]) ?_
      exact ⟨_, vt, b43, b45, by rw [ha]; exact putT_put A 30 8 0 l _ _ (by omega) (by omega) (by decide), by rw [List.length_set]; exact hlen, hB, set_known hlen (by decide) hl, fun h => hvt (h.resolve_left (by decide)), fun h => (i13 (h.resolve_left (by decide))), fun h => (i15 (h.resolve_left (by decide)))⟩
    | 9, ho =>
      cases Option.some.inj ho
      refine ⟨rfl, ?_⟩
      have ev : a.tmps[36]? = some (.bool true) := known_atT ha hsz hlen hl 6 (by decide) (hd ⟨6, .data⟩ (by simp) rfl)
      have ev' : a.tmps[38]? = some (.bool true) := known_atT ha hsz hlen hl 8 (by decide) (hd ⟨8, .data⟩ (by simp) rfl)
      refine wp_value (w' := w') (v := .bool true) (by simp [execOp, ev, ev', go_sem]) ?_
      exact ⟨_, vt, b43, b45, by rw [ha]; exact putT_put A 30 9 0 l _ _ (by omega) (by omega) (by decide), by rw [List.length_set]; exact hlen, hB, set_known hlen (by decide) hl, fun h => hvt (h.resolve_left (by decide)), fun h => (i13 (h.resolve_left (by decide))), fun h => (i15 (h.resolve_left (by decide)))⟩
    | 10, ho =>
      cases Option.some.inj ho
      refine ⟨rfl, ?_⟩
      have ev : a.tmps[39]? = some (.bool true) := known_atT ha hsz hlen hl 9 (by decide) (hd ⟨9, .data⟩ (by simp) rfl)
      refine wp_value (w' := w') (v := .bool true) (by simp [execOp, ev, go_sem]) ?_
      exact ⟨_, vt, b43, b45, by rw [ha]; exact putT_put A 30 10 0 l _ _ (by omega) (by omega) (by decide), by rw [List.length_set]; exact hlen, hB, set_known hlen (by decide) hl, fun h => hvt (h.resolve_left (by decide)), fun h => (i13 (h.resolve_left (by decide))), fun h => (i15 (h.resolve_left (by decide)))⟩
    | 11, ho =>
      cases Option.some.inj ho
      refine ⟨wanted_of (k := 40) rfl rfl rfl (known_atT ha hsz hlen hl 10 (by decide) (hd ⟨10, .guard⟩ (by simp) rfl)), ?_⟩
      have ev : a.tmps[5]? = some (.slice (some ⟨gb, 0, none⟩) (2 * 128) (2 * 128)) := by rw [ha, putT_other _ _ _ _ (by decide), putAll_low A 30 5 l (by omega) (by decide)]; exact s5
      refine wp_value (w' := w') (v := .slice (some ⟨gb, 0, none⟩) (2 * 128) (2 * 128)) (by simp [execOp, ev, go_sem]) ?_
      exact ⟨_, vt, b43, b45, by rw [ha]; exact putT_put A 30 11 0 l _ _ (by omega) (by omega) (by decide), by rw [List.length_set]; exact hlen, hB, set_known hlen (by decide) hl, fun h => hvt (h.resolve_left (by decide)), fun h => (i13 (h.resolve_left (by decide))), fun h => (i15 (h.resolve_left (by decide)))⟩
    | 12, ho =>
      cases Option.some.inj ho
      refine ⟨wanted_of (k := 40) rfl rfl rfl (known_atT ha hsz hlen hl 10 (by decide) (hd ⟨10, .guard⟩ (by simp) rfl)), ?_⟩
      have ev : a.tmps[41]? = some (.slice (some ⟨gb, 0, none⟩) (2 * 128) (2 * 128)) := known_atT ha hsz hlen hl 11 (by decide) (hd ⟨11, .data⟩ (by simp) rfl)
      have hc := (hRb.below hB).str hSB hBl
      refine wp_value (w' := w') (v := .string (S1 ++ S2)) (by simp [execOp, ev, go_sem, hc]) ?_
      exact ⟨_, vt, b43, b45, by rw [ha]; exact putT_put A 30 12 0 l _ _ (by omega) (by omega) (by decide), by rw [List.length_set]; exact hlen, hB, set_known hlen (by decide) hl, fun h => hvt (h.resolve_left (by decide)), fun h => (i13 (h.resolve_left (by decide))), fun h => (i15 (h.resolve_left (by decide)))⟩
    | 13, ho =>
      cases Option.some.inj ho
      refine ⟨wanted_of (k := 40) rfl rfl rfl (known_atT ha hsz hlen hl 10 (by decide) (hd ⟨10, .guard⟩ (by simp) rfl)), ?_⟩
      refine wp_enter (f := 10) (args := #[.int .i64 1, .int .u8 7]) (by simp [execOp, go_sem]) ?_
      refine (full_one w' 7).mono ?_
      rintro e w6 ⟨nb, rfl, hR, HB⟩
      refine ⟨_, rfl, ?_⟩
      exact ⟨_, vt, nb, b45, by rw [ha]; exact putT_put A 30 13 0 l _ _ (by omega) (by omega) (by decide), by rw [List.length_set]; exact hlen, below_size hB (Nat.le_refl _) HB, set_known' (val' := valK w gb nb b45 S1 S2) hlen (by decide) hl (fun j hj hne => match j, hj, hne with | 0, _, _ => rfl | 1, _, _ => rfl | 2, _, _ => rfl | 3, _, _ => rfl | 4, _, _ => rfl | 5, _, _ => rfl | 6, _, _ => rfl | 7, _, _ => rfl | 8, _, _ => rfl | 9, _, _ => rfl | 10, _, _ => rfl | 11, _, _ => rfl | 12, _, _ => rfl | 13, _, hne => absurd rfl hne | 14, _, _ => rfl | 15, _, _ => rfl | 16, _, _ => rfl | 17, _, _ => rfl | 18, _, _ => rfl | 19, _, _ => rfl | 20, _, _ => rfl | 21, _, _ => rfl | 22, _, _ => rfl | 23, _, _ => rfl | 24, _, _ => rfl | j + 25, _, _ => rfl), fun h => hvt (h.resolve_left (by decide)), fun _ => hR, fun h => (i15 (h.resolve_left (by decide))).below HB⟩
    | 14, ho =>
      cases Option.some.inj ho
      refine ⟨wanted_of (k := 40) rfl rfl rfl (known_atT ha hsz hlen hl 10 (by decide) (hd ⟨10, .guard⟩ (by simp) rfl)), ?_⟩
      have ev : a.tmps[43]? = some (.slice (some ⟨b43, 0, none⟩) 128 128) := known_atT ha hsz hlen hl 13 (by decide) (hd ⟨13, .data⟩ (by simp) rfl)
      have hc := (i13 (hd ⟨13, .data⟩ (by simp) rfl)).str hS1 List.length_replicate
      refine wp_value (w' := w') (v := .string S1) (by simp [execOp, ev, go_sem, hc]) ?_
      exact ⟨_, vt, b43, b45, by rw [ha]; exact putT_put A 30 14 0 l _ _ (by omega) (by omega) (by decide), by rw [List.length_set]; exact hlen, hB, set_known hlen (by decide) hl, fun h => hvt (h.resolve_left (by decide)), fun h => (i13 (h.resolve_left (by decide))), fun h => (i15 (h.resolve_left (by decide)))⟩
    | 15, ho =>
      cases Option.some.inj ho
      refine ⟨wanted_of (k := 40) rfl rfl rfl (known_atT ha hsz hlen hl 10 (by decide) (hd ⟨10, .guard⟩ (by simp) rfl)), ?_⟩
      refine wp_enter (f := 10) (args := #[.int .i64 1, .int .u8 0]) (by simp [execOp, go_sem]) ?_
      refine (full_one w' 0).mono ?_
      rintro e w6 ⟨nb, rfl, hR, HB⟩
      refine ⟨_, rfl, ?_⟩
      exact ⟨_, vt, b43, nb, by rw [ha]; exact putT_put A 30 15 0 l _ _ (by omega) (by omega) (by decide), by rw [List.length_set]; exact hlen, below_size hB (Nat.le_refl _) HB, set_known' (val' := valK w gb b43 nb S1 S2) hlen (by decide) hl (fun j hj hne => match j, hj, hne with | 0, _, _ => rfl | 1, _, _ => rfl | 2, _, _ => rfl | 3, _, _ => rfl | 4, _, _ => rfl | 5, _, _ => rfl | 6, _, _ => rfl | 7, _, _ => rfl | 8, _, _ => rfl | 9, _, _ => rfl | 10, _, _ => rfl | 11, _, _ => rfl | 12, _, _ => rfl | 13, _, _ => rfl | 14, _, _ => rfl | 15, _, hne => absurd rfl hne | 16, _, _ => rfl | 17, _, _ => rfl | 18, _, _ => rfl | 19, _, _ => rfl | 20, _, _ => rfl | 21, _, _ => rfl | 22, _, _ => rfl | 23, _, _ => rfl | 24, _, _ => rfl | j + 25, _, _ => rfl), fun h => hvt (h.resolve_left (by decide)), fun h => (i13 (h.resolve_left (by decide))).below HB, fun _ => hR⟩
    | 16, ho =>
      cases Option.some.inj ho
      refine ⟨wanted_of (k := 40) rfl rfl rfl (known_atT ha hsz hlen hl 10 (by decide) (hd ⟨10, .guard⟩ (by simp) rfl)), ?_⟩
      have ev : a.tmps[45]? = some (.slice (some ⟨b45, 0, none⟩) 128 128) := known_atT ha hsz hlen hl 15 (by decide) (hd ⟨15, .data⟩ (by simp) rfl)
      have hc := (i15 (hd ⟨15, .data⟩ (by simp) rfl)).str hS2 List.length_replicate
      refine wp_value (w' := w') (v := .string S2) (by simp [execOp, ev, go_sem, hc]) ?_
      exact ⟨_, vt, b43, b45, by rw [ha]; exact putT_put A 30 16 0 l _ _ (by omega) (by omega) (by decide), by rw [List.length_set]; exact hlen, hB, set_known hlen (by decide) hl, fun h => hvt (h.resolve_left (by decide)), fun h => (i13 (h.resolve_left (by decide))), fun h => (i15 (h.resolve_left (by decide)))⟩
    | 17, ho =>
      cases Option.some.inj ho
      refine ⟨wanted_of (k := 40) rfl rfl rfl (known_atT ha hsz hlen hl 10 (by decide) (hd ⟨10, .guard⟩ (by simp) rfl)), ?_⟩
      have ev : a.tmps[44]? = some (.string S1) := known_atT ha hsz hlen hl 14 (by decide) (hd ⟨14, .data⟩ (by simp) rfl)
      have ev' : a.tmps[46]? = some (.string S2) := known_atT ha hsz hlen hl 16 (by decide) (hd ⟨16, .data⟩ (by simp) rfl)
      refine wp_value (w' := w') (v := .string (S1 ++ S2)) (by simp [execOp, ev, ev', go_sem, hzz]) ?_
      exact ⟨_, vt, b43, b45, by rw [ha]; exact putT_put A 30 17 0 l _ _ (by omega) (by omega) (by decide), by rw [List.length_set]; exact hlen, hB, set_known hlen (by decide) hl, fun h => hvt (h.resolve_left (by decide)), fun h => (i13 (h.resolve_left (by decide))), fun h => (i15 (h.resolve_left (by decide)))⟩
    | 18, ho =>
      cases Option.some.inj ho
      refine ⟨wanted_of (k := 40) rfl rfl rfl (known_atT ha hsz hlen hl 10 (by decide) (hd ⟨10, .guard⟩ (by simp) rfl)), ?_⟩
      have ev : a.tmps[42]? = some (.string (S1 ++ S2)) := known_atT ha hsz hlen hl 12 (by decide) (hd ⟨12, .data⟩ (by simp) rfl)
      have ev' : a.tmps[47]? = some (.string (S1 ++ S2)) := known_atT ha hsz hlen hl 17 (by decide) (hd ⟨17, .data⟩ (by simp) rfl)
      refine wp_value (w' := w') (v := .bool true) (by simp [execOp, ev, ev', go_sem]) ?_
      exact ⟨_, vt, b43, b45, by rw [ha]; exact putT_put A 30 18 0 l _ _ (by omega) (by omega) (by decide), by rw [List.length_set]; exact hlen, hB, set_known hlen (by decide) hl, fun h => hvt (h.resolve_left (by decide)), fun h => (i13 (h.resolve_left (by decide))), fun h => (i15 (h.resolve_left (by decide)))⟩
    | 19, ho =>
      cases Option.some.inj ho
      refine ⟨rfl, ?_⟩
      have ev : a.tmps[40]? = some (.bool true) := known_atT ha hsz hlen hl 10 (by decide) (hd ⟨10, .data⟩ (by simp) rfl)
      have ev' : a.tmps[48]? = some (.bool true) := known_atT ha hsz hlen hl 18 (by decide) (hd ⟨18, .data⟩ (by simp) rfl)
      refine wp_value (w' := w') (v := .bool true) (by simp [execOp, ev, ev', go_sem]) ?_
      exact ⟨_, vt, b43, b45, by rw [ha]; exact putT_put A 30 19 0 l _ _ (by omega) (by omega) (by decide), by rw [List.length_set]; exact hlen, hB, set_known hlen (by decide) hl, fun h => hvt (h.resolve_left (by decide)), fun h => (i13 (h.resolve_left (by decide))), fun h => (i15 (h.resolve_left (by decide)))⟩
    | 20, ho =>
      cases Option.some.inj ho
      refine ⟨rfl, ?_⟩
      have ev : a.tmps[49]? = some (.bool true) := known_atT ha hsz hlen hl 19 (by decide) (hd ⟨19, .data⟩ (by simp) rfl)
      refine wp_value (w' := w') (v := .bool true) (by simp [execOp, ev, go_sem]) ?_
      exact ⟨_, vt, b43, b45, by rw [ha]; exact putT_put A 30 20 0 l _ _ (by omega) (by omega) (by decide), by rw [List.length_set]; exact hlen, hB, set_known hlen (by decide) hl, fun h => hvt (h.resolve_left (by decide)), fun h => (i13 (h.resolve_left (by decide))), fun h => (i15 (h.resolve_left (by decide)))⟩
    | 21, ho =>
      cases Option.some.inj ho
      refine ⟨wanted_of (k := 50) rfl rfl rfl (known_atT ha hsz hlen hl 20 (by decide) (hd ⟨20, .guard⟩ (by simp) rfl)), ?_⟩
      have ev : a.tmps[1]? = some (.pointer (some ⟨w.heap.size + 2, 0, none⟩)) := by rw [ha, putT_other _ _ _ _ (by decide), putAll_low A 30 1 l (by omega) (by decide)]; exact s1
      refine wp_value (w' := w') (v := .pointer (some ⟨w.heap.size + 2, 0, none⟩)) (by simp [execOp, ev, go_sem]) ?_
      exact ⟨_, vt, b43, b45, by rw [ha]; exact putT_put A 30 21 0 l _ _ (by omega) (by omega) (by decide), by rw [List.length_set]; exact hlen, hB, set_known hlen (by decide) hl, fun h => hvt (h.resolve_left (by decide)), fun h => (i13 (h.resolve_left (by decide))), fun h => (i15 (h.resolve_left (by decide)))⟩
    | 22, ho =>
      cases Option.some.inj ho
      refine ⟨wanted_of (k := 50) rfl rfl rfl (known_atT ha hsz hlen hl 20 (by decide) (hd ⟨20, .guard⟩ (by simp) rfl)), ?_⟩
      have ev : a.tmps[51]? = some (.pointer (some ⟨w.heap.size + 2, 0, none⟩)) := known_atT ha hsz hlen hl 21 (by decide) (hd ⟨21, .data⟩ (by simp) rfl)
      refine wp_enter (f := 19) (args := #[.pointer (some ⟨w.heap.size + 2, 0, none⟩)]) (by simp [execOp, ev, go_sem]) ?_
      refine (size_any (hDb.same (fun i hi => hB.block i hi))).mono ?_
      rintro e w6 ⟨rfl, rfl⟩
      refine ⟨_, rfl, ?_⟩
      exact ⟨_, vt, b43, b45, by rw [ha]; exact putT_put A 30 22 0 l _ _ (by omega) (by omega) (by decide), by rw [List.length_set]; exact hlen, hB, set_known hlen (by decide) hl, fun h => hvt (h.resolve_left (by decide)), fun h => (i13 (h.resolve_left (by decide))), fun h => (i15 (h.resolve_left (by decide)))⟩
    | 23, ho =>
      cases Option.some.inj ho
      refine ⟨wanted_of (k := 50) rfl rfl rfl (known_atT ha hsz hlen hl 20 (by decide) (hd ⟨20, .guard⟩ (by simp) rfl)), ?_⟩
      have ev : a.tmps[52]? = some (.int .i64 4) := known_atT ha hsz hlen hl 22 (by decide) (hd ⟨22, .data⟩ (by simp) rfl)
      refine wp_value (w' := w') (v := .bool true) (by simp [execOp, ev, go_sem]) ?_
      exact ⟨_, vt, b43, b45, by rw [ha]; exact putT_put A 30 23 0 l _ _ (by omega) (by omega) (by decide), by rw [List.length_set]; exact hlen, hB, set_known hlen (by decide) hl, fun h => hvt (h.resolve_left (by decide)), fun h => (i13 (h.resolve_left (by decide))), fun h => (i15 (h.resolve_left (by decide)))⟩
    | 24, ho =>
      cases Option.some.inj ho
      refine ⟨rfl, ?_⟩
      have ev : a.tmps[50]? = some (.bool true) := known_atT ha hsz hlen hl 20 (by decide) (hd ⟨20, .data⟩ (by simp) rfl)
      have ev' : a.tmps[53]? = some (.bool true) := known_atT ha hsz hlen hl 23 (by decide) (hd ⟨23, .data⟩ (by simp) rfl)
      refine wp_value (w' := w') (v := .bool true) (by simp [execOp, ev, ev', go_sem]) ?_
      exact ⟨_, vt, b43, b45, by rw [ha]; exact putT_put A 30 24 0 l _ _ (by omega) (by omega) (by decide), by rw [List.length_set]; exact hlen, hB, set_known hlen (by decide) hl, fun h => hvt (h.resolve_left (by decide)), fun h => (i13 (h.resolve_left (by decide))), fun h => (i15 (h.resolve_left (by decide)))⟩
    | 25, ho =>
      cases Option.some.inj ho
      refine ⟨rfl, ?_⟩
      have ev : a.tmps[54]? = some (.bool true) := known_atT ha hsz hlen hl 24 (by decide) (hd ⟨24, .data⟩ (by simp) rfl)
      refine wp_value (w' := w') (v := .bool true) (by simp [execOp, ev, go_sem]) ?_
      exact ⟨l, (.bool true), b43, b45, by rw [ha]; exact putT_again _ _ _ _, hlen, hB, fun j hj h => hl j hj (h.resolve_left (by omega)), fun _ => rfl, fun h => i13 (h.resolve_left (by decide)), fun h => i15 (h.resolve_left (by decide))⟩
    | i + 26, ho => simp at ho
  case done =>
    rintro D a w' ⟨l, vt, b43, b45, ha, hlen, hB, hl, hvt, i13, i15⟩ hall
    obtain rfl := hvt (hall 25 (by decide))
    obtain ⟨v0, v1, v2, v3, v4, v5, v6, v7, v8, v9, v10, v11, v12, v13, v14, v15, v16, v17, v18, v19, v20, v21, v22, v23, v24, rfl⟩ := valK_list hlen
    clear hl hall i13 i15 hlen
    have hBf := below_size hB0 (Nat.le_refl _) hB
    clear hB st s1 s3 s4 s5 s6 hsz
    subst hA
    have hfr : a = _ := ha
    rw [hfr]
    clear hfr ha
    simp only [putAll, List.take_succ_cons, List.take_zero, List.drop_succ_cons, List.drop_zero, List.cons_append, List.nil_append, List.length_cons, List.length_nil]
    simp only [Act.put, List.setIfInBounds_toArray, List.set_cons_zero]
    go_wp2
    go_ret
    exact ⟨rfl, hBf⟩
end Go.Proofs.Ytofgphiamllmdaa
