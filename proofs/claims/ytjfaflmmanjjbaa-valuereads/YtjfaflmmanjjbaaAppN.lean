/- Numbers and values appended to bytes. -/
import Derived.Test.YtjfaflmmanjjbaaRCopy
namespace Go.Proofs.Ytjfaflmmanjjbaa
open Go.RowKit
set_option maxRecDepth 100000
theorem OwnB.shape {w : World} {base : Nat} {v : Value} {xs : List Int} (h : OwnB w base v xs) : ∃ a c, v = .slice a xs.length c := by
  obtain ⟨_, a, c, e, _⟩ := h
  exact ⟨a, c, e⟩
theorem OwnB.byte {w : World} {base : Nat} {v : Value} {xs : List Int} (h : OwnB w base v xs) : ∀ x ∈ xs, 0 ≤ x ∧ x < 256 := by
  obtain ⟨_, a, c, e, k⟩ := h
  exact k.byte
theorem ownB_nil (w : World) (base : Nat) : OwnB w base (.slice none 0 0) [] := ownB_of (n := 0) (World.ownsRow_nil _ _ _ _) (by simp)
/-- All below a number is as it was, and every block that is not of bytes. -/
structure Gr (base : Nat) (w w' : World) : Prop where
  below : Below base w w'
  keep : ∀ (g : Nat) (cs : Array Value) (t : Nat), t ≠ 5 → w.heap[g]? = some (.cells cs t (0, 0)) → w'.heap[g]? = some (.cells cs t (0, 0))
theorem Gr.trans {base : Nat} {w w1 w2 : World} (h : Gr base w w1) (k : Gr base w1 w2) : Gr base w w2 := ⟨h.below.trans k.below, fun g cs t ht hg => k.keep g cs t ht (h.keep g cs t ht hg)⟩
theorem Gr.of {base : Nat} {w w' : World} (h : Below w.heap.size w w') (hb : base ≤ w.heap.size) : Gr base w w' := ⟨h.mono hb, fun g _ _ _ hg => (h.block g (lt_of_block hg)).trans hg⟩
theorem Gr.refl (base : Nat) (w : World) : Gr base w w := ⟨Below.refl _ _, fun _ _ _ _ h => h⟩
theorem Gr.grown {base n : Nat} {w w' : World} {v : Value} {xs : List Value} (h : w.ownsRow base 5 1 v n xs) (hg : w.grownBy w' v.ownBlock) (hb : base ≤ w.heap.size) : Gr base w w' :=
  ⟨(Below.refl _ _).grown hg hb (fun _ hj => (own_block h hj).1), fun g _ _ ht hc => (hg.block g (lt_of_block hc) (fun e => own_ne h hc ht e.symm)).trans hc⟩
/-- append onto bytes of the call's own. -/
theorem app_own {ops : Array Oper} {rest : List Oper} {o : Oper} {a : Act} {Q : Exit → Act → World → Prop} (w : World) (hgd : o.guard = none) (s x : Operand)
    (ho : o.op = .call { callee := .builtin .append, args := #[s, x], argTypes := #[25, 25] })
    (base : Nat) (v : Value) (xs : List Int) (hs : a.eval s = v) (hown : OwnB w base v xs)
    (ab : Option Addr) (len cap : Nat) (ys : List Int) (hx : a.eval x = .slice ab len cap) (hB : IsB w ab len cap ys) (h47 : xs.length + len ≤ 140737488355328) (hbase : base ≤ w.heap.size)
    (h : ∀ a' n' c' w', OwnB w' base (.slice a' n' c') (xs ++ ys) → Gr base w w' → wpList Try.prog ops Q rest (a.put o.dst (.slice a' n' c')) w') : wpList Try.prog ops Q (o :: rest) a w := by
  obtain ⟨i0, hi, hz0, hz1, hz2⟩ := info_parts Try.info5
  have hbx := append_bytes xs ys hown.byte hB.byte
  cases ab with
  | none =>
    obtain ⟨rfl, rfl⟩ := hB.nil' rfl
    obtain rfl : ys = [] := List.eq_nil_of_length_eq_zero hB.size
    refine wpList_append_own_none hgd s x 25 ho base 5 i0 1 Try.underlying25 hi v xs.length _ hs hown.1 hx ?_
    obtain ⟨a', c', hv⟩ := hown.shape
    subst hv
    exact h a' _ c' w (by simpa using hown) (Gr.refl _ _)
  | some ad =>
    refine wpList_append_own w hgd s x 25 ho base 5 i0 (.int .u8 0) 1 1 Try.underlying25 hi hz0 hz1 hz2 rfl (by decide) _ xs.length _ hs hown.1 ad len cap (ys.map (Value.int .u8)) hx hB.lenMap (hB.cellsAt ad rfl) hB.one (by unfold maxLen; omega) (by omega) hbase ?_
    intro v' w' hown' hgrow _
    rw [← List.map_append] at hown'
    have O := ownB_of hown' hbx
    obtain ⟨a', c', hv⟩ := O.shape
    subst hv
    exact h a' _ c' w' O (Gr.grown hown.1 hgrow hbase)
set_option maxHeartbeats 1000000 in
theorem appendNumber_any {w : World} {base : Nat} {v : Value} {xs : List Int} (h : OwnB w base v xs) (m : Nat) (hm : m ≤ 9223372036854775807) (hl : xs.length ≤ 140737488000000) (hbase : base ≤ w.heap.size) :
    Calls Try.prog 48 #[v, .int .i64 (m : Int)] w fun e w' => ∃ v', e = .returned v' ∧ OwnB w' base v' (xs ++ uvar m) ∧ Gr base w w' := by
  obtain ⟨a, c, rfl⟩ := h.shape
  have hu := uvar_byte m (by omega)
  have hul := uvar_length m (by omega)
  have husz := usz_bd m
  have hw : IntKind.u64.wrap (m : Int) = (m : Int) := by rw [IntKind.wrap_u64]; omega
  go_enter Try.func48, Try.ntmps48
  go_wp2_with fail
  refine (uint_any m w (by omega)).mono ?_
  rintro e w1 ⟨rfl, O1, B1⟩
  have I1 := isB_own O1 hu
  have h1 := h.below B1
  have sz := B1.size
  clear O1
  go_wp2_with (at_builtin; refine app_own _ rfl _ _ rfl base _ xs rfl h1 _ _ _ _ rfl I1 (by omega) (by omega) ?_)
  intro a' n' c' w2 O2 G2
  clear I1 h1 h
  go_wp2
  go_ret
  exact ⟨_, rfl, O2, (Gr.of B1 hbase).trans G2⟩
/-- The bytes of a value. -/
def valB (k n : Int) : List Int := k :: (if k = 3 then uvar (zz n).toNat else if k = 4 then uvar n.toNat else [])
theorem okV_kind {k n : Int} (h : okV k n = true) : 0 ≤ k ∧ k ≤ 4 := by
  unfold okV at h
  split at h
  · omega
  · split at h
    · omega
    · split at h
      · omega
      · cases h
theorem okV_num3 {n : Int} (h : okV 3 n = true) : -1152921504606846976 ≤ n ∧ n < 1152921504606846976 := by
  rw [okV3] at h
  exact of_decide_eq_true h
theorem okV_num4 {n : Int} (h : okV 4 n = true) : 1 ≤ n ∧ n ≤ 4096 := by
  rw [okV4] at h
  exact of_decide_eq_true h
theorem zz_nat {n : Int} (h : -9223372036854775808 ≤ n ∧ n ≤ 9223372036854775807) : zz n = ((zz n).toNat : Int) ∧ (zz n).toNat < 18446744073709551616 := by
  have := zz_range n h.1 h.2
  omega
theorem valB_byte {k n : Int} (h : okV k n = true) : ∀ x ∈ valB k n, 0 ≤ x ∧ x < 256 := by
  have hk := okV_kind h
  intro x hx
  unfold valB at hx
  rw [List.mem_cons] at hx
  rcases hx with rfl | hx
  · omega
  · split at hx
    · next h3 =>
      subst h3
      have := okV_num3 h
      exact uvar_byte _ (zz_nat (by omega)).2 x hx
    · split at hx
      · next h4 =>
        subst h4
        have := okV_num4 h
        exact uvar_byte _ (by omega) x hx
      · cases hx
theorem valB_len {k n : Int} (h : okV k n = true) : 1 ≤ (valB k n).length ∧ (valB k n).length ≤ 11 := by
  unfold valB
  rw [List.length_cons]
  split
  · next h3 =>
    subst h3
    have := okV_num3 h
    rw [uvar_length _ (zz_nat (by omega)).2]
    have := usz_bd (zz n).toNat
    omega
  · split
    · next h4 =>
      subst h4
      have := okV_num4 h
      rw [uvar_length _ (by omega)]
      have := usz_bd n.toNat
      omega
    · simp
set_option maxHeartbeats 2000000 in
theorem appendVal_3 {w : World} {base : Nat} {v : Value} {xs : List Int} (h : OwnB w base v xs) (n : Int) (hn : -9223372036854775808 ≤ n ∧ n ≤ 9223372036854775807) (hl : xs.length ≤ 140737488000000) (hbase : base ≤ w.heap.size) :
    Calls Try.prog 56 #[v, .agg #[.int .i64 3, .int .i64 n]] w fun e w' => ∃ v', e = .returned v' ∧ OwnB w' base v' (xs ++ 3 :: uvar (zz n).toNat) ∧ Gr base w w' := by
  obtain ⟨hz, hzl⟩ := zz_nat hn
  obtain ⟨m, hm⟩ : ∃ m, Hid ((zz n).toNat = m) := ⟨_, rfl⟩
  rw [hm.out] at hz hzl ⊢
  replace hz : Hid (zz n = (m : Int)) := hz
  have hu := uvar_byte _ hzl
  have hul := uvar_length _ hzl
  have husz := usz_bd m
  clear hm
  obtain ⟨a, c, rfl⟩ := h.shape
  have I1 := (isB_lit (w.alloc (.cells #[.int .i64 3, .int .i64 n] 23)) #[.int .u8 3] [3] 1 rfl (by decide) rfl (by intro x hx; simp at hx; omega) (0, 0))
  rw [size1] at I1
  go_enter Try.func56, Try.ntmps56
  go_wp2_with (at_builtin; refine app_own _ rfl _ _ rfl base _ xs rfl ((h.below box_below).below box_below) _ _ _ _ rfl I1 (by omega) (by simp; omega) ?_)
  intro a1 n1 c1 w3 O3 G3
  have E3 := G3.keep w.heap.size #[.int .i64 3, .int .i64 n] 23 (by decide) (old1 (new1 _ _) _)
  have G4 : Gr base w w3 := ((Gr.of box_below hbase).trans (Gr.of box_below (Nat.le_trans hbase box_below.size))).trans G3
  have sz3 := G3.below.size
  rw [size1, size1] at sz3
  clear I1 h G3
  have z0 : w3.cell? ⟨w.heap.size, 0, none⟩ = some (.int .i64 3) := by rw [cell_of_row _ _ _ _ _ _ E3]; rfl
  have z1 : w3.cell? ⟨w.heap.size, 1, none⟩ = some (.int .i64 n) := by rw [cell_of_row _ _ _ _ _ _ E3]; rfl
  go_wp2_with fail
  refine (fold_any n w3 (by omega) (by omega)).mono ?_
  rintro e w4 ⟨rfl, rfl⟩
  rw [hz.out]
  go_wp2_with fail
  refine (uint_any m w4 hzl).mono ?_
  rintro e w5 ⟨rfl, O5, B5⟩
  have I5 := isB_own O5 hu
  have O3' := O3.below B5
  have sz5 := B5.size
  clear O5 z0 z1 O3
  go_wp2_with (at_builtin; refine app_own _ rfl _ _ rfl base _ (xs ++ [3]) rfl O3' _ _ _ _ rfl I5 (by simp; omega) (by omega) ?_)
  intro a2 n2 c2 w6 O6 G6
  clear I5 O3'
  go_wp2
  go_ret
  exact ⟨_, rfl, by simpa using O6, G4.trans ((Gr.of B5 (by omega)).trans G6)⟩
set_option maxHeartbeats 2000000 in
theorem appendVal_4 {w : World} {base : Nat} {v : Value} {xs : List Int} (h : OwnB w base v xs) (n : Int) (hn : 1 ≤ n ∧ n ≤ 4096) (hl : xs.length ≤ 140737488000000) (hbase : base ≤ w.heap.size) :
    Calls Try.prog 56 #[v, .agg #[.int .i64 4, .int .i64 n]] w fun e w' => ∃ v', e = .returned v' ∧ OwnB w' base v' (xs ++ 4 :: uvar n.toNat) ∧ Gr base w w' := by
  obtain ⟨m, rfl⟩ : ∃ m : Nat, n = (m : Int) := ⟨n.toNat, by omega⟩
  rw [Int.toNat_natCast]
  have hzl : m < 18446744073709551616 := by omega
  have hu := uvar_byte _ hzl
  have hul := uvar_length _ hzl
  have husz := usz_bd m
  have hw : IntKind.u64.wrap (m : Int) = (m : Int) := by rw [IntKind.wrap_u64]; omega
  obtain ⟨a, c, rfl⟩ := h.shape
  have I1 := (isB_lit (w.alloc (.cells #[.int .i64 4, .int .i64 (m : Int)] 23)) #[.int .u8 4] [4] 1 rfl (by decide) rfl (by intro x hx; simp at hx; omega) (0, 0))
  rw [size1] at I1
  go_enter Try.func56, Try.ntmps56
  go_wp2_with (at_builtin; refine app_own _ rfl _ _ rfl base _ xs rfl ((h.below box_below).below box_below) _ _ _ _ rfl I1 (by omega) (by simp; omega) ?_)
  intro a1 n1 c1 w3 O3 G3
  have E3 := G3.keep w.heap.size #[.int .i64 4, .int .i64 (m : Int)] 23 (by decide) (old1 (new1 _ _) _)
  have G4 : Gr base w w3 := ((Gr.of box_below hbase).trans (Gr.of box_below (Nat.le_trans hbase box_below.size))).trans G3
  have sz3 := G3.below.size
  rw [size1, size1] at sz3
  clear I1 h G3
  have z0 : w3.cell? ⟨w.heap.size, 0, none⟩ = some (.int .i64 4) := by rw [cell_of_row _ _ _ _ _ _ E3]; rfl
  have z1 : w3.cell? ⟨w.heap.size, 1, none⟩ = some (.int .i64 (m : Int)) := by rw [cell_of_row _ _ _ _ _ _ E3]; rfl
  go_wp2_with fail
  refine (uint_any m w3 hzl).mono ?_
  rintro e w5 ⟨rfl, O5, B5⟩
  have I5 := isB_own O5 hu
  have O3' := O3.below B5
  have sz5 := B5.size
  clear O5 z0 z1 O3
  go_wp2_with (at_builtin; refine app_own _ rfl _ _ rfl base _ (xs ++ [4]) rfl O3' _ _ _ _ rfl I5 (by simp; omega) (by omega) ?_)
  intro a2 n2 c2 w6 O6 G6
  clear I5 O3'
  go_wp2
  go_ret
  exact ⟨_, rfl, by simpa using O6, G4.trans ((Gr.of B5 (by omega)).trans G6)⟩
set_option maxHeartbeats 2000000 in
theorem appendVal_0 {w : World} {base : Nat} {v : Value} {xs : List Int} (h : OwnB w base v xs) (k n : Int) (hk : 0 ≤ k ∧ k ≤ 2) (hl : xs.length ≤ 140737488000000) (hbase : base ≤ w.heap.size) :
    Calls Try.prog 56 #[v, .agg #[.int .i64 k, .int .i64 n]] w fun e w' => ∃ v', e = .returned v' ∧ OwnB w' base v' (xs ++ [k]) ∧ Gr base w w' := by
  have hw : IntKind.u8.wrap k = k := by rw [IntKind.wrap_u8]; omega
  have b3 : (k == 3) = false := by simp; omega
  have b4 : (k == 4) = false := by simp; omega
  obtain ⟨a, c, rfl⟩ := h.shape
  have I1 := (isB_lit (w.alloc (.cells #[.int .i64 k, .int .i64 n] 23)) #[.int .u8 k] [k] 1 rfl (by decide) rfl (by intro x hx; simp at hx; omega) (0, 0))
  rw [size1] at I1
  go_enter Try.func56, Try.ntmps56
  go_wp2_with (at_builtin; refine app_own _ rfl _ _ rfl base _ xs rfl ((h.below box_below).below box_below) _ _ _ _ rfl I1 (by omega) (by simp; omega) ?_)
  intro a1 n1 c1 w3 O3 G3
  have E3 := G3.keep w.heap.size #[.int .i64 k, .int .i64 n] 23 (by decide) (old1 (new1 _ _) _)
  have G4 : Gr base w w3 := ((Gr.of box_below hbase).trans (Gr.of box_below (Nat.le_trans hbase box_below.size))).trans G3
  have sz3 := G3.below.size
  rw [size1, size1] at sz3
  clear I1 h G3
  have z0 : w3.cell? ⟨w.heap.size, 0, none⟩ = some (.int .i64 k) := by rw [cell_of_row _ _ _ _ _ _ E3]; rfl
  have z1 : w3.cell? ⟨w.heap.size, 1, none⟩ = some (.int .i64 n) := by rw [cell_of_row _ _ _ _ _ _ E3]; rfl
  go_wp2
  go_ret
  exact ⟨_, rfl, O3, G4⟩
theorem appendVal_any {w : World} {base : Nat} {v : Value} {xs : List Int} (h : OwnB w base v xs) (k n : Int) (hok : okV k n = true) (hl : xs.length ≤ 140737488000000) (hbase : base ≤ w.heap.size) :
    Calls Try.prog 56 #[v, .agg #[.int .i64 k, .int .i64 n]] w fun e w' => ∃ v', e = .returned v' ∧ OwnB w' base v' (xs ++ valB k n) ∧ Gr base w w' := by
  have hk := okV_kind hok
  by_cases h3 : k = 3
  · subst h3
    have hn := okV_num3 hok
    exact appendVal_3 h n (by omega) hl hbase
  · by_cases h4 : k = 4
    · subst h4
      exact appendVal_4 h n (okV_num4 hok) hl hbase
    · have e : valB k n = [k] := by simp [valB, h3, h4]
      rw [e]
      exact appendVal_0 h k n (by omega) hl hbase
end Go.Proofs.Ytjfaflmmanjjbaa
