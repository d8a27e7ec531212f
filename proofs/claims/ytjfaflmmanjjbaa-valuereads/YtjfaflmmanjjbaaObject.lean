/- The reader: slots. -/
import Derived.Test.YtjfaflmmanjjbaaRdr2
import Derived.WalkMore
import Derived.Deep.LoopGhost
namespace Go.Proofs.Ytjfaflmmanjjbaa
open Go.RowKit
set_option maxRecDepth 100000
/-- One slot read. -/
def slotR (s : Option (List Int)) : (Int × Int) × Option (List Int) :=
  if (oR s).1 = 0 ∨ (oR s).1 = 1 ∨ (oR s).1 = 2 then (((oR s).1, 0), (oR s).2)
  else if (oR s).1 = 3 then ((3, unzz ((uR (oR s).2).1 : Int)), (uR (oR s).2).2)
  else if (oR s).1 = 4 then ((4, ((nR 4096 (oR s).2).1 : Int)), (nR 4096 (oR s).2).2)
  else (((oR s).1, 0), none)
def slotsR : Nat → Option (List Int) → List (Int × Int) × Option (List Int)
  | 0, s => ([], s)
  | n + 1, s => if (slotR s).2 = none then ([], none) else ((slotR s).1 :: (slotsR n (slotR s).2).1, (slotsR n (slotR s).2).2)
theorem slotsR_stop {n : Nat} {s : Option (List Int)} {p : Int × Int} (h : slotR s = (p, none)) : slotsR (n + 1) s = ([], none) := by
  simp [slotsR, h]
theorem slotsR_go {n : Nat} {s : Option (List Int)} {p : Int × Int} {t : List Int} (h : slotR s = (p, some t)) : slotsR (n + 1) s = (p :: (slotsR n (some t)).1, (slotsR n (some t)).2) := by
  simp [slotsR, h]
theorem rd_lt : ∀ (xs : List Int) (i acc : Nat), (∀ x ∈ xs, 0 ≤ x ∧ x < 256) → i ≤ 9 → acc < 128 ^ i → (rd i acc xs).1 < 18446744073709551616
  | [], i, acc, _, _, _ => by simp [rd]
  | x :: r, i, acc, hb, hi, ha => by
    have hx := hb x (by simp)
    unfold rd
    split
    · simp
    · next h9 =>
      split
      · split
        · simp
        · have h1 : (128 : Nat) ^ i ≤ 128 ^ 9 := Nat.pow_le_pow_right (by decide) hi
          by_cases e : i = 9
          · subst e
            have h2 : x.toNat ≤ 1 := by omega
            have h3 : x.toNat * 128 ^ 9 ≤ 1 * 128 ^ 9 := Nat.mul_le_mul_right _ h2
            have h4 : (128 : Nat) ^ 9 = 9223372036854775808 := by decide
            simp only
            omega
          · have h5 : (128 : Nat) ^ i ≤ 128 ^ 8 := Nat.pow_le_pow_right (by decide) (by omega)
            have h2 : x.toNat ≤ 127 := by omega
            have h3 : x.toNat * 128 ^ i ≤ 127 * 128 ^ 8 := Nat.mul_le_mul h2 h5
            have h4 : (128 : Nat) ^ 8 = 72057594037927936 := by decide
            simp only
            omega
      · next h8 =>
        have h9' : i ≠ 9 := by omega
        refine rd_lt r (i + 1) _ (fun y hy => hb y (by simp [hy])) (by omega) ?_
        have h2 : x.toNat % 128 ≤ 127 := by omega
        have h3 : x.toNat % 128 * 128 ^ i ≤ 127 * 128 ^ i := Nat.mul_le_mul_right _ h2
        rw [Nat.pow_succ]
        omega
theorem uR_lt {s : Option (List Int)} (h : ∀ x ∈ s.getD [], 0 ≤ x ∧ x < 256) : (uR s).1 < 18446744073709551616 := by
  have := rd_lt (s.getD []) 0 0 h (by omega) (by decide)
  unfold uR
  split <;> exact this
theorem nR_le {most : Nat} {s : Option (List Int)} : (nR most s).1 ≤ most := by
  unfold nR
  split
  · simp
  · omega
theorem OwnV.shape' {w : World} {base : Nat} {v : Value} {vs : List (Int × Int)} (h : OwnV w base v vs) : ∃ a n c, v = .slice a n c := by
  obtain ⟨_, a, c, e, _⟩ := h
  exact ⟨a, _, c, e⟩
theorem OwnV.wf {w : World} {base : Nat} {v : Value} {vs : List (Int × Int)} (h : OwnV w base v vs) : wfVs vs := by
  obtain ⟨_, a, c, e, k⟩ := h
  exact k.wf
theorem OwnV.lt {w : World} {base : Nat} {v : Value} {vs : List (Int × Int)} (h : OwnV w base v vs) : ∀ g, v.ownBlock = some g → base ≤ g ∧ g < w.heap.size := fun g hg => by
  obtain ⟨h1, cur, hh⟩ := own_block h.1 hg
  exact ⟨h1, lt_of_block hh⟩
theorem OwnV.same {w w' : World} {base : Nat} {v : Value} {vs : List (Int × Int)} (h : OwnV w base v vs) (hk : ∀ g, v.ownBlock = some g → w'.heap[g]? = w.heap[g]?) : OwnV w' base v vs := ownV_of (own_same h.1 hk) h.wf
theorem ownV_nil (w : World) (base : Nat) : OwnV w base (.slice none 0 0) [] := ownV_of (n := 0) (World.ownsRow_nil _ _ _ _) (by intro v hv; cases hv)
theorem isV_lit (w : World) (x y : Int) (hx : -9223372036854775808 ≤ x ∧ x ≤ 9223372036854775807) (hy : -9223372036854775808 ≤ y ∧ y ≤ 9223372036854775807) : IsV (w.alloc (.cells #[.int .i64 x, .int .i64 y] 23)) (some ⟨w.heap.size, 0, none⟩) 1 1 [(x, y)] := by
  refine ⟨rfl, Nat.le_refl _, by decide, by simp, by intro v hv; simp at hv; subst hv; exact ⟨hx, hy⟩, fun _ => ⟨_, _, rfl, fun i hi => ?_⟩⟩
  obtain rfl : i = 0 := by omega
  simp
end Go.Proofs.Ytjfaflmmanjjbaa
namespace Go.Proofs.Ytjfaflmmanjjbaa
open Go.RowKit
set_option maxRecDepth 100000
theorem app_ownV {ops : Array Oper} {rest : List Oper} {o : Oper} {a : Act} {Q : Exit → Act → World → Prop} (w : World) (hgd : o.guard = none) (s x : Operand)
    (ho : o.op = .call { callee := .builtin .append, args := #[s, x], argTypes := #[24, 24] })
    (base : Nat) (v : Value) (xs : List (Int × Int)) (hs : a.eval s = v) (hown : OwnV w base v xs)
    (ab : Option Addr) (len cap : Nat) (ys : List (Int × Int)) (hx : a.eval x = .slice ab len cap) (hB : IsV w ab len cap ys) (h47 : xs.length + len ≤ 8796093022208) (hbase : base ≤ w.heap.size)
    (h : ∀ a' n' c' w', OwnV w' base (.slice a' n' c') (xs ++ ys) → Below base w w' → wpList Try.prog ops Q rest (a.put o.dst (.slice a' n' c')) w') : wpList Try.prog ops Q (o :: rest) a w := by
  refine app_vals w hgd s x ho base v xs.length xs hs hown.1 ab len cap ys hx hB h47 hbase ?_
  intro v' w' O B
  have hwf : wfVs (xs ++ ys) := fun v hv => by
    rcases List.mem_append.1 hv with h1 | h1
    · exact hown.wf v h1
    · exact hB.wf v h1
  have O' := ownV_of O hwf
  obtain ⟨a', n', c', rfl⟩ := O'.shape'
  exact h a' n' c' w' O' B
theorem But.then_below {b : Nat} {w w1 w2 : World} (K : But b w w1) (B : Below w.heap.size w1 w2) : But b w w2 :=
  ⟨B.os.trans K.os, B.tape.trans K.tape, B.output.trans K.output, Nat.le_trans K.size B.size, fun i hi hb => (B.block i hi).trans (K.block i hi hb)⟩
/-- A value's block. -/
def vO (x y : Int) : Obj := .cells #[.int .i64 x, .int .i64 y] 23 (0, 0)
theorem v_cells {w : World} {b : Nat} {x y : Int} (h : w.heap[b]? = some (vO x y)) : w.cell? ⟨b, 0, none⟩ = some (.int .i64 x) ∧ w.cell? ⟨b, 1, none⟩ = some (.int .i64 y) ∧ ∀ i, w.frozen? ⟨b, i, none⟩ = false := by
  unfold vO at h
  refine ⟨?_, ?_, fun i => frozen_of_row w b i _ _ h⟩ <;> (rw [cell_of_row w b _ _ _ _ h]; rfl)
theorem v_set1 {w : World} {b : Nat} {x y : Int} (h : w.heap[b]? = some (vO x y)) (z : Int) : (w.setCell ⟨b, 1, none⟩ (.int .i64 z)).heap[b]? = some (vO x z) := by
  unfold vO at h ⊢
  rw [heap_setCell_same w b 1 _ _ _ h]
  simp
theorem number_lit {w0 w : World} {b : Nat} {s : Option (List Int)} (h : Rd w0 w b s) (B : Below w0.heap.size w0 w) (most : Nat) (m : Int) (hm' : m = (most : Int)) (hm : most ≤ 9223372036854775807) : Calls Try.prog 52 #[.pointer (some ⟨b, 0, none⟩), .int .u64 m] w fun e w' => e = .returned (.int .i64 ((nR most s).1 : Int)) ∧ Rd w0 w' b (nR most s).2 ∧ But b w w' := by
  subst hm'
  exact number_rd h B most hm
theorem oR_none {s : Option (List Int)} {o : Int} (h : oR s = (o, none)) : o = 0 := by
  unfold oR at h
  split at h
  · simp at h; omega
  · simp at h
set_option maxHeartbeats 8000000 in
theorem slots_rd {w0 w : World} {b : Nat} {s : Option (List Int)} (h : Rd w0 w b s) (B : Below w0.heap.size w0 w) (hb0 : w0.heap.size ≤ b) : Calls Try.prog 60 #[.pointer (some ⟨b, 0, none⟩)] w fun e w' => ∃ v, e = .returned v ∧ OwnV w' w.heap.size v (slotsR (nR 256 s).1 (nR 256 s).2).1 ∧ Rd w0 w' b (slotsR (nR 256 s).1 (nR 256 s).2).2 ∧ But b w w' := by
  have hbw : b < w.heap.size := by obtain ⟨_, _, _, E, _⟩ := h.blk; exact lt_of_block E
  have hN := nR_le (most := 256) (s := s)
  obtain ⟨N, s0, hNs⟩ : ∃ N s0, Hid (nR 256 s = (N, s0)) := ⟨_, _, rfl⟩
  rw [hNs.out] at hN ⊢
  dsimp only at hN ⊢
  go_enter Try.func60, Try.ntmps60
  go_wp2_with fail
  go_step3
  go_wp2_with fail
  go_step3
  go_wp2_with fail
  refine (number_lit h B 256 256 rfl (by decide)).mono ?_
  rintro e w1 ⟨rfl, R1, K1⟩
  rw [hNs.out] at R1 ⊢
  dsimp only at R1 ⊢
  clear h
  go_wp2
  go_loopw [3, 7] (fun ov iv wr => ∃ (k : Nat) (a : Option Addr) (n c : Nat) (vs : List (Int × Int)) (s' : Option (List Int)), k ≤ N ∧ iv = .int .i64 (k : Int) ∧ ov = .slice a n c ∧ OwnV wr w.heap.size (.slice a n c) vs ∧ vs.length = k ∧ Rd w0 wr b s' ∧ But b w wr ∧ slotsR N s0 = (vs ++ (slotsR (N - k) s').1, (slotsR (N - k) s').2)) (fun _ iv _ => N - (intOf iv).toNat)
  case atStart => exact ⟨0, none, 0, 0, [], s0, by omega, rfl, rfl, ownV_nil _ _, rfl, R1, K1, by simp⟩
  case round =>
    clear R1 K1
    obtain ⟨k, a, n, c, vs, s', hk, rfl, rfl, O, hvl, R, K, hS0⟩ := hrel
    have hS : Hid (slotsR N s0 = (vs ++ (slotsR (N - k) s').1, (slotsR (N - k) s').2)) := hS0
    clear hS0
    have Bw := K.below B B.size hb0
    by_cases hlt : k < N
    · obtain ⟨j, hj⟩ : ∃ j, Hid (N - k = j + 1) := ⟨N - k - 1, by show N - k = _; omega⟩
      obtain ⟨o, t', ho⟩ : ∃ o t', Hid (oR s' = (o, t')) := ⟨_, _, rfl⟩
      go_wp2_with fail
      refine (octet_rd R Bw).mono ?_
      rintro e w2 ⟨rfl, R2, K2⟩
      rw [ho.out] at R2 ⊢
      have O2 := O.same (fun g hg => K2.block g (O.lt g hg).2 (by have := (O.lt g hg).1; omega))
      have K2' := K.trans K2
      clear O R K K2
      have B3 : Below w2.heap.size w2 (w2.alloc (.cells #[.int .i64 o, .int .i64 0] 23)) := box_below
      have E3 : (w2.alloc (.cells #[.int .i64 o, .int .i64 0] 23)).heap[w2.heap.size]? = some (vO o 0) := new1 _ _
      have O3 := O2.below B3
      have R3 := R2.keep (B3.block b (by have := K2'.size; omega))
      have K3 := K2'.trans (But.of B3)
      have hvb : w.heap.size ≤ w2.heap.size := K2'.size
      have hgv : ∀ g, (Value.slice a n c).ownBlock = some g → g < w2.heap.size := fun g hg => (O2.lt g hg).2
      have hsl0 : slotR s' = if o = 0 ∨ o = 1 ∨ o = 2 then ((o, 0), t') else if o = 3 then ((3, unzz ((uR t').1 : Int)), (uR t').2) else if o = 4 then ((4, ((nR 4096 t').1 : Int)), (nR 4096 t').2) else ((o, 0), none) := by unfold slotR; rw [ho.out]
      clear R2 O2 B3
      cases t' with
      | none =>
        obtain rfl := oR_none ho.out
        have hsl : Hid (slotR s' = ((0, 0), none)) := by show slotR s' = _; rw [hsl0]; rfl
        clear hsl0 ho K2'
        obtain ⟨y0, y1, yf⟩ := rd_cells R3
        go_wp2
        (try rw [Exit.noGoto_ret])
        go_ret
        exact ⟨_, rfl, by rw [hS.out, hj.out, slotsR_stop hsl.out]; simpa using O3, by rw [hS.out, hj.out, slotsR_stop hsl.out]; exact R3, K3⟩
      | some t =>
        by_cases h0 : o = 0 ∨ o = 1 ∨ o = 2
        · have hsl : Hid (slotR s' = ((o, 0), some t)) := by show slotR s' = _; rw [hsl0, if_pos h0]
          clear hsl0 ho K2'
          rcases h0 with rfl | rfl | rfl
          · have B9 : Below (w2.alloc (.cells #[.int .i64 0, .int .i64 0] 23)).heap.size (w2.alloc (.cells #[.int .i64 0, .int .i64 0] 23)) ((w2.alloc (.cells #[.int .i64 0, .int .i64 0] 23)).alloc (.cells #[.int .i64 0, .int .i64 0] 23)) := box_below
            have I9 := isV_lit (w2.alloc (.cells #[.int .i64 0, .int .i64 0] 23)) 0 0 (by omega) (by omega)
            rw [size1] at I9
            have O9 := O3.below B9
            have K9 : But b w ((w2.alloc (.cells #[.int .i64 0, .int .i64 0] 23)).alloc (.cells #[.int .i64 0, .int .i64 0] 23)) := K3.trans (But.of B9)
            have R9 := R3.keep (B9.block b (by have := K3.size; omega))
            obtain ⟨x0, x1, xf⟩ := v_cells E3
            obtain ⟨_, _, _, yE, _⟩ := R3
            obtain ⟨y0, y1, yf⟩ := rd_cells yE
            go_wp2_with (at_builtin; refine app_ownV _ rfl _ _ rfl w.heap.size _ vs rfl O9 _ _ _ _ rfl I9 (by omega) (by have := K9.size; omega) ?_)
            intro a5 n5 c5 w5 O5 B5
            have R5 := R9.keep (B5.block b hbw)
            have K5 := K9.then_below B5
            clear O9 K9 R9 I9 B9 B5 x0 x1 xf y0 y1 yf yE O3 K3 E3
            go_wp2
            go_roundw
            case rel => exact ⟨k + 1, a5, n5, c5, vs ++ [(0, 0)], _, by omega, by go_num, rfl, O5, by simp [hvl], R5, K5, by rw [hS.out, hj.out, slotsR_go hsl.out]; simp [show N - (k + 1) = j by have := hj.out; omega]⟩
            case measure => simp [intOf]; omega
          · have B9 : Below (w2.alloc (.cells #[.int .i64 1, .int .i64 0] 23)).heap.size (w2.alloc (.cells #[.int .i64 1, .int .i64 0] 23)) ((w2.alloc (.cells #[.int .i64 1, .int .i64 0] 23)).alloc (.cells #[.int .i64 1, .int .i64 0] 23)) := box_below
            have I9 := isV_lit (w2.alloc (.cells #[.int .i64 1, .int .i64 0] 23)) 1 0 (by omega) (by omega)
            rw [size1] at I9
            have O9 := O3.below B9
            have K9 : But b w ((w2.alloc (.cells #[.int .i64 1, .int .i64 0] 23)).alloc (.cells #[.int .i64 1, .int .i64 0] 23)) := K3.trans (But.of B9)
            have R9 := R3.keep (B9.block b (by have := K3.size; omega))
            obtain ⟨x0, x1, xf⟩ := v_cells E3
            obtain ⟨_, _, _, yE, _⟩ := R3
            obtain ⟨y0, y1, yf⟩ := rd_cells yE
            go_wp2_with (at_builtin; refine app_ownV _ rfl _ _ rfl w.heap.size _ vs rfl O9 _ _ _ _ rfl I9 (by omega) (by have := K9.size; omega) ?_)
            intro a5 n5 c5 w5 O5 B5
            have R5 := R9.keep (B5.block b hbw)
            have K5 := K9.then_below B5
            clear O9 K9 R9 I9 B9 B5 x0 x1 xf y0 y1 yf yE O3 K3 E3
            go_wp2
            go_roundw
            case rel => exact ⟨k + 1, a5, n5, c5, vs ++ [(1, 0)], _, by omega, by go_num, rfl, O5, by simp [hvl], R5, K5, by rw [hS.out, hj.out, slotsR_go hsl.out]; simp [show N - (k + 1) = j by have := hj.out; omega]⟩
            case measure => simp [intOf]; omega
          · have B9 : Below (w2.alloc (.cells #[.int .i64 2, .int .i64 0] 23)).heap.size (w2.alloc (.cells #[.int .i64 2, .int .i64 0] 23)) ((w2.alloc (.cells #[.int .i64 2, .int .i64 0] 23)).alloc (.cells #[.int .i64 2, .int .i64 0] 23)) := box_below
            have I9 := isV_lit (w2.alloc (.cells #[.int .i64 2, .int .i64 0] 23)) 2 0 (by omega) (by omega)
            rw [size1] at I9
            have O9 := O3.below B9
            have K9 : But b w ((w2.alloc (.cells #[.int .i64 2, .int .i64 0] 23)).alloc (.cells #[.int .i64 2, .int .i64 0] 23)) := K3.trans (But.of B9)
            have R9 := R3.keep (B9.block b (by have := K3.size; omega))
            obtain ⟨x0, x1, xf⟩ := v_cells E3
            obtain ⟨_, _, _, yE, _⟩ := R3
            obtain ⟨y0, y1, yf⟩ := rd_cells yE
            go_wp2_with (at_builtin; refine app_ownV _ rfl _ _ rfl w.heap.size _ vs rfl O9 _ _ _ _ rfl I9 (by omega) (by have := K9.size; omega) ?_)
            intro a5 n5 c5 w5 O5 B5
            have R5 := R9.keep (B5.block b hbw)
            have K5 := K9.then_below B5
            clear O9 K9 R9 I9 B9 B5 x0 x1 xf y0 y1 yf yE O3 K3 E3
            go_wp2
            go_roundw
            case rel => exact ⟨k + 1, a5, n5, c5, vs ++ [(2, 0)], _, by omega, by go_num, rfl, O5, by simp [hvl], R5, K5, by rw [hS.out, hj.out, slotsR_go hsl.out]; simp [show N - (k + 1) = j by have := hj.out; omega]⟩
            case measure => simp [intOf]; omega
        have b0 : (o == 0) = false := by simp; omega
        have b1 : (o == 1) = false := by simp; omega
        have b2 : (o == 2) = false := by simp; omega
        rw [if_neg h0] at hsl0
        by_cases h3 : o = 3
        · subst h3
          rw [if_pos rfl] at hsl0
          clear K2' b0 b1 b2 h0
          have Bw3 := K3.below B B.size hb0
          obtain ⟨u, t2, hu⟩ : ∃ u t2, Hid (uR (some t) = (u, t2)) := ⟨_, _, rfl⟩
          rw [hu.out] at hsl0
          dsimp only at hsl0
          have hul : u < 18446744073709551616 := by
            have := uR_lt (s := some t) (by obtain ⟨_, _, _, _, I⟩ := R3; exact I.byte)
            rwa [hu.out] at this
          have huz := unzz_range (u : Int) (by omega) (by omega)
          go_wp2_with fail
          refine (uint_rd R3 Bw3).mono ?_
          rintro e w4 ⟨rfl, R4, K4⟩
          rw [hu.out] at R4 ⊢
          dsimp only at R4 ⊢
          have E4 := (K4.block w2.heap.size (lt_of_block E3) (by omega)).trans E3
          have O4 := O3.same (fun g hg => K4.block g (O3.lt g hg).2 (by have := (O3.lt g hg).1; omega))
          have K4' := K3.trans K4
          clear R3 O3 K3 E3 K4 Bw3
          go_wp2_with fail
          refine (unfold_any (u : Int) _ (by omega) (by omega)).mono ?_
          rintro e w4' ⟨rfl, rfl⟩
          obtain ⟨z, hz⟩ : ∃ z, Hid (unzz (u : Int) = z) := ⟨_, rfl⟩
          rw [hz.out] at huz hsl0 ⊢
          have E5 := v_set1 E4 z
          have O5 := O4.same (w' := w4'.setCell ⟨w2.heap.size, 1, none⟩ (.int .i64 z)) (fun g hg => heap_setCell_other _ _ _ _ (by have := hgv g hg; show g ≠ w2.heap.size; omega))
          have R5 := R4.keep (w' := w4'.setCell ⟨w2.heap.size, 1, none⟩ (.int .i64 z)) (heap_setCell_other _ _ _ _ (by show b ≠ w2.heap.size; omega))
          have K5 : But b w (w4'.setCell ⟨w2.heap.size, 1, none⟩ (.int .i64 z)) := K4'.then_below (below_setCell (Below.refl _ _) hvb)
          obtain ⟨v0, v1, vf⟩ := v_cells E4
          cases t2 with
          | none =>
            have hsl : Hid (slotR s' = ((3, z), none)) := hsl0
            clear hsl0 hu ho hul huz hz
            obtain ⟨y0', y1', yf'⟩ := rd_cells R4
            obtain ⟨y0, y1, yf⟩ := rd_cells R5
            go_wp2
            (try rw [Exit.noGoto_ret])
            go_ret
            exact ⟨_, rfl, by rw [hS.out, hj.out, slotsR_stop hsl.out]; simpa using O5, by rw [hS.out, hj.out, slotsR_stop hsl.out]; exact R5, K5⟩
          | some t2 =>
            have hsl : Hid (slotR s' = ((3, z), some t2)) := hsl0
            obtain ⟨_, _, _, yE', _⟩ := R4
            obtain ⟨y0', y1', yf'⟩ := rd_cells yE'
            clear hsl0 hu ho hul hz O4 K4' yE'
            have B9 : Below (w4'.setCell ⟨w2.heap.size, 1, none⟩ (.int .i64 z)).heap.size (w4'.setCell ⟨w2.heap.size, 1, none⟩ (.int .i64 z)) ((w4'.setCell ⟨w2.heap.size, 1, none⟩ (.int .i64 z)).alloc (.cells #[.int .i64 3, .int .i64 z] 23)) := box_below
            have I9 := isV_lit (w4'.setCell ⟨w2.heap.size, 1, none⟩ (.int .i64 z)) 3 z (by omega) (by omega)
            rw [show (w4'.setCell ⟨w2.heap.size, 1, none⟩ (.int .i64 z)).heap.size = w4'.heap.size by simp] at I9
            have O9 := O5.below B9
            have K9 : But b w ((w4'.setCell ⟨w2.heap.size, 1, none⟩ (.int .i64 z)).alloc (.cells #[.int .i64 3, .int .i64 z] 23)) := K5.trans (But.of B9)
            have R9 := R5.keep (B9.block b (by have := K5.size; omega))
            obtain ⟨x0, x1, xf⟩ := v_cells E5
            obtain ⟨_, _, _, yE, _⟩ := R5
            obtain ⟨y0, y1, yf⟩ := rd_cells yE
            go_wp2_with (at_builtin; refine app_ownV _ rfl _ _ rfl w.heap.size _ vs rfl O9 _ _ _ _ rfl I9 (by omega) (by have := K9.size; omega) ?_)
            intro a5 n5 c5 w5 O6 B5
            have R6 := R9.keep (B5.block b hbw)
            have K6 := K9.then_below B5
            clear O9 K9 R9 I9 B9 B5 x0 x1 xf y0 y1 yf yE O5 K5 E5
            go_wp2
            go_roundw
            case rel => exact ⟨k + 1, a5, n5, c5, vs ++ [(3, z)], _, by omega, by go_num, rfl, O6, by simp [hvl], R6, K6, by rw [hS.out, hj.out, slotsR_go hsl.out]; simp [show N - (k + 1) = j by have := hj.out; omega]⟩
            case measure => simp [intOf]; omega
        have b3 : (o == 3) = false := by simp; omega
        rw [if_neg h3] at hsl0
        by_cases h4 : o = 4
        · subst h4
          rw [if_pos rfl] at hsl0
          clear K2' b0 b1 b2 b3 h0 h3
          have Bw3 := K3.below B B.size hb0
          obtain ⟨u, t2, hu⟩ : ∃ u t2, Hid (nR 4096 (some t) = (u, t2)) := ⟨_, _, rfl⟩
          rw [hu.out] at hsl0
          dsimp only at hsl0
          have hul : u ≤ 4096 := by
            have := nR_le (most := 4096) (s := some t)
            rwa [hu.out] at this
          go_wp2_with fail
          refine (number_lit R3 Bw3 4096 4096 rfl (by decide)).mono ?_
          rintro e w4 ⟨rfl, R4, K4⟩
          rw [hu.out] at R4 ⊢
          dsimp only at R4 ⊢
          have E4 := (K4.block w2.heap.size (lt_of_block E3) (by omega)).trans E3
          have O4 := O3.same (fun g hg => K4.block g (O3.lt g hg).2 (by have := (O3.lt g hg).1; omega))
          have K4' := K3.trans K4
          clear R3 O3 K3 E3 K4 Bw3
          obtain ⟨z, hz⟩ : ∃ z, Hid ((u : Int) = z) := ⟨_, rfl⟩
          have huz : 0 ≤ z ∧ z ≤ 4096 := by have := hz.out; omega
          rw [hz.out] at hsl0 ⊢
          have E5 := v_set1 E4 z
          have O5 := O4.same (w' := w4.setCell ⟨w2.heap.size, 1, none⟩ (.int .i64 z)) (fun g hg => heap_setCell_other _ _ _ _ (by have := hgv g hg; show g ≠ w2.heap.size; omega))
          have R5 := R4.keep (w' := w4.setCell ⟨w2.heap.size, 1, none⟩ (.int .i64 z)) (heap_setCell_other _ _ _ _ (by show b ≠ w2.heap.size; omega))
          have K5 : But b w (w4.setCell ⟨w2.heap.size, 1, none⟩ (.int .i64 z)) := K4'.then_below (below_setCell (Below.refl _ _) hvb)
          obtain ⟨v0, v1, vf⟩ := v_cells E4
          cases t2 with
          | none =>
            have hsl : Hid (slotR s' = ((4, z), none)) := hsl0
            clear hsl0 hu ho hul huz hz
            obtain ⟨y0', y1', yf'⟩ := rd_cells R4
            obtain ⟨y0, y1, yf⟩ := rd_cells R5
            go_wp2
            (try rw [Exit.noGoto_ret])
            go_ret
            exact ⟨_, rfl, by rw [hS.out, hj.out, slotsR_stop hsl.out]; simpa using O5, by rw [hS.out, hj.out, slotsR_stop hsl.out]; exact R5, K5⟩
          | some t2 =>
            have hsl : Hid (slotR s' = ((4, z), some t2)) := hsl0
            obtain ⟨_, _, _, yE', _⟩ := R4
            obtain ⟨y0', y1', yf'⟩ := rd_cells yE'
            clear hsl0 hu ho hul hz O4 K4' yE'
            have B9 : Below (w4.setCell ⟨w2.heap.size, 1, none⟩ (.int .i64 z)).heap.size (w4.setCell ⟨w2.heap.size, 1, none⟩ (.int .i64 z)) ((w4.setCell ⟨w2.heap.size, 1, none⟩ (.int .i64 z)).alloc (.cells #[.int .i64 4, .int .i64 z] 23)) := box_below
            have I9 := isV_lit (w4.setCell ⟨w2.heap.size, 1, none⟩ (.int .i64 z)) 4 z (by omega) (by omega)
            rw [show (w4.setCell ⟨w2.heap.size, 1, none⟩ (.int .i64 z)).heap.size = w4.heap.size by simp] at I9
            have O9 := O5.below B9
            have K9 : But b w ((w4.setCell ⟨w2.heap.size, 1, none⟩ (.int .i64 z)).alloc (.cells #[.int .i64 4, .int .i64 z] 23)) := K5.trans (But.of B9)
            have R9 := R5.keep (B9.block b (by have := K5.size; omega))
            obtain ⟨x0, x1, xf⟩ := v_cells E5
            obtain ⟨_, _, _, yE, _⟩ := R5
            obtain ⟨y0, y1, yf⟩ := rd_cells yE
            go_wp2_with (at_builtin; refine app_ownV _ rfl _ _ rfl w.heap.size _ vs rfl O9 _ _ _ _ rfl I9 (by omega) (by have := K9.size; omega) ?_)
            intro a5 n5 c5 w5 O6 B5
            have R6 := R9.keep (B5.block b hbw)
            have K6 := K9.then_below B5
            clear O9 K9 R9 I9 B9 B5 x0 x1 xf y0 y1 yf yE O5 K5 E5
            go_wp2
            go_roundw
            case rel => exact ⟨k + 1, a5, n5, c5, vs ++ [(4, z)], _, by omega, by go_num, rfl, O6, by simp [hvl], R6, K6, by rw [hS.out, hj.out, slotsR_go hsl.out]; simp [show N - (k + 1) = j by have := hj.out; omega]⟩
            case measure => simp [intOf]; omega
        have b4 : (o == 4) = false := by simp; omega
        rw [if_neg h4] at hsl0
        have hsl : Hid (slotR s' = ((o, 0), none)) := hsl0
        clear hsl0 ho K2'
        go_wp2_with fail
        refine (giveUp_any R3).mono ?_
        rintro e w4 ⟨rfl, R4, K4⟩
        have O4 := O3.same (fun g hg => K4.block g (O3.lt g hg).2 (by have := (O3.lt g hg).1; omega))
        have K4' := K3.trans K4
        clear R3 O3 K3 E3 K4
        obtain ⟨y0, y1, yf⟩ := rd_cells R4
        go_wp2
        (try rw [Exit.noGoto_ret])
        go_ret
        exact ⟨_, rfl, by rw [hS.out, hj.out, slotsR_stop hsl.out]; simpa using O4, by rw [hS.out, hj.out, slotsR_stop hsl.out]; exact R4, K4'⟩
    · have e0 : N - k = 0 := by omega
      rw [e0] at hS
      go_wp2
      (try rw [Exit.noGoto_ret])
      go_ret
      exact ⟨_, rfl, by rw [hS.out]; simpa [slotsR] using O, by rw [hS.out]; simpa [slotsR] using R, K⟩
end Go.Proofs.Ytjfaflmmanjjbaa
namespace Go.Proofs.Ytjfaflmmanjjbaa
open Go.RowKit
set_option maxRecDepth 100000
def lenS (s : Option (List Int)) : Nat := (s.getD []).length
theorem uR_len (s : Option (List Int)) : lenS (uR s).2 ≤ lenS s := by
  unfold uR lenS
  split
  · simp
  · simp
theorem nR_len (m : Nat) (s : Option (List Int)) : lenS (nR m s).2 ≤ lenS s := by
  unfold nR
  split
  · simp [lenS]
  · exact uR_len s
theorem oR_len (s : Option (List Int)) : lenS (oR s).2 ≤ lenS s := by
  unfold oR
  split
  · simp [lenS]
  · next x t h => simp [lenS, h]
theorem slotR_len (s : Option (List Int)) : lenS (slotR s).2 ≤ lenS s := by
  have h0 := oR_len s
  unfold slotR
  split
  · exact h0
  · split
    · exact Nat.le_trans (uR_len _) h0
    · split
      · exact Nat.le_trans (nR_len _ _) h0
      · simp [lenS]
theorem slotsR_len : ∀ (n : Nat) (s : Option (List Int)), lenS (slotsR n s).2 ≤ lenS s
  | 0, s => Nat.le_refl _
  | n + 1, s => by
    unfold slotsR
    split
    · simp [lenS]
    · exact Nat.le_trans (slotsR_len n _) (slotR_len s)
/-- An object read: class, values, bytes, what is left. -/
def objR (s : Option (List Int)) : Int × List (Int × Int) × List Int × Option (List Int) :=
  (((nR 4096 s).1 : Int), (slotsR (nR 256 (nR 4096 s).2).1 (nR 256 (nR 4096 s).2).2).1, (tR (slotsR (nR 256 (nR 4096 s).2).1 (nR 256 (nR 4096 s).2).2).2).1, (tR (slotsR (nR 256 (nR 4096 s).2).1 (nR 256 (nR 4096 s).2).2).2).2)
theorem OwnB.same {w w' : World} {base : Nat} {v : Value} {xs : List Int} (h : OwnB w base v xs) (hk : ∀ g, v.ownBlock = some g → w'.heap[g]? = w.heap[g]?) : OwnB w' base v xs := ownB_of (own_same h.1 hk) h.byte
theorem OwnB.lt {w : World} {base : Nat} {v : Value} {xs : List Int} (h : OwnB w base v xs) : ∀ g, v.ownBlock = some g → base ≤ g ∧ g < w.heap.size := fun g hg => by
  obtain ⟨h1, cur, hh⟩ := own_block h.1 hg
  exact ⟨h1, lt_of_block hh⟩
theorem OwnB.mono {w : World} {b b' : Nat} {v : Value} {xs : List Int} (h : OwnB w b' v xs) (hb : b ≤ b') : OwnB w b v xs := ownB_of (own_mono h.1 hb) h.byte
theorem OwnV.mono {w : World} {b b' : Nat} {v : Value} {vs : List (Int × Int)} (h : OwnV w b' v vs) (hb : b ≤ b') : OwnV w b v vs := ownV_of (own_mono h.1 hb) h.wf
theorem OwnB.ne {w : World} {base g : Nat} {v : Value} {xs : List Int} {c : Int} {v1 v2 : Value} (h : OwnB w base v xs) (e : w.heap[g]? = some (objB c v1 v2)) : ∀ g', v.ownBlock = some g' → g' ≠ g := fun g' hg' e' => own_ne h.1 e (by decide) (by rw [hg', e'])
theorem OwnV.ne {w : World} {base g : Nat} {v : Value} {vs : List (Int × Int)} {c : Int} {v1 v2 : Value} (h : OwnV w base v vs) (e : w.heap[g]? = some (objB c v1 v2)) : ∀ g', v.ownBlock = some g' → g' ≠ g := fun g' hg' e' => own_ne h.1 e (by decide) (by rw [hg', e'])
set_option maxHeartbeats 4000000 in
theorem object_rd {w0 w : World} {b : Nat} {s : Option (List Int)} (h : Rd w0 w b s) (B : Below w0.heap.size w0 w) (hb0 : w0.heap.size ≤ b) (hl : lenS s ≤ 140737488500000) : Calls Try.prog 45 #[.pointer (some ⟨b, 0, none⟩)] w fun e w' => ∃ vv bv, e = .returned (.agg #[.int .i64 (objR s).1, vv, bv]) ∧ OwnV w' w.heap.size vv (objR s).2.1 ∧ OwnB w' w.heap.size bv (objR s).2.2.1 ∧ Rd w0 w' b (objR s).2.2.2 ∧ But b w w' := by
  have hbw : b < w.heap.size := by obtain ⟨_, _, _, E, _⟩ := h.blk; exact lt_of_block E
  obtain ⟨c, s1, h1⟩ : ∃ c s1, Hid (nR 4096 s = (c, s1)) := ⟨_, _, rfl⟩
  have l1 := nR_len 4096 s
  obtain ⟨n, s2, h2⟩ : ∃ n s2, Hid (nR 256 s1 = (n, s2)) := ⟨_, _, rfl⟩
  have l2 := nR_len 256 s1
  obtain ⟨vs, s3, h3⟩ : ∃ vs s3, Hid (slotsR n s2 = (vs, s3)) := ⟨_, _, rfl⟩
  have l3 := slotsR_len n s2
  obtain ⟨bs, s4, h4⟩ : ∃ bs s4, Hid (tR s3 = (bs, s4)) := ⟨_, _, rfl⟩
  rw [h1.out] at l1
  rw [h2.out] at l2
  rw [h3.out] at l3
  dsimp only at l1 l2 l3
  have e0 : objR s = ((c : Int), vs, bs, s4) := by
    unfold objR
    rw [h1.out]; dsimp only; rw [h2.out]; dsimp only; rw [h3.out]; dsimp only; rw [h4.out]
  rw [e0]
  dsimp only
  clear e0
  have E1 := new1 w (objB 0 (.slice none 0 0) (.slice none 0 0))
  have E2 := new2 w (objB 0 (.slice none 0 0) (.slice none 0 0)) (objB 0 (.slice none 0 0) (.slice none 0 0))
  have E1' := old1 E1 (objB 0 (.slice none 0 0) (.slice none 0 0))
  have B2 : Below w.heap.size w ((w.alloc (objB 0 (.slice none 0 0) (.slice none 0 0))).alloc (objB 0 (.slice none 0 0) (.slice none 0 0))) := below_size box_below box_below.size box_below
  have R2 := h.keep (B2.block b hbw)
  have K2 : But b w _ := But.of B2
  have sz2 : w.heap.size + 1 + 1 = ((w.alloc (objB 0 (.slice none 0 0) (.slice none 0 0))).alloc (objB 0 (.slice none 0 0) (.slice none 0 0))).heap.size := by rw [size1, size1]
  clear E1 h
  unfold objB at E1' E2 B2 R2 K2 sz2
  go_enter Try.func45, Try.ntmps45
  go_wp2_with fail
  generalize (w.alloc (.cells #[.int .i64 0, .slice none 0 0, .slice none 0 0] 27)).alloc (.cells #[.int .i64 0, .slice none 0 0, .slice none 0 0] 27) = w2 at *
  replace E1' : w2.heap[w.heap.size]? = some (objB 0 (.slice none 0 0) (.slice none 0 0)) := E1'
  replace E2 : w2.heap[w.heap.size + 1]? = some (objB 0 (.slice none 0 0) (.slice none 0 0)) := E2
  have hr0 : w.heap.size ≠ b := by omega
  have hr1 : w.heap.size + 1 ≠ b := by omega
  have hr2 : w.heap.size ≠ w.heap.size + 1 := by omega
  have hr3 : w.heap.size ≤ w.heap.size + 1 := by omega
  replace sz2 : w.heap.size + 1 < w2.heap.size := by omega
  generalize w.heap.size + 1 = o1 at *
  refine (number_lit R2 (K2.below B B.size hb0) 4096 4096 rfl (by decide)).mono ?_
  rintro e w3 ⟨rfl, R3, K3⟩
  rw [h1.out] at R3 ⊢
  dsimp only at R3 ⊢
  have K3' := K2.trans K3
  have F3 := (K3.block _ (lt_of_block E1') hr0).trans E1'
  have E3 := (K3.block _ (lt_of_block E2) hr1).trans E2
  have E4 := obj_set0 E3 (c : Int)
  have F4 := (heap_setCell_other w3 ⟨o1, 0, none⟩ w.heap.size (.int .i64 (c : Int)) hr2).trans F3
  have R4 := R3.keep (w' := w3.setCell ⟨o1, 0, none⟩ (.int .i64 (c : Int))) (heap_setCell_other _ _ _ _ (Ne.symm hr1))
  have K4 : But b w (w3.setCell ⟨o1, 0, none⟩ (.int .i64 (c : Int))) := K3'.then_below (below_setCell (Below.refl _ _) hr3)
  obtain ⟨z0, z1, z2, zf⟩ := obj_cells E3
  clear R2 K2 K3 K3' E1' E2 F3 R3
  go_wp2_with fail
  clear z0 z1 z2 zf E3
  generalize w3.setCell ⟨o1, 0, none⟩ (.int .i64 (c : Int)) = w4 at *
  refine (slots_rd R4 (K4.below B B.size hb0) hb0).mono ?_
  rintro e w5 ⟨vv, rfl, O5, R5, K5⟩
  rw [h2.out] at O5 R5
  dsimp only at O5 R5
  rw [h3.out] at O5 R5
  dsimp only at O5 R5
  have F5 := (K5.block _ (lt_of_block F4) hr0).trans F4
  have E5 := (K5.block _ (lt_of_block E4) hr1).trans E4
  have hz4 := K4.size
  replace O5 := O5.mono hz4
  replace K5 := K4.trans K5
  obtain ⟨va, vn, vc, rfl⟩ := O5.shape'
  have E6 := obj_set1 E5 (.slice va vn vc)
  have F6 := (heap_setCell_other w5 ⟨o1, 1, none⟩ w.heap.size (.slice va vn vc) hr2).trans F5
  have R6 := R5.keep (w' := w5.setCell ⟨o1, 1, none⟩ (.slice va vn vc)) (heap_setCell_other _ _ _ _ (Ne.symm hr1))
  have K6 : But b w (w5.setCell ⟨o1, 1, none⟩ (.slice va vn vc)) := K5.then_below (below_setCell (Below.refl _ _) hr3)
  have O6 := O5.same (w' := w5.setCell ⟨o1, 1, none⟩ (.slice va vn vc)) (fun g hg => heap_setCell_other _ _ _ _ (O5.ne E5 g hg))
  obtain ⟨z0, z1, z2, zf⟩ := obj_cells E5
  clear R4 K4 E4 F4 F5 R5 K5 O5
  go_wp2_with fail
  clear z0 z1 z2 zf E5
  generalize w5.setCell ⟨o1, 1, none⟩ (.slice va vn vc) = w6 at *
  refine (text_rd R6 (K6.below B B.size hb0) (by show lenS s3 ≤ _; omega)).mono ?_
  rintro e w7 ⟨bv, rfl, O7, R7, K7⟩
  rw [h4.out] at O7 R7
  dsimp only at O7 R7
  have F7 := (K7.block _ (lt_of_block F6) hr0).trans F6
  have E7 := (K7.block _ (lt_of_block E6) hr1).trans E6
  have V7 := O6.same (fun g hg => K7.block g (O6.lt g hg).2 (by have := (O6.lt g hg).1; omega))
  have hz6 := K6.size
  replace O7 := O7.mono hz6
  replace K7 := K6.trans K7
  obtain ⟨ba, bn, bc, rfl⟩ := O7.shape'
  have E8 := obj_set2 E7 (.slice ba bn bc)
  have F8 := (heap_setCell_other w7 ⟨o1, 2, none⟩ w.heap.size (.slice ba bn bc) hr2).trans F7
  have R8 := R7.keep (w' := w7.setCell ⟨o1, 2, none⟩ (.slice ba bn bc)) (heap_setCell_other _ _ _ _ (Ne.symm hr1))
  have K8 : But b w (w7.setCell ⟨o1, 2, none⟩ (.slice ba bn bc)) := K7.then_below (below_setCell (Below.refl _ _) hr3)
  have O8 := O7.same (w' := w7.setCell ⟨o1, 2, none⟩ (.slice ba bn bc)) (fun g hg => heap_setCell_other _ _ _ _ (O7.ne E7 g hg))
  have V8 := V7.same (w' := w7.setCell ⟨o1, 2, none⟩ (.slice ba bn bc)) (fun g hg => heap_setCell_other _ _ _ _ (V7.ne E7 g hg))
  obtain ⟨z0, z1, z2, zf⟩ := obj_cells E7
  obtain ⟨y0, y1, y2, yf⟩ := obj_cells F7
  clear R6 K6 E6 F6 R7 K7 O7 O6 V7
  go_wp2
  clear z0 z1 z2 zf y0 y1 y2 yf
  have E9 := stO_blk F8 (c : Int) (.slice va vn vc) (.slice ba bn bc)
  obtain ⟨z0, z1, z2, zf⟩ := obj_cells E9
  exact bodyPost_ret (v := .agg #[.int .i64 (c : Int), .slice va vn vc, .slice ba bn bc]) (results_cell Try.results45 rfl (load27 z0 z1 z2)) rfl ⟨_, _, rfl, V8.same (fun g hg => stO_other (V8.ne F8 g hg) _ _ _), O8.same (fun g hg => stO_other (O8.ne F8 g hg) _ _ _), R8.keep (stO_other (Ne.symm hr0) _ _ _), K8.then_below (stO_below (Below.refl _ _) (Nat.le_refl _) _ _ _)⟩
end Go.Proofs.Ytjfaflmmanjjbaa
