/- guess: a digit of the quotient by the highest digits of both, right or one too many. -/
import Derived.Test.YtgammgdckneoiacDoorTake
namespace Go.Proofs.YtgammgdckneoiacDoor
open Go.RowKit

theorem row3 {w : World} {b t : Nat} {v0 v1 v2 : Value} (h : w.heap[b]? = some (.cells #[v0, v1, v2] t (0, 0))) : w.cell? ⟨b, 0, none⟩ = some v0 ∧ w.cell? ⟨b, 1, none⟩ = some v1 ∧ w.cell? ⟨b, 2, none⟩ = some v2 :=
  ⟨by rw [cell_of_row w _ 0 _ _ _ h]; rfl, by rw [cell_of_row w _ 1 _ _ _ h]; rfl, by rw [cell_of_row w _ 2 _ _ _ h]; rfl⟩
theorem row2 {w : World} {b t : Nat} {v0 v1 : Value} (h : w.heap[b]? = some (.cells #[v0, v1] t (0, 0))) : w.cell? ⟨b, 0, none⟩ = some v0 ∧ w.cell? ⟨b, 1, none⟩ = some v1 :=
  ⟨by rw [cell_of_row w _ 0 _ _ _ h]; rfl, by rw [cell_of_row w _ 1 _ _ _ h]; rfl⟩
/-- How great the guess is at first. -/
theorem guess_room (H y0 : Nat) (hy : 2147483648 ≤ y0) (hH : H ≤ y0 * 4294967296 + 4294967295) : H / y0 ≤ 4294967297 := by
  have h0 : 0 < y0 := by omega
  have : H / y0 < 4294967298 := by
    rw [Nat.div_lt_iff_lt_mul h0]
    omega
  omega

set_option maxRecDepth 100000 in
set_option maxHeartbeats 4000000 in
theorem guess_any (x0 x1 x2 y0 y1 : Nat) (w : World) (hx0 : x0 < 4294967296) (hx1 : x1 < 4294967296) (hx2 : x2 < 4294967296) (hy0 : y0 < 4294967296) (hy1 : y1 < 4294967296) (hyn : 2147483648 ≤ y0) (hxy : x0 ≤ y0) :
    Calls Tryd.prog 57 #[.agg #[.int .u32 (x0 : Int), .int .u32 (x1 : Int), .int .u32 (x2 : Int)], .agg #[.int .u32 (y0 : Int), .int .u32 (y1 : Int)]] w fun e w' => ∃ o : Nat, e = .returned (.int .u32 (o : Int)) ∧ o < 4294967296 ∧ min (((x0 * 4294967296 + x1) * 4294967296 + x2) / (y0 * 4294967296 + y1)) 4294967295 ≤ o ∧ o ≤ ((x0 * 4294967296 + x1) * 4294967296 + x2) / (y0 * 4294967296 + y1) ∧ Below w.heap.size w w' := by
  have hb := box2 w (.cells #[.int .u32 (x0 : Int), .int .u32 (x1 : Int), .int .u32 (x2 : Int)] 88) (.cells #[.int .u32 (y0 : Int), .int .u32 (y1 : Int)] 50)
  have z0 := heap_alloc2_old w (.cells #[.int .u32 (x0 : Int), .int .u32 (x1 : Int), .int .u32 (x2 : Int)] 88) (.cells #[.int .u32 (y0 : Int), .int .u32 (y1 : Int)] 50)
  have z1 := heap_alloc2_new w (.cells #[.int .u32 (x0 : Int), .int .u32 (x1 : Int), .int .u32 (x2 : Int)] 88) (.cells #[.int .u32 (y0 : Int), .int .u32 (y1 : Int)] 50)
  have ho := or32 x0 x1 hx0 hx1
  obtain ⟨H, hH⟩ : ∃ H, x0 * 4294967296 + x1 = H := ⟨_, rfl⟩
  rw [hH] at ho ⊢
  have hHle : H ≤ y0 * 4294967296 + 4294967295 := by omega
  have hH64 : H < 18446744073709551616 := by omega
  have hg := guess_room H y0 hyn hHle
  have hf := guess_first 4294967296 H y0 y1 x2 (by omega) hx2
  obtain ⟨Q3, hQ3⟩ : ∃ Q, (H * 4294967296 + x2) / (y0 * 4294967296 + y1) = Q := ⟨_, rfl⟩
  have hstep : ∀ o r, o * y0 + r = H → (4294967296 ≤ o ∨ r * 4294967296 + x2 < o * y1) → min Q3 4294967295 ≤ o → 1 ≤ o ∧ min Q3 4294967295 ≤ o - 1 := fun o r he hgo hm => by
    have := guess_step 4294967296 H y0 y1 x2 o r (by omega) he hgo (by decide) (by rw [hQ3]; exact hm)
    rwa [hQ3] at this
  have hlast : ∀ o r, o * y0 + r = H → o * y1 ≤ r * 4294967296 + x2 → o ≤ Q3 := fun o r he hle => by
    have := guess_last 4294967296 H y0 y1 x2 o r (by omega) he hle
    rwa [hQ3] at this
  rw [hQ3] at hf ⊢
  have hdm := Nat.div_add_mod H y0
  obtain ⟨o0, ho0⟩ : ∃ o, H / y0 = o := ⟨_, rfl⟩
  obtain ⟨r0, hr0⟩ : ∃ o, H % y0 = o := ⟨_, rfl⟩
  have hr0y : r0 < y0 := by rw [← hr0]; exact Nat.mod_lt _ (by omega)
  rw [ho0] at hg hf hdm
  rw [hr0] at hdm
  have hoi : (H : Int) / (y0 : Int) = (o0 : Int) := by rw [← ho0]; simp
  have hri : (H : Int) % (y0 : Int) = (r0 : Int) := by rw [← hr0]; simp
  have hy0z : ((y0 : Int) == 0) = false := by simp; omega
  have Hstep : Hid (∀ o r, o * y0 + r = H → (4294967296 ≤ o ∨ r * 4294967296 + x2 < o * y1) → min Q3 4294967295 ≤ o → 1 ≤ o ∧ min Q3 4294967295 ≤ o - 1) := hstep
  have Hlast : Hid (∀ o r, o * y0 + r = H → o * y1 ≤ r * 4294967296 + x2 → o ≤ Q3) := hlast
  clear hstep hlast hQ3 ho0 hr0
  obtain ⟨p0, p1, p2⟩ := row3 z0
  obtain ⟨q0, q1⟩ := row2 z1
  have hHi : (x0 : Int) * 4294967296 + (x1 : Int) = (H : Int) := by omega
  have p0' := fun j => (row3 (w := (((w.alloc (.cells #[.int .u32 (x0 : Int), .int .u32 (x1 : Int), .int .u32 (x2 : Int)] 88)).alloc (.cells #[.int .u32 (y0 : Int), .int .u32 (y1 : Int)] 50)).drewN j)) z0).1
  have q0' := fun j => (row2 (w := (((w.alloc (.cells #[.int .u32 (x0 : Int), .int .u32 (x1 : Int), .int .u32 (x2 : Int)] 88)).alloc (.cells #[.int .u32 (y0 : Int), .int .u32 (y1 : Int)] 50)).drewN j)) z1).1
  go_enter Tryd.func57, Tryd.ntmps57
  go_wp2
  go_quiet (fail)
  go_wp2
  have k0 : (((w.alloc (.cells #[.int .u32 (x0 : Int), .int .u32 (x1 : Int), .int .u32 (x2 : Int)] 88)).alloc (.cells #[.int .u32 (y0 : Int), .int .u32 (y1 : Int)] 50)).drewN nq).heap[w.heap.size]? = some (.cells #[.int .u32 (x0 : Int), .int .u32 (x1 : Int), .int .u32 (x2 : Int)] 88 (0, 0)) := z0
  have k1 : (((w.alloc (.cells #[.int .u32 (x0 : Int), .int .u32 (x1 : Int), .int .u32 (x2 : Int)] 88)).alloc (.cells #[.int .u32 (y0 : Int), .int .u32 (y1 : Int)] 50)).drewN nq).heap[w.heap.size + 1]? = some (.cells #[.int .u32 (y0 : Int), .int .u32 (y1 : Int)] 50 (0, 0)) := z1
  have hB := below_drewN hb nq
  generalize ((w.alloc (.cells #[.int .u32 (x0 : Int), .int .u32 (x1 : Int), .int .u32 (x2 : Int)] 88)).alloc (.cells #[.int .u32 (y0 : Int), .int .u32 (y1 : Int)] 50)).drewN nq = w2 at *
  clear p0 p1 p2 q0 q1 p0' q0' z0 z1 hb
  obtain ⟨p0, p1, p2⟩ := row3 k0
  obtain ⟨q0, q1⟩ := row2 k1
  go_loop [6, 7] (fun a c => ∃ o r : Nat, a = .int .u64 o ∧ c = .int .u64 r ∧ Hid (o * y0 + r = H) ∧ Hid (min Q3 4294967295 ≤ o) ∧ o ≤ 4294967297 ∧ r < 8589934592) (fun a _ => (intOf a).toNat)
  case atStart => exact ⟨o0, r0, by first | rfl | rw [hoi], by first | rfl | rw [hri], by show _ = _; rw [Nat.mul_comm]; exact hdm, by show _ ≤ _; omega, hg, by omega⟩
  case round =>
    obtain ⟨o, r, rfl, rfl, he, hm, hol, hrl⟩ := hrel
    by_cases hrB : r < 4294967296
    · have hrI : (r : Int) < 4294967296 := by omega
      by_cases hoB : 4294967296 ≤ o
      · have hoI : (4294967296 : Int) ≤ (o : Int) := by omega
        obtain ⟨s1, s2⟩ := Hstep.out o r he.out (.inl hoB) hm.out
        have hnx : Hid ((o - 1) * y0 + (r + y0) = H) := by
          show _ = _
          have := he.out
          obtain ⟨o', rfl⟩ : ∃ o', o = o' + 1 := ⟨o - 1, by omega⟩
          rw [Nat.add_sub_cancel]
          rw [Nat.add_mul, Nat.one_mul] at this
          omega
        have hs2 : Hid (min Q3 4294967295 ≤ o - 1) := s2
        clear s2
        go_wp2
        go_round
        case rel => exact ⟨o - 1, r + y0, by rw [show ((o - 1 : Nat) : Int) = (o : Int) - 1 by omega], by simp, hnx, hs2, by omega, by omega⟩
        case measure => simp [intOf]; omega
      · have hoI : ¬ (4294967296 : Int) ≤ (o : Int) := by omega
        have hor := or32 r x2 (by omega) hx2
        have hmul : o * y1 ≤ 4294967295 * 4294967295 := Nat.mul_le_mul (by omega) (by omega)
        obtain ⟨M, hM⟩ : ∃ M, o * y1 = M := ⟨_, rfl⟩
        have hMi : (o : Int) * (y1 : Int) = (M : Int) := by rw [← hM]; simp
        rw [hM] at hmul
        by_cases hgt : r * 4294967296 + x2 < M
        · have hgtI : ((r * 4294967296 + x2 : Nat) : Int) < (M : Int) := by omega
          obtain ⟨s1, s2⟩ := Hstep.out o r he.out (.inr (by rw [hM]; exact hgt)) hm.out
          have hnx : Hid ((o - 1) * y0 + (r + y0) = H) := by
            show _ = _
            have := he.out
            obtain ⟨o', rfl⟩ : ∃ o', o = o' + 1 := ⟨o - 1, by omega⟩
            rw [Nat.add_sub_cancel]
            rw [Nat.add_mul, Nat.one_mul] at this
            omega
          have hs2 : Hid (min Q3 4294967295 ≤ o - 1) := s2
          obtain ⟨R, hR⟩ : ∃ R, r * 4294967296 + x2 = R := ⟨_, rfl⟩
          rw [hR] at hor hgtI
          clear s2 hgt hM hR
          go_wp2
          go_round
          case rel => exact ⟨o - 1, r + y0, by rw [show ((o - 1 : Nat) : Int) = (o : Int) - 1 by omega], by simp, hnx, hs2, by omega, by omega⟩
          case measure => simp [intOf]; omega
        · have hfin : Hid (o ≤ Q3) := Hlast.out o r he.out (by rw [hM]; omega)
          obtain ⟨R, hR⟩ : ∃ R, r * 4294967296 + x2 = R := ⟨_, rfl⟩
          rw [hR] at hor hgt
          have hgtI : decide ((R : Int) < (M : Int)) = false := decide_eq_false (by omega)
          clear hM hR
          go_wp2
          go_ret
          exact ⟨o, rfl, by omega, hm.out, hfin.out, hB⟩
    · have hrI : ¬ (r : Int) < 4294967296 := by omega
      have hoB : o < 4294967296 := by
        rcases Nat.lt_or_ge o 4294967296 with h | h
        · exact h
        · exfalso
          have h1 : 4294967296 * y0 ≤ o * y0 := Nat.mul_le_mul_right _ h
          have h2 := he.out
          omega
      have hfin : Hid (o ≤ Q3) := by
        refine Hlast.out o r he.out ?_
        have : o * y1 ≤ 4294967295 * 4294967295 := Nat.mul_le_mul (by omega) (by omega)
        omega
      go_wp2
      go_ret
      exact ⟨o, rfl, hoB, hm.out, hfin.out, hB⟩
end Go.Proofs.YtgammgdckneoiacDoor
