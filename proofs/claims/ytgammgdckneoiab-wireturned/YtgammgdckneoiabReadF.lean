/- wire.ReadFrame and the document's own ReadFrame: the same answer, for all bytes. -/
import Derived.Test.YtgammgdckneoiabSplit
import Derived.Test.YtgammgdckneoiabWin
namespace Go.Proofs.Ytgammgdckneoiab
open Go.RowKit

/-- What ReadFrame answers of eight bytes and what follows: the bytes, how many were used, the error. -/
def rfr (n s : Nat) (r : List Int) : List Int × Nat × Nat :=
  if n = 0 then ([], 0, 11)
  else if 60000 < n then ([], 0, 3)
  else if r.length < n then ([], 0, 10)
  else if crc (r.take n) ≠ s then ([], 0, 12)
  else (r.take n, 8 + n, 0)

theorem readF_short {a : Option Addr} {len cap : Nat} {xs : List Int} {w : World} (_ : IsB w a len cap xs) (hl : len < 8) :
    Calls Try.prog 7 #[.slice a len cap] w fun e w' => e = .returned (.tuple #[.slice none 0 0, .int .i64 0, .int .i64 10]) ∧ w = w' := by
  have hl' : (len : Int) < 8 := by omega
  go_enter Try.func7, Try.ntmps7
  go_wp2
  go_ret3
  exact ⟨rfl, rfl⟩

theorem run_array8 (w : World) (a : Addr) (c : Nat) : (Instr.arrayAt 33 (.slice (some a) 8 c)).run Try.prog w = .ok (.pointer (some a)) w := by
  simp [Instr.arrayAt, run_underlying Try.underlying33]

theorem sum_to {a : Option Addr} {len cap s : Nat} {xs : List Int} {w : World} (h : IsB w a len cap xs) (hs : crc xs = s) :
    Calls Try.prog 9 #[.slice a len cap] w fun e w' => e = .returned (.int .u32 (s : Int)) ∧ w = w' := by
  subst hs; exact sum_any h
theorem OwnB.mono {w : World} {b b' : Nat} {v : Value} {xs : List Int} (h : OwnB w b' v xs) (hb : b ≤ b') : OwnB w b v xs := ⟨own_mono h.1 hb, h.2⟩

/-- Eight bytes in memory, and the two numbers that they make. -/
structure Eight (w : World) (b off n s : Nat) (c : Nat → Nat) : Prop where
  lt : ∀ i, i < 8 → c i < 256
  at0 : ∀ i, i < 8 → w.cell? ⟨b, off + i, none⟩ = some (.int .u8 (c i : Int))
  size : be (c 0) (c 1) (c 2) (c 3) = n
  sum : be (c 4) (c 5) (c 6) (c 7) = s

theorem run_win8 (a : Option Addr) (len cap n : Nat) (w : World) (h : 8 + n ≤ cap) :
    (Instr.slice 22 (.slice a len cap) (some (.int .i64 8)) (some (.int .i64 (8 + (n : Int)))) none).run Try.prog w = .ok (.slice (winA a 8 cap) n (cap - 8)) w :=
  run_win a len cap 8 n w h

theorem split_to {n s : Nat} (c : Nat → Nat) (w : World) (lt : ∀ i, i < 8 → c i < 256) (hn : be (c 0) (c 1) (c 2) (c 3) = n) (hs : be (c 4) (c 5) (c 6) (c 7) = s) :
    Calls Try.prog 13 #[.agg #[.int .u8 (c 0 : Int), .int .u8 (c 1 : Int), .int .u8 (c 2 : Int), .int .u8 (c 3 : Int), .int .u8 (c 4 : Int), .int .u8 (c 5 : Int), .int .u8 (c 6 : Int), .int .u8 (c 7 : Int)]] w fun e w' =>
      e = .returned (.tuple #[.int .u32 (n : Int), .int .u32 (s : Int)]) ∧ Below w.heap.size w w' := by
  subst hn hs
  exact split_any _ _ _ _ _ _ _ _ w (lt 0 (by decide)) (lt 1 (by decide)) (lt 2 (by decide)) (lt 3 (by decide)) (lt 4 (by decide)) (lt 5 (by decide)) (lt 6 (by decide)) (lt 7 (by decide))

theorem be_lt (a b c d : Nat) (ha : a < 256) (hb : b < 256) (hc : c < 256) (hd : d < 256) : be a b c d < 4294967296 := by unfold be; omega

set_option maxRecDepth 100000 in
set_option maxHeartbeats 4000000 in
theorem readF_some (b off len cap n s : Nat) (c : Nat → Nat) (xs : List Int) (w : World) (h : IsB w (some ⟨b, off, none⟩) len cap xs) (h8 : 8 ≤ len) (hl : len ≤ 140737488500000) (E : Eight w b off n s c) :
    Calls Try.prog 7 #[.slice (some ⟨b, off, none⟩) len cap] w fun e w' => RT w' w.heap.size (rfr n s (xs.drop 8)) e ∧ Below w.heap.size w w' := by
  have hsz := h.size
  have hroom := h.room
  have hmost := h.most
  unfold maxLen at hmost
  have hl' : ¬ (len : Int) < 8 := by omega
  have hc8 : (8 : Int) ≤ (cap : Int) := by omega
  have hat := run_array8
  have k0 := E.at0 0 (by decide)
  have k1 := E.at0 1 (by decide)
  have k2 := E.at0 2 (by decide)
  have k3 := E.at0 3 (by decide)
  have k4 := E.at0 4 (by decide)
  have k5 := E.at0 5 (by decide)
  have k6 := E.at0 6 (by decide)
  have k7 := E.at0 7 (by decide)
  rw [Nat.add_zero] at k0
  have hnlt : n < 4294967296 := by rw [← E.size]; exact be_lt _ _ _ _ (E.lt 0 (by decide)) (E.lt 1 (by decide)) (E.lt 2 (by decide)) (E.lt 3 (by decide))
  have hdl : Hid ((xs.drop 8).length = len - 8) := by show _ = _; rw [List.length_drop, hsz]
  by_cases hz : n = 0
  · have hres : Hid (rfr n s (xs.drop 8) = ([], 0, 11)) := by show _ = _; unfold rfr; rw [if_pos hz]
    have hz' : ((n : Int) == 0) = true := by simp; omega
    go_enter Try.func7, Try.ntmps7
    go_wp2_with fail
    refine (split_to c _ E.lt E.size E.sum).mono ?_
    rintro e w1 ⟨rfl, hb1⟩
    clear k0 k1 k2 k3 k4 k5 k6 k7
    go_wp2
    go_ret3
    exact ⟨by rw [hres.out]; exact RT.nil _ _ 11, hb1⟩
  · have hz' : ((n : Int) == 0) = false := by simp; omega
    by_cases hs1 : 60000 < n
    · have hres : Hid (rfr n s (xs.drop 8) = ([], 0, 3)) := by show _ = _; unfold rfr; rw [if_neg hz, if_pos hs1]
      have hs1' : (60000 : Int) < (n : Int) := by omega
      go_enter Try.func7, Try.ntmps7
      go_wp2_with fail
      refine (split_to c _ E.lt E.size E.sum).mono ?_
      rintro e w1 ⟨rfl, hb1⟩
      clear k0 k1 k2 k3 k4 k5 k6 k7
      go_wp2
      go_ret3
      exact ⟨by rw [hres.out]; exact RT.nil _ _ 3, hb1⟩
    · have hs1' : ¬ (60000 : Int) < (n : Int) := by omega
      by_cases hs2 : len < 8 + n
      · have hres : Hid (rfr n s (xs.drop 8) = ([], 0, 10)) := by show _ = _; unfold rfr; rw [if_neg hz, if_neg hs1, if_pos (by rw [hdl.out]; omega)]
        have hs2' : (len : Int) < 8 + (n : Int) := by omega
        go_enter Try.func7, Try.ntmps7
        go_wp2_with fail
        refine (split_to c _ E.lt E.size E.sum).mono ?_
        rintro e w1 ⟨rfl, hb1⟩
        clear k0 k1 k2 k3 k4 k5 k6 k7
        go_wp2
        go_ret3
        exact ⟨by rw [hres.out]; exact RT.nil _ _ 10, hb1⟩
      · have hs2' : ¬ (len : Int) < 8 + (n : Int) := by omega
        have hw := fun w => run_win8 (some ⟨b, off, none⟩) len cap n w (by omega)
        by_cases hc : crc ((xs.drop 8).take n) = s
        · have hres : Hid (rfr n s (xs.drop 8) = ((xs.drop 8).take n, 8 + n, 0)) := by show _ = _; unfold rfr; rw [if_neg hz, if_neg hs1, if_neg (by rw [hdl.out]; omega), if_neg (by simpa using hc)]
          go_enter Try.func7, Try.ntmps7
          go_wp2_with fail
          refine (split_to c _ E.lt E.size E.sum).mono ?_
          rintro e w1 ⟨rfl, hb1⟩
          clear k0 k1 k2 k3 k4 k5 k6 k7
          have hB := (h.below hb1).window 8 n (by omega)
          go_wp2_with fail
          refine (sum_to hB hc).mono ?_
          rintro e w2 ⟨rfl, rfl⟩
          go_wp2_with fail
          refine (clone_any hB (by omega)).mono ?_
          rintro e w3 ⟨v, rfl, hO, hb3⟩
          have hb13 := below_size hb1 (Nat.le_refl _) hb3
          have hO' := OwnB.mono hO hb1.size
          clear hO hb3 hB hw
          go_wp2
          go_ret3
          exact ⟨by rw [hres.out]; exact ⟨v, by simp, hO'⟩, hb13⟩
        · have hres : Hid (rfr n s (xs.drop 8) = ([], 0, 12)) := by show _ = _; unfold rfr; rw [if_neg hz, if_neg hs1, if_neg (by rw [hdl.out]; omega), if_pos hc]
          obtain ⟨s', hs'⟩ : ∃ s', crc ((xs.drop 8).take n) = s' := ⟨_, rfl⟩
          have hne : ((s' : Int) != (s : Int)) = true := by simp; omega
          go_enter Try.func7, Try.ntmps7
          go_wp2_with fail
          refine (split_to c _ E.lt E.size E.sum).mono ?_
          rintro e w1 ⟨rfl, hb1⟩
          clear k0 k1 k2 k3 k4 k5 k6 k7
          have hB := (h.below hb1).window 8 n (by omega)
          go_wp2_with fail
          refine (sum_to hB hs').mono ?_
          rintro e w2 ⟨rfl, rfl⟩
          clear hs' hc
          go_wp2
          go_ret3
          exact ⟨by rw [hres.out]; exact RT.nil _ _ 12, hb1⟩
end Go.Proofs.Ytgammgdckneoiab
