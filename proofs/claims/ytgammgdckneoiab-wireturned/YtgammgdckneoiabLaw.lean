/- The walk of lapidarylaw01.WireTurned. -/
import Derived.Test.YtgammgdckneoiabReadF
import Derived.Test.YtgammgdckneoiabTurn
import Derived.Test.YtgammgdckneoiabOpen
namespace Go.Proofs.Ytgammgdckneoiab
open Go.RowKit

/-- The byte at a place. -/
def cOf (xs : List Int) (i : Nat) : Nat := (xs.getD i 0).toNat
theorem eight_of {w : World} {b off len cap : Nat} {xs : List Int} (h : IsB w (some ⟨b, off, none⟩) len cap xs) (h8 : 8 ≤ len) :
    Eight w b off (be (cOf xs 0) (cOf xs 1) (cOf xs 2) (cOf xs 3)) (be (cOf xs 4) (cOf xs 5) (cOf xs 6) (cOf xs 7)) (cOf xs) := by
  have hs := h.size
  obtain ⟨b', off', hb, hc⟩ := h.cells (by omega)
  simp only [Option.some.injEq, Addr.mk.injEq, and_true] at hb
  obtain ⟨rfl, rfl⟩ := hb
  have hr : ∀ i, i < 8 → 0 ≤ xs.getD i 0 ∧ xs.getD i 0 < 256 := by
    intro i hi
    have := h.byte (xs[i]'(by omega)) (List.getElem_mem _)
    simpa [show i < xs.length by omega] using this
  refine ⟨fun i hi => ?_, fun i hi => ?_, rfl, rfl⟩
  · have := hr i hi
    unfold cOf; omega
  · rw [hc i (by omega)]
    have := hr i hi
    unfold cOf
    congr 2
    omega

theorem frameB_len (xs : List Int) : (frameB xs).length = 8 + xs.length := by unfold frameB four; simp; omega
theorem frameB_byte (xs : List Int) (h : ∀ x ∈ xs, 0 ≤ x ∧ x < 256) (hl : xs.length ≤ 60000) : ∀ x ∈ frameB xs, 0 ≤ x ∧ x < 256 := by
  intro x hx
  have hc := crc_lt xs
  rcases List.mem_append.1 hx with hx | hx
  · rcases List.mem_append.1 hx with hx | hx
    · exact four_byte _ (by omega) (by omega) x hx
    · exact four_byte _ (by omega) (by omega) x hx
  · exact h x hx
theorem be_four (n : Nat) (h : n < 4294967296) : be ((n : Int) / 16777216).toNat ((n : Int) / 65536 % 256).toNat ((n : Int) / 256 % 256).toNat ((n : Int) % 256).toNat = n := by
  unfold be; omega
theorem be_inj (a b c d a' b' c' d' : Nat) (hb : b < 256) (hc : c < 256) (hd : d < 256) (hb' : b' < 256) (hc' : c' < 256) (hd' : d' < 256) (h : be a b c d = be a' b' c' d') : a = a' ∧ b = b' ∧ c = c' ∧ d = d' := by
  unfold be at h; omega
theorem cOf_set_ne (fb : List Int) (q i : Nat) (y : Int) (h : q ≠ i) : cOf (fb.set q y) i = cOf fb i := by
  unfold cOf
  rw [List.getD_eq_getElem?_getD, List.getD_eq_getElem?_getD, List.getElem?_set_ne h]
theorem cOf_set_eq (fb : List Int) (q : Nat) (y : Int) (h : q < fb.length) : cOf (fb.set q y) q = y.toNat := by
  unfold cOf
  rw [List.getD_eq_getElem?_getD, List.getElem?_set_self h]
  rfl
theorem cOf_lt (fb : List Int) (hb : ∀ x ∈ fb, 0 ≤ x ∧ x < 256) (i : Nat) : cOf fb i < 256 := by
  unfold cOf
  rw [List.getD_eq_getElem?_getD]
  by_cases h : i < fb.length
  · rw [List.getElem?_eq_getElem h]
    have := hb _ (List.getElem_mem h)
    simp; omega
  · rw [List.getElem?_eq_none (by omega)]
    simp
theorem crc_set (xs : List Int) (i : Nat) (y : Int) (hb : ∀ x ∈ xs, 0 ≤ x ∧ x < 256) (h0 : 0 ≤ y) (h1 : y < 256) (hi : i < xs.length) (hne : xs.getD i 0 ≠ y) : crc (xs.set i y) ≠ crc xs := by
  intro h
  have hl := creg_lt xs hb
  have hs : ∀ x ∈ xs.set i y, 0 ≤ x ∧ x < 256 := by
    intro x hx
    rcases List.mem_or_eq_of_mem_set hx with hx | rfl
    · exact hb x hx
    · exact ⟨h0, h1⟩
  have hl2 := creg_lt (xs.set i y) hs
  have h2 : creg (xs.set i y) = creg xs := by unfold crc at h; omega
  exact fold_set xs 4294967295 i y hb (by decide) h0 h1 hi hne h2

theorem frame_c (xs : List Int) (h : xs.length ≤ 60000) : be (cOf (frameB xs) 0) (cOf (frameB xs) 1) (cOf (frameB xs) 2) (cOf (frameB xs) 3) = xs.length ∧
    be (cOf (frameB xs) 4) (cOf (frameB xs) 5) (cOf (frameB xs) 6) (cOf (frameB xs) 7) = crc xs := by
  have hc := crc_lt xs
  exact ⟨be_four xs.length (by omega), be_four (crc xs) hc⟩
theorem frame_drop (xs : List Int) : (frameB xs).drop 8 = xs := by unfold frameB four; rfl

/-- One byte of a frame, behind its length, is another one: the sum is wrong. -/
theorem turned (xs : List Int) (q : Nat) (y : Int) (hb : ∀ x ∈ xs, 0 ≤ x ∧ x < 256) (hl0 : 1 ≤ xs.length) (hl : xs.length ≤ 60000) (hq : 4 ≤ q) (hq2 : q < 8 + xs.length) (h0 : 0 ≤ y) (h1 : y < 256) (hne : (frameB xs).getD q 0 ≠ y) :
    rfr (be (cOf ((frameB xs).set q y) 0) (cOf ((frameB xs).set q y) 1) (cOf ((frameB xs).set q y) 2) (cOf ((frameB xs).set q y) 3)) (be (cOf ((frameB xs).set q y) 4) (cOf ((frameB xs).set q y) 5) (cOf ((frameB xs).set q y) 6) (cOf ((frameB xs).set q y) 7)) (((frameB xs).set q y).drop 8) = ([], 0, 12) := by
  have hfb := frameB_byte xs hb hl
  have hfl := frameB_len xs
  obtain ⟨f1, f2⟩ := frame_c xs hl
  have hfd := frame_drop xs
  have hlt := cOf_lt (frameB xs) hfb
  have hneN : cOf ((frameB xs).set q y) q ≠ cOf (frameB xs) q := by
    rw [cOf_set_eq _ _ _ (by omega)]
    unfold cOf
    have : 0 ≤ (frameB xs).getD q 0 := by
      rw [List.getD_eq_getElem?_getD, List.getElem?_eq_getElem (by omega)]
      exact (hfb _ (List.getElem_mem (show q < (frameB xs).length by omega))).1
    omega
  rw [cOf_set_ne _ q 0 y (by omega), cOf_set_ne _ q 1 y (by omega), cOf_set_ne _ q 2 y (by omega), cOf_set_ne _ q 3 y (by omega), f1]
  have hdl : (((frameB xs).set q y).drop 8).length = xs.length := by simp; omega
  have hcrc : crc (((frameB xs).set q y).drop 8) ≠ be (cOf ((frameB xs).set q y) 4) (cOf ((frameB xs).set q y) 5) (cOf ((frameB xs).set q y) 6) (cOf ((frameB xs).set q y) 7) := by
    by_cases h8 : q < 8
    · rw [List.drop_set_of_lt h8, hfd, ← f2]
      intro h
      have hlt' : ∀ i, cOf ((frameB xs).set q y) i < 256 := cOf_lt _ (by
        intro x hx
        rcases List.mem_or_eq_of_mem_set hx with hx | rfl
        · exact hfb x hx
        · exact ⟨h0, h1⟩)
      have e := be_inj _ _ _ _ _ _ _ _ (hlt 5) (hlt 6) (hlt 7) (hlt' 5) (hlt' 6) (hlt' 7) h
      have hq' : q = 4 ∨ q = 5 ∨ q = 6 ∨ q = 7 := by omega
      rcases hq' with rfl | rfl | rfl | rfl
      · exact hneN e.1.symm
      · exact hneN e.2.1.symm
      · exact hneN e.2.2.1.symm
      · exact hneN e.2.2.2.symm
    · rw [cOf_set_ne _ q 4 y (by omega), cOf_set_ne _ q 5 y (by omega), cOf_set_ne _ q 6 y (by omega), cOf_set_ne _ q 7 y (by omega), f2]
      have e : ((frameB xs).set q y).drop 8 = xs.set (q - 8) y := by
        rw [List.drop_set, if_neg h8, hfd]
      rw [e]
      refine crc_set xs (q - 8) y hb h0 h1 (by omega) ?_
      rw [← hfd]
      rw [List.getD_eq_getElem?_getD] at hne ⊢
      rw [List.getElem?_drop, show 8 + (q - 8) = q by omega]
      exact hne
  unfold rfr
  rw [if_neg (by omega), if_neg (by omega), if_neg (by omega), ← hdl, List.take_length, if_pos hcrc]

theorem xor_bit (c t : Nat) (hc : c < 256) (ht : t < 8) : bits .xor .u8 (c : Int) (2 ^ t % 256) = ((c ^^^ 2 ^ t : Nat) : Int) ∧ c ^^^ 2 ^ t < 256 ∧ c ≠ c ^^^ 2 ^ t := by
  have h2 : 2 ^ t < 256 := by
    have : 2 ^ t ≤ 2 ^ 7 := Nat.pow_le_pow_right (by decide) (by omega)
    omega
  have e : ((2 : Int) ^ t % 256) = ((2 ^ t : Nat) : Int) := by
    have : ((2 : Int) ^ t) = ((2 ^ t : Nat) : Int) := by simp
    rw [this]
    exact Int.emod_eq_of_lt (Int.natCast_nonneg _) (Int.ofNat_lt.2 h2)
  refine ⟨by rw [e, u8_xor_nat c (2 ^ t) hc h2], Nat.xor_lt_two_pow (n := 8) hc h2, fun h => ?_⟩
  have h3 : 2 ^ t ^^^ c = 0 ^^^ c := by rw [Nat.zero_xor, Nat.xor_comm]; exact h.symm
  have h4 := xor_cancel _ _ _ h3
  have := Nat.two_pow_pos t
  omega

theorem count_any (k : Int) (n : Nat) (w : World) (h0 : -9223372036854775808 ≤ k) (h1 : k ≤ 9223372036854775807) (hn : 1 ≤ n) (hm : n ≤ 1000000) :
    Calls Try.prog 6 #[.int .i64 k, .int .i64 (n : Int)] w fun e w' => (∃ r : Nat, r < n ∧ e = .returned (.int .i64 (r : Int))) ∧ w = w' := by
  have hn' : ¬ (n : Int) < 1 := by omega
  by_cases hk : 0 ≤ k
  · have e1 : k.tmod (n : Int) = k % (n : Int) := Int.tmod_eq_emod_of_nonneg hk
    have e2 := Int.emod_nonneg k (show (n : Int) ≠ 0 by omega)
    have e3 := Int.emod_lt_of_pos k (show (0 : Int) < (n : Int) by omega)
    obtain ⟨r, hr⟩ := Int.eq_ofNat_of_zero_le e2
    rw [hr] at e1 e3
    have hp : ¬ ((r : Int) < 0) := by omega
    clear e2
    go_enter Try.func6, Try.ntmps6
    go_wp2
    go_ret
    exact ⟨⟨r, by omega, rfl⟩, rfl⟩
  · have e1 : k.tmod (n : Int) = -((-k) % (n : Int)) := by
      have := Int.neg_tmod (-k) (n : Int)
      rw [Int.neg_neg] at this
      rw [this, Int.tmod_eq_emod_of_nonneg (by omega)]
    have e2 := Int.emod_nonneg (-k) (show (n : Int) ≠ 0 by omega)
    have e3 := Int.emod_lt_of_pos (-k) (show (0 : Int) < (n : Int) by omega)
    obtain ⟨r, hr⟩ := Int.eq_ofNat_of_zero_le e2
    rw [hr] at e1 e3
    have hk' : k < 0 := by omega
    clear e2 hr hk
    by_cases hz : r = 0
    · subst hz
      have e1' : k.tmod (n : Int) = 0 := by rw [e1]; rfl
      clear e1
      go_enter Try.func6, Try.ntmps6
      go_wp2
      go_ret
      exact ⟨⟨0, by omega, rfl⟩, rfl⟩
    · have hp : -(r : Int) < 0 := by omega
      go_enter Try.func6, Try.ntmps6
      go_wp2
      go_ret
      exact ⟨⟨n - r, by omega, ret_int (by omega)⟩, rfl⟩

set_option maxRecDepth 100000 in
set_option maxHeartbeats 4000000 in
theorem wireTurned_walk {a : Option Addr} {len cap : Nat} {xs : List Int} {w : World} (k : Int) (h0 : -9223372036854775808 ≤ k) (h1 : k ≤ 9223372036854775807) (h : IsB w a len cap xs) (hpos : 1 ≤ len) (hshort : len ≤ 60000) :
    Calls Try.prog 3 #[.slice a len cap, .int .i64 k] w fun e w' => e = .returned (.bool true) ∧ Below w.heap.size w w' := by
  go_enter Try.func3, Try.ntmps3
  go_wp2_with fail
  refine (frame_ok a len cap xs w h hpos hshort).mono ?_
  rintro e w1 ⟨g, c1, rfl, hown, hb1⟩
  go_wp2_with fail
  rw [show (8 * (8 + (len : Int)) - 32) = ((8 * (8 + len) - 32 : Nat) : Int) by omega]
  refine (count_any k _ _ h0 h1 (by omega) (by omega)).mono ?_
  rintro e w2 ⟨⟨r, hr, rfl⟩, rfl⟩
  obtain ⟨q, hq⟩ : ∃ q, q = (32 + r) / 8 := ⟨_, rfl⟩
  obtain ⟨t, ht⟩ : ∃ t, t = (32 + r) % 8 := ⟨_, rfl⟩
  have hq1 : (32 + (r : Int)) / 8 = (q : Int) := by omega
  have ht1 : (32 + (r : Int)) % 8 = (t : Int) := by omega
  have hq2 : 4 ≤ q ∧ q < 8 + len := by omega
  have ht2 : t < 8 := by omega
  clear hq ht
  have hfl := frameB_len xs
  have hfb := frameB_byte xs h.byte (by rw [h.size]; exact hshort)
  have hsz := h.size
  obtain ⟨c, hc256, hcx⟩ : ∃ c : Nat, c < 256 ∧ (frameB xs).getD q 0 = (c : Int) := by
    have := hfb _ (List.getElem_mem (show q < (frameB xs).length by omega))
    refine ⟨((frameB xs)[q]'(by omega)).toNat, by omega, ?_⟩
    rw [List.getD_eq_getElem?_getD, List.getElem?_eq_getElem (by omega)]
    simp only [Option.getD_some]
    omega
  have hcell : w1.cell? ⟨g, q, none⟩ = some (.int .u8 (c : Int)) := by
    rw [hown.cellAt q (by omega), List.getElem?_map, List.getElem?_eq_getElem (by omega)]
    rw [List.getD_eq_getElem?_getD, List.getElem?_eq_getElem (by omega)] at hcx
    simp only [Option.getD_some] at hcx
    simp [hcx]
  have hfz := hown.frozenAt q
  obtain ⟨x1, x2, x3⟩ := xor_bit c t hc256 ht2
  obtain ⟨y, hy⟩ : ∃ y, y = c ^^^ 2 ^ t := ⟨_, rfl⟩
  rw [← hy] at x1 x2 x3
  have hst := hown.stored q (.int .u8 (y : Int))
  rw [← List.map_set] at hst
  have hfb' : ∀ x ∈ (frameB xs).set q (y : Int), 0 ≤ x ∧ x < 256 := by
    intro x hx
    rcases List.mem_or_eq_of_mem_set hx with hx | rfl
    · exact hfb x hx
    · omega
  have hB := isB_own hst.1 hfb'
  have hbw := hb1.grown hst.2 hb1.size (by have := (hown.lt g rfl).1; simpa using this)
  have htn := turned xs q (y : Int) h.byte (by omega) (by omega) hq2.1 (by omega) (by omega) (by omega) (by rw [hcx]; omega)
  have HE := eight_of hB (by omega)
  have Htn := readF_some g 0 (8 + len) c1 _ _ _ _ _ hB (by omega) (by omega) HE
  rw [htn] at Htn
  have HT : Hid (Calls Try.prog 7 #[.slice (some ⟨g, 0, none⟩) (8 + len) c1] (w1.setCell ⟨g, q, none⟩ (.int .u8 (y : Int))) fun e w' => RT w' (w1.setCell ⟨g, q, none⟩ (.int .u8 (y : Int))).heap.size ([], 0, 12) e ∧ Below (w1.setCell ⟨g, q, none⟩ (.int .u8 (y : Int))).heap.size (w1.setCell ⟨g, q, none⟩ (.int .u8 (y : Int))) w') := Htn
  clear Htn HE htn hB hst hown hcx hy
  go_wp2_with fail
  refine HT.out.mono ?_
  rintro e w2 ⟨⟨v, rfl, ⟨_, av, cv, rfl, _⟩⟩, hb2⟩
  have hbw2 := below_size hbw (Nat.le_refl _) hb2
  clear HT hb2 hbw
  go_wp2_with fail
  refine (known_any _).mono ?_
  rintro e w3 ⟨rfl, hb3⟩
  go_wp2
  go_ret
  exact ⟨rfl, below_size hbw2 (Nat.le_refl _) hb3⟩

theorem wireTurned_none {a : Option Addr} {len cap : Nat} {w : World} (k : Int) (hm : len ≤ maxLen) (hn : len = 0 ∨ 60000 < len) :
    Calls Try.prog 3 #[.slice a len cap, .int .i64 k] w fun e w' => e = .returned (.bool true) ∧ Below w.heap.size w w' := by
  go_enter Try.func3, Try.ntmps3
  go_wp2_with fail
  refine (show Calls Try.prog 4 #[.slice a len cap] w fun e w' => e = .returned (.tuple #[.slice none 0 0, .int .i64 3]) ∧ w = w' from ?_).mono ?_
  · rcases hn with rfl | hn
    · exact frame_short a cap w
    · exact frame_long a len cap w hn hm
  rintro e w1 ⟨rfl, rfl⟩
  go_wp2_with fail
  refine (known_any _).mono ?_
  rintro e w3 ⟨rfl, hb3⟩
  go_wp2
  go_ret
  exact ⟨rfl, hb3⟩
end Go.Proofs.Ytgammgdckneoiab
