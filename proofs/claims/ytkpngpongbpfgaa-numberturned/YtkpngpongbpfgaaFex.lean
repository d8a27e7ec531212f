/- Floats of small whole numbers: sums and products are exact. -/
import Derived.Test.YtkpngpongbpfgaaFlo
namespace Go.Proofs.Ytkpngpongbpfgaa
open Ieee
theorem log2_mul {K j : Nat} (h : K ≠ 0) : (K * 2 ^ j).log2 = K.log2 + j := by
  have h2 : 0 < 2 ^ j := Nat.two_pow_pos j
  have hk := (Nat.log2_eq_iff h).1 rfl
  refine (Nat.log2_eq_iff (Nat.mul_ne_zero h (by omega))).2 ⟨?_, ?_⟩
  · rw [Nat.pow_add]
    exact Nat.mul_le_mul_right _ hk.1
  · rw [show K.log2 + j + 1 = (K.log2 + 1) + j by omega, Nat.pow_add]
    exact Nat.mul_lt_mul_of_pos_right hk.2 h2
theorem cut_zero (neg : Bool) (n : Nat) : Toward.even.cut neg n 0 = n := by
  unfold Toward.cut
  simp [Nat.mod_one]
theorem cut_exact (neg : Bool) (k d : Nat) (h : k ≠ 0) : Toward.even.cut neg (k * 2 ^ d) d = k := by
  unfold Toward.cut
  have hl := log2_mul (K := k) (j := d) h
  have hm : min d ((k * 2 ^ d).log2 + 2) = d := by rw [hl]; omega
  have h2 : 0 < 2 ^ d := Nat.two_pow_pos d
  simp only [hm, Nat.shiftLeft_eq, Nat.one_mul]
  rw [Nat.mul_div_cancel _ h2, Nat.mul_mod_left]
  simp
abbrev D := FloatKind.f64.format
theorem D_frac : D.fractionBits = 52 := rfl
theorem D_least : D.leastPlace = -1074 := by decide
theorem D_binade : D.binade = 4503599627370496 := by decide
theorem D_inf : D.infRung = 9218868437227405312 := by decide
theorem D_sign : D.signWeight = 9223372036854775808 := by decide
theorem read_word (neg : Bool) (rung : Nat) (h1 : 4503599627370496 ≤ rung) (h2 : rung < 9218868437227405312) : D.read (D.word neg rung) = .number neg (4503599627370496 + rung % 4503599627370496) (-1074 + (rung / 4503599627370496 - 1 : Nat)) := by
  have hw : D.word neg rung / 9223372036854775808 % 2 = (if neg then 1 else 0) ∧ D.word neg rung % 9223372036854775808 = rung := by
    unfold Format.word
    rw [D_sign]
    cases neg
    · simp; omega
    · simp; omega
  unfold Format.read
  rw [D_sign, D_binade, D_inf, D_least, hw.1, hw.2]
  simp only
  rw [if_neg (by omega), if_pos h2]
  cases neg <;> rfl
theorem read_zero (neg : Bool) : D.read (D.word neg 0) = .number neg 0 (-1074) := by cases neg <;> decide
/-- A float that is a whole number. -/
def Rep (f : Nat) (n : Int) : Prop := ∃ (s : Bool) (j : Nat), D.read f = .number s (n.natAbs * 2 ^ j) (-(j : Int)) ∧ (n ≠ 0 → s = decide (n < 0))
theorem near_exact (s : Bool) (K j : Nat) (h : K ≠ 0) (h53 : K < 9007199254740992) : D.read (D.nearest s (K * 2 ^ j) (-(j : Int))) = .number s (K * 2 ^ (52 - K.log2)) (-((52 - K.log2 : Nat) : Int)) := by
  have hk := (Nat.log2_eq_iff h).1 rfl
  have hL : K.log2 ≤ 52 := by
    have : K.log2 < 53 := (Nat.log2_lt h).2 (by simpa using h53)
    omega
  obtain ⟨L, hLe⟩ : ∃ L, K.log2 = L := ⟨_, rfl⟩
  rw [hLe] at hk hL ⊢
  obtain ⟨M, hM⟩ : ∃ M, K * 2 ^ (52 - L) = M := ⟨_, rfl⟩
  have hM1 : 4503599627370496 ≤ M := by
    rw [← hM]
    calc 4503599627370496 = 2 ^ L * 2 ^ (52 - L) := by rw [← Nat.pow_add, show L + (52 - L) = 52 by omega]
      _ ≤ K * 2 ^ (52 - L) := Nat.mul_le_mul_right _ hk.1
  have hM2 : M < 9007199254740992 := by
    rw [← hM]
    calc K * 2 ^ (52 - L) < 2 ^ (L + 1) * 2 ^ (52 - L) := Nat.mul_lt_mul_of_pos_right hk.2 (Nat.two_pow_pos _)
      _ = 9007199254740992 := by rw [← Nat.pow_add, show L + 1 + (52 - L) = 53 by omega]
  have hm0 : K * 2 ^ j ≠ 0 := Nat.mul_ne_zero h (by have := Nat.two_pow_pos j; omega)
  have hlog := log2_mul (K := K) (j := j) h
  rw [hLe] at hlog
  have hlast : max (-(j : Int) + ((K * 2 ^ j).log2 : Nat) - (D.fractionBits : Nat)) D.leastPlace = (L : Int) - 52 := by
    rw [hlog, D_frac, D_least]
    omega
  have hkept : Toward.even.cut s ((K * 2 ^ j) <<< (-(j : Int) - ((L : Int) - 52)).toNat) (((L : Int) - 52) - -(j : Int)).toNat = M := by
    by_cases hj : j ≤ 52 - L
    · rw [show (((L : Int) - 52) - -(j : Int)).toNat = 0 by omega, cut_zero, show (-(j : Int) - ((L : Int) - 52)).toNat = 52 - L - j by omega, Nat.shiftLeft_eq, Nat.mul_assoc, ← Nat.pow_add, show j + (52 - L - j) = 52 - L by omega]
      exact hM
    · rw [show (-(j : Int) - ((L : Int) - 52)).toNat = 0 by omega, Nat.shiftLeft_zero, show (((L : Int) - 52) - -(j : Int)).toNat = j - (52 - L) by omega, show K * 2 ^ j = (K * 2 ^ (52 - L)) * 2 ^ (j - (52 - L)) by rw [Nat.mul_assoc, ← Nat.pow_add, show 52 - L + (j - (52 - L)) = j by omega], hM]
      exact cut_exact s M _ (by omega)
  have hn : D.nearest s (K * 2 ^ j) (-(j : Int)) = D.word s ((L + 1022) * 4503599627370496 + M) := by
    unfold Format.nearest
    rw [if_neg hm0]
    simp only [hlast, hkept]
    rw [D_binade, D_inf, D_least, show ((L : Int) - 52 - -1074).toNat = L + 1022 by omega, Nat.min_eq_left (by omega)]
  rw [hn, read_word s _ (by omega) (by omega), hM]
  have e1 : ((L + 1022) * 4503599627370496 + M) % 4503599627370496 = M - 4503599627370496 := by omega
  have e2 : ((L + 1022) * 4503599627370496 + M) / 4503599627370496 = L + 1023 := by omega
  rw [e1, e2, show 4503599627370496 + (M - 4503599627370496) = M by omega, show (-1074 : Int) + ((L + 1023 - 1 : Nat) : Int) = -((52 - L : Nat) : Int) by omega]
/-- What is written exactly. -/
theorem rep_write {s : Bool} {n : Int} {j : Nat} (hs : n ≠ 0 → s = decide (n < 0)) (h53 : n.natAbs < 9007199254740992) : Rep (D.write (.number s (n.natAbs * 2 ^ j) (-(j : Int)))) n := by
  show Rep (D.nearest s (n.natAbs * 2 ^ j) (-(j : Int))) n
  by_cases h0 : n = 0
  · subst h0
    have e : D.nearest s ((0 : Int).natAbs * 2 ^ j) (-(j : Int)) = D.word s 0 := by
      unfold Format.nearest
      rw [if_pos (by simp)]
    rw [e]
    obtain ⟨k, hk⟩ : ∃ k : Nat, k = 1074 := ⟨_, rfl⟩
    exact ⟨s, k, by rw [read_zero, show (0 : Int).natAbs * 2 ^ k = 0 from Nat.zero_mul _, show -(k : Int) = -1074 by omega], fun h => absurd rfl h⟩
  · exact ⟨s, _, near_exact s n.natAbs j (by omega) h53, hs⟩
theorem rep_int (n : Int) (h53 : n.natAbs < 9007199254740992) : Rep (floatOfInt .f64 n) n := by
  have h := rep_write (s := decide (n < 0)) (n := n) (j := 0) (fun _ => rfl) h53
  rw [Nat.pow_zero, Nat.mul_one] at h
  exact h
theorem rep_mul {f g : Nat} {a b : Int} (hf : Rep f a) (hg : Rep g b) (h53 : (a * b).natAbs < 9007199254740992) : ∃ r, floatBits .mul .f64 f g = some r ∧ Rep r (a * b) := by
  obtain ⟨s, i, e1, h1⟩ := hf
  obtain ⟨t, j, e2, h2⟩ := hg
  have e : floatBits .mul .f64 f g = some (D.write (.number (s ^^ t) ((a * b).natAbs * 2 ^ (i + j)) (-((i + j : Nat) : Int)))) := by
    show (((D.read f).product (D.read g)).map D.write) = _
    rw [e1, e2]
    show some (D.write (.number (s ^^ t) (a.natAbs * 2 ^ i * (b.natAbs * 2 ^ j)) (-(i : Int) + -(j : Int)))) = _
    rw [Int.natAbs_mul, Nat.pow_add, show a.natAbs * 2 ^ i * (b.natAbs * 2 ^ j) = a.natAbs * b.natAbs * (2 ^ i * 2 ^ j) by simp only [Nat.mul_assoc, Nat.mul_left_comm], show -(i : Int) + -(j : Int) = -((i + j : Nat) : Int) by omega]
  refine ⟨_, e, rep_write ?_ h53⟩
  intro h0
  have ha : a ≠ 0 := by rintro rfl; simp at h0
  have hb : b ≠ 0 := by rintro rfl; simp at h0
  rw [h1 ha, h2 hb]
  by_cases ha' : a < 0 <;> by_cases hb' : b < 0
  · have := Int.mul_pos_of_neg_of_neg ha' hb'
    simp [ha', hb']; omega
  · have := Int.mul_neg_of_neg_of_pos ha' (show 0 < b by omega)
    simp [ha', hb', this]
  · have := Int.mul_neg_of_pos_of_neg (show 0 < a by omega) hb'
    simp [ha', hb', this]
  · have := Int.mul_pos (show 0 < a by omega) (show 0 < b by omega)
    simp [ha', hb']; omega
theorem signed_rep {s : Bool} {n : Int} {i J : Nat} (hs : n ≠ 0 → s = decide (n < 0)) (h : i ≤ J) : signed s (n.natAbs * 2 ^ i) (J - i) = n * ((2 ^ J : Nat) : Int) := by
  unfold signed
  rw [Nat.shiftLeft_eq, Nat.mul_assoc, ← Nat.pow_add, show i + (J - i) = J by omega]
  by_cases h0 : n = 0
  · subst h0
    cases s <;> simp
  · rw [hs h0]
    by_cases hn : n < 0
    · rw [decide_eq_true hn, if_pos rfl]
      have : (n.natAbs : Int) = -n := by omega
      rw [Int.natCast_mul, this, Int.neg_mul, Int.neg_neg]
    · rw [decide_eq_false hn, if_neg (by decide)]
      have : (n.natAbs : Int) = n := by omega
      rw [Int.natCast_mul, this]
theorem sum_rep {s t : Bool} {a b : Int} {i j : Nat} (h1 : a ≠ 0 → s = decide (a < 0)) (h2 : b ≠ 0 → t = decide (b < 0)) : ∃ u, Datum.sum (.number s (a.natAbs * 2 ^ i) (-(i : Int))) (.number t (b.natAbs * 2 ^ j) (-(j : Int))) = some (.number u ((a + b).natAbs * 2 ^ (max i j)) (-((max i j : Nat) : Int))) ∧ (a + b ≠ 0 → u = decide (a + b < 0)) := by
  have hp : (0 : Int) < ((2 ^ (max i j) : Nat) : Int) := by have := Nat.two_pow_pos (max i j); omega
  have e1 : (-(i : Int) - min (-(i : Int)) (-(j : Int))).toNat = max i j - i := by omega
  have e2 : (-(j : Int) - min (-(i : Int)) (-(j : Int))).toNat = max i j - j := by omega
  have e3 : min (-(i : Int)) (-(j : Int)) = -((max i j : Nat) : Int) := by omega
  refine ⟨if (a + b) * ((2 ^ (max i j) : Nat) : Int) = 0 then s && t else decide ((a + b) * ((2 ^ (max i j) : Nat) : Int) < 0), ?_, ?_⟩
  · unfold Datum.sum
    simp only
    rw [e1, e2, e3, signed_rep h1 (Nat.le_max_left i j), signed_rep h2 (Nat.le_max_right i j), ← Int.add_mul, Int.natAbs_mul, Int.natAbs_natCast]
  · intro h0
    generalize ((2 ^ (max i j) : Nat) : Int) = P at *
    have hne : (a + b) * P ≠ 0 := Int.mul_ne_zero h0 (by omega)
    rw [if_neg hne]
    by_cases hn : a + b < 0
    · have := Int.mul_neg_of_neg_of_pos hn hp
      simp [hn, this]
    · have := Int.mul_pos (show 0 < a + b by omega) hp
      simp [hn]; omega
theorem rep_add {f g : Nat} {a b : Int} (hf : Rep f a) (hg : Rep g b) (h53 : (a + b).natAbs < 9007199254740992) : ∃ r, floatBits .add .f64 f g = some r ∧ Rep r (a + b) := by
  obtain ⟨s, i, e1, h1⟩ := hf
  obtain ⟨t, j, e2, h2⟩ := hg
  obtain ⟨u, e3, h3⟩ := sum_rep (i := i) (j := j) h1 h2
  refine ⟨_, ?_, rep_write (j := max i j) h3 h53⟩
  show (((D.read f).sum (D.read g)).map D.write) = _
  rw [e1, e2, e3]
  rfl
theorem rep_sub {f g : Nat} {a b : Int} (hf : Rep f a) (hg : Rep g b) (h53 : (a - b).natAbs < 9007199254740992) : ∃ r, floatBits .sub .f64 f g = some r ∧ Rep r (a - b) := by
  obtain ⟨s, i, e1, h1⟩ := hf
  obtain ⟨t, j, e2, h2⟩ := hg
  have h2' : -b ≠ 0 → (!t) = decide (-b < 0) := fun h => by
    rw [h2 (by omega)]
    by_cases hb : b < 0
    · simp [hb]; omega
    · simp [hb]; omega
  obtain ⟨u, e3, h3⟩ := sum_rep (i := i) (j := j) h1 h2'
  rw [Int.natAbs_neg, ← Int.sub_eq_add_neg] at e3
  rw [← Int.sub_eq_add_neg] at h3
  refine ⟨_, ?_, rep_write (j := max i j) h3 h53⟩
  show (((D.read f).sum (D.read g).opposite).map D.write) = _
  rw [e1, e2]
  show ((Datum.sum (.number s (a.natAbs * 2 ^ i) (-(i : Int))) (.number (!t) (b.natAbs * 2 ^ j) (-(j : Int)))).map D.write) = _
  rw [e3]
  rfl
theorem rep_eq {f g : Nat} {a : Int} (hf : Rep f a) (hg : Rep g a) : (D.order f g == some .eq) = true := by
  obtain ⟨s, i, e1, h1⟩ := hf
  obtain ⟨t, j, e2, h2⟩ := hg
  have e3 : (-(i : Int) - min (-(i : Int)) (-(j : Int))).toNat = max i j - i := by omega
  have e4 : (-(j : Int) - min (-(i : Int)) (-(j : Int))).toNat = max i j - j := by omega
  unfold Format.order
  rw [e1, e2]
  unfold Datum.order
  simp only
  rw [e3, e4, signed_rep h1 (Nat.le_max_left i j), signed_rep h2 (Nat.le_max_right i j)]
  simp
end Go.Proofs.Ytkpngpongbpfgaa
