/- Small whole numbers as numbers; products of complex numbers with whole parts. -/
import Derived.Test.YtkpngpongbpfgaaFex
import Derived.Test.YtkpngpongbpfgaaKnN
import Derived.Test.YtkpngpongbpfgaaDoW
import Derived.Test.YtkpngpongbpfgaaDoE
namespace Go.Proofs.Ytkpngpongbpfgaa
open Go.RowKit
set_option maxRecDepth 100000
theorem mag_lead {n : Nat} (h : n ≠ 0) : (mag n).getD 0 0 ≠ 0 := by
  intro h0
  have hl : (mag n).length ≠ 0 := by
    rw [mag_len]
    have := (blen_spec n).2 h
    omega
  cases hm : mag n with
  | nil => rw [hm] at hl; exact hl rfl
  | cons b r =>
    rw [hm] at h0
    have hb : b = 0 := h0
    subst hb
    have hv := val8_mag n
    rw [hm, val8_zero] at hv
    have hr : ∀ x ∈ r, 0 ≤ x ∧ x < 256 := fun x hx => mag_lt n x (by rw [hm]; exact List.mem_cons_of_mem _ hx)
    have hlt := val8_lt r hr
    rw [hv] at hlt
    have h1 : (mag n).length = r.length + 1 := by rw [hm]; rfl
    rw [mag_len] at h1
    have := ((blen_spec n).2 h).1
    rw [h1, Nat.add_sub_cancel] at this
    omega
theorem whole_small (n : Int) (h : n.natAbs < 9007199254740992) : rightB (decide (n < 0)) (mag n.natAbs) = true ∧ smallB (decide (n < 0)) (mag n.natAbs) = true ∧ smallI (decide (n < 0)) (mag n.natAbs) = n := by
  have hlen : (mag n.natAbs).length ≤ 8 := by
    rw [mag_len, blen_le]
    have : (256 : Nat) ^ 8 = 18446744073709551616 := by decide
    omega
  have hr : rightB (decide (n < 0)) (mag n.natAbs) = true := by
    unfold rightB
    by_cases h0 : n = 0
    · subst h0; decide
    · have hl := mag_lead (n := n.natAbs) (by omega)
      by_cases hz : (mag n.natAbs).length = 0
      · rw [mag_len] at hz
        have := (blen_spec n.natAbs).2 (by omega)
        omega
      · rw [if_neg hz]
        simp only [Bool.and_eq_true, decide_eq_true_eq, Bool.not_eq_true', beq_eq_false_iff_ne, ne_eq]
        exact ⟨by omega, hl⟩
  refine ⟨hr, ?_, ?_⟩
  · unfold smallB
    rw [hr, decide_eq_true hlen, val8_mag]
    by_cases hn : n < 0
    · simp [hn]; omega
    · simp [hn]; omega
  · unfold smallI
    rw [hr, decide_eq_true hlen, val8_mag]
    by_cases hn : n < 0
    · simp only [hn, decide_true, Bool.and_self, if_true]
      rw [if_pos (by omega)]
      omega
    · simp only [hn, decide_false, Bool.and_self, if_true]
      rw [if_neg (by decide), if_pos (by omega)]
      omega
theorem times_rep {fa fb fc fd : Nat} {a b c d : Int} (ha : Rep fa a) (hb : Rep fb b) (hc : Rep fc c) (hd : Rep fd d) (h1 : (a * c).natAbs < 9007199254740992) (h2 : (b * d).natAbs < 9007199254740992) (h3 : (a * d).natAbs < 9007199254740992) (h4 : (b * c).natAbs < 9007199254740992) (h5 : (a * c - b * d).natAbs < 9007199254740992) (h6 : (a * d + b * c).natAbs < 9007199254740992) : ∃ r i, TimesTo fa fb fc fd r i ∧ Rep r (a * c - b * d) ∧ Rep i (a * d + b * c) := by
  obtain ⟨p1, e1, R1⟩ := rep_mul ha hc h1
  obtain ⟨p2, e2, R2⟩ := rep_mul hb hd h2
  obtain ⟨p3, e3, R3⟩ := rep_mul ha hd h3
  obtain ⟨p4, e4, R4⟩ := rep_mul hb hc h4
  obtain ⟨r, e5, R5⟩ := rep_sub R1 R2 h5
  obtain ⟨i, e6, R6⟩ := rep_add R3 R4 h6
  exact ⟨r, i, ⟨p1, p2, p3, p4, e1, e2, e5, e3, e4, e6⟩, R5, R6⟩
theorem mul_bnd {a b : Int} {A B : Nat} (ha : a.natAbs ≤ A) (hb : b.natAbs ≤ B) : (a * b).natAbs ≤ A * B := by
  rw [Int.natAbs_mul]
  exact Nat.mul_le_mul ha hb
/-- All that is reckoned. -/
theorem back_rep (a b c d : Int) (ha : a.natAbs ≤ 999) (hb : b.natAbs ≤ 999) (hc : c.natAbs ≤ 999) (hd : d.natAbs ≤ 999) : ∃ pr pi qr qi wr wi, TimesTo (floatOfInt .f64 a) (floatOfInt .f64 b) (floatOfInt .f64 c) (floatOfInt .f64 d) pr pi ∧ TimesTo pr pi (floatOfInt .f64 c) (floatOfInt .f64 (-d)) qr qi ∧ TimesTo (floatOfInt .f64 a) (floatOfInt .f64 b) (floatOfInt .f64 (c * c + d * d)) 0 wr wi ∧ eqN true false [] qr qi true false [] wr wi = true := by
  have Ra := rep_int a (by omega)
  have Rb := rep_int b (by omega)
  have Rc := rep_int c (by omega)
  have Rd := rep_int d (by omega)
  have Rm := rep_int (-d) (by omega)
  have b1 := mul_bnd ha hc
  have b2 := mul_bnd hb hd
  have b3 := mul_bnd ha hd
  have b4 := mul_bnd hb hc
  have b5 := mul_bnd hc hc
  have b6 := mul_bnd hd hd
  obtain ⟨pr, pi, T1, P1, P2⟩ := times_rep Ra Rb Rc Rd (by omega) (by omega) (by omega) (by omega) (by omega) (by omega)
  have hp1 : (a * c - b * d).natAbs ≤ 2000000 := by omega
  have hp2 : (a * d + b * c).natAbs ≤ 2000000 := by omega
  have hm : (-d).natAbs ≤ 999 := by omega
  have c1 := mul_bnd hp1 hc
  have c2 := mul_bnd hp2 hm
  have c3 := mul_bnd hp1 hm
  have c4 := mul_bnd hp2 hc
  obtain ⟨qr, qi, T2, Q1, Q2⟩ := times_rep P1 P2 Rc Rm (by omega) (by omega) (by omega) (by omega) (by omega) (by omega)
  have hn : (c * c + d * d).natAbs ≤ 2000000 := by omega
  have Rn := rep_int (c * c + d * d) (by omega)
  have R0 : Rep 0 0 := by have := rep_int 0 (by decide); rw [fl0] at this; exact this
  have d1 := mul_bnd ha hn
  have d2 := mul_bnd hb hn
  obtain ⟨wr, wi, T3, W1, W2⟩ := times_rep Ra Rb Rn R0 (by omega) (by omega) (by omega) (by omega) (by omega) (by omega)
  have e1 : (a * c - b * d) * c - (a * d + b * c) * -d = a * (c * c + d * d) - b * 0 := by grind
  have e2 : (a * c - b * d) * -d + (a * d + b * c) * c = a * 0 + b * (c * c + d * d) := by grind
  rw [e1] at Q1
  rw [e2] at Q2
  refine ⟨pr, pi, qr, qi, wr, wi, T1, T2, T3, ?_⟩
  show (if true = false ∧ true = false then _ else if (0 : Int) ≠ 0 then false else if (0 : Int) ≠ 0 then false else (FloatKind.f64.format.order qr wr == some .eq) && (FloatKind.f64.format.order qi wi == some .eq)) = true
  rw [if_neg (by decide), if_neg (by decide), if_neg (by decide)]
  have g1 := rep_eq Q1 W1
  have g2 := rep_eq Q2 W2
  rw [show (FloatKind.f64.format.order qr wr == some .eq) = true from g1, show (FloatKind.f64.format.order qi wi == some .eq) = true from g2]
  rfl
end Go.Proofs.Ytkpngpongbpfgaa
