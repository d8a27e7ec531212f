/- What is read is what would be written. -/
import Derived.Test.YtjfaflmmanjjbaaBack
namespace Go.Proofs.Ytjfaflmmanjjbaa
open Go.RowKit
set_option maxRecDepth 100000
theorem rd_canon : ∀ (xs : List Int) (i acc n k : Nat), rd i acc xs = (n, k, 0) → i ≤ 9 → (∀ x ∈ xs, 0 ≤ x ∧ x < 256) → ∃ m, n = acc + m * 128 ^ i ∧ i < k ∧ xs = uv (9 - i) m ++ xs.drop (k - i) ∧ (0 < i → m ≠ 0)
  | [], i, acc, n, k, h, _, _ => by simp [rd] at h
  | x :: r, i, acc, n, k, h, hi, hb => by
    have hx := hb x (by simp)
    unfold rd at h
    split at h
    · simp at h
    · next h9 =>
      split at h
      · next h128 =>
        split at h
        · simp at h
        · next h0 =>
          simp only [Prod.mk.injEq, and_true] at h
          obtain ⟨rfl, rfl⟩ := h
          refine ⟨x.toNat, rfl, by omega, ?_, fun h => by omega⟩
          have e : uv (9 - i) x.toNat = [x] := by
            have hz : x.toNat < 128 := by omega
            have hz' : ((x.toNat : Nat) : Int) = x := by omega
            cases 9 - i with
            | zero => simp [uv]; omega
            | succ f => simp [uv, hz]; omega
          rw [e, show i + 1 - i = 1 by omega]
          rfl
      · next h128 =>
        have h9' : i ≠ 9 := by omega
        obtain ⟨m, hn, hk, hr, hm⟩ := rd_canon r (i + 1) _ n k h (by omega) (fun y hy => hb y (by simp [hy]))
        refine ⟨x.toNat % 128 + 128 * m, ?_, by omega, ?_, fun _ => by have := hm (by omega); omega⟩
        · rw [hn, Nat.pow_succ]
          have : m * (128 ^ i * 128) = 128 * m * 128 ^ i := by rw [Nat.mul_comm (128 ^ i) 128, ← Nat.mul_assoc, Nat.mul_comm m 128]
          rw [this, Nat.add_mul]
          omega
        · have hm0 := hm (by omega)
          have e : uv (9 - i) (x.toNat % 128 + 128 * m) = x :: uv (9 - (i + 1)) m := by
            rw [show 9 - i = (9 - (i + 1)) + 1 by omega]
            have h1 : ¬ x.toNat % 128 + 128 * m < 128 := by omega
            have h2 : (x.toNat % 128 + 128 * m) / 128 = m := by omega
            have h3 : (x.toNat % 128 + 128 * m) % 128 = x.toNat % 128 := by omega
            simp only [uv, if_neg h1, h2, h3]
            congr 1
            omega
          rw [e, show k - i = (k - (i + 1)) + 1 by omega, List.drop_succ_cons, List.cons_append, ← hr]
theorem uR_canon {xs ys : List Int} {n : Nat} (h : uR (some xs) = (n, some ys)) (hb : ∀ x ∈ xs, 0 ≤ x ∧ x < 256) : xs = uvar n ++ ys := by
  obtain ⟨r1, r2, r3, hr⟩ : ∃ r1 r2 r3, rd 0 0 xs = (r1, r2, r3) := ⟨_, _, _, rfl⟩
  unfold uR at h
  rw [Option.getD_some, hr] at h
  dsimp only at h
  split at h
  · next h0 =>
    subst h0
    simp only [Prod.mk.injEq, Option.some.injEq] at h
    obtain ⟨rfl, rfl⟩ := h
    obtain ⟨m, hn, _, hx, _⟩ := rd_canon xs 0 0 r1 r2 hr (by omega) hb
    have : r1 = m := by simpa using hn
    subst this
    exact hx
  · simp at h
theorem nR_canon {xs ys : List Int} {n most : Nat} (h : nR most (some xs) = (n, some ys)) (hb : ∀ x ∈ xs, 0 ≤ x ∧ x < 256) : xs = uvar n ++ ys := by
  unfold nR at h
  split at h
  · simp at h
  · exact uR_canon h hb
theorem oR_canon {xs ys : List Int} {o : Int} (h : oR (some xs) = (o, some ys)) : xs = o :: ys := by
  unfold oR at h
  rw [Option.getD_some] at h
  split at h
  · simp at h
  · simp at h
    obtain ⟨rfl, rfl⟩ := h
    rfl
theorem slotR_canon {xs ys : List Int} {p : Int × Int} (h : slotR (some xs) = (p, some ys)) (hb : ∀ x ∈ xs, 0 ≤ x ∧ x < 256) : xs = valB p.1 p.2 ++ ys := by
  obtain ⟨o, t', ho⟩ : ∃ o t', oR (some xs) = (o, t') := ⟨_, _, rfl⟩
  unfold slotR at h
  rw [ho] at h
  dsimp only at h
  cases t' with
  | none =>
    obtain rfl := oR_none ho
    simp at h
  | some t =>
    have hx := oR_canon ho
    have hbt : ∀ x ∈ t, 0 ≤ x ∧ x < 256 := fun x hx' => hb x (by rw [hx]; simp [hx'])
    split at h
    · next h0 =>
      simp only [Prod.mk.injEq, Option.some.injEq] at h
      obtain ⟨rfl, rfl⟩ := h
      rw [hx]
      simp only [valB]
      rw [if_neg (by omega), if_neg (by omega)]
      rfl
    · split at h
      · next h3 =>
        subst h3
        obtain ⟨u, t2, hu⟩ : ∃ u t2, uR (some t) = (u, t2) := ⟨_, _, rfl⟩
        rw [hu] at h
        simp only [Prod.mk.injEq] at h
        obtain ⟨rfl, rfl⟩ := h
        rw [hx]
        simp only [valB, if_true]
        rw [zz_unzz (u : Int) (by omega), Int.toNat_natCast, List.cons_append, ← uR_canon hu hbt]
      · split at h
        · next h4 =>
          subst h4
          obtain ⟨u, t2, hu⟩ : ∃ u t2, nR 4096 (some t) = (u, t2) := ⟨_, _, rfl⟩
          rw [hu] at h
          simp only [Prod.mk.injEq] at h
          obtain ⟨rfl, rfl⟩ := h
          rw [hx]
          simp only [valB]
          rw [if_neg (by decide), if_pos trivial, Int.toNat_natCast, List.cons_append, ← nR_canon hu hbt]
        · simp at h
theorem slotsR_canon : ∀ (n : Nat) {xs ys : List Int} {vs : List (Int × Int)}, slotsR n (some xs) = (vs, some ys) → (∀ x ∈ xs, 0 ≤ x ∧ x < 256) → vs.length = n ∧ xs = valsB vs ++ ys
  | 0, xs, ys, vs, h, _ => by
    simp only [slotsR, Prod.mk.injEq, Option.some.injEq] at h
    obtain ⟨rfl, rfl⟩ := h
    exact ⟨rfl, rfl⟩
  | n + 1, xs, ys, vs, h, hb => by
    obtain ⟨p, t', hs⟩ : ∃ p t', slotR (some xs) = (p, t') := ⟨_, _, rfl⟩
    cases t' with
    | none =>
      rw [slotsR_stop hs] at h
      simp at h
    | some t =>
      have hx := slotR_canon hs hb
      rw [slotsR_go hs] at h
      obtain ⟨us, s2, h2⟩ : ∃ us s2, slotsR n (some t) = (us, s2) := ⟨_, _, rfl⟩
      rw [h2] at h
      simp only [Prod.mk.injEq] at h
      obtain ⟨rfl, rfl⟩ := h
      have ih := slotsR_canon n h2 (fun x hx' => hb x (by rw [hx]; simp [hx']))
      refine ⟨by rw [List.length_cons, ih.1], ?_⟩
      show xs = (valB p.1 p.2 ++ valsB us) ++ ys
      rw [List.append_assoc, ← ih.2, ← hx]
theorem slotsR_none : ∀ (n : Nat) {s : Option (List Int)} {vs : List (Int × Int)} {ys : List Int}, slotsR n s = (vs, some ys) → ∃ xs, s = some xs
  | 0, s, vs, ys, h => by
    simp only [slotsR, Prod.mk.injEq] at h
    exact ⟨ys, h.2⟩
  | n + 1, none, vs, ys, h => by
    simp [slotsR, slotR, oR] at h
  | n + 1, some xs, vs, ys, h => ⟨xs, rfl⟩
theorem nR_none {most n : Nat} {s : Option (List Int)} {ys : List Int} (h : nR most s = (n, some ys)) : ∃ xs, s = some xs := by
  cases s with
  | none => simp [nR, uR, rd] at h
  | some xs => exact ⟨xs, rfl⟩
theorem tR_none {s : Option (List Int)} {bs ys : List Int} (h : tR s = (bs, some ys)) : ∃ xs, s = some xs := by
  cases s with
  | none => simp [tR, rtx, rd] at h
  | some xs => exact ⟨xs, rfl⟩
theorem tR_canon {xs ys bs : List Int} (h : tR (some xs) = (bs, some ys)) (hb : ∀ x ∈ xs, 0 ≤ x ∧ x < 256) : xs = textB bs ++ ys := by
  obtain ⟨r1, r2, r3, hr⟩ : ∃ r1 r2 r3, rd 0 0 xs = (r1, r2, r3) := ⟨_, _, _, rfl⟩
  unfold tR rtx at h
  rw [Option.getD_some, hr] at h
  dsimp only at h
  by_cases h3 : r3 = 0
  · subst h3
    rw [if_neg (by simp : ¬ ((0 : Nat) ≠ 0))] at h
    by_cases h6 : 60000 < r1
    · rw [if_pos h6] at h
      simp at h
    · rw [if_neg h6] at h
      by_cases hl : xs.length < r2 + r1
      · rw [if_pos hl] at h
        simp at h
      · rw [if_neg hl] at h
        simp only [if_true, Prod.mk.injEq, Option.some.injEq] at h
        obtain ⟨rfl, rfl⟩ := h
        obtain ⟨m, hn, hk, hx, _⟩ := rd_canon xs 0 0 r1 r2 hr (by omega) hb
        have : r1 = m := by simpa using hn
        subst this
        have hlen : ((xs.drop r2).take r1).length = r1 := by simp; omega
        unfold textB
        rw [hlen, List.append_assoc]
        conv => lhs; rw [hx]
        show uvar r1 ++ List.drop (r2 - 0) xs = _
        congr 1
        rw [Nat.sub_zero, ← List.drop_drop, List.take_append_drop]
  · rw [if_pos h3] at h
    simp [h3] at h
theorem objY_objR {xs : List Int} {c : Int} {vs : List (Int × Int)} {bs ys : List Int} (h : objR (some xs) = (c, vs, bs, some ys)) (hb : ∀ x ∈ xs, 0 ≤ x ∧ x < 256) : xs = objY c vs bs ++ ys := by
  obtain ⟨m, s1, h1⟩ : ∃ c s1, nR 4096 (some xs) = (c, s1) := ⟨_, _, rfl⟩
  obtain ⟨n, s2, h2⟩ : ∃ n s2, nR 256 s1 = (n, s2) := ⟨_, _, rfl⟩
  obtain ⟨us, s3, h3⟩ : ∃ vs s3, slotsR n s2 = (vs, s3) := ⟨_, _, rfl⟩
  obtain ⟨ds, s4, h4⟩ : ∃ bs s4, tR s3 = (bs, s4) := ⟨_, _, rfl⟩
  have e0 : objR (some xs) = ((m : Int), us, ds, s4) := by
    unfold objR
    rw [h1]; dsimp only; rw [h2]; dsimp only; rw [h3]; dsimp only; rw [h4]
  rw [e0] at h
  simp only [Prod.mk.injEq] at h
  obtain ⟨rfl, rfl, rfl, rfl⟩ := h
  obtain ⟨x3, rfl⟩ := tR_none h4
  obtain ⟨x2, rfl⟩ := slotsR_none n h3
  obtain ⟨x1, rfl⟩ := nR_none h2
  have k1 := nR_canon h1 hb
  have b1 : ∀ x ∈ x1, 0 ≤ x ∧ x < 256 := fun x hx => hb x (by rw [k1]; simp [hx])
  have k2 := nR_canon h2 b1
  have b2 : ∀ x ∈ x2, 0 ≤ x ∧ x < 256 := fun x hx => b1 x (by rw [k2]; simp [hx])
  have k3 := slotsR_canon n h3 b2
  have b3 : ∀ x ∈ x3, 0 ≤ x ∧ x < 256 := fun x hx => b2 x (by rw [k3.2]; simp [hx])
  have k4 := tR_canon h4 b3
  unfold objY
  rw [Int.toNat_natCast, k3.1, List.append_assoc, List.append_assoc, List.append_assoc, ← k4, ← k3.2, ← k2, ← k1]
end Go.Proofs.Ytjfaflmmanjjbaa
