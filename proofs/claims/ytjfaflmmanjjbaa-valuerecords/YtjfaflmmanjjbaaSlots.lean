/- The reader: slots. -/
import Derived.Test.YtjfaflmmanjjbaaRdr2
namespace Go.Proofs.Ytjfaflmmanjjbaa
open Go.RowKit
set_option maxRecDepth 100000
/-- One slot read. -/
def slotR (s : Option (List Int)) : (Int × Int) × Option (List Int) :=
  if (oR s).1 = 0 ∨ (oR s).1 = 1 ∨ (oR s).1 = 2 then (((oR s).1, 0), (oR s).2)
  else if (oR s).1 = 3 then ((3, unzz ((uR (oR s).2).1 : Int)), (uR (oR s).2).2)
  else if (oR s).1 = 4 then ((4, ((nR 4096 (oR s).2).1 : Int)), (nR 4096 (oR s).2).2)
  else (((oR s).1, 0), none)
def slotsR : Nat → Option (List Int) → List (Int × Int) × Option (List Int)
  | 0, s => ([], s)
  | n + 1, s => if (slotR s).2 = none then ([], none) else ((slotR s).1 :: (slotsR n (slotR s).2).1, (slotsR n (slotR s).2).2)
theorem slotsR_stop {n : Nat} {s : Option (List Int)} {p : Int × Int} (h : slotR s = (p, none)) : slotsR (n + 1) s = ([], none) := by
  simp [slotsR, h]
theorem slotsR_go {n : Nat} {s : Option (List Int)} {p : Int × Int} {t : List Int} (h : slotR s = (p, some t)) : slotsR (n + 1) s = (p :: (slotsR n (some t)).1, (slotsR n (some t)).2) := by
  simp [slotsR, h]
theorem rd_lt : ∀ (xs : List Int) (i acc : Nat), (∀ x ∈ xs, 0 ≤ x ∧ x < 256) → i ≤ 9 → acc < 128 ^ i → (rd i acc xs).1 < 18446744073709551616
  | [], i, acc, _, _, _ => by simp [rd]
  | x :: r, i, acc, hb, hi, ha => by
    have hx := hb x (by simp)
    unfold rd
    split
    · simp
    · next h9 =>
      split
      · split
        · simp
        · have h1 : (128 : Nat) ^ i ≤ 128 ^ 9 := Nat.pow_le_pow_right (by decide) hi
          by_cases e : i = 9
          · subst e
            have h2 : x.toNat ≤ 1 := by omega
            have h3 : x.toNat * 128 ^ 9 ≤ 1 * 128 ^ 9 := Nat.mul_le_mul_right _ h2
            have h4 : (128 : Nat) ^ 9 = 9223372036854775808 := by decide
            simp only
            omega
          · have h5 : (128 : Nat) ^ i ≤ 128 ^ 8 := Nat.pow_le_pow_right (by decide) (by omega)
            have h2 : x.toNat ≤ 127 := by omega
            have h3 : x.toNat * 128 ^ i ≤ 127 * 128 ^ 8 := Nat.mul_le_mul h2 h5
            have h4 : (128 : Nat) ^ 8 = 72057594037927936 := by decide
            simp only
            omega
      · next h8 =>
        have h9' : i ≠ 9 := by omega
        refine rd_lt r (i + 1) _ (fun y hy => hb y (by simp [hy])) (by omega) ?_
        have h2 : x.toNat % 128 ≤ 127 := by omega
        have h3 : x.toNat % 128 * 128 ^ i ≤ 127 * 128 ^ i := Nat.mul_le_mul_right _ h2
        rw [Nat.pow_succ]
        omega
theorem uR_lt {s : Option (List Int)} (h : ∀ x ∈ s.getD [], 0 ≤ x ∧ x < 256) : (uR s).1 < 18446744073709551616 := by
  have := rd_lt (s.getD []) 0 0 h (by omega) (by decide)
  unfold uR
  split <;> exact this
theorem nR_le {most : Nat} {s : Option (List Int)} : (nR most s).1 ≤ most := by
  unfold nR
  split
  · simp
  · omega
theorem OwnV.shape' {w : World} {base : Nat} {v : Value} {vs : List (Int × Int)} (h : OwnV w base v vs) : ∃ a n c, v = .slice a n c := by
  obtain ⟨_, a, c, e, _⟩ := h
  exact ⟨a, _, c, e⟩
theorem OwnV.wf {w : World} {base : Nat} {v : Value} {vs : List (Int × Int)} (h : OwnV w base v vs) : wfVs vs := by
  obtain ⟨_, a, c, e, k⟩ := h
  exact k.wf
theorem OwnV.lt {w : World} {base : Nat} {v : Value} {vs : List (Int × Int)} (h : OwnV w base v vs) : ∀ g, v.ownBlock = some g → base ≤ g ∧ g < w.heap.size := fun g hg => by
  obtain ⟨h1, cur, hh⟩ := own_block h.1 hg
  exact ⟨h1, lt_of_block hh⟩
theorem OwnV.same {w w' : World} {base : Nat} {v : Value} {vs : List (Int × Int)} (h : OwnV w base v vs) (hk : ∀ g, v.ownBlock = some g → w'.heap[g]? = w.heap[g]?) : OwnV w' base v vs := ownV_of (own_same h.1 hk) h.wf
theorem ownV_nil (w : World) (base : Nat) : OwnV w base (.slice none 0 0) [] := ownV_of (n := 0) (World.ownsRow_nil _ _ _ _) (by intro v hv; cases hv)
theorem isV_lit (w : World) (x y : Int) (hx : -9223372036854775808 ≤ x ∧ x ≤ 9223372036854775807) (hy : -9223372036854775808 ≤ y ∧ y ≤ 9223372036854775807) : IsV (w.alloc (.cells #[.int .i64 x, .int .i64 y] 23)) (some ⟨w.heap.size, 0, none⟩) 1 1 [(x, y)] := by
  refine ⟨rfl, Nat.le_refl _, by decide, by simp, by intro v hv; simp at hv; subst hv; exact ⟨hx, hy⟩, fun _ => ⟨_, _, rfl, fun i hi => ?_⟩⟩
  obtain rfl : i = 0 := by omega
  simp
end Go.Proofs.Ytjfaflmmanjjbaa
