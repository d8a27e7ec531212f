/- The document's Lent and Kept: bytes in new memory with room behind, and whether they are as they were. -/
import Derived.Test.YtjfaflmmanjjbaaKnown
import Derived.Deep.QuietTactic
import Derived.BigQuiet
namespace Go.Proofs.Ytjfaflmmanjjbaa
open Go.RowKit
set_option maxRecDepth 100000

/-- What stands behind bytes that are lent. -/
def pad : List Int := [165, 165, 165, 165, 165, 165, 165, 165]

theorem append_bytes (xs ys : List Int) (h1 : ∀ x ∈ xs, 0 ≤ x ∧ x < 256) (h2 : ∀ x ∈ ys, 0 ≤ x ∧ x < 256) : ∀ x ∈ xs ++ ys, 0 ≤ x ∧ x < 256 := by
  intro x hx
  rcases List.mem_append.1 hx with hx | hx
  · exact h1 x hx
  · exact h2 x hx

set_option maxHeartbeats 1000000 in
theorem lent_any {a : Option Addr} {len cap : Nat} {xs : List Int} {w : World} (h : IsB w a len cap xs) (hl : len ≤ 140737488351232) :
    Calls Try.prog 26 #[.slice a len cap] w fun e w' => e = .returned (.slice (some ⟨w.heap.size, 0, none⟩) len (len + 8)) ∧
      IsB w' (some ⟨w.heap.size, 0, none⟩) (len + 8) (len + 8) (xs ++ pad) ∧ Below w.heap.size w w' := by
  obtain ⟨i0, hi, hz0, hz1, hz2⟩ := info_parts Try.info5
  go_enter Try.func26, Try.ntmps26
  go_wp2_with (at_make; refine wpList_make_own _ rfl _ _ 25 rfl w.heap.size 5 i0 (.int .u8 0) 1 Try.underlying25 hi hz0 hz1 _ _ _ (len + 8) rfl rfl (by omega) (by rw [hz2]; omega) (by unfold maxLen; omega) (Nat.le_refl _) ?_)
  intro w1 hown hgrow
  have hb1 := (Below.refl w.heap.size w).grown hgrow (Nat.le_refl _) (by simp)
  have k1 := h.below hb1
  go_wp2_with (at_builtin; refine wpList_append_fits_any _ rfl _ _ 25 rfl w.heap.size 5 i0 1 Try.underlying25 hi hz1 w.heap.size 0 (len + 8) [] rfl hown a len cap (xs.map (Value.int .u8)) rfl k1.lenMap k1.nil' k1.cellsAt k1.one (by omega) ?_)
  intro w2 hown2 hgrow2
  have hb2 := hb1.grown hgrow2 hb1.size (by simp)
  clear hown hgrow hgrow2 k1 hb1
  have kp := isB_lit w2 (pad.map (Value.int .u8)).toArray pad 8 rfl (by decide) rfl (by decide) (0, 0)
  have hown3 := hown2.alloc (.cells (pad.map (Value.int .u8)).toArray 5)
  go_wp2_with (at_builtin; refine wpList_append_fits_any _ rfl _ _ 25 rfl w.heap.size 5 i0 1 Try.underlying25 hi hz1 w.heap.size len (len + 8) (xs.map (Value.int .u8)) rfl hown3 (some ⟨w2.heap.size, 0, none⟩) 8 8 (pad.map (Value.int .u8)) rfl kp.lenMap kp.nil' kp.cellsAt kp.one (by omega) ?_)
  intro w3 hown4 hgrow4
  have hb3 := (hb2.alloc hb2.size (.cells (pad.map (Value.int .u8)).toArray 5)).grown hgrow4 (by have := hb2.size; simp; omega) (by simp)
  clear hown2 hown3 hb2 kp hgrow4
  rw [← List.map_append] at hown4
  have hB := isB_own hown4 (append_bytes xs pad h.byte (by decide))
  clear hown4
  go_wp2
  go_ret
  exact ⟨rfl, hB, hb3⟩

theorem IsB.drewN {w : World} {a : Option Addr} {len cap : Nat} {xs : List Int} (h : IsB w a len cap xs) (k : Nat) : IsB (w.drewN k) a len cap xs :=
  h.below (below_drewN (Below.refl _ _) k)
/-- The first bytes of a slice. -/
theorem IsB.front {w : World} {a : Option Addr} {len cap : Nat} {xs ys : List Int} (h : IsB w a (len + ys.length) cap (xs ++ ys)) (hl : xs.length = len) : IsB w a len cap xs := by
  refine ⟨hl, by have := h.room; omega, h.most, h.nil0, fun x hx => h.byte x (List.mem_append_left _ hx), fun h0 => ?_⟩
  obtain ⟨b, off, ha, hc⟩ := h.cells (by omega)
  refine ⟨b, off, ha, fun i hi => ?_⟩
  rw [hc i (by omega)]
  simp [List.getElem?_append_left (show i < xs.length by omega)]

theorem str_pad (xs : List Int) : strOfNums (xs ++ pad) = strOfNums xs ++ ⟨#[165, 165, 165, 165, 165, 165, 165, 165]⟩ := by
  unfold strOfNums
  rw [List.map_append]
  rfl

set_option maxHeartbeats 1000000 in
theorem kept_true {a : Option Addr} {g len cap : Nat} {xs : List Int} {w : World} (ho : IsB w (some ⟨g, 0, none⟩) (len + 8) (len + 8) (xs ++ pad)) (h : IsB w a len cap xs) (hl : len ≤ 140737488351232) :
    Calls Try.prog 28 #[.slice (some ⟨g, 0, none⟩) len (len + 8), .slice a len cap] w fun e w' => e = .returned (.bool true) ∧ ∃ k, w' = w.drewN k := by
  have ho1 : IsB w (some ⟨g, 0, none⟩) len (len + 8) xs := ho.front (ys := pad) h.size
  have s1 := ho1.str
  have s2 := h.str
  have s3 := fun k => (ho.drewN k).str
  have s4 := fun k => (h.drewN k).str
  have hsz : (strOfNums xs).size = len := by rw [strOfNums_size, h.size]
  have hsp := str_pad xs
  clear ho1 ho h
  go_enter Try.func28, Try.ntmps28
  go_wp2
  go_quiet (fail)
  go_wp2
  go_ret
  exact ⟨rfl, nq, rfl⟩
end Go.Proofs.Ytjfaflmmanjjbaa
