/- rc.added, rc.inBag. -/
import Derived.Test.YtkkilenokpoaoaaGrt
import Derived.Test.YtkkilenokpoaoaaDel
namespace Go.Proofs.Ytkkilenokpoaoaa
open Go.RowKit
set_option maxRecDepth 100000
/-- Where the first greater one stands, or the end. -/
def gPos : List (Int × Int) → Int × Int → Nat
  | [], _ => 0
  | v :: t, x => if gtV v x = true then 0 else gPos t x + 1
theorem gPos_le : ∀ (vs : List (Int × Int)) (x : Int × Int), gPos vs x ≤ vs.length
  | [], _ => Nat.le_refl _
  | v :: t, x => by
    have := gPos_le t x
    simp only [gPos, List.length_cons]
    split <;> omega
theorem gIdx_pos : ∀ (vs : List (Int × Int)) (i : Nat) (x : Int × Int), gIdx vs i x = if gPos vs x < vs.length then ((i + gPos vs x : Nat) : Int) else -1
  | [], i, x => by simp [gIdx, gPos]
  | v :: t, i, x => by
    have ih := gIdx_pos t (i + 1) x
    simp only [gIdx, gPos, List.length_cons]
    split
    · simp
    · rw [ih]
      by_cases h : gPos t x < t.length
      · rw [if_pos h, if_pos (by omega)]
        congr 1
        omega
      · rw [if_neg h, if_neg (by omega)]
/-- A value more in a Bag. -/
def bIns (vs : List (Int × Int)) (x : Int × Int) : List (Int × Int) := vs.take (gPos vs x) ++ x :: vs.drop (gPos vs x)
def addS (vs : List (Int × Int)) (x : Int × Int) : Option (List (Int × Int)) := if x.1 < 0 ∨ 3 < x.1 ∨ 256 ≤ vs.length then none else some (bIns vs x)
theorem bIns_len (vs : List (Int × Int)) (x : Int × Int) : (bIns vs x).length = vs.length + 1 := by
  have := gPos_le vs x
  unfold bIns
  simp
  omega
theorem did_some {base : Nat} {v : Value} {w w' : World} {us : List (Int × Int)} {e : Ending} {a : Option Addr} {n c : Nat} (hn : n = us.length) (he : e = .returned (.tuple #[.slice a n c, .bool true])) (O : OwnV w' base (.slice a n c) us) (K : Kp v w w') : Did base v w (some us) e w' := by
  subst hn
  exact ⟨a, c, he, O, K⟩
set_option maxHeartbeats 4000000 in
theorem added_any {w : World} {base : Nat} {v : Value} {vs : List (Int × Int)} (k n : Int) (h : OwnV w base v vs) (hb : base ≤ w.heap.size) (hk : I64 k) (hn : I64 n) :
    Calls Try.prog 52 #[v, .agg #[.int .i64 k, .int .i64 n]] w (Did base v w (addS vs (k, n))) := by
  obtain ⟨a, c, rfl⟩ : ∃ a c, v = .slice a vs.length c := by obtain ⟨_, a, c, e, _⟩ := h; exact ⟨a, c, e⟩
  have hv := h.isV
  have B1 : Below w.heap.size w (w.alloc (.cells #[.int .i64 k, .int .i64 n] 60)) := box_below
  have E1 := new1 w (.cells #[.int .i64 k, .int .i64 n] 60)
  obtain ⟨b0, b1⟩ := vcells E1
  obtain ⟨L, hL⟩ : ∃ L, Hid (vs.length = L) := ⟨_, rfl⟩
  by_cases h1 : k < 0
  · rw [show addS vs (k, n) = none from if_pos (.inl h1)]
    rw [hL.out]
    go_enter Try.func52, Try.ntmps52
    go_wp2
    go_ret2
    exact ⟨rfl, Kp.of B1⟩
  by_cases h2 : 3 < k
  · rw [show addS vs (k, n) = none from if_pos (.inr (.inl h2))]
    rw [hL.out]
    go_enter Try.func52, Try.ntmps52
    go_wp2
    go_ret2
    exact ⟨rfl, Kp.of B1⟩
  by_cases h3 : 256 ≤ vs.length
  · rw [show addS vs (k, n) = none from if_pos (.inr (.inr h3))]
    rw [hL.out] at h3 ⊢
    have h3' : (256 : Int) ≤ (L : Int) := by omega
    go_enter Try.func52, Try.ntmps52
    go_wp2
    go_ret2
    exact ⟨rfl, Kp.of B1⟩
  rw [show addS vs (k, n) = some (bIns vs (k, n)) from if_neg (by simp; omega)]
  have hpl := gPos_le vs (k, n)
  have hgi := gIdx_pos vs 0 (k, n)
  have hl : vs.length + 1 ≤ 8796093022208 := by omega
  have hfi := indexf_any k n (hv.below B1) b0 b1
  have hbl := bIns_len vs (k, n)
  unfold bIns at hbl ⊢
  obtain ⟨Q, hQ⟩ : ∃ Q, gPos vs (k, n) = Q := ⟨_, rfl⟩
  rw [hQ] at hpl hgi hbl ⊢
  rw [hgi] at hfi
  clear hgi hQ
  rw [hL.out] at hfi hpl hl h3 ⊢
  have h3' : ¬ (256 : Int) ≤ (L : Int) := by omega
  have h1' : ¬ k < 0 := h1
  have hqi : (0 + Q : Nat) = Q := by omega
  rw [hqi] at hfi
  go_enter Try.func52, Try.ntmps52
  go_wp2_with fail
  by_cases hQL : Q < L
  · rw [if_pos hQL] at hfi
    refine hfi.mono ?_
    rintro e w2 ⟨rfl, B2⟩
    have B3 := below_size B1 B1.size B2
    have q0 := (B2.cell (p := ⟨w.heap.size, 0, none⟩) (lt_of_cell b0)).trans b0
    have q1 := (B2.cell (p := ⟨w.heap.size, 1, none⟩) (lt_of_cell b1)).trans b1
    have hO3 := (h.below B3).below (box_below (o := .cells #[.int .i64 k, .int .i64 n] 60))
    have hV3 := new1 w2 (.cells #[.int .i64 k, .int .i64 n] 60)
    have hI3 := isV_lit w2 k n hk hn
    have B4 := below_size B3 B3.size (box_below (o := .cells #[.int .i64 k, .int .i64 n] 60))
    have hne : (Value.slice a vs.length c).ownBlock ≠ some w2.heap.size := fun e => by
      have := ((h.below B3).1.lt w2.heap.size e).2
      omega
    have hins := insert_any (i := Q) (k, n) hO3 (by rw [hL.out]; exact hpl) (by rw [hL.out]; exact hl) (Nat.le_trans hb B4.size) hV3 hI3 hne
    rw [hL.out] at hins
    clear b0 b1 E1 B1 B2 hfi hv hO3 hV3 hI3 hne
    go_wp2_with fail
    refine hins.mono ?_
    rintro e w5 ⟨a5, c5, rfl, O5, K5⟩
    go_wp2
    go_ret2
    exact did_some (by rw [hbl, hL.out]) rfl O5 ⟨K5.os.trans B4.os, K5.tape.trans B4.tape, K5.output.trans B4.output, Nat.le_trans B4.size K5.size, fun j hj hn => (K5.block j (by have := B4.size; omega) hn).trans (B4.block j hj)⟩
  · rw [if_neg hQL] at hfi
    obtain rfl : Q = L := by omega
    refine hfi.mono ?_
    rintro e w2 ⟨rfl, B2⟩
    have B3 := below_size B1 B1.size B2
    have q0 := (B2.cell (p := ⟨w.heap.size, 0, none⟩) (lt_of_cell b0)).trans b0
    have q1 := (B2.cell (p := ⟨w.heap.size, 1, none⟩) (lt_of_cell b1)).trans b1
    have hO3 := (h.below B3).below (box_below (o := .cells #[.int .i64 k, .int .i64 n] 60))
    have hV3 := new1 w2 (.cells #[.int .i64 k, .int .i64 n] 60)
    have hI3 := isV_lit w2 k n hk hn
    have B4 := below_size B3 B3.size (box_below (o := .cells #[.int .i64 k, .int .i64 n] 60))
    have hne : (Value.slice a vs.length c).ownBlock ≠ some w2.heap.size := fun e => by
      have := ((h.below B3).1.lt w2.heap.size e).2
      omega
    have hins := insert_any (i := Q) (k, n) hO3 (by rw [hL.out]; exact hpl) (by rw [hL.out]; exact hl) (Nat.le_trans hb B4.size) hV3 hI3 hne
    rw [hL.out] at hins
    clear b0 b1 E1 B1 B2 hfi hv hO3 hV3 hI3 hne
    go_wp2_with fail
    refine hins.mono ?_
    rintro e w5 ⟨a5, c5, rfl, O5, K5⟩
    go_wp2
    go_ret2
    exact did_some (by rw [hbl, hL.out]) rfl O5 ⟨K5.os.trans B4.os, K5.tape.trans B4.tape, K5.output.trans B4.output, Nat.le_trans B4.size K5.size, fun j hj hn => (K5.block j (by have := B4.size; omega) hn).trans (B4.block j hj)⟩
end Go.Proofs.Ytkkilenokpoaoaa
