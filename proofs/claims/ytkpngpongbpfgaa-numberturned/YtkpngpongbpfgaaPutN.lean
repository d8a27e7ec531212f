/- Put: a number's bytes. -/
import Derived.Test.YtkpngpongbpfgaaFby
namespace Go.Proofs.Ytkpngpongbpfgaa
open Go.RowKit
set_option maxRecDepth 100000
/-- A number's bytes. -/
def putN (p neg : Bool) (xs : List Int) (x y : Nat) : List Int := if p = true then 2 :: (bytesN 8 x ++ bytesN 8 y) else (if neg = true then 1 else 0) :: xs
def PutNP (w : World) (p neg : Bool) (xs : List Int) (x y : Nat) (e : Ending) (w' : World) : Prop :=
  (rightN p neg xs x y = false ∧ e = .returned (.tuple #[.slice none 0 0, .int .i64 1]) ∨ rightN p neg xs x y = true ∧ ∃ a n c, e = .returned (.tuple #[.slice a n c, .int .i64 0]) ∧ OwnB w' w.heap.size (.slice a n c) (putN p neg xs x y)) ∧ Below w.heap.size w w'
theorem ownB_lit (w : World) (b : Int) (hb : 0 ≤ b ∧ b < 256) : OwnB (w.alloc (.cells #[.int .u8 b] 5)) w.heap.size (.slice (some ⟨w.heap.size, 0, none⟩) 1 1) [b] :=
  ownB_of (n := 1) (World.ownsRow_lit w #[.int .u8 b] 1 (Nat.le_refl _) (by decide) rfl) (by simpa using hb)
theorem OwnB.monoN {w : World} {b b' : Nat} {v : Value} {xs : List Int} (h : OwnB w b' v xs) (hb : b ≤ b') : OwnB w b v xs := OwnB.mono h hb
theorem OwnB.shapeN {w : World} {base : Nat} {v : Value} {xs : List Int} (h : OwnB w base v xs) : ∃ a n c, v = .slice a n c ∧ n = xs.length := by
  obtain ⟨_, a, c, rfl, _⟩ := h
  exact ⟨_, _, _, rfl, rfl⟩
set_option maxHeartbeats 2000000 in
theorem putN_any {w : World} (p neg : Bool) (x y : Nat) (hx : x < 18446744073709551616) (hy : y < 18446744073709551616) {ja : Option Addr} {jn jc : Nat} {xs : List Int} (h : IsB w ja jn jc xs) (hl : jn ≤ 140737488351300) :
    Calls Try.prog 17 #[.agg #[.bool p, .bool neg, .slice ja jn jc, .complex .f64 x y]] w fun e w' => PutNP w p neg xs x y e w' := by
  have hsz := h.size
  have E1 := newF w (numP p neg (.slice ja jn jc) x y)
  have B1 : Below w.heap.size w (w.alloc (numP p neg (.slice ja jn jc) x y)) := box_belowF
  have I1 := h.below B1
  unfold numP at E1 B1 I1
  go_enter Try.func17, Try.ntmps17
  go_wp2_with fail
  generalize w.alloc (.cells #[.bool p, .bool neg, .slice ja jn jc, .complex .f64 x y] 31) = w1 at *
  replace E1 : w1.heap[w.heap.size]? = some (numP p neg (.slice ja jn jc) x y) := E1
  refine (rightN_any p neg x y I1).mono ?_
  rintro e w2 ⟨rfl, B2⟩
  replace E1 := (B2.block _ (lt_of_blockF E1)).trans E1
  replace I1 := I1.below B2
  replace B1 := below_sizeF B1 (Nat.le_refl _) B2
  clear B2
  obtain ⟨x0, x1, x2, x3, xf⟩ := numP_cells E1
  cases hR : rightN p neg xs x y with
  | false =>
    go_wp2
    go_ret2
    exact ⟨.inl ⟨hR, rfl⟩, B1⟩
  | true =>
    cases p with
    | true =>
      have O3 := ownB_lit w2 2 (by decide)
      have E3 := oldF E1 (.cells #[.int .u8 2] 5)
      have B3 : Below w.heap.size w (w2.alloc (.cells #[.int .u8 2] 5)) := below_sizeF B1 (Nat.le_refl _) box_belowF
      obtain ⟨u0, u1, u2, u3, uf⟩ := numP_cells E3
      go_wp2_with fail
      clear u0 u1 u2 u3 uf
      refine (appendFloat_any x hx O3 (Nat.le_of_lt (by simp)) (by simp)).mono ?_
      rintro e w4 ⟨v4, rfl, O4, B4⟩
      have hw2 : w.heap.size ≤ w2.heap.size := B1.size
      have E4 := (B4.block _ (lt_of_blockF E1)).trans E3
      have hz4 : w2.heap.size ≤ w4.heap.size := by have := B4.size; simp at this; omega
      have B5 := B3.trans (B4.mono hw2)
      clear B4 E3 B3 O3 x0 x1 x2 x3 xf
      obtain ⟨x0, x1, x2, x3, xf⟩ := numP_cells E4
      obtain ⟨a4, n4, c4, rfl, -⟩ := O4.shapeN
      go_wp2_with fail
      refine (appendFloat_any y hy O4 hz4 (by simp [bytesN_len])).mono ?_
      rintro e w6 ⟨v6, rfl, O6, B6⟩
      obtain ⟨a6, n6, c6, rfl, -⟩ := O6.shapeN
      have B7 := B5.trans (B6.mono hw2)
      go_wp2
      go_ret2
      refine ⟨.inr ⟨hR, _, _, _, rfl, ?_⟩, B7⟩
      have := O6.monoN hw2
      simpa [putN] using this
    | false =>
      cases neg with
      | true =>
        have O3 := ownB_lit w2 1 (by decide)
        have I3 := I1.below (box_belowF (o := .cells #[.int .u8 1] 5))
        obtain ⟨u0, u1, u2, u3, uf⟩ := numP_cells (oldF E1 (.cells #[.int .u8 1] 5))
        have B3 : Below w.heap.size w (w2.alloc (.cells #[.int .u8 1] 5)) := below_sizeF B1 (Nat.le_refl _) box_belowF
        go_wp2_with (at_builtin; refine app_ownN _ rfl _ _ rfl w2.heap.size _ [1] rfl O3 _ _ _ _ rfl I3 (by simp; omega) (by omega) (by simp) ?_)
        intro a5 n5 c5 w5 O5 B5
        have hw2 : w.heap.size ≤ w2.heap.size := B1.size
        have B7 := B3.trans (B5.mono hw2)
        have O7 := O5.monoN hw2
        go_wp2
        go_ret2
        exact ⟨.inr ⟨hR, _, _, _, rfl, by simpa [putN] using O7⟩, B7⟩
      | false =>
        have O3 := ownB_lit w2 0 (by decide)
        have I3 := I1.below (box_belowF (o := .cells #[.int .u8 0] 5))
        obtain ⟨u0, u1, u2, u3, uf⟩ := numP_cells (oldF E1 (.cells #[.int .u8 0] 5))
        have B3 : Below w.heap.size w (w2.alloc (.cells #[.int .u8 0] 5)) := below_sizeF B1 (Nat.le_refl _) box_belowF
        go_wp2_with (at_builtin; refine app_ownN _ rfl _ _ rfl w2.heap.size _ [0] rfl O3 _ _ _ _ rfl I3 (by simp; omega) (by omega) (by simp) ?_)
        intro a5 n5 c5 w5 O5 B5
        have hw2 : w.heap.size ≤ w2.heap.size := B1.size
        have B7 := B3.trans (B5.mono hw2)
        have O7 := O5.monoN hw2
        go_wp2
        go_ret2
        exact ⟨.inr ⟨hR, _, _, _, rfl, by simpa [putN] using O7⟩, B7⟩
end Go.Proofs.Ytkpngpongbpfgaa
