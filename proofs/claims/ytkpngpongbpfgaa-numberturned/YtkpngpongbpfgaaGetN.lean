/- Get: the number whose bytes they are. -/
import Derived.Test.YtkpngpongbpfgaaRnN
namespace Go.Proofs.Ytkpngpongbpfgaa
open Go.RowKit
set_option maxRecDepth 100000
def okGN (xs : List Int) : Bool := (parseN xs).1 && rightN (parseN xs).2.1 (parseN xs).2.2.1 (parseN xs).2.2.2.1 (parseN xs).2.2.2.2.1 (parseN xs).2.2.2.2.2
def GetNP (w : World) (xs : List Int) (e : Ending) (w' : World) : Prop := Below w.heap.size w w' ∧ ((okGN xs = true ∧ ∃ a n c, e = .returned (.tuple #[.agg #[.bool (parseN xs).2.1, .bool (parseN xs).2.2.1, .slice a n c, .complex .f64 (parseN xs).2.2.2.2.1 (parseN xs).2.2.2.2.2], .int .i64 0]) ∧ OwnB w' w.heap.size (.slice a n c) (parseN xs).2.2.2.1) ∨ (okGN xs = false ∧ e = .returned (.tuple #[.agg #[.bool false, .bool false, .slice none 0 0, .complex .f64 0 0], .int .i64 11])))
theorem Try.results19 : Try.f19.results = #[.cell 2 31, .tmp 3] := by kernel_rfl
theorem numP_set2 {w : World} {b : Nat} {p m : Bool} {v v' : Value} {x y : Nat} (h : w.heap[b]? = some (numP p m v x y)) : (w.setCell ⟨b, 2, none⟩ v').heap[b]? = some (numP p m v' x y) := by
  unfold numP at h ⊢
  rw [heap_setCell_same w b 2 _ _ _ h]
  simp
theorem own_sameN {w w' : World} {n₀ e sz n : Nat} {v : Value} {xs : List Value} (h : w.ownsRow n₀ e sz v n xs) (hk : ∀ g, v.ownBlock = some g → w'.heap[g]? = w.heap[g]?) : w'.ownsRow n₀ e sz v n xs := by
  obtain ⟨h1, h2⟩ := h
  refine ⟨h1, ?_⟩
  rcases h2 with ⟨rfl, h3⟩ | ⟨g', cap, cur, rfl, hb, hh, h4⟩
  · exact .inl ⟨rfl, h3⟩
  · exact .inr ⟨g', cap, cur, rfl, hb, (hk g' rfl).trans hh, h4⟩
theorem own_ltN {w : World} {base : Nat} {v : Value} {xs : List Int} (h : OwnB w base v xs) : ∀ g, v.ownBlock = some g → base ≤ g := fun g hg => (h.1.lt g hg).1
theorem OwnB.keepN {w w' : World} {base : Nat} {v : Value} {xs : List Int} (h : OwnB w base v xs) (hk : ∀ g, v.ownBlock = some g → w'.heap[g]? = w.heap[g]?) : OwnB w' base v xs := ownB_of (own_sameN h.1 hk) h.byteN
set_option maxHeartbeats 4000000 in
theorem getN_any {w : World} {ja : Option Addr} {jn jc : Nat} {xs : List Int} (h : IsB w ja jn jc xs) (hl : jn ≤ 140737488355328) : Calls Try.prog 19 #[.slice ja jn jc] w fun e w' => GetNP w xs e w' := by
  have hsz := h.size
  have hpl : (parseN xs).2.2.2.1.length ≤ jn := by
    rw [← hsz]
    cases xs with
    | nil => simp [parseN]
    | cons b r =>
      show (if b = 0 ∨ b = 1 then ((true, false, decide (b = 1), r, 0, 0) : Bool × Bool × Bool × List Int × Nat × Nat) else if b = 2 ∧ r.length = 16 then (true, true, false, [], val8 (r.take 8), val8 ((r.drop 8).take 8)) else (false, false, false, [], 0, 0)).2.2.2.1.length ≤ _
      split
      · simp
      · split <;> simp
  unfold GetNP okGN
  obtain ⟨ok, p, neg, ms, x, y, hP⟩ : ∃ ok p neg ms x y, Hid (parseN xs = (ok, p, neg, ms, x, y)) := ⟨_, _, _, _, _, _, rfl⟩
  rw [hP.out] at hpl ⊢
  dsimp only at hpl ⊢
  generalize hPost : (fun (e : Ending) (w' : World) => Below w.heap.size w w' ∧ ((((ok && rightN p neg ms x y) = true) ∧ ∃ a n c, e = .returned (.tuple #[.agg #[.bool p, .bool neg, .slice a n c, .complex .f64 x y], .int .i64 0]) ∧ OwnB w' w.heap.size (.slice a n c) ms) ∨ ((ok && rightN p neg ms x y) = false ∧ e = .returned (.tuple #[.agg #[.bool false, .bool false, .slice none 0 0, .complex .f64 0 0], .int .i64 11])))) = Post
  have E1 := newF w (numP false false (.slice none 0 0) 0 0)
  have B1 : Below w.heap.size w (w.alloc (numP false false (.slice none 0 0) 0 0)) := box_belowF
  have I1 := h.below B1
  have hsc := stC_run
  unfold numP at E1 B1 I1
  go_enter Try.func19, Try.ntmps19
  go_wp2_with fail
  generalize w.alloc (.cells #[.bool false, .bool false, .slice none 0 0, .complex .f64 0 0] 31) = w1 at *
  replace E1 : w1.heap[w.heap.size]? = some (numP false false (.slice none 0 0) 0 0) := E1
  refine (readNum_any I1).mono ?_
  rintro e w2 ⟨ra, rn, rc, rfl, I2, B2⟩
  rw [hP.out] at I2 ⊢
  dsimp only at I2 ⊢
  have hrs := I2.size
  have hw2 : w.heap.size < w2.heap.size := Nat.lt_of_lt_of_le (lt_of_blockF E1) B2.size
  replace E1 := oldF ((B2.block _ (lt_of_blockF E1)).trans E1) (numP p neg (.slice ra rn rc) x y)
  have F1 := newF w2 (numP p neg (.slice ra rn rc) x y)
  replace I2 := I2.below (box_belowF (o := numP p neg (.slice ra rn rc) x y))
  replace B1 := below_sizeF (below_sizeF B1 (Nat.le_refl _) B2) (Nat.le_refl _) (box_belowF (o := numP p neg (.slice ra rn rc) x y))
  clear B2
  unfold numP at E1 F1 I2 B1
  go_upto_region 2 with fail
  generalize w2.alloc (.cells #[.bool p, .bool neg, .slice ra rn rc, .complex .f64 x y] 31) = w3 at *
  generalize w2.heap.size = b4 at *
  replace E1 : w3.heap[w.heap.size]? = some (numP false false (.slice none 0 0) 0 0) := E1
  replace F1 : w3.heap[b4]? = some (numP p neg (.slice ra rn rc) x y) := F1
  obtain ⟨z0, z1, z2, z3, zf⟩ := numP_cells E1
  obtain ⟨y0, y1, y2, y3, yf⟩ := numP_cells F1
  cases ok with
  | false =>
    have E9 := stP_blk E1 false false (.slice none 0 0) 0 0
    go_wp2
    rw [← hPost]
    exact bodyPost_ret (v := .tuple #[.agg #[.bool false, .bool false, .slice none 0 0, .complex .f64 0 0], .int .i64 11]) (results_twoN Try.results19 rfl (load31 E9) rfl) rfl ⟨stP_below B1 (Nat.le_refl _) _ _ _ _ _, .inr ⟨rfl, rfl⟩⟩
  | true =>
    go_wp2_with fail
    refine (rightN_any p neg x y I2).mono ?_
    rintro e w4 ⟨rfl, B4⟩
    replace E1 := (B4.block _ (lt_of_blockF E1)).trans E1
    replace F1 := (B4.block _ (lt_of_blockF F1)).trans F1
    replace I2 := I2.below B4
    replace B1 := below_sizeF B1 (Nat.le_refl _) B4
    clear B4 z0 z1 z2 z3 zf y0 y1 y2 y3 yf
    obtain ⟨z0, z1, z2, z3, zf⟩ := numP_cells E1
    obtain ⟨y0, y1, y2, y3, yf⟩ := numP_cells F1
    cases hR : rightN p neg ms x y with
    | false =>
      have E9 := stP_blk E1 false false (.slice none 0 0) 0 0
      go_wp2
      rw [← hPost]
      exact bodyPost_ret (v := .tuple #[.agg #[.bool false, .bool false, .slice none 0 0, .complex .f64 0 0], .int .i64 11]) (results_twoN Try.results19 rfl (load31 E9) rfl) rfl ⟨stP_below B1 (Nat.le_refl _) _ _ _ _ _, .inr ⟨by rw [hR]; rfl, rfl⟩⟩
    | true =>
      go_wp2_with fail
      refine (clone_any I2 (by omega)).mono ?_
      rintro e w5 ⟨v5, rfl, O5, B5⟩
      have hl5 := own_ltN O5
      have hw4 : w.heap.size ≤ w4.heap.size := B1.size
      have hb4 := lt_of_blockF F1
      replace E1 := (B5.block _ (lt_of_blockF E1)).trans E1
      replace F1 := (B5.block _ (lt_of_blockF F1)).trans F1
      replace B1 := below_sizeF B1 (Nat.le_refl _) B5
      clear B5 z0 z1 z2 z3 zf y0 y1 y2 y3 yf
      obtain ⟨a5, n5, c5, rfl, -⟩ := O5.shapeN
      have F6 := numP_set2 (v' := .slice a5 n5 c5) F1
      have E6 := (heap_setCell_other w5 ⟨b4, 2, none⟩ w.heap.size (.slice a5 n5 c5) (Nat.ne_of_lt hw2)).trans E1
      have B6 : Below w.heap.size w (w5.setCell ⟨b4, 2, none⟩ (.slice a5 n5 c5)) := below_setCell B1 (Nat.le_of_lt hw2)
      have O6 := O5.keepN (w' := w5.setCell ⟨b4, 2, none⟩ (.slice a5 n5 c5)) (fun g hg => heap_setCell_other _ _ _ _ (by have := hl5 g hg; show g ≠ b4; omega))
      obtain ⟨z0, z1, z2, z3, zf⟩ := numP_cells E6
      obtain ⟨y0, y1, y2, y3, yf⟩ := numP_cells F6
      obtain ⟨u0, u1, u2, u3, uf⟩ := numP_cells F1
      have E9 := stP_blk E6 p neg (.slice a5 n5 c5) x y
      go_wp2
      rw [← hPost]
      refine bodyPost_ret (v := .tuple #[.agg #[.bool p, .bool neg, .slice a5 n5 c5, .complex .f64 x y], .int .i64 0]) (results_twoN Try.results19 rfl (load31 E9) rfl) rfl ⟨stP_below B6 (Nat.le_refl _) _ _ _ _ _, .inl ⟨by rw [hR]; rfl, _, _, _, rfl, OwnB.monoN (O6.keepN (fun g hg => stP_other ?_ _ _ _ _ _)) hw4⟩⟩
      have := hl5 g hg
      omega
end Go.Proofs.Ytkpngpongbpfgaa
