/- The document's Get: bytes as a number. -/
import Derived.Test.YtkpngpongbpfgaaRGetN
import Derived.Test.YtkpngpongbpfgaaOper
namespace Go.Proofs.Ytkpngpongbpfgaa
open Go.RowKit
set_option maxRecDepth 100000
def RGetNP (w : World) (xs : List Int) (e : Ending) (w' : World) : Prop := Below w.heap.size w w' ∧ ((okGN xs = true ∧ ∃ a n c, e = .returned (.tuple #[.agg #[.bool (parseN xs).2.1, .bool (parseN xs).2.2.1, .slice a n c, .float .f64 (parseN xs).2.2.2.2.1, .float .f64 (parseN xs).2.2.2.2.2], .int .i64 0]) ∧ OwnB w' w.heap.size (.slice a n c) (parseN xs).2.2.2.1) ∨ (okGN xs = false ∧ e = .returned (.tuple #[.agg #[.bool false, .bool false, .slice none 0 0, .float .f64 0, .float .f64 0], .int .i64 11])))
theorem ownB_nilN (w : World) (base : Nat) : OwnB w base (.slice none 0 0) [] := ownB_of (n := 0) (World.ownsRow_nil _ _ _ _) (by simp)
theorem Try.results20 : Try.f20.results = #[.cell 2 27, .tmp 3] := by kernel_rfl
/-- Two numbers in a block. -/
def two (x y : Nat) : Obj := .cells #[.int .u64 (x : Int), .int .u64 (y : Int)] 69 (0, 0)
theorem two_cells {w : World} {b x y : Nat} (h : w.heap[b]? = some (two x y)) : w.cell? ⟨b, 0, none⟩ = some (.int .u64 (x : Int)) ∧ w.cell? ⟨b, 1, none⟩ = some (.int .u64 (y : Int)) ∧ ∀ i, w.frozen? ⟨b, i, none⟩ = false := by
  unfold two at h
  refine ⟨?_, ?_, fun i => frozen_of_row w b i _ _ h⟩ <;> (rw [cell_of_row w b _ _ _ _ h]; rfl)
theorem two_set0 {w : World} {b x y : Nat} (h : w.heap[b]? = some (two x y)) (z : Nat) : (w.setCell ⟨b, 0, none⟩ (.int .u64 (z : Int))).heap[b]? = some (two z y) := by
  unfold two at h ⊢
  rw [heap_setCell_same w b 0 _ _ _ h]
  simp
theorem two_set1 {w : World} {b x y : Nat} (h : w.heap[b]? = some (two x y)) (z : Nat) : (w.setCell ⟨b, 1, none⟩ (.int .u64 (z : Int))).heap[b]? = some (two x z) := by
  unfold two at h ⊢
  rw [heap_setCell_same w b 1 _ _ _ h]
  simp
theorem numR_set2 {w : World} {b : Nat} {p m : Bool} {v v' : Value} {x y : Nat} (h : w.heap[b]? = some (numR p m v x y)) : (w.setCell ⟨b, 2, none⟩ v').heap[b]? = some (numR p m v' x y) := by
  unfold numR at h ⊢
  rw [heap_setCell_same w b 2 _ _ _ h]
  simp
theorem app_nil_wp {o : Oper} {a : Act} {w : World} {K : Act → World → Prop} {Q : Exit → Act → World → Prop}
    (hg : o.guard = none) (s x : Operand) (hop : o.op = Op.call { callee := Callee.builtin Builtin.append, args := #[s, x], argTypes := #[22, 22] })
    (hs : a.eval s = .slice none 0 0) (ab : Option Addr) (len cap : Nat) (ys : List Int) (hx : a.eval x = .slice ab len cap) (hB : IsB w ab len cap ys) (hl : len ≤ 140737488355328)
    (hK : ∀ av cv w', OwnB w' w.heap.size (.slice av len cv) ys → Below w.heap.size w w' → K (a.put o.dst (.slice av len cv)) w') :
    Oper.wp Try.prog o a w K Q := by
  have h := step_app_nil (ops := #[]) (E := True) (Q := Q) hg s x hop hs ab len cap ys hx hB hl hK
  rwa [if_pos (by simp [Region.wanted, hg])] at h
theorem parse_pair {r : List Int} (h : r.length = 16) : parseN (2 :: r) = (true, true, false, [], val8 (r.take 8), val8 ((r.drop 8).take 8)) := by
  show (if _ then _ else _) = _
  rw [if_pos ⟨rfl, h⟩]
theorem okGN_pair {r : List Int} (_ : True) (h : r.length = 16) : okGN (2 :: r) = true := by
  unfold okGN
  rw [parse_pair h]
  rfl
theorem parse_01 {b : Int} {r : List Int} (h : b = 0 ∨ b = 1) : parseN (b :: r) = (true, false, decide (b = 1), r, 0, 0) := by
  show (if _ then _ else _) = _
  rw [if_pos h]
theorem parse_no {b : Int} {r : List Int} (h : ¬ (b = 0 ∨ b = 1)) (h2 : ¬ (b = 2 ∧ r.length = 16)) : okGN (b :: r) = false := by
  have e : parseN (b :: r) = (false, false, false, [], 0, 0) := by
    show (if _ then _ else _) = _
    rw [if_neg h, if_neg h2]
  unfold okGN
  rw [e]
  rfl
set_option maxHeartbeats 8000000 in
theorem rgetN_any {w : World} {ja : Option Addr} {jn jc : Nat} {xs : List Int} (h : IsB w ja jn jc xs) (hl : jn ≤ 140737488355328) : Calls Try.prog 20 #[.slice ja jn jc] w fun e w' => RGetNP w xs e w' := by
  have hsz := h.size
  have E1 := newF w (numR false false (.slice none 0 0) 0 0)
  have B1 : Below w.heap.size w (w.alloc (numR false false (.slice none 0 0) 0 0)) := box_belowF
  have I1 := h.below B1
  have hsf := stF_run
  unfold numR at E1 B1 I1
  go_enter Try.func20, Try.ntmps20
  go_upto_region 1 with fail
  generalize w.alloc (.cells #[.bool false, .bool false, .slice none 0 0, .float .f64 0, .float .f64 0] 27) = w1 at *
  replace E1 : w1.heap[w.heap.size]? = some (numR false false (.slice none 0 0) 0 0) := E1
  obtain ⟨z0, z1, z2, z3, z4, zf⟩ := numR_cells E1
  have E9 := stF_blk E1 false false (.slice none 0 0) 0 0
  have fin0 : okGN xs = false → RGetNP w xs (.returned (.tuple #[.agg #[.bool false, .bool false, .slice none 0 0, .float .f64 0, .float .f64 0], .int .i64 11])) (stF w1 w.heap.size false false (.slice none 0 0) 0 0) := fun e => ⟨stF_below B1 (Nat.le_refl _) _ _ _ _ _, .inr ⟨e, rfl⟩⟩
  cases xs with
  | nil =>
    obtain rfl : jn = 0 := hsz.symm
    go_wp2
    exact bodyPost_ret (v := .tuple #[.agg #[.bool false, .bool false, .slice none 0 0, .float .f64 0, .float .f64 0], .int .i64 11]) (results_twoN Try.results20 rfl (load27 E9) rfl) rfl (fin0 rfl)
  | cons b r =>
    rw [List.length_cons] at hsz
    obtain ⟨g, off, rfl, hc⟩ := I1.cells (by omega)
    have c0 := hc 0 (by omega)
    rw [Nat.add_zero] at c0
    simp only [List.getD_cons_zero] at c0
    have hb0 : ((jn : Int) == 0) = false := by simp; omega
    have hn0' : (0 : Int) < (jn : Int) := by omega
    have hbb := h.byte b (by simp)
    by_cases hgt : 2 < b
    · go_wp2
      exact bodyPost_ret (v := .tuple #[.agg #[.bool false, .bool false, .slice none 0 0, .float .f64 0, .float .f64 0], .int .i64 11]) (results_twoN Try.results20 rfl (load27 E9) rfl) rfl (fin0 (parse_no (by omega) (by omega)))
    · by_cases h2 : b = 2
      · subst h2
        by_cases h17 : jn = 17
        · subst h17
          have hr16 : r.length = 16 := by omega
          have hbr : ∀ x ∈ r, 0 ≤ x ∧ x < 256 := fun x hx => h.byte x (by simp [hx])
          have N2 : (w1.alloc (.cells #[.int .u64 0, .int .u64 0] 69)).heap[w1.heap.size]? = some (two 0 0) := newF w1 (two 0 0)
          have E2 : (w1.alloc (.cells #[.int .u64 0, .int .u64 0] 69)).heap[w.heap.size]? = some (numR false false (.slice none 0 0) 0 0) := oldF E1 (two 0 0)
          have B2 : Below w.heap.size w (w1.alloc (.cells #[.int .u64 0, .int .u64 0] 69)) := below_sizeF B1 (Nat.le_refl _) (box_belowF (w := w1) (o := two 0 0))
          have hw1 : w.heap.size < w1.heap.size := lt_of_blockF E1
          go_wp2
          clear z0 z1 z2 z3 z4 zf c0 fin0 E9 hc I1
          generalize w1.alloc (.cells #[.int .u64 0, .int .u64 0] 69) = w2 at *
          generalize w1.heap.size = nb at *
          clear E1 B1
          go_loopw [5] (fun iv wr => ∃ k : Nat, k ≤ 16 ∧ iv = .int .i64 (k : Int) ∧ wr.heap[nb]? = some (two (val8 (r.take (min k 8))) (val8 ((r.drop 8).take (k - 8)))) ∧ wr.heap[w.heap.size]? = some (numR false false (.slice none 0 0) 0 0) ∧ Below w.heap.size w wr) (fun iv _ => 16 - (intOf iv).toNat)
          case atStart => exact ⟨0, by omega, rfl, by simpa [val8] using N2, E2, B2⟩
          case round =>
            clear N2 E2 B2
            obtain ⟨k, hk, rfl, NW, EW, BW⟩ := hrel
            obtain ⟨g', off', hg', hcw⟩ := (h.below BW).cells (by omega)
            simp only [Option.some.injEq, Addr.mk.injEq, and_true] at hg'
            obtain ⟨rfl, rfl⟩ := hg'
            by_cases hlt : k < 16
            · have hck := hcw (1 + k) (by omega)
              rw [show ((2 : Int) :: r).getD (1 + k) 0 = r.getD k 0 by rw [Nat.add_comm]; rfl] at hck
              obtain ⟨c, hc8, hcx, ht⟩ := byteAt r hbr k (by omega)
              rw [hcx] at hck
              obtain ⟨k1, hk1⟩ : ∃ k1, Hid (1 + k = k1) := ⟨_, rfl⟩
              have hk17 : (k1 : Int) < 17 := by have := hk1.out; omega
              have wk1 : IntKind.i64.wrap (1 + (k : Int)) = (k1 : Int) := by have := hk1.out; rw [IntKind.wrap_i64]; omega
              rw [hk1.out] at hck
              clear hcw hcx
              obtain ⟨u0, u1, uf⟩ := two_cells NW
              by_cases h8 : k < 8
              · have td : (k : Int).tdiv 8 = 0 := by rw [Int.tdiv_eq_ediv_of_nonneg (by omega)]; omega
                have w0 : IntKind.i64.wrap 0 = 0 := by decide
                rw [show min k 8 = k by omega] at NW u0
                rw [show k - 8 = 0 by omega] at NW u1
                have hV : val8 (r.take k) < 256 ^ 7 := take_lt r hbr k 7 (by omega)
                have hn : Hid (val8 (r.take (k + 1)) = val8 (r.take k) * 256 + c) := val8_take r k c ht.out
                have ho := or64 (val8 (r.take k)) c hV hc8
                have wV : IntKind.u64.wrap ((val8 (r.take k) : Int) * 256) = (val8 (r.take k) : Int) * 256 := by rw [wrapU]; omega
                have wc : IntKind.u64.wrap (c : Int) = (c : Int) := by rw [wrapU]; omega
                have N5 : ∀ w' : World, w'.heap = wr.heap → (w'.setCell ⟨nb, 0, none⟩ (.int .u64 ((val8 (r.take k) * 256 + c : Nat) : Int))).heap[nb]? = some (two (val8 (r.take (min (k + 1) 8))) (val8 ((r.drop 8).take (k + 1 - 8)))) := fun w' e => by
                  rw [show min (k + 1) 8 = k + 1 by omega, show k + 1 - 8 = 0 by omega, hn.out]
                  exact two_set0 (by rw [e]; exact NW) _
                clear ht
                go_wp2
                go_still_tail 17, (by kernel_rfl)
                go_wp2
                go_roundw
                case rel => exact ⟨k + 1, by omega, by go_num, N5 wr.drew rfl, (heap_setCell_other wr.drew ⟨nb, 0, none⟩ w.heap.size _ (Nat.ne_of_lt hw1)).trans EW, below_setCell BW.drew (Nat.le_of_lt hw1)⟩
                case measure => simp [intOf]; omega
              · have td : (k : Int).tdiv 8 = 1 := by rw [Int.tdiv_eq_ediv_of_nonneg (by omega)]; omega
                have w0 : IntKind.i64.wrap 1 = 1 := by decide
                rw [show min k 8 = 8 by omega] at NW u0
                obtain ⟨j, hj⟩ : ∃ j, Hid (k - 8 = j) := ⟨_, rfl⟩
                have hj8 : j < 8 := by have := hj.out; omega
                rw [hj.out] at NW u1
                have ht2 : (r.drop 8).take (j + 1) = (r.drop 8).take j ++ [(c : Int)] := by
                  have hx : (r.drop 8)[j]? = some (c : Int) := by
                    rw [List.getElem?_drop, show 8 + j = k by have := hj.out; omega]
                    have h1 := congrArg (fun l => l[k]?) ht.out
                    simp only [List.getElem?_take] at h1
                    rw [if_pos (by omega), List.getElem?_append_right (by simp; omega)] at h1
                    rw [h1, List.length_take, show k - min k r.length = 0 by omega]
                    rfl
                  rw [List.take_add_one, hx]
                  rfl
                have hbd : ∀ x ∈ r.drop 8, 0 ≤ x ∧ x < 256 := fun x hx => hbr x (List.mem_of_mem_drop hx)
                have hV : val8 ((r.drop 8).take j) < 256 ^ 7 := take_lt (r.drop 8) hbd j 7 (by omega)
                have hn : Hid (val8 ((r.drop 8).take (j + 1)) = val8 ((r.drop 8).take j) * 256 + c) := val8_take (r.drop 8) j c ht2
                have ho := or64 (val8 ((r.drop 8).take j)) c hV hc8
                have wV : IntKind.u64.wrap ((val8 ((r.drop 8).take j) : Int) * 256) = (val8 ((r.drop 8).take j) : Int) * 256 := by rw [wrapU]; omega
                have wc : IntKind.u64.wrap (c : Int) = (c : Int) := by rw [wrapU]; omega
                have N5 : ∀ w' : World, w'.heap = wr.heap → (w'.setCell ⟨nb, 1, none⟩ (.int .u64 ((val8 ((r.drop 8).take j) * 256 + c : Nat) : Int))).heap[nb]? = some (two (val8 (r.take (min (k + 1) 8))) (val8 ((r.drop 8).take (k + 1 - 8)))) := fun w' e => by
                  rw [show min (k + 1) 8 = 8 by omega, show k + 1 - 8 = j + 1 by have := hj.out; omega, hn.out]
                  exact two_set1 (by rw [e]; exact NW) _
                clear ht ht2
                go_wp2
                go_still_tail 17, (by kernel_rfl)
                go_wp2
                go_roundw
                case rel => exact ⟨k + 1, by omega, by go_num, N5 wr.drew rfl, (heap_setCell_other wr.drew ⟨nb, 1, none⟩ w.heap.size _ (Nat.ne_of_lt hw1)).trans EW, below_setCell BW.drew (Nat.le_of_lt hw1)⟩
                case measure => simp [intOf]; omega
            · obtain rfl : k = 16 := by omega
              have hN : two (val8 (r.take (min 16 8))) (val8 ((r.drop 8).take (16 - 8))) = two (val8 (r.take 8)) (val8 ((r.drop 8).take 8)) := rfl
              rw [hN] at NW
              obtain ⟨n0, hn0⟩ : ∃ n, Hid (val8 (r.take 8) = n) := ⟨_, rfl⟩
              obtain ⟨n1, hn1⟩ : ∃ n, Hid (val8 ((r.drop 8).take 8) = n) := ⟨_, rfl⟩
              rw [hn0.out, hn1.out] at NW
              have hbb2 : True := trivial
              clear hN hcw hk
              go_upto_region 9 with fail
              have E3 := EW
              have N3 := NW
              have B3 := BW
              clear EW NW BW
              generalize wr = w3 at *
              refine wp_region_inv' (fun A D a w' => ∃ v54 v55 v56 v57 v58 v59 v60 v61 v62 v3, a = ((((((((((A.put (some 54) v54).put (some 55) v55).put (some 56) v56).put (some 57) v57).put (some 58) v58).put (some 59) v59).put (some 60) v60).put (some 61) v61).put (some 62) v62).put (some 3) v3) ∧ (D 9 ∨ Below w3.heap.size w3 w') ∧ (D 9 → ∃ w9, Below w3.heap.size w3 w9 ∧ w' = stF w9 w.heap.size true false (.slice none 0 0) n0 n1) ∧ (D 0 → v54 = .slice (some ⟨nb, 0, none⟩) 2 2) ∧ (D 1 → v55 = .pointer (some ⟨nb, 0, none⟩)) ∧ (D 2 → v56 = .int .u64 (n0 : Int)) ∧ (D 3 → v57 = .float .f64 n0) ∧ (D 4 → v58 = .slice (some ⟨nb, 0, none⟩) 2 2) ∧ (D 5 → v59 = .pointer (some ⟨nb, 1, none⟩)) ∧ (D 6 → v60 = .int .u64 (n1 : Int)) ∧ (D 7 → v61 = .float .f64 n1) ∧ (D 8 → v62 = .agg #[.bool true, .bool false, .slice none 0 0, .float .f64 n0, .float .f64 n1]) ∧ (D 10 → v3 = .int .i64 0)) (by kernel_rfl) (by kernel_rfl) ?mono ?start ?step ?done
              case mono =>
                rintro D D' a w' hD ⟨v54, v55, v56, v57, v58, v59, v60, v61, v62, v3, ha, hB, hQ, e0, e1, e2, e3, e4, e5, e6, e7, e8, e10⟩
                exact ⟨v54, v55, v56, v57, v58, v59, v60, v61, v62, v3, ha, hB.imp_left (hD 9).1, fun h => hQ ((hD 9).2 h), fun h => e0 ((hD 0).2 h), fun h => e1 ((hD 1).2 h), fun h => e2 ((hD 2).2 h), fun h => e3 ((hD 3).2 h), fun h => e4 ((hD 4).2 h), fun h => e5 ((hD 5).2 h), fun h => e6 ((hD 6).2 h), fun h => e7 ((hD 7).2 h), fun h => e8 ((hD 8).2 h), fun h => e10 ((hD 10).2 h)⟩
              case start => exact ⟨undef, undef, undef, undef, undef, undef, undef, undef, undef, .int .i64 0, by kernel_rfl, .inr ((Below.refl _ _).drew), fun h => h.elim, fun h => h.elim, fun h => h.elim, fun h => h.elim, fun h => h.elim, fun h => h.elim, fun h => h.elim, fun h => h.elim, fun h => h.elim, fun h => h.elim, fun h => h.elim⟩
              case step =>
                intro i o ho D a w' hI hn hcl hd
                obtain ⟨v54, v55, v56, v57, v58, v59, v60, v61, v62, v3, ha, hB, hQ, e0, e1, e2, e3, e4, e5, e6, e7, e8, e10⟩ := hI
                match i, ho with
                | 0, ho =>
                  cases Option.some.inj ho
                  have ev : a.tmps[4]?.getD undef = .slice (some ⟨nb, 0, none⟩) 2 2 := by rw [ha]; kernel_rfl
                  refine wp_value (w' := w') (v := .slice (some ⟨nb, 0, none⟩) 2 2) (by simp [execOp, ev, go_sem]) ?_
                  exact ⟨(.slice (some ⟨nb, 0, none⟩) 2 2), v55, v56, v57, v58, v59, v60, v61, v62, v3, by rw [ha]; kernel_rfl, hB.imp_left .inr, fun h => hQ (h.resolve_left (by decide)), fun _ => rfl, fun h => e1 (h.resolve_left (by decide)), fun h => e2 (h.resolve_left (by decide)), fun h => e3 (h.resolve_left (by decide)), fun h => e4 (h.resolve_left (by decide)), fun h => e5 (h.resolve_left (by decide)), fun h => e6 (h.resolve_left (by decide)), fun h => e7 (h.resolve_left (by decide)), fun h => e8 (h.resolve_left (by decide)), fun h => e10 (h.resolve_left (by decide))⟩
                | 1, ho =>
                  cases Option.some.inj ho
                  have ev : a.tmps[54]?.getD undef = .slice (some ⟨nb, 0, none⟩) 2 2 := by rw [ha, e0 (hd ⟨0, .data⟩ (by simp) rfl)]; kernel_rfl
                  refine wp_value (w' := w') (v := .pointer (some ⟨nb, 0, none⟩)) (by simp [execOp, ev, go_sem]) ?_
                  exact ⟨v54, (.pointer (some ⟨nb, 0, none⟩)), v56, v57, v58, v59, v60, v61, v62, v3, by rw [ha]; kernel_rfl, hB.imp_left .inr, fun h => hQ (h.resolve_left (by decide)), fun h => e0 (h.resolve_left (by decide)), fun _ => rfl, fun h => e2 (h.resolve_left (by decide)), fun h => e3 (h.resolve_left (by decide)), fun h => e4 (h.resolve_left (by decide)), fun h => e5 (h.resolve_left (by decide)), fun h => e6 (h.resolve_left (by decide)), fun h => e7 (h.resolve_left (by decide)), fun h => e8 (h.resolve_left (by decide)), fun h => e10 (h.resolve_left (by decide))⟩
                | 2, ho =>
                  cases Option.some.inj ho
                  have ev : a.tmps[55]?.getD undef = .pointer (some ⟨nb, 0, none⟩) := by rw [ha, e1 (hd ⟨1, .data⟩ (by simp) rfl)]; kernel_rfl
                  obtain ⟨u0, u1, uf⟩ := two_cells (((hB.resolve_left (fun h => (fun h => (fun h => hn (hcl 3 _ rfl h ⟨2, .data⟩ (by simp) rfl)) (hcl 8 _ rfl h ⟨3, .data⟩ (by simp) rfl)) (hcl 9 _ rfl h ⟨8, .data⟩ (by simp) rfl))).block _ (lt_of_blockF N3)).trans N3)
                  clear uf
                  clear u1
                  refine wp_value (w' := w') (v := .int .u64 (n0 : Int)) (by simp [execOp, ev, go_sem, u0]) ?_
                  exact ⟨v54, v55, (.int .u64 (n0 : Int)), v57, v58, v59, v60, v61, v62, v3, by rw [ha]; kernel_rfl, hB.imp_left .inr, fun h => hQ (h.resolve_left (by decide)), fun h => e0 (h.resolve_left (by decide)), fun h => e1 (h.resolve_left (by decide)), fun _ => rfl, fun h => e3 (h.resolve_left (by decide)), fun h => e4 (h.resolve_left (by decide)), fun h => e5 (h.resolve_left (by decide)), fun h => e6 (h.resolve_left (by decide)), fun h => e7 (h.resolve_left (by decide)), fun h => e8 (h.resolve_left (by decide)), fun h => e10 (h.resolve_left (by decide))⟩
                | 3, ho =>
                  cases Option.some.inj ho
                  have ev : a.tmps[56]?.getD undef = .int .u64 (n0 : Int) := by rw [ha, e2 (hd ⟨2, .data⟩ (by simp) rfl)]; kernel_rfl
                  refine wp_value (w' := w') (v := .float .f64 n0) (by simp [execOp, ev, go_sem, run_f64from, Int.toNat_natCast]) ?_
                  exact ⟨v54, v55, v56, (.float .f64 n0), v58, v59, v60, v61, v62, v3, by rw [ha]; kernel_rfl, hB.imp_left .inr, fun h => hQ (h.resolve_left (by decide)), fun h => e0 (h.resolve_left (by decide)), fun h => e1 (h.resolve_left (by decide)), fun h => e2 (h.resolve_left (by decide)), fun _ => rfl, fun h => e4 (h.resolve_left (by decide)), fun h => e5 (h.resolve_left (by decide)), fun h => e6 (h.resolve_left (by decide)), fun h => e7 (h.resolve_left (by decide)), fun h => e8 (h.resolve_left (by decide)), fun h => e10 (h.resolve_left (by decide))⟩
                | 4, ho =>
                  cases Option.some.inj ho
                  have ev : a.tmps[4]?.getD undef = .slice (some ⟨nb, 0, none⟩) 2 2 := by rw [ha]; kernel_rfl
                  refine wp_value (w' := w') (v := .slice (some ⟨nb, 0, none⟩) 2 2) (by simp [execOp, ev, go_sem]) ?_
                  exact ⟨v54, v55, v56, v57, (.slice (some ⟨nb, 0, none⟩) 2 2), v59, v60, v61, v62, v3, by rw [ha]; kernel_rfl, hB.imp_left .inr, fun h => hQ (h.resolve_left (by decide)), fun h => e0 (h.resolve_left (by decide)), fun h => e1 (h.resolve_left (by decide)), fun h => e2 (h.resolve_left (by decide)), fun h => e3 (h.resolve_left (by decide)), fun _ => rfl, fun h => e5 (h.resolve_left (by decide)), fun h => e6 (h.resolve_left (by decide)), fun h => e7 (h.resolve_left (by decide)), fun h => e8 (h.resolve_left (by decide)), fun h => e10 (h.resolve_left (by decide))⟩
                | 5, ho =>
                  cases Option.some.inj ho
                  have ev : a.tmps[58]?.getD undef = .slice (some ⟨nb, 0, none⟩) 2 2 := by rw [ha, e4 (hd ⟨4, .data⟩ (by simp) rfl)]; kernel_rfl
                  refine wp_value (w' := w') (v := .pointer (some ⟨nb, 1, none⟩)) (by simp [execOp, ev, go_sem]) ?_
                  exact ⟨v54, v55, v56, v57, v58, (.pointer (some ⟨nb, 1, none⟩)), v60, v61, v62, v3, by rw [ha]; kernel_rfl, hB.imp_left .inr, fun h => hQ (h.resolve_left (by decide)), fun h => e0 (h.resolve_left (by decide)), fun h => e1 (h.resolve_left (by decide)), fun h => e2 (h.resolve_left (by decide)), fun h => e3 (h.resolve_left (by decide)), fun h => e4 (h.resolve_left (by decide)), fun _ => rfl, fun h => e6 (h.resolve_left (by decide)), fun h => e7 (h.resolve_left (by decide)), fun h => e8 (h.resolve_left (by decide)), fun h => e10 (h.resolve_left (by decide))⟩
                | 6, ho =>
                  cases Option.some.inj ho
                  have ev : a.tmps[59]?.getD undef = .pointer (some ⟨nb, 1, none⟩) := by rw [ha, e5 (hd ⟨5, .data⟩ (by simp) rfl)]; kernel_rfl
                  obtain ⟨u0, u1, uf⟩ := two_cells (((hB.resolve_left (fun h => (fun h => (fun h => hn (hcl 7 _ rfl h ⟨6, .data⟩ (by simp) rfl)) (hcl 8 _ rfl h ⟨7, .data⟩ (by simp) rfl)) (hcl 9 _ rfl h ⟨8, .data⟩ (by simp) rfl))).block _ (lt_of_blockF N3)).trans N3)
                  clear uf
                  clear u0
                  refine wp_value (w' := w') (v := .int .u64 (n1 : Int)) (by simp [execOp, ev, go_sem, u1]) ?_
                  exact ⟨v54, v55, v56, v57, v58, v59, (.int .u64 (n1 : Int)), v61, v62, v3, by rw [ha]; kernel_rfl, hB.imp_left .inr, fun h => hQ (h.resolve_left (by decide)), fun h => e0 (h.resolve_left (by decide)), fun h => e1 (h.resolve_left (by decide)), fun h => e2 (h.resolve_left (by decide)), fun h => e3 (h.resolve_left (by decide)), fun h => e4 (h.resolve_left (by decide)), fun h => e5 (h.resolve_left (by decide)), fun _ => rfl, fun h => e7 (h.resolve_left (by decide)), fun h => e8 (h.resolve_left (by decide)), fun h => e10 (h.resolve_left (by decide))⟩
                | 7, ho =>
                  cases Option.some.inj ho
                  have ev : a.tmps[60]?.getD undef = .int .u64 (n1 : Int) := by rw [ha, e6 (hd ⟨6, .data⟩ (by simp) rfl)]; kernel_rfl
                  refine wp_value (w' := w') (v := .float .f64 n1) (by simp [execOp, ev, go_sem, run_f64from, Int.toNat_natCast]) ?_
                  exact ⟨v54, v55, v56, v57, v58, v59, v60, (.float .f64 n1), v62, v3, by rw [ha]; kernel_rfl, hB.imp_left .inr, fun h => hQ (h.resolve_left (by decide)), fun h => e0 (h.resolve_left (by decide)), fun h => e1 (h.resolve_left (by decide)), fun h => e2 (h.resolve_left (by decide)), fun h => e3 (h.resolve_left (by decide)), fun h => e4 (h.resolve_left (by decide)), fun h => e5 (h.resolve_left (by decide)), fun h => e6 (h.resolve_left (by decide)), fun _ => rfl, fun h => e8 (h.resolve_left (by decide)), fun h => e10 (h.resolve_left (by decide))⟩
                | 8, ho =>
                  cases Option.some.inj ho
                  have ev : a.tmps[57]?.getD undef = .float .f64 n0 := by rw [ha, e3 (hd ⟨3, .data⟩ (by simp) rfl)]; kernel_rfl
                  have ev' : a.tmps[61]?.getD undef = .float .f64 n1 := by rw [ha, e7 (hd ⟨7, .data⟩ (by simp) rfl)]; kernel_rfl
                  refine wp_enter (f := 42) (args := #[.float .f64 n0, .float .f64 n1]) (by simp [execOp, ev, ev', go_sem]) ?_
                  refine (of_anyR n0 n1 w').mono ?_
                  rintro e w6 ⟨rfl, HB⟩
                  refine ⟨_, rfl, ?_⟩
                  exact ⟨v54, v55, v56, v57, v58, v59, v60, v61, (.agg #[.bool true, .bool false, .slice none 0 0, .float .f64 n0, .float .f64 n1]), v3, by rw [ha]; kernel_rfl, .inr (below_sizeF (hB.resolve_left (fun h => hn (hcl 9 _ rfl h ⟨8, .data⟩ (by simp) rfl))) (Nat.le_refl _) HB), fun h => absurd (h.resolve_left (by decide)) (fun h => hn (hcl 9 _ rfl h ⟨8, .data⟩ (by simp) rfl)), fun h => e0 (h.resolve_left (by decide)), fun h => e1 (h.resolve_left (by decide)), fun h => e2 (h.resolve_left (by decide)), fun h => e3 (h.resolve_left (by decide)), fun h => e4 (h.resolve_left (by decide)), fun h => e5 (h.resolve_left (by decide)), fun h => e6 (h.resolve_left (by decide)), fun h => e7 (h.resolve_left (by decide)), fun _ => rfl, fun h => e10 (h.resolve_left (by decide))⟩
                | 9, ho =>
                  cases Option.some.inj ho
                  have ev : a.tmps[2]?.getD undef = .pointer (some ⟨w.heap.size, 0, none⟩) := by rw [ha]; kernel_rfl
                  have ev' : a.tmps[62]?.getD undef = .agg #[.bool true, .bool false, .slice none 0 0, .float .f64 n0, .float .f64 n1] := by rw [ha, e8 (hd ⟨8, .data⟩ (by simp) rfl)]; kernel_rfl
                  have hB9 := hB.resolve_left hn
                  obtain ⟨z0, z1, z2, z3, z4, zf⟩ := numR_cells ((hB9.block _ (lt_of_blockF E3)).trans E3)
                  refine wp_skip (w' := stF w' w.heap.size true false (.slice none 0 0) n0 n1) (by simp [execOp, ev, ev', go_sem, z0, z1, z2, z3, z4, zf, hsf, stF]) ?_
                  exact ⟨v54, v55, v56, v57, v58, v59, v60, v61, v62, v3, by rw [ha]; kernel_rfl, .inl (.inl rfl), fun _ => ⟨w', hB9, rfl⟩, fun h => e0 (h.resolve_left (by decide)), fun h => e1 (h.resolve_left (by decide)), fun h => e2 (h.resolve_left (by decide)), fun h => e3 (h.resolve_left (by decide)), fun h => e4 (h.resolve_left (by decide)), fun h => e5 (h.resolve_left (by decide)), fun h => e6 (h.resolve_left (by decide)), fun h => e7 (h.resolve_left (by decide)), fun h => e8 (h.resolve_left (by decide)), fun h => e10 (h.resolve_left (by decide))⟩
                | 10, ho =>
                  cases Option.some.inj ho
                  refine wp_value (w' := w') (v := .int .i64 0) (by simp [execOp, go_sem]) ?_
                  exact ⟨v54, v55, v56, v57, v58, v59, v60, v61, v62, (.int .i64 0), by rw [ha]; kernel_rfl, hB.imp_left .inr, fun h => hQ (h.resolve_left (by decide)), fun h => e0 (h.resolve_left (by decide)), fun h => e1 (h.resolve_left (by decide)), fun h => e2 (h.resolve_left (by decide)), fun h => e3 (h.resolve_left (by decide)), fun h => e4 (h.resolve_left (by decide)), fun h => e5 (h.resolve_left (by decide)), fun h => e6 (h.resolve_left (by decide)), fun h => e7 (h.resolve_left (by decide)), fun h => e8 (h.resolve_left (by decide)), fun _ => rfl⟩
                | i + 11, ho => simp at ho
              case done =>
                rintro D a w' ⟨v54, v55, v56, v57, v58, v59, v60, v61, v62, v3, ha, hB, hQ, e0, e1, e2, e3, e4, e5, e6, e7, e8, e10⟩ hall
                obtain ⟨w9, B9, hq⟩ := hQ (hall 9 (by decide))
                obtain rfl := e0 (hall 0 (by decide))
                obtain rfl := e1 (hall 1 (by decide))
                obtain rfl := e2 (hall 2 (by decide))
                obtain rfl := e3 (hall 3 (by decide))
                obtain rfl := e4 (hall 4 (by decide))
                obtain rfl := e5 (hall 5 (by decide))
                obtain rfl := e6 (hall 6 (by decide))
                obtain rfl := e7 (hall 7 (by decide))
                obtain rfl := e8 (hall 8 (by decide))
                obtain rfl := e10 (hall 10 (by decide))
                subst hq
                clear hB hQ hall e0 e1 e2 e3 e4 e5 e6 e7 e8 e10
                rw [ha]
                clear ha
                simp only [Act.put, List.setIfInBounds_toArray, List.set_cons_zero, List.set_cons_succ]
                go_wp2
                have E9 := stF_blk ((B9.block _ (lt_of_blockF E3)).trans E3) true false (.slice none 0 0) n0 n1
                have BF := stF_below (below_sizeF B3 (Nat.le_refl _) B9) (Nat.le_refl _) true false (.slice none 0 0) n0 n1
                exact bodyPost_ret (v := .tuple #[.agg #[.bool true, .bool false, .slice none 0 0, .float .f64 n0, .float .f64 n1], .int .i64 0]) (results_twoN Try.results20 rfl (load27 E9) rfl) rfl ⟨BF, .inl ⟨okGN_pair hbb2 hr16, _, _, _, by rw [parse_pair hr16, hn0.out, hn1.out], by rw [parse_pair hr16]; exact ownB_nilN _ _⟩⟩
        · have hn17 : ((jn : Int) == 17) = false := by simp; omega
          go_wp2
          exact bodyPost_ret (v := .tuple #[.agg #[.bool false, .bool false, .slice none 0 0, .float .f64 0, .float .f64 0], .int .i64 11]) (results_twoN Try.results20 rfl (load27 E9) rfl) rfl (fin0 (parse_no (by omega) (by omega)))
      · have b2 : (b == 2) = false := by simp; omega
        have h01 : b = 0 ∨ b = 1 := by omega
        have IW := h.from 1 (by omega)
        rw [List.drop_succ_cons, List.drop_zero] at IW
        have hsl := run_from (some ⟨g, off, none⟩) jn jc 1
        obtain ⟨ra, hra⟩ : ∃ ra, Hid (winA (some ⟨g, off, none⟩) 1 jc = ra) := ⟨_, rfl⟩
        obtain ⟨rn, hrn⟩ : ∃ rn, Hid (jn - 1 = rn) := ⟨_, rfl⟩
        obtain ⟨rc, hrc⟩ : ∃ rc, Hid (jc - 1 = rc) := ⟨_, rfl⟩
        rw [hra.out, hrn.out, hrc.out] at IW
        have hsl1 : ∀ w : World, (Instr.slice 22 (.slice (some ⟨g, off, none⟩) jn jc) (some (.int .i64 1)) none none).run Try.prog w = .ok (.slice ra rn rc) w := fun w => by
          have := hsl w (by omega)
          rw [hra.out, hrn.out, hrc.out] at this
          exact this
        have hrl2 : rn ≤ 140737488355328 := by have := hrn.out; omega
        clear hsl hc hra hrn hrc fin0 E9
        rcases h01 with rfl | rfl
        · have e01 := parse_01 (b := 0) (r := r) (by decide)
          have F2 := newF w1 (numR false false (.slice none 0 0) 0 0)
          have E2 := oldF E1 (numR false false (.slice none 0 0) 0 0)
          have B2 := below_sizeF B1 (Nat.le_refl _) (box_belowF (w := w1) (o := numR false false (.slice none 0 0) 0 0))
          have IR2 := IW.below B2
          have hw1 : w.heap.size < w1.heap.size := lt_of_blockF E1
          unfold numR at F2 E2 B2 IR2
          go_upto_region 11 with fail
          clear z0 z1 z2 z3 z4 zf c0
          generalize w1.alloc (.cells #[.bool false, .bool false, .slice none 0 0, .float .f64 0, .float .f64 0] 27) = w2 at *
          generalize w1.heap.size = b6 at *
          replace E2 : w2.heap[w.heap.size]? = some (numR false false (.slice none 0 0) 0 0) := E2
          replace F2 : w2.heap[b6]? = some (numR false false (.slice none 0 0) 0 0) := F2
          refine wp_region_inv' (fun A D a w' => ∃ v69 v70 v71 v72 v73 v74 v75 v76 av cv, a = ((((((((A.put (some 69) v69).put (some 70) v70).put (some 71) v71).put (some 72) v72).put (some 73) v73).put (some 74) v74).put (some 75) v75).put (some 76) v76) ∧ (D 8 ∨ Below w2.heap.size w2 w') ∧ (D 8 → ∃ w9, Below w2.heap.size w2 w9 ∧ OwnB w9 w2.heap.size (.slice av rn cv) r ∧ w' = w9.setCell ⟨b6, 2, none⟩ (.slice av rn cv)) ∧ (D 0 → v69 = .pointer (some ⟨b6, 1, none⟩)) ∧ (D 1 → v70 = .pointer (some ⟨b6, 2, none⟩)) ∧ (D 2 → v71 = .slice none 0 0) ∧ (D 3 → v72 = .slice (some ⟨g, off, none⟩) jn jc) ∧ (D 4 → v73 = .slice ra rn rc) ∧ (D 5 → v74 = .slice av rn cv) ∧ (D 6 → v75 = .pointer (some ⟨b6, 1, none⟩)) ∧ (D 7 → v76 = .pointer (some ⟨b6, 2, none⟩)) ∧ (D 5 → ¬ D 8 → OwnB w' w2.heap.size (.slice av rn cv) r)) (by kernel_rfl) (by kernel_rfl) ?mono ?start ?step ?done
          case mono =>
            rintro D D' a w' hD ⟨v69, v70, v71, v72, v73, v74, v75, v76, av, cv, ha, hB, hQ, e0, e1, e2, e3, e4, e5, e6, e7, hO⟩
            exact ⟨v69, v70, v71, v72, v73, v74, v75, v76, av, cv, ha, hB.imp_left (hD 8).1, fun h => hQ ((hD 8).2 h), fun h => e0 ((hD 0).2 h), fun h => e1 ((hD 1).2 h), fun h => e2 ((hD 2).2 h), fun h => e3 ((hD 3).2 h), fun h => e4 ((hD 4).2 h), fun h => e5 ((hD 5).2 h), fun h => e6 ((hD 6).2 h), fun h => e7 ((hD 7).2 h), fun h h' => hO ((hD 5).2 h) (fun k => h' ((hD 8).1 k))⟩
          case start => exact ⟨undef, undef, undef, undef, undef, undef, undef, undef, none, 0, by kernel_rfl, .inr ((Below.refl _ _).drew), fun h => h.elim, fun h => h.elim, fun h => h.elim, fun h => h.elim, fun h => h.elim, fun h => h.elim, fun h => h.elim, fun h => h.elim, fun h => h.elim, fun h _ => h.elim⟩
          case step =>
            intro i o ho D a w' hI hn hcl hd
            obtain ⟨v69, v70, v71, v72, v73, v74, v75, v76, av, cv, ha, hB, hQ, e0, e1, e2, e3, e4, e5, e6, e7, hO⟩ := hI
            match i, ho with
            | 0, ho =>
              cases Option.some.inj ho
              have ev : a.tmps[6]?.getD undef = .pointer (some ⟨b6, 0, none⟩) := by rw [ha]; kernel_rfl
              refine wp_value (w' := w') (v := .pointer (some ⟨b6, 1, none⟩)) (by simp [execOp, ev, go_sem]) ?_
              exact ⟨(.pointer (some ⟨b6, 1, none⟩)), v70, v71, v72, v73, v74, v75, v76, av, cv, by rw [ha]; kernel_rfl, hB.imp_left .inr, fun h => hQ (h.resolve_left (by decide)), fun _ => rfl, fun h => e1 (h.resolve_left (by decide)), fun h => e2 (h.resolve_left (by decide)), fun h => e3 (h.resolve_left (by decide)), fun h => e4 (h.resolve_left (by decide)), fun h => e5 (h.resolve_left (by decide)), fun h => e6 (h.resolve_left (by decide)), fun h => e7 (h.resolve_left (by decide)), fun h h' => hO (h.resolve_left (by decide)) (fun k => h' (.inr k))⟩
            | 1, ho =>
              cases Option.some.inj ho
              have ev : a.tmps[69]?.getD undef = .pointer (some ⟨b6, 1, none⟩) := by rw [ha, e0 (hd ⟨0, .data⟩ (by simp) rfl)]; kernel_rfl
              refine wp_value (w' := w') (v := .pointer (some ⟨b6, 2, none⟩)) (by simp [execOp, ev, go_sem]) ?_
              exact ⟨v69, (.pointer (some ⟨b6, 2, none⟩)), v71, v72, v73, v74, v75, v76, av, cv, by rw [ha]; kernel_rfl, hB.imp_left .inr, fun h => hQ (h.resolve_left (by decide)), fun h => e0 (h.resolve_left (by decide)), fun _ => rfl, fun h => e2 (h.resolve_left (by decide)), fun h => e3 (h.resolve_left (by decide)), fun h => e4 (h.resolve_left (by decide)), fun h => e5 (h.resolve_left (by decide)), fun h => e6 (h.resolve_left (by decide)), fun h => e7 (h.resolve_left (by decide)), fun h h' => hO (h.resolve_left (by decide)) (fun k => h' (.inr k))⟩
            | 2, ho =>
              cases Option.some.inj ho
              have ev : a.tmps[70]?.getD undef = .pointer (some ⟨b6, 2, none⟩) := by rw [ha, e1 (hd ⟨1, .data⟩ (by simp) rfl)]; kernel_rfl
              obtain ⟨_, _, z2, _, _, _⟩ := numR_cells (((hB.resolve_left (fun h => (fun h => hn (hcl 5 _ rfl h ⟨2, .data⟩ (by simp) rfl)) (hcl 8 _ rfl h ⟨5, .data⟩ (by simp) rfl))).block _ (lt_of_blockF F2)).trans F2)
              refine wp_value (w' := w') (v := .slice none 0 0) (by simp [execOp, ev, go_sem, z2]) ?_
              exact ⟨v69, v70, (.slice none 0 0), v72, v73, v74, v75, v76, av, cv, by rw [ha]; kernel_rfl, hB.imp_left .inr, fun h => hQ (h.resolve_left (by decide)), fun h => e0 (h.resolve_left (by decide)), fun h => e1 (h.resolve_left (by decide)), fun _ => rfl, fun h => e3 (h.resolve_left (by decide)), fun h => e4 (h.resolve_left (by decide)), fun h => e5 (h.resolve_left (by decide)), fun h => e6 (h.resolve_left (by decide)), fun h => e7 (h.resolve_left (by decide)), fun h h' => hO (h.resolve_left (by decide)) (fun k => h' (.inr k))⟩
            | 3, ho =>
              cases Option.some.inj ho
              have ev : a.tmps[0]?.getD undef = .slice (some ⟨g, off, none⟩) jn jc := by rw [ha]; kernel_rfl
              refine wp_value (w' := w') (v := .slice (some ⟨g, off, none⟩) jn jc) (by simp [execOp, ev, go_sem]) ?_
              exact ⟨v69, v70, v71, (.slice (some ⟨g, off, none⟩) jn jc), v73, v74, v75, v76, av, cv, by rw [ha]; kernel_rfl, hB.imp_left .inr, fun h => hQ (h.resolve_left (by decide)), fun h => e0 (h.resolve_left (by decide)), fun h => e1 (h.resolve_left (by decide)), fun h => e2 (h.resolve_left (by decide)), fun _ => rfl, fun h => e4 (h.resolve_left (by decide)), fun h => e5 (h.resolve_left (by decide)), fun h => e6 (h.resolve_left (by decide)), fun h => e7 (h.resolve_left (by decide)), fun h h' => hO (h.resolve_left (by decide)) (fun k => h' (.inr k))⟩
            | 4, ho =>
              cases Option.some.inj ho
              have ev : a.tmps[72]?.getD undef = .slice (some ⟨g, off, none⟩) jn jc := by rw [ha, e3 (hd ⟨3, .data⟩ (by simp) rfl)]; kernel_rfl
              refine wp_value (w' := w') (v := .slice ra rn rc) (by simp [execOp, ev, go_sem, hsl1]) ?_
              exact ⟨v69, v70, v71, v72, (.slice ra rn rc), v74, v75, v76, av, cv, by rw [ha]; kernel_rfl, hB.imp_left .inr, fun h => hQ (h.resolve_left (by decide)), fun h => e0 (h.resolve_left (by decide)), fun h => e1 (h.resolve_left (by decide)), fun h => e2 (h.resolve_left (by decide)), fun h => e3 (h.resolve_left (by decide)), fun _ => rfl, fun h => e5 (h.resolve_left (by decide)), fun h => e6 (h.resolve_left (by decide)), fun h => e7 (h.resolve_left (by decide)), fun h h' => hO (h.resolve_left (by decide)) (fun k => h' (.inr k))⟩
            | 5, ho =>
              cases Option.some.inj ho
              have ev : a.tmps[71]?.getD undef = .slice none 0 0 := by rw [ha, e2 (hd ⟨2, .data⟩ (by simp) rfl)]; kernel_rfl
              have ev' : a.tmps[73]?.getD undef = .slice ra rn rc := by rw [ha, e4 (hd ⟨4, .data⟩ (by simp) rfl)]; kernel_rfl
              have hB5 := hB.resolve_left (fun h => hn (hcl 8 _ rfl h ⟨5, .data⟩ (by simp) rfl))
              refine app_nil_wp rfl (.tmp 71) (.tmp 73) rfl (by simp [Act.eval, ev]) ra rn rc r (by simp [Act.eval, ev']) (IR2.below hB5) hrl2 ?_
              intro av' cv' w6 O6 HB
              exact ⟨v69, v70, v71, v72, v73, (.slice av' rn cv'), v75, v76, av', cv', by rw [ha]; kernel_rfl, .inr (below_sizeF (hB.resolve_left (fun h => hn (hcl 8 _ rfl h ⟨5, .data⟩ (by simp) rfl))) (Nat.le_refl _) HB), fun h => absurd (h.resolve_left (by decide)) (fun h => hn (hcl 8 _ rfl h ⟨5, .data⟩ (by simp) rfl)), fun h => e0 (h.resolve_left (by decide)), fun h => e1 (h.resolve_left (by decide)), fun h => e2 (h.resolve_left (by decide)), fun h => e3 (h.resolve_left (by decide)), fun h => e4 (h.resolve_left (by decide)), fun _ => rfl, fun h => e6 (h.resolve_left (by decide)), fun h => e7 (h.resolve_left (by decide)), fun _ _ => OwnB.monoN O6 hB5.size⟩
            | 6, ho =>
              cases Option.some.inj ho
              have ev : a.tmps[6]?.getD undef = .pointer (some ⟨b6, 0, none⟩) := by rw [ha]; kernel_rfl
              refine wp_value (w' := w') (v := .pointer (some ⟨b6, 1, none⟩)) (by simp [execOp, ev, go_sem]) ?_
              exact ⟨v69, v70, v71, v72, v73, v74, (.pointer (some ⟨b6, 1, none⟩)), v76, av, cv, by rw [ha]; kernel_rfl, hB.imp_left .inr, fun h => hQ (h.resolve_left (by decide)), fun h => e0 (h.resolve_left (by decide)), fun h => e1 (h.resolve_left (by decide)), fun h => e2 (h.resolve_left (by decide)), fun h => e3 (h.resolve_left (by decide)), fun h => e4 (h.resolve_left (by decide)), fun h => e5 (h.resolve_left (by decide)), fun _ => rfl, fun h => e7 (h.resolve_left (by decide)), fun h h' => hO (h.resolve_left (by decide)) (fun k => h' (.inr k))⟩
            | 7, ho =>
              cases Option.some.inj ho
              have ev : a.tmps[75]?.getD undef = .pointer (some ⟨b6, 1, none⟩) := by rw [ha, e6 (hd ⟨6, .data⟩ (by simp) rfl)]; kernel_rfl
              refine wp_value (w' := w') (v := .pointer (some ⟨b6, 2, none⟩)) (by simp [execOp, ev, go_sem]) ?_
              exact ⟨v69, v70, v71, v72, v73, v74, v75, (.pointer (some ⟨b6, 2, none⟩)), av, cv, by rw [ha]; kernel_rfl, hB.imp_left .inr, fun h => hQ (h.resolve_left (by decide)), fun h => e0 (h.resolve_left (by decide)), fun h => e1 (h.resolve_left (by decide)), fun h => e2 (h.resolve_left (by decide)), fun h => e3 (h.resolve_left (by decide)), fun h => e4 (h.resolve_left (by decide)), fun h => e5 (h.resolve_left (by decide)), fun h => e6 (h.resolve_left (by decide)), fun _ => rfl, fun h h' => hO (h.resolve_left (by decide)) (fun k => h' (.inr k))⟩
            | 8, ho =>
              cases Option.some.inj ho
              have ev : a.tmps[76]?.getD undef = .pointer (some ⟨b6, 2, none⟩) := by rw [ha, e7 (hd ⟨7, .data⟩ (by simp) rfl)]; kernel_rfl
              have ev' : a.tmps[74]?.getD undef = .slice av rn cv := by rw [ha, e5 (hd ⟨5, .data⟩ (by simp) rfl)]; kernel_rfl
              have hB9 := hB.resolve_left hn
              obtain ⟨_, _, z2, _, _, zf⟩ := numR_cells ((hB9.block _ (lt_of_blockF F2)).trans F2)
              refine wp_skip (w' := w'.setCell ⟨b6, 2, none⟩ (.slice av rn cv)) (by simp [execOp, ev, ev', go_sem, z2, zf]) ?_
              exact ⟨v69, v70, v71, v72, v73, v74, v75, v76, av, cv, by rw [ha]; kernel_rfl, .inl (.inl rfl), fun _ => ⟨w', hB9, hO (hd ⟨5, .data⟩ (by simp) rfl) hn, rfl⟩, fun h => e0 (h.resolve_left (by decide)), fun h => e1 (h.resolve_left (by decide)), fun h => e2 (h.resolve_left (by decide)), fun h => e3 (h.resolve_left (by decide)), fun h => e4 (h.resolve_left (by decide)), fun h => e5 (h.resolve_left (by decide)), fun h => e6 (h.resolve_left (by decide)), fun h => e7 (h.resolve_left (by decide)), fun _ h' => absurd (.inl rfl) h'⟩
            | i + 9, ho => simp at ho
          case done =>
            rintro D a w' ⟨v69, v70, v71, v72, v73, v74, v75, v76, av, cv, ha, hB, hQ, e0, e1, e2, e3, e4, e5, e6, e7, hO⟩ hall
            obtain ⟨w9, B9, O9, hq⟩ := hQ (hall 8 (by decide))
            obtain rfl := e0 (hall 0 (by decide))
            obtain rfl := e1 (hall 1 (by decide))
            obtain rfl := e2 (hall 2 (by decide))
            obtain rfl := e3 (hall 3 (by decide))
            obtain rfl := e4 (hall 4 (by decide))
            obtain rfl := e5 (hall 5 (by decide))
            obtain rfl := e6 (hall 6 (by decide))
            obtain rfl := e7 (hall 7 (by decide))
            subst hq
            clear hB hQ hO hall e0 e1 e2 e3 e4 e5 e6 e7
            rw [ha]
            clear ha
            simp only [Act.put, List.setIfInBounds_toArray, List.set_cons_zero, List.set_cons_succ]
            have hb6 : b6 < w2.heap.size := lt_of_blockF F2
            have F10 := numR_set2 (v' := .slice av rn cv) ((B9.block _ hb6).trans F2)
            have E10 := (heap_setCell_other w9 ⟨b6, 2, none⟩ w.heap.size (.slice av rn cv) (Nat.ne_of_lt hw1)).trans ((B9.block _ (lt_of_blockF E2)).trans E2)
            have O10 := O9.keepN (w' := w9.setCell ⟨b6, 2, none⟩ (.slice av rn cv)) (fun g' hg => heap_setCell_other _ _ _ _ (by have := own_ltN O9 g' hg; show g' ≠ b6; omega))
            have B10 : Below w.heap.size w (w9.setCell ⟨b6, 2, none⟩ (.slice av rn cv)) := below_setCell (below_sizeF B2 (Nat.le_refl _) B9) (Nat.le_of_lt hw1)
            have hw2 : w.heap.size ≤ w2.heap.size := B2.size
            have hl9 := own_ltN O9
            generalize w9.setCell ⟨b6, 2, none⟩ (.slice av rn cv) = w10 at *
            have I10 : IsB w10 av rn cv r := by
              obtain ⟨_, a', c', e', k'⟩ := O10
              simp only [Value.slice.injEq] at e'
              obtain ⟨rfl, rfl, rfl⟩ := e'
              exact k'
            obtain ⟨x0, x1, x2, x3, x4, xf⟩ := numR_cells F10
            go_wp2_with fail
            clear x0 x1 x2 x3 x4 xf
            refine (rrightN_any false false 0 0 I10).mono ?_
            rintro e w11 ⟨rfl, B11⟩
            have E11 := (B11.block _ (lt_of_blockF E10)).trans E10
            have F11 := (B11.block _ (lt_of_blockF F10)).trans F10
            have O11 := O10.below B11
            have BB := below_sizeF B10 (Nat.le_refl _) B11
            have hokg : okGN ((0 : Int) :: r) = rightN false false r 0 0 := by unfold okGN; rw [e01]; rfl
            clear B11 E10 F10 O10 B10 I10
            obtain ⟨z0, z1, z2, z3, z4, zf⟩ := numR_cells E11
            obtain ⟨x0, x1, x2, x3, x4, xf⟩ := numR_cells F11
            cases hR : rightN false false r 0 0 with
            | false =>
              have E9 := stF_blk E11 false false (.slice none 0 0) 0 0
              go_wp2
              exact bodyPost_ret (v := .tuple #[.agg #[.bool false, .bool false, .slice none 0 0, .float .f64 0, .float .f64 0], .int .i64 11]) (results_twoN Try.results20 rfl (load27 E9) rfl) rfl ⟨stF_below BB (Nat.le_refl _) _ _ _ _ _, .inr ⟨by rw [hokg, hR], rfl⟩⟩
            | true =>
              have E9 := stF_blk E11 false false (.slice av rn cv) 0 0
              go_wp2
              refine bodyPost_ret (v := .tuple #[.agg #[.bool false, .bool false, .slice av rn cv, .float .f64 0, .float .f64 0], .int .i64 0]) (results_twoN Try.results20 rfl (load27 E9) rfl) rfl ⟨stF_below BB (Nat.le_refl _) _ _ _ _ _, .inl ⟨by rw [hokg, hR], _, _, _, by rw [e01]; rfl, ?_⟩⟩
              rw [e01]
              refine OwnB.monoN (O11.keepN (fun g' hg => stF_other ?_ _ _ _ _ _)) hw2
              have := hl9 g' hg
              omega
        · have e01 := parse_01 (b := 1) (r := r) (by decide)
          have F2 := newF w1 (numR false true (.slice none 0 0) 0 0)
          have E2 := oldF E1 (numR false true (.slice none 0 0) 0 0)
          have B2 := below_sizeF B1 (Nat.le_refl _) (box_belowF (w := w1) (o := numR false true (.slice none 0 0) 0 0))
          have IR2 := IW.below B2
          have hw1 : w.heap.size < w1.heap.size := lt_of_blockF E1
          unfold numR at F2 E2 B2 IR2
          go_upto_region 11 with fail
          clear z0 z1 z2 z3 z4 zf c0
          generalize w1.alloc (.cells #[.bool false, .bool true, .slice none 0 0, .float .f64 0, .float .f64 0] 27) = w2 at *
          generalize w1.heap.size = b6 at *
          replace E2 : w2.heap[w.heap.size]? = some (numR false false (.slice none 0 0) 0 0) := E2
          replace F2 : w2.heap[b6]? = some (numR false true (.slice none 0 0) 0 0) := F2
          refine wp_region_inv' (fun A D a w' => ∃ v69 v70 v71 v72 v73 v74 v75 v76 av cv, a = ((((((((A.put (some 69) v69).put (some 70) v70).put (some 71) v71).put (some 72) v72).put (some 73) v73).put (some 74) v74).put (some 75) v75).put (some 76) v76) ∧ (D 8 ∨ Below w2.heap.size w2 w') ∧ (D 8 → ∃ w9, Below w2.heap.size w2 w9 ∧ OwnB w9 w2.heap.size (.slice av rn cv) r ∧ w' = w9.setCell ⟨b6, 2, none⟩ (.slice av rn cv)) ∧ (D 0 → v69 = .pointer (some ⟨b6, 1, none⟩)) ∧ (D 1 → v70 = .pointer (some ⟨b6, 2, none⟩)) ∧ (D 2 → v71 = .slice none 0 0) ∧ (D 3 → v72 = .slice (some ⟨g, off, none⟩) jn jc) ∧ (D 4 → v73 = .slice ra rn rc) ∧ (D 5 → v74 = .slice av rn cv) ∧ (D 6 → v75 = .pointer (some ⟨b6, 1, none⟩)) ∧ (D 7 → v76 = .pointer (some ⟨b6, 2, none⟩)) ∧ (D 5 → ¬ D 8 → OwnB w' w2.heap.size (.slice av rn cv) r)) (by kernel_rfl) (by kernel_rfl) ?mono ?start ?step ?done
          case mono =>
            rintro D D' a w' hD ⟨v69, v70, v71, v72, v73, v74, v75, v76, av, cv, ha, hB, hQ, e0, e1, e2, e3, e4, e5, e6, e7, hO⟩
            exact ⟨v69, v70, v71, v72, v73, v74, v75, v76, av, cv, ha, hB.imp_left (hD 8).1, fun h => hQ ((hD 8).2 h), fun h => e0 ((hD 0).2 h), fun h => e1 ((hD 1).2 h), fun h => e2 ((hD 2).2 h), fun h => e3 ((hD 3).2 h), fun h => e4 ((hD 4).2 h), fun h => e5 ((hD 5).2 h), fun h => e6 ((hD 6).2 h), fun h => e7 ((hD 7).2 h), fun h h' => hO ((hD 5).2 h) (fun k => h' ((hD 8).1 k))⟩
          case start => exact ⟨undef, undef, undef, undef, undef, undef, undef, undef, none, 0, by kernel_rfl, .inr ((Below.refl _ _).drew), fun h => h.elim, fun h => h.elim, fun h => h.elim, fun h => h.elim, fun h => h.elim, fun h => h.elim, fun h => h.elim, fun h => h.elim, fun h => h.elim, fun h _ => h.elim⟩
          case step =>
            intro i o ho D a w' hI hn hcl hd
            obtain ⟨v69, v70, v71, v72, v73, v74, v75, v76, av, cv, ha, hB, hQ, e0, e1, e2, e3, e4, e5, e6, e7, hO⟩ := hI
            match i, ho with
            | 0, ho =>
              cases Option.some.inj ho
              have ev : a.tmps[6]?.getD undef = .pointer (some ⟨b6, 0, none⟩) := by rw [ha]; kernel_rfl
              refine wp_value (w' := w') (v := .pointer (some ⟨b6, 1, none⟩)) (by simp [execOp, ev, go_sem]) ?_
              exact ⟨(.pointer (some ⟨b6, 1, none⟩)), v70, v71, v72, v73, v74, v75, v76, av, cv, by rw [ha]; kernel_rfl, hB.imp_left .inr, fun h => hQ (h.resolve_left (by decide)), fun _ => rfl, fun h => e1 (h.resolve_left (by decide)), fun h => e2 (h.resolve_left (by decide)), fun h => e3 (h.resolve_left (by decide)), fun h => e4 (h.resolve_left (by decide)), fun h => e5 (h.resolve_left (by decide)), fun h => e6 (h.resolve_left (by decide)), fun h => e7 (h.resolve_left (by decide)), fun h h' => hO (h.resolve_left (by decide)) (fun k => h' (.inr k))⟩
            | 1, ho =>
              cases Option.some.inj ho
              have ev : a.tmps[69]?.getD undef = .pointer (some ⟨b6, 1, none⟩) := by rw [ha, e0 (hd ⟨0, .data⟩ (by simp) rfl)]; kernel_rfl
              refine wp_value (w' := w') (v := .pointer (some ⟨b6, 2, none⟩)) (by simp [execOp, ev, go_sem]) ?_
              exact ⟨v69, (.pointer (some ⟨b6, 2, none⟩)), v71, v72, v73, v74, v75, v76, av, cv, by rw [ha]; kernel_rfl, hB.imp_left .inr, fun h => hQ (h.resolve_left (by decide)), fun h => e0 (h.resolve_left (by decide)), fun _ => rfl, fun h => e2 (h.resolve_left (by decide)), fun h => e3 (h.resolve_left (by decide)), fun h => e4 (h.resolve_left (by decide)), fun h => e5 (h.resolve_left (by decide)), fun h => e6 (h.resolve_left (by decide)), fun h => e7 (h.resolve_left (by decide)), fun h h' => hO (h.resolve_left (by decide)) (fun k => h' (.inr k))⟩
            | 2, ho =>
              cases Option.some.inj ho
              have ev : a.tmps[70]?.getD undef = .pointer (some ⟨b6, 2, none⟩) := by rw [ha, e1 (hd ⟨1, .data⟩ (by simp) rfl)]; kernel_rfl
              obtain ⟨_, _, z2, _, _, _⟩ := numR_cells (((hB.resolve_left (fun h => (fun h => hn (hcl 5 _ rfl h ⟨2, .data⟩ (by simp) rfl)) (hcl 8 _ rfl h ⟨5, .data⟩ (by simp) rfl))).block _ (lt_of_blockF F2)).trans F2)
              refine wp_value (w' := w') (v := .slice none 0 0) (by simp [execOp, ev, go_sem, z2]) ?_
              exact ⟨v69, v70, (.slice none 0 0), v72, v73, v74, v75, v76, av, cv, by rw [ha]; kernel_rfl, hB.imp_left .inr, fun h => hQ (h.resolve_left (by decide)), fun h => e0 (h.resolve_left (by decide)), fun h => e1 (h.resolve_left (by decide)), fun _ => rfl, fun h => e3 (h.resolve_left (by decide)), fun h => e4 (h.resolve_left (by decide)), fun h => e5 (h.resolve_left (by decide)), fun h => e6 (h.resolve_left (by decide)), fun h => e7 (h.resolve_left (by decide)), fun h h' => hO (h.resolve_left (by decide)) (fun k => h' (.inr k))⟩
            | 3, ho =>
              cases Option.some.inj ho
              have ev : a.tmps[0]?.getD undef = .slice (some ⟨g, off, none⟩) jn jc := by rw [ha]; kernel_rfl
              refine wp_value (w' := w') (v := .slice (some ⟨g, off, none⟩) jn jc) (by simp [execOp, ev, go_sem]) ?_
              exact ⟨v69, v70, v71, (.slice (some ⟨g, off, none⟩) jn jc), v73, v74, v75, v76, av, cv, by rw [ha]; kernel_rfl, hB.imp_left .inr, fun h => hQ (h.resolve_left (by decide)), fun h => e0 (h.resolve_left (by decide)), fun h => e1 (h.resolve_left (by decide)), fun h => e2 (h.resolve_left (by decide)), fun _ => rfl, fun h => e4 (h.resolve_left (by decide)), fun h => e5 (h.resolve_left (by decide)), fun h => e6 (h.resolve_left (by decide)), fun h => e7 (h.resolve_left (by decide)), fun h h' => hO (h.resolve_left (by decide)) (fun k => h' (.inr k))⟩
            | 4, ho =>
              cases Option.some.inj ho
              have ev : a.tmps[72]?.getD undef = .slice (some ⟨g, off, none⟩) jn jc := by rw [ha, e3 (hd ⟨3, .data⟩ (by simp) rfl)]; kernel_rfl
              refine wp_value (w' := w') (v := .slice ra rn rc) (by simp [execOp, ev, go_sem, hsl1]) ?_
              exact ⟨v69, v70, v71, v72, (.slice ra rn rc), v74, v75, v76, av, cv, by rw [ha]; kernel_rfl, hB.imp_left .inr, fun h => hQ (h.resolve_left (by decide)), fun h => e0 (h.resolve_left (by decide)), fun h => e1 (h.resolve_left (by decide)), fun h => e2 (h.resolve_left (by decide)), fun h => e3 (h.resolve_left (by decide)), fun _ => rfl, fun h => e5 (h.resolve_left (by decide)), fun h => e6 (h.resolve_left (by decide)), fun h => e7 (h.resolve_left (by decide)), fun h h' => hO (h.resolve_left (by decide)) (fun k => h' (.inr k))⟩
            | 5, ho =>
              cases Option.some.inj ho
              have ev : a.tmps[71]?.getD undef = .slice none 0 0 := by rw [ha, e2 (hd ⟨2, .data⟩ (by simp) rfl)]; kernel_rfl
              have ev' : a.tmps[73]?.getD undef = .slice ra rn rc := by rw [ha, e4 (hd ⟨4, .data⟩ (by simp) rfl)]; kernel_rfl
              have hB5 := hB.resolve_left (fun h => hn (hcl 8 _ rfl h ⟨5, .data⟩ (by simp) rfl))
              refine app_nil_wp rfl (.tmp 71) (.tmp 73) rfl (by simp [Act.eval, ev]) ra rn rc r (by simp [Act.eval, ev']) (IR2.below hB5) hrl2 ?_
              intro av' cv' w6 O6 HB
              exact ⟨v69, v70, v71, v72, v73, (.slice av' rn cv'), v75, v76, av', cv', by rw [ha]; kernel_rfl, .inr (below_sizeF (hB.resolve_left (fun h => hn (hcl 8 _ rfl h ⟨5, .data⟩ (by simp) rfl))) (Nat.le_refl _) HB), fun h => absurd (h.resolve_left (by decide)) (fun h => hn (hcl 8 _ rfl h ⟨5, .data⟩ (by simp) rfl)), fun h => e0 (h.resolve_left (by decide)), fun h => e1 (h.resolve_left (by decide)), fun h => e2 (h.resolve_left (by decide)), fun h => e3 (h.resolve_left (by decide)), fun h => e4 (h.resolve_left (by decide)), fun _ => rfl, fun h => e6 (h.resolve_left (by decide)), fun h => e7 (h.resolve_left (by decide)), fun _ _ => OwnB.monoN O6 hB5.size⟩
            | 6, ho =>
              cases Option.some.inj ho
              have ev : a.tmps[6]?.getD undef = .pointer (some ⟨b6, 0, none⟩) := by rw [ha]; kernel_rfl
              refine wp_value (w' := w') (v := .pointer (some ⟨b6, 1, none⟩)) (by simp [execOp, ev, go_sem]) ?_
              exact ⟨v69, v70, v71, v72, v73, v74, (.pointer (some ⟨b6, 1, none⟩)), v76, av, cv, by rw [ha]; kernel_rfl, hB.imp_left .inr, fun h => hQ (h.resolve_left (by decide)), fun h => e0 (h.resolve_left (by decide)), fun h => e1 (h.resolve_left (by decide)), fun h => e2 (h.resolve_left (by decide)), fun h => e3 (h.resolve_left (by decide)), fun h => e4 (h.resolve_left (by decide)), fun h => e5 (h.resolve_left (by decide)), fun _ => rfl, fun h => e7 (h.resolve_left (by decide)), fun h h' => hO (h.resolve_left (by decide)) (fun k => h' (.inr k))⟩
            | 7, ho =>
              cases Option.some.inj ho
              have ev : a.tmps[75]?.getD undef = .pointer (some ⟨b6, 1, none⟩) := by rw [ha, e6 (hd ⟨6, .data⟩ (by simp) rfl)]; kernel_rfl
              refine wp_value (w' := w') (v := .pointer (some ⟨b6, 2, none⟩)) (by simp [execOp, ev, go_sem]) ?_
              exact ⟨v69, v70, v71, v72, v73, v74, v75, (.pointer (some ⟨b6, 2, none⟩)), av, cv, by rw [ha]; kernel_rfl, hB.imp_left .inr, fun h => hQ (h.resolve_left (by decide)), fun h => e0 (h.resolve_left (by decide)), fun h => e1 (h.resolve_left (by decide)), fun h => e2 (h.resolve_left (by decide)), fun h => e3 (h.resolve_left (by decide)), fun h => e4 (h.resolve_left (by decide)), fun h => e5 (h.resolve_left (by decide)), fun h => e6 (h.resolve_left (by decide)), fun _ => rfl, fun h h' => hO (h.resolve_left (by decide)) (fun k => h' (.inr k))⟩
            | 8, ho =>
              cases Option.some.inj ho
              have ev : a.tmps[76]?.getD undef = .pointer (some ⟨b6, 2, none⟩) := by rw [ha, e7 (hd ⟨7, .data⟩ (by simp) rfl)]; kernel_rfl
              have ev' : a.tmps[74]?.getD undef = .slice av rn cv := by rw [ha, e5 (hd ⟨5, .data⟩ (by simp) rfl)]; kernel_rfl
              have hB9 := hB.resolve_left hn
              obtain ⟨_, _, z2, _, _, zf⟩ := numR_cells ((hB9.block _ (lt_of_blockF F2)).trans F2)
              refine wp_skip (w' := w'.setCell ⟨b6, 2, none⟩ (.slice av rn cv)) (by simp [execOp, ev, ev', go_sem, z2, zf]) ?_
              exact ⟨v69, v70, v71, v72, v73, v74, v75, v76, av, cv, by rw [ha]; kernel_rfl, .inl (.inl rfl), fun _ => ⟨w', hB9, hO (hd ⟨5, .data⟩ (by simp) rfl) hn, rfl⟩, fun h => e0 (h.resolve_left (by decide)), fun h => e1 (h.resolve_left (by decide)), fun h => e2 (h.resolve_left (by decide)), fun h => e3 (h.resolve_left (by decide)), fun h => e4 (h.resolve_left (by decide)), fun h => e5 (h.resolve_left (by decide)), fun h => e6 (h.resolve_left (by decide)), fun h => e7 (h.resolve_left (by decide)), fun _ h' => absurd (.inl rfl) h'⟩
            | i + 9, ho => simp at ho
          case done =>
            rintro D a w' ⟨v69, v70, v71, v72, v73, v74, v75, v76, av, cv, ha, hB, hQ, e0, e1, e2, e3, e4, e5, e6, e7, hO⟩ hall
            obtain ⟨w9, B9, O9, hq⟩ := hQ (hall 8 (by decide))
            obtain rfl := e0 (hall 0 (by decide))
            obtain rfl := e1 (hall 1 (by decide))
            obtain rfl := e2 (hall 2 (by decide))
            obtain rfl := e3 (hall 3 (by decide))
            obtain rfl := e4 (hall 4 (by decide))
            obtain rfl := e5 (hall 5 (by decide))
            obtain rfl := e6 (hall 6 (by decide))
            obtain rfl := e7 (hall 7 (by decide))
            subst hq
            clear hB hQ hO hall e0 e1 e2 e3 e4 e5 e6 e7
            rw [ha]
            clear ha
            simp only [Act.put, List.setIfInBounds_toArray, List.set_cons_zero, List.set_cons_succ]
            have hb6 : b6 < w2.heap.size := lt_of_blockF F2
            have F10 := numR_set2 (v' := .slice av rn cv) ((B9.block _ hb6).trans F2)
            have E10 := (heap_setCell_other w9 ⟨b6, 2, none⟩ w.heap.size (.slice av rn cv) (Nat.ne_of_lt hw1)).trans ((B9.block _ (lt_of_blockF E2)).trans E2)
            have O10 := O9.keepN (w' := w9.setCell ⟨b6, 2, none⟩ (.slice av rn cv)) (fun g' hg => heap_setCell_other _ _ _ _ (by have := own_ltN O9 g' hg; show g' ≠ b6; omega))
            have B10 : Below w.heap.size w (w9.setCell ⟨b6, 2, none⟩ (.slice av rn cv)) := below_setCell (below_sizeF B2 (Nat.le_refl _) B9) (Nat.le_of_lt hw1)
            have hw2 : w.heap.size ≤ w2.heap.size := B2.size
            have hl9 := own_ltN O9
            generalize w9.setCell ⟨b6, 2, none⟩ (.slice av rn cv) = w10 at *
            have I10 : IsB w10 av rn cv r := by
              obtain ⟨_, a', c', e', k'⟩ := O10
              simp only [Value.slice.injEq] at e'
              obtain ⟨rfl, rfl, rfl⟩ := e'
              exact k'
            obtain ⟨x0, x1, x2, x3, x4, xf⟩ := numR_cells F10
            go_wp2_with fail
            clear x0 x1 x2 x3 x4 xf
            refine (rrightN_any false true 0 0 I10).mono ?_
            rintro e w11 ⟨rfl, B11⟩
            have E11 := (B11.block _ (lt_of_blockF E10)).trans E10
            have F11 := (B11.block _ (lt_of_blockF F10)).trans F10
            have O11 := O10.below B11
            have BB := below_sizeF B10 (Nat.le_refl _) B11
            have hokg : okGN ((1 : Int) :: r) = rightN false true r 0 0 := by unfold okGN; rw [e01]; rfl
            clear B11 E10 F10 O10 B10 I10
            obtain ⟨z0, z1, z2, z3, z4, zf⟩ := numR_cells E11
            obtain ⟨x0, x1, x2, x3, x4, xf⟩ := numR_cells F11
            cases hR : rightN false true r 0 0 with
            | false =>
              have E9 := stF_blk E11 false false (.slice none 0 0) 0 0
              go_wp2
              exact bodyPost_ret (v := .tuple #[.agg #[.bool false, .bool false, .slice none 0 0, .float .f64 0, .float .f64 0], .int .i64 11]) (results_twoN Try.results20 rfl (load27 E9) rfl) rfl ⟨stF_below BB (Nat.le_refl _) _ _ _ _ _, .inr ⟨by rw [hokg, hR], rfl⟩⟩
            | true =>
              have E9 := stF_blk E11 false true (.slice av rn cv) 0 0
              go_wp2
              refine bodyPost_ret (v := .tuple #[.agg #[.bool false, .bool true, .slice av rn cv, .float .f64 0, .float .f64 0], .int .i64 0]) (results_twoN Try.results20 rfl (load27 E9) rfl) rfl ⟨stF_below BB (Nat.le_refl _) _ _ _ _ _, .inl ⟨by rw [hokg, hR], _, _, _, by rw [e01]; rfl, ?_⟩⟩
              rw [e01]
              refine OwnB.monoN (O11.keepN (fun g' hg => stF_other ?_ _ _ _ _ _)) hw2
              have := hl9 g' hg
              omega
end Go.Proofs.Ytkpngpongbpfgaa
