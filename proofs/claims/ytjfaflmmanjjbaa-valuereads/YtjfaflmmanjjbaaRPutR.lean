/- A record as bytes: the document's. -/
import Derived.Test.YtjfaflmmanjjbaaPutR
import Derived.Test.YtjfaflmmanjjbaaRRightR
import Derived.Test.YtjfaflmmanjjbaaRPut
import Derived.Test.YtjfaflmmanjjbaaGet
namespace Go.Proofs.Ytjfaflmmanjjbaa
open Go.RowKit
set_option maxRecDepth 100000
def chh (o : Int) (g : Bool) (c : Int) (v1 v2 : Value) : Obj := .cells #[.int .i64 o, .bool g, .int .i64 c, v1, v2] 76 (0, 0)
theorem chh_cells {w : World} {b : Nat} {o c : Int} {g : Bool} {v1 v2 : Value} (h : w.heap[b]? = some (chh o g c v1 v2)) : w.cell? ⟨b, 0, none⟩ = some (.int .i64 o) ∧ w.cell? ⟨b, 1, none⟩ = some (.bool g) ∧ w.cell? ⟨b, 2, none⟩ = some (.int .i64 c) ∧ w.cell? ⟨b, 3, none⟩ = some v1 ∧ w.cell? ⟨b, 4, none⟩ = some v2 := by
  refine ⟨?_, ?_, ?_, ?_, ?_⟩ <;> (rw [cell_of_row _ b _ _ _ _ h]; rfl)
set_option maxHeartbeats 4000000 in
theorem rputRecord_any {w : World} (c : Int) {a : Option Addr} {n cap : Nat} {xs : List Ch} (h : IsC w a n cap xs) :
    Calls Try.prog 31 #[.agg #[.int .i64 c, .slice a n cap]] w fun e w' => PutP w c xs e w' := by
  have hsz := h.size
  have B1 : Below w.heap.size w (w.alloc (recB c (.slice a n cap) 49)) := box_below
  have E1 := new1 w (recB c (.slice a n cap) 49)
  cases hok : okR c xs with
  | false =>
    go_enter Try.func31, Try.ntmps31
    go_wp2_with fail
    refine (rrightRecord_any c (h.below box_below)).mono ?_
    rintro e w2 ⟨rfl, B2⟩
    rw [hok]
    have B3 : Below w.heap.size w w2 := below_size box_below box_below.size B2
    clear B2
    go_wp2
    go_ret2
    exact ⟨.inl ⟨hok, rfl⟩, B3⟩
  | true =>
    obtain ⟨hc, hn, hL⟩ := okR_parts hok
    obtain ⟨m, rfl⟩ : ∃ m : Nat, c = (m : Int) := ⟨c.toNat, by omega⟩
    have hul1 : (uvar m).length ≤ 10 := by rw [uvar_length m (by omega)]; exact (usz_bd m).2
    have hul2 : (uvar n).length ≤ 10 := by rw [uvar_length n (by omega)]; exact (usz_bd n).2
    have e0 : Hid (recY (m : Int) xs = uvar m ++ uvar n ++ chsB xs) := by unfold Hid recY; rw [Int.toNat_natCast, hsz]
    replace hok : Hid (okR (m : Int) xs = true) := hok
    go_enter Try.func31, Try.ntmps31
    go_wp2_with fail
    refine (rrightRecord_any (m : Int) (h.below box_below)).mono ?_
    rintro e w2 ⟨rfl, B2⟩
    rw [hok.out]
    have B3 : Below w.heap.size w w2 := below_size box_below box_below.size B2
    have E2 := (B2.block w.heap.size (by simp)).trans E1
    clear B1 E1 B2
    obtain ⟨z0, z1⟩ := rec_cells E2
    have hw1 : IntKind.u64.wrap (m : Int) = (m : Int) := by rw [IntKind.wrap_u64]; omega
    have hw2 : IntKind.u64.wrap (n : Int) = (n : Int) := by rw [IntKind.wrap_u64]; omega
    go_wp2_with fail
    refine (ruint_to m _ (by omega)).mono ?_
    rintro e w3 ⟨a3, n3, c3, rfl, _, _, O3, B4⟩
    have E3 := (B4.block w.heap.size (lt_of_block E2)).trans E2
    have G3' : Gr w.heap.size w w3 := Gr.of (below_size B3 B3.size B4) (Nat.le_refl _)
    replace O3 : OwnB w3 w.heap.size (.slice a3 n3 c3) (uvar m) := ownB_of (own_mono O3.1 B3.size) O3.byte
    clear z0 z1 E2 B3 B4
    obtain ⟨z0, z1⟩ := rec_cells E3
    have sz3 := G3'.below.size
    go_wp2_with fail
    refine (ruint_to n _ (by omega)).mono ?_
    rintro e wx ⟨ax, nx, cx, rfl, hnx, Ix, _, Bx⟩
    have Ox := O3.below Bx
    have Ex := (Bx.block w.heap.size (lt_of_block E3)).trans E3
    have Gx := G3'.trans (Gr.of Bx sz3)
    have szx := Gx.below.size
    clear z0 z1 E3 G3' O3 sz3 Bx
    go_wp2_with (at_builtin; refine app_own _ rfl _ _ rfl w.heap.size _ (uvar m) rfl Ox _ _ _ _ rfl Ix (by omega) szx ?_)
    intro a4 n4 c4 w4 O4 G4
    have E4 := G4.keep w.heap.size _ 49 (by decide) Ex
    have G4' := Gx.trans G4
    clear Ox Ix Ex Gx G4 szx
    obtain ⟨z0, z1⟩ := rec_cells (c := (m : Int)) (v := .slice a n cap) (t := 49) E4
    obtain ⟨ys, hys⟩ : ∃ ys, Hid (uvar m ++ uvar n = ys) := ⟨_, rfl⟩
    have hyl : ys.length ≤ 20 := by rw [← hys.out, List.length_append]; omega
    rw [hys.out] at O4 e0
    go_wp2
    go_loopw [4, 5] (fun bv iv wr => ∃ (k : Nat) (a' : Option Addr) (n' c : Nat), k ≤ n ∧ iv = .int .i64 (k : Int) ∧ bv = .slice a' n' c ∧ OwnB wr w.heap.size (.slice a' n' c) (ys ++ chsB (xs.take k)) ∧ Gr w.heap.size w wr ∧ (ys ++ chsB (xs.take k)).length ≤ 60000 ∧ wr.heap[w.heap.size]? = some (recB (m : Int) (.slice a n cap) 49)) (fun _ iv _ => n - (intOf iv).toNat)
    case atStart => exact ⟨0, a4, n4, c4, by omega, rfl, rfl, by simpa [chsB] using O4, G4', by simp [chsB]; omega, E4⟩
    case round =>
      clear O4 G4' E4 z0 z1
      obtain ⟨k, a', n', c', hk, rfl, rfl, O, G, hlen, E⟩ := hrel
      obtain ⟨z0, z1⟩ := rec_cells E
      by_cases hlt : k < n
      · obtain ⟨b, off, x, rfl, hbl, hx, hcx, hox⟩ := (h.below G.below).at_ k hlt
        have hall := okL_all hL (by omega) x (List.mem_of_getElem? hx.out)
        have hsn := chsB_snoc hx.out
        obtain ⟨o, g, cc, vs, bs⟩ := x
        obtain ⟨b2, off2, e2, hcw⟩ := h.cells (by omega)
        cases e2
        obtain ⟨sa, sn, sc, ba, bn, bc, d0, d1, d2, d3, d4, io⟩ := hcw k _ hx.out
        simp only at d0 d1 d2 io hall hsn
        obtain ⟨ho1, ho2, hokc⟩ := hall
        obtain ⟨o, rfl⟩ : ∃ q : Nat, o = (q : Int) := ⟨o.toNat, by omega⟩
        have hbw := lt_of_cell d0
        have c0 := (G.below.cell (p := ⟨b, off + k * 5, none⟩) hbw).trans d0
        have c1 := (G.below.cell (p := ⟨b, off + k * 5 + 1, none⟩) hbw).trans d1
        have c2 := (G.below.cell (p := ⟨b, off + k * 5 + 2, none⟩) hbw).trans d2
        have c3 := (G.below.cell (p := ⟨b, off + k * 5 + 3, none⟩) hbw).trans d3
        have c4 := (G.below.cell (p := ⟨b, off + k * 5 + 4, none⟩) hbw).trans d4
        replace hsn : Hid (chsB (xs.take (k + 1)) = chsB (xs.take k) ++ chB (o : Int) g cc vs bs) := hsn
        have hki : (k : Int) < (n : Int) := by omega
        have hw3 : IntKind.u64.wrap (o : Int) = (o : Int) := by rw [IntKind.wrap_u64]; omega
        have hchl : (chB (o : Int) g cc vs bs).length ≤ 5000 := chB_len (by omega) hokc
        have hbsz := io.b.size
        have hul3 : (uvar o).length ≤ 10 := by rw [uvar_length o (by omega)]; exact (usz_bd o).2
        have G2 : Gr w.heap.size w (wr.alloc (.cells #[.int .i64 (o : Int), .bool g, .int .i64 cc, .slice sa sn sc, .slice ba bn bc] 76)) := G.trans (Gr.of box_below G.below.size)
        have E2 := old1 E (.cells #[.int .i64 (o : Int), .bool g, .int .i64 cc, .slice sa sn sc, .slice ba bn bc] 76)
        have F2 := new1 wr (.cells #[.int .i64 (o : Int), .bool g, .int .i64 cc, .slice sa sn sc, .slice ba bn bc] 76)
        have O2 := O.below (box_below (o := .cells #[.int .i64 (o : Int), .bool g, .int .i64 cc, .slice sa sn sc, .slice ba bn bc] 76))
        clear hcx hcw d0 d1 d2 d3 d4 hox
        go_upto_region 9 with fail
        clear z0 z1 c0 c1 c2 c3 c4 O G E
        generalize wr.alloc (.cells #[.int .i64 (o : Int), .bool g, .int .i64 cc, .slice sa sn sc, .slice ba bn bc] 76) = wa at *
        generalize wr.heap.size = xb at *
        replace F2 : wa.heap[xb]? = some (chh (o : Int) g cc (.slice sa sn sc) (.slice ba bn bc)) := F2
        obtain ⟨y0, y1, y2, y3, y4⟩ := chh_cells F2
        go_wp2_with fail
        refine (ruint_to o _ (by omega)).mono ?_
        rintro e wx ⟨ax, nx, cx, rfl, hnx, Ix, _, Bx⟩
        have Ox := O2.below Bx
        have Ex := (Bx.block w.heap.size (lt_of_block E2)).trans E2
        have Fx := (Bx.block xb (lt_of_block F2)).trans F2
        have Gx := G2.trans (Gr.of Bx G2.below.size)
        have szx := Gx.below.size
        clear y0 y1 y2 y3 y4 E2 F2 G2 O2 Bx
        go_wp2_with (at_builtin; refine app_own _ rfl _ _ rfl w.heap.size _ _ rfl Ox _ _ _ _ rfl Ix (by simp only [List.length_append] at hlen ⊢; omega) szx ?_)
        intro a4 n4 c4 w4 O4 G4
        have E4 := G4.keep w.heap.size _ 49 (by decide) Ex
        have F4 : w4.heap[xb]? = some (chh (o : Int) g cc (.slice sa sn sc) (.slice ba bn bc)) := G4.keep xb _ 76 (by decide) Fx
        have G4' := Gx.trans G4
        have sz4 := G4'.below.size
        clear Ox Ix Ex Fx Gx G4 szx
        obtain ⟨y0, y1, y2, y3, y4⟩ := chh_cells F4
        have hl4 : ((ys ++ chsB (xs.take k)) ++ uvar o).length ≤ 60010 := by rw [List.length_append]; omega
        cases g with
        | true =>
          have e1 : Hid (chB (o : Int) true cc vs bs = uvar o ++ [1]) := by unfold Hid chB; simp
          have I1 := isB_lit w4 #[.int .u8 1] [1] 1 rfl (by decide) rfl (by intro x hx; simp at hx; omega) (0, 0)
          go_wp2_with (at_builtin; refine app_own _ rfl _ _ rfl w.heap.size _ _ rfl (O4.below box_below) _ _ _ _ rfl I1 (by simp only [List.length_append] at hlen ⊢; omega) (by simp; omega) ?_)
          intro a5 n5 c5 w5 O5 G5
          have E6 : w5.heap[w.heap.size]? = some (recB (m : Int) (.slice (some ⟨b, off, none⟩) n cap) 49) := G5.keep w.heap.size _ 49 (by decide) (old1 E4 _)
          have G6 := G4'.trans ((Gr.of box_below sz4).trans G5)
          replace O5 : OwnB w5 w.heap.size (.slice a5 n5 c5) (ys ++ chsB (xs.take (k + 1))) := by rw [hsn.out, e1.out]; simpa only [List.append_assoc, List.cons_append, List.nil_append] using O5
          clear O4 I1 G4' E4 F4 G5 y0 y1 y2 y3 y4 e1
          have hs5 : n5 = (ys ++ chsB (xs.take (k + 1))).length := O5.size
          have hct := chsB_take xs (k + 1)
          have hmx : n5 ≤ 65000 := by rw [hs5, hsn.out, ← List.append_assoc, List.length_append]; omega
          by_cases hbig : 60000 < n5
          · have hbi : (60000 : Int) < (n5 : Int) := by omega
            have hfull : Hid (60000 < (recY (m : Int) xs).length) := by unfold Hid; rw [e0.out, List.length_append]; rw [List.length_append] at hs5; omega
            clear hs5
            go_wp2
            go_ret2
            exact ⟨.inr (.inl ⟨hok.out, hfull.out, rfl⟩), G6.below⟩
          · have hbi : ¬ (60000 : Int) < (n5 : Int) := by omega
            have hl5 : Hid ((ys ++ chsB (xs.take (k + 1))).length ≤ 60000) := by unfold Hid; omega
            clear hs5
            go_wp2
            go_roundw
            case rel => exact ⟨k + 1, a5, n5, c5, by omega, by go_num, rfl, O5, G6, hl5.out, E6⟩
            case measure => simp [intOf]; omega
        | false =>
          have hokO : okO cc vs bn = true := by unfold okCh at hokc; rw [hbsz] at hokc; exact hokc
          have e1 : Hid (chB (o : Int) false cc vs bs = uvar o ++ ([0] ++ objY cc vs bs)) := by unfold Hid chB; simp
          have hyl2 : (objY cc vs bs).length ≤ 4000 := objY_len (by rw [hbsz]; exact hokO)
          have I1 := isB_lit w4 #[.int .u8 0] [0] 1 rfl (by decide) rfl (by intro x hx; simp at hx; omega) (0, 0)
          go_wp2_with (at_builtin; refine app_own _ rfl _ _ rfl w.heap.size _ _ rfl (O4.below box_below) _ _ _ _ rfl I1 (by simp only [List.length_append] at hlen ⊢; omega) (by simp; omega) ?_)
          intro a7 n7 c7 w7 O7 G7
          have E7 := G7.keep w.heap.size _ 49 (by decide) (old1 E4 _)
          have F7 : w7.heap[xb]? = some (chh (o : Int) false cc (.slice sa sn sc) (.slice ba bn bc)) := G7.keep xb _ 76 (by decide) (old1 F4 _)
          have G7' := G4'.trans ((Gr.of box_below sz4).trans G7)
          have sz7 := G7'.below.size
          have hl7 : ((ys ++ chsB (xs.take k)) ++ uvar o ++ [0]).length ≤ 60011 := by rw [List.length_append]; simp only [List.length_cons, List.length_nil]; omega
          clear O4 I1 G4' E4 F4 G7 y0 y1 y2 y3 y4
          obtain ⟨y0, y1, y2, y3, y4⟩ := chh_cells F7
          go_wp2_with fail
          refine (rbytes_any (io.below G7'.below) hokO).mono ?_
          rintro e w8 ⟨v8, rfl, O8v, B8⟩
          obtain ⟨a8, n8, c8, rfl⟩ := O8v.shape'
          have I8 := O8v.isB
          have hs8 : n8 ≤ 4000 := by have := O8v.size; omega
          have O8 := O7.below B8
          have E8 := (B8.block w.heap.size (lt_of_block E7)).trans E7
          have G8' := G7'.trans (Gr.of B8 sz7)
          have sz8 := G8'.below.size
          clear O8v B8 y0 y1 y2 y3 y4 F7 E7 G7' O7
          go_wp2_with (at_builtin; refine app_own _ rfl _ _ rfl w.heap.size _ _ rfl O8 _ _ _ _ rfl I8 (by simp only [List.length_append, List.length_cons, List.length_nil] at hlen ⊢; omega) sz8 ?_)
          intro a5 n5 c5 w5 O5 G5
          have E6 : w5.heap[w.heap.size]? = some (recB (m : Int) (.slice (some ⟨b, off, none⟩) n cap) 49) := G5.keep w.heap.size _ 49 (by decide) E8
          have G6 := G8'.trans G5
          replace O5 : OwnB w5 w.heap.size (.slice a5 n5 c5) (ys ++ chsB (xs.take (k + 1))) := by rw [hsn.out, e1.out]; simpa only [List.append_assoc, List.cons_append, List.nil_append] using O5
          clear O8 I8 G8' E8 G5 e1
          have hs5 : n5 = (ys ++ chsB (xs.take (k + 1))).length := O5.size
          have hct := chsB_take xs (k + 1)
          have hmx : n5 ≤ 65000 := by rw [hs5, hsn.out, ← List.append_assoc, List.length_append]; omega
          by_cases hbig : 60000 < n5
          · have hbi : (60000 : Int) < (n5 : Int) := by omega
            have hfull : Hid (60000 < (recY (m : Int) xs).length) := by unfold Hid; rw [e0.out, List.length_append]; rw [List.length_append] at hs5; omega
            clear hs5
            go_wp2
            go_ret2
            exact ⟨.inr (.inl ⟨hok.out, hfull.out, rfl⟩), G6.below⟩
          · have hbi : ¬ (60000 : Int) < (n5 : Int) := by omega
            have hl5 : Hid ((ys ++ chsB (xs.take (k + 1))).length ≤ 60000) := by unfold Hid; omega
            clear hs5
            go_wp2
            go_roundw
            case rel => exact ⟨k + 1, a5, n5, c5, by omega, by go_num, rfl, O5, G6, hl5.out, E6⟩
            case measure => simp [intOf]; omega
      · have hlt' : ¬ (k : Int) < (n : Int) := by omega
        rw [List.take_of_length_le (by omega)] at O hlen
        go_wp2
        go_ret2
        exact ⟨.inr (.inr ⟨hok.out, by rw [e0.out]; exact hlen, _, rfl, by rw [e0.out]; exact O⟩), G.below⟩
end Go.Proofs.Ytjfaflmmanjjbaa
