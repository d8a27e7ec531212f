/- The law ValueOne. -/
import Derived.Test.YtjfaflmmanjjbaaBack
import Derived.Test.YtjfaflmmanjjbaaOper
namespace Go.Proofs.Ytjfaflmmanjjbaa
open Go.RowKit
set_option maxRecDepth 100000
theorem rsame_to {w : World} {c d : Int} {sa ba ta ea : Option Addr} {sn sc bn bc tn tc en ec : Nat} {vs us : List (Int × Int)} {bs ds : List Int} {G : Bool} (h1 : IsO w c sa sn sc ba bn bc vs bs) (h2 : IsO w d ta tn tc ea en ec us ds) (hG : Hid (alike c d vs us bs ds = G)) :
    Calls Try.prog 17 #[.agg #[.int .i64 c, .slice sa sn sc, .slice ba bn bc], .agg #[.int .i64 d, .slice ta tn tc, .slice ea en ec]] w fun e w' => e = .returned (.bool G) ∧ Below w.heap.size w w' := by
  have := rsame_any h1 h2
  rwa [hG.out] at this
/-- Put of a copy: what comes of it. -/
def PutOf (w : World) (c : Int) (vs : List (Int × Int)) (bs : List Int) (a : Option Addr) (n k : Nat) (r : Int) : Prop := (okO c vs bs.length = true ∧ r = 0 ∧ IsB w a n k (objY c vs bs)) ∨ (okO c vs bs.length = false ∧ r = 1)
theorem put_of {w : World} {c : Int} {sa ba : Option Addr} {sn sc bn bc : Nat} {vs : List (Int × Int)} {bs : List Int} (h : IsO w c sa sn sc ba bn bc vs bs) :
    Calls Try.prog 22 #[.agg #[.int .i64 c, .slice sa sn sc, .slice ba bn bc]] w fun e w' => ∃ a n k r, e = .returned (.tuple #[.slice a n k, .int .i64 r]) ∧ PutOf w' c vs bs a n k r ∧ Below w.heap.size w w' := by
  have hb := h.b.size
  cases hok : okO c vs bn with
  | false =>
    refine (put_no h hok).mono ?_
    rintro e w' ⟨rfl, B⟩
    exact ⟨_, _, _, _, rfl, .inr ⟨by rw [hb]; exact hok, rfl⟩, B⟩
  | true =>
    refine (put_ok h hok).mono ?_
    rintro e w' ⟨v, rfl, O, B⟩
    obtain ⟨a, n, k, rfl⟩ := O.shape'
    exact ⟨_, _, _, _, rfl, .inl ⟨by rw [hb]; exact hok, rfl, O.isB⟩, B⟩
set_option maxHeartbeats 4000000 in
theorem one_law {w : World} {c d : Int} {sa ba ta ea : Option Addr} {sn sc bn bc tn tc en ec : Nat} {vs us : List (Int × Int)} {bs ds : List Int} (h1 : IsO w c sa sn sc ba bn bc vs bs) (h2 : IsO w d ta tn tc ea en ec us ds) (hs : sn ≤ 8796093021952) (hb : bn ≤ 140737488351232) (ht : tn ≤ 8796093021952) (he : en ≤ 140737488351232) :
    Calls Try.prog 8 #[.agg #[.int .i64 c, .slice sa sn sc, .slice ba bn bc], .agg #[.int .i64 d, .slice ta tn tc, .slice ea en ec]] w fun e w' => e = .returned (.bool true) ∧ Below w.heap.size w w' := by
  have E1 := old1 (new1 w (objB c (.slice sa sn sc) (.slice ba bn bc))) (objB d (.slice ta tn tc) (.slice ea en ec))
  have F1 := new2 w (objB c (.slice sa sn sc) (.slice ba bn bc)) (objB d (.slice ta tn tc) (.slice ea en ec))
  have B1 : Below w.heap.size w ((w.alloc (objB c (.slice sa sn sc) (.slice ba bn bc))).alloc (objB d (.slice ta tn tc) (.slice ea en ec))) := below_size box_below box_below.size box_below
  unfold objB at E1 F1 B1
  go_enter Try.func8, Try.ntmps8
  go_wp2_with fail
  generalize (w.alloc (.cells #[.int .i64 c, .slice sa sn sc, .slice ba bn bc] 27)).alloc (.cells #[.int .i64 d, .slice ta tn tc, .slice ea en ec] 27) = w1 at *
  replace E1 : w1.heap[w.heap.size]? = some (objB c (.slice sa sn sc) (.slice ba bn bc)) := E1
  replace F1 : w1.heap[w.heap.size + 1]? = some (objB d (.slice ta tn tc) (.slice ea en ec)) := F1
  generalize w.heap.size + 1 = b1 at *
  refine (rcopy_any (h1.below B1) (by omega) (by omega)).mono ?_
  rintro e w2 ⟨vv, bv, rfl, V2, O2, B2⟩
  obtain ⟨va, vn, vc, rfl⟩ := V2.shape'
  obtain ⟨xa, xn, xc, rfl⟩ := O2.shape'
  have q2 : IsO w2 c va vn vc xa xn xc vs bs := ⟨h1.cls, V2.isV, O2.isB⟩
  have E2 := (B2.block _ (lt_of_block E1)).trans E1
  have F2 := (B2.block _ (lt_of_block F1)).trans F1
  have B2' := below_size B1 B1.size B2
  clear V2 O2 E1 F1 B1 B2
  go_wp2_with fail
  refine (put_of q2).mono ?_
  rintro e w3 ⟨a3, n3, c3, r3, rfl, P3, B3⟩
  have E3 := (B3.block _ (lt_of_block E2)).trans E2
  have F3 := (B3.block _ (lt_of_block F2)).trans F2
  have B3' := below_size B2' B2'.size B3
  clear E2 F2 B2' B3 q2
  obtain ⟨z0, z1, z2, zf⟩ := obj_cells F3
  go_wp2_with fail
  refine (rcopy_any (h2.below B3') (by omega) (by omega)).mono ?_
  rintro e w4 ⟨vv, bv, rfl, V4, O4, B4⟩
  obtain ⟨va4, vn4, vc4, rfl⟩ := V4.shape'
  obtain ⟨xa4, xn4, xc4, rfl⟩ := O4.shape'
  have q4 : IsO w4 d va4 vn4 vc4 xa4 xn4 xc4 us ds := ⟨h2.cls, V4.isV, O4.isB⟩
  have E4 := (B4.block _ (lt_of_block E3)).trans E3
  have F4 := (B4.block _ (lt_of_block F3)).trans F3
  have B4' := below_size B3' B3'.size B4
  clear V4 O4 E3 F3 B3' z0 z1 z2 zf
  go_wp2_with fail
  refine (put_of q4).mono ?_
  rintro e w6 ⟨a4, n4, c4, r4, rfl, P6, B6⟩
  have E6 := (B6.block _ (lt_of_block E4)).trans E4
  have F6 := (B6.block _ (lt_of_block F4)).trans F4
  have g6 := h1.below (below_size B4' B4'.size B6)
  have r6 := h2.below (below_size B4' B4'.size B6)
  have B36 := below_size B4 B4.size B6
  replace B6 := below_size B4' B4'.size B6
  clear E4 F4 B4' B4 q4
  by_cases hz3 : r3 = 0
  · by_cases hz4 : r4 = 0
    · subst hz3 hz4
      obtain ⟨ok3, I3⟩ : okO c vs bs.length = true ∧ IsB w3 a3 n3 c3 (objY c vs bs) := by
        rcases P3 with ⟨h, _, i⟩ | ⟨_, h⟩
        · exact ⟨h, i⟩
        · cases h
      obtain ⟨ok4, J6⟩ : okO d us ds.length = true ∧ IsB w6 a4 n4 c4 (objY d us ds) := by
        rcases P6 with ⟨h, _, i⟩ | ⟨_, h⟩
        · exact ⟨h, i⟩
        · cases h
      have I6 := I3.below B36
      have hPQ0 := str_beq I6.byte J6.byte
      rw [objY_inj ok3 ok4] at hPQ0
      obtain ⟨G, hG⟩ : ∃ G, Hid (alike c d vs us bs ds = G) := ⟨_, rfl⟩
      rw [hG.out] at hPQ0
      obtain ⟨P, hP⟩ : ∃ P, Hid (objY c vs bs = P) := ⟨_, rfl⟩
      obtain ⟨Q, hQ⟩ : ∃ Q, Hid (objY d us ds = Q) := ⟨_, rfl⟩
      rw [hP.out] at I6 hPQ0
      rw [hQ.out] at J6 hPQ0
      have hPQ := hPQ0
      clear hPQ0 I3 P3 P6 ok3 ok4 hP hQ B36
      go_wp2_with fail
      refine wp_region_inv2' (fun A D a w' => ∃ v28 v29 v30 v31 v32 v33 v34 v35 v36 v37 v38 v39 v4, a = (((((((((((((A.put (some 28) v28).put (some 29) v29).put (some 30) v30).put (some 31) v31).put (some 32) v32).put (some 33) v33).put (some 34) v34).put (some 35) v35).put (some 36) v36).put (some 37) v37).put (some 38) v38).put (some 39) v39).put (some 4) v4) ∧ Below w6.heap.size w6 w' ∧ (D 0 → v28 = .slice a3 n3 c3) ∧ (D 1 → v29 = .string (strOfNums P)) ∧ (D 2 → v30 = .slice a4 n4 c4) ∧ (D 3 → v31 = .string (strOfNums Q)) ∧ (D 4 → v32 = .bool G) ∧ (D 5 → v33 = .agg #[.int .i64 c, .slice sa sn sc, .slice ba bn bc]) ∧ (D 6 → v34 = .agg #[.int .i64 d, .slice ta tn tc, .slice ea en ec]) ∧ (D 7 → v35 = .bool G) ∧ (D 8 → v36 = .bool true) ∧ (D 9 → v37 = .bool true) ∧ (D 10 → v38 = .bool true) ∧ (D 11 → v39 = .bool true) ∧ (D 12 → v4 = .bool true)) (by kernel_rfl) (by kernel_rfl) ?mono ?start ?step ?done
      case mono =>
        rintro D D' a w' hD ⟨v28, v29, v30, v31, v32, v33, v34, v35, v36, v37, v38, v39, v4, ha, hB, e0, e1, e2, e3, e4, e5, e6, e7, e8, e9, e10, e11, e12⟩
        exact ⟨v28, v29, v30, v31, v32, v33, v34, v35, v36, v37, v38, v39, v4, ha, hB, fun h => e0 ((hD 0).2 h), fun h => e1 ((hD 1).2 h), fun h => e2 ((hD 2).2 h), fun h => e3 ((hD 3).2 h), fun h => e4 ((hD 4).2 h), fun h => e5 ((hD 5).2 h), fun h => e6 ((hD 6).2 h), fun h => e7 ((hD 7).2 h), fun h => e8 ((hD 8).2 h), fun h => e9 ((hD 9).2 h), fun h => e10 ((hD 10).2 h), fun h => e11 ((hD 11).2 h), fun h => e12 ((hD 12).2 h)⟩
      case start => exact ⟨undef, undef, undef, undef, undef, undef, undef, undef, undef, undef, undef, undef, .bool false, by kernel_rfl, (Below.refl _ _).drew, fun h => h.elim, fun h => h.elim, fun h => h.elim, fun h => h.elim, fun h => h.elim, fun h => h.elim, fun h => h.elim, fun h => h.elim, fun h => h.elim, fun h => h.elim, fun h => h.elim, fun h => h.elim, fun h => h.elim⟩
      case step =>
        intro i o ho D a w' hI hn hcl hd
        obtain ⟨v28, v29, v30, v31, v32, v33, v34, v35, v36, v37, v38, v39, v4, ha, hB, e0, e1, e2, e3, e4, e5, e6, e7, e8, e9, e10, e11, e12⟩ := hI
        match i, ho with
        | 0, ho =>
          cases Option.some.inj ho
          refine ⟨rfl, ?_⟩
          have ev : a.tmps[5]?.getD undef = .slice a3 n3 c3 := by rw [ha]; kernel_rfl
          refine wp_value (w' := w') (v := .slice a3 n3 c3) (by simp [execOp, ev, go_sem]) ?_
          exact ⟨(.slice a3 n3 c3), v29, v30, v31, v32, v33, v34, v35, v36, v37, v38, v39, v4, by rw [ha]; kernel_rfl, hB, fun _ => rfl, fun h => e1 (h.resolve_left (by decide)), fun h => e2 (h.resolve_left (by decide)), fun h => e3 (h.resolve_left (by decide)), fun h => e4 (h.resolve_left (by decide)), fun h => e5 (h.resolve_left (by decide)), fun h => e6 (h.resolve_left (by decide)), fun h => e7 (h.resolve_left (by decide)), fun h => e8 (h.resolve_left (by decide)), fun h => e9 (h.resolve_left (by decide)), fun h => e10 (h.resolve_left (by decide)), fun h => e11 (h.resolve_left (by decide)), fun h => e12 (h.resolve_left (by decide))⟩
        | 1, ho =>
          cases Option.some.inj ho
          refine ⟨rfl, ?_⟩
          have ev : a.tmps[28]?.getD undef = .slice a3 n3 c3 := by rw [ha, e0 (hd ⟨0, .data⟩ (by simp) rfl)]; kernel_rfl
          have hc := (I6.below hB).str
          refine wp_value (w' := w') (v := .string (strOfNums P)) (by simp [execOp, ev, go_sem, hc]) ?_
          exact ⟨v28, (.string (strOfNums P)), v30, v31, v32, v33, v34, v35, v36, v37, v38, v39, v4, by rw [ha]; kernel_rfl, hB, fun h => e0 (h.resolve_left (by decide)), fun _ => rfl, fun h => e2 (h.resolve_left (by decide)), fun h => e3 (h.resolve_left (by decide)), fun h => e4 (h.resolve_left (by decide)), fun h => e5 (h.resolve_left (by decide)), fun h => e6 (h.resolve_left (by decide)), fun h => e7 (h.resolve_left (by decide)), fun h => e8 (h.resolve_left (by decide)), fun h => e9 (h.resolve_left (by decide)), fun h => e10 (h.resolve_left (by decide)), fun h => e11 (h.resolve_left (by decide)), fun h => e12 (h.resolve_left (by decide))⟩
        | 2, ho =>
          cases Option.some.inj ho
          refine ⟨rfl, ?_⟩
          have ev : a.tmps[7]?.getD undef = .slice a4 n4 c4 := by rw [ha]; kernel_rfl
          refine wp_value (w' := w') (v := .slice a4 n4 c4) (by simp [execOp, ev, go_sem]) ?_
          exact ⟨v28, v29, (.slice a4 n4 c4), v31, v32, v33, v34, v35, v36, v37, v38, v39, v4, by rw [ha]; kernel_rfl, hB, fun h => e0 (h.resolve_left (by decide)), fun h => e1 (h.resolve_left (by decide)), fun _ => rfl, fun h => e3 (h.resolve_left (by decide)), fun h => e4 (h.resolve_left (by decide)), fun h => e5 (h.resolve_left (by decide)), fun h => e6 (h.resolve_left (by decide)), fun h => e7 (h.resolve_left (by decide)), fun h => e8 (h.resolve_left (by decide)), fun h => e9 (h.resolve_left (by decide)), fun h => e10 (h.resolve_left (by decide)), fun h => e11 (h.resolve_left (by decide)), fun h => e12 (h.resolve_left (by decide))⟩
        | 3, ho =>
          cases Option.some.inj ho
          refine ⟨rfl, ?_⟩
          have ev : a.tmps[30]?.getD undef = .slice a4 n4 c4 := by rw [ha, e2 (hd ⟨2, .data⟩ (by simp) rfl)]; kernel_rfl
          have hc := (J6.below hB).str
          refine wp_value (w' := w') (v := .string (strOfNums Q)) (by simp [execOp, ev, go_sem, hc]) ?_
          exact ⟨v28, v29, v30, (.string (strOfNums Q)), v32, v33, v34, v35, v36, v37, v38, v39, v4, by rw [ha]; kernel_rfl, hB, fun h => e0 (h.resolve_left (by decide)), fun h => e1 (h.resolve_left (by decide)), fun h => e2 (h.resolve_left (by decide)), fun _ => rfl, fun h => e4 (h.resolve_left (by decide)), fun h => e5 (h.resolve_left (by decide)), fun h => e6 (h.resolve_left (by decide)), fun h => e7 (h.resolve_left (by decide)), fun h => e8 (h.resolve_left (by decide)), fun h => e9 (h.resolve_left (by decide)), fun h => e10 (h.resolve_left (by decide)), fun h => e11 (h.resolve_left (by decide)), fun h => e12 (h.resolve_left (by decide))⟩
        | 4, ho =>
          cases Option.some.inj ho
          refine ⟨rfl, ?_⟩
          have ev : a.tmps[29]?.getD undef = .string (strOfNums P) := by rw [ha, e1 (hd ⟨1, .data⟩ (by simp) rfl)]; kernel_rfl
          have ev' : a.tmps[31]?.getD undef = .string (strOfNums Q) := by rw [ha, e3 (hd ⟨3, .data⟩ (by simp) rfl)]; kernel_rfl
          refine wp_value (w' := w') (v := .bool G) (by simp [execOp, ev, ev', go_sem, hPQ]) ?_
          exact ⟨v28, v29, v30, v31, (.bool G), v33, v34, v35, v36, v37, v38, v39, v4, by rw [ha]; kernel_rfl, hB, fun h => e0 (h.resolve_left (by decide)), fun h => e1 (h.resolve_left (by decide)), fun h => e2 (h.resolve_left (by decide)), fun h => e3 (h.resolve_left (by decide)), fun _ => rfl, fun h => e5 (h.resolve_left (by decide)), fun h => e6 (h.resolve_left (by decide)), fun h => e7 (h.resolve_left (by decide)), fun h => e8 (h.resolve_left (by decide)), fun h => e9 (h.resolve_left (by decide)), fun h => e10 (h.resolve_left (by decide)), fun h => e11 (h.resolve_left (by decide)), fun h => e12 (h.resolve_left (by decide))⟩
        | 5, ho =>
          cases Option.some.inj ho
          refine ⟨rfl, ?_⟩
          have ev : a.tmps[2]?.getD undef = .pointer (some ⟨w.heap.size, 0, none⟩) := by rw [ha]; kernel_rfl
          obtain ⟨z0, z1, z2, zf⟩ := obj_cells ((hB.block _ (lt_of_block E6)).trans E6)
          clear zf
          refine wp_value (w' := w') (v := .agg #[.int .i64 c, .slice sa sn sc, .slice ba bn bc]) (by simp [execOp, ev, go_sem, z0, z1, z2]) ?_
          exact ⟨v28, v29, v30, v31, v32, (.agg #[.int .i64 c, .slice sa sn sc, .slice ba bn bc]), v34, v35, v36, v37, v38, v39, v4, by rw [ha]; kernel_rfl, hB, fun h => e0 (h.resolve_left (by decide)), fun h => e1 (h.resolve_left (by decide)), fun h => e2 (h.resolve_left (by decide)), fun h => e3 (h.resolve_left (by decide)), fun h => e4 (h.resolve_left (by decide)), fun _ => rfl, fun h => e6 (h.resolve_left (by decide)), fun h => e7 (h.resolve_left (by decide)), fun h => e8 (h.resolve_left (by decide)), fun h => e9 (h.resolve_left (by decide)), fun h => e10 (h.resolve_left (by decide)), fun h => e11 (h.resolve_left (by decide)), fun h => e12 (h.resolve_left (by decide))⟩
        | 6, ho =>
          cases Option.some.inj ho
          refine ⟨rfl, ?_⟩
          have ev : a.tmps[3]?.getD undef = .pointer (some ⟨b1, 0, none⟩) := by rw [ha]; kernel_rfl
          obtain ⟨z0, z1, z2, zf⟩ := obj_cells ((hB.block _ (lt_of_block F6)).trans F6)
          clear zf
          refine wp_value (w' := w') (v := .agg #[.int .i64 d, .slice ta tn tc, .slice ea en ec]) (by simp [execOp, ev, go_sem, z0, z1, z2]) ?_
          exact ⟨v28, v29, v30, v31, v32, v33, (.agg #[.int .i64 d, .slice ta tn tc, .slice ea en ec]), v35, v36, v37, v38, v39, v4, by rw [ha]; kernel_rfl, hB, fun h => e0 (h.resolve_left (by decide)), fun h => e1 (h.resolve_left (by decide)), fun h => e2 (h.resolve_left (by decide)), fun h => e3 (h.resolve_left (by decide)), fun h => e4 (h.resolve_left (by decide)), fun h => e5 (h.resolve_left (by decide)), fun _ => rfl, fun h => e7 (h.resolve_left (by decide)), fun h => e8 (h.resolve_left (by decide)), fun h => e9 (h.resolve_left (by decide)), fun h => e10 (h.resolve_left (by decide)), fun h => e11 (h.resolve_left (by decide)), fun h => e12 (h.resolve_left (by decide))⟩
        | 7, ho =>
          cases Option.some.inj ho
          refine ⟨rfl, ?_⟩
          have ev : a.tmps[33]?.getD undef = .agg #[.int .i64 c, .slice sa sn sc, .slice ba bn bc] := by rw [ha, e5 (hd ⟨5, .data⟩ (by simp) rfl)]; kernel_rfl
          have ev' : a.tmps[34]?.getD undef = .agg #[.int .i64 d, .slice ta tn tc, .slice ea en ec] := by rw [ha, e6 (hd ⟨6, .data⟩ (by simp) rfl)]; kernel_rfl
          refine wp_enter (f := 17) (args := #[.agg #[.int .i64 c, .slice sa sn sc, .slice ba bn bc], .agg #[.int .i64 d, .slice ta tn tc, .slice ea en ec]]) (by simp [execOp, ev, ev', go_sem]) ?_
          refine (rsame_to (g6.below hB) (r6.below hB) hG).mono ?_
          rintro e w6 ⟨rfl, HB⟩
          refine ⟨_, rfl, ?_⟩
          exact ⟨v28, v29, v30, v31, v32, v33, v34, (.bool G), v36, v37, v38, v39, v4, by rw [ha]; kernel_rfl, below_size hB hB.size HB, fun h => e0 (h.resolve_left (by decide)), fun h => e1 (h.resolve_left (by decide)), fun h => e2 (h.resolve_left (by decide)), fun h => e3 (h.resolve_left (by decide)), fun h => e4 (h.resolve_left (by decide)), fun h => e5 (h.resolve_left (by decide)), fun h => e6 (h.resolve_left (by decide)), fun _ => rfl, fun h => e8 (h.resolve_left (by decide)), fun h => e9 (h.resolve_left (by decide)), fun h => e10 (h.resolve_left (by decide)), fun h => e11 (h.resolve_left (by decide)), fun h => e12 (h.resolve_left (by decide))⟩
        | 8, ho =>
          cases Option.some.inj ho
          refine ⟨rfl, ?_⟩
          have ev : a.tmps[32]?.getD undef = .bool G := by rw [ha, e4 (hd ⟨4, .data⟩ (by simp) rfl)]; kernel_rfl
          have ev' : a.tmps[35]?.getD undef = .bool G := by rw [ha, e7 (hd ⟨7, .data⟩ (by simp) rfl)]; kernel_rfl
          refine wp_value (w' := w') (v := .bool true) (by simp [execOp, ev, ev', go_sem]) ?_
          exact ⟨v28, v29, v30, v31, v32, v33, v34, v35, (.bool true), v37, v38, v39, v4, by rw [ha]; kernel_rfl, hB, fun h => e0 (h.resolve_left (by decide)), fun h => e1 (h.resolve_left (by decide)), fun h => e2 (h.resolve_left (by decide)), fun h => e3 (h.resolve_left (by decide)), fun h => e4 (h.resolve_left (by decide)), fun h => e5 (h.resolve_left (by decide)), fun h => e6 (h.resolve_left (by decide)), fun h => e7 (h.resolve_left (by decide)), fun _ => rfl, fun h => e9 (h.resolve_left (by decide)), fun h => e10 (h.resolve_left (by decide)), fun h => e11 (h.resolve_left (by decide)), fun h => e12 (h.resolve_left (by decide))⟩
        | 9, ho =>
          cases Option.some.inj ho
          refine ⟨rfl, ?_⟩
          have ev : a.tmps[36]?.getD undef = .bool true := by rw [ha, e8 (hd ⟨8, .data⟩ (by simp) rfl)]; kernel_rfl
          refine wp_value (w' := w') (v := .bool true) (by simp [execOp, ev, go_sem]) ?_
          exact ⟨v28, v29, v30, v31, v32, v33, v34, v35, v36, (.bool true), v38, v39, v4, by rw [ha]; kernel_rfl, hB, fun h => e0 (h.resolve_left (by decide)), fun h => e1 (h.resolve_left (by decide)), fun h => e2 (h.resolve_left (by decide)), fun h => e3 (h.resolve_left (by decide)), fun h => e4 (h.resolve_left (by decide)), fun h => e5 (h.resolve_left (by decide)), fun h => e6 (h.resolve_left (by decide)), fun h => e7 (h.resolve_left (by decide)), fun h => e8 (h.resolve_left (by decide)), fun _ => rfl, fun h => e10 (h.resolve_left (by decide)), fun h => e11 (h.resolve_left (by decide)), fun h => e12 (h.resolve_left (by decide))⟩
        | 10, ho =>
          cases Option.some.inj ho
          refine ⟨by rw [ha, e9 (hd ⟨9, .guard⟩ (by simp) rfl)]; kernel_rfl, ?_⟩
          refine wp_enter (f := 21) (args := #[]) (by simp [execOp, go_sem]) ?_
          refine (known_true w').mono ?_
          rintro e w6 ⟨rfl, HB⟩
          refine ⟨_, rfl, ?_⟩
          exact ⟨v28, v29, v30, v31, v32, v33, v34, v35, v36, v37, (.bool true), v39, v4, by rw [ha]; kernel_rfl, below_size hB hB.size HB, fun h => e0 (h.resolve_left (by decide)), fun h => e1 (h.resolve_left (by decide)), fun h => e2 (h.resolve_left (by decide)), fun h => e3 (h.resolve_left (by decide)), fun h => e4 (h.resolve_left (by decide)), fun h => e5 (h.resolve_left (by decide)), fun h => e6 (h.resolve_left (by decide)), fun h => e7 (h.resolve_left (by decide)), fun h => e8 (h.resolve_left (by decide)), fun h => e9 (h.resolve_left (by decide)), fun _ => rfl, fun h => e11 (h.resolve_left (by decide)), fun h => e12 (h.resolve_left (by decide))⟩
        | 11, ho =>
          cases Option.some.inj ho
          refine ⟨rfl, ?_⟩
          have ev : a.tmps[37]?.getD undef = .bool true := by rw [ha, e9 (hd ⟨9, .data⟩ (by simp) rfl)]; kernel_rfl
          have ev' : a.tmps[38]?.getD undef = .bool true := by rw [ha, e10 (hd ⟨10, .data⟩ (by simp) rfl)]; kernel_rfl
          refine wp_value (w' := w') (v := .bool true) (by simp [execOp, ev, ev', go_sem]) ?_
          exact ⟨v28, v29, v30, v31, v32, v33, v34, v35, v36, v37, v38, (.bool true), v4, by rw [ha]; kernel_rfl, hB, fun h => e0 (h.resolve_left (by decide)), fun h => e1 (h.resolve_left (by decide)), fun h => e2 (h.resolve_left (by decide)), fun h => e3 (h.resolve_left (by decide)), fun h => e4 (h.resolve_left (by decide)), fun h => e5 (h.resolve_left (by decide)), fun h => e6 (h.resolve_left (by decide)), fun h => e7 (h.resolve_left (by decide)), fun h => e8 (h.resolve_left (by decide)), fun h => e9 (h.resolve_left (by decide)), fun h => e10 (h.resolve_left (by decide)), fun _ => rfl, fun h => e12 (h.resolve_left (by decide))⟩
        | 12, ho =>
          cases Option.some.inj ho
          refine ⟨rfl, ?_⟩
          have ev : a.tmps[39]?.getD undef = .bool true := by rw [ha, e11 (hd ⟨11, .data⟩ (by simp) rfl)]; kernel_rfl
          refine wp_value (w' := w') (v := .bool true) (by simp [execOp, ev, go_sem]) ?_
          exact ⟨v28, v29, v30, v31, v32, v33, v34, v35, v36, v37, v38, v39, (.bool true), by rw [ha]; kernel_rfl, hB, fun h => e0 (h.resolve_left (by decide)), fun h => e1 (h.resolve_left (by decide)), fun h => e2 (h.resolve_left (by decide)), fun h => e3 (h.resolve_left (by decide)), fun h => e4 (h.resolve_left (by decide)), fun h => e5 (h.resolve_left (by decide)), fun h => e6 (h.resolve_left (by decide)), fun h => e7 (h.resolve_left (by decide)), fun h => e8 (h.resolve_left (by decide)), fun h => e9 (h.resolve_left (by decide)), fun h => e10 (h.resolve_left (by decide)), fun h => e11 (h.resolve_left (by decide)), fun _ => rfl⟩
        | i + 13, ho => simp at ho
      case done =>
        rintro D a w' ⟨v28, v29, v30, v31, v32, v33, v34, v35, v36, v37, v38, v39, v4, ha, hB, e0, e1, e2, e3, e4, e5, e6, e7, e8, e9, e10, e11, e12⟩ hall
        have hBf := below_size B6 B6.size hB
        obtain rfl := e0 (hall 0 (by decide))
        obtain rfl := e1 (hall 1 (by decide))
        obtain rfl := e2 (hall 2 (by decide))
        obtain rfl := e3 (hall 3 (by decide))
        obtain rfl := e4 (hall 4 (by decide))
        obtain rfl := e5 (hall 5 (by decide))
        obtain rfl := e6 (hall 6 (by decide))
        obtain rfl := e7 (hall 7 (by decide))
        obtain rfl := e8 (hall 8 (by decide))
        obtain rfl := e9 (hall 9 (by decide))
        obtain rfl := e10 (hall 10 (by decide))
        obtain rfl := e11 (hall 11 (by decide))
        obtain rfl := e12 (hall 12 (by decide))
        clear hB hall e0 e1 e2 e3 e4 e5 e6 e7 e8 e9 e10 e11 e12
        rw [ha]
        clear ha
        simp only [Act.put, List.setIfInBounds_toArray, List.set_cons_zero, List.set_cons_succ]
        go_wp2
        go_ret
        exact ⟨rfl, hBf⟩
    · have hz5 : (r4 == 0) = false := by simp; omega
      subst hz3
      clear P3 P6 g6 r6 B36
      go_wp2_with fail
      refine (known_true w6).mono ?_
      rintro e w7 ⟨rfl, B7⟩
      have B7' := below_size B6 B6.size B7
      go_wp2
      go_ret
      exact ⟨rfl, B7'⟩
  · have hz5 : (r3 == 0) = false := by simp; omega
    clear P3 P6 g6 r6 B36
    go_wp2_with fail
    refine (known_true w6).mono ?_
    rintro e w7 ⟨rfl, B7⟩
    have B7' := below_size B6 B6.size B7
    go_wp2
    go_ret
    exact ⟨rfl, B7'⟩
end Go.Proofs.Ytjfaflmmanjjbaa
