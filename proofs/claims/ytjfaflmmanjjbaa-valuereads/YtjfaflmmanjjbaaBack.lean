/- What is written is read. -/
import Derived.Test.YtjfaflmmanjjbaaKnow
namespace Go.Proofs.Ytjfaflmmanjjbaa
open Go.RowKit
set_option maxRecDepth 100000
theorem uR_uvar {n : Nat} (h : n < 18446744073709551616) (ys : List Int) : uR (some (uvar n ++ ys)) = (n, some ys) := by
  unfold uR
  rw [Option.getD_some, rd_uvar n h ys]
  simp only [if_true]
  rw [← uvar_length n h, List.drop_left]
theorem nR_uvar {m n : Nat} (h : n < 18446744073709551616) (hm : n ≤ m) (ys : List Int) : nR m (some (uvar n ++ ys)) = (n, some ys) := by
  unfold nR
  rw [uR_uvar h]
  exact if_neg (by show ¬ m < n; omega)
theorem slotR_val {k n : Int} (h : okV k n = true) (ys : List Int) : slotR (some (valB k n ++ ys)) = ((k, n), some ys) := by
  have hk := okV_kind h
  have ho : oR (some (valB k n ++ ys)) = (k, some ((if k = 3 then uvar (zz n).toNat else if k = 4 then uvar n.toNat else []) ++ ys)) := rfl
  unfold slotR
  rw [ho]
  dsimp only
  by_cases h0 : k = 0 ∨ k = 1 ∨ k = 2
  · rw [if_pos h0, if_neg (by omega), if_neg (by omega)]
    rw [okV0 h0] at h
    have : n = 0 := by simpa using h
    subst this
    rfl
  · rw [if_neg h0]
    by_cases h3 : k = 3
    · subst h3
      have hn := okV_num3 h
      obtain ⟨hz, hzl⟩ := zz_nat (n := n) (by omega)
      rw [if_pos rfl, if_pos rfl, uR_uvar hzl]
      dsimp only
      rw [← hz, unzz_zz]
    · rw [if_neg h3, if_neg h3]
      have h4 : k = 4 := by omega
      subst h4
      have hn := okV_num4 h
      rw [if_pos rfl, if_pos rfl, nR_uvar (by omega) (by omega)]
      dsimp only
      rw [Int.toNat_of_nonneg (by omega)]
theorem slotsR_vals : ∀ {vs : List (Int × Int)} (_ : okVs vs = true) (ys : List Int), slotsR vs.length (some (valsB vs ++ ys)) = (vs, some ys)
  | [], _, ys => rfl
  | v :: t, h, ys => by
    unfold okVs at h
    rw [List.all_cons, Bool.and_eq_true] at h
    have e : valsB (v :: t) ++ ys = valB v.1 v.2 ++ (valsB t ++ ys) := by
      show (valB v.1 v.2 ++ valsB t) ++ ys = _
      rw [List.append_assoc]
    rw [e, List.length_cons, slotsR_go (slotR_val h.1 _), slotsR_vals (vs := t) h.2]
theorem tR_text {bs : List Int} (h : bs.length ≤ 60000) : tR (some (textB bs)) = (bs, some []) := by
  have := rtx_text bs [] h
  rw [List.append_nil] at this
  unfold tR
  rw [Option.getD_some, this]
  simp
theorem objR_objY {c : Int} {vs : List (Int × Int)} {bs : List Int} (h : okO c vs bs.length = true) : objR (some (objY c vs bs)) = (c, vs, bs, some []) := by
  obtain ⟨hc, hn, hbn, hvs⟩ := okO_parts h
  have e1 : nR 4096 (some (objY c vs bs)) = (c.toNat, some (uvar vs.length ++ (valsB vs ++ textB bs))) := nR_uvar (by omega) (by omega) _
  have e2 : nR 256 (some (uvar vs.length ++ (valsB vs ++ textB bs))) = (vs.length, some (valsB vs ++ textB bs)) := nR_uvar (by omega) hn _
  unfold objR
  rw [e1]
  dsimp only
  rw [e2]
  dsimp only
  rw [slotsR_vals hvs]
  dsimp only
  rw [tR_text (by omega), Int.toNat_of_nonneg (by omega)]
theorem okG_objY {c : Int} {vs : List (Int × Int)} {bs : List Int} (h : okO c vs bs.length = true) : okG (objY c vs bs) = true := by
  unfold okG
  rw [objR_objY h]
  simp [h]
theorem objY_inj {c d : Int} {vs us : List (Int × Int)} {bs ds : List Int} (h1 : okO c vs bs.length = true) (h2 : okO d us ds.length = true) : (decide (objY c vs bs = objY d us ds)) = alike c d vs us bs ds := by
  by_cases e : objY c vs bs = objY d us ds
  · rw [decide_eq_true e]
    have k := objR_objY h1
    rw [e, objR_objY h2] at k
    simp only [Prod.mk.injEq, and_true] at k
    obtain ⟨rfl, rfl, rfl⟩ := k
    simp [alike]
  · rw [decide_eq_false e, alike_no]
    rintro ⟨rfl, rfl, rfl⟩
    exact e rfl
set_option maxHeartbeats 1000000 in
theorem rput_ok {w : World} {c : Int} {sa ba : Option Addr} {sn sc bn bc : Nat} {vs : List (Int × Int)} {bs : List Int} (h : IsO w c sa sn sc ba bn bc vs bs) (hok : okO c vs bn = true) :
    Calls Try.prog 23 #[.agg #[.int .i64 c, .slice sa sn sc, .slice ba bn bc]] w fun e w' => ∃ v, e = .returned (.tuple #[v, .int .i64 0]) ∧ OwnB w' w.heap.size v (objY c vs bs) ∧ Below w.heap.size w w' := by
  have hbm := h.b.most
  have hbr := h.b.room
  go_enter Try.func23, Try.ntmps23
  go_wp2_with fail
  refine (rrightObj_any c (h.below box_below).v (by omega)).mono ?_
  rintro e w2 ⟨rfl, B2⟩
  rw [hok]
  have B3 : Below w.heap.size w w2 := below_size box_below box_below.size B2
  have E3 := (B2.block w.heap.size (by simp)).trans (new1 w (objB c (.slice sa sn sc) (.slice ba bn bc)))
  obtain ⟨z0, z1, z2, zf⟩ := obj_cells E3
  clear B2
  go_wp2_with fail
  refine (rbytes_any (h.below B3) hok).mono ?_
  rintro e w5 ⟨v, rfl, O5, G5⟩
  have B6 := below_size B3 B3.size G5
  replace O5 := O5.mono B3.size
  obtain ⟨a, n, cc, rfl⟩ := O5.shape'
  clear z0 z1 z2 zf E3 G5
  go_wp2
  go_ret2
  exact ⟨_, rfl, O5, B6⟩
theorem rput_no {w : World} {c : Int} {sa ba : Option Addr} {sn sc bn bc : Nat} {vs : List (Int × Int)} {bs : List Int} (h : IsO w c sa sn sc ba bn bc vs bs) (hok : okO c vs bn = false) :
    Calls Try.prog 23 #[.agg #[.int .i64 c, .slice sa sn sc, .slice ba bn bc]] w fun e w' => e = .returned (.tuple #[.slice none 0 0, .int .i64 1]) ∧ Below w.heap.size w w' := by
  have hbm := h.b.most
  have hbr := h.b.room
  go_enter Try.func23, Try.ntmps23
  go_wp2_with fail
  refine (rrightObj_any c (h.below box_below).v (by omega)).mono ?_
  rintro e w2 ⟨rfl, B2⟩
  rw [hok]
  have B3 : Below w.heap.size w w2 := below_size box_below box_below.size B2
  clear B2
  go_wp2
  go_ret2
  exact ⟨rfl, B3⟩
end Go.Proofs.Ytjfaflmmanjjbaa
