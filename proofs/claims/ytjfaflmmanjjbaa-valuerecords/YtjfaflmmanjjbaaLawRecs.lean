/- A record's bytes, read again. -/
import Derived.Test.YtjfaflmmanjjbaaGetR
import Derived.Test.YtjfaflmmanjjbaaBack
import Derived.Test.YtjfaflmmanjjbaaRPutR
import Derived.Test.YtjfaflmmanjjbaaRRightR
import Derived.Test.YtjfaflmmanjjbaaKnow
import Derived.Test.YtjfaflmmanjjbaaOpenO
import Derived.Test.YtjfaflmmanjjbaaRec
namespace Go.Proofs.Ytjfaflmmanjjbaa
open Go.RowKit
set_option maxRecDepth 100000
theorem tR_textL {bs : List Int} (h : bs.length ≤ 60000) (ys : List Int) : tR (some (textB bs ++ ys)) = (bs, some ys) := by
  have := rtx_text bs ys h
  unfold tR
  rw [Option.getD_some, this]
  simp
theorem objR_objYL {c : Int} {vs : List (Int × Int)} {bs : List Int} (h : okO c vs bs.length = true) (ys : List Int) : objR (some (objY c vs bs ++ ys)) = (c, vs, bs, some ys) := by
  obtain ⟨hc, hn, hbn, hvs⟩ := okO_parts h
  have e0 : objY c vs bs ++ ys = uvar c.toNat ++ (uvar vs.length ++ (valsB vs ++ (textB bs ++ ys))) := by unfold objY; simp only [List.append_assoc]
  have e1 : nR 4096 (some (objY c vs bs ++ ys)) = (c.toNat, some (uvar vs.length ++ (valsB vs ++ (textB bs ++ ys)))) := by rw [e0]; exact nR_uvar (by omega) (by omega) _
  have e2 : nR 256 (some (uvar vs.length ++ (valsB vs ++ (textB bs ++ ys)))) = (vs.length, some (valsB vs ++ (textB bs ++ ys))) := nR_uvar (by omega) hn _
  unfold objR
  rw [e1]
  dsimp only
  rw [e2]
  dsimp only
  rw [slotsR_vals hvs]
  dsimp only
  rw [tR_textL (by omega), Int.toNat_of_nonneg (by omega)]
theorem okCh_gone {c : Int} {vs : List (Int × Int)} {bs : List Int} (h : okCh true c vs bs = true) : c = 0 ∧ vs = [] ∧ bs = [] := by
  simpa [okCh, alike, and_assoc] using h
theorem chR_chB {x : Ch} (ho : 0 < x.oop ∧ x.oop ≤ 4096) (h : okCh x.gone x.cls x.vs x.bs = true) (ys : List Int) : chR (some (chB x.oop x.gone x.cls x.vs x.bs ++ ys)) = (x, some ys) := by
  obtain ⟨o, g, c, vs, bs⟩ := x
  dsimp only at ho h ⊢
  have ht : ((o.toNat : Nat) : Int) = o := Int.toNat_of_nonneg (by omega)
  cases g with
  | true =>
    obtain ⟨rfl, rfl, rfl⟩ := okCh_gone h
    have e0 : chB o true 0 [] [] ++ ys = uvar o.toNat ++ (1 :: ys) := by unfold chB; simp
    have e1 : nR 4096 (some (chB o true 0 [] [] ++ ys)) = (o.toNat, some (1 :: ys)) := by rw [e0]; exact nR_uvar (by omega) (by omega) _
    unfold chR
    rw [e1]
    dsimp only
    rw [show oR (some (1 :: ys)) = (1, some ys) from rfl, ht]
    rfl
  | false =>
    have h' : okO c vs bs.length = true := h
    have e0 : chB o false c vs bs ++ ys = uvar o.toNat ++ (0 :: (objY c vs bs ++ ys)) := by unfold chB; simp
    have e1 : nR 4096 (some (chB o false c vs bs ++ ys)) = (o.toNat, some (0 :: (objY c vs bs ++ ys))) := by rw [e0]; exact nR_uvar (by omega) (by omega) _
    unfold chR
    rw [e1]
    dsimp only
    rw [show oR (some (0 :: (objY c vs bs ++ ys))) = (0, some (objY c vs bs ++ ys)) from rfl, ht]
    dsimp only
    rw [objR_objYL h']
    rfl
theorem chsR_chsB : ∀ (xs : List Ch) (ys : List Int), (∀ x ∈ xs, 0 < x.oop ∧ x.oop ≤ 4096 ∧ okCh x.gone x.cls x.vs x.bs = true) → chsR xs.length (some (chsB xs ++ ys)) = (xs, some ys)
  | [], ys, _ => rfl
  | x :: t, ys, h => by
    have hx := h x (by simp)
    have e : chsB (x :: t) ++ ys = chB x.oop x.gone x.cls x.vs x.bs ++ (chsB t ++ ys) := by
      show (chB x.oop x.gone x.cls x.vs x.bs ++ chsB t) ++ ys = _
      rw [List.append_assoc]
    rw [e, List.length_cons, chsR_go (chR_chB ⟨hx.1, hx.2.1⟩ hx.2.2 _), chsR_chsB t ys (fun z hz => h z (by simp [hz]))]
theorem recR_recY {c : Int} {xs : List Ch} (h : okR c xs = true) : recR (some (recY c xs)) = (c, xs, some []) := by
  obtain ⟨hc, hn, hl⟩ := okR_parts h
  have hx := okL_all hl (by omega)
  have e0 : recY c xs = uvar c.toNat ++ (uvar xs.length ++ (chsB xs ++ [])) := by unfold recY; simp
  have e1 : nR 1099511627776 (some (recY c xs)) = (c.toNat, some (uvar xs.length ++ (chsB xs ++ []))) := by rw [e0]; exact nR_uvar (by omega) (by omega) _
  have e2 : nR 4096 (some (uvar xs.length ++ (chsB xs ++ []))) = (xs.length, some (chsB xs ++ [])) := nR_uvar (by omega) (by omega) _
  unfold recR
  rw [e1]
  dsimp only
  rw [e2]
  dsimp only
  rw [chsR_chsB xs [] hx, Int.toNat_of_nonneg (by omega)]
theorem okGR_recY {c : Int} {xs : List Ch} (h : okR c xs = true) : okGR (recY c xs) = true := by
  unfold okGR
  rw [recR_recY h]
  simp [h]
end Go.Proofs.Ytjfaflmmanjjbaa
namespace Go.Proofs.Ytjfaflmmanjjbaa
open Go.RowKit
set_option maxRecDepth 100000
def perr (c : Int) (xs : List Ch) : Int := if okR c xs = true then (if 60000 < (recY c xs).length then 3 else 0) else 1
def pbytes (c : Int) (xs : List Ch) : List Int := if perr c xs = 0 then recY c xs else []
theorem isB_nilR (w : World) : IsB w none 0 0 [] := ⟨rfl, Nat.le_refl _, by decide, fun _ => rfl, by simp, fun h => absurd h (by decide)⟩
theorem PutP.out {w w' : World} {c : Int} {xs : List Ch} {e : Ending} (h : PutP w c xs e w') : ∃ a n cc, e = .returned (.tuple #[.slice a n cc, .int .i64 (perr c xs)]) ∧ IsB w' a n cc (pbytes c xs) ∧ Below w.heap.size w w' := by
  obtain ⟨h, B⟩ := h
  rcases h with ⟨h1, rfl⟩ | ⟨h1, h2, rfl⟩ | ⟨h1, h2, v, rfl, O⟩
  · have e : perr c xs = 1 := by unfold perr; rw [h1]; rfl
    exact ⟨none, 0, 0, by rw [e], by unfold pbytes; rw [e]; exact isB_nilR _, B⟩
  · have e : perr c xs = 3 := by unfold perr; rw [if_pos h1, if_pos h2]
    exact ⟨none, 0, 0, by rw [e], by unfold pbytes; rw [e]; exact isB_nilR _, B⟩
  · have e : perr c xs = 0 := by unfold perr; rw [if_pos h1, if_neg (by omega)]
    obtain ⟨a, n, cc, rfl⟩ := O.shape'
    exact ⟨a, n, cc, by rw [e], by unfold pbytes; rw [if_pos e]; exact O.isB, B⟩
theorem perr_zero {c : Int} {xs : List Ch} (h : perr c xs = 0) : okR c xs = true ∧ pbytes c xs = recY c xs ∧ (pbytes c xs).length ≤ 60000 := by
  have e : pbytes c xs = recY c xs := by unfold pbytes; rw [if_pos h]
  unfold perr at h
  split at h
  · next h1 =>
    split at h
    · cases h
    · next h2 => exact ⟨h1, e, by rw [e]; omega⟩
  · cases h
/-- What the operations yield. -/
def recsV (c er : Int) (ja ga xa ya ta : Option Addr) (jn jc gn gc xn xc yn yc tn tc : Nat) (q1 : Bool) (X : List Int) (j : Nat) : Value :=
  ([.slice xa xn xc,
    .string (strOfNums X),
    .slice ya yn yc,
    .string (strOfNums X),
    .bool false,
    .bool false,
    .int .i64 er,
    .int .i64 er,
    .bool false,
    .bool false,
    .bool false,
    .agg #[.int .i64 c, .slice ga gn gc],
    .bool q1,
    .agg #[.int .i64 c, .slice ja jn jc],
    .bool q1,
    .bool false,
    .bool false,
    .bool false,
    .agg #[.int .i64 c, .slice ga gn gc],
    .agg #[.int .i64 c, .slice ta tn tc],
    .agg #[.int .i64 c, .slice ja jn jc],
    .bool true,
    .bool false,
    .bool false] : List Value).getD j undef
theorem recsV_list {l : List Value} (hh : l.length = 24) : ∃ v0 v1 v2 v3 v4 v5 v6 v7 v8 v9 v10 v11 v12 v13 v14 v15 v16 v17 v18 v19 v20 v21 v22 v23, l = [v0, v1, v2, v3, v4, v5, v6, v7, v8, v9, v10, v11, v12, v13, v14, v15, v16, v17, v18, v19, v20, v21, v22, v23] := by
  obtain ⟨v0, t0, rfl, h0⟩ := cons_of hh
  obtain ⟨v1, t1, rfl, h1⟩ := cons_of h0
  obtain ⟨v2, t2, rfl, h2⟩ := cons_of h1
  obtain ⟨v3, t3, rfl, h3⟩ := cons_of h2
  obtain ⟨v4, t4, rfl, h4⟩ := cons_of h3
  obtain ⟨v5, t5, rfl, h5⟩ := cons_of h4
  obtain ⟨v6, t6, rfl, h6⟩ := cons_of h5
  obtain ⟨v7, t7, rfl, h7⟩ := cons_of h6
  obtain ⟨v8, t8, rfl, h8⟩ := cons_of h7
  obtain ⟨v9, t9, rfl, h9⟩ := cons_of h8
  obtain ⟨v10, t10, rfl, h10⟩ := cons_of h9
  obtain ⟨v11, t11, rfl, h11⟩ := cons_of h10
  obtain ⟨v12, t12, rfl, h12⟩ := cons_of h11
  obtain ⟨v13, t13, rfl, h13⟩ := cons_of h12
  obtain ⟨v14, t14, rfl, h14⟩ := cons_of h13
  obtain ⟨v15, t15, rfl, h15⟩ := cons_of h14
  obtain ⟨v16, t16, rfl, h16⟩ := cons_of h15
  obtain ⟨v17, t17, rfl, h17⟩ := cons_of h16
  obtain ⟨v18, t18, rfl, h18⟩ := cons_of h17
  obtain ⟨v19, t19, rfl, h19⟩ := cons_of h18
  obtain ⟨v20, t20, rfl, h20⟩ := cons_of h19
  obtain ⟨v21, t21, rfl, h21⟩ := cons_of h20
  obtain ⟨v22, t22, rfl, h22⟩ := cons_of h21
  obtain ⟨v23, t23, rfl, h23⟩ := cons_of h22
  obtain rfl := List.eq_nil_of_length_eq_zero h23
  exact ⟨_, _, _, _, _, _, _, _, _, _, _, _, _, _, _, _, _, _, _, _, _, _, _, _, rfl⟩
/-- What the operations yield. -/
def recsW (c : Int) (ja za ta : Option Addr) (jn jc zn zc tn tc : Nat) (j : Nat) : Value :=
  ([.int .i64 0,
    .bool true,
    .bool true,
    .agg #[.int .i64 c, .slice za zn zc],
    .agg #[.int .i64 c, .slice ta tn tc],
    .agg #[.int .i64 c, .slice ja jn jc],
    .bool true,
    .bool true,
    .bool true,
    .bool true,
    .bool true] : List Value).getD j undef
theorem recsW_list {l : List Value} (hh : l.length = 11) : ∃ v0 v1 v2 v3 v4 v5 v6 v7 v8 v9 v10, l = [v0, v1, v2, v3, v4, v5, v6, v7, v8, v9, v10] := by
  obtain ⟨v0, t0, rfl, h0⟩ := cons_of hh
  obtain ⟨v1, t1, rfl, h1⟩ := cons_of h0
  obtain ⟨v2, t2, rfl, h2⟩ := cons_of h1
  obtain ⟨v3, t3, rfl, h3⟩ := cons_of h2
  obtain ⟨v4, t4, rfl, h4⟩ := cons_of h3
  obtain ⟨v5, t5, rfl, h5⟩ := cons_of h4
  obtain ⟨v6, t6, rfl, h6⟩ := cons_of h5
  obtain ⟨v7, t7, rfl, h7⟩ := cons_of h6
  obtain ⟨v8, t8, rfl, h8⟩ := cons_of h7
  obtain ⟨v9, t9, rfl, h9⟩ := cons_of h8
  obtain ⟨v10, t10, rfl, h10⟩ := cons_of h9
  obtain rfl := List.eq_nil_of_length_eq_zero h10
  exact ⟨_, _, _, _, _, _, _, _, _, _, _, rfl⟩
set_option maxHeartbeats 8000000 in
theorem records_law {w : World} (c : Int) {ja : Option Addr} {jn jc : Nat} {xs : List Ch} (h : IsC w ja jn jc xs) (hnn : jn ≤ 1954687338264) (hpart : ∀ x ∈ xs, x.vs.length ≤ 8796093022208 ∧ x.bs.length ≤ 140737488355328) :
    Calls Try.prog 6 #[.agg #[.int .i64 c, .slice ja jn jc]] w fun e w' => e = .returned (.bool true) ∧ Below w.heap.size w w' := by
  have hsz0 := h.size
  have E1 := new1 w (recB c (.slice ja jn jc) 49)
  have k1 := h.below (box_below (o := recB c (.slice ja jn jc) 49))
  have B1 : Below w.heap.size w (w.alloc (recB c (.slice ja jn jc) 49)) := box_below
  unfold recB at E1 k1 B1
  go_enter Try.func6, Try.ntmps6
  go_wp2_with fail
  replace E1 : _ = some (recB c (.slice ja jn jc) 49) := E1
  generalize w.alloc (.cells #[.int .i64 c, .slice ja jn jc] 49) = w1 at *
  obtain ⟨b1, hb1⟩ : ∃ b, b = w.heap.size := ⟨_, rfl⟩
  rw [← hb1] at E1 ⊢
  clear hb1
  refine (given_any c k1 hnn hpart).mono ?_
  rintro e w2 ⟨ga, gn, gc, rfl, OG, B2⟩
  have hgn : gn ≤ 1954687338264 := by obtain ⟨_, _, _, e, k⟩ := OG.shape'; cases e; omega
  replace OG := OG.below (box_below (o := recB c (.slice ga gn gc) 52))
  have E3 := new1 w2 (recB c (.slice ga gn gc) 52)
  replace E1 := old1 ((B2.block _ (lt_of_block E1)).trans E1) (recB c (.slice ga gn gc) 52)
  have k2 := (k1.below B2).below (box_below (o := recB c (.slice ga gn gc) 52))
  have B3 := below_size (below_size B1 B1.size B2) (below_size B1 B1.size B2).size (box_below (o := recB c (.slice ga gn gc) 52))
  clear B1 B2 k1
  unfold recB at E3 E1 k2 B3 OG
  go_wp2_with fail
  replace E3 : _ = some (recB c (.slice ga gn gc) 52) := E3
  replace E1 : _ = some (recB c (.slice ja jn jc) 49) := E1
  generalize w2.alloc (.cells #[.int .i64 c, .slice ga gn gc] 52) = w3 at *
  generalize w2.heap.size = b3 at *
  obtain ⟨er, hEr⟩ : ∃ er, Hid (perr c xs = er) := ⟨_, rfl⟩
  obtain ⟨X, hX⟩ : ∃ X, Hid (pbytes c xs = X) := ⟨_, rfl⟩
  have hXz : er = 0 → okR c xs = true ∧ X = recY c xs ∧ X.length ≤ 60000 := fun h => by
    have := perr_zero (hEr.out.trans h)
    rw [hX.out] at this
    exact this
  refine (putRecord_any c OG.isC).mono ?_
  intro e w4 hP
  obtain ⟨xa, xn, xc, rfl, IX, B4⟩ := hP.out
  rw [hEr.out]
  rw [hX.out] at IX
  clear hP
  replace E1 := (B4.block _ (lt_of_block E1)).trans E1
  replace E3 := (B4.block _ (lt_of_block E3)).trans E3
  replace OG := OG.below B4
  replace k2 := k2.below B4
  replace B3 := below_size B3 B3.size B4
  clear B4
  go_upto_region 3 with fail
  obtain ⟨z0, z1⟩ := rec_cells E1
  go_wp2_with fail
  clear z0 z1
  refine (rputRecord_any c k2).mono ?_
  intro e wq hP
  obtain ⟨ya, yn, yc, rfl, IY, B5⟩ := hP.out
  rw [hEr.out]
  rw [hX.out] at IY
  clear hP
  replace E1 := (B5.block _ (lt_of_block E1)).trans E1
  replace E3 := (B5.block _ (lt_of_block E3)).trans E3
  replace OG := OG.below B5
  replace IX := IX.below B5
  have IA := k2.below B5
  have Bq := below_size B3 B3.size B5
  clear B5 k2 B3
  obtain ⟨q1, hq1⟩ : ∃ q, Hid (okR c xs = q) := ⟨_, rfl⟩
  have c32 : ∀ w' : World, IsC w' ga gn gc xs → Calls Try.prog 32 #[.agg #[.int .i64 c, .slice ga gn gc]] w' fun e w'' => e = .returned (.bool q1) ∧ Below w'.heap.size w' w'' := fun w' h => by have h := rightRecord_any c h; rw [hq1.out] at h; exact h
  have c33 : ∀ w' : World, IsC w' ja jn jc xs → Calls Try.prog 33 #[.agg #[.int .i64 c, .slice ja jn jc]] w' fun e w'' => e = .returned (.bool q1) ∧ Below w'.heap.size w' w'' := fun w' h => by have h := rrightRecord_any c h; rw [hq1.out] at h; exact h
  go_upto_region 4 with fail
  refine abstract_act fun A hA => ?_
  have hsz : A.tmps.size = 65 := by rw [hA]; rfl
  have s1 : A.tmps[1]? = some (.pointer (some ⟨b1, 0, none⟩)) := by rw [hA]; rfl
  have s3 : A.tmps[3]? = some (.pointer (some ⟨b3, 0, none⟩)) := by rw [hA]; rfl
  have s4 : A.tmps[4]? = some (.slice xa xn xc) := by rw [hA]; rfl
  have s5 : A.tmps[5]? = some (.int .i64 er) := by rw [hA]; rfl
  have s6 : A.tmps[6]? = some (.slice ya yn yc) := by rw [hA]; rfl
  have s7 : A.tmps[7]? = some (.int .i64 er) := by rw [hA]; rfl
  refine wp_region_inv2' (fun A D a w' => ∃ (l : List Value) (ta : Option Addr) (tn : Nat) (tc : Nat), a = putAll A 22 l ∧ l.length = 24 ∧ Below wq.heap.size wq w' ∧ (∀ j, j < 24 → D j → l[j]? = some (recsV c er ja ga xa ya ta jn jc gn gc xn xc yn yc tn tc q1 X j)) ∧ (D 19 → OwnC w' wq.heap.size 76 (.slice ta tn tc) xs)) (by kernel_rfl) (by kernel_rfl) ?mono ?start ?step ?done
  case mono =>
    rintro D D' a w' hD ⟨l, ta, tn, tc, ha, hlen, hB, hl, hrt⟩
    exact ⟨l, ta, tn, tc, ha, hlen, hB, fun j hj h => hl j hj ((hD j).2 h), fun h => hrt ((hD 19).2 h)⟩
  case start => exact ⟨_, none, 0, 0, (putAll_start A 22 24 (by omega)).1, (putAll_start A 22 24 (by omega)).2, (Below.refl _ _).drew, fun _ _ h => h.elim, fun h => h.elim⟩
  case step =>
    clear hA
    intro i o ho D a w' hI hn hcl hd
    obtain ⟨l, ta, tn, tc, ha, hlen, hB, hl, hrt⟩ := hI
    match i, ho with
    | 0, ho =>
      cases Option.some.inj ho
      refine ⟨rfl, ?_⟩
      have ev : a.tmps[4]? = some (.slice xa xn xc) := by rw [ha, putAll_low A 22 4 l (by omega) (by decide)]; exact s4
      refine wp_value (w' := w') (v := .slice xa xn xc) (by simp [execOp, ev, go_sem]) ?_
      exact ⟨_, ta, tn, tc, by rw [ha]; exact putAll_put A 22 0 l _ (by omega) (by omega), by rw [List.length_set]; exact hlen, hB, set_known hlen (by decide) hl, fun h => (hrt (h.resolve_left (by decide)))⟩
    | 1, ho =>
      cases Option.some.inj ho
      refine ⟨rfl, ?_⟩
      have ev : a.tmps[22]? = some (.slice xa xn xc) := known_at ha hsz hlen hl 0 (by decide) (hd ⟨0, .data⟩ (by simp) rfl)
      refine wp_value (w' := w') (v := .string (strOfNums X)) (by simp [execOp, ev, go_sem, (IX.below hB).str]) ?_
      exact ⟨_, ta, tn, tc, by rw [ha]; exact putAll_put A 22 1 l _ (by omega) (by omega), by rw [List.length_set]; exact hlen, hB, set_known hlen (by decide) hl, fun h => (hrt (h.resolve_left (by decide)))⟩
    | 2, ho =>
      cases Option.some.inj ho
      refine ⟨rfl, ?_⟩
      have ev : a.tmps[6]? = some (.slice ya yn yc) := by rw [ha, putAll_low A 22 6 l (by omega) (by decide)]; exact s6
      refine wp_value (w' := w') (v := .slice ya yn yc) (by simp [execOp, ev, go_sem]) ?_
      exact ⟨_, ta, tn, tc, by rw [ha]; exact putAll_put A 22 2 l _ (by omega) (by omega), by rw [List.length_set]; exact hlen, hB, set_known hlen (by decide) hl, fun h => (hrt (h.resolve_left (by decide)))⟩
    | 3, ho =>
      cases Option.some.inj ho
      refine ⟨rfl, ?_⟩
      have ev : a.tmps[24]? = some (.slice ya yn yc) := known_at ha hsz hlen hl 2 (by decide) (hd ⟨2, .data⟩ (by simp) rfl)
      refine wp_value (w' := w') (v := .string (strOfNums X)) (by simp [execOp, ev, go_sem, (IY.below hB).str]) ?_
      exact ⟨_, ta, tn, tc, by rw [ha]; exact putAll_put A 22 3 l _ (by omega) (by omega), by rw [List.length_set]; exact hlen, hB, set_known hlen (by decide) hl, fun h => (hrt (h.resolve_left (by decide)))⟩
    | 4, ho =>
      cases Option.some.inj ho
      refine ⟨rfl, ?_⟩
      have ev : a.tmps[23]? = some (.string (strOfNums X)) := known_at ha hsz hlen hl 1 (by decide) (hd ⟨1, .data⟩ (by simp) rfl)
      have ev' : a.tmps[25]? = some (.string (strOfNums X)) := known_at ha hsz hlen hl 3 (by decide) (hd ⟨3, .data⟩ (by simp) rfl)
      refine wp_value (w' := w') (v := .bool false) (by simp [execOp, ev, ev', go_sem]) ?_
      exact ⟨_, ta, tn, tc, by rw [ha]; exact putAll_put A 22 4 l _ (by omega) (by omega), by rw [List.length_set]; exact hlen, hB, set_known hlen (by decide) hl, fun h => (hrt (h.resolve_left (by decide)))⟩
    | 5, ho =>
      cases Option.some.inj ho
      refine ⟨rfl, ?_⟩
      have ev : a.tmps[26]? = some (.bool false) := known_at ha hsz hlen hl 4 (by decide) (hd ⟨4, .data⟩ (by simp) rfl)
      refine wp_value (w' := w') (v := .bool false) (by simp [execOp, ev, go_sem]) ?_
      exact ⟨_, ta, tn, tc, by rw [ha]; exact putAll_put A 22 5 l _ (by omega) (by omega), by rw [List.length_set]; exact hlen, hB, set_known hlen (by decide) hl, fun h => (hrt (h.resolve_left (by decide)))⟩
    | 6, ho =>
      cases Option.some.inj ho
      refine ⟨wanted_of (k := 27) rfl rfl rfl (known_at ha hsz hlen hl 5 (by decide) (hd ⟨5, .guard⟩ (by simp) rfl)), ?_⟩
      have ev : a.tmps[5]? = some (.int .i64 er) := by rw [ha, putAll_low A 22 5 l (by omega) (by decide)]; exact s5
      refine wp_value (w' := w') (v := .int .i64 er) (by simp [execOp, ev, go_sem]) ?_
      exact ⟨_, ta, tn, tc, by rw [ha]; exact putAll_put A 22 6 l _ (by omega) (by omega), by rw [List.length_set]; exact hlen, hB, set_known hlen (by decide) hl, fun h => (hrt (h.resolve_left (by decide)))⟩
    | 7, ho =>
      cases Option.some.inj ho
      refine ⟨wanted_of (k := 27) rfl rfl rfl (known_at ha hsz hlen hl 5 (by decide) (hd ⟨5, .guard⟩ (by simp) rfl)), ?_⟩
      have ev : a.tmps[7]? = some (.int .i64 er) := by rw [ha, putAll_low A 22 7 l (by omega) (by decide)]; exact s7
      refine wp_value (w' := w') (v := .int .i64 er) (by simp [execOp, ev, go_sem]) ?_
      exact ⟨_, ta, tn, tc, by rw [ha]; exact putAll_put A 22 7 l _ (by omega) (by omega), by rw [List.length_set]; exact hlen, hB, set_known hlen (by decide) hl, fun h => (hrt (h.resolve_left (by decide)))⟩
    | 8, ho =>
      cases Option.some.inj ho
      refine ⟨wanted_of (k := 27) rfl rfl rfl (known_at ha hsz hlen hl 5 (by decide) (hd ⟨5, .guard⟩ (by simp) rfl)), ?_⟩
      have ev : a.tmps[28]? = some (.int .i64 er) := known_at ha hsz hlen hl 6 (by decide) (hd ⟨6, .data⟩ (by simp) rfl)
      have ev' : a.tmps[29]? = some (.int .i64 er) := known_at ha hsz hlen hl 7 (by decide) (hd ⟨7, .data⟩ (by simp) rfl)
      refine wp_value (w' := w') (v := .bool false) (by simp [execOp, ev, ev', go_sem]) ?_
      exact ⟨_, ta, tn, tc, by rw [ha]; exact putAll_put A 22 8 l _ (by omega) (by omega), by rw [List.length_set]; exact hlen, hB, set_known hlen (by decide) hl, fun h => (hrt (h.resolve_left (by decide)))⟩
    | 9, ho =>
      cases Option.some.inj ho
      refine ⟨rfl, ?_⟩
      have ev : a.tmps[27]? = some (.bool false) := known_at ha hsz hlen hl 5 (by decide) (hd ⟨5, .data⟩ (by simp) rfl)
      have ev' : a.tmps[30]? = some (.bool false) := known_at ha hsz hlen hl 8 (by decide) (hd ⟨8, .data⟩ (by simp) rfl)
      refine wp_value (w' := w') (v := .bool false) (by simp [execOp, ev, ev', go_sem]) ?_
      exact ⟨_, ta, tn, tc, by rw [ha]; exact putAll_put A 22 9 l _ (by omega) (by omega), by rw [List.length_set]; exact hlen, hB, set_known hlen (by decide) hl, fun h => (hrt (h.resolve_left (by decide)))⟩
    | 10, ho =>
      cases Option.some.inj ho
      refine ⟨rfl, ?_⟩
      have ev : a.tmps[31]? = some (.bool false) := known_at ha hsz hlen hl 9 (by decide) (hd ⟨9, .data⟩ (by simp) rfl)
      refine wp_value (w' := w') (v := .bool false) (by simp [execOp, ev, go_sem]) ?_
      exact ⟨_, ta, tn, tc, by rw [ha]; exact putAll_put A 22 10 l _ (by omega) (by omega), by rw [List.length_set]; exact hlen, hB, set_known hlen (by decide) hl, fun h => (hrt (h.resolve_left (by decide)))⟩
    | 11, ho =>
      cases Option.some.inj ho
      refine ⟨wanted_of (k := 32) rfl rfl rfl (known_at ha hsz hlen hl 10 (by decide) (hd ⟨10, .guard⟩ (by simp) rfl)), ?_⟩
      have ev : a.tmps[3]? = some (.pointer (some ⟨b3, 0, none⟩)) := by rw [ha, putAll_low A 22 3 l (by omega) (by decide)]; exact s3
      obtain ⟨z0, z1⟩ := rec_cells ((hB.block _ (lt_of_block E3)).trans E3)
      refine wp_value (w' := w') (v := .agg #[.int .i64 c, .slice ga gn gc]) (by simp [execOp, ev, go_sem, z0, z1]) ?_
      exact ⟨_, ta, tn, tc, by rw [ha]; exact putAll_put A 22 11 l _ (by omega) (by omega), by rw [List.length_set]; exact hlen, hB, set_known hlen (by decide) hl, fun h => (hrt (h.resolve_left (by decide)))⟩
    | 12, ho =>
      cases Option.some.inj ho
      refine ⟨wanted_of (k := 32) rfl rfl rfl (known_at ha hsz hlen hl 10 (by decide) (hd ⟨10, .guard⟩ (by simp) rfl)), ?_⟩
      have ev : a.tmps[33]? = some (.agg #[.int .i64 c, .slice ga gn gc]) := known_at ha hsz hlen hl 11 (by decide) (hd ⟨11, .data⟩ (by simp) rfl)
      refine wp_enter (f := 32) (args := #[.agg #[.int .i64 c, .slice ga gn gc]]) (by simp [execOp, ev, go_sem]) ?_
      refine (c32 w' (OG.below hB).isC).mono ?_
      rintro e w6 ⟨rfl, HB⟩
      refine ⟨_, rfl, ?_⟩
      exact ⟨_, ta, tn, tc, by rw [ha]; exact putAll_put A 22 12 l _ (by omega) (by omega), by rw [List.length_set]; exact hlen, below_size hB hB.size HB, set_known hlen (by decide) hl, fun h => (hrt (h.resolve_left (by decide))).below HB⟩
    | 13, ho =>
      cases Option.some.inj ho
      refine ⟨wanted_of (k := 32) rfl rfl rfl (known_at ha hsz hlen hl 10 (by decide) (hd ⟨10, .guard⟩ (by simp) rfl)), ?_⟩
      have ev : a.tmps[1]? = some (.pointer (some ⟨b1, 0, none⟩)) := by rw [ha, putAll_low A 22 1 l (by omega) (by decide)]; exact s1
      obtain ⟨z0, z1⟩ := rec_cells ((hB.block _ (lt_of_block E1)).trans E1)
      refine wp_value (w' := w') (v := .agg #[.int .i64 c, .slice ja jn jc]) (by simp [execOp, ev, go_sem, z0, z1]) ?_
      exact ⟨_, ta, tn, tc, by rw [ha]; exact putAll_put A 22 13 l _ (by omega) (by omega), by rw [List.length_set]; exact hlen, hB, set_known hlen (by decide) hl, fun h => (hrt (h.resolve_left (by decide)))⟩
    | 14, ho =>
      cases Option.some.inj ho
      refine ⟨wanted_of (k := 32) rfl rfl rfl (known_at ha hsz hlen hl 10 (by decide) (hd ⟨10, .guard⟩ (by simp) rfl)), ?_⟩
      have ev : a.tmps[35]? = some (.agg #[.int .i64 c, .slice ja jn jc]) := known_at ha hsz hlen hl 13 (by decide) (hd ⟨13, .data⟩ (by simp) rfl)
      refine wp_enter (f := 33) (args := #[.agg #[.int .i64 c, .slice ja jn jc]]) (by simp [execOp, ev, go_sem]) ?_
      refine (c33 w' (IA.below hB)).mono ?_
      rintro e w6 ⟨rfl, HB⟩
      refine ⟨_, rfl, ?_⟩
      exact ⟨_, ta, tn, tc, by rw [ha]; exact putAll_put A 22 14 l _ (by omega) (by omega), by rw [List.length_set]; exact hlen, below_size hB hB.size HB, set_known hlen (by decide) hl, fun h => (hrt (h.resolve_left (by decide))).below HB⟩
    | 15, ho =>
      cases Option.some.inj ho
      refine ⟨wanted_of (k := 32) rfl rfl rfl (known_at ha hsz hlen hl 10 (by decide) (hd ⟨10, .guard⟩ (by simp) rfl)), ?_⟩
      have ev : a.tmps[34]? = some (.bool q1) := known_at ha hsz hlen hl 12 (by decide) (hd ⟨12, .data⟩ (by simp) rfl)
      have ev' : a.tmps[36]? = some (.bool q1) := known_at ha hsz hlen hl 14 (by decide) (hd ⟨14, .data⟩ (by simp) rfl)
      refine wp_value (w' := w') (v := .bool false) (by simp [execOp, ev, ev', go_sem]) ?_
      exact ⟨_, ta, tn, tc, by rw [ha]; exact putAll_put A 22 15 l _ (by omega) (by omega), by rw [List.length_set]; exact hlen, hB, set_known hlen (by decide) hl, fun h => (hrt (h.resolve_left (by decide)))⟩
    | 16, ho =>
      cases Option.some.inj ho
      refine ⟨rfl, ?_⟩
      have ev : a.tmps[32]? = some (.bool false) := known_at ha hsz hlen hl 10 (by decide) (hd ⟨10, .data⟩ (by simp) rfl)
      have ev' : a.tmps[37]? = some (.bool false) := known_at ha hsz hlen hl 15 (by decide) (hd ⟨15, .data⟩ (by simp) rfl)
      refine wp_value (w' := w') (v := .bool false) (by simp [execOp, ev, ev', go_sem]) ?_
      exact ⟨_, ta, tn, tc, by rw [ha]; exact putAll_put A 22 16 l _ (by omega) (by omega), by rw [List.length_set]; exact hlen, hB, set_known hlen (by decide) hl, fun h => (hrt (h.resolve_left (by decide)))⟩
    | 17, ho =>
      cases Option.some.inj ho
      refine ⟨rfl, ?_⟩
      have ev : a.tmps[38]? = some (.bool false) := known_at ha hsz hlen hl 16 (by decide) (hd ⟨16, .data⟩ (by simp) rfl)
      refine wp_value (w' := w') (v := .bool false) (by simp [execOp, ev, go_sem]) ?_
      exact ⟨_, ta, tn, tc, by rw [ha]; exact putAll_put A 22 17 l _ (by omega) (by omega), by rw [List.length_set]; exact hlen, hB, set_known hlen (by decide) hl, fun h => (hrt (h.resolve_left (by decide)))⟩
    | 18, ho =>
      cases Option.some.inj ho
      refine ⟨wanted_of (k := 39) rfl rfl rfl (known_at ha hsz hlen hl 17 (by decide) (hd ⟨17, .guard⟩ (by simp) rfl)), ?_⟩
      have ev : a.tmps[3]? = some (.pointer (some ⟨b3, 0, none⟩)) := by rw [ha, putAll_low A 22 3 l (by omega) (by decide)]; exact s3
      obtain ⟨z0, z1⟩ := rec_cells ((hB.block _ (lt_of_block E3)).trans E3)
      refine wp_value (w' := w') (v := .agg #[.int .i64 c, .slice ga gn gc]) (by simp [execOp, ev, go_sem, z0, z1]) ?_
      exact ⟨_, ta, tn, tc, by rw [ha]; exact putAll_put A 22 18 l _ (by omega) (by omega), by rw [List.length_set]; exact hlen, hB, set_known hlen (by decide) hl, fun h => (hrt (h.resolve_left (by decide)))⟩
    | 19, ho =>
      cases Option.some.inj ho
      refine ⟨wanted_of (k := 39) rfl rfl rfl (known_at ha hsz hlen hl 17 (by decide) (hd ⟨17, .guard⟩ (by simp) rfl)), ?_⟩
      have ev : a.tmps[40]? = some (.agg #[.int .i64 c, .slice ga gn gc]) := known_at ha hsz hlen hl 18 (by decide) (hd ⟨18, .data⟩ (by simp) rfl)
      refine wp_enter (f := 35) (args := #[.agg #[.int .i64 c, .slice ga gn gc]]) (by simp [execOp, ev, go_sem]) ?_
      refine (taken_any c (OG.below hB) hgn).mono ?_
      rintro e w6 ⟨ta', tn', tc', rfl, OT, HB⟩
      refine ⟨_, rfl, ?_⟩
      exact ⟨_, ta', tn', tc', by rw [ha]; exact putAll_put A 22 19 l _ (by omega) (by omega), by rw [List.length_set]; exact hlen, below_size hB hB.size HB, set_known' (val' := recsV c er ja ga xa ya ta' jn jc gn gc xn xc yn yc tn' tc' q1 X) hlen (by decide) hl (fun j hj hne => match j, hj, hne with | 0, _, _ => rfl | 1, _, _ => rfl | 2, _, _ => rfl | 3, _, _ => rfl | 4, _, _ => rfl | 5, _, _ => rfl | 6, _, _ => rfl | 7, _, _ => rfl | 8, _, _ => rfl | 9, _, _ => rfl | 10, _, _ => rfl | 11, _, _ => rfl | 12, _, _ => rfl | 13, _, _ => rfl | 14, _, _ => rfl | 15, _, _ => rfl | 16, _, _ => rfl | 17, _, _ => rfl | 18, _, _ => rfl | 19, _, hne => absurd rfl hne | 20, _, _ => rfl | 21, _, _ => rfl | 22, _, _ => rfl | 23, _, _ => rfl | j + 24, _, _ => rfl), fun _ => OT.mono hB.size⟩
    | 20, ho =>
      cases Option.some.inj ho
      refine ⟨wanted_of (k := 39) rfl rfl rfl (known_at ha hsz hlen hl 17 (by decide) (hd ⟨17, .guard⟩ (by simp) rfl)), ?_⟩
      have ev : a.tmps[1]? = some (.pointer (some ⟨b1, 0, none⟩)) := by rw [ha, putAll_low A 22 1 l (by omega) (by decide)]; exact s1
      obtain ⟨z0, z1⟩ := rec_cells ((hB.block _ (lt_of_block E1)).trans E1)
      refine wp_value (w' := w') (v := .agg #[.int .i64 c, .slice ja jn jc]) (by simp [execOp, ev, go_sem, z0, z1]) ?_
      exact ⟨_, ta, tn, tc, by rw [ha]; exact putAll_put A 22 20 l _ (by omega) (by omega), by rw [List.length_set]; exact hlen, hB, set_known hlen (by decide) hl, fun h => (hrt (h.resolve_left (by decide)))⟩
    | 21, ho =>
      cases Option.some.inj ho
      refine ⟨wanted_of (k := 39) rfl rfl rfl (known_at ha hsz hlen hl 17 (by decide) (hd ⟨17, .guard⟩ (by simp) rfl)), ?_⟩
      have ev : a.tmps[41]? = some (.agg #[.int .i64 c, .slice ta tn tc]) := known_at ha hsz hlen hl 19 (by decide) (hd ⟨19, .data⟩ (by simp) rfl)
      have ev' : a.tmps[42]? = some (.agg #[.int .i64 c, .slice ja jn jc]) := known_at ha hsz hlen hl 20 (by decide) (hd ⟨20, .data⟩ (by simp) rfl)
      refine wp_enter (f := 34) (args := #[.agg #[.int .i64 c, .slice ta tn tc], .agg #[.int .i64 c, .slice ja jn jc]]) (by simp [execOp, ev, ev', go_sem]) ?_
      refine (sameRecord_true c (hrt (hd ⟨19, .data⟩ (by simp) rfl)).isC (IA.below hB)).mono ?_
      rintro e w6 ⟨rfl, HB⟩
      refine ⟨_, rfl, ?_⟩
      exact ⟨_, ta, tn, tc, by rw [ha]; exact putAll_put A 22 21 l _ (by omega) (by omega), by rw [List.length_set]; exact hlen, below_size hB hB.size HB, set_known hlen (by decide) hl, fun h => (hrt (h.resolve_left (by decide))).below HB⟩
    | 22, ho =>
      cases Option.some.inj ho
      refine ⟨wanted_of (k := 39) rfl rfl rfl (known_at ha hsz hlen hl 17 (by decide) (hd ⟨17, .guard⟩ (by simp) rfl)), ?_⟩
      have ev : a.tmps[43]? = some (.bool true) := known_at ha hsz hlen hl 21 (by decide) (hd ⟨21, .data⟩ (by simp) rfl)
      refine wp_value (w' := w') (v := .bool false) (by simp [execOp, ev, go_sem]) ?_
      exact ⟨_, ta, tn, tc, by rw [ha]; exact putAll_put A 22 22 l _ (by omega) (by omega), by rw [List.length_set]; exact hlen, hB, set_known hlen (by decide) hl, fun h => (hrt (h.resolve_left (by decide)))⟩
    | 23, ho =>
      cases Option.some.inj ho
      refine ⟨rfl, ?_⟩
      have ev : a.tmps[39]? = some (.bool false) := known_at ha hsz hlen hl 17 (by decide) (hd ⟨17, .data⟩ (by simp) rfl)
      have ev' : a.tmps[44]? = some (.bool false) := known_at ha hsz hlen hl 22 (by decide) (hd ⟨22, .data⟩ (by simp) rfl)
      refine wp_value (w' := w') (v := .bool false) (by simp [execOp, ev, ev', go_sem]) ?_
      exact ⟨_, ta, tn, tc, by rw [ha]; exact putAll_put A 22 23 l _ (by omega) (by omega), by rw [List.length_set]; exact hlen, hB, set_known hlen (by decide) hl, fun h => (hrt (h.resolve_left (by decide)))⟩
    | i + 24, ho => simp at ho
  case done =>
    rintro D a w' ⟨l, ta, tn, tc, ha, hlen, hB, hl, hrt⟩ hall
    obtain ⟨v0, v1, v2, v3, v4, v5, v6, v7, v8, v9, v10, v11, v12, v13, v14, v15, v16, v17, v18, v19, v20, v21, v22, v23, rfl⟩ := recsV_list hlen
    have hz := hl 23 (by decide) (hall 23 (by decide))
    simp only [List.getElem?_cons_succ, List.getElem?_cons_zero, Option.some.injEq] at hz
    have hz' : v23 = .bool false := hz
    subst hz'
    subst hA
    have hfr : a = _ := ha
    rw [hfr]
    clear hfr ha
    simp only [putAll, List.take_succ_cons, List.take_zero, List.drop_succ_cons, List.drop_zero, List.cons_append, List.nil_append, List.length_cons, List.length_nil]
    clear hl hrt hall
    have Bq' := below_size Bq Bq.size hB
    have IA1 := IA.below hB
    have IY1 := IY.below hB
    have E11 := (hB.block _ (lt_of_block E1)).trans E1
    clear hB IX IY IA OG E1 E3 c32 c33 Bq
    by_cases h0 : er = 0
    · subst h0
      have hX := hXz rfl
      obtain ⟨hok, hXe, hXl⟩ := hX
      have hyn : yn ≤ 60000 := by have := IY1.size; omega
      have hG : okGR X = true := by rw [hXe]; exact okGR_recY hok
      have hR : Hid (recR (some X) = (c, xs, some [])) := by show recR (some X) = _; rw [hXe]; exact recR_recY hok
      go_wp2_with fail
      refine (getRecord_any IY1 (by omega)).mono ?_
      rintro e w8 ⟨B8, hor⟩
      obtain ⟨_, za, zn, zc, rfl, OZ⟩ := hor.resolve_right (fun h => by rw [hG] at h; exact absurd h.1 (by decide))
      rw [hR.out] at OZ ⊢
      dsimp only at OZ ⊢
      have hzn : zn ≤ 1954687338264 := by obtain ⟨_, _, _, e, k⟩ := OZ.shape'; cases e; omega
      replace OZ := OZ.below (box_below (o := recB c (.slice za zn zc) 52))
      have E8 := new1 w8 (recB c (.slice za zn zc) 52)
      have E1' := old1 ((B8.block _ (lt_of_block E11)).trans E11) (recB c (.slice za zn zc) 52)
      have IA' := (IA1.below B8).below (box_below (o := recB c (.slice za zn zc) 52))
      have Br := below_size (below_size Bq' Bq'.size B8) (below_size Bq' Bq'.size B8).size (box_below (o := recB c (.slice za zn zc) 52))
      clear B8 IA1 IY1 E11 Bq' hG hR hXe hXl hXz
      unfold recB at E8 E1' OZ IA' Br
      go_upto_region 9 with fail
      replace E8 : _ = some (recB c (.slice za zn zc) 52) := E8
      replace E1' : _ = some (recB c (.slice ja jn jc) 49) := E1'
      generalize w8.alloc (.cells #[.int .i64 c, .slice za zn zc] 52) = wr at *
      generalize w8.heap.size = b8 at *
      have E1 := E1'
      have IA := IA'
      clear E1' IA'
      refine abstract_act fun A hA => ?_
      have hsz : A.tmps.size = 65 := by rw [hA]; rfl
      have st : A.tmps[2]? = some (.bool false) := by rw [hA]; rfl
      have s1 : A.tmps[1]? = some (.pointer (some ⟨b1, 0, none⟩)) := by rw [hA]; rfl
      have s8 : A.tmps[8]? = some (.pointer (some ⟨b8, 0, none⟩)) := by rw [hA]; rfl
      have s9 : A.tmps[9]? = some (.int .i64 0) := by rw [hA]; rfl
      refine wp_region_inv2' (fun A D a w' => ∃ (l : List Value) (vt : Value) (ta : Option Addr) (tn : Nat) (tc : Nat), a = (putAll A 54 l).put (some 2) vt ∧ l.length = 11 ∧ Below wr.heap.size wr w' ∧ (∀ j, j < 11 → D j → l[j]? = some (recsW c ja za ta jn jc zn zc tn tc j)) ∧ (D 11 → vt = .bool true) ∧ (D 4 → OwnC w' wr.heap.size 76 (.slice ta tn tc) xs)) (by kernel_rfl) (by kernel_rfl) ?mono ?start ?step ?done
      case mono =>
        rintro D D' a w' hD ⟨l, vt, ta, tn, tc, ha, hlen, hB, hl, hvt, hrt⟩
        exact ⟨l, vt, ta, tn, tc, ha, hlen, hB, fun j hj h => hl j hj ((hD j).2 h), fun h => hvt ((hD 11).2 h), fun h => hrt ((hD 4).2 h)⟩
      case start => exact ⟨_, _, none, 0, 0, putT_start A 54 11 2 _ (by omega) (by decide) st, (putAll_start A 54 11 (by omega)).2, (Below.refl _ _).drew, fun _ _ h => h.elim, fun h => h.elim, fun h => h.elim⟩
      case step =>
        clear hA
        intro i o ho D a w' hI hn hcl hd
        obtain ⟨l, vt, ta, tn, tc, ha, hlen, hB, hl, hvt, hrt⟩ := hI
        match i, ho with
        | 0, ho =>
          cases Option.some.inj ho
          refine ⟨rfl, ?_⟩
          have ev : a.tmps[9]? = some (.int .i64 0) := by rw [ha, putT_other _ _ _ _ (by decide), putAll_low A 54 9 l (by omega) (by decide)]; exact s9
          refine wp_value (w' := w') (v := .int .i64 0) (by simp [execOp, ev, go_sem]) ?_
          exact ⟨_, vt, ta, tn, tc, by rw [ha]; exact putT_put A 54 0 2 l _ _ (by omega) (by omega) (by decide), by rw [List.length_set]; exact hlen, hB, set_known hlen (by decide) hl, fun h => hvt (h.resolve_left (by decide)), fun h => (hrt (h.resolve_left (by decide)))⟩
        | 1, ho =>
          cases Option.some.inj ho
          refine ⟨rfl, ?_⟩
          have ev : a.tmps[54]? = some (.int .i64 0) := known_atT ha hsz hlen hl 0 (by decide) (hd ⟨0, .data⟩ (by simp) rfl)
          refine wp_value (w' := w') (v := .bool true) (by simp [execOp, ev, go_sem]) ?_
          exact ⟨_, vt, ta, tn, tc, by rw [ha]; exact putT_put A 54 1 2 l _ _ (by omega) (by omega) (by decide), by rw [List.length_set]; exact hlen, hB, set_known hlen (by decide) hl, fun h => hvt (h.resolve_left (by decide)), fun h => (hrt (h.resolve_left (by decide)))⟩
        | 2, ho =>
          cases Option.some.inj ho
          refine ⟨rfl, ?_⟩
          have ev : a.tmps[55]? = some (.bool true) := known_atT ha hsz hlen hl 1 (by decide) (hd ⟨1, .data⟩ (by simp) rfl)
          refine wp_value (w' := w') (v := .bool true) (by simp [execOp, ev, go_sem]) ?_
          exact ⟨_, vt, ta, tn, tc, by rw [ha]; exact putT_put A 54 2 2 l _ _ (by omega) (by omega) (by decide), by rw [List.length_set]; exact hlen, hB, set_known hlen (by decide) hl, fun h => hvt (h.resolve_left (by decide)), fun h => (hrt (h.resolve_left (by decide)))⟩
        | 3, ho =>
          cases Option.some.inj ho
          refine ⟨wanted_of (k := 56) rfl rfl rfl (known_atT ha hsz hlen hl 2 (by decide) (hd ⟨2, .guard⟩ (by simp) rfl)), ?_⟩
          have ev : a.tmps[8]? = some (.pointer (some ⟨b8, 0, none⟩)) := by rw [ha, putT_other _ _ _ _ (by decide), putAll_low A 54 8 l (by omega) (by decide)]; exact s8
          obtain ⟨z0, z1⟩ := rec_cells ((hB.block _ (lt_of_block E8)).trans E8)
          refine wp_value (w' := w') (v := .agg #[.int .i64 c, .slice za zn zc]) (by simp [execOp, ev, go_sem, z0, z1]) ?_
          exact ⟨_, vt, ta, tn, tc, by rw [ha]; exact putT_put A 54 3 2 l _ _ (by omega) (by omega) (by decide), by rw [List.length_set]; exact hlen, hB, set_known hlen (by decide) hl, fun h => hvt (h.resolve_left (by decide)), fun h => (hrt (h.resolve_left (by decide)))⟩
        | 4, ho =>
          cases Option.some.inj ho
          refine ⟨wanted_of (k := 56) rfl rfl rfl (known_atT ha hsz hlen hl 2 (by decide) (hd ⟨2, .guard⟩ (by simp) rfl)), ?_⟩
          have ev : a.tmps[57]? = some (.agg #[.int .i64 c, .slice za zn zc]) := known_atT ha hsz hlen hl 3 (by decide) (hd ⟨3, .data⟩ (by simp) rfl)
          refine wp_enter (f := 35) (args := #[.agg #[.int .i64 c, .slice za zn zc]]) (by simp [execOp, ev, go_sem]) ?_
          refine (taken_any c (OZ.below hB) hzn).mono ?_
          rintro e w6 ⟨ta', tn', tc', rfl, OT, HB⟩
          refine ⟨_, rfl, ?_⟩
          exact ⟨_, vt, ta', tn', tc', by rw [ha]; exact putT_put A 54 4 2 l _ _ (by omega) (by omega) (by decide), by rw [List.length_set]; exact hlen, below_size hB hB.size HB, set_known' (val' := recsW c ja za ta' jn jc zn zc tn' tc') hlen (by decide) hl (fun j hj hne => match j, hj, hne with | 0, _, _ => rfl | 1, _, _ => rfl | 2, _, _ => rfl | 3, _, _ => rfl | 4, _, hne => absurd rfl hne | 5, _, _ => rfl | 6, _, _ => rfl | 7, _, _ => rfl | 8, _, _ => rfl | 9, _, _ => rfl | 10, _, _ => rfl | j + 11, _, _ => rfl), fun h => hvt (h.resolve_left (by decide)), fun _ => OT.mono hB.size⟩
        | 5, ho =>
          cases Option.some.inj ho
          refine ⟨wanted_of (k := 56) rfl rfl rfl (known_atT ha hsz hlen hl 2 (by decide) (hd ⟨2, .guard⟩ (by simp) rfl)), ?_⟩
          have ev : a.tmps[1]? = some (.pointer (some ⟨b1, 0, none⟩)) := by rw [ha, putT_other _ _ _ _ (by decide), putAll_low A 54 1 l (by omega) (by decide)]; exact s1
          obtain ⟨z0, z1⟩ := rec_cells ((hB.block _ (lt_of_block E1)).trans E1)
          refine wp_value (w' := w') (v := .agg #[.int .i64 c, .slice ja jn jc]) (by simp [execOp, ev, go_sem, z0, z1]) ?_
          exact ⟨_, vt, ta, tn, tc, by rw [ha]; exact putT_put A 54 5 2 l _ _ (by omega) (by omega) (by decide), by rw [List.length_set]; exact hlen, hB, set_known hlen (by decide) hl, fun h => hvt (h.resolve_left (by decide)), fun h => (hrt (h.resolve_left (by decide)))⟩
        | 6, ho =>
          cases Option.some.inj ho
          refine ⟨wanted_of (k := 56) rfl rfl rfl (known_atT ha hsz hlen hl 2 (by decide) (hd ⟨2, .guard⟩ (by simp) rfl)), ?_⟩
          have ev : a.tmps[58]? = some (.agg #[.int .i64 c, .slice ta tn tc]) := known_atT ha hsz hlen hl 4 (by decide) (hd ⟨4, .data⟩ (by simp) rfl)
          have ev' : a.tmps[59]? = some (.agg #[.int .i64 c, .slice ja jn jc]) := known_atT ha hsz hlen hl 5 (by decide) (hd ⟨5, .data⟩ (by simp) rfl)
          refine wp_enter (f := 34) (args := #[.agg #[.int .i64 c, .slice ta tn tc], .agg #[.int .i64 c, .slice ja jn jc]]) (by simp [execOp, ev, ev', go_sem]) ?_
          refine (sameRecord_true c (hrt (hd ⟨4, .data⟩ (by simp) rfl)).isC (IA.below hB)).mono ?_
          rintro e w6 ⟨rfl, HB⟩
          refine ⟨_, rfl, ?_⟩
          exact ⟨_, vt, ta, tn, tc, by rw [ha]; exact putT_put A 54 6 2 l _ _ (by omega) (by omega) (by decide), by rw [List.length_set]; exact hlen, below_size hB hB.size HB, set_known hlen (by decide) hl, fun h => hvt (h.resolve_left (by decide)), fun h => (hrt (h.resolve_left (by decide))).below HB⟩
        | 7, ho =>
          cases Option.some.inj ho
          refine ⟨rfl, ?_⟩
          have ev : a.tmps[56]? = some (.bool true) := known_atT ha hsz hlen hl 2 (by decide) (hd ⟨2, .data⟩ (by simp) rfl)
          have ev' : a.tmps[60]? = some (.bool true) := known_atT ha hsz hlen hl 6 (by decide) (hd ⟨6, .data⟩ (by simp) rfl)
          refine wp_value (w' := w') (v := .bool true) (by simp [execOp, ev, ev', go_sem]) ?_
          exact ⟨_, vt, ta, tn, tc, by rw [ha]; exact putT_put A 54 7 2 l _ _ (by omega) (by omega) (by decide), by rw [List.length_set]; exact hlen, hB, set_known hlen (by decide) hl, fun h => hvt (h.resolve_left (by decide)), fun h => (hrt (h.resolve_left (by decide)))⟩
        | 8, ho =>
          cases Option.some.inj ho
          refine ⟨rfl, ?_⟩
          have ev : a.tmps[61]? = some (.bool true) := known_atT ha hsz hlen hl 7 (by decide) (hd ⟨7, .data⟩ (by simp) rfl)
          refine wp_value (w' := w') (v := .bool true) (by simp [execOp, ev, go_sem]) ?_
          exact ⟨_, vt, ta, tn, tc, by rw [ha]; exact putT_put A 54 8 2 l _ _ (by omega) (by omega) (by decide), by rw [List.length_set]; exact hlen, hB, set_known hlen (by decide) hl, fun h => hvt (h.resolve_left (by decide)), fun h => (hrt (h.resolve_left (by decide)))⟩
        | 9, ho =>
          cases Option.some.inj ho
          refine ⟨wanted_of (k := 62) rfl rfl rfl (known_atT ha hsz hlen hl 8 (by decide) (hd ⟨8, .guard⟩ (by simp) rfl)), ?_⟩
          refine wp_enter (f := 21) (args := #[]) (by simp [execOp, go_sem]) ?_
          refine (known_true w').mono ?_
          rintro e w6 ⟨rfl, HB⟩
          refine ⟨_, rfl, ?_⟩
          exact ⟨_, vt, ta, tn, tc, by rw [ha]; exact putT_put A 54 9 2 l _ _ (by omega) (by omega) (by decide), by rw [List.length_set]; exact hlen, below_size hB hB.size HB, set_known hlen (by decide) hl, fun h => hvt (h.resolve_left (by decide)), fun h => (hrt (h.resolve_left (by decide))).below HB⟩
        | 10, ho =>
          cases Option.some.inj ho
          refine ⟨rfl, ?_⟩
          have ev : a.tmps[62]? = some (.bool true) := known_atT ha hsz hlen hl 8 (by decide) (hd ⟨8, .data⟩ (by simp) rfl)
          have ev' : a.tmps[63]? = some (.bool true) := known_atT ha hsz hlen hl 9 (by decide) (hd ⟨9, .data⟩ (by simp) rfl)
          refine wp_value (w' := w') (v := .bool true) (by simp [execOp, ev, ev', go_sem]) ?_
          exact ⟨_, vt, ta, tn, tc, by rw [ha]; exact putT_put A 54 10 2 l _ _ (by omega) (by omega) (by decide), by rw [List.length_set]; exact hlen, hB, set_known hlen (by decide) hl, fun h => hvt (h.resolve_left (by decide)), fun h => (hrt (h.resolve_left (by decide)))⟩
        | 11, ho =>
          cases Option.some.inj ho
          refine ⟨rfl, ?_⟩
          have ev : a.tmps[64]? = some (.bool true) := known_atT ha hsz hlen hl 10 (by decide) (hd ⟨10, .data⟩ (by simp) rfl)
          refine wp_value (w' := w') (v := .bool true) (by simp [execOp, ev, go_sem]) ?_
          exact ⟨l, (.bool true), ta, tn, tc, by rw [ha]; exact putT_again _ _ _ _, hlen, hB, fun j hj h => hl j hj (h.resolve_left (by omega)), fun _ => rfl, fun h => hrt (h.resolve_left (by decide))⟩
        | i + 12, ho => simp at ho
      case done =>
        rintro D a w' ⟨l, vt, ta, tn, tc, ha, hlen, hB, hl, hvt, hrt⟩ hall
        obtain rfl := hvt (hall 11 (by decide))
        obtain ⟨v0, v1, v2, v3, v4, v5, v6, v7, v8, v9, v10, rfl⟩ := recsW_list hlen
        clear hl hall hlen
        clear st s1 s8 s9 hsz hrt
        subst hA
        have hfr : a = _ := ha
        rw [hfr]
        clear hfr ha
        simp only [putAll, List.take_succ_cons, List.take_zero, List.drop_succ_cons, List.drop_zero, List.cons_append, List.nil_append, List.length_cons, List.length_nil]
        simp only [Act.put, List.setIfInBounds_toArray, List.set_cons_zero, List.set_cons_succ]
        go_wp2
        go_ret
        exact ⟨rfl, below_size Br Br.size hB⟩
    · have hb0 : (er == 0) = false := by simp; omega
      go_wp2_with fail
      refine (known_true _).mono ?_
      rintro e w9 ⟨rfl, B9⟩
      go_wp2
      go_ret
      exact ⟨rfl, below_size Bq' Bq'.size B9⟩
end Go.Proofs.Ytjfaflmmanjjbaa
namespace Go.Proofs.Ytjfaflmmanjjbaa
open Go.ChangeShapes Go.WideShapes Go.ChangeAt Go.RowKit Go.Deep
set_option maxRecDepth 100000
theorem Try.bytes76 : Try.prog.bytesOf 76 = 72 := by kernel_rfl
theorem Try.cells76 : Try.prog.cellsOf 76 = 5 := by kernel_rfl
theorem Try.cells4 : Try.prog.cellsOf 4 = 1 := by kernel_rfl
theorem Try.cells24 : Try.prog.cellsOf 24 = 1 := by kernel_rfl
theorem Try.cells25 : Try.prog.cellsOf 25 = 1 := by kernel_rfl
theorem Try.cells49 : Try.prog.cellsOf 49 = 2 := by kernel_rfl
theorem Try.fields27 : ∃ f0 f1 f2, Try.prog.underlying 27 = some (.struct #[f0, f1, f2]) ∧ (f0.type = 2 ∧ f0.offset = 0) ∧ (f1.type = 24 ∧ f1.offset = 1) ∧ (f2.type = 25 ∧ f2.offset = 2) := ⟨_, _, _, Try.underlying27, ⟨rfl, rfl⟩, ⟨rfl, rfl⟩, ⟨rfl, rfl⟩⟩
theorem Try.fields76 : ∃ f0 f1 f2, Try.prog.underlying 76 = some (.struct #[f0, f1, f2]) ∧ (f0.type = 2 ∧ f0.offset = 0) ∧ (f1.type = 4 ∧ f1.offset = 1) ∧ (f2.type = 27 ∧ f2.offset = 2) := ⟨_, _, _, Try.underlying76, ⟨rfl, rfl⟩, ⟨rfl, rfl⟩, ⟨rfl, rfl⟩⟩
theorem weights_part {H : Type} {t : TypeId} {f0 f1 f2 : Field} {y0 y1 y2 : DataW H} (hu : Try.prog.underlying t = some (.struct #[f0, f1, f2])) (hs : ∀ n ∈ (DataW.agg [y0, y1, y2]).weights Try.prog t, n ≤ reachBytes) :
    (∀ n ∈ y1.weights Try.prog f1.type, n ≤ reachBytes) ∧ (∀ n ∈ y2.weights Try.prog f2.type, n ≤ reachBytes) := by
  have e : (DataW.agg [y0, y1, y2]).weights Try.prog t = DataW.weightsEach Try.prog [f0.type, f1.type, f2.type] [y0, y1, y2] := by
    simp only [DataW.weights, hu]
    rfl
  rw [e] at hs
  exact ⟨fun n hn => hs n (DataW.weights_mem_each (j := 1) rfl rfl n hn), fun n hn => hs n (DataW.weights_mem_each (j := 2) rfl rfl n hn)⟩
theorem slice_of_trod {H : Type} {enc : TypeId × Value → H} {W : World} {fuel t e : Nat} {cs : List Value} {x : DataW H × List MemPlace} (hu : Try.prog.underlying t = some (.slice e)) (h : DataW.trod enc Try.prog W 0 (fun _ => true) true fuel t cs = some x) : ∃ a n c, cs = [.slice a n c] := by
  rcases open_slice hu h with ⟨h0, _⟩ | ⟨a, len, cap, _, _, _, _, h0, _⟩
  · exact ⟨_, _, _, h0⟩
  · exact ⟨_, _, _, h0⟩
/-- An object within a row. -/
theorem open_objT {H : Type} {enc : TypeId × Value → H} {W : World} {fuel : Nat} {cs : List Value} {x : DataW H × List MemPlace}
    (hf : DataW.trod enc Try.prog W 0 (fun _ => true) true fuel 27 cs = some x) (hs : ∀ n ∈ x.1.weights Try.prog 27, n ≤ reachBytes) :
    ∃ c sa sn sc ba bn bc vs bs, cs = [.int .i64 c, .slice sa sn sc, .slice ba bn bc] ∧ IsO W c sa sn sc ba bn bc vs bs ∧ sn ≤ 8796093021952 ∧ bn ≤ 140737488351232 := by
  obtain ⟨f0, f1, f2, hu, ⟨t0, o0⟩, ⟨t1, o1⟩, ⟨t2, o2⟩⟩ := Try.fields27
  obtain ⟨ys, k, _, rfl, hcl, hyl, hfl⟩ := DataW.trod_struct hu hf
  have hy3 : ys.length = 3 := hyl
  rw [Try.cells27] at hcl
  obtain ⟨y0, y1, y2, rfl⟩ : ∃ y0 y1 y2, ys = [y0, y1, y2] := by
    match ys, hy3 with
    | [y0, y1, y2], _ => exact ⟨_, _, _, rfl⟩
  obtain ⟨c0, c1, c2, rfl⟩ : ∃ c0 c1 c2, cs = [c0, c1, c2] := by
    match cs, hcl with
    | [c0, c1, c2], _ => exact ⟨_, _, _, rfl⟩
  have g0 : DataW.trod enc Try.prog W 0 (fun _ => true) true k 2 [c0] = some y0 := by have h := hfl 0 f0 rfl; rw [t0, o0, Try.cells2] at h; exact h
  have g1 : DataW.trod enc Try.prog W 0 (fun _ => true) true k 24 [c1] = some y1 := by have h := hfl 1 f1 rfl; rw [t1, o1, Try.cells24] at h; exact h
  have g2 : DataW.trod enc Try.prog W 0 (fun _ => true) true k 25 [c2] = some y2 := by have h := hfl 2 f2 rfl; rw [t2, o2, Try.cells25] at h; exact h
  obtain ⟨h1, h2⟩ := weights_part (y0 := y0.1) (y1 := y1.1) (y2 := y2.1) hu hs
  rw [t1] at h1
  rw [t2] at h2
  obtain ⟨n0, e0, _, w0⟩ := DataW.trod_int Try.underlying2 g0
  obtain ⟨sa, sn, sc, e1⟩ := slice_of_trod Try.underlying24 g1
  obtain ⟨ba, bn, bc, e2⟩ := slice_of_trod Try.underlying25 g2
  obtain rfl := (List.cons.inj e0).1
  obtain rfl := (List.cons.inj e1).1
  obtain rfl := (List.cons.inj e2).1
  obtain ⟨vs, hV, hcv⟩ := open_vals (d := y1.1) (p := y1.2) g1 (fun elems spare he => h1 _ (by simp [he, DataW.weights, Try.underlying24]))
  obtain ⟨bs, hB, hcb⟩ := open_bytes (d := y2.1) (p := y2.2) g2 (fun elems spare he => h2 _ (by simp [he, DataW.weights, Try.underlying25]))
  exact ⟨n0, sa, sn, sc, ba, bn, bc, vs, bs, rfl, ⟨okI w0, hV, hB⟩, by have := hV.room; omega, by have := hB.room; omega⟩
/-- A change within a row. -/
theorem open_chT {H : Type} {enc : TypeId × Value → H} {W : World} {fuel : Nat} {cs : List Value} {x : DataW H × List MemPlace}
    (hf : DataW.trod enc Try.prog W 0 (fun _ => true) true fuel 76 cs = some x) (hs : ∀ n ∈ x.1.weights Try.prog 76, n ≤ reachBytes) :
    ∃ (y : Ch) (sa : Option Addr) (sn sc : Nat) (ba : Option Addr) (bn bc : Nat), cs = [.int .i64 y.oop, .bool y.gone, .int .i64 y.cls, .slice sa sn sc, .slice ba bn bc] ∧ IsO W y.cls sa sn sc ba bn bc y.vs y.bs ∧ sn ≤ 8796093021952 ∧ bn ≤ 140737488351232 ∧ (-9223372036854775808 ≤ y.oop ∧ y.oop ≤ 9223372036854775807) := by
  obtain ⟨f0, f1, f2, hu, ⟨t0, o0⟩, ⟨t1, o1⟩, ⟨t2, o2⟩⟩ := Try.fields76
  obtain ⟨ys, k, _, rfl, hcl, hyl, hfl⟩ := DataW.trod_struct hu hf
  have hy3 : ys.length = 3 := hyl
  rw [Try.cells76] at hcl
  obtain ⟨y0, y1, y2, rfl⟩ : ∃ y0 y1 y2, ys = [y0, y1, y2] := by
    match ys, hy3 with
    | [y0, y1, y2], _ => exact ⟨_, _, _, rfl⟩
  obtain ⟨c0, c1, c2, c3, c4, rfl⟩ : ∃ c0 c1 c2 c3 c4, cs = [c0, c1, c2, c3, c4] := by
    match cs, hcl with
    | [c0, c1, c2, c3, c4], _ => exact ⟨_, _, _, _, _, rfl⟩
  have g0 : DataW.trod enc Try.prog W 0 (fun _ => true) true k 2 [c0] = some y0 := by have h := hfl 0 f0 rfl; rw [t0, o0, Try.cells2] at h; exact h
  have g1 : DataW.trod enc Try.prog W 0 (fun _ => true) true k 4 [c1] = some y1 := by have h := hfl 1 f1 rfl; rw [t1, o1, Try.cells4] at h; exact h
  have g2 : DataW.trod enc Try.prog W 0 (fun _ => true) true k 27 [c2, c3, c4] = some y2 := by have h := hfl 2 f2 rfl; rw [t2, o2, Try.cells27] at h; exact h
  obtain ⟨_, h2⟩ := weights_part (y0 := y0.1) (y1 := y1.1) (y2 := y2.1) hu hs
  rw [t2] at h2
  obtain ⟨n0, e0, _, w0⟩ := DataW.trod_int Try.underlying2 g0
  obtain ⟨b1, e1, _⟩ := DataW.trod_bool Try.underlying4 g1
  obtain ⟨c, sa, sn, sc, ba, bn, bc, vs, bs, e2, hO, hsn, hbn⟩ := open_objT g2 h2
  obtain rfl := (List.cons.inj e0).1
  obtain rfl := (List.cons.inj e1).1
  simp only [List.cons.injEq, and_true] at e2
  obtain ⟨rfl, rfl, rfl⟩ := e2
  exact ⟨⟨n0, b1, c, vs, bs⟩, sa, sn, sc, ba, bn, bc, rfl, hO, hsn, hbn, okI w0⟩
instance : Inhabited Ch := ⟨⟨0, false, 0, [], []⟩⟩
theorem weightsAll_mem {H : Type} {e : TypeId} : ∀ {l : List (DataW H)} {d : DataW H}, d ∈ l → ∀ n ∈ d.weights Try.prog e, n ∈ DataW.weightsAll Try.prog e l
  | a :: r, d, hd, n, hn => by
    simp only [DataW.weightsAll, List.mem_append]
    rcases List.mem_cons.1 hd with rfl | hd
    · exact Or.inl hn
    · exact Or.inr (weightsAll_mem hd n hn)
/-- A slice of changes that came in. -/
theorem open_chs {H : Type} {enc : TypeId × Value → H} {W : World} {a : Option Addr} {len cap fuel : Nat} {x : DataW H × List MemPlace}
    (hf : DataW.trod enc Try.prog W 0 (fun _ => true) true fuel 47 [Value.slice a len cap] = some x) (hs : ∀ n ∈ x.1.weights Try.prog 47, n ≤ reachBytes) :
    ∃ xs, IsC W a len cap xs ∧ len ≤ 1954687338264 ∧ ∀ x ∈ xs, x.vs.length ≤ 8796093022208 ∧ x.bs.length ≤ 140737488355328 := by
  rcases open_slice Try.underlying47 hf with ⟨hcs, _⟩ | ⟨ad, len', cap', m, n, D, Pl, hcs, _, hl, hm, hmm, rfl, hel⟩
  · simp at hcs
    obtain ⟨rfl, rfl, rfl⟩ := hcs
    exact ⟨[], ⟨rfl, Nat.le_refl _, by decide, fun _ => rfl, by simp, fun h => absurd h (by decide)⟩, by decide, by simp⟩
  · simp at hcs
    obtain ⟨rfl, rfl, rfl⟩ := hcs
    simp only [if_true] at hmm
    subst hmm
    have hw : ∀ i, i < len → ∀ z ∈ (D i).weights Try.prog 76, z ≤ reachBytes := fun i hi z hz => hs z (by
      simp only [DataW.weights, Try.underlying47, List.mem_cons, List.mem_append]
      exact Or.inr (Or.inl (weightsAll_mem (List.mem_map.2 ⟨i, List.mem_range.2 hi, rfl⟩) z hz)))
    have hlen : m * 72 ≤ 140737488351232 := by
      have := hs _ (by simp only [DataW.weights, Try.underlying47, List.mem_cons]; exact Or.inl rfl)
      rw [Try.bytes76] at this
      simp only [List.length_map, List.length_range, reachBytes] at this
      omega
    have key : ∀ i, i < len → ∃ y : Ch, (∃ (sa : Option Addr) (sn sc : Nat) (ba : Option Addr) (bn bc : Nat), (W.cell? (ad.add (i * 5)) = some (.int .i64 y.oop) ∧ W.cell? (ad.add (i * 5 + 1)) = some (.bool y.gone) ∧ W.cell? (ad.add (i * 5 + 2)) = some (.int .i64 y.cls) ∧ W.cell? (ad.add (i * 5 + 3)) = some (.slice sa sn sc) ∧ W.cell? (ad.add (i * 5 + 4)) = some (.slice ba bn bc)) ∧ IsO W y.cls sa sn sc ba bn bc y.vs y.bs ∧ sn ≤ 8796093021952 ∧ bn ≤ 140737488351232) ∧ (-9223372036854775808 ≤ y.oop ∧ y.oop ≤ 9223372036854775807) := by
      intro i hi
      obtain ⟨cs', h1, h2⟩ := hel i (by omega)
      rw [Try.cells76] at h1
      obtain ⟨_, hcl, hcell⟩ := World.cells?_some h1
      obtain ⟨y, sa, sn, sc, ba, bn, bc, rfl, hO, hsn, hbn, hoo⟩ := open_chT h2 (hw i hi)
      have q0 := hcell 0 (by omega)
      have q1 := hcell 1 (by omega)
      have q2 := hcell 2 (by omega)
      have q3 := hcell 3 (by omega)
      have q4 := hcell 4 (by omega)
      rw [add_add] at q0 q1 q2 q3 q4
      exact ⟨y, ⟨sa, sn, sc, ba, bn, bc, ⟨q0, q1, q2, q3, q4⟩, hO, hsn, hbn⟩, hoo⟩
    obtain ⟨f, hf'⟩ := choose_lt key
    refine ⟨(List.range len).map f, ⟨by simp, hl, hm, by simp, fun z hz => ?_, fun h0 => ?_⟩, by omega, fun z hz => ?_⟩
    · obtain ⟨i, hi, rfl⟩ := List.mem_map.1 hz
      exact (hf' i (List.mem_range.1 hi)).2
    · obtain ⟨b, off, spot⟩ := ad
      have hc : W.cell? ((⟨b, off, spot⟩ : Addr).add (0 * 5)) = some (.int .i64 (f 0).oop) := by obtain ⟨⟨_, _, _, _, _, _, h, _⟩, _⟩ := hf' 0 h0; exact h.1
      have hsp : spot = none := by simpa [Addr.add] using World.cell?_spot hc
      subst hsp
      refine ⟨b, off, rfl, fun i x hx => ?_⟩
      have hi : i < len := by
        have := (List.getElem?_eq_some_iff.1 hx).1
        simpa using this
      have ex : f i = x := by
        rw [List.getElem?_map, List.getElem?_range hi] at hx
        exact Option.some.inj hx
      subst ex
      obtain ⟨⟨sa, sn, sc, ba, bn, bc, ⟨q0, q1, q2, q3, q4⟩, hO, _, _⟩, _⟩ := hf' i hi
      rw [Addr.add_lit] at q0 q1 q2 q3 q4
      exact ⟨sa, sn, sc, ba, bn, bc, q0, by rw [Nat.add_assoc]; exact q1, by rw [Nat.add_assoc]; exact q2, by rw [Nat.add_assoc]; exact q3, by rw [Nat.add_assoc]; exact q4, hO⟩
    · obtain ⟨i, hi, rfl⟩ := List.mem_map.1 hz
      obtain ⟨⟨sa, sn, sc, ba, bn, bc, _, hO, hsn, hbn⟩, _⟩ := hf' i (List.mem_range.1 hi)
      have h1 := hO.v.size
      have h2 := hO.b.size
      omega
/-- A record that came in. -/
theorem open_rec {H : Type} {enc : TypeId × Value → H} {W : World} {r : Reach} {b0 : Nat} {v : Value} {d : DataW H} {p : List MemPlace} {ts : List TypeId} {ds : List (DataW H)} {j : Nat}
    (hv : Value.okWide Try.prog W r b0 49 v) (h : DataW.Trod enc Try.prog W 0 (fun _ => true) true 49 v d p)
    (hsz : (DataW.weightsEach Try.prog ts ds).all (· ≤ reachBytes) = true) (ht : ts[j]? = some 49) (hd : ds[j]? = some d) :
    ∃ c a n cap xs, v = .agg #[.int .i64 c, .slice a n cap] ∧ IsC W a n cap xs ∧ n ≤ 1954687338264 ∧ ∀ x ∈ xs, x.vs.length ≤ 8796093022208 ∧ x.bs.length ≤ 140737488355328 := by
  obtain ⟨v0, v1, y0, y1, m, rfl, rfl, rfl, h0, h1⟩ := Joins.open_agg2 Try.underlying49 (by kernel_rfl) Try.cells49 hv h
  obtain ⟨n, hn, hy0, wn⟩ := DataW.trod_int Try.underlying2 h0
  obtain ⟨sa, sn, sc, hs1⟩ := Joins.slice_form Try.underlying47 h1
  obtain rfl := (List.cons.inj hn).1
  obtain rfl := (List.cons.inj hs1).1
  obtain ⟨xs, hC, hl, hp⟩ := open_chs (x := y1) h1 (fun z hz => by
    have hw := List.all_eq_true.1 hsz _ (DataW.weights_mem_each ht hd z (by
      simp only [DataW.weights, Try.underlying49]
      exact DataW.weights_mem_each (j := 1) rfl rfl z hz))
    simpa using hw)
  exact ⟨n, sa, sn, sc, xs, rfl, hC, hl, hp⟩
end Go.Proofs.Ytjfaflmmanjjbaa
