/- A change as bytes. -/
import Derived.Test.YtjfaflmmanjjbaaPut
import Derived.Test.YtjfaflmmanjjbaaRec
import Derived.Test.YtjfaflmmanjjbaaAny
import Derived.Test.YtjfaflmmanjjbaaOper
namespace Go.Proofs.Ytjfaflmmanjjbaa
open Go.RowKit
set_option maxRecDepth 100000
theorem app_op {o : Oper} {a : Act} {K : Act → World → Prop} {Q : Exit → Act → World → Prop} (w : World) (s x : Operand)
    (ho : o.op = .call { callee := .builtin .append, args := #[s, x], argTypes := #[25, 25] })
    (base : Nat) (v : Value) (xs : List Int) (hs : a.eval s = v) (hown : OwnB w base v xs)
    (ad : Addr) (len cap : Nat) (ys : List Int) (hx : a.eval x = .slice (some ad) len cap) (hB : IsB w (some ad) len cap ys) (h47 : xs.length + len ≤ 140737488355328) (hbase : base ≤ w.heap.size)
    (h : ∀ a' n' c' w', OwnB w' base (.slice a' n' c') (xs ++ ys) → Gr base w w' → K (a.put o.dst (.slice a' n' c')) w') : o.wp Try.prog a w K Q := by
  obtain ⟨i0, hi, hz0, hz1, hz2⟩ := info_parts Try.info5
  have hbx := append_bytes xs ys hown.byte hB.byte
  refine wp_append_own w s x 25 ho base 5 i0 (.int .u8 0) 1 1 Try.underlying25 hi hz0 hz1 hz2 rfl (by decide) _ xs.length _ hs hown.1 ad len cap (ys.map (Value.int .u8)) hx hB.lenMap (hB.cellsAt ad rfl) hB.one (by unfold maxLen; omega) (by omega) hbase ?_
  intro v' w' hown' hgrow _
  rw [← List.map_append] at hown'
  have O := ownB_of hown' hbx
  obtain ⟨a', c', hv⟩ := O.shape
  subst hv
  exact h a' _ c' w' O (Gr.grown hown.1 hgrow hbase)
/-- The bytes of a change. -/
def chB (o : Int) (g : Bool) (c : Int) (vs : List (Int × Int)) (bs : List Int) : List Int := uvar o.toNat ++ (if g = true then [1] else 0 :: objY c vs bs)
def chgB (o : Int) (g : Bool) (c : Int) (v1 v2 : Value) : Obj := .cells #[.int .i64 o, .bool g, .int .i64 c, v1, v2] 77 (0, 0)
theorem chg_cells {w : World} {b : Nat} {o c : Int} {g : Bool} {v1 v2 : Value} (h : w.heap[b]? = some (chgB o g c v1 v2)) : w.cell? ⟨b, 0, none⟩ = some (.int .i64 o) ∧ w.cell? ⟨b, 1, none⟩ = some (.bool g) ∧ w.cell? ⟨b, 2, none⟩ = some (.int .i64 c) ∧ w.cell? ⟨b, 3, none⟩ = some v1 ∧ w.cell? ⟨b, 4, none⟩ = some v2 := by
  refine ⟨?_, ?_, ?_, ?_, ?_⟩ <;> (rw [cell_of_row _ b _ _ _ _ h]; rfl)
set_option maxHeartbeats 4000000 in
theorem appendChange_any {w0 w : World} {v : Value} {xs : List Int} (h : OwnB w w0.heap.size v xs) (o : Nat) (g : Bool) {c : Int} {sa ba : Option Addr} {sn sc bn bc : Nat} {vs : List (Int × Int)} {bs : List Int} (hob : IsO w0 c sa sn sc ba bn bc vs bs) (hok : okCh g c vs bs = true) (ho1 : o ≤ 4096) (B0 : Below w0.heap.size w0 w) (hl : xs.length ≤ 90000000) :
    Calls Try.prog 49 #[v, .agg #[.int .i64 (o : Int), .bool g, .int .i64 c, .slice sa sn sc, .slice ba bn bc]] w fun e w' => ∃ v', e = .returned v' ∧ OwnB w' w0.heap.size v' (xs ++ chB (o : Int) g c vs bs) ∧ Gr w0.heap.size w w' := by
  obtain ⟨a, na, ca, rfl⟩ := h.shape'
  have hbsz := hob.b.size
  have hul1 : (uvar o).length ≤ 10 := by rw [uvar_length o (by omega)]; exact (usz_bd o).2
  have hbase := B0.size
  go_enter Try.func49, Try.ntmps49
  go_wp2_with fail
  refine (appendNumber_any (h.below box_below) o (by omega) (by omega) (Nat.le_trans hbase box_below.size)).mono ?_
  rintro e w2 ⟨v2, rfl, O2, G2⟩
  have E2 : w2.heap[w.heap.size]? = some (chgB (o : Int) g c (.slice sa sn sc) (.slice ba bn bc)) := G2.keep w.heap.size #[.int .i64 (o : Int), .bool g, .int .i64 c, .slice sa sn sc, .slice ba bn bc] 77 (by decide) (new1 _ _)
  have G2' : Gr w0.heap.size w w2 := (Gr.of box_below hbase).trans G2
  clear G2 h
  obtain ⟨z0, z1, z2, z3, z4⟩ := chg_cells E2
  obtain ⟨a2, n2, c2, rfl⟩ := O2.shape'
  have hb2 := G2'.below.size
  have hlx := lt_of_block E2
  generalize w.heap.size = xb at *
  cases g with
  | true =>
    have e0 : Hid (chB (o : Int) true c vs bs = uvar o ++ [1]) := by unfold Hid chB; simp
    have I1 := isB_lit w2 #[.int .u8 1] [1] 1 rfl (by decide) rfl (by intro x hx; simp at hx; omega) (0, 0)
    go_wp2_with (at_builtin; refine app_own _ rfl _ _ rfl w0.heap.size _ _ rfl (O2.below box_below) _ _ _ _ rfl I1 (by rw [List.length_append]; omega) (by simp; omega) ?_)
    intro a6 n6 c6 w6 O6 G6
    have G7 := G2'.trans ((Gr.of box_below (by omega)).trans G6)
    clear O2 E2 I1 G6 z0 z1 z2 z3 z4
    go_wp2
    go_ret
    exact ⟨_, rfl, by rw [e0.out]; first | exact O6 | (rw [← List.append_assoc]; exact O6), G7⟩
  | false =>
    have e0 : Hid (chB (o : Int) false c vs bs = uvar o ++ ([0] ++ objY c vs bs)) := by unfold Hid chB; simp
    have hokO : okO c vs bn = true := by unfold okCh at hok; rw [hbsz] at hok; exact hok
    go_upto_region 4 with fail
    have hb3 : w0.heap.size ≤ w2.heap.size := by omega
    refine wp_region_inv' (fun A D a w' => ∃ v14 v15 v16 v17 v18 v19 v4 nb a6 a7 n6 c6 n7 c7, a = (((((((A.put (some 14) v14).put (some 15) v15).put (some 16) v16).put (some 17) v17).put (some 18) v18).put (some 19) v19).put (some 4) v4) ∧ Gr w0.heap.size w2 w' ∧ (D 2 ∨ OwnB w' w0.heap.size (.slice a2 n2 c2) (xs ++ uvar o)) ∧ (D 0 → v14 = .slice a2 n2 c2) ∧ (D 1 → v15 = .slice (some ⟨nb, 0, none⟩) 1 1) ∧ (D 2 → v16 = .slice a6 n6 c6) ∧ (D 3 → v17 = .pointer (some ⟨xb, 2, none⟩)) ∧ (D 4 → v18 = .agg #[.int .i64 c, .slice sa sn sc, .slice ba bn bc]) ∧ (D 5 → v19 = .slice a7 n7 c7) ∧ (D 6 → v4 = .slice a7 n7 c7) ∧ (D 5 → OwnB w' w0.heap.size (.slice a7 n7 c7) (xs ++ uvar o ++ [0] ++ objY c vs bs)) ∧ (D 1 → ¬ D 2 → IsB w' (some ⟨nb, 0, none⟩) 1 1 [0]) ∧ (D 2 → ¬ D 5 → OwnB w' w0.heap.size (.slice a6 n6 c6) (xs ++ uvar o ++ [0]))) (by kernel_rfl) (by kernel_rfl) ?mono ?start ?step ?done
    case mono =>
      rintro D D' a w' hD ⟨v14, v15, v16, v17, v18, v19, v4, nb, a6, a7, n6, c6, n7, c7, ha, hG, hO, e0, e1, e2, e3, e4, e5, e6, hQ, hI, hP⟩
      exact ⟨v14, v15, v16, v17, v18, v19, v4, nb, a6, a7, n6, c6, n7, c7, ha, hG, hO.imp_left (hD 2).1, fun h => e0 ((hD 0).2 h), fun h => e1 ((hD 1).2 h), fun h => e2 ((hD 2).2 h), fun h => e3 ((hD 3).2 h), fun h => e4 ((hD 4).2 h), fun h => e5 ((hD 5).2 h), fun h => e6 ((hD 6).2 h), fun h => hQ ((hD 5).2 h), fun h h' => hI ((hD 1).2 h) (fun k => h' ((hD 2).1 k)), fun h h' => hP ((hD 2).2 h) (fun k => h' ((hD 5).1 k))⟩
    case start => exact ⟨undef, undef, undef, undef, undef, undef, .slice none 0 0, 0, none, none, 0, 0, 0, 0, by kernel_rfl, Gr.of ((Below.refl _ _).drew) hb3, .inr (O2.below ((Below.refl _ _).drew)), fun h => h.elim, fun h => h.elim, fun h => h.elim, fun h => h.elim, fun h => h.elim, fun h => h.elim, fun h => h.elim, fun h => h.elim, fun h _ => h.elim, fun h _ => h.elim⟩
    case step =>
      intro i o ho D a w' hI hn hcl hd
      obtain ⟨v14, v15, v16, v17, v18, v19, v4, nb, a6, a7, n6, c6, n7, c7, ha, hG, hO, e0, e1, e2, e3, e4, e5, e6, hQ, hI, hP⟩ := hI
      match i, ho with
      | 0, ho =>
        cases Option.some.inj ho
        have ev : a.tmps[0]?.getD undef = .slice a2 n2 c2 := by rw [ha]; kernel_rfl
        refine wp_value (w' := w') (v := .slice a2 n2 c2) (by simp [execOp, ev, go_sem]) ?_
        exact ⟨(.slice a2 n2 c2), v15, v16, v17, v18, v19, v4, nb, a6, a7, n6, c6, n7, c7, by rw [ha]; kernel_rfl, hG, hO.imp_left .inr, fun _ => rfl, fun h => e1 (h.resolve_left (by decide)), fun h => e2 (h.resolve_left (by decide)), fun h => e3 (h.resolve_left (by decide)), fun h => e4 (h.resolve_left (by decide)), fun h => e5 (h.resolve_left (by decide)), fun h => e6 (h.resolve_left (by decide)), fun h => hQ (h.resolve_left (by decide)), fun h h' => hI (h.resolve_left (by decide)) (fun k => h' (.inr k)), fun h h' => hP (h.resolve_left (by decide)) (fun k => h' (.inr k))⟩
      | 1, ho =>
        cases Option.some.inj ho
        have hz := Nat.le_trans hb3 hG.below.size
        refine wp_value (w' := w'.alloc (.cells #[.int .u8 0] 5)) (v := .slice (some ⟨w'.heap.size, 0, none⟩) 1 1) (by simp [execOp, go_sem]) ?_
        exact ⟨v14, (.slice (some ⟨w'.heap.size, 0, none⟩) 1 1), v16, v17, v18, v19, v4, w'.heap.size, a6, a7, n6, c6, n7, c7, by rw [ha]; kernel_rfl, hG.trans (Gr.of box_below hz), hO.imp .inr (fun h => h.below box_below), fun h => e0 (h.resolve_left (by decide)), fun _ => rfl, fun h => e2 (h.resolve_left (by decide)), fun h => e3 (h.resolve_left (by decide)), fun h => e4 (h.resolve_left (by decide)), fun h => e5 (h.resolve_left (by decide)), fun h => e6 (h.resolve_left (by decide)), fun h => absurd (h.resolve_left (by decide)) (fun h => (fun h => hn (hcl 2 _ rfl h ⟨1, .data⟩ (by simp) rfl)) (hcl 5 _ rfl h ⟨2, .data⟩ (by simp) rfl)), fun _ _ => isB_lit w' #[.int .u8 0] [0] 1 rfl (by decide) rfl (by intro x hx; simp at hx; omega) (0, 0), fun h _ => absurd (h.resolve_left (by decide)) (fun h => hn (hcl 2 _ rfl h ⟨1, .data⟩ (by simp) rfl))⟩
      | 2, ho =>
        cases Option.some.inj ho
        have ev : a.tmps[14]?.getD undef = .slice a2 n2 c2 := by rw [ha, e0 (hd ⟨0, .data⟩ (by simp) rfl)]; kernel_rfl
        have ev' : a.tmps[15]?.getD undef = .slice (some ⟨nb, 0, none⟩) 1 1 := by rw [ha, e1 (hd ⟨1, .data⟩ (by simp) rfl)]; kernel_rfl
        have hz := Nat.le_trans hb3 hG.below.size
        refine app_op w' (.tmp 14) (.tmp 15) rfl w0.heap.size _ _ (by simp [Act.eval, ev]) (hO.resolve_left hn) ⟨nb, 0, none⟩ 1 1 [0] (by simp [Act.eval, ev']) (hI (hd ⟨1, .data⟩ (by simp) rfl) hn) (by rw [List.length_append]; omega) hz ?_
        intro a6' n6' c6' w6 O6 G6
        exact ⟨v14, v15, (.slice a6' n6' c6'), v17, v18, v19, v4, nb, a6', a7, n6', c6', n7, c7, by rw [ha]; kernel_rfl, hG.trans G6, .inl (.inl rfl), fun h => e0 (h.resolve_left (by decide)), fun h => e1 (h.resolve_left (by decide)), fun _ => rfl, fun h => e3 (h.resolve_left (by decide)), fun h => e4 (h.resolve_left (by decide)), fun h => e5 (h.resolve_left (by decide)), fun h => e6 (h.resolve_left (by decide)), fun h => absurd (h.resolve_left (by decide)) (fun h => hn (hcl 5 _ rfl h ⟨2, .data⟩ (by simp) rfl)), fun _ h' => absurd (.inl rfl) h', fun _ _ => O6⟩
      | 3, ho =>
        cases Option.some.inj ho
        have ev : a.tmps[3]?.getD undef = .pointer (some ⟨xb, 0, none⟩) := by rw [ha]; kernel_rfl
        refine wp_value (w' := w') (v := .pointer (some ⟨xb, 2, none⟩)) (by simp [execOp, ev, go_sem]) ?_
        exact ⟨v14, v15, v16, (.pointer (some ⟨xb, 2, none⟩)), v18, v19, v4, nb, a6, a7, n6, c6, n7, c7, by rw [ha]; kernel_rfl, hG, hO.imp_left .inr, fun h => e0 (h.resolve_left (by decide)), fun h => e1 (h.resolve_left (by decide)), fun h => e2 (h.resolve_left (by decide)), fun _ => rfl, fun h => e4 (h.resolve_left (by decide)), fun h => e5 (h.resolve_left (by decide)), fun h => e6 (h.resolve_left (by decide)), fun h => hQ (h.resolve_left (by decide)), fun h h' => hI (h.resolve_left (by decide)) (fun k => h' (.inr k)), fun h h' => hP (h.resolve_left (by decide)) (fun k => h' (.inr k))⟩
      | 4, ho =>
        cases Option.some.inj ho
        have ev : a.tmps[17]?.getD undef = .pointer (some ⟨xb, 2, none⟩) := by rw [ha, e3 (hd ⟨3, .data⟩ (by simp) rfl)]; kernel_rfl
        have EE := hG.keep xb _ 77 (by decide) E2
        obtain ⟨_, _, y2, y3, y4⟩ := chg_cells (o := (o : Int)) (g := false) EE
        refine wp_value (w' := w') (v := .agg #[.int .i64 c, .slice sa sn sc, .slice ba bn bc]) (by simp [execOp, ev, go_sem, y2, y3, y4]) ?_
        exact ⟨v14, v15, v16, v17, (.agg #[.int .i64 c, .slice sa sn sc, .slice ba bn bc]), v19, v4, nb, a6, a7, n6, c6, n7, c7, by rw [ha]; kernel_rfl, hG, hO.imp_left .inr, fun h => e0 (h.resolve_left (by decide)), fun h => e1 (h.resolve_left (by decide)), fun h => e2 (h.resolve_left (by decide)), fun h => e3 (h.resolve_left (by decide)), fun _ => rfl, fun h => e5 (h.resolve_left (by decide)), fun h => e6 (h.resolve_left (by decide)), fun h => hQ (h.resolve_left (by decide)), fun h h' => hI (h.resolve_left (by decide)) (fun k => h' (.inr k)), fun h h' => hP (h.resolve_left (by decide)) (fun k => h' (.inr k))⟩
      | 5, ho =>
        cases Option.some.inj ho
        have ev : a.tmps[16]?.getD undef = .slice a6 n6 c6 := by rw [ha, e2 (hd ⟨2, .data⟩ (by simp) rfl)]; kernel_rfl
        have ev' : a.tmps[18]?.getD undef = .agg #[.int .i64 c, .slice sa sn sc, .slice ba bn bc] := by rw [ha, e4 (hd ⟨4, .data⟩ (by simp) rfl)]; kernel_rfl
        have hz2 := hP (hd ⟨2, .data⟩ (by simp) rfl) hn
        have bz := (B0.trans G2'.below).trans hG.below
        refine wp_enter (f := 43) (args := #[.slice a6 n6 c6, .agg #[.int .i64 c, .slice sa sn sc, .slice ba bn bc]]) (by simp [execOp, ev, ev', go_sem]) ?_
        refine (appendObj_any hz2 hob hokO bz (by rw [List.length_append, List.length_append]; simp; omega)).mono ?_
        rintro e w6 ⟨v', rfl, O7, G7⟩
        refine ⟨_, rfl, ?_⟩
        obtain ⟨a7', n7', c7', rfl⟩ := O7.shape'
        exact ⟨v14, v15, v16, v17, v18, (.slice a7' n7' c7'), v4, nb, a6, a7', n6, c6, n7', c7', by rw [ha]; kernel_rfl, hG.trans G7, .inl (.inr (hd ⟨2, .data⟩ (by simp) rfl)), fun h => e0 (h.resolve_left (by decide)), fun h => e1 (h.resolve_left (by decide)), fun h => e2 (h.resolve_left (by decide)), fun h => e3 (h.resolve_left (by decide)), fun h => e4 (h.resolve_left (by decide)), fun _ => rfl, fun h => absurd (h.resolve_left (by decide)) (fun h => hn (hcl 6 _ rfl h ⟨5, .data⟩ (by simp) rfl)), fun _ => O7, fun _ h' => absurd (Or.inr (hd ⟨2, .data⟩ (by simp) rfl)) h', fun _ h' => absurd (.inl rfl) h'⟩
      | 6, ho =>
        cases Option.some.inj ho
        have ev : a.tmps[19]?.getD undef = .slice a7 n7 c7 := by rw [ha, e5 (hd ⟨5, .data⟩ (by simp) rfl)]; kernel_rfl
        refine wp_value (w' := w') (v := .slice a7 n7 c7) (by simp [execOp, ev, go_sem]) ?_
        exact ⟨v14, v15, v16, v17, v18, v19, (.slice a7 n7 c7), nb, a6, a7, n6, c6, n7, c7, by rw [ha]; kernel_rfl, hG, hO.imp_left .inr, fun h => e0 (h.resolve_left (by decide)), fun h => e1 (h.resolve_left (by decide)), fun h => e2 (h.resolve_left (by decide)), fun h => e3 (h.resolve_left (by decide)), fun h => e4 (h.resolve_left (by decide)), fun h => e5 (h.resolve_left (by decide)), fun _ => rfl, fun h => hQ (h.resolve_left (by decide)), fun h h' => hI (h.resolve_left (by decide)) (fun k => h' (.inr k)), fun h h' => hP (h.resolve_left (by decide)) (fun k => h' (.inr k))⟩
      | i + 7, ho => simp at ho
    case done =>
      rintro D a w' ⟨v14, v15, v16, v17, v18, v19, v4, nb, a6, a7, n6, c6, n7, c7, ha, hG, hO, e0, e1, e2, e3, e4, e5, e6, hQ, hI, hP⟩ hall
      have O9 := hQ (hall 5 (by decide))
      obtain rfl := e0 (hall 0 (by decide))
      obtain rfl := e1 (hall 1 (by decide))
      obtain rfl := e2 (hall 2 (by decide))
      obtain rfl := e3 (hall 3 (by decide))
      obtain rfl := e4 (hall 4 (by decide))
      obtain rfl := e5 (hall 5 (by decide))
      obtain rfl := e6 (hall 6 (by decide))
      clear hO hQ hI hP hall e0 e1 e2 e3 e4 e5 e6
      rw [ha]
      clear ha
      simp only [Act.put, List.setIfInBounds_toArray, List.set_cons_zero, List.set_cons_succ]
      go_wp2_with fail
      go_ret
      have G9 := G2'.trans hG
      exact ⟨_, rfl, by rw [e0.out, ← List.append_assoc, ← List.append_assoc]; exact O9, G9⟩
end Go.Proofs.Ytjfaflmmanjjbaa
