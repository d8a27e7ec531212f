/- given: ops as the program has them. -/
import Derived.Test.YtkkilenokpoaoaaBagsA
import Derived.Test.YtkkilenokpoaoaaKnow
namespace Go.Proofs.Ytkkilenokpoaoaa
open Go.RowKit
set_option maxRecDepth 100000
theorem appP_op {o : Oper} {a : Act} {K : Act → World → Prop} {Q : Exit → Act → World → Prop} (w : World) (s x : Operand)
    (ho : o.op = .call { callee := .builtin .append, args := #[s, x], argTypes := #[48, 48] })
    (base : Nat) (v : Value) (xs : List Pp) (hs : a.eval s = v) (hown : OwnP w base v xs)
    (ad : Addr) (len cap : Nat) (ys : List Pp) (hx : a.eval x = .slice (some ad) len cap) (hB : IsP w (some ad) len cap ys) (h47 : xs.length + len ≤ 4398046511104) (hbase : base ≤ w.heap.size)
    (h : ∀ a' n' c' w', OwnP w' base (.slice a' n' c') (xs ++ ys) → Below base w w' → K (a.put o.dst (.slice a' n' c')) w') : o.wp Try.prog a w K Q := by
  obtain ⟨i0, hi, hz0, hz1, hz2⟩ := info_parts Try.info66
  refine wp_append_own w s x 48 ho base 66 i0 (.agg #[.int .i64 0, .bool false, .int .i64 0, .int .i64 0]) 4 32 Try.underlying48 hi hz0 hz1 hz2 rfl (by decide) _ xs.length _ hs hown.1 ad len cap (flatP ys) hx (by rw [flatP_len, hB.size]) (hB.cellsAt ad rfl) (flatP_one ys) (by unfold maxLen; omega) (by omega) hbase ?_
  intro v' w' hown' hgrow _
  rw [← flatP_app] at hown'
  have O := ownP_of hown' (fun p hp => (List.mem_append.1 hp).elim (hown.wf p) (hB.wf p))
  obtain ⟨_, a', c', rfl, _⟩ := id O
  exact h a' _ c' w' O ((Below.refl _ _).grown hgrow hbase (fun j hj => (hown.1.lt j hj).1))
set_option maxHeartbeats 8000000 in
theorem given_any {w : World} {a : Option Addr} {n cap : Nat} {ps : List Pp} (hP : IsP w a n cap ps) (hn : n ≤ 100) :
    Calls Try.prog 14 #[.slice a n cap] w fun e w' => ∃ oa oc, e = .returned (.slice oa n oc) ∧ OwnP w' w.heap.size (.slice oa n oc) ps ∧ Below w.heap.size w w' := by
  have s1 := hP.size
  go_enter Try.func14, Try.ntmps14
  go_wp2_with fail
  go_loopw [3, 4] (fun ov iv wr => ∃ (k : Nat) (oa : Option Addr) (oc : Nat), k ≤ n ∧ iv = .int .i64 (k : Int) ∧ ov = .slice oa (ps.take k).length oc ∧ OwnP wr w.heap.size (.slice oa (ps.take k).length oc) (ps.take k) ∧ Below w.heap.size w wr) (fun _ iv _ => n - (intOf iv).toNat)
  case atStart => exact ⟨0, none, 0, by omega, rfl, rfl, ownP_of (n := 0) (World.ownsRow_nil _ _ _ _) (by intro p hp; cases hp), Below.refl _ _⟩
  case round =>
    obtain ⟨k, oa, oc, hk, rfl, rfl, OP, Bb⟩ := hrel
    have hkl : (ps.take k).length = k := by rw [List.length_take]; omega
    by_cases hlt : k < n
    · obtain ⟨b, off, p, rfl, hbl, hpk, ⟨q0, q1, q2, q3⟩, hpo⟩ := (hP.below Bb).at_ k hlt
      have hsn : Hid (ps.take (k + 1) = ps.take k ++ [p]) := take_at hpk.out
      have hok1 : ∀ p' ∈ [p], p'.ok := by intro p' hp'; rw [List.mem_singleton] at hp'; subst hp'; exact hpo
      obtain ⟨oo, ad, pk, pN⟩ := p
      simp only at q0 q1 q2 q3
      have hPl : (ps.take k).length + 1 ≤ 4398046511104 := by omega
      have hbase := Bb.size
      have hki : (k : Int) < (n : Int) := by omega
      have hk0 : (0 : Int) ≤ (k : Int) := by omega
      clear hkl hpk hpo
      generalize ps.take k = Ps at *
      obtain ⟨L, hL⟩ : ∃ L, Hid (Ps.length = L) := ⟨_, rfl⟩
      rw [hL.out] at OP ⊢
      obtain ⟨base, hbs⟩ : ∃ base, base = w.heap.size := ⟨_, rfl⟩
      rw [← hbs] at OP hbase Bb ⊢
      clear hbs
      go_upto_region 5 with fail
      refine wp_region_inv' (fun A D a w' => ∃ v11 v12 v13 v14 v15 v16 v17 v18 v19 v20 v21 v22 v23 v24 v25 v26 v27 v28 v29 v3 nb a8 n8 c8, a = ((((((((((((((((((((A.put (some 11) v11).put (some 12) v12).put (some 13) v13).put (some 14) v14).put (some 15) v15).put (some 16) v16).put (some 17) v17).put (some 18) v18).put (some 19) v19).put (some 20) v20).put (some 21) v21).put (some 22) v22).put (some 23) v23).put (some 24) v24).put (some 25) v25).put (some 26) v26).put (some 27) v27).put (some 28) v28).put (some 29) v29).put (some 3) v3) ∧ (D 19 ∨ v3 = .slice oa L oc) ∧ (D 18 ∨ Below wr.heap.size wr w') ∧ (D 0 → v11 = .slice oa L oc) ∧ (D 1 → v12 = .slice (some ⟨b, off, none⟩) n cap) ∧ (D 2 → v13 = .int .i64 (k : Int)) ∧ (D 3 → v14 = .pointer (some ⟨b, off + k * 4, none⟩)) ∧ (D 4 → v15 = .pointer (some ⟨b, off + k * 4, none⟩)) ∧ (D 5 → v16 = .int .i64 oo) ∧ (D 6 → v17 = .slice (some ⟨b, off, none⟩) n cap) ∧ (D 7 → v18 = .int .i64 (k : Int)) ∧ (D 8 → v19 = .pointer (some ⟨b, off + k * 4, none⟩)) ∧ (D 9 → v20 = .pointer (some ⟨b, off + k * 4 + 1, none⟩)) ∧ (D 10 → v21 = .bool ad) ∧ (D 11 → v22 = .slice (some ⟨b, off, none⟩) n cap) ∧ (D 12 → v23 = .int .i64 (k : Int)) ∧ (D 13 → v24 = .pointer (some ⟨b, off + k * 4, none⟩)) ∧ (D 14 → v25 = .pointer (some ⟨b, off + k * 4 + 2, none⟩)) ∧ (D 15 → v26 = .agg #[.int .i64 pk, .int .i64 pN]) ∧ (D 16 → v27 = .agg #[.int .i64 oo, .bool ad, .int .i64 pk, .int .i64 pN]) ∧ (D 17 → v28 = .slice (some ⟨nb, 0, none⟩) 1 1) ∧ (D 18 → v29 = .slice a8 n8 c8) ∧ (D 19 → v3 = .slice a8 n8 c8) ∧ (D 18 → OwnP w' base (.slice a8 n8 c8) (Ps ++ [⟨oo, ad, pk, pN⟩]) ∧ Below base wr w') ∧ (D 17 → ¬ D 18 → IsP w' (some ⟨nb, 0, none⟩) 1 1 [⟨oo, ad, pk, pN⟩])) (by kernel_rfl) (by kernel_rfl) ?mono ?start ?step ?done
      case mono =>
        rintro D D' a w' hD ⟨v11, v12, v13, v14, v15, v16, v17, v18, v19, v20, v21, v22, v23, v24, v25, v26, v27, v28, v29, v3, nb, a8, n8, c8, ha, o3, hB, e0, e1, e2, e3, e4, e5, e6, e7, e8, e9, e10, e11, e12, e13, e14, e15, e16, e17, e18, e19, hA, hLit⟩
        exact ⟨v11, v12, v13, v14, v15, v16, v17, v18, v19, v20, v21, v22, v23, v24, v25, v26, v27, v28, v29, v3, nb, a8, n8, c8, ha, o3.imp_left (hD 19).1, hB.imp_left (hD 18).1, fun h => e0 ((hD 0).2 h), fun h => e1 ((hD 1).2 h), fun h => e2 ((hD 2).2 h), fun h => e3 ((hD 3).2 h), fun h => e4 ((hD 4).2 h), fun h => e5 ((hD 5).2 h), fun h => e6 ((hD 6).2 h), fun h => e7 ((hD 7).2 h), fun h => e8 ((hD 8).2 h), fun h => e9 ((hD 9).2 h), fun h => e10 ((hD 10).2 h), fun h => e11 ((hD 11).2 h), fun h => e12 ((hD 12).2 h), fun h => e13 ((hD 13).2 h), fun h => e14 ((hD 14).2 h), fun h => e15 ((hD 15).2 h), fun h => e16 ((hD 16).2 h), fun h => e17 ((hD 17).2 h), fun h => e18 ((hD 18).2 h), fun h => e19 ((hD 19).2 h), fun h => hA ((hD 18).2 h), fun h h' => hLit ((hD 17).2 h) (fun k => h' ((hD 18).1 k))⟩
      case start => exact ⟨u11, u12, u13, u14, u15, u16, u17, u18, u19, u20, u21, u22, u23, u24, u25, u26, u27, u28, u29, .slice oa L oc, 0, none, 0, 0, by kernel_rfl, .inr rfl, .inr ((Below.refl _ _).drew), fun h => h.elim, fun h => h.elim, fun h => h.elim, fun h => h.elim, fun h => h.elim, fun h => h.elim, fun h => h.elim, fun h => h.elim, fun h => h.elim, fun h => h.elim, fun h => h.elim, fun h => h.elim, fun h => h.elim, fun h => h.elim, fun h => h.elim, fun h => h.elim, fun h => h.elim, fun h => h.elim, fun h => h.elim, fun h => h.elim, fun h => h.elim, fun h _ => h.elim⟩
      case step =>
        intro i o ho D a w' hI hn hcl hd
        obtain ⟨v11, v12, v13, v14, v15, v16, v17, v18, v19, v20, v21, v22, v23, v24, v25, v26, v27, v28, v29, v3, nb, a8, n8, c8, ha, o3, hB, e0, e1, e2, e3, e4, e5, e6, e7, e8, e9, e10, e11, e12, e13, e14, e15, e16, e17, e18, e19, hA, hLit⟩ := hI
        match i, ho with
        | 0, ho =>
          cases Option.some.inj ho
          have ev : a.tmps[3]?.getD undef = .slice oa L oc := by rw [ha, o3.resolve_left (fun h => (fun h => hn (hcl 18 _ rfl h ⟨0, .data⟩ (by simp) rfl)) (hcl 19 _ rfl h ⟨18, .data⟩ (by simp) rfl))]; kernel_rfl
          refine wp_value (w' := w') (v := .slice oa L oc) (by simp [execOp, ev, go_sem]) ?_
          exact ⟨(.slice oa L oc), v12, v13, v14, v15, v16, v17, v18, v19, v20, v21, v22, v23, v24, v25, v26, v27, v28, v29, v3, nb, a8, n8, c8, by rw [ha]; kernel_rfl, o3.imp_left .inr, hB.imp_left .inr, fun _ => rfl, fun h => e1 (h.resolve_left (by decide)), fun h => e2 (h.resolve_left (by decide)), fun h => e3 (h.resolve_left (by decide)), fun h => e4 (h.resolve_left (by decide)), fun h => e5 (h.resolve_left (by decide)), fun h => e6 (h.resolve_left (by decide)), fun h => e7 (h.resolve_left (by decide)), fun h => e8 (h.resolve_left (by decide)), fun h => e9 (h.resolve_left (by decide)), fun h => e10 (h.resolve_left (by decide)), fun h => e11 (h.resolve_left (by decide)), fun h => e12 (h.resolve_left (by decide)), fun h => e13 (h.resolve_left (by decide)), fun h => e14 (h.resolve_left (by decide)), fun h => e15 (h.resolve_left (by decide)), fun h => e16 (h.resolve_left (by decide)), fun h => e17 (h.resolve_left (by decide)), fun h => e18 (h.resolve_left (by decide)), fun h => e19 (h.resolve_left (by decide)), fun h => hA (h.resolve_left (by decide)), fun h h' => hLit (h.resolve_left (by decide)) (fun k => h' (.inr k))⟩
        | 1, ho =>
          cases Option.some.inj ho
          have ev : a.tmps[0]?.getD undef = .slice (some ⟨b, off, none⟩) n cap := by rw [ha]; kernel_rfl
          refine wp_value (w' := w') (v := .slice (some ⟨b, off, none⟩) n cap) (by simp [execOp, ev, go_sem]) ?_
          exact ⟨v11, (.slice (some ⟨b, off, none⟩) n cap), v13, v14, v15, v16, v17, v18, v19, v20, v21, v22, v23, v24, v25, v26, v27, v28, v29, v3, nb, a8, n8, c8, by rw [ha]; kernel_rfl, o3.imp_left .inr, hB.imp_left .inr, fun h => e0 (h.resolve_left (by decide)), fun _ => rfl, fun h => e2 (h.resolve_left (by decide)), fun h => e3 (h.resolve_left (by decide)), fun h => e4 (h.resolve_left (by decide)), fun h => e5 (h.resolve_left (by decide)), fun h => e6 (h.resolve_left (by decide)), fun h => e7 (h.resolve_left (by decide)), fun h => e8 (h.resolve_left (by decide)), fun h => e9 (h.resolve_left (by decide)), fun h => e10 (h.resolve_left (by decide)), fun h => e11 (h.resolve_left (by decide)), fun h => e12 (h.resolve_left (by decide)), fun h => e13 (h.resolve_left (by decide)), fun h => e14 (h.resolve_left (by decide)), fun h => e15 (h.resolve_left (by decide)), fun h => e16 (h.resolve_left (by decide)), fun h => e17 (h.resolve_left (by decide)), fun h => e18 (h.resolve_left (by decide)), fun h => e19 (h.resolve_left (by decide)), fun h => hA (h.resolve_left (by decide)), fun h h' => hLit (h.resolve_left (by decide)) (fun k => h' (.inr k))⟩
        | 2, ho =>
          cases Option.some.inj ho
          have ev : a.tmps[4]?.getD undef = .int .i64 (k : Int) := by rw [ha]; kernel_rfl
          refine wp_value (w' := w') (v := .int .i64 (k : Int)) (by simp [execOp, ev, go_sem]) ?_
          exact ⟨v11, v12, (.int .i64 (k : Int)), v14, v15, v16, v17, v18, v19, v20, v21, v22, v23, v24, v25, v26, v27, v28, v29, v3, nb, a8, n8, c8, by rw [ha]; kernel_rfl, o3.imp_left .inr, hB.imp_left .inr, fun h => e0 (h.resolve_left (by decide)), fun h => e1 (h.resolve_left (by decide)), fun _ => rfl, fun h => e3 (h.resolve_left (by decide)), fun h => e4 (h.resolve_left (by decide)), fun h => e5 (h.resolve_left (by decide)), fun h => e6 (h.resolve_left (by decide)), fun h => e7 (h.resolve_left (by decide)), fun h => e8 (h.resolve_left (by decide)), fun h => e9 (h.resolve_left (by decide)), fun h => e10 (h.resolve_left (by decide)), fun h => e11 (h.resolve_left (by decide)), fun h => e12 (h.resolve_left (by decide)), fun h => e13 (h.resolve_left (by decide)), fun h => e14 (h.resolve_left (by decide)), fun h => e15 (h.resolve_left (by decide)), fun h => e16 (h.resolve_left (by decide)), fun h => e17 (h.resolve_left (by decide)), fun h => e18 (h.resolve_left (by decide)), fun h => e19 (h.resolve_left (by decide)), fun h => hA (h.resolve_left (by decide)), fun h h' => hLit (h.resolve_left (by decide)) (fun k => h' (.inr k))⟩
        | 3, ho =>
          cases Option.some.inj ho
          have ev : a.tmps[12]?.getD undef = .slice (some ⟨b, off, none⟩) n cap := by rw [ha, e1 (hd ⟨1, .data⟩ (by simp) rfl)]; kernel_rfl
          have ev' : a.tmps[13]?.getD undef = .int .i64 (k : Int) := by rw [ha, e2 (hd ⟨2, .data⟩ (by simp) rfl)]; kernel_rfl
          refine wp_value (w' := w') (v := .pointer (some ⟨b, off + k * 4, none⟩)) (by simp [execOp, ev, ev', go_sem, hki, hk0]) ?_
          exact ⟨v11, v12, v13, (.pointer (some ⟨b, off + k * 4, none⟩)), v15, v16, v17, v18, v19, v20, v21, v22, v23, v24, v25, v26, v27, v28, v29, v3, nb, a8, n8, c8, by rw [ha]; kernel_rfl, o3.imp_left .inr, hB.imp_left .inr, fun h => e0 (h.resolve_left (by decide)), fun h => e1 (h.resolve_left (by decide)), fun h => e2 (h.resolve_left (by decide)), fun _ => rfl, fun h => e4 (h.resolve_left (by decide)), fun h => e5 (h.resolve_left (by decide)), fun h => e6 (h.resolve_left (by decide)), fun h => e7 (h.resolve_left (by decide)), fun h => e8 (h.resolve_left (by decide)), fun h => e9 (h.resolve_left (by decide)), fun h => e10 (h.resolve_left (by decide)), fun h => e11 (h.resolve_left (by decide)), fun h => e12 (h.resolve_left (by decide)), fun h => e13 (h.resolve_left (by decide)), fun h => e14 (h.resolve_left (by decide)), fun h => e15 (h.resolve_left (by decide)), fun h => e16 (h.resolve_left (by decide)), fun h => e17 (h.resolve_left (by decide)), fun h => e18 (h.resolve_left (by decide)), fun h => e19 (h.resolve_left (by decide)), fun h => hA (h.resolve_left (by decide)), fun h h' => hLit (h.resolve_left (by decide)) (fun k => h' (.inr k))⟩
        | 4, ho =>
          cases Option.some.inj ho
          have ev : a.tmps[14]?.getD undef = .pointer (some ⟨b, off + k * 4, none⟩) := by rw [ha, e3 (hd ⟨3, .data⟩ (by simp) rfl)]; kernel_rfl
          refine wp_value (w' := w') (v := .pointer (some ⟨b, off + k * 4, none⟩)) (by simp [execOp, ev, go_sem]) ?_
          exact ⟨v11, v12, v13, v14, (.pointer (some ⟨b, off + k * 4, none⟩)), v16, v17, v18, v19, v20, v21, v22, v23, v24, v25, v26, v27, v28, v29, v3, nb, a8, n8, c8, by rw [ha]; kernel_rfl, o3.imp_left .inr, hB.imp_left .inr, fun h => e0 (h.resolve_left (by decide)), fun h => e1 (h.resolve_left (by decide)), fun h => e2 (h.resolve_left (by decide)), fun h => e3 (h.resolve_left (by decide)), fun _ => rfl, fun h => e5 (h.resolve_left (by decide)), fun h => e6 (h.resolve_left (by decide)), fun h => e7 (h.resolve_left (by decide)), fun h => e8 (h.resolve_left (by decide)), fun h => e9 (h.resolve_left (by decide)), fun h => e10 (h.resolve_left (by decide)), fun h => e11 (h.resolve_left (by decide)), fun h => e12 (h.resolve_left (by decide)), fun h => e13 (h.resolve_left (by decide)), fun h => e14 (h.resolve_left (by decide)), fun h => e15 (h.resolve_left (by decide)), fun h => e16 (h.resolve_left (by decide)), fun h => e17 (h.resolve_left (by decide)), fun h => e18 (h.resolve_left (by decide)), fun h => e19 (h.resolve_left (by decide)), fun h => hA (h.resolve_left (by decide)), fun h h' => hLit (h.resolve_left (by decide)) (fun k => h' (.inr k))⟩
        | 5, ho =>
          cases Option.some.inj ho
          have ev : a.tmps[15]?.getD undef = .pointer (some ⟨b, off + k * 4, none⟩) := by rw [ha, e4 (hd ⟨4, .data⟩ (by simp) rfl)]; kernel_rfl
          have hb := hB.resolve_left (fun h => (fun h => (fun h => hn (hcl 16 _ rfl h ⟨5, .data⟩ (by simp) rfl)) (hcl 17 _ rfl h ⟨16, .data⟩ (by simp) rfl)) (hcl 18 _ rfl h ⟨17, .data⟩ (by simp) rfl))
          have z0 := (hb.cell (p := ⟨b, off + k * 4, none⟩) (lt_of_cell q0)).trans q0
          refine wp_value (w' := w') (v := .int .i64 oo) (by simp [execOp, ev, go_sem, z0]) ?_
          exact ⟨v11, v12, v13, v14, v15, (.int .i64 oo), v17, v18, v19, v20, v21, v22, v23, v24, v25, v26, v27, v28, v29, v3, nb, a8, n8, c8, by rw [ha]; kernel_rfl, o3.imp_left .inr, hB.imp_left .inr, fun h => e0 (h.resolve_left (by decide)), fun h => e1 (h.resolve_left (by decide)), fun h => e2 (h.resolve_left (by decide)), fun h => e3 (h.resolve_left (by decide)), fun h => e4 (h.resolve_left (by decide)), fun _ => rfl, fun h => e6 (h.resolve_left (by decide)), fun h => e7 (h.resolve_left (by decide)), fun h => e8 (h.resolve_left (by decide)), fun h => e9 (h.resolve_left (by decide)), fun h => e10 (h.resolve_left (by decide)), fun h => e11 (h.resolve_left (by decide)), fun h => e12 (h.resolve_left (by decide)), fun h => e13 (h.resolve_left (by decide)), fun h => e14 (h.resolve_left (by decide)), fun h => e15 (h.resolve_left (by decide)), fun h => e16 (h.resolve_left (by decide)), fun h => e17 (h.resolve_left (by decide)), fun h => e18 (h.resolve_left (by decide)), fun h => e19 (h.resolve_left (by decide)), fun h => hA (h.resolve_left (by decide)), fun h h' => hLit (h.resolve_left (by decide)) (fun k => h' (.inr k))⟩
        | 6, ho =>
          cases Option.some.inj ho
          have ev : a.tmps[0]?.getD undef = .slice (some ⟨b, off, none⟩) n cap := by rw [ha]; kernel_rfl
          refine wp_value (w' := w') (v := .slice (some ⟨b, off, none⟩) n cap) (by simp [execOp, ev, go_sem]) ?_
          exact ⟨v11, v12, v13, v14, v15, v16, (.slice (some ⟨b, off, none⟩) n cap), v18, v19, v20, v21, v22, v23, v24, v25, v26, v27, v28, v29, v3, nb, a8, n8, c8, by rw [ha]; kernel_rfl, o3.imp_left .inr, hB.imp_left .inr, fun h => e0 (h.resolve_left (by decide)), fun h => e1 (h.resolve_left (by decide)), fun h => e2 (h.resolve_left (by decide)), fun h => e3 (h.resolve_left (by decide)), fun h => e4 (h.resolve_left (by decide)), fun h => e5 (h.resolve_left (by decide)), fun _ => rfl, fun h => e7 (h.resolve_left (by decide)), fun h => e8 (h.resolve_left (by decide)), fun h => e9 (h.resolve_left (by decide)), fun h => e10 (h.resolve_left (by decide)), fun h => e11 (h.resolve_left (by decide)), fun h => e12 (h.resolve_left (by decide)), fun h => e13 (h.resolve_left (by decide)), fun h => e14 (h.resolve_left (by decide)), fun h => e15 (h.resolve_left (by decide)), fun h => e16 (h.resolve_left (by decide)), fun h => e17 (h.resolve_left (by decide)), fun h => e18 (h.resolve_left (by decide)), fun h => e19 (h.resolve_left (by decide)), fun h => hA (h.resolve_left (by decide)), fun h h' => hLit (h.resolve_left (by decide)) (fun k => h' (.inr k))⟩
        | 7, ho =>
          cases Option.some.inj ho
          have ev : a.tmps[4]?.getD undef = .int .i64 (k : Int) := by rw [ha]; kernel_rfl
          refine wp_value (w' := w') (v := .int .i64 (k : Int)) (by simp [execOp, ev, go_sem]) ?_
          exact ⟨v11, v12, v13, v14, v15, v16, v17, (.int .i64 (k : Int)), v19, v20, v21, v22, v23, v24, v25, v26, v27, v28, v29, v3, nb, a8, n8, c8, by rw [ha]; kernel_rfl, o3.imp_left .inr, hB.imp_left .inr, fun h => e0 (h.resolve_left (by decide)), fun h => e1 (h.resolve_left (by decide)), fun h => e2 (h.resolve_left (by decide)), fun h => e3 (h.resolve_left (by decide)), fun h => e4 (h.resolve_left (by decide)), fun h => e5 (h.resolve_left (by decide)), fun h => e6 (h.resolve_left (by decide)), fun _ => rfl, fun h => e8 (h.resolve_left (by decide)), fun h => e9 (h.resolve_left (by decide)), fun h => e10 (h.resolve_left (by decide)), fun h => e11 (h.resolve_left (by decide)), fun h => e12 (h.resolve_left (by decide)), fun h => e13 (h.resolve_left (by decide)), fun h => e14 (h.resolve_left (by decide)), fun h => e15 (h.resolve_left (by decide)), fun h => e16 (h.resolve_left (by decide)), fun h => e17 (h.resolve_left (by decide)), fun h => e18 (h.resolve_left (by decide)), fun h => e19 (h.resolve_left (by decide)), fun h => hA (h.resolve_left (by decide)), fun h h' => hLit (h.resolve_left (by decide)) (fun k => h' (.inr k))⟩
        | 8, ho =>
          cases Option.some.inj ho
          have ev : a.tmps[17]?.getD undef = .slice (some ⟨b, off, none⟩) n cap := by rw [ha, e6 (hd ⟨6, .data⟩ (by simp) rfl)]; kernel_rfl
          have ev' : a.tmps[18]?.getD undef = .int .i64 (k : Int) := by rw [ha, e7 (hd ⟨7, .data⟩ (by simp) rfl)]; kernel_rfl
          refine wp_value (w' := w') (v := .pointer (some ⟨b, off + k * 4, none⟩)) (by simp [execOp, ev, ev', go_sem, hki, hk0]) ?_
          exact ⟨v11, v12, v13, v14, v15, v16, v17, v18, (.pointer (some ⟨b, off + k * 4, none⟩)), v20, v21, v22, v23, v24, v25, v26, v27, v28, v29, v3, nb, a8, n8, c8, by rw [ha]; kernel_rfl, o3.imp_left .inr, hB.imp_left .inr, fun h => e0 (h.resolve_left (by decide)), fun h => e1 (h.resolve_left (by decide)), fun h => e2 (h.resolve_left (by decide)), fun h => e3 (h.resolve_left (by decide)), fun h => e4 (h.resolve_left (by decide)), fun h => e5 (h.resolve_left (by decide)), fun h => e6 (h.resolve_left (by decide)), fun h => e7 (h.resolve_left (by decide)), fun _ => rfl, fun h => e9 (h.resolve_left (by decide)), fun h => e10 (h.resolve_left (by decide)), fun h => e11 (h.resolve_left (by decide)), fun h => e12 (h.resolve_left (by decide)), fun h => e13 (h.resolve_left (by decide)), fun h => e14 (h.resolve_left (by decide)), fun h => e15 (h.resolve_left (by decide)), fun h => e16 (h.resolve_left (by decide)), fun h => e17 (h.resolve_left (by decide)), fun h => e18 (h.resolve_left (by decide)), fun h => e19 (h.resolve_left (by decide)), fun h => hA (h.resolve_left (by decide)), fun h h' => hLit (h.resolve_left (by decide)) (fun k => h' (.inr k))⟩
        | 9, ho =>
          cases Option.some.inj ho
          have ev : a.tmps[19]?.getD undef = .pointer (some ⟨b, off + k * 4, none⟩) := by rw [ha, e8 (hd ⟨8, .data⟩ (by simp) rfl)]; kernel_rfl
          refine wp_value (w' := w') (v := .pointer (some ⟨b, off + k * 4 + 1, none⟩)) (by simp [execOp, ev, go_sem]) ?_
          exact ⟨v11, v12, v13, v14, v15, v16, v17, v18, v19, (.pointer (some ⟨b, off + k * 4 + 1, none⟩)), v21, v22, v23, v24, v25, v26, v27, v28, v29, v3, nb, a8, n8, c8, by rw [ha]; kernel_rfl, o3.imp_left .inr, hB.imp_left .inr, fun h => e0 (h.resolve_left (by decide)), fun h => e1 (h.resolve_left (by decide)), fun h => e2 (h.resolve_left (by decide)), fun h => e3 (h.resolve_left (by decide)), fun h => e4 (h.resolve_left (by decide)), fun h => e5 (h.resolve_left (by decide)), fun h => e6 (h.resolve_left (by decide)), fun h => e7 (h.resolve_left (by decide)), fun h => e8 (h.resolve_left (by decide)), fun _ => rfl, fun h => e10 (h.resolve_left (by decide)), fun h => e11 (h.resolve_left (by decide)), fun h => e12 (h.resolve_left (by decide)), fun h => e13 (h.resolve_left (by decide)), fun h => e14 (h.resolve_left (by decide)), fun h => e15 (h.resolve_left (by decide)), fun h => e16 (h.resolve_left (by decide)), fun h => e17 (h.resolve_left (by decide)), fun h => e18 (h.resolve_left (by decide)), fun h => e19 (h.resolve_left (by decide)), fun h => hA (h.resolve_left (by decide)), fun h h' => hLit (h.resolve_left (by decide)) (fun k => h' (.inr k))⟩
        | 10, ho =>
          cases Option.some.inj ho
          have ev : a.tmps[20]?.getD undef = .pointer (some ⟨b, off + k * 4 + 1, none⟩) := by rw [ha, e9 (hd ⟨9, .data⟩ (by simp) rfl)]; kernel_rfl
          have hb := hB.resolve_left (fun h => (fun h => (fun h => hn (hcl 16 _ rfl h ⟨10, .data⟩ (by simp) rfl)) (hcl 17 _ rfl h ⟨16, .data⟩ (by simp) rfl)) (hcl 18 _ rfl h ⟨17, .data⟩ (by simp) rfl))
          have z1 := (hb.cell (p := ⟨b, off + k * 4 + 1, none⟩) (lt_of_cell q1)).trans q1
          refine wp_value (w' := w') (v := .bool ad) (by simp [execOp, ev, go_sem, z1]) ?_
          exact ⟨v11, v12, v13, v14, v15, v16, v17, v18, v19, v20, (.bool ad), v22, v23, v24, v25, v26, v27, v28, v29, v3, nb, a8, n8, c8, by rw [ha]; kernel_rfl, o3.imp_left .inr, hB.imp_left .inr, fun h => e0 (h.resolve_left (by decide)), fun h => e1 (h.resolve_left (by decide)), fun h => e2 (h.resolve_left (by decide)), fun h => e3 (h.resolve_left (by decide)), fun h => e4 (h.resolve_left (by decide)), fun h => e5 (h.resolve_left (by decide)), fun h => e6 (h.resolve_left (by decide)), fun h => e7 (h.resolve_left (by decide)), fun h => e8 (h.resolve_left (by decide)), fun h => e9 (h.resolve_left (by decide)), fun _ => rfl, fun h => e11 (h.resolve_left (by decide)), fun h => e12 (h.resolve_left (by decide)), fun h => e13 (h.resolve_left (by decide)), fun h => e14 (h.resolve_left (by decide)), fun h => e15 (h.resolve_left (by decide)), fun h => e16 (h.resolve_left (by decide)), fun h => e17 (h.resolve_left (by decide)), fun h => e18 (h.resolve_left (by decide)), fun h => e19 (h.resolve_left (by decide)), fun h => hA (h.resolve_left (by decide)), fun h h' => hLit (h.resolve_left (by decide)) (fun k => h' (.inr k))⟩
        | 11, ho =>
          cases Option.some.inj ho
          have ev : a.tmps[0]?.getD undef = .slice (some ⟨b, off, none⟩) n cap := by rw [ha]; kernel_rfl
          refine wp_value (w' := w') (v := .slice (some ⟨b, off, none⟩) n cap) (by simp [execOp, ev, go_sem]) ?_
          exact ⟨v11, v12, v13, v14, v15, v16, v17, v18, v19, v20, v21, (.slice (some ⟨b, off, none⟩) n cap), v23, v24, v25, v26, v27, v28, v29, v3, nb, a8, n8, c8, by rw [ha]; kernel_rfl, o3.imp_left .inr, hB.imp_left .inr, fun h => e0 (h.resolve_left (by decide)), fun h => e1 (h.resolve_left (by decide)), fun h => e2 (h.resolve_left (by decide)), fun h => e3 (h.resolve_left (by decide)), fun h => e4 (h.resolve_left (by decide)), fun h => e5 (h.resolve_left (by decide)), fun h => e6 (h.resolve_left (by decide)), fun h => e7 (h.resolve_left (by decide)), fun h => e8 (h.resolve_left (by decide)), fun h => e9 (h.resolve_left (by decide)), fun h => e10 (h.resolve_left (by decide)), fun _ => rfl, fun h => e12 (h.resolve_left (by decide)), fun h => e13 (h.resolve_left (by decide)), fun h => e14 (h.resolve_left (by decide)), fun h => e15 (h.resolve_left (by decide)), fun h => e16 (h.resolve_left (by decide)), fun h => e17 (h.resolve_left (by decide)), fun h => e18 (h.resolve_left (by decide)), fun h => e19 (h.resolve_left (by decide)), fun h => hA (h.resolve_left (by decide)), fun h h' => hLit (h.resolve_left (by decide)) (fun k => h' (.inr k))⟩
        | 12, ho =>
          cases Option.some.inj ho
          have ev : a.tmps[4]?.getD undef = .int .i64 (k : Int) := by rw [ha]; kernel_rfl
          refine wp_value (w' := w') (v := .int .i64 (k : Int)) (by simp [execOp, ev, go_sem]) ?_
          exact ⟨v11, v12, v13, v14, v15, v16, v17, v18, v19, v20, v21, v22, (.int .i64 (k : Int)), v24, v25, v26, v27, v28, v29, v3, nb, a8, n8, c8, by rw [ha]; kernel_rfl, o3.imp_left .inr, hB.imp_left .inr, fun h => e0 (h.resolve_left (by decide)), fun h => e1 (h.resolve_left (by decide)), fun h => e2 (h.resolve_left (by decide)), fun h => e3 (h.resolve_left (by decide)), fun h => e4 (h.resolve_left (by decide)), fun h => e5 (h.resolve_left (by decide)), fun h => e6 (h.resolve_left (by decide)), fun h => e7 (h.resolve_left (by decide)), fun h => e8 (h.resolve_left (by decide)), fun h => e9 (h.resolve_left (by decide)), fun h => e10 (h.resolve_left (by decide)), fun h => e11 (h.resolve_left (by decide)), fun _ => rfl, fun h => e13 (h.resolve_left (by decide)), fun h => e14 (h.resolve_left (by decide)), fun h => e15 (h.resolve_left (by decide)), fun h => e16 (h.resolve_left (by decide)), fun h => e17 (h.resolve_left (by decide)), fun h => e18 (h.resolve_left (by decide)), fun h => e19 (h.resolve_left (by decide)), fun h => hA (h.resolve_left (by decide)), fun h h' => hLit (h.resolve_left (by decide)) (fun k => h' (.inr k))⟩
        | 13, ho =>
          cases Option.some.inj ho
          have ev : a.tmps[22]?.getD undef = .slice (some ⟨b, off, none⟩) n cap := by rw [ha, e11 (hd ⟨11, .data⟩ (by simp) rfl)]; kernel_rfl
          have ev' : a.tmps[23]?.getD undef = .int .i64 (k : Int) := by rw [ha, e12 (hd ⟨12, .data⟩ (by simp) rfl)]; kernel_rfl
          refine wp_value (w' := w') (v := .pointer (some ⟨b, off + k * 4, none⟩)) (by simp [execOp, ev, ev', go_sem, hki, hk0]) ?_
          exact ⟨v11, v12, v13, v14, v15, v16, v17, v18, v19, v20, v21, v22, v23, (.pointer (some ⟨b, off + k * 4, none⟩)), v25, v26, v27, v28, v29, v3, nb, a8, n8, c8, by rw [ha]; kernel_rfl, o3.imp_left .inr, hB.imp_left .inr, fun h => e0 (h.resolve_left (by decide)), fun h => e1 (h.resolve_left (by decide)), fun h => e2 (h.resolve_left (by decide)), fun h => e3 (h.resolve_left (by decide)), fun h => e4 (h.resolve_left (by decide)), fun h => e5 (h.resolve_left (by decide)), fun h => e6 (h.resolve_left (by decide)), fun h => e7 (h.resolve_left (by decide)), fun h => e8 (h.resolve_left (by decide)), fun h => e9 (h.resolve_left (by decide)), fun h => e10 (h.resolve_left (by decide)), fun h => e11 (h.resolve_left (by decide)), fun h => e12 (h.resolve_left (by decide)), fun _ => rfl, fun h => e14 (h.resolve_left (by decide)), fun h => e15 (h.resolve_left (by decide)), fun h => e16 (h.resolve_left (by decide)), fun h => e17 (h.resolve_left (by decide)), fun h => e18 (h.resolve_left (by decide)), fun h => e19 (h.resolve_left (by decide)), fun h => hA (h.resolve_left (by decide)), fun h h' => hLit (h.resolve_left (by decide)) (fun k => h' (.inr k))⟩
        | 14, ho =>
          cases Option.some.inj ho
          have ev : a.tmps[24]?.getD undef = .pointer (some ⟨b, off + k * 4, none⟩) := by rw [ha, e13 (hd ⟨13, .data⟩ (by simp) rfl)]; kernel_rfl
          refine wp_value (w' := w') (v := .pointer (some ⟨b, off + k * 4 + 2, none⟩)) (by simp [execOp, ev, go_sem]) ?_
          exact ⟨v11, v12, v13, v14, v15, v16, v17, v18, v19, v20, v21, v22, v23, v24, (.pointer (some ⟨b, off + k * 4 + 2, none⟩)), v26, v27, v28, v29, v3, nb, a8, n8, c8, by rw [ha]; kernel_rfl, o3.imp_left .inr, hB.imp_left .inr, fun h => e0 (h.resolve_left (by decide)), fun h => e1 (h.resolve_left (by decide)), fun h => e2 (h.resolve_left (by decide)), fun h => e3 (h.resolve_left (by decide)), fun h => e4 (h.resolve_left (by decide)), fun h => e5 (h.resolve_left (by decide)), fun h => e6 (h.resolve_left (by decide)), fun h => e7 (h.resolve_left (by decide)), fun h => e8 (h.resolve_left (by decide)), fun h => e9 (h.resolve_left (by decide)), fun h => e10 (h.resolve_left (by decide)), fun h => e11 (h.resolve_left (by decide)), fun h => e12 (h.resolve_left (by decide)), fun h => e13 (h.resolve_left (by decide)), fun _ => rfl, fun h => e15 (h.resolve_left (by decide)), fun h => e16 (h.resolve_left (by decide)), fun h => e17 (h.resolve_left (by decide)), fun h => e18 (h.resolve_left (by decide)), fun h => e19 (h.resolve_left (by decide)), fun h => hA (h.resolve_left (by decide)), fun h h' => hLit (h.resolve_left (by decide)) (fun k => h' (.inr k))⟩
        | 15, ho =>
          cases Option.some.inj ho
          have ev : a.tmps[25]?.getD undef = .pointer (some ⟨b, off + k * 4 + 2, none⟩) := by rw [ha, e14 (hd ⟨14, .data⟩ (by simp) rfl)]; kernel_rfl
          have hb := hB.resolve_left (fun h => (fun h => (fun h => hn (hcl 16 _ rfl h ⟨15, .data⟩ (by simp) rfl)) (hcl 17 _ rfl h ⟨16, .data⟩ (by simp) rfl)) (hcl 18 _ rfl h ⟨17, .data⟩ (by simp) rfl))
          have z2 := (hb.cell (p := ⟨b, off + k * 4 + 2, none⟩) (lt_of_cell q2)).trans q2
          have z3 := (hb.cell (p := ⟨b, off + k * 4 + 3, none⟩) (lt_of_cell q3)).trans q3
          refine wp_value (w' := w') (v := .agg #[.int .i64 pk, .int .i64 pN]) (by simp [execOp, ev, go_sem, z2, z3]) ?_
          exact ⟨v11, v12, v13, v14, v15, v16, v17, v18, v19, v20, v21, v22, v23, v24, v25, (.agg #[.int .i64 pk, .int .i64 pN]), v27, v28, v29, v3, nb, a8, n8, c8, by rw [ha]; kernel_rfl, o3.imp_left .inr, hB.imp_left .inr, fun h => e0 (h.resolve_left (by decide)), fun h => e1 (h.resolve_left (by decide)), fun h => e2 (h.resolve_left (by decide)), fun h => e3 (h.resolve_left (by decide)), fun h => e4 (h.resolve_left (by decide)), fun h => e5 (h.resolve_left (by decide)), fun h => e6 (h.resolve_left (by decide)), fun h => e7 (h.resolve_left (by decide)), fun h => e8 (h.resolve_left (by decide)), fun h => e9 (h.resolve_left (by decide)), fun h => e10 (h.resolve_left (by decide)), fun h => e11 (h.resolve_left (by decide)), fun h => e12 (h.resolve_left (by decide)), fun h => e13 (h.resolve_left (by decide)), fun h => e14 (h.resolve_left (by decide)), fun _ => rfl, fun h => e16 (h.resolve_left (by decide)), fun h => e17 (h.resolve_left (by decide)), fun h => e18 (h.resolve_left (by decide)), fun h => e19 (h.resolve_left (by decide)), fun h => hA (h.resolve_left (by decide)), fun h h' => hLit (h.resolve_left (by decide)) (fun k => h' (.inr k))⟩
        | 16, ho =>
          cases Option.some.inj ho
          have ev : a.tmps[16]?.getD undef = .int .i64 oo := by rw [ha, e5 (hd ⟨5, .data⟩ (by simp) rfl)]; kernel_rfl
          have ev' : a.tmps[21]?.getD undef = .bool ad := by rw [ha, e10 (hd ⟨10, .data⟩ (by simp) rfl)]; kernel_rfl
          have ev'' : a.tmps[26]?.getD undef = .agg #[.int .i64 pk, .int .i64 pN] := by rw [ha, e15 (hd ⟨15, .data⟩ (by simp) rfl)]; kernel_rfl
          refine wp_value (w' := w') (v := .agg #[.int .i64 oo, .bool ad, .int .i64 pk, .int .i64 pN]) (by simp [execOp, ev, ev', ev'', go_sem]) ?_
          exact ⟨v11, v12, v13, v14, v15, v16, v17, v18, v19, v20, v21, v22, v23, v24, v25, v26, (.agg #[.int .i64 oo, .bool ad, .int .i64 pk, .int .i64 pN]), v28, v29, v3, nb, a8, n8, c8, by rw [ha]; kernel_rfl, o3.imp_left .inr, hB.imp_left .inr, fun h => e0 (h.resolve_left (by decide)), fun h => e1 (h.resolve_left (by decide)), fun h => e2 (h.resolve_left (by decide)), fun h => e3 (h.resolve_left (by decide)), fun h => e4 (h.resolve_left (by decide)), fun h => e5 (h.resolve_left (by decide)), fun h => e6 (h.resolve_left (by decide)), fun h => e7 (h.resolve_left (by decide)), fun h => e8 (h.resolve_left (by decide)), fun h => e9 (h.resolve_left (by decide)), fun h => e10 (h.resolve_left (by decide)), fun h => e11 (h.resolve_left (by decide)), fun h => e12 (h.resolve_left (by decide)), fun h => e13 (h.resolve_left (by decide)), fun h => e14 (h.resolve_left (by decide)), fun h => e15 (h.resolve_left (by decide)), fun _ => rfl, fun h => e17 (h.resolve_left (by decide)), fun h => e18 (h.resolve_left (by decide)), fun h => e19 (h.resolve_left (by decide)), fun h => hA (h.resolve_left (by decide)), fun h h' => hLit (h.resolve_left (by decide)) (fun k => h' (.inr k))⟩
        | 17, ho =>
          cases Option.some.inj ho
          have ev : a.tmps[27]?.getD undef = .agg #[.int .i64 oo, .bool ad, .int .i64 pk, .int .i64 pN] := by rw [ha, e16 (hd ⟨16, .data⟩ (by simp) rfl)]; kernel_rfl
          refine wp_value (w' := w'.alloc (.cells #[.int .i64 oo, .bool ad, .int .i64 pk, .int .i64 pN] 66)) (v := .slice (some ⟨w'.heap.size, 0, none⟩) 1 1) (by simp [execOp, ev, go_sem]) ?_
          exact ⟨v11, v12, v13, v14, v15, v16, v17, v18, v19, v20, v21, v22, v23, v24, v25, v26, v27, (.slice (some ⟨w'.heap.size, 0, none⟩) 1 1), v29, v3, w'.heap.size, a8, n8, c8, by rw [ha]; kernel_rfl, o3.imp_left .inr, hB.imp .inr (fun h => below_size h h.size box_below), fun h => e0 (h.resolve_left (by decide)), fun h => e1 (h.resolve_left (by decide)), fun h => e2 (h.resolve_left (by decide)), fun h => e3 (h.resolve_left (by decide)), fun h => e4 (h.resolve_left (by decide)), fun h => e5 (h.resolve_left (by decide)), fun h => e6 (h.resolve_left (by decide)), fun h => e7 (h.resolve_left (by decide)), fun h => e8 (h.resolve_left (by decide)), fun h => e9 (h.resolve_left (by decide)), fun h => e10 (h.resolve_left (by decide)), fun h => e11 (h.resolve_left (by decide)), fun h => e12 (h.resolve_left (by decide)), fun h => e13 (h.resolve_left (by decide)), fun h => e14 (h.resolve_left (by decide)), fun h => e15 (h.resolve_left (by decide)), fun h => e16 (h.resolve_left (by decide)), fun _ => rfl, fun h => e18 (h.resolve_left (by decide)), fun h => e19 (h.resolve_left (by decide)), fun h => absurd (h.resolve_left (by decide)) (fun h => hn (hcl 18 _ rfl h ⟨17, .data⟩ (by simp) rfl)), fun _ _ => isP_lit w' [⟨oo, ad, pk, pN⟩] 1 rfl (by decide) hok1⟩
        | 18, ho =>
          cases Option.some.inj ho
          have ev : a.tmps[11]?.getD undef = .slice oa L oc := by rw [ha, e0 (hd ⟨0, .data⟩ (by simp) rfl)]; kernel_rfl
          have ev' : a.tmps[28]?.getD undef = .slice (some ⟨nb, 0, none⟩) 1 1 := by rw [ha, e17 (hd ⟨17, .data⟩ (by simp) rfl)]; kernel_rfl
          have hb := hB.resolve_left hn
          have hL := hLit (hd ⟨17, .data⟩ (by simp) rfl) hn
          have hz := Nat.le_trans hbase hb.size
          refine appP_op w' (.tmp 11) (.tmp 28) rfl base _ Ps (by simpa [Act.eval] using ev) (OP.below hb) _ 1 1 [⟨oo, ad, pk, pN⟩] (by simpa [Act.eval] using ev') hL hPl hz ?_
          intro a8' n8' c8' w6 O6 B6
          exact ⟨v11, v12, v13, v14, v15, v16, v17, v18, v19, v20, v21, v22, v23, v24, v25, v26, v27, v28, (.slice a8' n8' c8'), v3, nb, a8', n8', c8', by rw [ha]; kernel_rfl, o3.imp_left .inr, .inl (.inl rfl), fun h => e0 (h.resolve_left (by decide)), fun h => e1 (h.resolve_left (by decide)), fun h => e2 (h.resolve_left (by decide)), fun h => e3 (h.resolve_left (by decide)), fun h => e4 (h.resolve_left (by decide)), fun h => e5 (h.resolve_left (by decide)), fun h => e6 (h.resolve_left (by decide)), fun h => e7 (h.resolve_left (by decide)), fun h => e8 (h.resolve_left (by decide)), fun h => e9 (h.resolve_left (by decide)), fun h => e10 (h.resolve_left (by decide)), fun h => e11 (h.resolve_left (by decide)), fun h => e12 (h.resolve_left (by decide)), fun h => e13 (h.resolve_left (by decide)), fun h => e14 (h.resolve_left (by decide)), fun h => e15 (h.resolve_left (by decide)), fun h => e16 (h.resolve_left (by decide)), fun h => e17 (h.resolve_left (by decide)), fun _ => rfl, fun h => absurd (h.resolve_left (by decide)) (fun h => hn (hcl 19 _ rfl h ⟨18, .data⟩ (by simp) rfl)), fun _ => ⟨O6, (hb.mono hbase).trans B6⟩, fun _ h' => absurd (.inl rfl) h'⟩
        | 19, ho =>
          cases Option.some.inj ho
          have ev : a.tmps[29]?.getD undef = .slice a8 n8 c8 := by rw [ha, e18 (hd ⟨18, .data⟩ (by simp) rfl)]; kernel_rfl
          refine wp_value (w' := w') (v := .slice a8 n8 c8) (by simp [execOp, ev, go_sem]) ?_
          exact ⟨v11, v12, v13, v14, v15, v16, v17, v18, v19, v20, v21, v22, v23, v24, v25, v26, v27, v28, v29, (.slice a8 n8 c8), nb, a8, n8, c8, by rw [ha]; kernel_rfl, .inl (.inl rfl), hB.imp_left .inr, fun h => e0 (h.resolve_left (by decide)), fun h => e1 (h.resolve_left (by decide)), fun h => e2 (h.resolve_left (by decide)), fun h => e3 (h.resolve_left (by decide)), fun h => e4 (h.resolve_left (by decide)), fun h => e5 (h.resolve_left (by decide)), fun h => e6 (h.resolve_left (by decide)), fun h => e7 (h.resolve_left (by decide)), fun h => e8 (h.resolve_left (by decide)), fun h => e9 (h.resolve_left (by decide)), fun h => e10 (h.resolve_left (by decide)), fun h => e11 (h.resolve_left (by decide)), fun h => e12 (h.resolve_left (by decide)), fun h => e13 (h.resolve_left (by decide)), fun h => e14 (h.resolve_left (by decide)), fun h => e15 (h.resolve_left (by decide)), fun h => e16 (h.resolve_left (by decide)), fun h => e17 (h.resolve_left (by decide)), fun h => e18 (h.resolve_left (by decide)), fun _ => rfl, fun h => hA (h.resolve_left (by decide)), fun h h' => hLit (h.resolve_left (by decide)) (fun k => h' (.inr k))⟩
        | i + 20, ho => simp at ho
      case done =>
        rintro D a w' ⟨v11, v12, v13, v14, v15, v16, v17, v18, v19, v20, v21, v22, v23, v24, v25, v26, v27, v28, v29, v3, nb, a8, n8, c8, ha, o3, hB, e0, e1, e2, e3, e4, e5, e6, e7, e8, e9, e10, e11, e12, e13, e14, e15, e16, e17, e18, e19, hA, hLit⟩ hall
        obtain rfl := e0 (hall 0 (by decide))
        obtain rfl := e1 (hall 1 (by decide))
        obtain rfl := e2 (hall 2 (by decide))
        obtain rfl := e3 (hall 3 (by decide))
        obtain rfl := e4 (hall 4 (by decide))
        obtain rfl := e5 (hall 5 (by decide))
        obtain rfl := e6 (hall 6 (by decide))
        obtain rfl := e7 (hall 7 (by decide))
        obtain rfl := e8 (hall 8 (by decide))
        obtain rfl := e9 (hall 9 (by decide))
        obtain rfl := e10 (hall 10 (by decide))
        obtain rfl := e11 (hall 11 (by decide))
        obtain rfl := e12 (hall 12 (by decide))
        obtain rfl := e13 (hall 13 (by decide))
        obtain rfl := e14 (hall 14 (by decide))
        obtain rfl := e15 (hall 15 (by decide))
        obtain rfl := e16 (hall 16 (by decide))
        obtain rfl := e17 (hall 17 (by decide))
        obtain rfl := e18 (hall 18 (by decide))
        obtain rfl := e19 (hall 19 (by decide))
        obtain ⟨O9, B9⟩ := hA (hall 18 (by decide))
        clear hLit hA hB o3 hall e0 e1 e2 e3 e4 e5 e6 e7 e8 e9 e10 e11 e12 e13 e14 e15 e16 e17 e18 e19
        rw [ha]
        clear ha
        simp only [Act.put, List.setIfInBounds_toArray, List.set_cons_zero, List.set_cons_succ]
        obtain rfl := ownP_len O9
        go_wp2
        go_roundw
        case rel => exact ⟨k + 1, a8, c8, by omega, by go_num, by rw [hsn.out], by rw [hsn.out]; exact O9, Bb.trans B9⟩
        case measure => simp [intOf]; omega
    · have hge : ¬ (k : Int) < (n : Int) := by omega
      have hkn : Hid (k = n) := by rw [Hid]; omega
      have hall : Hid (ps.take k = ps) := List.take_of_length_le (by omega)
      obtain ⟨L, hL⟩ : ∃ L, Hid ((ps.take k).length = L) := ⟨_, rfl⟩
      rw [hL.out] at OP ⊢
      go_wp2
      go_ret
      have hLn : L = n := by rw [← hL.out, hkl]; exact hkn.out
      rw [hall.out] at OP
      subst hLn
      exact ⟨oa, oc, rfl, OP, Bb⟩
end Go.Proofs.Ytkkilenokpoaoaa
