/- taken, Oops and Same: transactions as the document has them, held against one another. -/
import Derived.Test.YtigmpmichhghdaaSer
namespace Go.Proofs.Ytigmpmichhghdaa
open Go.RowKit
set_option maxRecDepth 100000
/-- append of one transaction, within a region that draws its order. -/
theorem app_txn_op {t e : Nat} (htu : Try.prog.underlying t = some (.slice e)) (hinfo : (Try.prog.info? e).map (fun i => (i.zero, i.size, i.bytes)) = some (some (.agg #[.int .i64 0, .int .i64 0, .slice none 0 0, .slice none 0 0]), 4, 64)) (he : e ≠ 2)
    {o : Oper} {a : Act} {K : Act → World → Prop} {Q : Exit → Act → World → Prop} {N : Nat} (w : World) (s x : Operand)
    (ho : o.op = .call { callee := .builtin .append, args := #[s, x], argTypes := #[t, t] })
    (base : Nat) (v : Value) (ms : List Tm) (hs : a.eval s = v) (hown : OwnT N w base e v ms)
    (b : Nat) (m : Tm) (hx : a.eval x = .slice (some ⟨b, 0, none⟩) 1 1) (hc : ∀ j v, m.cells[j]? = some v → w.cell? ⟨b, j, none⟩ = some v) (hm : St N w m)
    (h47 : ms.length ≤ 1954687338265) (hbase : base ≤ w.heap.size) (hN : N ≤ base)
    (h : ∀ a' n' c' w', OwnT N w' base e (.slice a' n' c') (ms ++ [m]) → Below base w w' → K (a.put o.dst (.slice a' n' c')) w') : o.wp Try.prog a w K Q := by
  obtain ⟨i0, hi, hz0, hz1, hz2⟩ := info_parts hinfo
  refine wp_append_own w s x t ho base e i0 (.agg #[.int .i64 0, .int .i64 0, .slice none 0 0, .slice none 0 0]) 4 64 htu hi hz0 hz1 hz2 rfl (by decide) _ ms.length _ hs hown.1 ⟨b, 0, none⟩ 1 1 (flatT [m]) hx rfl (tcell_at hc) (flatT_one _) (by unfold maxLen; omega) (by omega) hbase ?_
  intro v' w' hown' hgrow _
  have O := hown.push hm he hN hgrow hown'
  obtain ⟨a', n', c', hv, _⟩ := O.shape
  subst hv
  exact h a' n' c' w' O ((Below.refl _ _).grown hgrow hbase (fun j hj => (hown.1.lt j hj).1))
set_option maxHeartbeats 8000000 in
theorem taken_any {w : World} {da : Option Addr} {dn dc : Nat} {ms : List Tm} (h : IsTs w da dn dc ms) (hst0 : ∀ m ∈ ms, St 0 w m) (hdn : dn ≤ 1048576) :
    Calls Try.prog 16 #[.slice da dn dc] w fun e w' => ∃ a n c, e = .returned (.slice a n c) ∧ OwnT 0 w' w.heap.size 25 (.slice a n c) ms ∧ Below w.heap.size w w' := by
  have hsz : Hid (ms.length = dn) := h.size
  have hdnI : dn ≤ 9223372036854775807 := by omega
  go_enter Try.func16, Try.ntmps16
  go_wp2
  go_loopw [3, 4] (fun ov iv wr => ∃ k : Nat, k ≤ dn ∧ iv = .int .i64 (k : Int) ∧ OwnT 0 wr w.heap.size 25 ov (ms.take k) ∧ Below w.heap.size w wr) (fun _ iv _ => dn - (intOf iv).toNat)
  case atStart => exact ⟨0, by omega, rfl, ownT_nil _ _ _ _, Below.refl _ _⟩
  case round =>
    obtain ⟨k, hkk, rfl, O, B⟩ := hrel
    obtain ⟨oa, on, oc, rfl, hon⟩ := O.shape
    replace hon : Hid (on = (ms.take k).length) := hon
    by_cases hlt : k < dn
    · obtain ⟨b, off, x, rfl, _, d0, d1, d2, d3, hx, _⟩ := (h.below B).at_ k hlt
      have hkI : (k : Int) < (dn : Int) := by omega
      have hk0 : (0 : Int) ≤ (k : Int) := by omega
      have hst := (hst0 x (List.mem_of_getElem? hx.out)).below B
      have hsn : Hid (ms.take (k + 1) = ms.take k ++ [x]) := take_at hx.out
      have hlen : (ms.take k).length ≤ 1954687338265 := by rw [List.length_take]; omega
      have hbase := B.size
      go_upto_region 5 with fail
      refine wp_region_inv' (fun A D a w' => ∃ v11 v12 v13 v14 v15 v16 v17 v18 v19 v20 v21 v22 v23 v24 v25 v26 v27 v28 v29 v30 v31 v32 v33 v34 v3 nb a8 n8 c8, a = (((((((((((((((((((((((((A.put (some 11) v11).put (some 12) v12).put (some 13) v13).put (some 14) v14).put (some 15) v15).put (some 16) v16).put (some 17) v17).put (some 18) v18).put (some 19) v19).put (some 20) v20).put (some 21) v21).put (some 22) v22).put (some 23) v23).put (some 24) v24).put (some 25) v25).put (some 26) v26).put (some 27) v27).put (some 28) v28).put (some 29) v29).put (some 30) v30).put (some 31) v31).put (some 32) v32).put (some 33) v33).put (some 34) v34).put (some 3) v3) ∧ (D 24 ∨ v3 = .slice oa on oc) ∧ (D 23 ∨ Below wr.heap.size wr w') ∧ (D 0 → v11 = .slice oa on oc) ∧ (D 1 → v12 = .slice (some ⟨b, off, none⟩) dn dc) ∧ (D 2 → v13 = .int .i64 (k : Int)) ∧ (D 3 → v14 = .pointer (some ⟨b, off + k * 4, none⟩)) ∧ (D 4 → v15 = .pointer (some ⟨b, off + k * 4, none⟩)) ∧ (D 5 → v16 = .int .i64 (Tm.base x)) ∧ (D 6 → v17 = .slice (some ⟨b, off, none⟩) dn dc) ∧ (D 7 → v18 = .int .i64 (k : Int)) ∧ (D 8 → v19 = .pointer (some ⟨b, off + k * 4, none⟩)) ∧ (D 9 → v20 = .pointer (some ⟨b, off + k * 4 + 1, none⟩)) ∧ (D 10 → v21 = .int .i64 (Tm.com x)) ∧ (D 11 → v22 = .slice (some ⟨b, off, none⟩) dn dc) ∧ (D 12 → v23 = .int .i64 (k : Int)) ∧ (D 13 → v24 = .pointer (some ⟨b, off + k * 4, none⟩)) ∧ (D 14 → v25 = .pointer (some ⟨b, off + k * 4 + 2, none⟩)) ∧ (D 15 → v26 = .slice (Tm.ra x) (Tm.rn x) (Tm.rc x)) ∧ (D 16 → v27 = .slice (some ⟨b, off, none⟩) dn dc) ∧ (D 17 → v28 = .int .i64 (k : Int)) ∧ (D 18 → v29 = .pointer (some ⟨b, off + k * 4, none⟩)) ∧ (D 19 → v30 = .pointer (some ⟨b, off + k * 4 + 3, none⟩)) ∧ (D 20 → v31 = .slice (Tm.wa x) (Tm.wn x) (Tm.wc x)) ∧ (D 21 → v32 = .agg #[.int .i64 (Tm.base x), .int .i64 (Tm.com x), .slice (Tm.ra x) (Tm.rn x) (Tm.rc x), .slice (Tm.wa x) (Tm.wn x) (Tm.wc x)]) ∧ (D 22 → v33 = .slice (some ⟨nb, 0, none⟩) 1 1) ∧ (D 23 → v34 = .slice a8 n8 c8) ∧ (D 24 → v3 = .slice a8 n8 c8) ∧ (D 23 → OwnT 0 w' w.heap.size 25 (.slice a8 n8 c8) (ms.take k ++ [x]) ∧ Below w.heap.size wr w') ∧ (D 22 → ¬ D 23 → ∀ j v, (Tm.cells x)[j]? = some v → w'.cell? ⟨nb, j, none⟩ = some v)) (by kernel_rfl) (by kernel_rfl) ?mono ?start ?step ?done
      case mono =>
        rintro D D' a w' hD ⟨v11, v12, v13, v14, v15, v16, v17, v18, v19, v20, v21, v22, v23, v24, v25, v26, v27, v28, v29, v30, v31, v32, v33, v34, v3, nb, a8, n8, c8, ha, o3, hB, e0, e1, e2, e3, e4, e5, e6, e7, e8, e9, e10, e11, e12, e13, e14, e15, e16, e17, e18, e19, e20, e21, e22, e23, e24, hA, hLit⟩
        exact ⟨v11, v12, v13, v14, v15, v16, v17, v18, v19, v20, v21, v22, v23, v24, v25, v26, v27, v28, v29, v30, v31, v32, v33, v34, v3, nb, a8, n8, c8, ha, o3.imp_left (hD 24).1, hB.imp_left (hD 23).1, fun h => e0 ((hD 0).2 h), fun h => e1 ((hD 1).2 h), fun h => e2 ((hD 2).2 h), fun h => e3 ((hD 3).2 h), fun h => e4 ((hD 4).2 h), fun h => e5 ((hD 5).2 h), fun h => e6 ((hD 6).2 h), fun h => e7 ((hD 7).2 h), fun h => e8 ((hD 8).2 h), fun h => e9 ((hD 9).2 h), fun h => e10 ((hD 10).2 h), fun h => e11 ((hD 11).2 h), fun h => e12 ((hD 12).2 h), fun h => e13 ((hD 13).2 h), fun h => e14 ((hD 14).2 h), fun h => e15 ((hD 15).2 h), fun h => e16 ((hD 16).2 h), fun h => e17 ((hD 17).2 h), fun h => e18 ((hD 18).2 h), fun h => e19 ((hD 19).2 h), fun h => e20 ((hD 20).2 h), fun h => e21 ((hD 21).2 h), fun h => e22 ((hD 22).2 h), fun h => e23 ((hD 23).2 h), fun h => e24 ((hD 24).2 h), fun h => hA ((hD 23).2 h), fun h h' => hLit ((hD 22).2 h) (fun k => h' ((hD 23).1 k))⟩
      case start => exact ⟨u11, u12, u13, u14, u15, u16, u17, u18, u19, u20, u21, u22, u23, u24, u25, u26, u27, u28, u29, u30, u31, u32, u33, u34, .slice oa on oc, 0, none, 0, 0, by kernel_rfl, .inr rfl, .inr ((Below.refl _ _).drew), fun h => h.elim, fun h => h.elim, fun h => h.elim, fun h => h.elim, fun h => h.elim, fun h => h.elim, fun h => h.elim, fun h => h.elim, fun h => h.elim, fun h => h.elim, fun h => h.elim, fun h => h.elim, fun h => h.elim, fun h => h.elim, fun h => h.elim, fun h => h.elim, fun h => h.elim, fun h => h.elim, fun h => h.elim, fun h => h.elim, fun h => h.elim, fun h => h.elim, fun h => h.elim, fun h => h.elim, fun h => h.elim, fun h => h.elim, fun h _ => h.elim⟩
      case step =>
        intro i o ho D a w' hI hn hcl hd
        obtain ⟨v11, v12, v13, v14, v15, v16, v17, v18, v19, v20, v21, v22, v23, v24, v25, v26, v27, v28, v29, v30, v31, v32, v33, v34, v3, nb, a8, n8, c8, ha, o3, hB, e0, e1, e2, e3, e4, e5, e6, e7, e8, e9, e10, e11, e12, e13, e14, e15, e16, e17, e18, e19, e20, e21, e22, e23, e24, hA, hLit⟩ := hI
        match i, ho with
        | 0, ho =>
          cases Option.some.inj ho
          have ev : a.tmps[3]?.getD undef = .slice oa on oc := by rw [ha, o3.resolve_left (fun h => (fun h => hn (hcl 23 _ rfl h ⟨0, .data⟩ (by simp) rfl)) (hcl 24 _ rfl h ⟨23, .data⟩ (by simp) rfl))]; kernel_rfl
          refine wp_value (w' := w') (v := .slice oa on oc) (by simp [execOp, ev, go_sem]) ?_
          exact ⟨(.slice oa on oc), v12, v13, v14, v15, v16, v17, v18, v19, v20, v21, v22, v23, v24, v25, v26, v27, v28, v29, v30, v31, v32, v33, v34, v3, nb, a8, n8, c8, by rw [ha]; kernel_rfl, o3.imp_left .inr, hB.imp_left .inr, fun _ => rfl, fun h => e1 (h.resolve_left (by decide)), fun h => e2 (h.resolve_left (by decide)), fun h => e3 (h.resolve_left (by decide)), fun h => e4 (h.resolve_left (by decide)), fun h => e5 (h.resolve_left (by decide)), fun h => e6 (h.resolve_left (by decide)), fun h => e7 (h.resolve_left (by decide)), fun h => e8 (h.resolve_left (by decide)), fun h => e9 (h.resolve_left (by decide)), fun h => e10 (h.resolve_left (by decide)), fun h => e11 (h.resolve_left (by decide)), fun h => e12 (h.resolve_left (by decide)), fun h => e13 (h.resolve_left (by decide)), fun h => e14 (h.resolve_left (by decide)), fun h => e15 (h.resolve_left (by decide)), fun h => e16 (h.resolve_left (by decide)), fun h => e17 (h.resolve_left (by decide)), fun h => e18 (h.resolve_left (by decide)), fun h => e19 (h.resolve_left (by decide)), fun h => e20 (h.resolve_left (by decide)), fun h => e21 (h.resolve_left (by decide)), fun h => e22 (h.resolve_left (by decide)), fun h => e23 (h.resolve_left (by decide)), fun h => e24 (h.resolve_left (by decide)), fun h => hA (h.resolve_left (by decide)), fun h h' => hLit (h.resolve_left (by decide)) (fun k => h' (.inr k))⟩
        | 1, ho =>
          cases Option.some.inj ho
          have ev : a.tmps[0]?.getD undef = .slice (some ⟨b, off, none⟩) dn dc := by rw [ha]; kernel_rfl
          refine wp_value (w' := w') (v := .slice (some ⟨b, off, none⟩) dn dc) (by simp [execOp, ev, go_sem]) ?_
          exact ⟨v11, (.slice (some ⟨b, off, none⟩) dn dc), v13, v14, v15, v16, v17, v18, v19, v20, v21, v22, v23, v24, v25, v26, v27, v28, v29, v30, v31, v32, v33, v34, v3, nb, a8, n8, c8, by rw [ha]; kernel_rfl, o3.imp_left .inr, hB.imp_left .inr, fun h => e0 (h.resolve_left (by decide)), fun _ => rfl, fun h => e2 (h.resolve_left (by decide)), fun h => e3 (h.resolve_left (by decide)), fun h => e4 (h.resolve_left (by decide)), fun h => e5 (h.resolve_left (by decide)), fun h => e6 (h.resolve_left (by decide)), fun h => e7 (h.resolve_left (by decide)), fun h => e8 (h.resolve_left (by decide)), fun h => e9 (h.resolve_left (by decide)), fun h => e10 (h.resolve_left (by decide)), fun h => e11 (h.resolve_left (by decide)), fun h => e12 (h.resolve_left (by decide)), fun h => e13 (h.resolve_left (by decide)), fun h => e14 (h.resolve_left (by decide)), fun h => e15 (h.resolve_left (by decide)), fun h => e16 (h.resolve_left (by decide)), fun h => e17 (h.resolve_left (by decide)), fun h => e18 (h.resolve_left (by decide)), fun h => e19 (h.resolve_left (by decide)), fun h => e20 (h.resolve_left (by decide)), fun h => e21 (h.resolve_left (by decide)), fun h => e22 (h.resolve_left (by decide)), fun h => e23 (h.resolve_left (by decide)), fun h => e24 (h.resolve_left (by decide)), fun h => hA (h.resolve_left (by decide)), fun h h' => hLit (h.resolve_left (by decide)) (fun k => h' (.inr k))⟩
        | 2, ho =>
          cases Option.some.inj ho
          have ev : a.tmps[4]?.getD undef = .int .i64 (k : Int) := by rw [ha]; kernel_rfl
          refine wp_value (w' := w') (v := .int .i64 (k : Int)) (by simp [execOp, ev, go_sem]) ?_
          exact ⟨v11, v12, (.int .i64 (k : Int)), v14, v15, v16, v17, v18, v19, v20, v21, v22, v23, v24, v25, v26, v27, v28, v29, v30, v31, v32, v33, v34, v3, nb, a8, n8, c8, by rw [ha]; kernel_rfl, o3.imp_left .inr, hB.imp_left .inr, fun h => e0 (h.resolve_left (by decide)), fun h => e1 (h.resolve_left (by decide)), fun _ => rfl, fun h => e3 (h.resolve_left (by decide)), fun h => e4 (h.resolve_left (by decide)), fun h => e5 (h.resolve_left (by decide)), fun h => e6 (h.resolve_left (by decide)), fun h => e7 (h.resolve_left (by decide)), fun h => e8 (h.resolve_left (by decide)), fun h => e9 (h.resolve_left (by decide)), fun h => e10 (h.resolve_left (by decide)), fun h => e11 (h.resolve_left (by decide)), fun h => e12 (h.resolve_left (by decide)), fun h => e13 (h.resolve_left (by decide)), fun h => e14 (h.resolve_left (by decide)), fun h => e15 (h.resolve_left (by decide)), fun h => e16 (h.resolve_left (by decide)), fun h => e17 (h.resolve_left (by decide)), fun h => e18 (h.resolve_left (by decide)), fun h => e19 (h.resolve_left (by decide)), fun h => e20 (h.resolve_left (by decide)), fun h => e21 (h.resolve_left (by decide)), fun h => e22 (h.resolve_left (by decide)), fun h => e23 (h.resolve_left (by decide)), fun h => e24 (h.resolve_left (by decide)), fun h => hA (h.resolve_left (by decide)), fun h h' => hLit (h.resolve_left (by decide)) (fun k => h' (.inr k))⟩
        | 3, ho =>
          cases Option.some.inj ho
          have ev : a.tmps[12]?.getD undef = .slice (some ⟨b, off, none⟩) dn dc := by rw [ha, e1 (hd ⟨1, .data⟩ (by simp) rfl)]; kernel_rfl
          have ev' : a.tmps[13]?.getD undef = .int .i64 (k : Int) := by rw [ha, e2 (hd ⟨2, .data⟩ (by simp) rfl)]; kernel_rfl
          refine wp_value (w' := w') (v := .pointer (some ⟨b, off + k * 4, none⟩)) (by simp [execOp, ev, ev', go_sem, hkI, hk0]) ?_
          exact ⟨v11, v12, v13, (.pointer (some ⟨b, off + k * 4, none⟩)), v15, v16, v17, v18, v19, v20, v21, v22, v23, v24, v25, v26, v27, v28, v29, v30, v31, v32, v33, v34, v3, nb, a8, n8, c8, by rw [ha]; kernel_rfl, o3.imp_left .inr, hB.imp_left .inr, fun h => e0 (h.resolve_left (by decide)), fun h => e1 (h.resolve_left (by decide)), fun h => e2 (h.resolve_left (by decide)), fun _ => rfl, fun h => e4 (h.resolve_left (by decide)), fun h => e5 (h.resolve_left (by decide)), fun h => e6 (h.resolve_left (by decide)), fun h => e7 (h.resolve_left (by decide)), fun h => e8 (h.resolve_left (by decide)), fun h => e9 (h.resolve_left (by decide)), fun h => e10 (h.resolve_left (by decide)), fun h => e11 (h.resolve_left (by decide)), fun h => e12 (h.resolve_left (by decide)), fun h => e13 (h.resolve_left (by decide)), fun h => e14 (h.resolve_left (by decide)), fun h => e15 (h.resolve_left (by decide)), fun h => e16 (h.resolve_left (by decide)), fun h => e17 (h.resolve_left (by decide)), fun h => e18 (h.resolve_left (by decide)), fun h => e19 (h.resolve_left (by decide)), fun h => e20 (h.resolve_left (by decide)), fun h => e21 (h.resolve_left (by decide)), fun h => e22 (h.resolve_left (by decide)), fun h => e23 (h.resolve_left (by decide)), fun h => e24 (h.resolve_left (by decide)), fun h => hA (h.resolve_left (by decide)), fun h h' => hLit (h.resolve_left (by decide)) (fun k => h' (.inr k))⟩
        | 4, ho =>
          cases Option.some.inj ho
          have ev : a.tmps[14]?.getD undef = .pointer (some ⟨b, off + k * 4, none⟩) := by rw [ha, e3 (hd ⟨3, .data⟩ (by simp) rfl)]; kernel_rfl
          refine wp_value (w' := w') (v := .pointer (some ⟨b, off + k * 4, none⟩)) (by simp [execOp, ev, go_sem]) ?_
          exact ⟨v11, v12, v13, v14, (.pointer (some ⟨b, off + k * 4, none⟩)), v16, v17, v18, v19, v20, v21, v22, v23, v24, v25, v26, v27, v28, v29, v30, v31, v32, v33, v34, v3, nb, a8, n8, c8, by rw [ha]; kernel_rfl, o3.imp_left .inr, hB.imp_left .inr, fun h => e0 (h.resolve_left (by decide)), fun h => e1 (h.resolve_left (by decide)), fun h => e2 (h.resolve_left (by decide)), fun h => e3 (h.resolve_left (by decide)), fun _ => rfl, fun h => e5 (h.resolve_left (by decide)), fun h => e6 (h.resolve_left (by decide)), fun h => e7 (h.resolve_left (by decide)), fun h => e8 (h.resolve_left (by decide)), fun h => e9 (h.resolve_left (by decide)), fun h => e10 (h.resolve_left (by decide)), fun h => e11 (h.resolve_left (by decide)), fun h => e12 (h.resolve_left (by decide)), fun h => e13 (h.resolve_left (by decide)), fun h => e14 (h.resolve_left (by decide)), fun h => e15 (h.resolve_left (by decide)), fun h => e16 (h.resolve_left (by decide)), fun h => e17 (h.resolve_left (by decide)), fun h => e18 (h.resolve_left (by decide)), fun h => e19 (h.resolve_left (by decide)), fun h => e20 (h.resolve_left (by decide)), fun h => e21 (h.resolve_left (by decide)), fun h => e22 (h.resolve_left (by decide)), fun h => e23 (h.resolve_left (by decide)), fun h => e24 (h.resolve_left (by decide)), fun h => hA (h.resolve_left (by decide)), fun h h' => hLit (h.resolve_left (by decide)) (fun k => h' (.inr k))⟩
        | 5, ho =>
          cases Option.some.inj ho
          have ev : a.tmps[15]?.getD undef = .pointer (some ⟨b, off + k * 4, none⟩) := by rw [ha, e4 (hd ⟨4, .data⟩ (by simp) rfl)]; kernel_rfl
          have hb := hB.resolve_left (fun h => (fun h => (fun h => hn (hcl 21 _ rfl h ⟨5, .data⟩ (by simp) rfl)) (hcl 22 _ rfl h ⟨21, .data⟩ (by simp) rfl)) (hcl 23 _ rfl h ⟨22, .data⟩ (by simp) rfl))
          have z0 := (hb.cell (p := ⟨b, off + k * 4, none⟩) (lt_of_cell d0)).trans d0
          refine wp_value (w' := w') (v := .int .i64 (Tm.base x)) (by simp [execOp, ev, go_sem, z0]) ?_
          exact ⟨v11, v12, v13, v14, v15, (.int .i64 (Tm.base x)), v17, v18, v19, v20, v21, v22, v23, v24, v25, v26, v27, v28, v29, v30, v31, v32, v33, v34, v3, nb, a8, n8, c8, by rw [ha]; kernel_rfl, o3.imp_left .inr, hB.imp_left .inr, fun h => e0 (h.resolve_left (by decide)), fun h => e1 (h.resolve_left (by decide)), fun h => e2 (h.resolve_left (by decide)), fun h => e3 (h.resolve_left (by decide)), fun h => e4 (h.resolve_left (by decide)), fun _ => rfl, fun h => e6 (h.resolve_left (by decide)), fun h => e7 (h.resolve_left (by decide)), fun h => e8 (h.resolve_left (by decide)), fun h => e9 (h.resolve_left (by decide)), fun h => e10 (h.resolve_left (by decide)), fun h => e11 (h.resolve_left (by decide)), fun h => e12 (h.resolve_left (by decide)), fun h => e13 (h.resolve_left (by decide)), fun h => e14 (h.resolve_left (by decide)), fun h => e15 (h.resolve_left (by decide)), fun h => e16 (h.resolve_left (by decide)), fun h => e17 (h.resolve_left (by decide)), fun h => e18 (h.resolve_left (by decide)), fun h => e19 (h.resolve_left (by decide)), fun h => e20 (h.resolve_left (by decide)), fun h => e21 (h.resolve_left (by decide)), fun h => e22 (h.resolve_left (by decide)), fun h => e23 (h.resolve_left (by decide)), fun h => e24 (h.resolve_left (by decide)), fun h => hA (h.resolve_left (by decide)), fun h h' => hLit (h.resolve_left (by decide)) (fun k => h' (.inr k))⟩
        | 6, ho =>
          cases Option.some.inj ho
          have ev : a.tmps[0]?.getD undef = .slice (some ⟨b, off, none⟩) dn dc := by rw [ha]; kernel_rfl
          refine wp_value (w' := w') (v := .slice (some ⟨b, off, none⟩) dn dc) (by simp [execOp, ev, go_sem]) ?_
          exact ⟨v11, v12, v13, v14, v15, v16, (.slice (some ⟨b, off, none⟩) dn dc), v18, v19, v20, v21, v22, v23, v24, v25, v26, v27, v28, v29, v30, v31, v32, v33, v34, v3, nb, a8, n8, c8, by rw [ha]; kernel_rfl, o3.imp_left .inr, hB.imp_left .inr, fun h => e0 (h.resolve_left (by decide)), fun h => e1 (h.resolve_left (by decide)), fun h => e2 (h.resolve_left (by decide)), fun h => e3 (h.resolve_left (by decide)), fun h => e4 (h.resolve_left (by decide)), fun h => e5 (h.resolve_left (by decide)), fun _ => rfl, fun h => e7 (h.resolve_left (by decide)), fun h => e8 (h.resolve_left (by decide)), fun h => e9 (h.resolve_left (by decide)), fun h => e10 (h.resolve_left (by decide)), fun h => e11 (h.resolve_left (by decide)), fun h => e12 (h.resolve_left (by decide)), fun h => e13 (h.resolve_left (by decide)), fun h => e14 (h.resolve_left (by decide)), fun h => e15 (h.resolve_left (by decide)), fun h => e16 (h.resolve_left (by decide)), fun h => e17 (h.resolve_left (by decide)), fun h => e18 (h.resolve_left (by decide)), fun h => e19 (h.resolve_left (by decide)), fun h => e20 (h.resolve_left (by decide)), fun h => e21 (h.resolve_left (by decide)), fun h => e22 (h.resolve_left (by decide)), fun h => e23 (h.resolve_left (by decide)), fun h => e24 (h.resolve_left (by decide)), fun h => hA (h.resolve_left (by decide)), fun h h' => hLit (h.resolve_left (by decide)) (fun k => h' (.inr k))⟩
        | 7, ho =>
          cases Option.some.inj ho
          have ev : a.tmps[4]?.getD undef = .int .i64 (k : Int) := by rw [ha]; kernel_rfl
          refine wp_value (w' := w') (v := .int .i64 (k : Int)) (by simp [execOp, ev, go_sem]) ?_
          exact ⟨v11, v12, v13, v14, v15, v16, v17, (.int .i64 (k : Int)), v19, v20, v21, v22, v23, v24, v25, v26, v27, v28, v29, v30, v31, v32, v33, v34, v3, nb, a8, n8, c8, by rw [ha]; kernel_rfl, o3.imp_left .inr, hB.imp_left .inr, fun h => e0 (h.resolve_left (by decide)), fun h => e1 (h.resolve_left (by decide)), fun h => e2 (h.resolve_left (by decide)), fun h => e3 (h.resolve_left (by decide)), fun h => e4 (h.resolve_left (by decide)), fun h => e5 (h.resolve_left (by decide)), fun h => e6 (h.resolve_left (by decide)), fun _ => rfl, fun h => e8 (h.resolve_left (by decide)), fun h => e9 (h.resolve_left (by decide)), fun h => e10 (h.resolve_left (by decide)), fun h => e11 (h.resolve_left (by decide)), fun h => e12 (h.resolve_left (by decide)), fun h => e13 (h.resolve_left (by decide)), fun h => e14 (h.resolve_left (by decide)), fun h => e15 (h.resolve_left (by decide)), fun h => e16 (h.resolve_left (by decide)), fun h => e17 (h.resolve_left (by decide)), fun h => e18 (h.resolve_left (by decide)), fun h => e19 (h.resolve_left (by decide)), fun h => e20 (h.resolve_left (by decide)), fun h => e21 (h.resolve_left (by decide)), fun h => e22 (h.resolve_left (by decide)), fun h => e23 (h.resolve_left (by decide)), fun h => e24 (h.resolve_left (by decide)), fun h => hA (h.resolve_left (by decide)), fun h h' => hLit (h.resolve_left (by decide)) (fun k => h' (.inr k))⟩
        | 8, ho =>
          cases Option.some.inj ho
          have ev : a.tmps[17]?.getD undef = .slice (some ⟨b, off, none⟩) dn dc := by rw [ha, e6 (hd ⟨6, .data⟩ (by simp) rfl)]; kernel_rfl
          have ev' : a.tmps[18]?.getD undef = .int .i64 (k : Int) := by rw [ha, e7 (hd ⟨7, .data⟩ (by simp) rfl)]; kernel_rfl
          refine wp_value (w' := w') (v := .pointer (some ⟨b, off + k * 4, none⟩)) (by simp [execOp, ev, ev', go_sem, hkI, hk0]) ?_
          exact ⟨v11, v12, v13, v14, v15, v16, v17, v18, (.pointer (some ⟨b, off + k * 4, none⟩)), v20, v21, v22, v23, v24, v25, v26, v27, v28, v29, v30, v31, v32, v33, v34, v3, nb, a8, n8, c8, by rw [ha]; kernel_rfl, o3.imp_left .inr, hB.imp_left .inr, fun h => e0 (h.resolve_left (by decide)), fun h => e1 (h.resolve_left (by decide)), fun h => e2 (h.resolve_left (by decide)), fun h => e3 (h.resolve_left (by decide)), fun h => e4 (h.resolve_left (by decide)), fun h => e5 (h.resolve_left (by decide)), fun h => e6 (h.resolve_left (by decide)), fun h => e7 (h.resolve_left (by decide)), fun _ => rfl, fun h => e9 (h.resolve_left (by decide)), fun h => e10 (h.resolve_left (by decide)), fun h => e11 (h.resolve_left (by decide)), fun h => e12 (h.resolve_left (by decide)), fun h => e13 (h.resolve_left (by decide)), fun h => e14 (h.resolve_left (by decide)), fun h => e15 (h.resolve_left (by decide)), fun h => e16 (h.resolve_left (by decide)), fun h => e17 (h.resolve_left (by decide)), fun h => e18 (h.resolve_left (by decide)), fun h => e19 (h.resolve_left (by decide)), fun h => e20 (h.resolve_left (by decide)), fun h => e21 (h.resolve_left (by decide)), fun h => e22 (h.resolve_left (by decide)), fun h => e23 (h.resolve_left (by decide)), fun h => e24 (h.resolve_left (by decide)), fun h => hA (h.resolve_left (by decide)), fun h h' => hLit (h.resolve_left (by decide)) (fun k => h' (.inr k))⟩
        | 9, ho =>
          cases Option.some.inj ho
          have ev : a.tmps[19]?.getD undef = .pointer (some ⟨b, off + k * 4, none⟩) := by rw [ha, e8 (hd ⟨8, .data⟩ (by simp) rfl)]; kernel_rfl
          refine wp_value (w' := w') (v := .pointer (some ⟨b, off + k * 4 + 1, none⟩)) (by simp [execOp, ev, go_sem]) ?_
          exact ⟨v11, v12, v13, v14, v15, v16, v17, v18, v19, (.pointer (some ⟨b, off + k * 4 + 1, none⟩)), v21, v22, v23, v24, v25, v26, v27, v28, v29, v30, v31, v32, v33, v34, v3, nb, a8, n8, c8, by rw [ha]; kernel_rfl, o3.imp_left .inr, hB.imp_left .inr, fun h => e0 (h.resolve_left (by decide)), fun h => e1 (h.resolve_left (by decide)), fun h => e2 (h.resolve_left (by decide)), fun h => e3 (h.resolve_left (by decide)), fun h => e4 (h.resolve_left (by decide)), fun h => e5 (h.resolve_left (by decide)), fun h => e6 (h.resolve_left (by decide)), fun h => e7 (h.resolve_left (by decide)), fun h => e8 (h.resolve_left (by decide)), fun _ => rfl, fun h => e10 (h.resolve_left (by decide)), fun h => e11 (h.resolve_left (by decide)), fun h => e12 (h.resolve_left (by decide)), fun h => e13 (h.resolve_left (by decide)), fun h => e14 (h.resolve_left (by decide)), fun h => e15 (h.resolve_left (by decide)), fun h => e16 (h.resolve_left (by decide)), fun h => e17 (h.resolve_left (by decide)), fun h => e18 (h.resolve_left (by decide)), fun h => e19 (h.resolve_left (by decide)), fun h => e20 (h.resolve_left (by decide)), fun h => e21 (h.resolve_left (by decide)), fun h => e22 (h.resolve_left (by decide)), fun h => e23 (h.resolve_left (by decide)), fun h => e24 (h.resolve_left (by decide)), fun h => hA (h.resolve_left (by decide)), fun h h' => hLit (h.resolve_left (by decide)) (fun k => h' (.inr k))⟩
        | 10, ho =>
          cases Option.some.inj ho
          have ev : a.tmps[20]?.getD undef = .pointer (some ⟨b, off + k * 4 + 1, none⟩) := by rw [ha, e9 (hd ⟨9, .data⟩ (by simp) rfl)]; kernel_rfl
          have hb := hB.resolve_left (fun h => (fun h => (fun h => hn (hcl 21 _ rfl h ⟨10, .data⟩ (by simp) rfl)) (hcl 22 _ rfl h ⟨21, .data⟩ (by simp) rfl)) (hcl 23 _ rfl h ⟨22, .data⟩ (by simp) rfl))
          have z1 := (hb.cell (p := ⟨b, off + k * 4 + 1, none⟩) (lt_of_cell d1)).trans d1
          refine wp_value (w' := w') (v := .int .i64 (Tm.com x)) (by simp [execOp, ev, go_sem, z1]) ?_
          exact ⟨v11, v12, v13, v14, v15, v16, v17, v18, v19, v20, (.int .i64 (Tm.com x)), v22, v23, v24, v25, v26, v27, v28, v29, v30, v31, v32, v33, v34, v3, nb, a8, n8, c8, by rw [ha]; kernel_rfl, o3.imp_left .inr, hB.imp_left .inr, fun h => e0 (h.resolve_left (by decide)), fun h => e1 (h.resolve_left (by decide)), fun h => e2 (h.resolve_left (by decide)), fun h => e3 (h.resolve_left (by decide)), fun h => e4 (h.resolve_left (by decide)), fun h => e5 (h.resolve_left (by decide)), fun h => e6 (h.resolve_left (by decide)), fun h => e7 (h.resolve_left (by decide)), fun h => e8 (h.resolve_left (by decide)), fun h => e9 (h.resolve_left (by decide)), fun _ => rfl, fun h => e11 (h.resolve_left (by decide)), fun h => e12 (h.resolve_left (by decide)), fun h => e13 (h.resolve_left (by decide)), fun h => e14 (h.resolve_left (by decide)), fun h => e15 (h.resolve_left (by decide)), fun h => e16 (h.resolve_left (by decide)), fun h => e17 (h.resolve_left (by decide)), fun h => e18 (h.resolve_left (by decide)), fun h => e19 (h.resolve_left (by decide)), fun h => e20 (h.resolve_left (by decide)), fun h => e21 (h.resolve_left (by decide)), fun h => e22 (h.resolve_left (by decide)), fun h => e23 (h.resolve_left (by decide)), fun h => e24 (h.resolve_left (by decide)), fun h => hA (h.resolve_left (by decide)), fun h h' => hLit (h.resolve_left (by decide)) (fun k => h' (.inr k))⟩
        | 11, ho =>
          cases Option.some.inj ho
          have ev : a.tmps[0]?.getD undef = .slice (some ⟨b, off, none⟩) dn dc := by rw [ha]; kernel_rfl
          refine wp_value (w' := w') (v := .slice (some ⟨b, off, none⟩) dn dc) (by simp [execOp, ev, go_sem]) ?_
          exact ⟨v11, v12, v13, v14, v15, v16, v17, v18, v19, v20, v21, (.slice (some ⟨b, off, none⟩) dn dc), v23, v24, v25, v26, v27, v28, v29, v30, v31, v32, v33, v34, v3, nb, a8, n8, c8, by rw [ha]; kernel_rfl, o3.imp_left .inr, hB.imp_left .inr, fun h => e0 (h.resolve_left (by decide)), fun h => e1 (h.resolve_left (by decide)), fun h => e2 (h.resolve_left (by decide)), fun h => e3 (h.resolve_left (by decide)), fun h => e4 (h.resolve_left (by decide)), fun h => e5 (h.resolve_left (by decide)), fun h => e6 (h.resolve_left (by decide)), fun h => e7 (h.resolve_left (by decide)), fun h => e8 (h.resolve_left (by decide)), fun h => e9 (h.resolve_left (by decide)), fun h => e10 (h.resolve_left (by decide)), fun _ => rfl, fun h => e12 (h.resolve_left (by decide)), fun h => e13 (h.resolve_left (by decide)), fun h => e14 (h.resolve_left (by decide)), fun h => e15 (h.resolve_left (by decide)), fun h => e16 (h.resolve_left (by decide)), fun h => e17 (h.resolve_left (by decide)), fun h => e18 (h.resolve_left (by decide)), fun h => e19 (h.resolve_left (by decide)), fun h => e20 (h.resolve_left (by decide)), fun h => e21 (h.resolve_left (by decide)), fun h => e22 (h.resolve_left (by decide)), fun h => e23 (h.resolve_left (by decide)), fun h => e24 (h.resolve_left (by decide)), fun h => hA (h.resolve_left (by decide)), fun h h' => hLit (h.resolve_left (by decide)) (fun k => h' (.inr k))⟩
        | 12, ho =>
          cases Option.some.inj ho
          have ev : a.tmps[4]?.getD undef = .int .i64 (k : Int) := by rw [ha]; kernel_rfl
          refine wp_value (w' := w') (v := .int .i64 (k : Int)) (by simp [execOp, ev, go_sem]) ?_
          exact ⟨v11, v12, v13, v14, v15, v16, v17, v18, v19, v20, v21, v22, (.int .i64 (k : Int)), v24, v25, v26, v27, v28, v29, v30, v31, v32, v33, v34, v3, nb, a8, n8, c8, by rw [ha]; kernel_rfl, o3.imp_left .inr, hB.imp_left .inr, fun h => e0 (h.resolve_left (by decide)), fun h => e1 (h.resolve_left (by decide)), fun h => e2 (h.resolve_left (by decide)), fun h => e3 (h.resolve_left (by decide)), fun h => e4 (h.resolve_left (by decide)), fun h => e5 (h.resolve_left (by decide)), fun h => e6 (h.resolve_left (by decide)), fun h => e7 (h.resolve_left (by decide)), fun h => e8 (h.resolve_left (by decide)), fun h => e9 (h.resolve_left (by decide)), fun h => e10 (h.resolve_left (by decide)), fun h => e11 (h.resolve_left (by decide)), fun _ => rfl, fun h => e13 (h.resolve_left (by decide)), fun h => e14 (h.resolve_left (by decide)), fun h => e15 (h.resolve_left (by decide)), fun h => e16 (h.resolve_left (by decide)), fun h => e17 (h.resolve_left (by decide)), fun h => e18 (h.resolve_left (by decide)), fun h => e19 (h.resolve_left (by decide)), fun h => e20 (h.resolve_left (by decide)), fun h => e21 (h.resolve_left (by decide)), fun h => e22 (h.resolve_left (by decide)), fun h => e23 (h.resolve_left (by decide)), fun h => e24 (h.resolve_left (by decide)), fun h => hA (h.resolve_left (by decide)), fun h h' => hLit (h.resolve_left (by decide)) (fun k => h' (.inr k))⟩
        | 13, ho =>
          cases Option.some.inj ho
          have ev : a.tmps[22]?.getD undef = .slice (some ⟨b, off, none⟩) dn dc := by rw [ha, e11 (hd ⟨11, .data⟩ (by simp) rfl)]; kernel_rfl
          have ev' : a.tmps[23]?.getD undef = .int .i64 (k : Int) := by rw [ha, e12 (hd ⟨12, .data⟩ (by simp) rfl)]; kernel_rfl
          refine wp_value (w' := w') (v := .pointer (some ⟨b, off + k * 4, none⟩)) (by simp [execOp, ev, ev', go_sem, hkI, hk0]) ?_
          exact ⟨v11, v12, v13, v14, v15, v16, v17, v18, v19, v20, v21, v22, v23, (.pointer (some ⟨b, off + k * 4, none⟩)), v25, v26, v27, v28, v29, v30, v31, v32, v33, v34, v3, nb, a8, n8, c8, by rw [ha]; kernel_rfl, o3.imp_left .inr, hB.imp_left .inr, fun h => e0 (h.resolve_left (by decide)), fun h => e1 (h.resolve_left (by decide)), fun h => e2 (h.resolve_left (by decide)), fun h => e3 (h.resolve_left (by decide)), fun h => e4 (h.resolve_left (by decide)), fun h => e5 (h.resolve_left (by decide)), fun h => e6 (h.resolve_left (by decide)), fun h => e7 (h.resolve_left (by decide)), fun h => e8 (h.resolve_left (by decide)), fun h => e9 (h.resolve_left (by decide)), fun h => e10 (h.resolve_left (by decide)), fun h => e11 (h.resolve_left (by decide)), fun h => e12 (h.resolve_left (by decide)), fun _ => rfl, fun h => e14 (h.resolve_left (by decide)), fun h => e15 (h.resolve_left (by decide)), fun h => e16 (h.resolve_left (by decide)), fun h => e17 (h.resolve_left (by decide)), fun h => e18 (h.resolve_left (by decide)), fun h => e19 (h.resolve_left (by decide)), fun h => e20 (h.resolve_left (by decide)), fun h => e21 (h.resolve_left (by decide)), fun h => e22 (h.resolve_left (by decide)), fun h => e23 (h.resolve_left (by decide)), fun h => e24 (h.resolve_left (by decide)), fun h => hA (h.resolve_left (by decide)), fun h h' => hLit (h.resolve_left (by decide)) (fun k => h' (.inr k))⟩
        | 14, ho =>
          cases Option.some.inj ho
          have ev : a.tmps[24]?.getD undef = .pointer (some ⟨b, off + k * 4, none⟩) := by rw [ha, e13 (hd ⟨13, .data⟩ (by simp) rfl)]; kernel_rfl
          refine wp_value (w' := w') (v := .pointer (some ⟨b, off + k * 4 + 2, none⟩)) (by simp [execOp, ev, go_sem]) ?_
          exact ⟨v11, v12, v13, v14, v15, v16, v17, v18, v19, v20, v21, v22, v23, v24, (.pointer (some ⟨b, off + k * 4 + 2, none⟩)), v26, v27, v28, v29, v30, v31, v32, v33, v34, v3, nb, a8, n8, c8, by rw [ha]; kernel_rfl, o3.imp_left .inr, hB.imp_left .inr, fun h => e0 (h.resolve_left (by decide)), fun h => e1 (h.resolve_left (by decide)), fun h => e2 (h.resolve_left (by decide)), fun h => e3 (h.resolve_left (by decide)), fun h => e4 (h.resolve_left (by decide)), fun h => e5 (h.resolve_left (by decide)), fun h => e6 (h.resolve_left (by decide)), fun h => e7 (h.resolve_left (by decide)), fun h => e8 (h.resolve_left (by decide)), fun h => e9 (h.resolve_left (by decide)), fun h => e10 (h.resolve_left (by decide)), fun h => e11 (h.resolve_left (by decide)), fun h => e12 (h.resolve_left (by decide)), fun h => e13 (h.resolve_left (by decide)), fun _ => rfl, fun h => e15 (h.resolve_left (by decide)), fun h => e16 (h.resolve_left (by decide)), fun h => e17 (h.resolve_left (by decide)), fun h => e18 (h.resolve_left (by decide)), fun h => e19 (h.resolve_left (by decide)), fun h => e20 (h.resolve_left (by decide)), fun h => e21 (h.resolve_left (by decide)), fun h => e22 (h.resolve_left (by decide)), fun h => e23 (h.resolve_left (by decide)), fun h => e24 (h.resolve_left (by decide)), fun h => hA (h.resolve_left (by decide)), fun h h' => hLit (h.resolve_left (by decide)) (fun k => h' (.inr k))⟩
        | 15, ho =>
          cases Option.some.inj ho
          have ev : a.tmps[25]?.getD undef = .pointer (some ⟨b, off + k * 4 + 2, none⟩) := by rw [ha, e14 (hd ⟨14, .data⟩ (by simp) rfl)]; kernel_rfl
          have hb := hB.resolve_left (fun h => (fun h => (fun h => hn (hcl 21 _ rfl h ⟨15, .data⟩ (by simp) rfl)) (hcl 22 _ rfl h ⟨21, .data⟩ (by simp) rfl)) (hcl 23 _ rfl h ⟨22, .data⟩ (by simp) rfl))
          have z2 := (hb.cell (p := ⟨b, off + k * 4 + 2, none⟩) (lt_of_cell d2)).trans d2
          refine wp_value (w' := w') (v := .slice (Tm.ra x) (Tm.rn x) (Tm.rc x)) (by simp [execOp, ev, go_sem, z2]) ?_
          exact ⟨v11, v12, v13, v14, v15, v16, v17, v18, v19, v20, v21, v22, v23, v24, v25, (.slice (Tm.ra x) (Tm.rn x) (Tm.rc x)), v27, v28, v29, v30, v31, v32, v33, v34, v3, nb, a8, n8, c8, by rw [ha]; kernel_rfl, o3.imp_left .inr, hB.imp_left .inr, fun h => e0 (h.resolve_left (by decide)), fun h => e1 (h.resolve_left (by decide)), fun h => e2 (h.resolve_left (by decide)), fun h => e3 (h.resolve_left (by decide)), fun h => e4 (h.resolve_left (by decide)), fun h => e5 (h.resolve_left (by decide)), fun h => e6 (h.resolve_left (by decide)), fun h => e7 (h.resolve_left (by decide)), fun h => e8 (h.resolve_left (by decide)), fun h => e9 (h.resolve_left (by decide)), fun h => e10 (h.resolve_left (by decide)), fun h => e11 (h.resolve_left (by decide)), fun h => e12 (h.resolve_left (by decide)), fun h => e13 (h.resolve_left (by decide)), fun h => e14 (h.resolve_left (by decide)), fun _ => rfl, fun h => e16 (h.resolve_left (by decide)), fun h => e17 (h.resolve_left (by decide)), fun h => e18 (h.resolve_left (by decide)), fun h => e19 (h.resolve_left (by decide)), fun h => e20 (h.resolve_left (by decide)), fun h => e21 (h.resolve_left (by decide)), fun h => e22 (h.resolve_left (by decide)), fun h => e23 (h.resolve_left (by decide)), fun h => e24 (h.resolve_left (by decide)), fun h => hA (h.resolve_left (by decide)), fun h h' => hLit (h.resolve_left (by decide)) (fun k => h' (.inr k))⟩
        | 16, ho =>
          cases Option.some.inj ho
          have ev : a.tmps[0]?.getD undef = .slice (some ⟨b, off, none⟩) dn dc := by rw [ha]; kernel_rfl
          refine wp_value (w' := w') (v := .slice (some ⟨b, off, none⟩) dn dc) (by simp [execOp, ev, go_sem]) ?_
          exact ⟨v11, v12, v13, v14, v15, v16, v17, v18, v19, v20, v21, v22, v23, v24, v25, v26, (.slice (some ⟨b, off, none⟩) dn dc), v28, v29, v30, v31, v32, v33, v34, v3, nb, a8, n8, c8, by rw [ha]; kernel_rfl, o3.imp_left .inr, hB.imp_left .inr, fun h => e0 (h.resolve_left (by decide)), fun h => e1 (h.resolve_left (by decide)), fun h => e2 (h.resolve_left (by decide)), fun h => e3 (h.resolve_left (by decide)), fun h => e4 (h.resolve_left (by decide)), fun h => e5 (h.resolve_left (by decide)), fun h => e6 (h.resolve_left (by decide)), fun h => e7 (h.resolve_left (by decide)), fun h => e8 (h.resolve_left (by decide)), fun h => e9 (h.resolve_left (by decide)), fun h => e10 (h.resolve_left (by decide)), fun h => e11 (h.resolve_left (by decide)), fun h => e12 (h.resolve_left (by decide)), fun h => e13 (h.resolve_left (by decide)), fun h => e14 (h.resolve_left (by decide)), fun h => e15 (h.resolve_left (by decide)), fun _ => rfl, fun h => e17 (h.resolve_left (by decide)), fun h => e18 (h.resolve_left (by decide)), fun h => e19 (h.resolve_left (by decide)), fun h => e20 (h.resolve_left (by decide)), fun h => e21 (h.resolve_left (by decide)), fun h => e22 (h.resolve_left (by decide)), fun h => e23 (h.resolve_left (by decide)), fun h => e24 (h.resolve_left (by decide)), fun h => hA (h.resolve_left (by decide)), fun h h' => hLit (h.resolve_left (by decide)) (fun k => h' (.inr k))⟩
        | 17, ho =>
          cases Option.some.inj ho
          have ev : a.tmps[4]?.getD undef = .int .i64 (k : Int) := by rw [ha]; kernel_rfl
          refine wp_value (w' := w') (v := .int .i64 (k : Int)) (by simp [execOp, ev, go_sem]) ?_
          exact ⟨v11, v12, v13, v14, v15, v16, v17, v18, v19, v20, v21, v22, v23, v24, v25, v26, v27, (.int .i64 (k : Int)), v29, v30, v31, v32, v33, v34, v3, nb, a8, n8, c8, by rw [ha]; kernel_rfl, o3.imp_left .inr, hB.imp_left .inr, fun h => e0 (h.resolve_left (by decide)), fun h => e1 (h.resolve_left (by decide)), fun h => e2 (h.resolve_left (by decide)), fun h => e3 (h.resolve_left (by decide)), fun h => e4 (h.resolve_left (by decide)), fun h => e5 (h.resolve_left (by decide)), fun h => e6 (h.resolve_left (by decide)), fun h => e7 (h.resolve_left (by decide)), fun h => e8 (h.resolve_left (by decide)), fun h => e9 (h.resolve_left (by decide)), fun h => e10 (h.resolve_left (by decide)), fun h => e11 (h.resolve_left (by decide)), fun h => e12 (h.resolve_left (by decide)), fun h => e13 (h.resolve_left (by decide)), fun h => e14 (h.resolve_left (by decide)), fun h => e15 (h.resolve_left (by decide)), fun h => e16 (h.resolve_left (by decide)), fun _ => rfl, fun h => e18 (h.resolve_left (by decide)), fun h => e19 (h.resolve_left (by decide)), fun h => e20 (h.resolve_left (by decide)), fun h => e21 (h.resolve_left (by decide)), fun h => e22 (h.resolve_left (by decide)), fun h => e23 (h.resolve_left (by decide)), fun h => e24 (h.resolve_left (by decide)), fun h => hA (h.resolve_left (by decide)), fun h h' => hLit (h.resolve_left (by decide)) (fun k => h' (.inr k))⟩
        | 18, ho =>
          cases Option.some.inj ho
          have ev : a.tmps[27]?.getD undef = .slice (some ⟨b, off, none⟩) dn dc := by rw [ha, e16 (hd ⟨16, .data⟩ (by simp) rfl)]; kernel_rfl
          have ev' : a.tmps[28]?.getD undef = .int .i64 (k : Int) := by rw [ha, e17 (hd ⟨17, .data⟩ (by simp) rfl)]; kernel_rfl
          refine wp_value (w' := w') (v := .pointer (some ⟨b, off + k * 4, none⟩)) (by simp [execOp, ev, ev', go_sem, hkI, hk0]) ?_
          exact ⟨v11, v12, v13, v14, v15, v16, v17, v18, v19, v20, v21, v22, v23, v24, v25, v26, v27, v28, (.pointer (some ⟨b, off + k * 4, none⟩)), v30, v31, v32, v33, v34, v3, nb, a8, n8, c8, by rw [ha]; kernel_rfl, o3.imp_left .inr, hB.imp_left .inr, fun h => e0 (h.resolve_left (by decide)), fun h => e1 (h.resolve_left (by decide)), fun h => e2 (h.resolve_left (by decide)), fun h => e3 (h.resolve_left (by decide)), fun h => e4 (h.resolve_left (by decide)), fun h => e5 (h.resolve_left (by decide)), fun h => e6 (h.resolve_left (by decide)), fun h => e7 (h.resolve_left (by decide)), fun h => e8 (h.resolve_left (by decide)), fun h => e9 (h.resolve_left (by decide)), fun h => e10 (h.resolve_left (by decide)), fun h => e11 (h.resolve_left (by decide)), fun h => e12 (h.resolve_left (by decide)), fun h => e13 (h.resolve_left (by decide)), fun h => e14 (h.resolve_left (by decide)), fun h => e15 (h.resolve_left (by decide)), fun h => e16 (h.resolve_left (by decide)), fun h => e17 (h.resolve_left (by decide)), fun _ => rfl, fun h => e19 (h.resolve_left (by decide)), fun h => e20 (h.resolve_left (by decide)), fun h => e21 (h.resolve_left (by decide)), fun h => e22 (h.resolve_left (by decide)), fun h => e23 (h.resolve_left (by decide)), fun h => e24 (h.resolve_left (by decide)), fun h => hA (h.resolve_left (by decide)), fun h h' => hLit (h.resolve_left (by decide)) (fun k => h' (.inr k))⟩
        | 19, ho =>
          cases Option.some.inj ho
          have ev : a.tmps[29]?.getD undef = .pointer (some ⟨b, off + k * 4, none⟩) := by rw [ha, e18 (hd ⟨18, .data⟩ (by simp) rfl)]; kernel_rfl
          refine wp_value (w' := w') (v := .pointer (some ⟨b, off + k * 4 + 3, none⟩)) (by simp [execOp, ev, go_sem]) ?_
          exact ⟨v11, v12, v13, v14, v15, v16, v17, v18, v19, v20, v21, v22, v23, v24, v25, v26, v27, v28, v29, (.pointer (some ⟨b, off + k * 4 + 3, none⟩)), v31, v32, v33, v34, v3, nb, a8, n8, c8, by rw [ha]; kernel_rfl, o3.imp_left .inr, hB.imp_left .inr, fun h => e0 (h.resolve_left (by decide)), fun h => e1 (h.resolve_left (by decide)), fun h => e2 (h.resolve_left (by decide)), fun h => e3 (h.resolve_left (by decide)), fun h => e4 (h.resolve_left (by decide)), fun h => e5 (h.resolve_left (by decide)), fun h => e6 (h.resolve_left (by decide)), fun h => e7 (h.resolve_left (by decide)), fun h => e8 (h.resolve_left (by decide)), fun h => e9 (h.resolve_left (by decide)), fun h => e10 (h.resolve_left (by decide)), fun h => e11 (h.resolve_left (by decide)), fun h => e12 (h.resolve_left (by decide)), fun h => e13 (h.resolve_left (by decide)), fun h => e14 (h.resolve_left (by decide)), fun h => e15 (h.resolve_left (by decide)), fun h => e16 (h.resolve_left (by decide)), fun h => e17 (h.resolve_left (by decide)), fun h => e18 (h.resolve_left (by decide)), fun _ => rfl, fun h => e20 (h.resolve_left (by decide)), fun h => e21 (h.resolve_left (by decide)), fun h => e22 (h.resolve_left (by decide)), fun h => e23 (h.resolve_left (by decide)), fun h => e24 (h.resolve_left (by decide)), fun h => hA (h.resolve_left (by decide)), fun h h' => hLit (h.resolve_left (by decide)) (fun k => h' (.inr k))⟩
        | 20, ho =>
          cases Option.some.inj ho
          have ev : a.tmps[30]?.getD undef = .pointer (some ⟨b, off + k * 4 + 3, none⟩) := by rw [ha, e19 (hd ⟨19, .data⟩ (by simp) rfl)]; kernel_rfl
          have hb := hB.resolve_left (fun h => (fun h => (fun h => hn (hcl 21 _ rfl h ⟨20, .data⟩ (by simp) rfl)) (hcl 22 _ rfl h ⟨21, .data⟩ (by simp) rfl)) (hcl 23 _ rfl h ⟨22, .data⟩ (by simp) rfl))
          have z3 := (hb.cell (p := ⟨b, off + k * 4 + 3, none⟩) (lt_of_cell d3)).trans d3
          refine wp_value (w' := w') (v := .slice (Tm.wa x) (Tm.wn x) (Tm.wc x)) (by simp [execOp, ev, go_sem, z3]) ?_
          exact ⟨v11, v12, v13, v14, v15, v16, v17, v18, v19, v20, v21, v22, v23, v24, v25, v26, v27, v28, v29, v30, (.slice (Tm.wa x) (Tm.wn x) (Tm.wc x)), v32, v33, v34, v3, nb, a8, n8, c8, by rw [ha]; kernel_rfl, o3.imp_left .inr, hB.imp_left .inr, fun h => e0 (h.resolve_left (by decide)), fun h => e1 (h.resolve_left (by decide)), fun h => e2 (h.resolve_left (by decide)), fun h => e3 (h.resolve_left (by decide)), fun h => e4 (h.resolve_left (by decide)), fun h => e5 (h.resolve_left (by decide)), fun h => e6 (h.resolve_left (by decide)), fun h => e7 (h.resolve_left (by decide)), fun h => e8 (h.resolve_left (by decide)), fun h => e9 (h.resolve_left (by decide)), fun h => e10 (h.resolve_left (by decide)), fun h => e11 (h.resolve_left (by decide)), fun h => e12 (h.resolve_left (by decide)), fun h => e13 (h.resolve_left (by decide)), fun h => e14 (h.resolve_left (by decide)), fun h => e15 (h.resolve_left (by decide)), fun h => e16 (h.resolve_left (by decide)), fun h => e17 (h.resolve_left (by decide)), fun h => e18 (h.resolve_left (by decide)), fun h => e19 (h.resolve_left (by decide)), fun _ => rfl, fun h => e21 (h.resolve_left (by decide)), fun h => e22 (h.resolve_left (by decide)), fun h => e23 (h.resolve_left (by decide)), fun h => e24 (h.resolve_left (by decide)), fun h => hA (h.resolve_left (by decide)), fun h h' => hLit (h.resolve_left (by decide)) (fun k => h' (.inr k))⟩
        | 21, ho =>
          cases Option.some.inj ho
          have ev : a.tmps[16]?.getD undef = .int .i64 (Tm.base x) := by rw [ha, e5 (hd ⟨5, .data⟩ (by simp) rfl)]; kernel_rfl
          have ev' : a.tmps[21]?.getD undef = .int .i64 (Tm.com x) := by rw [ha, e10 (hd ⟨10, .data⟩ (by simp) rfl)]; kernel_rfl
          have ev'' : a.tmps[26]?.getD undef = .slice (Tm.ra x) (Tm.rn x) (Tm.rc x) := by rw [ha, e15 (hd ⟨15, .data⟩ (by simp) rfl)]; kernel_rfl
          have ev''' : a.tmps[31]?.getD undef = .slice (Tm.wa x) (Tm.wn x) (Tm.wc x) := by rw [ha, e20 (hd ⟨20, .data⟩ (by simp) rfl)]; kernel_rfl
          refine wp_value (w' := w') (v := .agg #[.int .i64 (Tm.base x), .int .i64 (Tm.com x), .slice (Tm.ra x) (Tm.rn x) (Tm.rc x), .slice (Tm.wa x) (Tm.wn x) (Tm.wc x)]) (by simp [execOp, ev, ev', ev'', ev''', go_sem]) ?_
          exact ⟨v11, v12, v13, v14, v15, v16, v17, v18, v19, v20, v21, v22, v23, v24, v25, v26, v27, v28, v29, v30, v31, (.agg #[.int .i64 (Tm.base x), .int .i64 (Tm.com x), .slice (Tm.ra x) (Tm.rn x) (Tm.rc x), .slice (Tm.wa x) (Tm.wn x) (Tm.wc x)]), v33, v34, v3, nb, a8, n8, c8, by rw [ha]; kernel_rfl, o3.imp_left .inr, hB.imp_left .inr, fun h => e0 (h.resolve_left (by decide)), fun h => e1 (h.resolve_left (by decide)), fun h => e2 (h.resolve_left (by decide)), fun h => e3 (h.resolve_left (by decide)), fun h => e4 (h.resolve_left (by decide)), fun h => e5 (h.resolve_left (by decide)), fun h => e6 (h.resolve_left (by decide)), fun h => e7 (h.resolve_left (by decide)), fun h => e8 (h.resolve_left (by decide)), fun h => e9 (h.resolve_left (by decide)), fun h => e10 (h.resolve_left (by decide)), fun h => e11 (h.resolve_left (by decide)), fun h => e12 (h.resolve_left (by decide)), fun h => e13 (h.resolve_left (by decide)), fun h => e14 (h.resolve_left (by decide)), fun h => e15 (h.resolve_left (by decide)), fun h => e16 (h.resolve_left (by decide)), fun h => e17 (h.resolve_left (by decide)), fun h => e18 (h.resolve_left (by decide)), fun h => e19 (h.resolve_left (by decide)), fun h => e20 (h.resolve_left (by decide)), fun _ => rfl, fun h => e22 (h.resolve_left (by decide)), fun h => e23 (h.resolve_left (by decide)), fun h => e24 (h.resolve_left (by decide)), fun h => hA (h.resolve_left (by decide)), fun h h' => hLit (h.resolve_left (by decide)) (fun k => h' (.inr k))⟩
        | 22, ho =>
          cases Option.some.inj ho
          have ev : a.tmps[32]?.getD undef = .agg #[.int .i64 (Tm.base x), .int .i64 (Tm.com x), .slice (Tm.ra x) (Tm.rn x) (Tm.rc x), .slice (Tm.wa x) (Tm.wn x) (Tm.wc x)] := by rw [ha, e21 (hd ⟨21, .data⟩ (by simp) rfl)]; kernel_rfl
          refine wp_value (w' := w'.alloc (.cells #[.int .i64 x.base, .int .i64 x.com, .slice x.ra x.rn x.rc, .slice x.wa x.wn x.wc] 25)) (v := .slice (some ⟨w'.heap.size, 0, none⟩) 1 1) (by simp [execOp, ev, go_sem]) ?_
          exact ⟨v11, v12, v13, v14, v15, v16, v17, v18, v19, v20, v21, v22, v23, v24, v25, v26, v27, v28, v29, v30, v31, v32, (.slice (some ⟨w'.heap.size, 0, none⟩) 1 1), v34, v3, w'.heap.size, a8, n8, c8, by rw [ha]; kernel_rfl, o3.imp_left .inr, hB.imp .inr (fun h => below_size h h.size box_below), fun h => e0 (h.resolve_left (by decide)), fun h => e1 (h.resolve_left (by decide)), fun h => e2 (h.resolve_left (by decide)), fun h => e3 (h.resolve_left (by decide)), fun h => e4 (h.resolve_left (by decide)), fun h => e5 (h.resolve_left (by decide)), fun h => e6 (h.resolve_left (by decide)), fun h => e7 (h.resolve_left (by decide)), fun h => e8 (h.resolve_left (by decide)), fun h => e9 (h.resolve_left (by decide)), fun h => e10 (h.resolve_left (by decide)), fun h => e11 (h.resolve_left (by decide)), fun h => e12 (h.resolve_left (by decide)), fun h => e13 (h.resolve_left (by decide)), fun h => e14 (h.resolve_left (by decide)), fun h => e15 (h.resolve_left (by decide)), fun h => e16 (h.resolve_left (by decide)), fun h => e17 (h.resolve_left (by decide)), fun h => e18 (h.resolve_left (by decide)), fun h => e19 (h.resolve_left (by decide)), fun h => e20 (h.resolve_left (by decide)), fun h => e21 (h.resolve_left (by decide)), fun _ => rfl, fun h => absurd (h.resolve_left (by decide)) (fun h => hn (hcl 23 _ rfl h ⟨22, .data⟩ (by simp) rfl)), fun h => absurd (h.resolve_left (by decide)) (fun h => (fun h => hn (hcl 23 _ rfl h ⟨22, .data⟩ (by simp) rfl)) (hcl 24 _ rfl h ⟨23, .data⟩ (by simp) rfl)), fun h => absurd (h.resolve_left (by decide)) (fun h => hn (hcl 23 _ rfl h ⟨22, .data⟩ (by simp) rfl)), fun _ _ => lit_cells⟩
        | 23, ho =>
          cases Option.some.inj ho
          have ev : a.tmps[11]?.getD undef = .slice oa on oc := by rw [ha, e0 (hd ⟨0, .data⟩ (by simp) rfl)]; kernel_rfl
          have ev' : a.tmps[33]?.getD undef = .slice (some ⟨nb, 0, none⟩) 1 1 := by rw [ha, e22 (hd ⟨22, .data⟩ (by simp) rfl)]; kernel_rfl
          have hb := hB.resolve_left hn
          have hL := hLit (hd ⟨22, .data⟩ (by simp) rfl) hn
          have hz := Nat.le_trans hbase hb.size
          refine app_txn_op Try.underlying22 Try.info25 (by decide) w' (.tmp 11) (.tmp 33) rfl w.heap.size _ _ (by simpa [Act.eval] using ev) (O.below hb) nb x (by simpa [Act.eval] using ev') hL (hst.below hb) hlen hz (Nat.zero_le _) ?_
          intro a8' n8' c8' w6 O6 B6
          exact ⟨v11, v12, v13, v14, v15, v16, v17, v18, v19, v20, v21, v22, v23, v24, v25, v26, v27, v28, v29, v30, v31, v32, v33, (.slice a8' n8' c8'), v3, nb, a8', n8', c8', by rw [ha]; kernel_rfl, o3.imp_left .inr, .inl (.inl rfl), fun h => e0 (h.resolve_left (by decide)), fun h => e1 (h.resolve_left (by decide)), fun h => e2 (h.resolve_left (by decide)), fun h => e3 (h.resolve_left (by decide)), fun h => e4 (h.resolve_left (by decide)), fun h => e5 (h.resolve_left (by decide)), fun h => e6 (h.resolve_left (by decide)), fun h => e7 (h.resolve_left (by decide)), fun h => e8 (h.resolve_left (by decide)), fun h => e9 (h.resolve_left (by decide)), fun h => e10 (h.resolve_left (by decide)), fun h => e11 (h.resolve_left (by decide)), fun h => e12 (h.resolve_left (by decide)), fun h => e13 (h.resolve_left (by decide)), fun h => e14 (h.resolve_left (by decide)), fun h => e15 (h.resolve_left (by decide)), fun h => e16 (h.resolve_left (by decide)), fun h => e17 (h.resolve_left (by decide)), fun h => e18 (h.resolve_left (by decide)), fun h => e19 (h.resolve_left (by decide)), fun h => e20 (h.resolve_left (by decide)), fun h => e21 (h.resolve_left (by decide)), fun h => e22 (h.resolve_left (by decide)), fun _ => rfl, fun h => absurd (h.resolve_left (by decide)) (fun h => hn (hcl 24 _ rfl h ⟨23, .data⟩ (by simp) rfl)), fun _ => ⟨O6, (hb.mono hbase).trans B6⟩, fun _ h' => absurd (.inl rfl) h'⟩
        | 24, ho =>
          cases Option.some.inj ho
          have ev : a.tmps[34]?.getD undef = .slice a8 n8 c8 := by rw [ha, e23 (hd ⟨23, .data⟩ (by simp) rfl)]; kernel_rfl
          refine wp_value (w' := w') (v := .slice a8 n8 c8) (by simp [execOp, ev, go_sem]) ?_
          exact ⟨v11, v12, v13, v14, v15, v16, v17, v18, v19, v20, v21, v22, v23, v24, v25, v26, v27, v28, v29, v30, v31, v32, v33, v34, (.slice a8 n8 c8), nb, a8, n8, c8, by rw [ha]; kernel_rfl, .inl (.inl rfl), hB.imp_left .inr, fun h => e0 (h.resolve_left (by decide)), fun h => e1 (h.resolve_left (by decide)), fun h => e2 (h.resolve_left (by decide)), fun h => e3 (h.resolve_left (by decide)), fun h => e4 (h.resolve_left (by decide)), fun h => e5 (h.resolve_left (by decide)), fun h => e6 (h.resolve_left (by decide)), fun h => e7 (h.resolve_left (by decide)), fun h => e8 (h.resolve_left (by decide)), fun h => e9 (h.resolve_left (by decide)), fun h => e10 (h.resolve_left (by decide)), fun h => e11 (h.resolve_left (by decide)), fun h => e12 (h.resolve_left (by decide)), fun h => e13 (h.resolve_left (by decide)), fun h => e14 (h.resolve_left (by decide)), fun h => e15 (h.resolve_left (by decide)), fun h => e16 (h.resolve_left (by decide)), fun h => e17 (h.resolve_left (by decide)), fun h => e18 (h.resolve_left (by decide)), fun h => e19 (h.resolve_left (by decide)), fun h => e20 (h.resolve_left (by decide)), fun h => e21 (h.resolve_left (by decide)), fun h => e22 (h.resolve_left (by decide)), fun h => e23 (h.resolve_left (by decide)), fun _ => rfl, fun h => hA (h.resolve_left (by decide)), fun h h' => hLit (h.resolve_left (by decide)) (fun k => h' (.inr k))⟩
        | i + 25, ho => simp at ho
      case done =>
        rintro D a w' ⟨v11, v12, v13, v14, v15, v16, v17, v18, v19, v20, v21, v22, v23, v24, v25, v26, v27, v28, v29, v30, v31, v32, v33, v34, v3, nb, a8, n8, c8, ha, o3, hB, e0, e1, e2, e3, e4, e5, e6, e7, e8, e9, e10, e11, e12, e13, e14, e15, e16, e17, e18, e19, e20, e21, e22, e23, e24, hA, hLit⟩ hall
        obtain rfl := e0 (hall 0 (by decide))
        obtain rfl := e1 (hall 1 (by decide))
        obtain rfl := e2 (hall 2 (by decide))
        obtain rfl := e3 (hall 3 (by decide))
        obtain rfl := e4 (hall 4 (by decide))
        obtain rfl := e5 (hall 5 (by decide))
        obtain rfl := e6 (hall 6 (by decide))
        obtain rfl := e7 (hall 7 (by decide))
        obtain rfl := e8 (hall 8 (by decide))
        obtain rfl := e9 (hall 9 (by decide))
        obtain rfl := e10 (hall 10 (by decide))
        obtain rfl := e11 (hall 11 (by decide))
        obtain rfl := e12 (hall 12 (by decide))
        obtain rfl := e13 (hall 13 (by decide))
        obtain rfl := e14 (hall 14 (by decide))
        obtain rfl := e15 (hall 15 (by decide))
        obtain rfl := e16 (hall 16 (by decide))
        obtain rfl := e17 (hall 17 (by decide))
        obtain rfl := e18 (hall 18 (by decide))
        obtain rfl := e19 (hall 19 (by decide))
        obtain rfl := e20 (hall 20 (by decide))
        obtain rfl := e21 (hall 21 (by decide))
        obtain rfl := e22 (hall 22 (by decide))
        obtain rfl := e23 (hall 23 (by decide))
        obtain rfl := e24 (hall 24 (by decide))
        obtain ⟨O9, B9⟩ := hA (hall 23 (by decide))
        clear hLit hA hB o3 hall e0 e1 e2 e3 e4 e5 e6 e7 e8 e9 e10 e11 e12 e13 e14 e15 e16 e17 e18 e19 e20 e21 e22 e23 e24
        rw [ha]
        clear ha
        simp only [Act.put, List.setIfInBounds_toArray, List.set_cons_zero, List.set_cons_succ]
        have B10 := B.trans B9
        clear B9
        go_wp2
        go_roundw
        case rel => exact ⟨k + 1, by omega, by go_num, by rw [hsn.out]; exact O9, B10⟩
        case measure => simp [intOf]; omega
    · have hge : ¬ (k : Int) < (dn : Int) := by omega
      rw [List.take_of_length_le (by rw [hsz.out]; omega)] at O
      go_wp2
      go_ret
      exact ⟨_, _, _, rfl, O, B⟩
/-- Some draws on. -/
def Drw (w wr : World) : Prop := ∃ q, wr = w.drewN q
theorem Drw.step {w wr : World} (h : Drw w wr) (n : Nat) : Drw w (wr.drewN n) := by
  obtain ⟨q, rfl⟩ := h
  exact ⟨q + n, by rw [World.drewN_drewN]⟩
theorem Drw.below {w wr : World} (h : Drw w wr) : Below w.heap.size w wr := by
  obtain ⟨q, rfl⟩ := h
  exact ⟨rfl, rfl, rfl, Nat.le_refl _, fun _ _ => rfl⟩
set_option maxHeartbeats 2000000 in
theorem oops_true {w : World} {a a' : Option Addr} {n c n' c' : Nat} {xs : List Int} (h1 : IsI w a n c xs) (h2 : IsI w a' n' c' xs) (hn : n ≤ 1048576) :
    Calls Try.prog 31 #[.slice a n c, .slice a' n' c'] w fun e w' => e = .returned (.bool true) ∧ ∃ q, w' = w.drewN q := by
  have hsz : Hid (xs.length = n) := h1.size
  obtain rfl : n' = n := by rw [← h2.size]; exact hsz.out
  have hnI : n' ≤ 9223372036854775807 := by omega
  go_enter Try.func31, Try.ntmps31
  go_wp2
  go_loopw [5] (fun iv wr => ∃ k : Nat, k ≤ n' ∧ iv = .int .i64 (k : Int) ∧ Drw w wr) (fun iv _ => n' - (intOf iv).toNat)
  case atStart => exact ⟨0, by omega, rfl, 0, rfl⟩
  case round =>
    obtain ⟨k, hk, rfl, hdr⟩ := hrel
    have BQ := hdr.below
    by_cases hlt : k < n'
    · obtain ⟨b, off, x, rfl, _, cx, hx, _⟩ := (h1.below BQ).at_ k hlt
      obtain ⟨b', off', y, rfl, _, cy, hy, _⟩ := (h2.below BQ).at_ k hlt
      obtain rfl : x = y := by have := hx.out; rw [hy.out] at this; cases this; rfl
      have hkI : (k : Int) < (n' : Int) := by omega
      clear hx hy
      go_upto_region 6 with fail
      go_quiet (fail)
      go_wp2
      go_roundw
      case rel => exact ⟨k + 1, by omega, by go_num, hdr.step _⟩
      case measure => simp [intOf]; omega
    · have hge : ¬ (k : Int) < (n' : Int) := by omega
      go_wp2
      go_ret
      exact ⟨rfl, hdr⟩
set_option maxHeartbeats 8000000 in
theorem same_true {w : World} {a a' : Option Addr} {n c n' c' : Nat} {ms ms' : List Tm} (h1 : IsTs w a n c ms) (h2 : IsTs w a' n' c' ms') (hd : ms.map Tm.d = ms'.map Tm.d) (hn : n ≤ 1048576) (hsh : Short ms) :
    Calls Try.prog 15 #[.slice a n c, .slice a' n' c'] w fun e w' => e = .returned (.bool true) ∧ Below w.heap.size w w' := by
  have hll : ms.length = ms'.length := by have := congrArg List.length hd; simpa using this
  obtain rfl : n' = n := by rw [← h2.size, ← hll]; exact h1.size
  have hsz : Hid (ms.length = n') := h1.size
  have hnI : n' ≤ 9223372036854775807 := by omega
  go_enter Try.func15, Try.ntmps15
  go_wp2
  go_loopw [5] (fun iv wr => ∃ k : Nat, k ≤ n' ∧ iv = .int .i64 (k : Int) ∧ Drw w wr) (fun iv _ => n' - (intOf iv).toNat)
  case atStart => exact ⟨0, by omega, rfl, 0, rfl⟩
  case round =>
    obtain ⟨k, hk, rfl, hdr⟩ := hrel
    have BQ := hdr.below
    by_cases hlt : k < n'
    · obtain ⟨b, off, x, rfl, _, c0, c1, c2, c3, hx, hxin⟩ := (h1.below BQ).at_ k hlt
      obtain ⟨b', off', y, rfl, _, d0, d1, d2, d3, hy, hyin⟩ := (h2.below BQ).at_ k hlt
      have hxy : x.d = y.d := by
        have e := congrArg (·[k]?) hd
        simp only [List.getElem?_map, hx.out, hy.out, Option.map_some, Option.some.injEq] at e
        exact e
      have hxl := hsh x (List.mem_of_getElem? hx.out)
      have e0 : y.base = x.base := (congrArg Tx.base hxy).symm
      have e1 : y.com = x.com := (congrArg Tx.com hxy).symm
      have e2 : y.rs = x.rs := (congrArg Tx.rs hxy).symm
      have e3 : y.ws = x.ws := (congrArg Tx.ws hxy).symm
      rw [e0] at d0
      rw [e1] at d1
      have hyr := hyin.r.1
      have hyw := hyin.w.1
      rw [e2] at hyr
      rw [e3] at hyw
      have oR : ∀ j, Calls Try.prog 31 #[.slice x.ra x.rn x.rc, .slice y.ra y.rn y.rc] (wr.drewN j) fun e w' => e = .returned (.bool true) ∧ ∃ m, w' = (wr.drewN j).drewN m := fun j => oops_true (hxin.r.1.drewN j) (hyr.drewN j) hxl.1
      have oW : ∀ j, Calls Try.prog 31 #[.slice x.wa x.wn x.wc, .slice y.wa y.wn y.wc] (wr.drewN j) fun e w' => e = .returned (.bool true) ∧ ∃ m, w' = (wr.drewN j).drewN m := fun j => oops_true (hxin.w.1.drewN j) (hyw.drewN j) hxl.2
      have hkI : (k : Int) < (n' : Int) := by omega
      clear hx hy hxy e0 e1 e2 e3 hyr hyw hxin hyin
      go_upto_region 6 with fail
      go_quiet (first | (go_at_call_of 31 (Value.slice x.ra x.rn x.rc); exact Calls.quiet_of (oR _)) | (go_at_call_of 31 (Value.slice x.wa x.wn x.wc); exact Calls.quiet_of (oW _)))
      clear oR oW
      go_wp2
      go_roundw
      case rel => exact ⟨k + 1, by omega, by go_num, hdr.step _⟩
      case measure => simp [intOf]; omega
    · have hge : ¬ (k : Int) < (n' : Int) := by omega
      go_wp2
      go_ret
      exact ⟨rfl, BQ⟩
end Go.Proofs.Ytigmpmichhghdaa
