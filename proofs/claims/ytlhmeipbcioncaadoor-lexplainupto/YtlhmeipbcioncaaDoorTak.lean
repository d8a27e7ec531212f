/- Words as the document has them, and whether two lists are alike. -/
import Derived.Test.YtlhmeipbcioncaaDoorRow
import Derived.Test.YtlhmeipbcioncaaDoorAdd
namespace Go.Proofs.YtlhmeipbcioncaaDoor
open Go.RowKit
set_option maxRecDepth 100000
/-- append of one word, within a region that draws its order. -/
theorem app_tok_op {o : Oper} {a : Act} {K : Act → World → Prop} {Q : Exit → Act → World → Prop} (w : World) (sl ty : Nat) (hU : Tryd.prog.underlying sl = some (.slice ty)) (hI : (Tryd.prog.info? ty).map (fun i => (i.zero, i.size, i.bytes)) = some (some (.agg #[.int .i64 0, .string ⟨#[]⟩, .int .i64 0]), 3, 32)) (s x : Operand)
    (ho : o.op = .call { callee := .builtin .append, args := #[s, x], argTypes := #[sl, sl] })
    (base : Nat) (v : Value) (ts : List Tk) (hs : a.eval s = v) (hown : OwnT w base ty v ts)
    (g : Nat) (t : Tk) (hx : a.eval x = .slice (some ⟨g, 0, none⟩) 1 1) (hg : w.heap[g]? = some (.cells #[.int .i64 t.kind, .string (strOfNums t.text), .int .i64 (t.pos : Int)] ty)) (hn : ts.length ≤ 1000000) (hbase : base ≤ w.heap.size)
    (h : ∀ a' n' c' w', OwnT w' base ty (.slice a' n' c') (ts ++ [t]) → Below base w w' → K (a.put o.dst (.slice a' n' c')) w') : o.wp Tryd.prog a w K Q := by
  obtain ⟨i0, hi, hz0, hz1, hz2⟩ := info_parts hI
  refine wp_append_own w s x sl ho base ty i0 (.agg #[.int .i64 0, .string ⟨#[]⟩, .int .i64 0]) 3 32 hU hi hz0 hz1 hz2 rfl (by decide) _ ts.length _ hs hown ⟨g, 0, none⟩ 1 1 (flatT [t]) hx rfl (one_cells hg) (by intro u hu; simp only [flatT, List.mem_cons, List.not_mem_nil, or_false] at hu; rcases hu with rfl | rfl | rfl <;> rfl) (by unfold maxLen; omega) (by omega) hbase ?_
  intro v' w' hown' hgrow _
  have hO : OwnT w' base ty v' (ts ++ [t]) := by
    unfold OwnT
    rw [flatT_app, List.length_append]
    exact hown'
  obtain ⟨a', c', rfl, _⟩ := hO.isT
  exact h _ _ _ w' hO ((Below.refl _ _).grown hgrow hbase (fun j hj => (World.ownsRow.lt hown j hj).1))
set_option maxHeartbeats 8000000 in
theorem taken_any {w : World} {a : Option Addr} {len cap : Nat} {ts : List Tk} (h : IsT w a len cap ts) (hl : len ≤ 1000000) : Calls Tryd.prog 12 #[.slice a len cap] w fun e w' => ∃ a' cap', e = .returned (.slice a' ts.length cap') ∧ IsT w' a' ts.length cap' ts ∧ Below w.heap.size w w' := by
  have hsz := h.size
  go_enter Tryd.func12, Tryd.ntmps12
  go_wp2
  go_loopw [3, 4] (fun x y wr => ∃ q : Nat, y = .int .i64 q ∧ q ≤ len ∧ OwnT wr w.heap.size 44 x (ts.take q) ∧ Below w.heap.size w wr) (fun _ y _ => len - (intOf y).toNat)
  case atStart => exact ⟨0, rfl, Nat.zero_le _, OwnT.nil _ _ _, Below.refl _ _⟩
  case round =>
    obtain ⟨q, rfl, hi, hown, hBw⟩ := hrel
    by_cases hlt : q < len
    · have hltI : (q : Int) < (len : Int) := by omega
      have hw1 : IntKind.i64.wrap ((q : Int) + 1) = (q : Int) + 1 := by rw [IntKind.wrap_i64]; omega
      obtain ⟨b, off, rfl, hc⟩ := (h.below hBw).cells (by omega)
      obtain ⟨c0, c1, c2⟩ := hc q hlt
      clear hc h
      have htk : ts.take (q + 1) = ts.take q ++ [ts.getD q tk0] := by
        rw [List.take_succ_eq_append_getElem (by omega)]
        simp [show q < ts.length by omega]
      obtain ⟨t, ht⟩ : ∃ t, Hid (ts.getD q tk0 = t) := ⟨_, rfl⟩
      rw [ht.out] at c0 c1 c2 htk
      have hlen : (ts.take q).length ≤ 1000000 := by rw [List.length_take]; omega
      obtain ⟨E, hE⟩ : ∃ E, Hid (ts.take (q + 1) = E) := ⟨_, rfl⟩
      rw [hE.out] at htk
      clear ht
      have hsw := hBw.size
      go_wp2
      refine wp_region_inv' (fun A D a w' => ∃ v11 v12 v13 v14 v15 v16 v17 v18 v19 v20 v21 v22 v23 v24 v25 v26 v27 v28 v29 v3 nb va vn vc, a = ((((((((((((((((((((A.put (some 11) v11).put (some 12) v12).put (some 13) v13).put (some 14) v14).put (some 15) v15).put (some 16) v16).put (some 17) v17).put (some 18) v18).put (some 19) v19).put (some 20) v20).put (some 21) v21).put (some 22) v22).put (some 23) v23).put (some 24) v24).put (some 25) v25).put (some 26) v26).put (some 27) v27).put (some 28) v28).put (some 29) v29).put (some 3) v3) ∧ (D 19 ∨ v3 = u3) ∧ (D 18 ∨ Below wr.heap.size wr w') ∧ (D 0 → v11 = u3) ∧ (D 1 → v12 = .slice (some ⟨b, off, none⟩) len cap) ∧ (D 2 → v13 = .int .i64 (q : Int)) ∧ (D 3 → v14 = .pointer (some ⟨b, off + q * 3, none⟩)) ∧ (D 4 → v15 = .pointer (some ⟨b, off + q * 3, none⟩)) ∧ (D 5 → v16 = .int .i64 t.kind) ∧ (D 6 → v17 = .slice (some ⟨b, off, none⟩) len cap) ∧ (D 7 → v18 = .int .i64 (q : Int)) ∧ (D 8 → v19 = .pointer (some ⟨b, off + q * 3, none⟩)) ∧ (D 9 → v20 = .pointer (some ⟨b, off + q * 3 + 1, none⟩)) ∧ (D 10 → v21 = .string (strOfNums t.text)) ∧ (D 11 → v22 = .slice (some ⟨b, off, none⟩) len cap) ∧ (D 12 → v23 = .int .i64 (q : Int)) ∧ (D 13 → v24 = .pointer (some ⟨b, off + q * 3, none⟩)) ∧ (D 14 → v25 = .pointer (some ⟨b, off + q * 3 + 2, none⟩)) ∧ (D 15 → v26 = .int .i64 (t.pos : Int)) ∧ (D 16 → v27 = .agg #[.int .i64 t.kind, .string (strOfNums t.text), .int .i64 (t.pos : Int)]) ∧ (D 17 → v28 = .slice (some ⟨nb, 0, none⟩) 1 1) ∧ (D 18 → v29 = .slice va vn vc) ∧ (D 19 → v3 = .slice va vn vc) ∧ (D 18 → OwnT w' w.heap.size 44 (.slice va vn vc) E ∧ Below w.heap.size w w') ∧ (D 17 → ¬ D 18 → w'.heap[nb]? = some (.cells #[.int .i64 t.kind, .string (strOfNums t.text), .int .i64 (t.pos : Int)] 44) ∧ wr.heap.size ≤ nb)) (by kernel_rfl) (by kernel_rfl) ?mono ?start ?step ?done
      case mono =>
        rintro D D' a w' hD ⟨v11, v12, v13, v14, v15, v16, v17, v18, v19, v20, v21, v22, v23, v24, v25, v26, v27, v28, v29, v3, nb, va, vn, vc, ha, h3, hB, e0, e1, e2, e3, e4, e5, e6, e7, e8, e9, e10, e11, e12, e13, e14, e15, e16, e17, e18, e19, hQ, hN⟩
        exact ⟨v11, v12, v13, v14, v15, v16, v17, v18, v19, v20, v21, v22, v23, v24, v25, v26, v27, v28, v29, v3, nb, va, vn, vc, ha, h3.imp_left (hD 19).1, hB.imp_left (hD 18).1, fun h => e0 ((hD 0).2 h), fun h => e1 ((hD 1).2 h), fun h => e2 ((hD 2).2 h), fun h => e3 ((hD 3).2 h), fun h => e4 ((hD 4).2 h), fun h => e5 ((hD 5).2 h), fun h => e6 ((hD 6).2 h), fun h => e7 ((hD 7).2 h), fun h => e8 ((hD 8).2 h), fun h => e9 ((hD 9).2 h), fun h => e10 ((hD 10).2 h), fun h => e11 ((hD 11).2 h), fun h => e12 ((hD 12).2 h), fun h => e13 ((hD 13).2 h), fun h => e14 ((hD 14).2 h), fun h => e15 ((hD 15).2 h), fun h => e16 ((hD 16).2 h), fun h => e17 ((hD 17).2 h), fun h => e18 ((hD 18).2 h), fun h => e19 ((hD 19).2 h), fun h => hQ ((hD 18).2 h), fun h h' => hN ((hD 17).2 h) (fun k => h' ((hD 18).1 k))⟩
      case start => exact ⟨u11, u12, u13, u14, u15, u16, u17, u18, u19, u20, u21, u22, u23, u24, u25, u26, u27, u28, u29, u3, 0, none, 0, 0, by kernel_rfl, .inr rfl, .inr ((Below.refl _ _).drew), fun h => h.elim, fun h => h.elim, fun h => h.elim, fun h => h.elim, fun h => h.elim, fun h => h.elim, fun h => h.elim, fun h => h.elim, fun h => h.elim, fun h => h.elim, fun h => h.elim, fun h => h.elim, fun h => h.elim, fun h => h.elim, fun h => h.elim, fun h => h.elim, fun h => h.elim, fun h => h.elim, fun h => h.elim, fun h => h.elim, fun h => h.elim, fun h _ => h.elim⟩
      case step =>
        intro i o ho D a w' hI hn hcl hd
        obtain ⟨v11, v12, v13, v14, v15, v16, v17, v18, v19, v20, v21, v22, v23, v24, v25, v26, v27, v28, v29, v3, nb, va, vn, vc, ha, h3, hB, e0, e1, e2, e3, e4, e5, e6, e7, e8, e9, e10, e11, e12, e13, e14, e15, e16, e17, e18, e19, hQ, hN⟩ := hI
        match i, ho with
        | 0, ho =>
          cases Option.some.inj ho
          have ev : a.tmps[3]?.getD undef = u3 := by rw [ha, h3.resolve_left (fun h => (fun h => hn (hcl 18 _ rfl h ⟨0, .data⟩ (by simp) rfl)) (hcl 19 _ rfl h ⟨18, .data⟩ (by simp) rfl))]; kernel_rfl
          refine wp_value (w' := w') (v := u3) (by simp [execOp, ev, go_sem]) ?_
          exact ⟨(u3), v12, v13, v14, v15, v16, v17, v18, v19, v20, v21, v22, v23, v24, v25, v26, v27, v28, v29, v3, nb, va, vn, vc, by rw [ha]; kernel_rfl, h3.imp_left .inr, hB.imp_left .inr, fun _ => rfl, fun h => e1 (h.resolve_left (by decide)), fun h => e2 (h.resolve_left (by decide)), fun h => e3 (h.resolve_left (by decide)), fun h => e4 (h.resolve_left (by decide)), fun h => e5 (h.resolve_left (by decide)), fun h => e6 (h.resolve_left (by decide)), fun h => e7 (h.resolve_left (by decide)), fun h => e8 (h.resolve_left (by decide)), fun h => e9 (h.resolve_left (by decide)), fun h => e10 (h.resolve_left (by decide)), fun h => e11 (h.resolve_left (by decide)), fun h => e12 (h.resolve_left (by decide)), fun h => e13 (h.resolve_left (by decide)), fun h => e14 (h.resolve_left (by decide)), fun h => e15 (h.resolve_left (by decide)), fun h => e16 (h.resolve_left (by decide)), fun h => e17 (h.resolve_left (by decide)), fun h => e18 (h.resolve_left (by decide)), fun h => e19 (h.resolve_left (by decide)), fun h => hQ (h.resolve_left (by decide)), fun h h' => hN (h.resolve_left (by decide)) (fun k => h' (.inr k))⟩
        | 1, ho =>
          cases Option.some.inj ho
          have ev : a.tmps[0]?.getD undef = .slice (some ⟨b, off, none⟩) len cap := by rw [ha]; kernel_rfl
          refine wp_value (w' := w') (v := .slice (some ⟨b, off, none⟩) len cap) (by simp [execOp, ev, go_sem]) ?_
          exact ⟨v11, (.slice (some ⟨b, off, none⟩) len cap), v13, v14, v15, v16, v17, v18, v19, v20, v21, v22, v23, v24, v25, v26, v27, v28, v29, v3, nb, va, vn, vc, by rw [ha]; kernel_rfl, h3.imp_left .inr, hB.imp_left .inr, fun h => e0 (h.resolve_left (by decide)), fun _ => rfl, fun h => e2 (h.resolve_left (by decide)), fun h => e3 (h.resolve_left (by decide)), fun h => e4 (h.resolve_left (by decide)), fun h => e5 (h.resolve_left (by decide)), fun h => e6 (h.resolve_left (by decide)), fun h => e7 (h.resolve_left (by decide)), fun h => e8 (h.resolve_left (by decide)), fun h => e9 (h.resolve_left (by decide)), fun h => e10 (h.resolve_left (by decide)), fun h => e11 (h.resolve_left (by decide)), fun h => e12 (h.resolve_left (by decide)), fun h => e13 (h.resolve_left (by decide)), fun h => e14 (h.resolve_left (by decide)), fun h => e15 (h.resolve_left (by decide)), fun h => e16 (h.resolve_left (by decide)), fun h => e17 (h.resolve_left (by decide)), fun h => e18 (h.resolve_left (by decide)), fun h => e19 (h.resolve_left (by decide)), fun h => hQ (h.resolve_left (by decide)), fun h h' => hN (h.resolve_left (by decide)) (fun k => h' (.inr k))⟩
        | 2, ho =>
          cases Option.some.inj ho
          have ev : a.tmps[4]?.getD undef = .int .i64 (q : Int) := by rw [ha]; kernel_rfl
          refine wp_value (w' := w') (v := .int .i64 (q : Int)) (by simp [execOp, ev, go_sem]) ?_
          exact ⟨v11, v12, (.int .i64 (q : Int)), v14, v15, v16, v17, v18, v19, v20, v21, v22, v23, v24, v25, v26, v27, v28, v29, v3, nb, va, vn, vc, by rw [ha]; kernel_rfl, h3.imp_left .inr, hB.imp_left .inr, fun h => e0 (h.resolve_left (by decide)), fun h => e1 (h.resolve_left (by decide)), fun _ => rfl, fun h => e3 (h.resolve_left (by decide)), fun h => e4 (h.resolve_left (by decide)), fun h => e5 (h.resolve_left (by decide)), fun h => e6 (h.resolve_left (by decide)), fun h => e7 (h.resolve_left (by decide)), fun h => e8 (h.resolve_left (by decide)), fun h => e9 (h.resolve_left (by decide)), fun h => e10 (h.resolve_left (by decide)), fun h => e11 (h.resolve_left (by decide)), fun h => e12 (h.resolve_left (by decide)), fun h => e13 (h.resolve_left (by decide)), fun h => e14 (h.resolve_left (by decide)), fun h => e15 (h.resolve_left (by decide)), fun h => e16 (h.resolve_left (by decide)), fun h => e17 (h.resolve_left (by decide)), fun h => e18 (h.resolve_left (by decide)), fun h => e19 (h.resolve_left (by decide)), fun h => hQ (h.resolve_left (by decide)), fun h h' => hN (h.resolve_left (by decide)) (fun k => h' (.inr k))⟩
        | 3, ho =>
          cases Option.some.inj ho
          have ev : a.tmps[12]?.getD undef = .slice (some ⟨b, off, none⟩) len cap := by rw [ha, e1 (hd ⟨1, .data⟩ (by simp) rfl)]; kernel_rfl
          have ev' : a.tmps[13]?.getD undef = .int .i64 (q : Int) := by rw [ha, e2 (hd ⟨2, .data⟩ (by simp) rfl)]; kernel_rfl
          refine wp_value (w' := w') (v := .pointer (some ⟨b, off + q * 3, none⟩)) (by simp [execOp, ev, ev', go_sem, hltI]) ?_
          exact ⟨v11, v12, v13, (.pointer (some ⟨b, off + q * 3, none⟩)), v15, v16, v17, v18, v19, v20, v21, v22, v23, v24, v25, v26, v27, v28, v29, v3, nb, va, vn, vc, by rw [ha]; kernel_rfl, h3.imp_left .inr, hB.imp_left .inr, fun h => e0 (h.resolve_left (by decide)), fun h => e1 (h.resolve_left (by decide)), fun h => e2 (h.resolve_left (by decide)), fun _ => rfl, fun h => e4 (h.resolve_left (by decide)), fun h => e5 (h.resolve_left (by decide)), fun h => e6 (h.resolve_left (by decide)), fun h => e7 (h.resolve_left (by decide)), fun h => e8 (h.resolve_left (by decide)), fun h => e9 (h.resolve_left (by decide)), fun h => e10 (h.resolve_left (by decide)), fun h => e11 (h.resolve_left (by decide)), fun h => e12 (h.resolve_left (by decide)), fun h => e13 (h.resolve_left (by decide)), fun h => e14 (h.resolve_left (by decide)), fun h => e15 (h.resolve_left (by decide)), fun h => e16 (h.resolve_left (by decide)), fun h => e17 (h.resolve_left (by decide)), fun h => e18 (h.resolve_left (by decide)), fun h => e19 (h.resolve_left (by decide)), fun h => hQ (h.resolve_left (by decide)), fun h h' => hN (h.resolve_left (by decide)) (fun k => h' (.inr k))⟩
        | 4, ho =>
          cases Option.some.inj ho
          have ev : a.tmps[14]?.getD undef = .pointer (some ⟨b, off + q * 3, none⟩) := by rw [ha, e3 (hd ⟨3, .data⟩ (by simp) rfl)]; kernel_rfl
          refine wp_value (w' := w') (v := .pointer (some ⟨b, off + q * 3, none⟩)) (by simp [execOp, ev, go_sem]) ?_
          exact ⟨v11, v12, v13, v14, (.pointer (some ⟨b, off + q * 3, none⟩)), v16, v17, v18, v19, v20, v21, v22, v23, v24, v25, v26, v27, v28, v29, v3, nb, va, vn, vc, by rw [ha]; kernel_rfl, h3.imp_left .inr, hB.imp_left .inr, fun h => e0 (h.resolve_left (by decide)), fun h => e1 (h.resolve_left (by decide)), fun h => e2 (h.resolve_left (by decide)), fun h => e3 (h.resolve_left (by decide)), fun _ => rfl, fun h => e5 (h.resolve_left (by decide)), fun h => e6 (h.resolve_left (by decide)), fun h => e7 (h.resolve_left (by decide)), fun h => e8 (h.resolve_left (by decide)), fun h => e9 (h.resolve_left (by decide)), fun h => e10 (h.resolve_left (by decide)), fun h => e11 (h.resolve_left (by decide)), fun h => e12 (h.resolve_left (by decide)), fun h => e13 (h.resolve_left (by decide)), fun h => e14 (h.resolve_left (by decide)), fun h => e15 (h.resolve_left (by decide)), fun h => e16 (h.resolve_left (by decide)), fun h => e17 (h.resolve_left (by decide)), fun h => e18 (h.resolve_left (by decide)), fun h => e19 (h.resolve_left (by decide)), fun h => hQ (h.resolve_left (by decide)), fun h h' => hN (h.resolve_left (by decide)) (fun k => h' (.inr k))⟩
        | 5, ho =>
          cases Option.some.inj ho
          have ev : a.tmps[15]?.getD undef = .pointer (some ⟨b, off + q * 3, none⟩) := by rw [ha, e4 (hd ⟨4, .data⟩ (by simp) rfl)]; kernel_rfl
          have hb := hB.resolve_left (fun h => (fun h => (fun h => hn (hcl 16 _ rfl h ⟨5, .data⟩ (by simp) rfl)) (hcl 17 _ rfl h ⟨16, .data⟩ (by simp) rfl)) (hcl 18 _ rfl h ⟨17, .data⟩ (by simp) rfl))
          have z := (hb.cell (ltC c0)).trans c0
          refine wp_value (w' := w') (v := .int .i64 t.kind) (by simp [execOp, ev, go_sem, z]) ?_
          exact ⟨v11, v12, v13, v14, v15, (.int .i64 t.kind), v17, v18, v19, v20, v21, v22, v23, v24, v25, v26, v27, v28, v29, v3, nb, va, vn, vc, by rw [ha]; kernel_rfl, h3.imp_left .inr, hB.imp_left .inr, fun h => e0 (h.resolve_left (by decide)), fun h => e1 (h.resolve_left (by decide)), fun h => e2 (h.resolve_left (by decide)), fun h => e3 (h.resolve_left (by decide)), fun h => e4 (h.resolve_left (by decide)), fun _ => rfl, fun h => e6 (h.resolve_left (by decide)), fun h => e7 (h.resolve_left (by decide)), fun h => e8 (h.resolve_left (by decide)), fun h => e9 (h.resolve_left (by decide)), fun h => e10 (h.resolve_left (by decide)), fun h => e11 (h.resolve_left (by decide)), fun h => e12 (h.resolve_left (by decide)), fun h => e13 (h.resolve_left (by decide)), fun h => e14 (h.resolve_left (by decide)), fun h => e15 (h.resolve_left (by decide)), fun h => e16 (h.resolve_left (by decide)), fun h => e17 (h.resolve_left (by decide)), fun h => e18 (h.resolve_left (by decide)), fun h => e19 (h.resolve_left (by decide)), fun h => hQ (h.resolve_left (by decide)), fun h h' => hN (h.resolve_left (by decide)) (fun k => h' (.inr k))⟩
        | 6, ho =>
          cases Option.some.inj ho
          have ev : a.tmps[0]?.getD undef = .slice (some ⟨b, off, none⟩) len cap := by rw [ha]; kernel_rfl
          refine wp_value (w' := w') (v := .slice (some ⟨b, off, none⟩) len cap) (by simp [execOp, ev, go_sem]) ?_
          exact ⟨v11, v12, v13, v14, v15, v16, (.slice (some ⟨b, off, none⟩) len cap), v18, v19, v20, v21, v22, v23, v24, v25, v26, v27, v28, v29, v3, nb, va, vn, vc, by rw [ha]; kernel_rfl, h3.imp_left .inr, hB.imp_left .inr, fun h => e0 (h.resolve_left (by decide)), fun h => e1 (h.resolve_left (by decide)), fun h => e2 (h.resolve_left (by decide)), fun h => e3 (h.resolve_left (by decide)), fun h => e4 (h.resolve_left (by decide)), fun h => e5 (h.resolve_left (by decide)), fun _ => rfl, fun h => e7 (h.resolve_left (by decide)), fun h => e8 (h.resolve_left (by decide)), fun h => e9 (h.resolve_left (by decide)), fun h => e10 (h.resolve_left (by decide)), fun h => e11 (h.resolve_left (by decide)), fun h => e12 (h.resolve_left (by decide)), fun h => e13 (h.resolve_left (by decide)), fun h => e14 (h.resolve_left (by decide)), fun h => e15 (h.resolve_left (by decide)), fun h => e16 (h.resolve_left (by decide)), fun h => e17 (h.resolve_left (by decide)), fun h => e18 (h.resolve_left (by decide)), fun h => e19 (h.resolve_left (by decide)), fun h => hQ (h.resolve_left (by decide)), fun h h' => hN (h.resolve_left (by decide)) (fun k => h' (.inr k))⟩
        | 7, ho =>
          cases Option.some.inj ho
          have ev : a.tmps[4]?.getD undef = .int .i64 (q : Int) := by rw [ha]; kernel_rfl
          refine wp_value (w' := w') (v := .int .i64 (q : Int)) (by simp [execOp, ev, go_sem]) ?_
          exact ⟨v11, v12, v13, v14, v15, v16, v17, (.int .i64 (q : Int)), v19, v20, v21, v22, v23, v24, v25, v26, v27, v28, v29, v3, nb, va, vn, vc, by rw [ha]; kernel_rfl, h3.imp_left .inr, hB.imp_left .inr, fun h => e0 (h.resolve_left (by decide)), fun h => e1 (h.resolve_left (by decide)), fun h => e2 (h.resolve_left (by decide)), fun h => e3 (h.resolve_left (by decide)), fun h => e4 (h.resolve_left (by decide)), fun h => e5 (h.resolve_left (by decide)), fun h => e6 (h.resolve_left (by decide)), fun _ => rfl, fun h => e8 (h.resolve_left (by decide)), fun h => e9 (h.resolve_left (by decide)), fun h => e10 (h.resolve_left (by decide)), fun h => e11 (h.resolve_left (by decide)), fun h => e12 (h.resolve_left (by decide)), fun h => e13 (h.resolve_left (by decide)), fun h => e14 (h.resolve_left (by decide)), fun h => e15 (h.resolve_left (by decide)), fun h => e16 (h.resolve_left (by decide)), fun h => e17 (h.resolve_left (by decide)), fun h => e18 (h.resolve_left (by decide)), fun h => e19 (h.resolve_left (by decide)), fun h => hQ (h.resolve_left (by decide)), fun h h' => hN (h.resolve_left (by decide)) (fun k => h' (.inr k))⟩
        | 8, ho =>
          cases Option.some.inj ho
          have ev : a.tmps[17]?.getD undef = .slice (some ⟨b, off, none⟩) len cap := by rw [ha, e6 (hd ⟨6, .data⟩ (by simp) rfl)]; kernel_rfl
          have ev' : a.tmps[18]?.getD undef = .int .i64 (q : Int) := by rw [ha, e7 (hd ⟨7, .data⟩ (by simp) rfl)]; kernel_rfl
          refine wp_value (w' := w') (v := .pointer (some ⟨b, off + q * 3, none⟩)) (by simp [execOp, ev, ev', go_sem, hltI]) ?_
          exact ⟨v11, v12, v13, v14, v15, v16, v17, v18, (.pointer (some ⟨b, off + q * 3, none⟩)), v20, v21, v22, v23, v24, v25, v26, v27, v28, v29, v3, nb, va, vn, vc, by rw [ha]; kernel_rfl, h3.imp_left .inr, hB.imp_left .inr, fun h => e0 (h.resolve_left (by decide)), fun h => e1 (h.resolve_left (by decide)), fun h => e2 (h.resolve_left (by decide)), fun h => e3 (h.resolve_left (by decide)), fun h => e4 (h.resolve_left (by decide)), fun h => e5 (h.resolve_left (by decide)), fun h => e6 (h.resolve_left (by decide)), fun h => e7 (h.resolve_left (by decide)), fun _ => rfl, fun h => e9 (h.resolve_left (by decide)), fun h => e10 (h.resolve_left (by decide)), fun h => e11 (h.resolve_left (by decide)), fun h => e12 (h.resolve_left (by decide)), fun h => e13 (h.resolve_left (by decide)), fun h => e14 (h.resolve_left (by decide)), fun h => e15 (h.resolve_left (by decide)), fun h => e16 (h.resolve_left (by decide)), fun h => e17 (h.resolve_left (by decide)), fun h => e18 (h.resolve_left (by decide)), fun h => e19 (h.resolve_left (by decide)), fun h => hQ (h.resolve_left (by decide)), fun h h' => hN (h.resolve_left (by decide)) (fun k => h' (.inr k))⟩
        | 9, ho =>
          cases Option.some.inj ho
          have ev : a.tmps[19]?.getD undef = .pointer (some ⟨b, off + q * 3, none⟩) := by rw [ha, e8 (hd ⟨8, .data⟩ (by simp) rfl)]; kernel_rfl
          refine wp_value (w' := w') (v := .pointer (some ⟨b, off + q * 3 + 1, none⟩)) (by simp [execOp, ev, go_sem]) ?_
          exact ⟨v11, v12, v13, v14, v15, v16, v17, v18, v19, (.pointer (some ⟨b, off + q * 3 + 1, none⟩)), v21, v22, v23, v24, v25, v26, v27, v28, v29, v3, nb, va, vn, vc, by rw [ha]; kernel_rfl, h3.imp_left .inr, hB.imp_left .inr, fun h => e0 (h.resolve_left (by decide)), fun h => e1 (h.resolve_left (by decide)), fun h => e2 (h.resolve_left (by decide)), fun h => e3 (h.resolve_left (by decide)), fun h => e4 (h.resolve_left (by decide)), fun h => e5 (h.resolve_left (by decide)), fun h => e6 (h.resolve_left (by decide)), fun h => e7 (h.resolve_left (by decide)), fun h => e8 (h.resolve_left (by decide)), fun _ => rfl, fun h => e10 (h.resolve_left (by decide)), fun h => e11 (h.resolve_left (by decide)), fun h => e12 (h.resolve_left (by decide)), fun h => e13 (h.resolve_left (by decide)), fun h => e14 (h.resolve_left (by decide)), fun h => e15 (h.resolve_left (by decide)), fun h => e16 (h.resolve_left (by decide)), fun h => e17 (h.resolve_left (by decide)), fun h => e18 (h.resolve_left (by decide)), fun h => e19 (h.resolve_left (by decide)), fun h => hQ (h.resolve_left (by decide)), fun h h' => hN (h.resolve_left (by decide)) (fun k => h' (.inr k))⟩
        | 10, ho =>
          cases Option.some.inj ho
          have ev : a.tmps[20]?.getD undef = .pointer (some ⟨b, off + q * 3 + 1, none⟩) := by rw [ha, e9 (hd ⟨9, .data⟩ (by simp) rfl)]; kernel_rfl
          have hb := hB.resolve_left (fun h => (fun h => (fun h => hn (hcl 16 _ rfl h ⟨10, .data⟩ (by simp) rfl)) (hcl 17 _ rfl h ⟨16, .data⟩ (by simp) rfl)) (hcl 18 _ rfl h ⟨17, .data⟩ (by simp) rfl))
          have z := (hb.cell (ltC c1)).trans c1
          refine wp_value (w' := w') (v := .string (strOfNums t.text)) (by simp [execOp, ev, go_sem, z]) ?_
          exact ⟨v11, v12, v13, v14, v15, v16, v17, v18, v19, v20, (.string (strOfNums t.text)), v22, v23, v24, v25, v26, v27, v28, v29, v3, nb, va, vn, vc, by rw [ha]; kernel_rfl, h3.imp_left .inr, hB.imp_left .inr, fun h => e0 (h.resolve_left (by decide)), fun h => e1 (h.resolve_left (by decide)), fun h => e2 (h.resolve_left (by decide)), fun h => e3 (h.resolve_left (by decide)), fun h => e4 (h.resolve_left (by decide)), fun h => e5 (h.resolve_left (by decide)), fun h => e6 (h.resolve_left (by decide)), fun h => e7 (h.resolve_left (by decide)), fun h => e8 (h.resolve_left (by decide)), fun h => e9 (h.resolve_left (by decide)), fun _ => rfl, fun h => e11 (h.resolve_left (by decide)), fun h => e12 (h.resolve_left (by decide)), fun h => e13 (h.resolve_left (by decide)), fun h => e14 (h.resolve_left (by decide)), fun h => e15 (h.resolve_left (by decide)), fun h => e16 (h.resolve_left (by decide)), fun h => e17 (h.resolve_left (by decide)), fun h => e18 (h.resolve_left (by decide)), fun h => e19 (h.resolve_left (by decide)), fun h => hQ (h.resolve_left (by decide)), fun h h' => hN (h.resolve_left (by decide)) (fun k => h' (.inr k))⟩
        | 11, ho =>
          cases Option.some.inj ho
          have ev : a.tmps[0]?.getD undef = .slice (some ⟨b, off, none⟩) len cap := by rw [ha]; kernel_rfl
          refine wp_value (w' := w') (v := .slice (some ⟨b, off, none⟩) len cap) (by simp [execOp, ev, go_sem]) ?_
          exact ⟨v11, v12, v13, v14, v15, v16, v17, v18, v19, v20, v21, (.slice (some ⟨b, off, none⟩) len cap), v23, v24, v25, v26, v27, v28, v29, v3, nb, va, vn, vc, by rw [ha]; kernel_rfl, h3.imp_left .inr, hB.imp_left .inr, fun h => e0 (h.resolve_left (by decide)), fun h => e1 (h.resolve_left (by decide)), fun h => e2 (h.resolve_left (by decide)), fun h => e3 (h.resolve_left (by decide)), fun h => e4 (h.resolve_left (by decide)), fun h => e5 (h.resolve_left (by decide)), fun h => e6 (h.resolve_left (by decide)), fun h => e7 (h.resolve_left (by decide)), fun h => e8 (h.resolve_left (by decide)), fun h => e9 (h.resolve_left (by decide)), fun h => e10 (h.resolve_left (by decide)), fun _ => rfl, fun h => e12 (h.resolve_left (by decide)), fun h => e13 (h.resolve_left (by decide)), fun h => e14 (h.resolve_left (by decide)), fun h => e15 (h.resolve_left (by decide)), fun h => e16 (h.resolve_left (by decide)), fun h => e17 (h.resolve_left (by decide)), fun h => e18 (h.resolve_left (by decide)), fun h => e19 (h.resolve_left (by decide)), fun h => hQ (h.resolve_left (by decide)), fun h h' => hN (h.resolve_left (by decide)) (fun k => h' (.inr k))⟩
        | 12, ho =>
          cases Option.some.inj ho
          have ev : a.tmps[4]?.getD undef = .int .i64 (q : Int) := by rw [ha]; kernel_rfl
          refine wp_value (w' := w') (v := .int .i64 (q : Int)) (by simp [execOp, ev, go_sem]) ?_
          exact ⟨v11, v12, v13, v14, v15, v16, v17, v18, v19, v20, v21, v22, (.int .i64 (q : Int)), v24, v25, v26, v27, v28, v29, v3, nb, va, vn, vc, by rw [ha]; kernel_rfl, h3.imp_left .inr, hB.imp_left .inr, fun h => e0 (h.resolve_left (by decide)), fun h => e1 (h.resolve_left (by decide)), fun h => e2 (h.resolve_left (by decide)), fun h => e3 (h.resolve_left (by decide)), fun h => e4 (h.resolve_left (by decide)), fun h => e5 (h.resolve_left (by decide)), fun h => e6 (h.resolve_left (by decide)), fun h => e7 (h.resolve_left (by decide)), fun h => e8 (h.resolve_left (by decide)), fun h => e9 (h.resolve_left (by decide)), fun h => e10 (h.resolve_left (by decide)), fun h => e11 (h.resolve_left (by decide)), fun _ => rfl, fun h => e13 (h.resolve_left (by decide)), fun h => e14 (h.resolve_left (by decide)), fun h => e15 (h.resolve_left (by decide)), fun h => e16 (h.resolve_left (by decide)), fun h => e17 (h.resolve_left (by decide)), fun h => e18 (h.resolve_left (by decide)), fun h => e19 (h.resolve_left (by decide)), fun h => hQ (h.resolve_left (by decide)), fun h h' => hN (h.resolve_left (by decide)) (fun k => h' (.inr k))⟩
        | 13, ho =>
          cases Option.some.inj ho
          have ev : a.tmps[22]?.getD undef = .slice (some ⟨b, off, none⟩) len cap := by rw [ha, e11 (hd ⟨11, .data⟩ (by simp) rfl)]; kernel_rfl
          have ev' : a.tmps[23]?.getD undef = .int .i64 (q : Int) := by rw [ha, e12 (hd ⟨12, .data⟩ (by simp) rfl)]; kernel_rfl
          refine wp_value (w' := w') (v := .pointer (some ⟨b, off + q * 3, none⟩)) (by simp [execOp, ev, ev', go_sem, hltI]) ?_
          exact ⟨v11, v12, v13, v14, v15, v16, v17, v18, v19, v20, v21, v22, v23, (.pointer (some ⟨b, off + q * 3, none⟩)), v25, v26, v27, v28, v29, v3, nb, va, vn, vc, by rw [ha]; kernel_rfl, h3.imp_left .inr, hB.imp_left .inr, fun h => e0 (h.resolve_left (by decide)), fun h => e1 (h.resolve_left (by decide)), fun h => e2 (h.resolve_left (by decide)), fun h => e3 (h.resolve_left (by decide)), fun h => e4 (h.resolve_left (by decide)), fun h => e5 (h.resolve_left (by decide)), fun h => e6 (h.resolve_left (by decide)), fun h => e7 (h.resolve_left (by decide)), fun h => e8 (h.resolve_left (by decide)), fun h => e9 (h.resolve_left (by decide)), fun h => e10 (h.resolve_left (by decide)), fun h => e11 (h.resolve_left (by decide)), fun h => e12 (h.resolve_left (by decide)), fun _ => rfl, fun h => e14 (h.resolve_left (by decide)), fun h => e15 (h.resolve_left (by decide)), fun h => e16 (h.resolve_left (by decide)), fun h => e17 (h.resolve_left (by decide)), fun h => e18 (h.resolve_left (by decide)), fun h => e19 (h.resolve_left (by decide)), fun h => hQ (h.resolve_left (by decide)), fun h h' => hN (h.resolve_left (by decide)) (fun k => h' (.inr k))⟩
        | 14, ho =>
          cases Option.some.inj ho
          have ev : a.tmps[24]?.getD undef = .pointer (some ⟨b, off + q * 3, none⟩) := by rw [ha, e13 (hd ⟨13, .data⟩ (by simp) rfl)]; kernel_rfl
          refine wp_value (w' := w') (v := .pointer (some ⟨b, off + q * 3 + 2, none⟩)) (by simp [execOp, ev, go_sem]) ?_
          exact ⟨v11, v12, v13, v14, v15, v16, v17, v18, v19, v20, v21, v22, v23, v24, (.pointer (some ⟨b, off + q * 3 + 2, none⟩)), v26, v27, v28, v29, v3, nb, va, vn, vc, by rw [ha]; kernel_rfl, h3.imp_left .inr, hB.imp_left .inr, fun h => e0 (h.resolve_left (by decide)), fun h => e1 (h.resolve_left (by decide)), fun h => e2 (h.resolve_left (by decide)), fun h => e3 (h.resolve_left (by decide)), fun h => e4 (h.resolve_left (by decide)), fun h => e5 (h.resolve_left (by decide)), fun h => e6 (h.resolve_left (by decide)), fun h => e7 (h.resolve_left (by decide)), fun h => e8 (h.resolve_left (by decide)), fun h => e9 (h.resolve_left (by decide)), fun h => e10 (h.resolve_left (by decide)), fun h => e11 (h.resolve_left (by decide)), fun h => e12 (h.resolve_left (by decide)), fun h => e13 (h.resolve_left (by decide)), fun _ => rfl, fun h => e15 (h.resolve_left (by decide)), fun h => e16 (h.resolve_left (by decide)), fun h => e17 (h.resolve_left (by decide)), fun h => e18 (h.resolve_left (by decide)), fun h => e19 (h.resolve_left (by decide)), fun h => hQ (h.resolve_left (by decide)), fun h h' => hN (h.resolve_left (by decide)) (fun k => h' (.inr k))⟩
        | 15, ho =>
          cases Option.some.inj ho
          have ev : a.tmps[25]?.getD undef = .pointer (some ⟨b, off + q * 3 + 2, none⟩) := by rw [ha, e14 (hd ⟨14, .data⟩ (by simp) rfl)]; kernel_rfl
          have hb := hB.resolve_left (fun h => (fun h => (fun h => hn (hcl 16 _ rfl h ⟨15, .data⟩ (by simp) rfl)) (hcl 17 _ rfl h ⟨16, .data⟩ (by simp) rfl)) (hcl 18 _ rfl h ⟨17, .data⟩ (by simp) rfl))
          have z := (hb.cell (ltC c2)).trans c2
          refine wp_value (w' := w') (v := .int .i64 (t.pos : Int)) (by simp [execOp, ev, go_sem, z]) ?_
          exact ⟨v11, v12, v13, v14, v15, v16, v17, v18, v19, v20, v21, v22, v23, v24, v25, (.int .i64 (t.pos : Int)), v27, v28, v29, v3, nb, va, vn, vc, by rw [ha]; kernel_rfl, h3.imp_left .inr, hB.imp_left .inr, fun h => e0 (h.resolve_left (by decide)), fun h => e1 (h.resolve_left (by decide)), fun h => e2 (h.resolve_left (by decide)), fun h => e3 (h.resolve_left (by decide)), fun h => e4 (h.resolve_left (by decide)), fun h => e5 (h.resolve_left (by decide)), fun h => e6 (h.resolve_left (by decide)), fun h => e7 (h.resolve_left (by decide)), fun h => e8 (h.resolve_left (by decide)), fun h => e9 (h.resolve_left (by decide)), fun h => e10 (h.resolve_left (by decide)), fun h => e11 (h.resolve_left (by decide)), fun h => e12 (h.resolve_left (by decide)), fun h => e13 (h.resolve_left (by decide)), fun h => e14 (h.resolve_left (by decide)), fun _ => rfl, fun h => e16 (h.resolve_left (by decide)), fun h => e17 (h.resolve_left (by decide)), fun h => e18 (h.resolve_left (by decide)), fun h => e19 (h.resolve_left (by decide)), fun h => hQ (h.resolve_left (by decide)), fun h h' => hN (h.resolve_left (by decide)) (fun k => h' (.inr k))⟩
        | 16, ho =>
          cases Option.some.inj ho
          have ev : a.tmps[16]?.getD undef = .int .i64 t.kind := by rw [ha, e5 (hd ⟨5, .data⟩ (by simp) rfl)]; kernel_rfl
          have ev' : a.tmps[21]?.getD undef = .string (strOfNums t.text) := by rw [ha, e10 (hd ⟨10, .data⟩ (by simp) rfl)]; kernel_rfl
          have ev'' : a.tmps[26]?.getD undef = .int .i64 (t.pos : Int) := by rw [ha, e15 (hd ⟨15, .data⟩ (by simp) rfl)]; kernel_rfl
          refine wp_value (w' := w') (v := .agg #[.int .i64 t.kind, .string (strOfNums t.text), .int .i64 (t.pos : Int)]) (by simp [execOp, ev, ev', ev'', go_sem]) ?_
          exact ⟨v11, v12, v13, v14, v15, v16, v17, v18, v19, v20, v21, v22, v23, v24, v25, v26, (.agg #[.int .i64 t.kind, .string (strOfNums t.text), .int .i64 (t.pos : Int)]), v28, v29, v3, nb, va, vn, vc, by rw [ha]; kernel_rfl, h3.imp_left .inr, hB.imp_left .inr, fun h => e0 (h.resolve_left (by decide)), fun h => e1 (h.resolve_left (by decide)), fun h => e2 (h.resolve_left (by decide)), fun h => e3 (h.resolve_left (by decide)), fun h => e4 (h.resolve_left (by decide)), fun h => e5 (h.resolve_left (by decide)), fun h => e6 (h.resolve_left (by decide)), fun h => e7 (h.resolve_left (by decide)), fun h => e8 (h.resolve_left (by decide)), fun h => e9 (h.resolve_left (by decide)), fun h => e10 (h.resolve_left (by decide)), fun h => e11 (h.resolve_left (by decide)), fun h => e12 (h.resolve_left (by decide)), fun h => e13 (h.resolve_left (by decide)), fun h => e14 (h.resolve_left (by decide)), fun h => e15 (h.resolve_left (by decide)), fun _ => rfl, fun h => e17 (h.resolve_left (by decide)), fun h => e18 (h.resolve_left (by decide)), fun h => e19 (h.resolve_left (by decide)), fun h => hQ (h.resolve_left (by decide)), fun h h' => hN (h.resolve_left (by decide)) (fun k => h' (.inr k))⟩
        | 17, ho =>
          cases Option.some.inj ho
          have ev : a.tmps[27]?.getD undef = .agg #[.int .i64 t.kind, .string (strOfNums t.text), .int .i64 (t.pos : Int)] := by rw [ha, e16 (hd ⟨16, .data⟩ (by simp) rfl)]; kernel_rfl
          have hb := hB.resolve_left (fun h => hn (hcl 18 _ rfl h ⟨17, .data⟩ (by simp) rfl))
          refine wp_value (w' := w'.alloc (.cells #[.int .i64 t.kind, .string (strOfNums t.text), .int .i64 (t.pos : Int)] 44)) (v := .slice (some ⟨w'.heap.size, 0, none⟩) 1 1) (by simp [execOp, ev, go_sem]) ?_
          exact ⟨v11, v12, v13, v14, v15, v16, v17, v18, v19, v20, v21, v22, v23, v24, v25, v26, v27, (.slice (some ⟨w'.heap.size, 0, none⟩) 1 1), v29, v3, w'.heap.size, va, vn, vc, by rw [ha]; kernel_rfl, h3.imp_left .inr, (.inr ((hb.alloc hb.size _))), fun h => e0 (h.resolve_left (by decide)), fun h => e1 (h.resolve_left (by decide)), fun h => e2 (h.resolve_left (by decide)), fun h => e3 (h.resolve_left (by decide)), fun h => e4 (h.resolve_left (by decide)), fun h => e5 (h.resolve_left (by decide)), fun h => e6 (h.resolve_left (by decide)), fun h => e7 (h.resolve_left (by decide)), fun h => e8 (h.resolve_left (by decide)), fun h => e9 (h.resolve_left (by decide)), fun h => e10 (h.resolve_left (by decide)), fun h => e11 (h.resolve_left (by decide)), fun h => e12 (h.resolve_left (by decide)), fun h => e13 (h.resolve_left (by decide)), fun h => e14 (h.resolve_left (by decide)), fun h => e15 (h.resolve_left (by decide)), fun h => e16 (h.resolve_left (by decide)), fun _ => rfl, fun h => e18 (h.resolve_left (by decide)), fun h => e19 (h.resolve_left (by decide)), fun h => absurd (h.resolve_left (by decide)) (fun h => hn (hcl 18 _ rfl h ⟨17, .data⟩ (by simp) rfl)), fun _ _ => ⟨newT _ _, hb.size⟩⟩
        | 18, ho =>
          cases Option.some.inj ho
          have ev : a.tmps[11]?.getD undef = u3 := by rw [ha, e0 (hd ⟨0, .data⟩ (by simp) rfl)]; kernel_rfl
          have ev' : a.tmps[28]?.getD undef = .slice (some ⟨nb, 0, none⟩) 1 1 := by rw [ha, e17 (hd ⟨17, .data⟩ (by simp) rfl)]; kernel_rfl
          have hb := hB.resolve_left hn
          obtain ⟨N9, hnb⟩ := hN (hd ⟨17, .data⟩ (by simp) rfl) hn
          refine app_tok_op w' 26 44 Tryd.underlying26 Tryd.info44 (.tmp 11) (.tmp 28) rfl w.heap.size _ (ts.take q) (eval_of ev) (hown.below hb) nb t (eval_of ev') N9 hlen (Nat.le_trans hsw hb.size) ?_
          intro ja jn jc w6 hown6 hB6
          rw [← htk] at hown6
          exact ⟨v11, v12, v13, v14, v15, v16, v17, v18, v19, v20, v21, v22, v23, v24, v25, v26, v27, v28, (.slice ja jn jc), v3, nb, ja, jn, jc, by rw [ha]; kernel_rfl, h3.imp_left .inr, .inl (.inl rfl), fun h => e0 (h.resolve_left (by decide)), fun h => e1 (h.resolve_left (by decide)), fun h => e2 (h.resolve_left (by decide)), fun h => e3 (h.resolve_left (by decide)), fun h => e4 (h.resolve_left (by decide)), fun h => e5 (h.resolve_left (by decide)), fun h => e6 (h.resolve_left (by decide)), fun h => e7 (h.resolve_left (by decide)), fun h => e8 (h.resolve_left (by decide)), fun h => e9 (h.resolve_left (by decide)), fun h => e10 (h.resolve_left (by decide)), fun h => e11 (h.resolve_left (by decide)), fun h => e12 (h.resolve_left (by decide)), fun h => e13 (h.resolve_left (by decide)), fun h => e14 (h.resolve_left (by decide)), fun h => e15 (h.resolve_left (by decide)), fun h => e16 (h.resolve_left (by decide)), fun h => e17 (h.resolve_left (by decide)), fun _ => rfl, fun h => absurd (h.resolve_left (by decide)) (fun h => hn (hcl 19 _ rfl h ⟨18, .data⟩ (by simp) rfl)), fun _ => ⟨hown6, (hBw.trans (hb.mono hsw)).trans hB6⟩, fun _ h' => absurd (.inl rfl) h'⟩
        | 19, ho =>
          cases Option.some.inj ho
          have ev : a.tmps[29]?.getD undef = .slice va vn vc := by rw [ha, e18 (hd ⟨18, .data⟩ (by simp) rfl)]; kernel_rfl
          refine wp_value (w' := w') (v := .slice va vn vc) (by simp [execOp, ev, go_sem]) ?_
          exact ⟨v11, v12, v13, v14, v15, v16, v17, v18, v19, v20, v21, v22, v23, v24, v25, v26, v27, v28, v29, (.slice va vn vc), nb, va, vn, vc, by rw [ha]; kernel_rfl, .inl (.inl rfl), hB.imp_left .inr, fun h => e0 (h.resolve_left (by decide)), fun h => e1 (h.resolve_left (by decide)), fun h => e2 (h.resolve_left (by decide)), fun h => e3 (h.resolve_left (by decide)), fun h => e4 (h.resolve_left (by decide)), fun h => e5 (h.resolve_left (by decide)), fun h => e6 (h.resolve_left (by decide)), fun h => e7 (h.resolve_left (by decide)), fun h => e8 (h.resolve_left (by decide)), fun h => e9 (h.resolve_left (by decide)), fun h => e10 (h.resolve_left (by decide)), fun h => e11 (h.resolve_left (by decide)), fun h => e12 (h.resolve_left (by decide)), fun h => e13 (h.resolve_left (by decide)), fun h => e14 (h.resolve_left (by decide)), fun h => e15 (h.resolve_left (by decide)), fun h => e16 (h.resolve_left (by decide)), fun h => e17 (h.resolve_left (by decide)), fun h => e18 (h.resolve_left (by decide)), fun _ => rfl, fun h => hQ (h.resolve_left (by decide)), fun h h' => hN (h.resolve_left (by decide)) (fun k => h' (.inr k))⟩
        | i + 20, ho => simp at ho
      case done =>
        rintro D a w' ⟨v11, v12, v13, v14, v15, v16, v17, v18, v19, v20, v21, v22, v23, v24, v25, v26, v27, v28, v29, v3, nb, va, vn, vc, ha, h3, hB, e0, e1, e2, e3, e4, e5, e6, e7, e8, e9, e10, e11, e12, e13, e14, e15, e16, e17, e18, e19, hQ, hN⟩ hall
        obtain rfl := e0 (hall 0 (by decide))
        obtain rfl := e1 (hall 1 (by decide))
        obtain rfl := e2 (hall 2 (by decide))
        obtain rfl := e3 (hall 3 (by decide))
        obtain rfl := e4 (hall 4 (by decide))
        obtain rfl := e5 (hall 5 (by decide))
        obtain rfl := e6 (hall 6 (by decide))
        obtain rfl := e7 (hall 7 (by decide))
        obtain rfl := e8 (hall 8 (by decide))
        obtain rfl := e9 (hall 9 (by decide))
        obtain rfl := e10 (hall 10 (by decide))
        obtain rfl := e11 (hall 11 (by decide))
        obtain rfl := e12 (hall 12 (by decide))
        obtain rfl := e13 (hall 13 (by decide))
        obtain rfl := e14 (hall 14 (by decide))
        obtain rfl := e15 (hall 15 (by decide))
        obtain rfl := e16 (hall 16 (by decide))
        obtain rfl := e17 (hall 17 (by decide))
        obtain rfl := e18 (hall 18 (by decide))
        obtain rfl := e19 (hall 19 (by decide))
        obtain ⟨hQ1, hQ2⟩ := hQ (hall 18 (by decide))
        clear hN hall hB h3 hQ e0 e1 e2 e3 e4 e5 e6 e7 e8 e9 e10 e11 e12 e13 e14 e15 e16 e17 e18 e19
        rw [ha]
        clear ha
        simp only [Act.put, List.setIfInBounds_toArray, List.set_cons_zero, List.set_cons_succ]
        go_wp2
        go_roundw
        case rel => exact ⟨q + 1, by go_num, by omega, by rw [hE.out]; exact hQ1, hQ2⟩
        case measure => simp [intOf]; omega
    · have hltI : ¬ (q : Int) < (len : Int) := by omega
      obtain ⟨a', cap', rfl, hT⟩ := hown.isT
      have e : ts.take q = ts := List.take_of_length_le (by omega)
      go_wp2
      go_ret
      rw [e] at hT
      exact ⟨a', cap', by rw [← hsz]; rfl, by rw [← hsz]; exact hT, hBw⟩
end Go.Proofs.YtlhmeipbcioncaaDoor
