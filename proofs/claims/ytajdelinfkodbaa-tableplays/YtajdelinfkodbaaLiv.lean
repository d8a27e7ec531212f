/- The document's live: those that are not gone. -/
import Derived.Test.YtajdelinfkodbaaSta
namespace Go.Proofs.Ytajdelinfkodbaa
open Go.RowKit
set_option maxRecDepth 100000
theorem rcopy_shp {w : World} {c : Int} {sa ba : Option Addr} {sn sc bn bc : Nat} {vs : List (Int × Int)} {bs : List Int} (h : IsO w c sa sn sc ba bn bc vs bs) (hs : sn ≤ 8796093022208) (hb : bn ≤ 140737488355328) :
    Calls Try.prog 34 #[.agg #[.int .i64 c, .slice sa sn sc, .slice ba bn bc]] w fun e w' => ∃ ga gn gc qa qn qc, e = .returned (.agg #[.int .i64 c, .slice ga gn gc, .slice qa qn qc]) ∧ OwnV w' w.heap.size (.slice ga gn gc) vs ∧ OwnB w' w.heap.size (.slice qa qn qc) bs ∧ Below w.heap.size w w' := by
  refine (rcopy_any h hs hb).mono ?_
  rintro e w' ⟨vv, bv, rfl, o1, o2, B⟩
  obtain ⟨ga, gn, gc, rfl⟩ := o1.shape'
  obtain ⟨qa, qn, qc, rfl⟩ := o2.shape'
  exact ⟨ga, gn, gc, qa, qn, qc, rfl, o1, o2, B⟩
def OwnD (w : World) (base : Nat) (v : Value) (xs : List Ch) : Prop := ∃ ss : List Cs, w.ownsRow base 73 5 v ss.length (flatC ss) ∧ ss.map Cs.x = xs ∧ (∀ s ∈ ss, ElT w (fun g => base ≤ g) s) ∧ ∀ x ∈ xs, -9223372036854775808 ≤ x.oop ∧ x.oop ≤ 9223372036854775807
theorem OwnD.ownC {w : World} {base : Nat} {v : Value} {xs : List Ch} (h : OwnD w base v xs) : OwnC w base 73 v xs := by
  obtain ⟨ss, h1, h2, h3, h4⟩ := h
  exact ⟨ss, h1, h2, fun s hs => (h3 s hs).el, h4⟩
def LivP (w : World) (xs : List Ch) (e : Ending) (w' : World) : Prop := ∃ a n c, e = .returned (.slice a n c) ∧ n = xs.length ∧ OwnD w' w.heap.size (.slice a n c) xs ∧ Below w.heap.size w w'
set_option maxHeartbeats 16000000 in
theorem live_any {w : World} {T : Nat → Prop} {la : Option Addr} {ln lc : Nat} {l : List Ch} (hL : ChT w T (.slice la ln lc) l) (hg0 : ∀ x ∈ l, okCh x.gone x.cls x.vs x.bs = true) (hlen0 : l.length ≤ 8000) : Calls Try.prog 50 #[.slice la ln lc] w (LivP w (l.filter (fun x => !x.gone))) := by
  have hg : Hid (∀ x ∈ l, okCh x.gone x.cls x.vs x.bs = true) := hg0
  have hn0 : ln = l.length := by obtain ⟨a, n, c, e, q⟩ := hL.shape; cases e; exact q
  have hnn : ln ≤ 8000 := by omega
  have hsz : Hid (l.length = ln) := hn0.symm
  obtain ⟨l0, hl0⟩ : ∃ q, Hid (l.filter (fun x => !x.gone) = q) := ⟨_, rfl⟩
  rw [hl0.out]
  clear hn0 hg0 hlen0
  go_enter Try.func50, Try.ntmps50
  go_wp2_with fail
  go_loopw [3, 4] (fun ov iv wr => ∃ (j : Nat) (oa : Option Addr) (onc : Nat × Nat), j ≤ ln ∧ iv = .int .i64 (j : Int) ∧ ov = .slice oa onc.1 onc.2 ∧ SetQ w (fun _ => False) l0 ((l.drop j).filter (fun x => !x.gone)) j ov wr) (fun _ iv _ => ln - (intOf iv).toNat)
  case atStart => exact ⟨0, none, (0, 0), by omega, rfl, rfl, [], by rw [← hl0.out]; rfl, by simp, World.ownsRow_nil _ _ _ _, by simp, by simp, Below.refl _ _⟩
  case round =>
    obtain ⟨j, oa, ⟨on, oc⟩, hj, rfl, rfl, SQ⟩ := hrel
    have B6 : Below w.heap.size w wr := SQ.bel
    have hwr := B6.size
    by_cases hlt : j < ln
    · have hji : (j : Int) < (ln : Int) := by omega
      have hjn : (j : Int).toNat = j := by omega
      obtain ⟨cb, s, rfl, hcb, hcl0, hel, hxj, hxb⟩ := hL.at_ j (by have := hsz.out; omega)
      have d0 : wr.cell? ⟨cb, j * 5, none⟩ = some (.int .i64 s.x.oop) := (B6.cell hcb).trans (hcl0 0 _ rfl)
      have d1 : wr.cell? ⟨cb, j * 5 + 1, none⟩ = some (.bool s.x.gone) := (B6.cell hcb).trans (hcl0 1 _ rfl)
      have d2 : wr.cell? ⟨cb, j * 5 + 2, none⟩ = some (.int .i64 s.x.cls) := (B6.cell hcb).trans (hcl0 2 _ rfl)
      have d3 : wr.cell? ⟨cb, j * 5 + 3, none⟩ = some (.slice s.sa s.sn s.sc) := (B6.cell hcb).trans (hcl0 3 _ rfl)
      have d4 : wr.cell? ⟨cb, j * 5 + 4, none⟩ = some (.slice s.ba s.bn s.bc) := (B6.cell hcb).trans (hcl0 4 _ rfl)
      have hsx := List.mem_of_getElem? hxj.out
      have hG := okCh_len (hg.out s.x hsx)
      rw [drop_at hxj.out] at SQ
      cases hgo : s.x.gone with
      | false =>
        rw [hgo] at d1
        replace hgo : Hid _ := hgo
        rw [List.filter_cons_of_pos (by simp [hgo.out])] at SQ
        obtain ⟨hcls, ⟨bv1, o1⟩, ⟨bb1, o2⟩⟩ := hel.el
        have io : IsO wr s.x.cls s.sa s.sn s.sc s.ba s.bn s.bc s.x.vs s.x.bs := IsO.below ⟨hcls, o1.isV, o2.isB⟩ B6
        have hs : s.sn ≤ 8796093022208 := by have h1 := io.v.size; have h2 := hG.1; omega
        have hb' : s.bn ≤ 140737488355328 := by have h1 := io.b.size; have h2 := hG.2; omega
        have Q0 : Hid _ := SQ
        obtain ⟨ss, t1, t2, own, t4, t5, t6⟩ := SQ
        have hlen : ss.length ≤ 1000000000 := by omega
        have hss : Hid (l0 = ss.map Cs.x ++ s.x :: (l.drop (j + 1)).filter (fun x => !x.gone)) := t1
        clear t1 hG hsx o1 o2 hcl0
        replace t2 : Hid _ := t2
        go_upto_region 6 with fail
        refine wp_region_inv' (fun A D a w' => ∃ v17 v18 v19 v20 v21 v22 v23 v24 v25 v26 v27 v28 v29 v30 v31 v3 ga gn gc qa qn qc nb a8 n8 c8, a = ((((((((((((((((A.put (some 17) v17).put (some 18) v18).put (some 19) v19).put (some 20) v20).put (some 21) v21).put (some 22) v22).put (some 23) v23).put (some 24) v24).put (some 25) v25).put (some 26) v26).put (some 27) v27).put (some 28) v28).put (some 29) v29).put (some 30) v30).put (some 31) v31).put (some 3) v3) ∧ (D 15 ∨ v3 = .slice oa on oc) ∧ (D 14 ∨ Below wr.heap.size wr w') ∧ (D 0 → v17 = .slice oa on oc) ∧ (D 1 → v18 = .slice (some ⟨cb, 0, none⟩) ln lc) ∧ (D 2 → v19 = .int .i64 (j : Int)) ∧ (D 3 → v20 = .pointer (some ⟨cb, j * 5, none⟩)) ∧ (D 4 → v21 = .pointer (some ⟨cb, j * 5, none⟩)) ∧ (D 5 → v22 = .int .i64 s.x.oop) ∧ (D 6 → v23 = .slice (some ⟨cb, 0, none⟩) ln lc) ∧ (D 7 → v24 = .int .i64 (j : Int)) ∧ (D 8 → v25 = .pointer (some ⟨cb, j * 5, none⟩)) ∧ (D 9 → v26 = .pointer (some ⟨cb, j * 5 + 2, none⟩)) ∧ (D 10 → v27 = .agg #[.int .i64 s.x.cls, .slice s.sa s.sn s.sc, .slice s.ba s.bn s.bc]) ∧ (D 11 → v28 = .agg #[.int .i64 s.x.cls, .slice ga gn gc, .slice qa qn qc]) ∧ (D 12 → v29 = .agg #[.int .i64 s.x.oop, .bool false, .int .i64 s.x.cls, .slice ga gn gc, .slice qa qn qc]) ∧ (D 13 → v30 = .slice (some ⟨nb, 0, none⟩) 1 1) ∧ (D 14 → v31 = .slice a8 n8 c8) ∧ (D 15 → v3 = .slice a8 n8 c8) ∧ (D 14 → ∃ wp : World, Below wr.heap.size wr wp ∧ wp.grownBy w' (Value.slice oa on oc).ownBlock ∧ w'.ownsRow w.heap.size 73 5 (.slice a8 n8 c8) (ss.length + 1) (flatC ss ++ (⟨⟨s.x.oop, false, s.x.cls, s.x.vs, s.x.bs⟩, ga, gn, gc, qa, qn, qc⟩ : Cs).cells) ∧ OwnV wp wr.heap.size (.slice ga gn gc) s.x.vs ∧ OwnB wp wr.heap.size (.slice qa qn qc) s.x.bs) ∧ (D 11 → ¬ D 14 → OwnV w' wr.heap.size (.slice ga gn gc) s.x.vs ∧ OwnB w' wr.heap.size (.slice qa qn qc) s.x.bs) ∧ (D 13 → ¬ D 14 → ∀ j v, (⟨⟨s.x.oop, false, s.x.cls, s.x.vs, s.x.bs⟩, ga, gn, gc, qa, qn, qc⟩ : Cs).cells[j]? = some v → w'.cell? ⟨nb, j, none⟩ = some v)) (by kernel_rfl) (by kernel_rfl) ?mono ?start ?step ?done
        case mono =>
          rintro D D' a w' hD ⟨v17, v18, v19, v20, v21, v22, v23, v24, v25, v26, v27, v28, v29, v30, v31, v3, ga, gn, gc, qa, qn, qc, nb, a8, n8, c8, ha, h3, hB, e0, e1, e2, e3, e4, e5, e6, e7, e8, e9, e10, e11, e12, e13, e14, e15, hQ, hCp, hLit⟩
          exact ⟨v17, v18, v19, v20, v21, v22, v23, v24, v25, v26, v27, v28, v29, v30, v31, v3, ga, gn, gc, qa, qn, qc, nb, a8, n8, c8, ha, h3.imp_left (hD 15).1, hB.imp_left (hD 14).1, fun h => e0 ((hD 0).2 h), fun h => e1 ((hD 1).2 h), fun h => e2 ((hD 2).2 h), fun h => e3 ((hD 3).2 h), fun h => e4 ((hD 4).2 h), fun h => e5 ((hD 5).2 h), fun h => e6 ((hD 6).2 h), fun h => e7 ((hD 7).2 h), fun h => e8 ((hD 8).2 h), fun h => e9 ((hD 9).2 h), fun h => e10 ((hD 10).2 h), fun h => e11 ((hD 11).2 h), fun h => e12 ((hD 12).2 h), fun h => e13 ((hD 13).2 h), fun h => e14 ((hD 14).2 h), fun h => e15 ((hD 15).2 h), fun h => hQ ((hD 14).2 h), fun h h' => hCp ((hD 11).2 h) (fun k => h' ((hD 14).1 k)), fun h h' => hLit ((hD 13).2 h) (fun k => h' ((hD 14).1 k))⟩
        case start => exact ⟨u17, u18, u19, u20, u21, u22, u23, u24, u25, u26, u27, u28, u29, u30, u31, (.slice oa on oc), none, 0, 0, none, 0, 0, 0, none, 0, 0, by kernel_rfl, .inr rfl, .inr ((Below.refl _ _).drew), fun h => h.elim, fun h => h.elim, fun h => h.elim, fun h => h.elim, fun h => h.elim, fun h => h.elim, fun h => h.elim, fun h => h.elim, fun h => h.elim, fun h => h.elim, fun h => h.elim, fun h => h.elim, fun h => h.elim, fun h => h.elim, fun h => h.elim, fun h => h.elim, fun h => h.elim, fun h _ => h.elim, fun h _ => h.elim⟩
        case step =>
          intro i o ho D a w' hI hn hcl hd
          obtain ⟨v17, v18, v19, v20, v21, v22, v23, v24, v25, v26, v27, v28, v29, v30, v31, v3, ga, gn, gc, qa, qn, qc, nb, a8, n8, c8, ha, h3, hB, e0, e1, e2, e3, e4, e5, e6, e7, e8, e9, e10, e11, e12, e13, e14, e15, hQ, hCp, hLit⟩ := hI
          match i, ho with
          | 0, ho =>
            cases Option.some.inj ho
            have ev : a.tmps[3]?.getD undef = .slice oa on oc := by rw [ha, h3.resolve_left (fun h => (fun h => hn (hcl 14 _ rfl h ⟨0, .data⟩ (by simp) rfl)) (hcl 15 _ rfl h ⟨14, .data⟩ (by simp) rfl))]; kernel_rfl
            refine wp_value (w' := w') (v := .slice oa on oc) (by simp [execOp, ev, go_sem]) ?_
            exact ⟨(.slice oa on oc), v18, v19, v20, v21, v22, v23, v24, v25, v26, v27, v28, v29, v30, v31, v3, ga, gn, gc, qa, qn, qc, nb, a8, n8, c8, by rw [ha]; kernel_rfl, h3.imp_left .inr, hB.imp_left .inr, fun _ => rfl, fun h => e1 (h.resolve_left (by decide)), fun h => e2 (h.resolve_left (by decide)), fun h => e3 (h.resolve_left (by decide)), fun h => e4 (h.resolve_left (by decide)), fun h => e5 (h.resolve_left (by decide)), fun h => e6 (h.resolve_left (by decide)), fun h => e7 (h.resolve_left (by decide)), fun h => e8 (h.resolve_left (by decide)), fun h => e9 (h.resolve_left (by decide)), fun h => e10 (h.resolve_left (by decide)), fun h => e11 (h.resolve_left (by decide)), fun h => e12 (h.resolve_left (by decide)), fun h => e13 (h.resolve_left (by decide)), fun h => e14 (h.resolve_left (by decide)), fun h => e15 (h.resolve_left (by decide)), fun h => hQ (h.resolve_left (by decide)), fun h h' => hCp (h.resolve_left (by decide)) (fun k => h' (.inr k)), fun h h' => hLit (h.resolve_left (by decide)) (fun k => h' (.inr k))⟩
          | 1, ho =>
            cases Option.some.inj ho
            have ev : a.tmps[0]?.getD undef = .slice (some ⟨cb, 0, none⟩) ln lc := by rw [ha]; kernel_rfl
            refine wp_value (w' := w') (v := .slice (some ⟨cb, 0, none⟩) ln lc) (by simp [execOp, ev, go_sem]) ?_
            exact ⟨v17, (.slice (some ⟨cb, 0, none⟩) ln lc), v19, v20, v21, v22, v23, v24, v25, v26, v27, v28, v29, v30, v31, v3, ga, gn, gc, qa, qn, qc, nb, a8, n8, c8, by rw [ha]; kernel_rfl, h3.imp_left .inr, hB.imp_left .inr, fun h => e0 (h.resolve_left (by decide)), fun _ => rfl, fun h => e2 (h.resolve_left (by decide)), fun h => e3 (h.resolve_left (by decide)), fun h => e4 (h.resolve_left (by decide)), fun h => e5 (h.resolve_left (by decide)), fun h => e6 (h.resolve_left (by decide)), fun h => e7 (h.resolve_left (by decide)), fun h => e8 (h.resolve_left (by decide)), fun h => e9 (h.resolve_left (by decide)), fun h => e10 (h.resolve_left (by decide)), fun h => e11 (h.resolve_left (by decide)), fun h => e12 (h.resolve_left (by decide)), fun h => e13 (h.resolve_left (by decide)), fun h => e14 (h.resolve_left (by decide)), fun h => e15 (h.resolve_left (by decide)), fun h => hQ (h.resolve_left (by decide)), fun h h' => hCp (h.resolve_left (by decide)) (fun k => h' (.inr k)), fun h h' => hLit (h.resolve_left (by decide)) (fun k => h' (.inr k))⟩
          | 2, ho =>
            cases Option.some.inj ho
            have ev : a.tmps[4]?.getD undef = .int .i64 (j : Int) := by rw [ha]; kernel_rfl
            refine wp_value (w' := w') (v := .int .i64 (j : Int)) (by simp [execOp, ev, go_sem]) ?_
            exact ⟨v17, v18, (.int .i64 (j : Int)), v20, v21, v22, v23, v24, v25, v26, v27, v28, v29, v30, v31, v3, ga, gn, gc, qa, qn, qc, nb, a8, n8, c8, by rw [ha]; kernel_rfl, h3.imp_left .inr, hB.imp_left .inr, fun h => e0 (h.resolve_left (by decide)), fun h => e1 (h.resolve_left (by decide)), fun _ => rfl, fun h => e3 (h.resolve_left (by decide)), fun h => e4 (h.resolve_left (by decide)), fun h => e5 (h.resolve_left (by decide)), fun h => e6 (h.resolve_left (by decide)), fun h => e7 (h.resolve_left (by decide)), fun h => e8 (h.resolve_left (by decide)), fun h => e9 (h.resolve_left (by decide)), fun h => e10 (h.resolve_left (by decide)), fun h => e11 (h.resolve_left (by decide)), fun h => e12 (h.resolve_left (by decide)), fun h => e13 (h.resolve_left (by decide)), fun h => e14 (h.resolve_left (by decide)), fun h => e15 (h.resolve_left (by decide)), fun h => hQ (h.resolve_left (by decide)), fun h h' => hCp (h.resolve_left (by decide)) (fun k => h' (.inr k)), fun h h' => hLit (h.resolve_left (by decide)) (fun k => h' (.inr k))⟩
          | 3, ho =>
            cases Option.some.inj ho
            have ev : a.tmps[18]?.getD undef = .slice (some ⟨cb, 0, none⟩) ln lc := by rw [ha, e1 (hd ⟨1, .data⟩ (by simp) rfl)]; kernel_rfl
            have ev' : a.tmps[19]?.getD undef = .int .i64 (j : Int) := by rw [ha, e2 (hd ⟨2, .data⟩ (by simp) rfl)]; kernel_rfl
            refine wp_value (w' := w') (v := .pointer (some ⟨cb, j * 5, none⟩)) (by simp [execOp, ev, ev', go_sem, hji, hjn]) ?_
            exact ⟨v17, v18, v19, (.pointer (some ⟨cb, j * 5, none⟩)), v21, v22, v23, v24, v25, v26, v27, v28, v29, v30, v31, v3, ga, gn, gc, qa, qn, qc, nb, a8, n8, c8, by rw [ha]; kernel_rfl, h3.imp_left .inr, hB.imp_left .inr, fun h => e0 (h.resolve_left (by decide)), fun h => e1 (h.resolve_left (by decide)), fun h => e2 (h.resolve_left (by decide)), fun _ => rfl, fun h => e4 (h.resolve_left (by decide)), fun h => e5 (h.resolve_left (by decide)), fun h => e6 (h.resolve_left (by decide)), fun h => e7 (h.resolve_left (by decide)), fun h => e8 (h.resolve_left (by decide)), fun h => e9 (h.resolve_left (by decide)), fun h => e10 (h.resolve_left (by decide)), fun h => e11 (h.resolve_left (by decide)), fun h => e12 (h.resolve_left (by decide)), fun h => e13 (h.resolve_left (by decide)), fun h => e14 (h.resolve_left (by decide)), fun h => e15 (h.resolve_left (by decide)), fun h => hQ (h.resolve_left (by decide)), fun h h' => hCp (h.resolve_left (by decide)) (fun k => h' (.inr k)), fun h h' => hLit (h.resolve_left (by decide)) (fun k => h' (.inr k))⟩
          | 4, ho =>
            cases Option.some.inj ho
            have ev : a.tmps[20]?.getD undef = .pointer (some ⟨cb, j * 5, none⟩) := by rw [ha, e3 (hd ⟨3, .data⟩ (by simp) rfl)]; kernel_rfl
            refine wp_value (w' := w') (v := .pointer (some ⟨cb, j * 5, none⟩)) (by simp [execOp, ev, go_sem]) ?_
            exact ⟨v17, v18, v19, v20, (.pointer (some ⟨cb, j * 5, none⟩)), v22, v23, v24, v25, v26, v27, v28, v29, v30, v31, v3, ga, gn, gc, qa, qn, qc, nb, a8, n8, c8, by rw [ha]; kernel_rfl, h3.imp_left .inr, hB.imp_left .inr, fun h => e0 (h.resolve_left (by decide)), fun h => e1 (h.resolve_left (by decide)), fun h => e2 (h.resolve_left (by decide)), fun h => e3 (h.resolve_left (by decide)), fun _ => rfl, fun h => e5 (h.resolve_left (by decide)), fun h => e6 (h.resolve_left (by decide)), fun h => e7 (h.resolve_left (by decide)), fun h => e8 (h.resolve_left (by decide)), fun h => e9 (h.resolve_left (by decide)), fun h => e10 (h.resolve_left (by decide)), fun h => e11 (h.resolve_left (by decide)), fun h => e12 (h.resolve_left (by decide)), fun h => e13 (h.resolve_left (by decide)), fun h => e14 (h.resolve_left (by decide)), fun h => e15 (h.resolve_left (by decide)), fun h => hQ (h.resolve_left (by decide)), fun h h' => hCp (h.resolve_left (by decide)) (fun k => h' (.inr k)), fun h h' => hLit (h.resolve_left (by decide)) (fun k => h' (.inr k))⟩
          | 5, ho =>
            cases Option.some.inj ho
            have ev : a.tmps[21]?.getD undef = .pointer (some ⟨cb, j * 5, none⟩) := by rw [ha, e4 (hd ⟨4, .data⟩ (by simp) rfl)]; kernel_rfl
            have hb := hB.resolve_left (fun h => (fun h => (fun h => hn (hcl 12 _ rfl h ⟨5, .data⟩ (by simp) rfl)) (hcl 13 _ rfl h ⟨12, .data⟩ (by simp) rfl)) (hcl 14 _ rfl h ⟨13, .data⟩ (by simp) rfl))
            have q0 := (hb.cell (p := ⟨cb, j * 5, none⟩) (lt_of_cell d0)).trans d0
            refine wp_value (w' := w') (v := .int .i64 s.x.oop) (by simp [execOp, ev, go_sem, q0]) ?_
            exact ⟨v17, v18, v19, v20, v21, (.int .i64 s.x.oop), v23, v24, v25, v26, v27, v28, v29, v30, v31, v3, ga, gn, gc, qa, qn, qc, nb, a8, n8, c8, by rw [ha]; kernel_rfl, h3.imp_left .inr, hB.imp_left .inr, fun h => e0 (h.resolve_left (by decide)), fun h => e1 (h.resolve_left (by decide)), fun h => e2 (h.resolve_left (by decide)), fun h => e3 (h.resolve_left (by decide)), fun h => e4 (h.resolve_left (by decide)), fun _ => rfl, fun h => e6 (h.resolve_left (by decide)), fun h => e7 (h.resolve_left (by decide)), fun h => e8 (h.resolve_left (by decide)), fun h => e9 (h.resolve_left (by decide)), fun h => e10 (h.resolve_left (by decide)), fun h => e11 (h.resolve_left (by decide)), fun h => e12 (h.resolve_left (by decide)), fun h => e13 (h.resolve_left (by decide)), fun h => e14 (h.resolve_left (by decide)), fun h => e15 (h.resolve_left (by decide)), fun h => hQ (h.resolve_left (by decide)), fun h h' => hCp (h.resolve_left (by decide)) (fun k => h' (.inr k)), fun h h' => hLit (h.resolve_left (by decide)) (fun k => h' (.inr k))⟩
          | 6, ho =>
            cases Option.some.inj ho
            have ev : a.tmps[0]?.getD undef = .slice (some ⟨cb, 0, none⟩) ln lc := by rw [ha]; kernel_rfl
            refine wp_value (w' := w') (v := .slice (some ⟨cb, 0, none⟩) ln lc) (by simp [execOp, ev, go_sem]) ?_
            exact ⟨v17, v18, v19, v20, v21, v22, (.slice (some ⟨cb, 0, none⟩) ln lc), v24, v25, v26, v27, v28, v29, v30, v31, v3, ga, gn, gc, qa, qn, qc, nb, a8, n8, c8, by rw [ha]; kernel_rfl, h3.imp_left .inr, hB.imp_left .inr, fun h => e0 (h.resolve_left (by decide)), fun h => e1 (h.resolve_left (by decide)), fun h => e2 (h.resolve_left (by decide)), fun h => e3 (h.resolve_left (by decide)), fun h => e4 (h.resolve_left (by decide)), fun h => e5 (h.resolve_left (by decide)), fun _ => rfl, fun h => e7 (h.resolve_left (by decide)), fun h => e8 (h.resolve_left (by decide)), fun h => e9 (h.resolve_left (by decide)), fun h => e10 (h.resolve_left (by decide)), fun h => e11 (h.resolve_left (by decide)), fun h => e12 (h.resolve_left (by decide)), fun h => e13 (h.resolve_left (by decide)), fun h => e14 (h.resolve_left (by decide)), fun h => e15 (h.resolve_left (by decide)), fun h => hQ (h.resolve_left (by decide)), fun h h' => hCp (h.resolve_left (by decide)) (fun k => h' (.inr k)), fun h h' => hLit (h.resolve_left (by decide)) (fun k => h' (.inr k))⟩
          | 7, ho =>
            cases Option.some.inj ho
            have ev : a.tmps[4]?.getD undef = .int .i64 (j : Int) := by rw [ha]; kernel_rfl
            refine wp_value (w' := w') (v := .int .i64 (j : Int)) (by simp [execOp, ev, go_sem]) ?_
            exact ⟨v17, v18, v19, v20, v21, v22, v23, (.int .i64 (j : Int)), v25, v26, v27, v28, v29, v30, v31, v3, ga, gn, gc, qa, qn, qc, nb, a8, n8, c8, by rw [ha]; kernel_rfl, h3.imp_left .inr, hB.imp_left .inr, fun h => e0 (h.resolve_left (by decide)), fun h => e1 (h.resolve_left (by decide)), fun h => e2 (h.resolve_left (by decide)), fun h => e3 (h.resolve_left (by decide)), fun h => e4 (h.resolve_left (by decide)), fun h => e5 (h.resolve_left (by decide)), fun h => e6 (h.resolve_left (by decide)), fun _ => rfl, fun h => e8 (h.resolve_left (by decide)), fun h => e9 (h.resolve_left (by decide)), fun h => e10 (h.resolve_left (by decide)), fun h => e11 (h.resolve_left (by decide)), fun h => e12 (h.resolve_left (by decide)), fun h => e13 (h.resolve_left (by decide)), fun h => e14 (h.resolve_left (by decide)), fun h => e15 (h.resolve_left (by decide)), fun h => hQ (h.resolve_left (by decide)), fun h h' => hCp (h.resolve_left (by decide)) (fun k => h' (.inr k)), fun h h' => hLit (h.resolve_left (by decide)) (fun k => h' (.inr k))⟩
          | 8, ho =>
            cases Option.some.inj ho
            have ev : a.tmps[23]?.getD undef = .slice (some ⟨cb, 0, none⟩) ln lc := by rw [ha, e6 (hd ⟨6, .data⟩ (by simp) rfl)]; kernel_rfl
            have ev' : a.tmps[24]?.getD undef = .int .i64 (j : Int) := by rw [ha, e7 (hd ⟨7, .data⟩ (by simp) rfl)]; kernel_rfl
            refine wp_value (w' := w') (v := .pointer (some ⟨cb, j * 5, none⟩)) (by simp [execOp, ev, ev', go_sem, hji, hjn]) ?_
            exact ⟨v17, v18, v19, v20, v21, v22, v23, v24, (.pointer (some ⟨cb, j * 5, none⟩)), v26, v27, v28, v29, v30, v31, v3, ga, gn, gc, qa, qn, qc, nb, a8, n8, c8, by rw [ha]; kernel_rfl, h3.imp_left .inr, hB.imp_left .inr, fun h => e0 (h.resolve_left (by decide)), fun h => e1 (h.resolve_left (by decide)), fun h => e2 (h.resolve_left (by decide)), fun h => e3 (h.resolve_left (by decide)), fun h => e4 (h.resolve_left (by decide)), fun h => e5 (h.resolve_left (by decide)), fun h => e6 (h.resolve_left (by decide)), fun h => e7 (h.resolve_left (by decide)), fun _ => rfl, fun h => e9 (h.resolve_left (by decide)), fun h => e10 (h.resolve_left (by decide)), fun h => e11 (h.resolve_left (by decide)), fun h => e12 (h.resolve_left (by decide)), fun h => e13 (h.resolve_left (by decide)), fun h => e14 (h.resolve_left (by decide)), fun h => e15 (h.resolve_left (by decide)), fun h => hQ (h.resolve_left (by decide)), fun h h' => hCp (h.resolve_left (by decide)) (fun k => h' (.inr k)), fun h h' => hLit (h.resolve_left (by decide)) (fun k => h' (.inr k))⟩
          | 9, ho =>
            cases Option.some.inj ho
            have ev : a.tmps[25]?.getD undef = .pointer (some ⟨cb, j * 5, none⟩) := by rw [ha, e8 (hd ⟨8, .data⟩ (by simp) rfl)]; kernel_rfl
            refine wp_value (w' := w') (v := .pointer (some ⟨cb, j * 5 + 2, none⟩)) (by simp [execOp, ev, go_sem]) ?_
            exact ⟨v17, v18, v19, v20, v21, v22, v23, v24, v25, (.pointer (some ⟨cb, j * 5 + 2, none⟩)), v27, v28, v29, v30, v31, v3, ga, gn, gc, qa, qn, qc, nb, a8, n8, c8, by rw [ha]; kernel_rfl, h3.imp_left .inr, hB.imp_left .inr, fun h => e0 (h.resolve_left (by decide)), fun h => e1 (h.resolve_left (by decide)), fun h => e2 (h.resolve_left (by decide)), fun h => e3 (h.resolve_left (by decide)), fun h => e4 (h.resolve_left (by decide)), fun h => e5 (h.resolve_left (by decide)), fun h => e6 (h.resolve_left (by decide)), fun h => e7 (h.resolve_left (by decide)), fun h => e8 (h.resolve_left (by decide)), fun _ => rfl, fun h => e10 (h.resolve_left (by decide)), fun h => e11 (h.resolve_left (by decide)), fun h => e12 (h.resolve_left (by decide)), fun h => e13 (h.resolve_left (by decide)), fun h => e14 (h.resolve_left (by decide)), fun h => e15 (h.resolve_left (by decide)), fun h => hQ (h.resolve_left (by decide)), fun h h' => hCp (h.resolve_left (by decide)) (fun k => h' (.inr k)), fun h h' => hLit (h.resolve_left (by decide)) (fun k => h' (.inr k))⟩
          | 10, ho =>
            cases Option.some.inj ho
            have ev : a.tmps[26]?.getD undef = .pointer (some ⟨cb, j * 5 + 2, none⟩) := by rw [ha, e9 (hd ⟨9, .data⟩ (by simp) rfl)]; kernel_rfl
            have hb := hB.resolve_left (fun h => (fun h => (fun h => (fun h => hn (hcl 11 _ rfl h ⟨10, .data⟩ (by simp) rfl)) (hcl 12 _ rfl h ⟨11, .data⟩ (by simp) rfl)) (hcl 13 _ rfl h ⟨12, .data⟩ (by simp) rfl)) (hcl 14 _ rfl h ⟨13, .data⟩ (by simp) rfl))
            have q2 := (hb.cell (p := ⟨cb, j * 5 + 2, none⟩) (lt_of_cell d2)).trans d2
            have q3 := (hb.cell (p := ⟨cb, j * 5 + 3, none⟩) (lt_of_cell d3)).trans d3
            have q4 := (hb.cell (p := ⟨cb, j * 5 + 4, none⟩) (lt_of_cell d4)).trans d4
            refine wp_value (w' := w') (v := .agg #[.int .i64 s.x.cls, .slice s.sa s.sn s.sc, .slice s.ba s.bn s.bc]) (by simp [execOp, ev, go_sem, q2, q3, q4]) ?_
            exact ⟨v17, v18, v19, v20, v21, v22, v23, v24, v25, v26, (.agg #[.int .i64 s.x.cls, .slice s.sa s.sn s.sc, .slice s.ba s.bn s.bc]), v28, v29, v30, v31, v3, ga, gn, gc, qa, qn, qc, nb, a8, n8, c8, by rw [ha]; kernel_rfl, h3.imp_left .inr, hB.imp_left .inr, fun h => e0 (h.resolve_left (by decide)), fun h => e1 (h.resolve_left (by decide)), fun h => e2 (h.resolve_left (by decide)), fun h => e3 (h.resolve_left (by decide)), fun h => e4 (h.resolve_left (by decide)), fun h => e5 (h.resolve_left (by decide)), fun h => e6 (h.resolve_left (by decide)), fun h => e7 (h.resolve_left (by decide)), fun h => e8 (h.resolve_left (by decide)), fun h => e9 (h.resolve_left (by decide)), fun _ => rfl, fun h => e11 (h.resolve_left (by decide)), fun h => e12 (h.resolve_left (by decide)), fun h => e13 (h.resolve_left (by decide)), fun h => e14 (h.resolve_left (by decide)), fun h => e15 (h.resolve_left (by decide)), fun h => hQ (h.resolve_left (by decide)), fun h h' => hCp (h.resolve_left (by decide)) (fun k => h' (.inr k)), fun h h' => hLit (h.resolve_left (by decide)) (fun k => h' (.inr k))⟩
          | 11, ho =>
            cases Option.some.inj ho
            have ev : a.tmps[27]?.getD undef = .agg #[.int .i64 s.x.cls, .slice s.sa s.sn s.sc, .slice s.ba s.bn s.bc] := by rw [ha, e10 (hd ⟨10, .data⟩ (by simp) rfl)]; kernel_rfl
            have hb := hB.resolve_left (fun h => (fun h => (fun h => hn (hcl 12 _ rfl h ⟨11, .data⟩ (by simp) rfl)) (hcl 13 _ rfl h ⟨12, .data⟩ (by simp) rfl)) (hcl 14 _ rfl h ⟨13, .data⟩ (by simp) rfl))
            refine wp_enter (f := 34) (args := #[.agg #[.int .i64 s.x.cls, .slice s.sa s.sn s.sc, .slice s.ba s.bn s.bc]]) (by simp [execOp, ev, go_sem]) ?_
            refine (rcopy_shp (io.below hb) hs hb').mono ?_
            rintro e w6 ⟨ga', gn', gc', qa', qn', qc', rfl, oV, oB, HB⟩
            refine ⟨_, rfl, ?_⟩
            exact ⟨v17, v18, v19, v20, v21, v22, v23, v24, v25, v26, v27, (.agg #[.int .i64 s.x.cls, .slice ga' gn' gc', .slice qa' qn' qc']), v29, v30, v31, v3, ga', gn', gc', qa', qn', qc', nb, a8, n8, c8, by rw [ha]; kernel_rfl, h3.imp_left .inr, hB.imp .inr (fun h => below_size h h.size HB), fun h => e0 (h.resolve_left (by decide)), fun h => e1 (h.resolve_left (by decide)), fun h => e2 (h.resolve_left (by decide)), fun h => e3 (h.resolve_left (by decide)), fun h => e4 (h.resolve_left (by decide)), fun h => e5 (h.resolve_left (by decide)), fun h => e6 (h.resolve_left (by decide)), fun h => e7 (h.resolve_left (by decide)), fun h => e8 (h.resolve_left (by decide)), fun h => e9 (h.resolve_left (by decide)), fun h => e10 (h.resolve_left (by decide)), fun _ => rfl, fun h => absurd (h.resolve_left (by decide)) (fun h => hn (hcl 12 _ rfl h ⟨11, .data⟩ (by simp) rfl)), fun h => e13 (h.resolve_left (by decide)), fun h => e14 (h.resolve_left (by decide)), fun h => e15 (h.resolve_left (by decide)), fun h => absurd (h.resolve_left (by decide)) (fun h => (fun h => (fun h => hn (hcl 12 _ rfl h ⟨11, .data⟩ (by simp) rfl)) (hcl 13 _ rfl h ⟨12, .data⟩ (by simp) rfl)) (hcl 14 _ rfl h ⟨13, .data⟩ (by simp) rfl)), fun _ _ => ⟨oV.mono hb.size, oB.mono hb.size⟩, fun h _ => absurd (h.resolve_left (by decide)) (fun h => (fun h => hn (hcl 12 _ rfl h ⟨11, .data⟩ (by simp) rfl)) (hcl 13 _ rfl h ⟨12, .data⟩ (by simp) rfl))⟩
          | 12, ho =>
            cases Option.some.inj ho
            have ev : a.tmps[22]?.getD undef = .int .i64 s.x.oop := by rw [ha, e5 (hd ⟨5, .data⟩ (by simp) rfl)]; kernel_rfl
            have ev' : a.tmps[28]?.getD undef = .agg #[.int .i64 s.x.cls, .slice ga gn gc, .slice qa qn qc] := by rw [ha, e11 (hd ⟨11, .data⟩ (by simp) rfl)]; kernel_rfl
            refine wp_value (w' := w') (v := .agg #[.int .i64 s.x.oop, .bool false, .int .i64 s.x.cls, .slice ga gn gc, .slice qa qn qc]) (by simp [execOp, ev, ev', go_sem]) ?_
            exact ⟨v17, v18, v19, v20, v21, v22, v23, v24, v25, v26, v27, v28, (.agg #[.int .i64 s.x.oop, .bool false, .int .i64 s.x.cls, .slice ga gn gc, .slice qa qn qc]), v30, v31, v3, ga, gn, gc, qa, qn, qc, nb, a8, n8, c8, by rw [ha]; kernel_rfl, h3.imp_left .inr, hB.imp_left .inr, fun h => e0 (h.resolve_left (by decide)), fun h => e1 (h.resolve_left (by decide)), fun h => e2 (h.resolve_left (by decide)), fun h => e3 (h.resolve_left (by decide)), fun h => e4 (h.resolve_left (by decide)), fun h => e5 (h.resolve_left (by decide)), fun h => e6 (h.resolve_left (by decide)), fun h => e7 (h.resolve_left (by decide)), fun h => e8 (h.resolve_left (by decide)), fun h => e9 (h.resolve_left (by decide)), fun h => e10 (h.resolve_left (by decide)), fun h => e11 (h.resolve_left (by decide)), fun _ => rfl, fun h => e13 (h.resolve_left (by decide)), fun h => e14 (h.resolve_left (by decide)), fun h => e15 (h.resolve_left (by decide)), fun h => hQ (h.resolve_left (by decide)), fun h h' => hCp (h.resolve_left (by decide)) (fun k => h' (.inr k)), fun h h' => hLit (h.resolve_left (by decide)) (fun k => h' (.inr k))⟩
          | 13, ho =>
            cases Option.some.inj ho
            have ev : a.tmps[29]?.getD undef = .agg #[.int .i64 s.x.oop, .bool false, .int .i64 s.x.cls, .slice ga gn gc, .slice qa qn qc] := by rw [ha, e12 (hd ⟨12, .data⟩ (by simp) rfl)]; kernel_rfl
            refine wp_value (w' := w'.alloc (.cells #[.int .i64 s.x.oop, .bool false, .int .i64 s.x.cls, .slice ga gn gc, .slice qa qn qc] 73)) (v := .slice (some ⟨w'.heap.size, 0, none⟩) 1 1) (by simp [execOp, ev, go_sem]) ?_
            exact ⟨v17, v18, v19, v20, v21, v22, v23, v24, v25, v26, v27, v28, v29, (.slice (some ⟨w'.heap.size, 0, none⟩) 1 1), v31, v3, ga, gn, gc, qa, qn, qc, w'.heap.size, a8, n8, c8, by rw [ha]; kernel_rfl, h3.imp_left .inr, hB.imp .inr (fun h => below_size h h.size box_below), fun h => e0 (h.resolve_left (by decide)), fun h => e1 (h.resolve_left (by decide)), fun h => e2 (h.resolve_left (by decide)), fun h => e3 (h.resolve_left (by decide)), fun h => e4 (h.resolve_left (by decide)), fun h => e5 (h.resolve_left (by decide)), fun h => e6 (h.resolve_left (by decide)), fun h => e7 (h.resolve_left (by decide)), fun h => e8 (h.resolve_left (by decide)), fun h => e9 (h.resolve_left (by decide)), fun h => e10 (h.resolve_left (by decide)), fun h => e11 (h.resolve_left (by decide)), fun h => e12 (h.resolve_left (by decide)), fun _ => rfl, fun h => e14 (h.resolve_left (by decide)), fun h => e15 (h.resolve_left (by decide)), fun h => absurd (h.resolve_left (by decide)) (fun h => hn (hcl 14 _ rfl h ⟨13, .data⟩ (by simp) rfl)), fun h h' => ⟨(hCp (h.resolve_left (by decide)) (fun k => h' (.inr k))).1.below box_below, (hCp (h.resolve_left (by decide)) (fun k => h' (.inr k))).2.below box_below⟩, fun _ _ => lit_cells (w := w') (y := (⟨⟨s.x.oop, false, s.x.cls, s.x.vs, s.x.bs⟩, ga, gn, gc, qa, qn, qc⟩ : Cs)) (t := 73)⟩
          | 14, ho =>
            cases Option.some.inj ho
            have ev : a.tmps[17]?.getD undef = .slice oa on oc := by rw [ha, e0 (hd ⟨0, .data⟩ (by simp) rfl)]; kernel_rfl
            have ev' : a.tmps[30]?.getD undef = .slice (some ⟨nb, 0, none⟩) 1 1 := by rw [ha, e13 (hd ⟨13, .data⟩ (by simp) rfl)]; kernel_rfl
            have hb := hB.resolve_left hn
            obtain ⟨oV, oB⟩ := hCp (hcl 12 _ rfl (hcl 13 _ rfl (hd ⟨13, .data⟩ (by simp) rfl) ⟨12, .data⟩ (by simp) rfl) ⟨11, .data⟩ (by simp) rfl) hn
            have hL := hLit (hd ⟨13, .data⟩ (by simp) rfl) hn
            obtain ⟨i72, hi, hz, hs, hbb⟩ := info_parts Try.info73
            obtain ⟨a8', n8', c8', w6, hr6, hO6, hG, hP⟩ := app_row w' 27 27 73 Try.underlying27 hi hz hs hbb rfl (by decide) (by decide) (own_below own hb) nb (⟨⟨s.x.oop, false, s.x.cls, s.x.vs, s.x.bs⟩, ga, gn, gc, qa, qn, qc⟩ : Cs).cells rfl hL (by intro u hu; exact flatC_one [(⟨⟨s.x.oop, false, s.x.cls, s.x.vs, s.x.bs⟩, ga, gn, gc, qa, qn, qc⟩ : Cs)] u (by simpa [flatC] using hu)) hlen (Nat.le_trans hwr hb.size)
            refine Lib.wp_append_run w' (.tmp 17) (.tmp 30) 27 27 rfl _ _ (by simpa [Act.eval] using ev) (by simpa [Act.eval] using ev') _ w6 hr6 ?_
            exact ⟨v17, v18, v19, v20, v21, v22, v23, v24, v25, v26, v27, v28, v29, v30, (.slice a8' n8' c8'), v3, ga, gn, gc, qa, qn, qc, nb, a8', n8', c8', by rw [ha]; kernel_rfl, h3.imp_left .inr, .inl (.inl rfl), fun h => e0 (h.resolve_left (by decide)), fun h => e1 (h.resolve_left (by decide)), fun h => e2 (h.resolve_left (by decide)), fun h => e3 (h.resolve_left (by decide)), fun h => e4 (h.resolve_left (by decide)), fun h => e5 (h.resolve_left (by decide)), fun h => e6 (h.resolve_left (by decide)), fun h => e7 (h.resolve_left (by decide)), fun h => e8 (h.resolve_left (by decide)), fun h => e9 (h.resolve_left (by decide)), fun h => e10 (h.resolve_left (by decide)), fun h => e11 (h.resolve_left (by decide)), fun h => e12 (h.resolve_left (by decide)), fun h => e13 (h.resolve_left (by decide)), fun _ => rfl, fun h => absurd (h.resolve_left (by decide)) (fun h => hn (hcl 15 _ rfl h ⟨14, .data⟩ (by simp) rfl)), fun _ => ⟨w', hb, hG, hO6, oV, oB⟩, fun _ h' => absurd (.inl rfl) h', fun _ h' => absurd (.inl rfl) h'⟩
          | 15, ho =>
            cases Option.some.inj ho
            have ev : a.tmps[31]?.getD undef = .slice a8 n8 c8 := by rw [ha, e14 (hd ⟨14, .data⟩ (by simp) rfl)]; kernel_rfl
            refine wp_value (w' := w') (v := .slice a8 n8 c8) (by simp [execOp, ev, go_sem]) ?_
            exact ⟨v17, v18, v19, v20, v21, v22, v23, v24, v25, v26, v27, v28, v29, v30, v31, (.slice a8 n8 c8), ga, gn, gc, qa, qn, qc, nb, a8, n8, c8, by rw [ha]; kernel_rfl, .inl (.inl rfl), hB.imp_left .inr, fun h => e0 (h.resolve_left (by decide)), fun h => e1 (h.resolve_left (by decide)), fun h => e2 (h.resolve_left (by decide)), fun h => e3 (h.resolve_left (by decide)), fun h => e4 (h.resolve_left (by decide)), fun h => e5 (h.resolve_left (by decide)), fun h => e6 (h.resolve_left (by decide)), fun h => e7 (h.resolve_left (by decide)), fun h => e8 (h.resolve_left (by decide)), fun h => e9 (h.resolve_left (by decide)), fun h => e10 (h.resolve_left (by decide)), fun h => e11 (h.resolve_left (by decide)), fun h => e12 (h.resolve_left (by decide)), fun h => e13 (h.resolve_left (by decide)), fun h => e14 (h.resolve_left (by decide)), fun _ => rfl, fun h => hQ (h.resolve_left (by decide)), fun h h' => hCp (h.resolve_left (by decide)) (fun k => h' (.inr k)), fun h h' => hLit (h.resolve_left (by decide)) (fun k => h' (.inr k))⟩
          | i + 16, ho => simp at ho
        case done =>
          rintro D a w' ⟨v17, v18, v19, v20, v21, v22, v23, v24, v25, v26, v27, v28, v29, v30, v31, v3, ga, gn, gc, qa, qn, qc, nb, a8, n8, c8, ha, h3, hB, e0, e1, e2, e3, e4, e5, e6, e7, e8, e9, e10, e11, e12, e13, e14, e15, hQ, hCp, hLit⟩ hall
          obtain rfl := e0 (hall 0 (by decide))
          obtain rfl := e1 (hall 1 (by decide))
          obtain rfl := e2 (hall 2 (by decide))
          obtain rfl := e3 (hall 3 (by decide))
          obtain rfl := e4 (hall 4 (by decide))
          obtain rfl := e5 (hall 5 (by decide))
          obtain rfl := e6 (hall 6 (by decide))
          obtain rfl := e7 (hall 7 (by decide))
          obtain rfl := e8 (hall 8 (by decide))
          obtain rfl := e9 (hall 9 (by decide))
          obtain rfl := e10 (hall 10 (by decide))
          obtain rfl := e11 (hall 11 (by decide))
          obtain rfl := e12 (hall 12 (by decide))
          obtain rfl := e13 (hall 13 (by decide))
          obtain rfl := e14 (hall 14 (by decide))
          obtain rfl := e15 (hall 15 (by decide))
          obtain ⟨wp, p1, p2, p3, p5, p6⟩ := hQ (hall 14 (by decide))
          clear h3 hB hCp hLit hQ hall e0 e1 e2 e3 e4 e5 e6 e7 e8 e9 e10 e11 e12 e13 e14 e15
          rw [ha]
          clear ha
          simp only [Act.put, List.setIfInBounds_toArray, List.set_cons_zero, List.set_cons_succ]
          have SQ9 : SetQ w (fun _ => False) l0 ((l.drop (j + 1)).filter (fun x => !x.gone)) (j + 1) (.slice a8 n8 c8) w' := by
            have he : ∀ q ∈ ss, ElT wp (fun g => False ∨ w.heap.size ≤ g) q := fun q hq => ⟨(t2.out q hq).el.same' (fun g hg => p1.block g ((t2.out q hq).el.lt.1 g hg).1) (fun g hg => p1.block g ((t2.out q hq).el.lt.2 g hg).1), (t2.out q hq).v, (t2.out q hq).b⟩
            have hr := own_below own p1
            have hw := below_size t6 t6.size p1
            have hy : ElT wp (fun g => False ∨ w.heap.size ≤ g) (⟨⟨s.x.oop, false, s.x.cls, s.x.vs, s.x.bs⟩, ga, gn, gc, qa, qn, qc⟩ : Cs) := ⟨⟨hcls, ⟨_, p5⟩, ⟨_, p6⟩⟩, fun g hg => .inr (Nat.le_trans hwr (own_block p5.1 hg).1), fun g hg => .inr (Nat.le_trans hwr (own_block p6.1 hg).1)⟩
            have e2 : flatC ss ++ (⟨⟨s.x.oop, false, s.x.cls, s.x.vs, s.x.bs⟩, ga, gn, gc, qa, qn, qc⟩ : Cs).cells = flatC (ss ++ [(⟨⟨s.x.oop, false, s.x.cls, s.x.vs, s.x.bs⟩, ga, gn, gc, qa, qn, qc⟩ : Cs)]) := by rw [flatC_app]; simp [flatC]
            rw [e2] at p3
            have eY : s.x = ⟨s.x.oop, false, s.x.cls, s.x.vs, s.x.bs⟩ := by rw [← hgo.out]
            exact SetQ.app (y := (⟨⟨s.x.oop, false, s.x.cls, s.x.vs, s.x.bs⟩, ga, gn, gc, qa, qn, qc⟩ : Cs)) (hss.out.trans (congrArg (fun q => ss.map Cs.x ++ q :: (l.drop (j + 1)).filter (fun x => !x.gone)) eY)) he t4 t5 hw hy hxb hr p3 ((Below.refl _ _).grown p2 hw.size (fun j hj => (hr.lt j hj).1)) (fun g hg hlt => p2.block g hlt (fun e => hg g e.symm rfl))
          go_wp2
          go_roundw
          case rel => exact ⟨j + 1, a8, (n8, c8), by omega, by go_num, rfl, SQ9⟩
          case measure => simp [intOf]; omega
      | true =>
        rw [hgo] at d1
        rw [List.filter_cons_of_neg (by simp [hgo])] at SQ
        clear hgo
        go_wp2
        go_roundw
        case rel => exact ⟨j + 1, oa, (on, oc), by omega, by go_num, rfl, SQ.up (by omega)⟩
        case measure => simp [intOf]; omega
    · have hji : ¬ (j : Int) < (ln : Int) := by omega
      rw [List.drop_eq_nil_of_le (by have := hsz.out; omega)] at SQ
      obtain ⟨ss, t1, t2, t3, t4, t5, t6⟩ := SQ
      have fin : LivP w l0 (.returned (.slice oa on oc)) wr := by
        rw [List.filter_nil, List.append_nil] at t1
        refine ⟨oa, on, oc, rfl, ?_, ?_, t6⟩
        · rw [t1, List.length_map]
          rcases t3.2 with ⟨e, h0⟩ | ⟨g, cap, cur, e, _⟩
          · cases e; exact h0.symm
          · cases e; rfl
        · rw [t1]
          exact ⟨ss, t3, rfl, fun s hs => ⟨(t2 s hs).el, fun g hg => ((t2 s hs).v g hg).resolve_left (fun h => h), fun g hg => ((t2 s hs).b g hg).resolve_left (fun h => h)⟩, fun x hx => by obtain ⟨s, hs, rfl⟩ := List.mem_map.1 hx; exact t4 s hs⟩
      clear t1 t2 t3 t4 t5
      go_wp2
      go_ret
      exact fin
end Go.Proofs.Ytajdelinfkodbaa
