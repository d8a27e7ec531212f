/- Copies of objects: value.Copy. -/
import Derived.Test.YtjfaflmmanjjbaaRCopy
import Derived.Test.YtjfaflmmanjjbaaAny
import Derived.Test.YtjfaflmmanjjbaaOper
import Derived.Deep.CutBlock
namespace Go.Proofs.Ytjfaflmmanjjbaa
open Go.RowKit
set_option maxRecDepth 100000
theorem Try.results10 : Try.f10.results = #[.cell 2 27] := by kernel_rfl
set_option maxHeartbeats 4000000 in
theorem copy_any {w : World} {c : Int} {sa ba : Option Addr} {sn sc bn bc : Nat} {vs : List (Int × Int)} {bs : List Int} (h : IsO w c sa sn sc ba bn bc vs bs) (hs : sn ≤ 8796093022208) (hb : bn ≤ 140737488355328) :
    Calls Try.prog 10 #[.agg #[.int .i64 c, .slice sa sn sc, .slice ba bn bc]] w fun e w' => ∃ vv bv, e = .returned (.agg #[.int .i64 c, vv, bv]) ∧ OwnV w' w.heap.size vv vs ∧ OwnB w' w.heap.size bv bs ∧ Below w.heap.size w w' := by
  have hbyte := h.b.byte
  go_enter Try.func10, Try.ntmps10
  go_upto_region 1 with fail
  have E1 : ((w.alloc (objB c (.slice sa sn sc) (.slice ba bn bc))).alloc (objB 0 (.slice none 0 0) (.slice none 0 0))).heap[w.heap.size]? = some (objB c (.slice sa sn sc) (.slice ba bn bc)) := old1 (new1 _ _) _
  have E2 : ((w.alloc (objB c (.slice sa sn sc) (.slice ba bn bc))).alloc (objB 0 (.slice none 0 0) (.slice none 0 0))).heap[w.heap.size + 1]? = some (objB 0 (.slice none 0 0) (.slice none 0 0)) := new2 _ _ _
  have B2 : Below w.heap.size w ((w.alloc (objB c (.slice sa sn sc) (.slice ba bn bc))).alloc (objB 0 (.slice none 0 0) (.slice none 0 0))) := below_size box_below box_below.size box_below
  have h2 := (h.below (box_below (o := objB c (.slice sa sn sc) (.slice ba bn bc)))).below (box_below (o := objB 0 (.slice none 0 0) (.slice none 0 0)))
  have l1 : w.heap.size ≤ w.heap.size + 1 := by omega
  have l2 := B2.size
  unfold objB at E1 E2 B2 h2 l2
  generalize (w.alloc (.cells #[.int .i64 c, .slice sa sn sc, .slice ba bn bc] 27)).alloc (.cells #[.int .i64 0, .slice none 0 0, .slice none 0 0] 27) = w2 at *
  obtain ⟨y0, y1, y2, yf⟩ := obj_cells E1
  generalize w.heap.size + 1 = b2 at *
  obtain ⟨b1, hb1⟩ : ∃ b, b = w.heap.size := ⟨_, rfl⟩
  rw [← hb1] at E1 y0 y1 y2 ⊢
  clear hb1
  refine wp_region_inv' (fun A D a w' => ∃ v3 v4 v5 v6 v7 v8 v9 v10 v11 a7 a10 n7 c7 n10 c10, a = (((((((((A.put (some 3) v3).put (some 4) v4).put (some 5) v5).put (some 6) v6).put (some 7) v7).put (some 8) v8).put (some 9) v9).put (some 10) v10).put (some 11) v11) ∧ (D 9 ∨ Below w2.heap.size w2 w') ∧ (D 0 → v3 = .pointer (some ⟨b1, 0, none⟩)) ∧ (D 1 → v4 = .int .i64 c) ∧ (D 2 → v5 = .pointer (some ⟨b1, 1, none⟩)) ∧ (D 3 → v6 = .slice sa sn sc) ∧ (D 4 → v7 = .slice a7 n7 c7) ∧ (D 5 → v8 = .pointer (some ⟨b1, 2, none⟩)) ∧ (D 6 → v9 = .slice ba bn bc) ∧ (D 7 → v10 = .slice a10 n10 c10) ∧ (D 8 → v11 = .agg #[.int .i64 c, .slice a7 n7 c7, .slice a10 n10 c10]) ∧ (D 9 → w'.heap[b2]? = some (objB c (.slice a7 n7 c7) (.slice a10 n10 c10)) ∧ OwnV w' w2.heap.size (.slice a7 n7 c7) vs ∧ OwnB w' w2.heap.size (.slice a10 n10 c10) bs ∧ Below b2 w2 w') ∧ (D 4 → ¬ D 9 → OwnV w' w2.heap.size (.slice a7 n7 c7) vs) ∧ (D 7 → ¬ D 9 → OwnB w' w2.heap.size (.slice a10 n10 c10) bs)) (by kernel_rfl) (by kernel_rfl) ?mono ?start ?step ?done
  case mono =>
    rintro D D' a w' hD ⟨v3, v4, v5, v6, v7, v8, v9, v10, v11, a7, a10, n7, c7, n10, c10, ha, hB, e0, e1, e2, e3, e4, e5, e6, e7, e8, hq, hv, hw⟩
    exact ⟨v3, v4, v5, v6, v7, v8, v9, v10, v11, a7, a10, n7, c7, n10, c10, ha, hB.imp_left (hD 9).1, fun h => e0 ((hD 0).2 h), fun h => e1 ((hD 1).2 h), fun h => e2 ((hD 2).2 h), fun h => e3 ((hD 3).2 h), fun h => e4 ((hD 4).2 h), fun h => e5 ((hD 5).2 h), fun h => e6 ((hD 6).2 h), fun h => e7 ((hD 7).2 h), fun h => e8 ((hD 8).2 h), fun h => hq ((hD 9).2 h), fun h h' => hv ((hD 4).2 h) (fun k => h' ((hD 9).1 k)), fun h h' => hw ((hD 7).2 h) (fun k => h' ((hD 9).1 k))⟩
  case start => exact ⟨undef, undef, undef, undef, undef, undef, undef, undef, undef, none, none, 0, 0, 0, 0, by kernel_rfl, .inr ((Below.refl _ _).drew), fun h => h.elim, fun h => h.elim, fun h => h.elim, fun h => h.elim, fun h => h.elim, fun h => h.elim, fun h => h.elim, fun h => h.elim, fun h => h.elim, fun h => h.elim, fun h _ => h.elim, fun h _ => h.elim⟩
  case step =>
    intro i o ho D a w' hI hn hcl hd
    obtain ⟨v3, v4, v5, v6, v7, v8, v9, v10, v11, a7, a10, n7, c7, n10, c10, ha, hB, e0, e1, e2, e3, e4, e5, e6, e7, e8, hq, hv, hw⟩ := hI
    match i, ho with
    | 0, ho =>
      cases Option.some.inj ho
      have ev : a.tmps[1]?.getD undef = .pointer (some ⟨b1, 0, none⟩) := by rw [ha]; kernel_rfl
      refine wp_value (w' := w') (v := .pointer (some ⟨b1, 0, none⟩)) (by simp [execOp, ev, go_sem]) ?_
      exact ⟨(.pointer (some ⟨b1, 0, none⟩)), v4, v5, v6, v7, v8, v9, v10, v11, a7, a10, n7, c7, n10, c10, by rw [ha]; kernel_rfl, hB.imp_left .inr, fun _ => rfl, fun h => e1 (h.resolve_left (by decide)), fun h => e2 (h.resolve_left (by decide)), fun h => e3 (h.resolve_left (by decide)), fun h => e4 (h.resolve_left (by decide)), fun h => e5 (h.resolve_left (by decide)), fun h => e6 (h.resolve_left (by decide)), fun h => e7 (h.resolve_left (by decide)), fun h => e8 (h.resolve_left (by decide)), fun h => hq (h.resolve_left (by decide)), fun h h' => hv (h.resolve_left (by decide)) (fun k => h' (.inr k)), fun h h' => hw (h.resolve_left (by decide)) (fun k => h' (.inr k))⟩
    | 1, ho =>
      cases Option.some.inj ho
      have ev : a.tmps[3]?.getD undef = .pointer (some ⟨b1, 0, none⟩) := by rw [ha, e0 (hd ⟨0, .data⟩ (by simp) rfl)]; kernel_rfl
      have hc := ((hB.resolve_left (fun h => (fun h => hn (hcl 8 _ rfl h ⟨1, .data⟩ (by simp) rfl)) (hcl 9 _ rfl h ⟨8, .data⟩ (by simp) rfl))).cell (p := ⟨b1, 0, none⟩) (lt_of_block E1)).trans y0
      refine wp_value (w' := w') (v := .int .i64 c) (by simp [execOp, ev, go_sem, hc]) ?_
      exact ⟨v3, (.int .i64 c), v5, v6, v7, v8, v9, v10, v11, a7, a10, n7, c7, n10, c10, by rw [ha]; kernel_rfl, hB.imp_left .inr, fun h => e0 (h.resolve_left (by decide)), fun _ => rfl, fun h => e2 (h.resolve_left (by decide)), fun h => e3 (h.resolve_left (by decide)), fun h => e4 (h.resolve_left (by decide)), fun h => e5 (h.resolve_left (by decide)), fun h => e6 (h.resolve_left (by decide)), fun h => e7 (h.resolve_left (by decide)), fun h => e8 (h.resolve_left (by decide)), fun h => hq (h.resolve_left (by decide)), fun h h' => hv (h.resolve_left (by decide)) (fun k => h' (.inr k)), fun h h' => hw (h.resolve_left (by decide)) (fun k => h' (.inr k))⟩
    | 2, ho =>
      cases Option.some.inj ho
      have ev : a.tmps[1]?.getD undef = .pointer (some ⟨b1, 0, none⟩) := by rw [ha]; kernel_rfl
      refine wp_value (w' := w') (v := .pointer (some ⟨b1, 1, none⟩)) (by simp [execOp, ev, go_sem]) ?_
      exact ⟨v3, v4, (.pointer (some ⟨b1, 1, none⟩)), v6, v7, v8, v9, v10, v11, a7, a10, n7, c7, n10, c10, by rw [ha]; kernel_rfl, hB.imp_left .inr, fun h => e0 (h.resolve_left (by decide)), fun h => e1 (h.resolve_left (by decide)), fun _ => rfl, fun h => e3 (h.resolve_left (by decide)), fun h => e4 (h.resolve_left (by decide)), fun h => e5 (h.resolve_left (by decide)), fun h => e6 (h.resolve_left (by decide)), fun h => e7 (h.resolve_left (by decide)), fun h => e8 (h.resolve_left (by decide)), fun h => hq (h.resolve_left (by decide)), fun h h' => hv (h.resolve_left (by decide)) (fun k => h' (.inr k)), fun h h' => hw (h.resolve_left (by decide)) (fun k => h' (.inr k))⟩
    | 3, ho =>
      cases Option.some.inj ho
      have ev : a.tmps[5]?.getD undef = .pointer (some ⟨b1, 1, none⟩) := by rw [ha, e2 (hd ⟨2, .data⟩ (by simp) rfl)]; kernel_rfl
      have hc := ((hB.resolve_left (fun h => (fun h => (fun h => hn (hcl 4 _ rfl h ⟨3, .data⟩ (by simp) rfl)) (hcl 8 _ rfl h ⟨4, .data⟩ (by simp) rfl)) (hcl 9 _ rfl h ⟨8, .data⟩ (by simp) rfl))).cell (p := ⟨b1, 1, none⟩) (lt_of_block E1)).trans y1
      refine wp_value (w' := w') (v := .slice sa sn sc) (by simp [execOp, ev, go_sem, hc]) ?_
      exact ⟨v3, v4, v5, (.slice sa sn sc), v7, v8, v9, v10, v11, a7, a10, n7, c7, n10, c10, by rw [ha]; kernel_rfl, hB.imp_left .inr, fun h => e0 (h.resolve_left (by decide)), fun h => e1 (h.resolve_left (by decide)), fun h => e2 (h.resolve_left (by decide)), fun _ => rfl, fun h => e4 (h.resolve_left (by decide)), fun h => e5 (h.resolve_left (by decide)), fun h => e6 (h.resolve_left (by decide)), fun h => e7 (h.resolve_left (by decide)), fun h => e8 (h.resolve_left (by decide)), fun h => hq (h.resolve_left (by decide)), fun h h' => hv (h.resolve_left (by decide)) (fun k => h' (.inr k)), fun h h' => hw (h.resolve_left (by decide)) (fun k => h' (.inr k))⟩
    | 4, ho =>
      cases Option.some.inj ho
      have ev : a.tmps[6]?.getD undef = .slice sa sn sc := by rw [ha, e3 (hd ⟨3, .data⟩ (by simp) rfl)]; kernel_rfl
      have hb4 := hB.resolve_left (fun h => (fun h => hn (hcl 8 _ rfl h ⟨4, .data⟩ (by simp) rfl)) (hcl 9 _ rfl h ⟨8, .data⟩ (by simp) rfl))
      refine wp_enter (f := 38) (args := #[.slice sa sn sc]) (by simp [execOp, ev, go_sem]) ?_
      refine (cloneV_any (h2.v.below hb4) hs).mono ?_
      rintro e w6 ⟨v', rfl, OV, HB⟩
      refine ⟨_, rfl, ?_⟩
      obtain ⟨a7', n7', c7', rfl⟩ : ∃ a n c, v' = .slice a n c := by obtain ⟨a, c, e, _⟩ := OV.2; exact ⟨_, _, _, e⟩
      exact ⟨v3, v4, v5, v6, (.slice a7' n7' c7'), v8, v9, v10, v11, a7', a10, n7', c7', n10, c10, by rw [ha]; kernel_rfl, hB.imp .inr (fun h => below_size h h.size HB), fun h => e0 (h.resolve_left (by decide)), fun h => e1 (h.resolve_left (by decide)), fun h => e2 (h.resolve_left (by decide)), fun h => e3 (h.resolve_left (by decide)), fun _ => rfl, fun h => e5 (h.resolve_left (by decide)), fun h => e6 (h.resolve_left (by decide)), fun h => e7 (h.resolve_left (by decide)), fun h => absurd (h.resolve_left (by decide)) (fun h => hn (hcl 8 _ rfl h ⟨4, .data⟩ (by simp) rfl)), fun h => absurd (h.resolve_left (by decide)) (fun h => (fun h => hn (hcl 8 _ rfl h ⟨4, .data⟩ (by simp) rfl)) (hcl 9 _ rfl h ⟨8, .data⟩ (by simp) rfl)), fun _ _ => ownV_of (own_mono OV.1 hb4.size) h.v.wf, fun h h' => (hw (h.resolve_left (by decide)) (fun k => h' (.inr k))).below HB⟩
    | 5, ho =>
      cases Option.some.inj ho
      have ev : a.tmps[1]?.getD undef = .pointer (some ⟨b1, 0, none⟩) := by rw [ha]; kernel_rfl
      refine wp_value (w' := w') (v := .pointer (some ⟨b1, 2, none⟩)) (by simp [execOp, ev, go_sem]) ?_
      exact ⟨v3, v4, v5, v6, v7, (.pointer (some ⟨b1, 2, none⟩)), v9, v10, v11, a7, a10, n7, c7, n10, c10, by rw [ha]; kernel_rfl, hB.imp_left .inr, fun h => e0 (h.resolve_left (by decide)), fun h => e1 (h.resolve_left (by decide)), fun h => e2 (h.resolve_left (by decide)), fun h => e3 (h.resolve_left (by decide)), fun h => e4 (h.resolve_left (by decide)), fun _ => rfl, fun h => e6 (h.resolve_left (by decide)), fun h => e7 (h.resolve_left (by decide)), fun h => e8 (h.resolve_left (by decide)), fun h => hq (h.resolve_left (by decide)), fun h h' => hv (h.resolve_left (by decide)) (fun k => h' (.inr k)), fun h h' => hw (h.resolve_left (by decide)) (fun k => h' (.inr k))⟩
    | 6, ho =>
      cases Option.some.inj ho
      have ev : a.tmps[8]?.getD undef = .pointer (some ⟨b1, 2, none⟩) := by rw [ha, e5 (hd ⟨5, .data⟩ (by simp) rfl)]; kernel_rfl
      have hc := ((hB.resolve_left (fun h => (fun h => (fun h => hn (hcl 7 _ rfl h ⟨6, .data⟩ (by simp) rfl)) (hcl 8 _ rfl h ⟨7, .data⟩ (by simp) rfl)) (hcl 9 _ rfl h ⟨8, .data⟩ (by simp) rfl))).cell (p := ⟨b1, 2, none⟩) (lt_of_block E1)).trans y2
      refine wp_value (w' := w') (v := .slice ba bn bc) (by simp [execOp, ev, go_sem, hc]) ?_
      exact ⟨v3, v4, v5, v6, v7, v8, (.slice ba bn bc), v10, v11, a7, a10, n7, c7, n10, c10, by rw [ha]; kernel_rfl, hB.imp_left .inr, fun h => e0 (h.resolve_left (by decide)), fun h => e1 (h.resolve_left (by decide)), fun h => e2 (h.resolve_left (by decide)), fun h => e3 (h.resolve_left (by decide)), fun h => e4 (h.resolve_left (by decide)), fun h => e5 (h.resolve_left (by decide)), fun _ => rfl, fun h => e7 (h.resolve_left (by decide)), fun h => e8 (h.resolve_left (by decide)), fun h => hq (h.resolve_left (by decide)), fun h h' => hv (h.resolve_left (by decide)) (fun k => h' (.inr k)), fun h h' => hw (h.resolve_left (by decide)) (fun k => h' (.inr k))⟩
    | 7, ho =>
      cases Option.some.inj ho
      have ev : a.tmps[9]?.getD undef = .slice ba bn bc := by rw [ha, e6 (hd ⟨6, .data⟩ (by simp) rfl)]; kernel_rfl
      have hb4 := hB.resolve_left (fun h => (fun h => hn (hcl 8 _ rfl h ⟨7, .data⟩ (by simp) rfl)) (hcl 9 _ rfl h ⟨8, .data⟩ (by simp) rfl))
      refine wp_enter (f := 39) (args := #[.slice ba bn bc]) (by simp [execOp, ev, go_sem]) ?_
      refine (clone_any (h2.b.below hb4) hb).mono ?_
      rintro e w6 ⟨v', rfl, OB, HB⟩
      refine ⟨_, rfl, ?_⟩
      obtain ⟨a10', n10', c10', rfl⟩ : ∃ a n c, v' = .slice a n c := by obtain ⟨_, a, c, e, _⟩ := OB; exact ⟨_, _, _, e⟩
      exact ⟨v3, v4, v5, v6, v7, v8, v9, (.slice a10' n10' c10'), v11, a7, a10', n7, c7, n10', c10', by rw [ha]; kernel_rfl, hB.imp .inr (fun h => below_size h h.size HB), fun h => e0 (h.resolve_left (by decide)), fun h => e1 (h.resolve_left (by decide)), fun h => e2 (h.resolve_left (by decide)), fun h => e3 (h.resolve_left (by decide)), fun h => e4 (h.resolve_left (by decide)), fun h => e5 (h.resolve_left (by decide)), fun h => e6 (h.resolve_left (by decide)), fun _ => rfl, fun h => absurd (h.resolve_left (by decide)) (fun h => hn (hcl 8 _ rfl h ⟨7, .data⟩ (by simp) rfl)), fun h => absurd (h.resolve_left (by decide)) (fun h => (fun h => hn (hcl 8 _ rfl h ⟨7, .data⟩ (by simp) rfl)) (hcl 9 _ rfl h ⟨8, .data⟩ (by simp) rfl)), fun h h' => (hv (h.resolve_left (by decide)) (fun k => h' (.inr k))).below HB, fun _ _ => ownB_of (own_mono OB.1 hb4.size) hbyte⟩
    | 8, ho =>
      cases Option.some.inj ho
      have ev : a.tmps[4]?.getD undef = .int .i64 c := by rw [ha, e1 (hd ⟨1, .data⟩ (by simp) rfl)]; kernel_rfl
      have ev' : a.tmps[7]?.getD undef = .slice a7 n7 c7 := by rw [ha, e4 (hd ⟨4, .data⟩ (by simp) rfl)]; kernel_rfl
      have ev'' : a.tmps[10]?.getD undef = .slice a10 n10 c10 := by rw [ha, e7 (hd ⟨7, .data⟩ (by simp) rfl)]; kernel_rfl
      refine wp_value (w' := w') (v := .agg #[.int .i64 c, .slice a7 n7 c7, .slice a10 n10 c10]) (by simp [execOp, ev, ev', ev'', go_sem]) ?_
      exact ⟨v3, v4, v5, v6, v7, v8, v9, v10, (.agg #[.int .i64 c, .slice a7 n7 c7, .slice a10 n10 c10]), a7, a10, n7, c7, n10, c10, by rw [ha]; kernel_rfl, hB.imp_left .inr, fun h => e0 (h.resolve_left (by decide)), fun h => e1 (h.resolve_left (by decide)), fun h => e2 (h.resolve_left (by decide)), fun h => e3 (h.resolve_left (by decide)), fun h => e4 (h.resolve_left (by decide)), fun h => e5 (h.resolve_left (by decide)), fun h => e6 (h.resolve_left (by decide)), fun h => e7 (h.resolve_left (by decide)), fun _ => rfl, fun h => hq (h.resolve_left (by decide)), fun h h' => hv (h.resolve_left (by decide)) (fun k => h' (.inr k)), fun h h' => hw (h.resolve_left (by decide)) (fun k => h' (.inr k))⟩
    | 9, ho =>
      cases Option.some.inj ho
      have ev : a.tmps[2]?.getD undef = .pointer (some ⟨b2, 0, none⟩) := by rw [ha]; kernel_rfl
      have ev' : a.tmps[11]?.getD undef = .agg #[.int .i64 c, .slice a7 n7 c7, .slice a10 n10 c10] := by rw [ha, e8 (hd ⟨8, .data⟩ (by simp) rfl)]; kernel_rfl
      have hb4 := hB.resolve_left hn
      have E4 := (hb4.block b2 (lt_of_block E2)).trans E2
      obtain ⟨z0, z1, z2, zf⟩ := obj_cells E4
      have zf0 := zf 0
      have zf1 := zf 1
      have zf2 := zf 2
      have OV4 := hv (hcl 8 _ rfl (hd ⟨8, .data⟩ (by simp) rfl) ⟨4, .data⟩ (by simp) rfl) hn
      have OB4 := hw (hcl 8 _ rfl (hd ⟨8, .data⟩ (by simp) rfl) ⟨7, .data⟩ (by simp) rfl) hn
      refine wp_skip (w' := stO w' b2 c (.slice a7 n7 c7) (.slice a10 n10 c10)) (by simp [execOp, Act.eval, ev, ev', go_sem, z0, z1, z2, zf0, zf1, zf2, stO]) ?_
      exact ⟨v3, v4, v5, v6, v7, v8, v9, v10, v11, a7, a10, n7, c7, n10, c10, by rw [ha]; kernel_rfl, .inl (.inl rfl), fun h => e0 (h.resolve_left (by decide)), fun h => e1 (h.resolve_left (by decide)), fun h => e2 (h.resolve_left (by decide)), fun h => e3 (h.resolve_left (by decide)), fun h => e4 (h.resolve_left (by decide)), fun h => e5 (h.resolve_left (by decide)), fun h => e6 (h.resolve_left (by decide)), fun h => e7 (h.resolve_left (by decide)), fun h => e8 (h.resolve_left (by decide)), fun _ => ⟨stO_blk E4 _ _ _, ownV_of (stO_own OV4.1 E4 (by decide) _ _ _) h.v.wf, ownB_of (stO_own OB4.1 E4 (by decide) _ _ _) h.b.byte, stO_below (hb4.mono (Nat.le_of_lt (lt_of_block E2))) (Nat.le_refl _) _ _ _⟩, fun _ h' => absurd (.inl rfl) h', fun _ h' => absurd (.inl rfl) h'⟩
    | i + 10, ho => simp at ho
  case done =>
    rintro D a w' ⟨v3, v4, v5, v6, v7, v8, v9, v10, v11, a7, a10, n7, c7, n10, c10, ha, hB, e0, e1, e2, e3, e4, e5, e6, e7, e8, hq, hv, hw⟩ hall
    obtain ⟨E9, OV9, OB9, B9⟩ := hq (hall 9 (by decide))
    obtain rfl := e0 (hall 0 (by decide))
    obtain rfl := e1 (hall 1 (by decide))
    obtain rfl := e2 (hall 2 (by decide))
    obtain rfl := e3 (hall 3 (by decide))
    obtain rfl := e4 (hall 4 (by decide))
    obtain rfl := e5 (hall 5 (by decide))
    obtain rfl := e6 (hall 6 (by decide))
    obtain rfl := e7 (hall 7 (by decide))
    obtain rfl := e8 (hall 8 (by decide))
    clear hB hq hv hw hall e0 e1 e2 e3 e4 e5 e6 e7 e8
    rw [ha]
    clear ha
    simp only [Act.put, List.setIfInBounds_toArray, List.set_cons_zero, List.set_cons_succ]
    go_wp2_with fail
    obtain ⟨z0, z1, z2, zf⟩ := obj_cells E9
    exact bodyPost_ret (v := .agg #[.int .i64 c, .slice a7 n7 c7, .slice a10 n10 c10]) (results_cell Try.results10 rfl (load27 z0 z1 z2)) rfl ⟨_, _, rfl, ownV_of (own_mono OV9.1 l2) h.v.wf, ownB_of (own_mono OB9.1 l2) h.b.byte, B2.trans (B9.mono l1)⟩
end Go.Proofs.Ytjfaflmmanjjbaa
