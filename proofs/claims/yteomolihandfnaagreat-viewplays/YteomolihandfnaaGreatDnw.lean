/- The document's view: Writes. -/
import Derived.Test.YteomolihandfnaaGreatDch
namespace Go.Proofs.YteomolihandfnaaGreat
open Go.RowKit
set_option maxRecDepth 100000
theorem take_map {α : Type} {xs : List α} {f : α → Int} {j : Nat} {x : α} (h : xs[j]? = some x) : (xs.take (j + 1)).map f = (xs.take j).map f ++ [f x] := by
  rw [take_at h, List.map_append]; rfl
set_option maxHeartbeats 4000000 in
theorem dwrites_any {w : World} {X : Nat → Prop} {b ub : Nat} {v : Dv} (h : Db w X b ub v) (hg0 : ∀ x ∈ v.l, ObG (obC x)) (hgn0 : ∀ x ∈ v.l, x.gone = false) : Calls Tryz.prog 29 #[.pointer (some ⟨b, 0, none⟩)] w (OopP w ((chgL v).map Ch.oop)) := by
  have hfew : (chgL v).length ≤ 8192 := Nat.le_trans (List.length_filter_le _ _) h.few
  go_enter Tryz.func29, Tryz.ntmps29
  go_wp2_with fail
  refine (dchanged_any h hg0 hgn0).mono ?_
  rintro e w1 ⟨a, n, c, rfl, hC0, B1⟩
  have hC := hC0.isC
  obtain ⟨l, hl⟩ : ∃ l, l = chgL v := ⟨_, rfl⟩
  rw [← hl] at hC hfew
  have hlH : Hid (l = chgL v) := hl
  have hsz : Hid (l.length = n) := hC.size
  have hn : n ≤ 8192 := by have := hC.size; omega
  clear hC0 hl h hg0 hgn0
  go_wp2_with fail
  go_loopw [4, 5] (fun ov iv wr => ∃ (j : Nat) (xs : List Int) (oa : Option Addr) (onc : Nat × Nat), j ≤ n ∧ iv = .int .i64 (j : Int) ∧ ov = .slice oa onc.1 onc.2 ∧ Hid (xs = (l.take j).map Ch.oop ∧ xs.length ≤ j) ∧ wr.ownsRow w1.heap.size 2 1 ov xs.length (xs.map (Value.int .i64)) ∧ Below w1.heap.size w1 wr) (fun _ iv _ => n - (intOf iv).toNat)
  case atStart => exact ⟨0, [], none, (0, 0), by omega, rfl, rfl, ⟨rfl, Nat.le_refl _⟩, World.ownsRow_nil _ _ _ _, Below.refl _ _⟩
  case round =>
    obtain ⟨j, xs, oa, ⟨on, oc⟩, hj, rfl, rfl, hxs, hrow, hbel⟩ := hrel
    have hlen : xs.length ≤ 8192 := by have := hxs.out.2; omega
    by_cases hlt : j < n
    · have hji : (j : Int) < (n : Int) := by omega
      obtain ⟨cb, off, x, rfl, hb, hx, hch, hw⟩ := (hC.below hbel).at_ j hlt
      obtain ⟨sa, sn, sc, ba, bn, bc, c0, _⟩ := hch
      have E8 := new1 wr (.cells #[.int .i64 x.oop] 2)
      have B8 : Below wr.heap.size wr (wr.alloc (.cells #[.int .i64 x.oop] 2)) := box_below
      have c8 : (wr.alloc (.cells #[.int .i64 x.oop] 2)).cell? ⟨wr.heap.size, 0, none⟩ = some (.int .i64 x.oop) := by rw [cell_of_row _ _ _ _ _ _ E8]; rfl
      have r8 := own_below hrow B8
      have b8 := below_size hbel hbel.size B8
      clear E8
      go_wp2_with (at_builtin; refine app_ints _ (by rfl) _ _ (by rfl) w1.heap.size _ xs (by rfl) r8 wr.heap.size x.oop (by rfl) c8 (by omega) b8.size ?_)
      intro o2a o2n o2c w6 r6 B6
      have b6 := b8.trans B6
      clear r8 c8 B8 b8 B6
      go_wp2
      go_roundw
      case rel => exact ⟨j + 1, xs ++ [x.oop], o2a, (o2n, o2c), by omega, by go_num, rfl, ⟨by rw [take_map hx.out, hxs.out.1], by have := hxs.out.2; simp; omega⟩, by rw [List.length_append, List.map_append]; exact r6, b6⟩
      case measure => simp [intOf]; omega
    · have hji : ¬ (j : Int) < (n : Int) := by omega
      have fin : Hid (xs = (chgL v).map Ch.oop) := by show _ = _; rw [← hlH.out, hxs.out.1, List.take_of_length_le (by have := hsz.out; omega)]
      go_wp2
      go_ret
      obtain ⟨a', c', e⟩ := own_slice hrow
      cases e
      have hs := B1.size
      exact ⟨oa, xs.length, oc, rfl, by rw [fin.out], by rw [← fin.out]; exact own_mono hrow hs, below_size B1 hs hbel⟩
end Go.Proofs.YteomolihandfnaaGreat
namespace Go.Proofs.YteomolihandfnaaGreat
open Go.RowKit
set_option maxRecDepth 100000
def rd0 : Array Value := madeCells (Value.bool false).cells 4097
theorem Tryz.underlying62 : Tryz.prog.underlying 62 = some (.slice 4) := by kernel_rfl
theorem Tryz.info4 : (Tryz.prog.info? 4).map (fun i => (i.zero, i.size, i.bytes)) = some (some (.bool false), 1, 1) := by kernel_rfl
theorem rd0_make (w : World) : (Instr.makeSlice 62 (.int .i64 4097) (.int .i64 4097)).run Tryz.prog w = .ok (.slice (some ⟨w.heap.size, 0, none⟩) 4097 4097) (w.alloc (.cells rd0 4)) := by
  obtain ⟨i, hi, hz, hs, hbb⟩ := info_parts Tryz.info4
  have := Go.run_make (P := Tryz.prog) (w := w) 62 4 i (.bool false) Tryz.underlying62 hi hz .i64 .i64 4097 4097 (by decide) (by decide) (by rw [hbb]; decide) (by decide)
  rw [hs] at this
  exact this
theorem rd0_size : rd0.size = 4097 ∧ ∀ k, k < 4097 → rd0[k]? = some (.bool false) := by
  have e : rd0.toList = List.replicate 4097 (Value.bool false) := Go.toList_madeCells_one (.bool false) 4097
  refine ⟨by rw [← Array.length_toList, e, List.length_replicate], fun k hk => ?_⟩
  rw [← Array.getElem?_toList, e, List.getElem?_replicate, if_pos hk]
theorem dv0_db {w w' : World} {rb nb ub : Nat} {en : Int} (hB : Below w.heap.size w w') (p1 : w.heap.size ≤ rb) (p2 : w'.heap[rb]? = some (.cells rd0 4 (0, 0))) (p3 : w.heap.size ≤ nb) (p4 : nb ≠ rb) (p5 : w'.heap[nb]? = some (dvB ub en (.slice none 0 0) (.slice (some ⟨rb, 0, none⟩) 4097 4097) 0)) : ∃ X, Db w' X nb ub (dv0 en) ∧ Below w.heap.size w w' ∧ ∀ g, X g → w.heap.size ≤ g := by
  refine ⟨fun g => g = nb ∨ g = rb, ⟨⟨_, rb, p5, ChT.nil _ _, ⟨rd0, p2, rd0_size.1, fun k hk => rd0_size.2 k hk⟩, .inr rfl, fun e => p4 e.symm⟩, .inl rfl, ?_, by simp [dv0]⟩, hB, ?_⟩
  · rintro g (rfl | rfl)
    · exact lt_of_block p5
    · exact lt_of_block p2
  · rintro g (rfl | rfl)
    · exact p3
    · exact p1
set_option maxHeartbeats 4000000 in
theorem dnew_any {w : World} {ub : Nat} {fr en : Int} {lv wv : Value} (h : w.heap[ub]? = some (rtB fr en lv wv)) : Calls Tryz.prog 6 #[.pointer (some ⟨ub, 0, none⟩)] w fun e w' => ∃ b X, e = .returned (.pointer (some ⟨b, 0, none⟩)) ∧ Db w' X b ub (dv0 en) ∧ Below w.heap.size w w' ∧ ∀ g, X g → w.heap.size ≤ g := by
  have hub := lt_of_block h
  have x1 := (rt_cells h).2.1
  clear h
  go_enter Tryz.func6, Tryz.ntmps6
  go_upto_region 1 with fail
  refine wp_region_inv' (fun A D a w' => ∃ v3 v4 v5 v6 v7 v8 v9 v10 v2 rb nb, a = (((((((((A.put (some 3) v3).put (some 4) v4).put (some 5) v5).put (some 6) v6).put (some 7) v7).put (some 8) v8).put (some 9) v9).put (some 10) v10).put (some 2) v2) ∧ Below w.heap.size w w' ∧ (D 7 → w.heap.size ≤ nb ∧ nb ≠ rb ∧ w'.heap[nb]? = some (dvB ub en (.slice none 0 0) (.slice (some ⟨rb, 0, none⟩) 4097 4097) 0)) ∧ (D 0 → v3 = .pointer (some ⟨ub, 0, none⟩)) ∧ (D 1 → v4 = .pointer (some ⟨ub, 0, none⟩)) ∧ (D 2 → v5 = .pointer (some ⟨ub, 0, none⟩)) ∧ (D 3 → v6 = .pointer (some ⟨ub, 1, none⟩)) ∧ (D 4 → v7 = .int .i64 en) ∧ (D 5 → v8 = .slice (some ⟨rb, 0, none⟩) 4097 4097) ∧ (D 6 → v9 = .agg #[.pointer (some ⟨ub, 0, none⟩), .int .i64 en, .slice none 0 0, .slice (some ⟨rb, 0, none⟩) 4097 4097, .int .i64 0]) ∧ (D 7 → v10 = .pointer (some ⟨nb, 0, none⟩)) ∧ (D 8 → v2 = .pointer (some ⟨nb, 0, none⟩)) ∧ (D 5 → w.heap.size ≤ rb ∧ w'.heap[rb]? = some (.cells rd0 4 (0, 0)))) (by kernel_rfl) (by kernel_rfl) ?mono ?start ?step ?done
  case mono =>
    rintro D D' a w' hD ⟨v3, v4, v5, v6, v7, v8, v9, v10, v2, rb, nb, ha, hB, hDb, e0, e1, e2, e3, e4, e5, e6, e7, e8, hR⟩
    exact ⟨v3, v4, v5, v6, v7, v8, v9, v10, v2, rb, nb, ha, hB, fun h => hDb ((hD 7).2 h), fun h => e0 ((hD 0).2 h), fun h => e1 ((hD 1).2 h), fun h => e2 ((hD 2).2 h), fun h => e3 ((hD 3).2 h), fun h => e4 ((hD 4).2 h), fun h => e5 ((hD 5).2 h), fun h => e6 ((hD 6).2 h), fun h => e7 ((hD 7).2 h), fun h => e8 ((hD 8).2 h), fun h => hR ((hD 5).2 h)⟩
  case start => exact ⟨undef, undef, undef, undef, undef, undef, undef, undef, .pointer none, 0, 0, by kernel_rfl, (Below.refl _ _).drew, fun h => h.elim, fun h => h.elim, fun h => h.elim, fun h => h.elim, fun h => h.elim, fun h => h.elim, fun h => h.elim, fun h => h.elim, fun h => h.elim, fun h => h.elim, fun h => h.elim⟩
  case step =>
    intro i o ho D a w' hI hn hcl hd
    obtain ⟨v3, v4, v5, v6, v7, v8, v9, v10, v2, rb, nb, ha, hB, hDb, e0, e1, e2, e3, e4, e5, e6, e7, e8, hR⟩ := hI
    match i, ho with
    | 0, ho =>
      cases Option.some.inj ho
      have ev : a.tmps[0]?.getD undef = .pointer (some ⟨ub, 0, none⟩) := by rw [ha]; kernel_rfl
      refine wp_value (w' := w') (v := .pointer (some ⟨ub, 0, none⟩)) (by simp [execOp, ev, go_sem]) ?_
      exact ⟨(.pointer (some ⟨ub, 0, none⟩)), v4, v5, v6, v7, v8, v9, v10, v2, rb, nb, by rw [ha]; kernel_rfl, hB, fun h => hDb (h.resolve_left (by decide)), fun _ => rfl, fun h => e1 (h.resolve_left (by decide)), fun h => e2 (h.resolve_left (by decide)), fun h => e3 (h.resolve_left (by decide)), fun h => e4 (h.resolve_left (by decide)), fun h => e5 (h.resolve_left (by decide)), fun h => e6 (h.resolve_left (by decide)), fun h => e7 (h.resolve_left (by decide)), fun h => e8 (h.resolve_left (by decide)), fun h => hR (h.resolve_left (by decide))⟩
    | 1, ho =>
      cases Option.some.inj ho
      have ev : a.tmps[0]?.getD undef = .pointer (some ⟨ub, 0, none⟩) := by rw [ha]; kernel_rfl
      refine wp_value (w' := w') (v := .pointer (some ⟨ub, 0, none⟩)) (by simp [execOp, ev, go_sem]) ?_
      exact ⟨v3, (.pointer (some ⟨ub, 0, none⟩)), v5, v6, v7, v8, v9, v10, v2, rb, nb, by rw [ha]; kernel_rfl, hB, fun h => hDb (h.resolve_left (by decide)), fun h => e0 (h.resolve_left (by decide)), fun _ => rfl, fun h => e2 (h.resolve_left (by decide)), fun h => e3 (h.resolve_left (by decide)), fun h => e4 (h.resolve_left (by decide)), fun h => e5 (h.resolve_left (by decide)), fun h => e6 (h.resolve_left (by decide)), fun h => e7 (h.resolve_left (by decide)), fun h => e8 (h.resolve_left (by decide)), fun h => hR (h.resolve_left (by decide))⟩
    | 2, ho =>
      cases Option.some.inj ho
      have ev : a.tmps[4]?.getD undef = .pointer (some ⟨ub, 0, none⟩) := by rw [ha, e1 (hd ⟨1, .data⟩ (by simp) rfl)]; kernel_rfl
      refine wp_value (w' := w') (v := .pointer (some ⟨ub, 0, none⟩)) (by simp [execOp, ev, go_sem]) ?_
      exact ⟨v3, v4, (.pointer (some ⟨ub, 0, none⟩)), v6, v7, v8, v9, v10, v2, rb, nb, by rw [ha]; kernel_rfl, hB, fun h => hDb (h.resolve_left (by decide)), fun h => e0 (h.resolve_left (by decide)), fun h => e1 (h.resolve_left (by decide)), fun _ => rfl, fun h => e3 (h.resolve_left (by decide)), fun h => e4 (h.resolve_left (by decide)), fun h => e5 (h.resolve_left (by decide)), fun h => e6 (h.resolve_left (by decide)), fun h => e7 (h.resolve_left (by decide)), fun h => e8 (h.resolve_left (by decide)), fun h => hR (h.resolve_left (by decide))⟩
    | 3, ho =>
      cases Option.some.inj ho
      have ev : a.tmps[5]?.getD undef = .pointer (some ⟨ub, 0, none⟩) := by rw [ha, e2 (hd ⟨2, .data⟩ (by simp) rfl)]; kernel_rfl
      refine wp_value (w' := w') (v := .pointer (some ⟨ub, 1, none⟩)) (by simp [execOp, ev, go_sem]) ?_
      exact ⟨v3, v4, v5, (.pointer (some ⟨ub, 1, none⟩)), v7, v8, v9, v10, v2, rb, nb, by rw [ha]; kernel_rfl, hB, fun h => hDb (h.resolve_left (by decide)), fun h => e0 (h.resolve_left (by decide)), fun h => e1 (h.resolve_left (by decide)), fun h => e2 (h.resolve_left (by decide)), fun _ => rfl, fun h => e4 (h.resolve_left (by decide)), fun h => e5 (h.resolve_left (by decide)), fun h => e6 (h.resolve_left (by decide)), fun h => e7 (h.resolve_left (by decide)), fun h => e8 (h.resolve_left (by decide)), fun h => hR (h.resolve_left (by decide))⟩
    | 4, ho =>
      cases Option.some.inj ho
      have ev : a.tmps[6]?.getD undef = .pointer (some ⟨ub, 1, none⟩) := by rw [ha, e3 (hd ⟨3, .data⟩ (by simp) rfl)]; kernel_rfl
      have hc := (hB.cell (p := ⟨ub, 1, none⟩) hub).trans x1
      refine wp_value (w' := w') (v := .int .i64 en) (by simp [execOp, ev, go_sem, hc]) ?_
      exact ⟨v3, v4, v5, v6, (.int .i64 en), v8, v9, v10, v2, rb, nb, by rw [ha]; kernel_rfl, hB, fun h => hDb (h.resolve_left (by decide)), fun h => e0 (h.resolve_left (by decide)), fun h => e1 (h.resolve_left (by decide)), fun h => e2 (h.resolve_left (by decide)), fun h => e3 (h.resolve_left (by decide)), fun _ => rfl, fun h => e5 (h.resolve_left (by decide)), fun h => e6 (h.resolve_left (by decide)), fun h => e7 (h.resolve_left (by decide)), fun h => e8 (h.resolve_left (by decide)), fun h => hR (h.resolve_left (by decide))⟩
    | 5, ho =>
      cases Option.some.inj ho
      refine wp_value (w' := w'.alloc (.cells rd0 4)) (v := .slice (some ⟨w'.heap.size, 0, none⟩) 4097 4097) (by simp [execOp, go_sem, rd0_make]) ?_
      exact ⟨v3, v4, v5, v6, v7, (.slice (some ⟨w'.heap.size, 0, none⟩) 4097 4097), v9, v10, v2, w'.heap.size, nb, by rw [ha]; kernel_rfl, below_size hB hB.size box_below, fun h => absurd (h.resolve_left (by decide)) (fun h => (fun h => hn (hcl 6 _ rfl h ⟨5, .data⟩ (by simp) rfl)) (hcl 7 _ rfl h ⟨6, .data⟩ (by simp) rfl)), fun h => e0 (h.resolve_left (by decide)), fun h => e1 (h.resolve_left (by decide)), fun h => e2 (h.resolve_left (by decide)), fun h => e3 (h.resolve_left (by decide)), fun h => e4 (h.resolve_left (by decide)), fun _ => rfl, fun h => absurd (h.resolve_left (by decide)) (fun h => hn (hcl 6 _ rfl h ⟨5, .data⟩ (by simp) rfl)), fun h => e7 (h.resolve_left (by decide)), fun h => e8 (h.resolve_left (by decide)), fun _ => ⟨hB.size, new1 _ _⟩⟩
    | 6, ho =>
      cases Option.some.inj ho
      have ev : a.tmps[3]?.getD undef = .pointer (some ⟨ub, 0, none⟩) := by rw [ha, e0 (hd ⟨0, .data⟩ (by simp) rfl)]; kernel_rfl
      have ev' : a.tmps[7]?.getD undef = .int .i64 en := by rw [ha, e4 (hd ⟨4, .data⟩ (by simp) rfl)]; kernel_rfl
      have ev'' : a.tmps[8]?.getD undef = .slice (some ⟨rb, 0, none⟩) 4097 4097 := by rw [ha, e5 (hd ⟨5, .data⟩ (by simp) rfl)]; kernel_rfl
      refine wp_value (w' := w') (v := .agg #[.pointer (some ⟨ub, 0, none⟩), .int .i64 en, .slice none 0 0, .slice (some ⟨rb, 0, none⟩) 4097 4097, .int .i64 0]) (by simp [execOp, ev, ev', ev'', go_sem]) ?_
      exact ⟨v3, v4, v5, v6, v7, v8, (.agg #[.pointer (some ⟨ub, 0, none⟩), .int .i64 en, .slice none 0 0, .slice (some ⟨rb, 0, none⟩) 4097 4097, .int .i64 0]), v10, v2, rb, nb, by rw [ha]; kernel_rfl, hB, fun h => hDb (h.resolve_left (by decide)), fun h => e0 (h.resolve_left (by decide)), fun h => e1 (h.resolve_left (by decide)), fun h => e2 (h.resolve_left (by decide)), fun h => e3 (h.resolve_left (by decide)), fun h => e4 (h.resolve_left (by decide)), fun h => e5 (h.resolve_left (by decide)), fun _ => rfl, fun h => e7 (h.resolve_left (by decide)), fun h => e8 (h.resolve_left (by decide)), fun h => hR (h.resolve_left (by decide))⟩
    | 7, ho =>
      cases Option.some.inj ho
      have ev : a.tmps[9]?.getD undef = .agg #[.pointer (some ⟨ub, 0, none⟩), .int .i64 en, .slice none 0 0, .slice (some ⟨rb, 0, none⟩) 4097 4097, .int .i64 0] := by rw [ha, e6 (hd ⟨6, .data⟩ (by simp) rfl)]; kernel_rfl
      have hr := hR (hcl 6 _ rfl (hd ⟨6, .data⟩ (by simp) rfl) ⟨5, .data⟩ (by simp) rfl)
      refine wp_value (w' := w'.alloc (dvB ub en (.slice none 0 0) (.slice (some ⟨rb, 0, none⟩) 4097 4097) 0)) (v := .pointer (some ⟨w'.heap.size, 0, none⟩)) (by simp [execOp, ev, go_sem, dvB]) ?_
      exact ⟨v3, v4, v5, v6, v7, v8, v9, (.pointer (some ⟨w'.heap.size, 0, none⟩)), v2, rb, w'.heap.size, by rw [ha]; kernel_rfl, below_size hB hB.size box_below, fun _ => ⟨hB.size, fun e => by have := lt_of_block hr.2; omega, new1 _ _⟩, fun h => e0 (h.resolve_left (by decide)), fun h => e1 (h.resolve_left (by decide)), fun h => e2 (h.resolve_left (by decide)), fun h => e3 (h.resolve_left (by decide)), fun h => e4 (h.resolve_left (by decide)), fun h => e5 (h.resolve_left (by decide)), fun h => e6 (h.resolve_left (by decide)), fun _ => rfl, fun h => absurd (h.resolve_left (by decide)) (fun h => hn (hcl 8 _ rfl h ⟨7, .data⟩ (by simp) rfl)), fun h => ⟨(hR (h.resolve_left (by decide))).1, old1 (hR (h.resolve_left (by decide))).2 _⟩⟩
    | 8, ho =>
      cases Option.some.inj ho
      have ev : a.tmps[10]?.getD undef = .pointer (some ⟨nb, 0, none⟩) := by rw [ha, e7 (hd ⟨7, .data⟩ (by simp) rfl)]; kernel_rfl
      refine wp_value (w' := w') (v := .pointer (some ⟨nb, 0, none⟩)) (by simp [execOp, ev, go_sem]) ?_
      exact ⟨v3, v4, v5, v6, v7, v8, v9, v10, (.pointer (some ⟨nb, 0, none⟩)), rb, nb, by rw [ha]; kernel_rfl, hB, fun h => hDb (h.resolve_left (by decide)), fun h => e0 (h.resolve_left (by decide)), fun h => e1 (h.resolve_left (by decide)), fun h => e2 (h.resolve_left (by decide)), fun h => e3 (h.resolve_left (by decide)), fun h => e4 (h.resolve_left (by decide)), fun h => e5 (h.resolve_left (by decide)), fun h => e6 (h.resolve_left (by decide)), fun h => e7 (h.resolve_left (by decide)), fun _ => rfl, fun h => hR (h.resolve_left (by decide))⟩
    | i + 9, ho => simp at ho
  case done =>
    rintro D a w' ⟨v3, v4, v5, v6, v7, v8, v9, v10, v2, rb, nb, ha, hB, hDb, e0, e1, e2, e3, e4, e5, e6, e7, e8, hR⟩ hall
    obtain ⟨p1, p2⟩ := hR (hall 5 (by decide))
    obtain ⟨p3, p4, p5⟩ := hDb (hall 7 (by decide))
    obtain rfl := e0 (hall 0 (by decide))
    obtain rfl := e1 (hall 1 (by decide))
    obtain rfl := e2 (hall 2 (by decide))
    obtain rfl := e3 (hall 3 (by decide))
    obtain rfl := e4 (hall 4 (by decide))
    obtain rfl := e5 (hall 5 (by decide))
    obtain rfl := e6 (hall 6 (by decide))
    obtain rfl := e7 (hall 7 (by decide))
    obtain rfl := e8 (hall 8 (by decide))
    have fin : Hid (∃ X, Db w' X nb ub (dv0 en) ∧ Below w.heap.size w w' ∧ ∀ g, X g → w.heap.size ≤ g) := dv0_db hB p1 p2 p3 p4 p5
    clear hB hR hDb hall p1 p2 p3 p4 p5 e0 e1 e2 e3 e4 e5 e6 e7 e8
    rw [ha]
    clear ha
    simp only [Act.put, List.setIfInBounds_toArray, List.set_cons_zero, List.set_cons_succ]
    go_wp2
    go_ret
    obtain ⟨X, f1, f2, f3⟩ := fin.out
    exact ⟨nb, X, rfl, f1, f2, f3⟩
end Go.Proofs.YteomolihandfnaaGreat
