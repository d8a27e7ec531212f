/- RcSum: the law's walk. -/
import Derived.Test.YtkkilenokpoaoaaKnow
import Derived.Test.YtkkilenokpoaoaaSumA
namespace Go.Proofs.Ytkkilenokpoaoaa
open Go.RowKit
set_option maxRecDepth 100000
theorem opsOf_snoc {zs : List Int} {k : Nat} {x : Int} (h : zs[k]? = some x) : opsOf (zs.take (k + 1)) = opsOf (zs.take k) ++ [⟨5, true, 3, x.tmod 1000000⟩] := by
  unfold opsOf
  rw [take_at h, List.map_append]
  rfl
theorem tot_take {zs : List Int} {k : Nat} {x : Int} (h : zs[k]? = some x) : tot (zs.take (k + 1)) = tot (zs.take k) + x.tmod 1000000 := by
  rw [take_at h, tot_snoc]
theorem tot_bd : ∀ zs : List Int, -(1000000 * (zs.length : Int)) ≤ tot zs ∧ tot zs ≤ 1000000 * (zs.length : Int)
  | [] => by simp [tot]
  | z :: t => by
    have h := tot_bd t
    have hb := tmod_bd z
    simp only [tot, List.length_cons]
    omega
set_option maxHeartbeats 4000000 in
theorem rcSum_law {w : World} {n : Int} {a : Option Addr} {len cap : Nat} {zs : List Int} (hZ : IsI w a len zs) :
    Calls Try.prog 5 #[.int .i64 n, .slice a len cap] w fun e w' => e = .returned (.bool true) ∧ Below w.heap.size w w' := by
  have s1 := hZ.size
  have hm := hZ.most
  unfold maxLen at hm
  go_enter Try.func5, Try.ntmps5
  go_wp2_with fail
  have hn0 := tmod_bd n
  generalize n.tmod 1000000 = n0 at *
  go_loopw [5, 6, 7] (fun sv ov iv wr => ∃ (k : Nat) (oa : Option Addr) (oc : Nat), k ≤ len ∧ k ≤ 100 ∧ iv = .int .i64 (k : Int) ∧ sv = .int .i64 (n0 + tot (zs.take k)) ∧ ov = .slice oa (opsOf (zs.take k)).length oc ∧ OwnP wr w.heap.size (.slice oa (opsOf (zs.take k)).length oc) (opsOf (zs.take k)) ∧ Below w.heap.size w wr) (fun _ _ iv _ => len - (intOf iv).toNat)
  case atStart => exact ⟨0, none, 0, by omega, by omega, rfl, by simp [tot], rfl, ownP_of (n := 0) (World.ownsRow_nil _ _ _ _) (by intro p hp; cases hp), Below.refl _ _⟩
  case round =>
    obtain ⟨k, oa, oc, hk, hk1, rfl, rfl, rfl, hO, hB⟩ := hrel
    have hol : (opsOf (zs.take k)).length = k := by unfold opsOf; simp; omega
    have hTb : -1000000000 ≤ tot (zs.take k) ∧ tot (zs.take k) ≤ 1000000000 := by have := tot_bd (zs.take k); rw [List.length_take] at this; omega
    by_cases hlt : k < len
    · by_cases h100 : k < 100
      · obtain ⟨b, off, x, rfl, hbl, hx, hxk, hxi⟩ := (hZ.below hB).at_ k hlt
        have hki : (k : Int) < (len : Int) := by omega
        have h1 : Hid (opsOf (zs.take (k + 1)) = opsOf (zs.take k) ++ [⟨5, true, 3, x.tmod 1000000⟩]) := opsOf_snoc hxk.out
        have h2 : Hid (tot (zs.take (k + 1)) = tot (zs.take k) + x.tmod 1000000) := tot_take hxk.out
        have hxb := tmod_bd x
        have hP1 : IsP (wr.alloc (.cells #[.int .i64 5, .bool true, .int .i64 3, .int .i64 (x.tmod 1000000)] 66)) (some ⟨wr.heap.size, 0, none⟩) 1 1 [⟨5, true, 3, x.tmod 1000000⟩] := isP_lit wr [⟨5, true, 3, x.tmod 1000000⟩] 1 rfl (by decide) (by intro p hp; rw [List.mem_singleton] at hp; subst hp; unfold Pp.ok I64; simp only; omega)
        replace hol : Hid ((opsOf (zs.take k)).length = k) := hol
        have hol2 : (opsOf (zs.take k)).length + 1 ≤ 4398046511104 := by rw [hol.out]; omega
        have hO1 := hO.below (box_below (o := .cells #[.int .i64 5, .bool true, .int .i64 3, .int .i64 (x.tmod 1000000)] 66))
        have hB1 := below_size hB hB.size (box_below (o := .cells #[.int .i64 5, .bool true, .int .i64 3, .int .i64 (x.tmod 1000000)] 66))
        have hwr : IntKind.i64.wrap (n0 + tot (zs.take k) + x.tmod 1000000) = n0 + tot (zs.take k) + x.tmod 1000000 := by rw [IntKind.wrap_i64]; omega
        generalize tot (zs.take k) = T at *
        generalize opsOf (zs.take k) = Ps at *
        clear hO
        go_wp2_with (at_builtin; refine app_ops _ rfl _ _ rfl w.heap.size _ Ps rfl hO1 _ 1 1 [⟨5, true, 3, x.tmod 1000000⟩] rfl hP1 hol2 hB1.size ?_)
        intro a' n' c' w1 O1 B1
        obtain ⟨_, a1, c1, e1, _⟩ := id O1
        simp only [Value.slice.injEq] at e1
        obtain ⟨_, rfl, _⟩ := e1
        have B2 := hB1.trans B1
        rw [← h1.out] at O1
        clear hP1 hO1 hB1 B1 hx
        go_wp2
        go_roundw
        case rel => exact ⟨k + 1, a', c', by omega, by omega, by go_num, by rw [h2.out]; go_num, by rw [h1.out], O1, B2⟩
        case measure => simp [intOf]; omega
      · have hge : ¬ (k : Int) < 100 := by omega
        have hR : Hid (playS cnt [(3, n0)] (opsOf (zs.take k)) = some [(3, n0 + tot (zs.take k))]) := play_tot _ n0 1000000 (by omega) (by omega) (by rw [List.length_take]; omega)
        have hSi : I64 (n0 + tot (zs.take k)) := by unfold I64; omega
        generalize tot (zs.take k) = TT at *
        generalize opsOf (zs.take k) = Ps at *
        clear hol
        go_wp2_with fail
        refine (counter_any n0 wr (by unfold I64; omega)).mono ?_
        rintro e w1 ⟨ca, rfl, IO, HB1⟩
        have O1 := hO.below HB1
        have B1 := below_size hB hB.size HB1
        obtain ⟨_, a1, c1, e1, hP1⟩ := O1
        simp only [Value.slice.injEq] at e1
        obtain ⟨rfl, _, rfl⟩ := e1
        go_wp2_with fail
        refine (replay_counter IO (by decide) (by decide) hP1).mono ?_
        rintro e w2 ⟨hRep, HB2⟩
        rw [hR.out] at hRep
        obtain ⟨ra, rp, rb, rn, rq, rfl, OV, OB⟩ := hRep
        have B2 := below_size B1 B1.size HB2
        have E9 := new1 w2 (objB 13 (.slice ra 1 rp) (.slice rb rn rq))
        have O9 : IsO (w2.alloc (objB 13 (.slice ra 1 rp) (.slice rb rn rq))) 13 ra 1 rp rb rn rq [(3, n0 + TT)] [] := ⟨by decide, (OV.below box_below).isV, (OB.below box_below).isB⟩
        have B4 := below_size B2 B2.size (box_below (o := objB 13 (.slice ra 1 rp) (.slice rb rn rq)))
        unfold objB at E9 O9 B4
        clear hO hB IO HB1 B1 hP1 OV OB HB2 B2
        go_upto_region 11 with fail
        generalize w2.alloc (.cells #[.int .i64 13, .slice ra 1 rp, .slice rb rn rq] 38) = w4 at *
        generalize w2.heap.size = b9 at *
        refine wp_region_inv2' (fun A D a w' => ∃ v45 v46 v47 v48 v49 v50 v51 v52 v53 v54 v55 v4 ca, a = ((((((((((((A.put (some 45) v45).put (some 46) v46).put (some 47) v47).put (some 48) v48).put (some 49) v49).put (some 50) v50).put (some 51) v51).put (some 52) v52).put (some 53) v53).put (some 54) v54).put (some 55) v55).put (some 4) v4) ∧ Below w4.heap.size w4 w' ∧ (D 0 → v45 = .int .i64 0) ∧ (D 1 → v46 = .bool true) ∧ (D 2 → v47 = .bool true) ∧ (D 3 → v48 = .agg #[.int .i64 13, .slice ra 1 rp, .slice rb rn rq]) ∧ (D 4 → v49 = .int .i64 (n0 + TT)) ∧ (D 5 → v50 = .agg #[.int .i64 13, .slice ca 1 1, .slice none 0 0]) ∧ (D 6 → v51 = .bool true) ∧ (D 7 → v52 = .bool true) ∧ (D 8 → v53 = .bool true) ∧ (D 9 → v54 = .bool true) ∧ (D 10 → v55 = .bool true) ∧ (D 11 → v4 = .bool true) ∧ (D 5 → ¬ D 6 → IsO w' 13 ca 1 1 none 0 0 [(3, n0 + TT)] [])) (by kernel_rfl) (by kernel_rfl) ?mono ?start ?step ?done
        case mono =>
          rintro D D' a w' hD ⟨v45, v46, v47, v48, v49, v50, v51, v52, v53, v54, v55, v4, ca, ha, hB, e0, e1, e2, e3, e4, e5, e6, e7, e8, e9, e10, e11, hC⟩
          exact ⟨v45, v46, v47, v48, v49, v50, v51, v52, v53, v54, v55, v4, ca, ha, hB, fun h => e0 ((hD 0).2 h), fun h => e1 ((hD 1).2 h), fun h => e2 ((hD 2).2 h), fun h => e3 ((hD 3).2 h), fun h => e4 ((hD 4).2 h), fun h => e5 ((hD 5).2 h), fun h => e6 ((hD 6).2 h), fun h => e7 ((hD 7).2 h), fun h => e8 ((hD 8).2 h), fun h => e9 ((hD 9).2 h), fun h => e10 ((hD 10).2 h), fun h => e11 ((hD 11).2 h), fun h h' => hC ((hD 5).2 h) (fun k => h' ((hD 6).1 k))⟩
        case start => exact ⟨undef, undef, undef, undef, undef, undef, undef, undef, undef, undef, undef, .bool false, none, by kernel_rfl, (Below.refl _ _).drew, fun h => h.elim, fun h => h.elim, fun h => h.elim, fun h => h.elim, fun h => h.elim, fun h => h.elim, fun h => h.elim, fun h => h.elim, fun h => h.elim, fun h => h.elim, fun h => h.elim, fun h => h.elim, fun h _ => h.elim⟩
        case step =>
          intro i o ho D a w' hI hn hcl hd
          obtain ⟨v45, v46, v47, v48, v49, v50, v51, v52, v53, v54, v55, v4, ca, ha, hB, e0, e1, e2, e3, e4, e5, e6, e7, e8, e9, e10, e11, hC⟩ := hI
          match i, ho with
          | 0, ho =>
            cases Option.some.inj ho
            refine ⟨rfl, ?_⟩
            have ev : a.tmps[10]?.getD undef = .int .i64 0 := by rw [ha]; kernel_rfl
            refine wp_value (w' := w') (v := .int .i64 0) (by simp [execOp, ev, go_sem]) ?_
            exact ⟨(.int .i64 0), v46, v47, v48, v49, v50, v51, v52, v53, v54, v55, v4, ca, by rw [ha]; kernel_rfl, hB, fun _ => rfl, fun h => e1 (h.resolve_left (by decide)), fun h => e2 (h.resolve_left (by decide)), fun h => e3 (h.resolve_left (by decide)), fun h => e4 (h.resolve_left (by decide)), fun h => e5 (h.resolve_left (by decide)), fun h => e6 (h.resolve_left (by decide)), fun h => e7 (h.resolve_left (by decide)), fun h => e8 (h.resolve_left (by decide)), fun h => e9 (h.resolve_left (by decide)), fun h => e10 (h.resolve_left (by decide)), fun h => e11 (h.resolve_left (by decide)), fun h h' => hC (h.resolve_left (by decide)) (fun k => h' (.inr k))⟩
          | 1, ho =>
            cases Option.some.inj ho
            refine ⟨rfl, ?_⟩
            have ev : a.tmps[45]?.getD undef = .int .i64 0 := by rw [ha, e0 (hd ⟨0, .data⟩ (by simp) rfl)]; kernel_rfl
            refine wp_value (w' := w') (v := .bool true) (by simp [execOp, ev, go_sem]) ?_
            exact ⟨v45, (.bool true), v47, v48, v49, v50, v51, v52, v53, v54, v55, v4, ca, by rw [ha]; kernel_rfl, hB, fun h => e0 (h.resolve_left (by decide)), fun _ => rfl, fun h => e2 (h.resolve_left (by decide)), fun h => e3 (h.resolve_left (by decide)), fun h => e4 (h.resolve_left (by decide)), fun h => e5 (h.resolve_left (by decide)), fun h => e6 (h.resolve_left (by decide)), fun h => e7 (h.resolve_left (by decide)), fun h => e8 (h.resolve_left (by decide)), fun h => e9 (h.resolve_left (by decide)), fun h => e10 (h.resolve_left (by decide)), fun h => e11 (h.resolve_left (by decide)), fun h h' => hC (h.resolve_left (by decide)) (fun k => h' (.inr k))⟩
          | 2, ho =>
            cases Option.some.inj ho
            refine ⟨rfl, ?_⟩
            have ev : a.tmps[46]?.getD undef = .bool true := by rw [ha, e1 (hd ⟨1, .data⟩ (by simp) rfl)]; kernel_rfl
            refine wp_value (w' := w') (v := .bool true) (by simp [execOp, ev, go_sem]) ?_
            exact ⟨v45, v46, (.bool true), v48, v49, v50, v51, v52, v53, v54, v55, v4, ca, by rw [ha]; kernel_rfl, hB, fun h => e0 (h.resolve_left (by decide)), fun h => e1 (h.resolve_left (by decide)), fun _ => rfl, fun h => e3 (h.resolve_left (by decide)), fun h => e4 (h.resolve_left (by decide)), fun h => e5 (h.resolve_left (by decide)), fun h => e6 (h.resolve_left (by decide)), fun h => e7 (h.resolve_left (by decide)), fun h => e8 (h.resolve_left (by decide)), fun h => e9 (h.resolve_left (by decide)), fun h => e10 (h.resolve_left (by decide)), fun h => e11 (h.resolve_left (by decide)), fun h h' => hC (h.resolve_left (by decide)) (fun k => h' (.inr k))⟩
          | 3, ho =>
            cases Option.some.inj ho
            refine ⟨by rw [ha, e2 (hd ⟨2, .guard⟩ (by simp) rfl)]; kernel_rfl, ?_⟩
            have ev : a.tmps[9]?.getD undef = .pointer (some ⟨b9, 0, none⟩) := by rw [ha]; kernel_rfl
            obtain ⟨z0, z1, z2, zf⟩ := obj_cells ((hB.block _ (lt_of_block E9)).trans E9)
            refine wp_value (w' := w') (v := .agg #[.int .i64 13, .slice ra 1 rp, .slice rb rn rq]) (by simp [execOp, ev, go_sem, z0, z1, z2]) ?_
            exact ⟨v45, v46, v47, (.agg #[.int .i64 13, .slice ra 1 rp, .slice rb rn rq]), v49, v50, v51, v52, v53, v54, v55, v4, ca, by rw [ha]; kernel_rfl, hB, fun h => e0 (h.resolve_left (by decide)), fun h => e1 (h.resolve_left (by decide)), fun h => e2 (h.resolve_left (by decide)), fun _ => rfl, fun h => e4 (h.resolve_left (by decide)), fun h => e5 (h.resolve_left (by decide)), fun h => e6 (h.resolve_left (by decide)), fun h => e7 (h.resolve_left (by decide)), fun h => e8 (h.resolve_left (by decide)), fun h => e9 (h.resolve_left (by decide)), fun h => e10 (h.resolve_left (by decide)), fun h => e11 (h.resolve_left (by decide)), fun h h' => hC (h.resolve_left (by decide)) (fun k => h' (.inr k))⟩
          | 4, ho =>
            cases Option.some.inj ho
            refine ⟨by rw [ha, e2 (hd ⟨2, .guard⟩ (by simp) rfl)]; kernel_rfl, ?_⟩
            have ev : a.tmps[5]?.getD undef = .int .i64 (n0 + TT) := by rw [ha]; kernel_rfl
            refine wp_value (w' := w') (v := .int .i64 (n0 + TT)) (by simp [execOp, ev, go_sem]) ?_
            exact ⟨v45, v46, v47, v48, (.int .i64 (n0 + TT)), v50, v51, v52, v53, v54, v55, v4, ca, by rw [ha]; kernel_rfl, hB, fun h => e0 (h.resolve_left (by decide)), fun h => e1 (h.resolve_left (by decide)), fun h => e2 (h.resolve_left (by decide)), fun h => e3 (h.resolve_left (by decide)), fun _ => rfl, fun h => e5 (h.resolve_left (by decide)), fun h => e6 (h.resolve_left (by decide)), fun h => e7 (h.resolve_left (by decide)), fun h => e8 (h.resolve_left (by decide)), fun h => e9 (h.resolve_left (by decide)), fun h => e10 (h.resolve_left (by decide)), fun h => e11 (h.resolve_left (by decide)), fun h h' => hC (h.resolve_left (by decide)) (fun k => h' (.inr k))⟩
          | 5, ho =>
            cases Option.some.inj ho
            refine ⟨by rw [ha, e2 (hd ⟨2, .guard⟩ (by simp) rfl)]; kernel_rfl, ?_⟩
            have ev : a.tmps[49]?.getD undef = .int .i64 (n0 + TT) := by rw [ha, e4 (hd ⟨4, .data⟩ (by simp) rfl)]; kernel_rfl
            refine wp_enter (f := 22) (args := #[.int .i64 (n0 + TT)]) (by simp [execOp, ev, go_sem]) ?_
            refine (counter_any (n0 + TT) w' hSi).mono ?_
            rintro e w6 ⟨ca', rfl, IO, HB⟩
            refine ⟨_, rfl, ?_⟩
            exact ⟨v45, v46, v47, v48, v49, (.agg #[.int .i64 13, .slice ca' 1 1, .slice none 0 0]), v51, v52, v53, v54, v55, v4, ca', by rw [ha]; kernel_rfl, below_size hB hB.size HB, fun h => e0 (h.resolve_left (by decide)), fun h => e1 (h.resolve_left (by decide)), fun h => e2 (h.resolve_left (by decide)), fun h => e3 (h.resolve_left (by decide)), fun h => e4 (h.resolve_left (by decide)), fun _ => rfl, fun h => e6 (h.resolve_left (by decide)), fun h => e7 (h.resolve_left (by decide)), fun h => e8 (h.resolve_left (by decide)), fun h => e9 (h.resolve_left (by decide)), fun h => e10 (h.resolve_left (by decide)), fun h => e11 (h.resolve_left (by decide)), fun _ _ => IO⟩
          | 6, ho =>
            cases Option.some.inj ho
            refine ⟨by rw [ha, e2 (hd ⟨2, .guard⟩ (by simp) rfl)]; kernel_rfl, ?_⟩
            have ev : a.tmps[48]?.getD undef = .agg #[.int .i64 13, .slice ra 1 rp, .slice rb rn rq] := by rw [ha, e3 (hd ⟨3, .data⟩ (by simp) rfl)]; kernel_rfl
            have ev' : a.tmps[50]?.getD undef = .agg #[.int .i64 13, .slice ca 1 1, .slice none 0 0] := by rw [ha, e5 (hd ⟨5, .data⟩ (by simp) rfl)]; kernel_rfl
            refine wp_enter (f := 19) (args := #[.agg #[.int .i64 13, .slice ra 1 rp, .slice rb rn rq], .agg #[.int .i64 13, .slice ca 1 1, .slice none 0 0]]) (by simp [execOp, ev, ev', go_sem]) ?_
            refine (same_yes (O9.below hB) (hC (hd ⟨5, .data⟩ (by simp) rfl) hn)).mono ?_
            rintro e w6 ⟨rfl, HB⟩
            refine ⟨_, rfl, ?_⟩
            exact ⟨v45, v46, v47, v48, v49, v50, (.bool true), v52, v53, v54, v55, v4, ca, by rw [ha]; kernel_rfl, below_size hB hB.size HB, fun h => e0 (h.resolve_left (by decide)), fun h => e1 (h.resolve_left (by decide)), fun h => e2 (h.resolve_left (by decide)), fun h => e3 (h.resolve_left (by decide)), fun h => e4 (h.resolve_left (by decide)), fun h => e5 (h.resolve_left (by decide)), fun _ => rfl, fun h => e7 (h.resolve_left (by decide)), fun h => e8 (h.resolve_left (by decide)), fun h => e9 (h.resolve_left (by decide)), fun h => e10 (h.resolve_left (by decide)), fun h => e11 (h.resolve_left (by decide)), fun _ h' => absurd (.inl rfl) h'⟩
          | 7, ho =>
            cases Option.some.inj ho
            refine ⟨rfl, ?_⟩
            have ev : a.tmps[47]?.getD undef = .bool true := by rw [ha, e2 (hd ⟨2, .data⟩ (by simp) rfl)]; kernel_rfl
            have ev' : a.tmps[51]?.getD undef = .bool true := by rw [ha, e6 (hd ⟨6, .data⟩ (by simp) rfl)]; kernel_rfl
            refine wp_value (w' := w') (v := .bool true) (by simp [execOp, ev, ev', go_sem]) ?_
            exact ⟨v45, v46, v47, v48, v49, v50, v51, (.bool true), v53, v54, v55, v4, ca, by rw [ha]; kernel_rfl, hB, fun h => e0 (h.resolve_left (by decide)), fun h => e1 (h.resolve_left (by decide)), fun h => e2 (h.resolve_left (by decide)), fun h => e3 (h.resolve_left (by decide)), fun h => e4 (h.resolve_left (by decide)), fun h => e5 (h.resolve_left (by decide)), fun h => e6 (h.resolve_left (by decide)), fun _ => rfl, fun h => e8 (h.resolve_left (by decide)), fun h => e9 (h.resolve_left (by decide)), fun h => e10 (h.resolve_left (by decide)), fun h => e11 (h.resolve_left (by decide)), fun h h' => hC (h.resolve_left (by decide)) (fun k => h' (.inr k))⟩
          | 8, ho =>
            cases Option.some.inj ho
            refine ⟨rfl, ?_⟩
            have ev : a.tmps[52]?.getD undef = .bool true := by rw [ha, e7 (hd ⟨7, .data⟩ (by simp) rfl)]; kernel_rfl
            refine wp_value (w' := w') (v := .bool true) (by simp [execOp, ev, go_sem]) ?_
            exact ⟨v45, v46, v47, v48, v49, v50, v51, v52, (.bool true), v54, v55, v4, ca, by rw [ha]; kernel_rfl, hB, fun h => e0 (h.resolve_left (by decide)), fun h => e1 (h.resolve_left (by decide)), fun h => e2 (h.resolve_left (by decide)), fun h => e3 (h.resolve_left (by decide)), fun h => e4 (h.resolve_left (by decide)), fun h => e5 (h.resolve_left (by decide)), fun h => e6 (h.resolve_left (by decide)), fun h => e7 (h.resolve_left (by decide)), fun _ => rfl, fun h => e9 (h.resolve_left (by decide)), fun h => e10 (h.resolve_left (by decide)), fun h => e11 (h.resolve_left (by decide)), fun h h' => hC (h.resolve_left (by decide)) (fun k => h' (.inr k))⟩
          | 9, ho =>
            cases Option.some.inj ho
            refine ⟨by rw [ha, e8 (hd ⟨8, .guard⟩ (by simp) rfl)]; kernel_rfl, ?_⟩
            refine wp_enter (f := 7) (args := #[]) (by simp [execOp, go_sem]) ?_
            refine (known_true w').mono ?_
            rintro e w6 ⟨rfl, HB⟩
            refine ⟨_, rfl, ?_⟩
            exact ⟨v45, v46, v47, v48, v49, v50, v51, v52, v53, (.bool true), v55, v4, ca, by rw [ha]; kernel_rfl, below_size hB hB.size HB, fun h => e0 (h.resolve_left (by decide)), fun h => e1 (h.resolve_left (by decide)), fun h => e2 (h.resolve_left (by decide)), fun h => e3 (h.resolve_left (by decide)), fun h => e4 (h.resolve_left (by decide)), fun h => e5 (h.resolve_left (by decide)), fun h => e6 (h.resolve_left (by decide)), fun h => e7 (h.resolve_left (by decide)), fun h => e8 (h.resolve_left (by decide)), fun _ => rfl, fun h => e10 (h.resolve_left (by decide)), fun h => e11 (h.resolve_left (by decide)), fun h h' => (hC (h.resolve_left (by decide)) (fun k => h' (.inr k))).below HB⟩
          | 10, ho =>
            cases Option.some.inj ho
            refine ⟨rfl, ?_⟩
            have ev : a.tmps[53]?.getD undef = .bool true := by rw [ha, e8 (hd ⟨8, .data⟩ (by simp) rfl)]; kernel_rfl
            have ev' : a.tmps[54]?.getD undef = .bool true := by rw [ha, e9 (hd ⟨9, .data⟩ (by simp) rfl)]; kernel_rfl
            refine wp_value (w' := w') (v := .bool true) (by simp [execOp, ev, ev', go_sem]) ?_
            exact ⟨v45, v46, v47, v48, v49, v50, v51, v52, v53, v54, (.bool true), v4, ca, by rw [ha]; kernel_rfl, hB, fun h => e0 (h.resolve_left (by decide)), fun h => e1 (h.resolve_left (by decide)), fun h => e2 (h.resolve_left (by decide)), fun h => e3 (h.resolve_left (by decide)), fun h => e4 (h.resolve_left (by decide)), fun h => e5 (h.resolve_left (by decide)), fun h => e6 (h.resolve_left (by decide)), fun h => e7 (h.resolve_left (by decide)), fun h => e8 (h.resolve_left (by decide)), fun h => e9 (h.resolve_left (by decide)), fun _ => rfl, fun h => e11 (h.resolve_left (by decide)), fun h h' => hC (h.resolve_left (by decide)) (fun k => h' (.inr k))⟩
          | 11, ho =>
            cases Option.some.inj ho
            refine ⟨rfl, ?_⟩
            have ev : a.tmps[55]?.getD undef = .bool true := by rw [ha, e10 (hd ⟨10, .data⟩ (by simp) rfl)]; kernel_rfl
            refine wp_value (w' := w') (v := .bool true) (by simp [execOp, ev, go_sem]) ?_
            exact ⟨v45, v46, v47, v48, v49, v50, v51, v52, v53, v54, v55, (.bool true), ca, by rw [ha]; kernel_rfl, hB, fun h => e0 (h.resolve_left (by decide)), fun h => e1 (h.resolve_left (by decide)), fun h => e2 (h.resolve_left (by decide)), fun h => e3 (h.resolve_left (by decide)), fun h => e4 (h.resolve_left (by decide)), fun h => e5 (h.resolve_left (by decide)), fun h => e6 (h.resolve_left (by decide)), fun h => e7 (h.resolve_left (by decide)), fun h => e8 (h.resolve_left (by decide)), fun h => e9 (h.resolve_left (by decide)), fun h => e10 (h.resolve_left (by decide)), fun _ => rfl, fun h h' => hC (h.resolve_left (by decide)) (fun k => h' (.inr k))⟩
          | i + 12, ho => simp at ho
        case done =>
          rintro D a w' ⟨v45, v46, v47, v48, v49, v50, v51, v52, v53, v54, v55, v4, ca, ha, hB, e0, e1, e2, e3, e4, e5, e6, e7, e8, e9, e10, e11, hC⟩ hall
          obtain rfl := e0 (hall 0 (by decide))
          obtain rfl := e1 (hall 1 (by decide))
          obtain rfl := e2 (hall 2 (by decide))
          obtain rfl := e3 (hall 3 (by decide))
          obtain rfl := e4 (hall 4 (by decide))
          obtain rfl := e5 (hall 5 (by decide))
          obtain rfl := e6 (hall 6 (by decide))
          obtain rfl := e7 (hall 7 (by decide))
          obtain rfl := e8 (hall 8 (by decide))
          obtain rfl := e9 (hall 9 (by decide))
          obtain rfl := e10 (hall 10 (by decide))
          obtain rfl := e11 (hall 11 (by decide))
          clear hC hall e0 e1 e2 e3 e4 e5 e6 e7 e8 e9 e10 e11
          rw [ha]
          clear ha
          simp only [Act.put, List.setIfInBounds_toArray, List.set_cons_zero, List.set_cons_succ]
          go_wp2
          go_ret
          exact ⟨rfl, below_size B4 B4.size hB⟩
    · have hge : ¬ (k : Int) < (len : Int) := by omega
      have hR : Hid (playS cnt [(3, n0)] (opsOf (zs.take k)) = some [(3, n0 + tot (zs.take k))]) := play_tot _ n0 1000000 (by omega) (by omega) (by rw [List.length_take]; omega)
      have hSi : I64 (n0 + tot (zs.take k)) := by unfold I64; omega
      generalize tot (zs.take k) = TT at *
      generalize opsOf (zs.take k) = Ps at *
      clear hol
      go_wp2_with fail
      refine (counter_any n0 wr (by unfold I64; omega)).mono ?_
      rintro e w1 ⟨ca, rfl, IO, HB1⟩
      have O1 := hO.below HB1
      have B1 := below_size hB hB.size HB1
      obtain ⟨_, a1, c1, e1, hP1⟩ := O1
      simp only [Value.slice.injEq] at e1
      obtain ⟨rfl, _, rfl⟩ := e1
      go_wp2_with fail
      refine (replay_counter IO (by decide) (by decide) hP1).mono ?_
      rintro e w2 ⟨hRep, HB2⟩
      rw [hR.out] at hRep
      obtain ⟨ra, rp, rb, rn, rq, rfl, OV, OB⟩ := hRep
      have B2 := below_size B1 B1.size HB2
      have E9 := new1 w2 (objB 13 (.slice ra 1 rp) (.slice rb rn rq))
      have O9 : IsO (w2.alloc (objB 13 (.slice ra 1 rp) (.slice rb rn rq))) 13 ra 1 rp rb rn rq [(3, n0 + TT)] [] := ⟨by decide, (OV.below box_below).isV, (OB.below box_below).isB⟩
      have B4 := below_size B2 B2.size (box_below (o := objB 13 (.slice ra 1 rp) (.slice rb rn rq)))
      unfold objB at E9 O9 B4
      clear hO hB IO HB1 B1 hP1 OV OB HB2 B2
      go_upto_region 11 with fail
      generalize w2.alloc (.cells #[.int .i64 13, .slice ra 1 rp, .slice rb rn rq] 38) = w4 at *
      generalize w2.heap.size = b9 at *
      refine wp_region_inv2' (fun A D a w' => ∃ v45 v46 v47 v48 v49 v50 v51 v52 v53 v54 v55 v4 ca, a = ((((((((((((A.put (some 45) v45).put (some 46) v46).put (some 47) v47).put (some 48) v48).put (some 49) v49).put (some 50) v50).put (some 51) v51).put (some 52) v52).put (some 53) v53).put (some 54) v54).put (some 55) v55).put (some 4) v4) ∧ Below w4.heap.size w4 w' ∧ (D 0 → v45 = .int .i64 0) ∧ (D 1 → v46 = .bool true) ∧ (D 2 → v47 = .bool true) ∧ (D 3 → v48 = .agg #[.int .i64 13, .slice ra 1 rp, .slice rb rn rq]) ∧ (D 4 → v49 = .int .i64 (n0 + TT)) ∧ (D 5 → v50 = .agg #[.int .i64 13, .slice ca 1 1, .slice none 0 0]) ∧ (D 6 → v51 = .bool true) ∧ (D 7 → v52 = .bool true) ∧ (D 8 → v53 = .bool true) ∧ (D 9 → v54 = .bool true) ∧ (D 10 → v55 = .bool true) ∧ (D 11 → v4 = .bool true) ∧ (D 5 → ¬ D 6 → IsO w' 13 ca 1 1 none 0 0 [(3, n0 + TT)] [])) (by kernel_rfl) (by kernel_rfl) ?mono ?start ?step ?done
      case mono =>
        rintro D D' a w' hD ⟨v45, v46, v47, v48, v49, v50, v51, v52, v53, v54, v55, v4, ca, ha, hB, e0, e1, e2, e3, e4, e5, e6, e7, e8, e9, e10, e11, hC⟩
        exact ⟨v45, v46, v47, v48, v49, v50, v51, v52, v53, v54, v55, v4, ca, ha, hB, fun h => e0 ((hD 0).2 h), fun h => e1 ((hD 1).2 h), fun h => e2 ((hD 2).2 h), fun h => e3 ((hD 3).2 h), fun h => e4 ((hD 4).2 h), fun h => e5 ((hD 5).2 h), fun h => e6 ((hD 6).2 h), fun h => e7 ((hD 7).2 h), fun h => e8 ((hD 8).2 h), fun h => e9 ((hD 9).2 h), fun h => e10 ((hD 10).2 h), fun h => e11 ((hD 11).2 h), fun h h' => hC ((hD 5).2 h) (fun k => h' ((hD 6).1 k))⟩
      case start => exact ⟨undef, undef, undef, undef, undef, undef, undef, undef, undef, undef, undef, .bool false, none, by kernel_rfl, (Below.refl _ _).drew, fun h => h.elim, fun h => h.elim, fun h => h.elim, fun h => h.elim, fun h => h.elim, fun h => h.elim, fun h => h.elim, fun h => h.elim, fun h => h.elim, fun h => h.elim, fun h => h.elim, fun h => h.elim, fun h _ => h.elim⟩
      case step =>
        intro i o ho D a w' hI hn hcl hd
        obtain ⟨v45, v46, v47, v48, v49, v50, v51, v52, v53, v54, v55, v4, ca, ha, hB, e0, e1, e2, e3, e4, e5, e6, e7, e8, e9, e10, e11, hC⟩ := hI
        match i, ho with
        | 0, ho =>
          cases Option.some.inj ho
          refine ⟨rfl, ?_⟩
          have ev : a.tmps[10]?.getD undef = .int .i64 0 := by rw [ha]; kernel_rfl
          refine wp_value (w' := w') (v := .int .i64 0) (by simp [execOp, ev, go_sem]) ?_
          exact ⟨(.int .i64 0), v46, v47, v48, v49, v50, v51, v52, v53, v54, v55, v4, ca, by rw [ha]; kernel_rfl, hB, fun _ => rfl, fun h => e1 (h.resolve_left (by decide)), fun h => e2 (h.resolve_left (by decide)), fun h => e3 (h.resolve_left (by decide)), fun h => e4 (h.resolve_left (by decide)), fun h => e5 (h.resolve_left (by decide)), fun h => e6 (h.resolve_left (by decide)), fun h => e7 (h.resolve_left (by decide)), fun h => e8 (h.resolve_left (by decide)), fun h => e9 (h.resolve_left (by decide)), fun h => e10 (h.resolve_left (by decide)), fun h => e11 (h.resolve_left (by decide)), fun h h' => hC (h.resolve_left (by decide)) (fun k => h' (.inr k))⟩
        | 1, ho =>
          cases Option.some.inj ho
          refine ⟨rfl, ?_⟩
          have ev : a.tmps[45]?.getD undef = .int .i64 0 := by rw [ha, e0 (hd ⟨0, .data⟩ (by simp) rfl)]; kernel_rfl
          refine wp_value (w' := w') (v := .bool true) (by simp [execOp, ev, go_sem]) ?_
          exact ⟨v45, (.bool true), v47, v48, v49, v50, v51, v52, v53, v54, v55, v4, ca, by rw [ha]; kernel_rfl, hB, fun h => e0 (h.resolve_left (by decide)), fun _ => rfl, fun h => e2 (h.resolve_left (by decide)), fun h => e3 (h.resolve_left (by decide)), fun h => e4 (h.resolve_left (by decide)), fun h => e5 (h.resolve_left (by decide)), fun h => e6 (h.resolve_left (by decide)), fun h => e7 (h.resolve_left (by decide)), fun h => e8 (h.resolve_left (by decide)), fun h => e9 (h.resolve_left (by decide)), fun h => e10 (h.resolve_left (by decide)), fun h => e11 (h.resolve_left (by decide)), fun h h' => hC (h.resolve_left (by decide)) (fun k => h' (.inr k))⟩
        | 2, ho =>
          cases Option.some.inj ho
          refine ⟨rfl, ?_⟩
          have ev : a.tmps[46]?.getD undef = .bool true := by rw [ha, e1 (hd ⟨1, .data⟩ (by simp) rfl)]; kernel_rfl
          refine wp_value (w' := w') (v := .bool true) (by simp [execOp, ev, go_sem]) ?_
          exact ⟨v45, v46, (.bool true), v48, v49, v50, v51, v52, v53, v54, v55, v4, ca, by rw [ha]; kernel_rfl, hB, fun h => e0 (h.resolve_left (by decide)), fun h => e1 (h.resolve_left (by decide)), fun _ => rfl, fun h => e3 (h.resolve_left (by decide)), fun h => e4 (h.resolve_left (by decide)), fun h => e5 (h.resolve_left (by decide)), fun h => e6 (h.resolve_left (by decide)), fun h => e7 (h.resolve_left (by decide)), fun h => e8 (h.resolve_left (by decide)), fun h => e9 (h.resolve_left (by decide)), fun h => e10 (h.resolve_left (by decide)), fun h => e11 (h.resolve_left (by decide)), fun h h' => hC (h.resolve_left (by decide)) (fun k => h' (.inr k))⟩
        | 3, ho =>
          cases Option.some.inj ho
          refine ⟨by rw [ha, e2 (hd ⟨2, .guard⟩ (by simp) rfl)]; kernel_rfl, ?_⟩
          have ev : a.tmps[9]?.getD undef = .pointer (some ⟨b9, 0, none⟩) := by rw [ha]; kernel_rfl
          obtain ⟨z0, z1, z2, zf⟩ := obj_cells ((hB.block _ (lt_of_block E9)).trans E9)
          refine wp_value (w' := w') (v := .agg #[.int .i64 13, .slice ra 1 rp, .slice rb rn rq]) (by simp [execOp, ev, go_sem, z0, z1, z2]) ?_
          exact ⟨v45, v46, v47, (.agg #[.int .i64 13, .slice ra 1 rp, .slice rb rn rq]), v49, v50, v51, v52, v53, v54, v55, v4, ca, by rw [ha]; kernel_rfl, hB, fun h => e0 (h.resolve_left (by decide)), fun h => e1 (h.resolve_left (by decide)), fun h => e2 (h.resolve_left (by decide)), fun _ => rfl, fun h => e4 (h.resolve_left (by decide)), fun h => e5 (h.resolve_left (by decide)), fun h => e6 (h.resolve_left (by decide)), fun h => e7 (h.resolve_left (by decide)), fun h => e8 (h.resolve_left (by decide)), fun h => e9 (h.resolve_left (by decide)), fun h => e10 (h.resolve_left (by decide)), fun h => e11 (h.resolve_left (by decide)), fun h h' => hC (h.resolve_left (by decide)) (fun k => h' (.inr k))⟩
        | 4, ho =>
          cases Option.some.inj ho
          refine ⟨by rw [ha, e2 (hd ⟨2, .guard⟩ (by simp) rfl)]; kernel_rfl, ?_⟩
          have ev : a.tmps[5]?.getD undef = .int .i64 (n0 + TT) := by rw [ha]; kernel_rfl
          refine wp_value (w' := w') (v := .int .i64 (n0 + TT)) (by simp [execOp, ev, go_sem]) ?_
          exact ⟨v45, v46, v47, v48, (.int .i64 (n0 + TT)), v50, v51, v52, v53, v54, v55, v4, ca, by rw [ha]; kernel_rfl, hB, fun h => e0 (h.resolve_left (by decide)), fun h => e1 (h.resolve_left (by decide)), fun h => e2 (h.resolve_left (by decide)), fun h => e3 (h.resolve_left (by decide)), fun _ => rfl, fun h => e5 (h.resolve_left (by decide)), fun h => e6 (h.resolve_left (by decide)), fun h => e7 (h.resolve_left (by decide)), fun h => e8 (h.resolve_left (by decide)), fun h => e9 (h.resolve_left (by decide)), fun h => e10 (h.resolve_left (by decide)), fun h => e11 (h.resolve_left (by decide)), fun h h' => hC (h.resolve_left (by decide)) (fun k => h' (.inr k))⟩
        | 5, ho =>
          cases Option.some.inj ho
          refine ⟨by rw [ha, e2 (hd ⟨2, .guard⟩ (by simp) rfl)]; kernel_rfl, ?_⟩
          have ev : a.tmps[49]?.getD undef = .int .i64 (n0 + TT) := by rw [ha, e4 (hd ⟨4, .data⟩ (by simp) rfl)]; kernel_rfl
          refine wp_enter (f := 22) (args := #[.int .i64 (n0 + TT)]) (by simp [execOp, ev, go_sem]) ?_
          refine (counter_any (n0 + TT) w' hSi).mono ?_
          rintro e w6 ⟨ca', rfl, IO, HB⟩
          refine ⟨_, rfl, ?_⟩
          exact ⟨v45, v46, v47, v48, v49, (.agg #[.int .i64 13, .slice ca' 1 1, .slice none 0 0]), v51, v52, v53, v54, v55, v4, ca', by rw [ha]; kernel_rfl, below_size hB hB.size HB, fun h => e0 (h.resolve_left (by decide)), fun h => e1 (h.resolve_left (by decide)), fun h => e2 (h.resolve_left (by decide)), fun h => e3 (h.resolve_left (by decide)), fun h => e4 (h.resolve_left (by decide)), fun _ => rfl, fun h => e6 (h.resolve_left (by decide)), fun h => e7 (h.resolve_left (by decide)), fun h => e8 (h.resolve_left (by decide)), fun h => e9 (h.resolve_left (by decide)), fun h => e10 (h.resolve_left (by decide)), fun h => e11 (h.resolve_left (by decide)), fun _ _ => IO⟩
        | 6, ho =>
          cases Option.some.inj ho
          refine ⟨by rw [ha, e2 (hd ⟨2, .guard⟩ (by simp) rfl)]; kernel_rfl, ?_⟩
          have ev : a.tmps[48]?.getD undef = .agg #[.int .i64 13, .slice ra 1 rp, .slice rb rn rq] := by rw [ha, e3 (hd ⟨3, .data⟩ (by simp) rfl)]; kernel_rfl
          have ev' : a.tmps[50]?.getD undef = .agg #[.int .i64 13, .slice ca 1 1, .slice none 0 0] := by rw [ha, e5 (hd ⟨5, .data⟩ (by simp) rfl)]; kernel_rfl
          refine wp_enter (f := 19) (args := #[.agg #[.int .i64 13, .slice ra 1 rp, .slice rb rn rq], .agg #[.int .i64 13, .slice ca 1 1, .slice none 0 0]]) (by simp [execOp, ev, ev', go_sem]) ?_
          refine (same_yes (O9.below hB) (hC (hd ⟨5, .data⟩ (by simp) rfl) hn)).mono ?_
          rintro e w6 ⟨rfl, HB⟩
          refine ⟨_, rfl, ?_⟩
          exact ⟨v45, v46, v47, v48, v49, v50, (.bool true), v52, v53, v54, v55, v4, ca, by rw [ha]; kernel_rfl, below_size hB hB.size HB, fun h => e0 (h.resolve_left (by decide)), fun h => e1 (h.resolve_left (by decide)), fun h => e2 (h.resolve_left (by decide)), fun h => e3 (h.resolve_left (by decide)), fun h => e4 (h.resolve_left (by decide)), fun h => e5 (h.resolve_left (by decide)), fun _ => rfl, fun h => e7 (h.resolve_left (by decide)), fun h => e8 (h.resolve_left (by decide)), fun h => e9 (h.resolve_left (by decide)), fun h => e10 (h.resolve_left (by decide)), fun h => e11 (h.resolve_left (by decide)), fun _ h' => absurd (.inl rfl) h'⟩
        | 7, ho =>
          cases Option.some.inj ho
          refine ⟨rfl, ?_⟩
          have ev : a.tmps[47]?.getD undef = .bool true := by rw [ha, e2 (hd ⟨2, .data⟩ (by simp) rfl)]; kernel_rfl
          have ev' : a.tmps[51]?.getD undef = .bool true := by rw [ha, e6 (hd ⟨6, .data⟩ (by simp) rfl)]; kernel_rfl
          refine wp_value (w' := w') (v := .bool true) (by simp [execOp, ev, ev', go_sem]) ?_
          exact ⟨v45, v46, v47, v48, v49, v50, v51, (.bool true), v53, v54, v55, v4, ca, by rw [ha]; kernel_rfl, hB, fun h => e0 (h.resolve_left (by decide)), fun h => e1 (h.resolve_left (by decide)), fun h => e2 (h.resolve_left (by decide)), fun h => e3 (h.resolve_left (by decide)), fun h => e4 (h.resolve_left (by decide)), fun h => e5 (h.resolve_left (by decide)), fun h => e6 (h.resolve_left (by decide)), fun _ => rfl, fun h => e8 (h.resolve_left (by decide)), fun h => e9 (h.resolve_left (by decide)), fun h => e10 (h.resolve_left (by decide)), fun h => e11 (h.resolve_left (by decide)), fun h h' => hC (h.resolve_left (by decide)) (fun k => h' (.inr k))⟩
        | 8, ho =>
          cases Option.some.inj ho
          refine ⟨rfl, ?_⟩
          have ev : a.tmps[52]?.getD undef = .bool true := by rw [ha, e7 (hd ⟨7, .data⟩ (by simp) rfl)]; kernel_rfl
          refine wp_value (w' := w') (v := .bool true) (by simp [execOp, ev, go_sem]) ?_
          exact ⟨v45, v46, v47, v48, v49, v50, v51, v52, (.bool true), v54, v55, v4, ca, by rw [ha]; kernel_rfl, hB, fun h => e0 (h.resolve_left (by decide)), fun h => e1 (h.resolve_left (by decide)), fun h => e2 (h.resolve_left (by decide)), fun h => e3 (h.resolve_left (by decide)), fun h => e4 (h.resolve_left (by decide)), fun h => e5 (h.resolve_left (by decide)), fun h => e6 (h.resolve_left (by decide)), fun h => e7 (h.resolve_left (by decide)), fun _ => rfl, fun h => e9 (h.resolve_left (by decide)), fun h => e10 (h.resolve_left (by decide)), fun h => e11 (h.resolve_left (by decide)), fun h h' => hC (h.resolve_left (by decide)) (fun k => h' (.inr k))⟩
        | 9, ho =>
          cases Option.some.inj ho
          refine ⟨by rw [ha, e8 (hd ⟨8, .guard⟩ (by simp) rfl)]; kernel_rfl, ?_⟩
          refine wp_enter (f := 7) (args := #[]) (by simp [execOp, go_sem]) ?_
          refine (known_true w').mono ?_
          rintro e w6 ⟨rfl, HB⟩
          refine ⟨_, rfl, ?_⟩
          exact ⟨v45, v46, v47, v48, v49, v50, v51, v52, v53, (.bool true), v55, v4, ca, by rw [ha]; kernel_rfl, below_size hB hB.size HB, fun h => e0 (h.resolve_left (by decide)), fun h => e1 (h.resolve_left (by decide)), fun h => e2 (h.resolve_left (by decide)), fun h => e3 (h.resolve_left (by decide)), fun h => e4 (h.resolve_left (by decide)), fun h => e5 (h.resolve_left (by decide)), fun h => e6 (h.resolve_left (by decide)), fun h => e7 (h.resolve_left (by decide)), fun h => e8 (h.resolve_left (by decide)), fun _ => rfl, fun h => e10 (h.resolve_left (by decide)), fun h => e11 (h.resolve_left (by decide)), fun h h' => (hC (h.resolve_left (by decide)) (fun k => h' (.inr k))).below HB⟩
        | 10, ho =>
          cases Option.some.inj ho
          refine ⟨rfl, ?_⟩
          have ev : a.tmps[53]?.getD undef = .bool true := by rw [ha, e8 (hd ⟨8, .data⟩ (by simp) rfl)]; kernel_rfl
          have ev' : a.tmps[54]?.getD undef = .bool true := by rw [ha, e9 (hd ⟨9, .data⟩ (by simp) rfl)]; kernel_rfl
          refine wp_value (w' := w') (v := .bool true) (by simp [execOp, ev, ev', go_sem]) ?_
          exact ⟨v45, v46, v47, v48, v49, v50, v51, v52, v53, v54, (.bool true), v4, ca, by rw [ha]; kernel_rfl, hB, fun h => e0 (h.resolve_left (by decide)), fun h => e1 (h.resolve_left (by decide)), fun h => e2 (h.resolve_left (by decide)), fun h => e3 (h.resolve_left (by decide)), fun h => e4 (h.resolve_left (by decide)), fun h => e5 (h.resolve_left (by decide)), fun h => e6 (h.resolve_left (by decide)), fun h => e7 (h.resolve_left (by decide)), fun h => e8 (h.resolve_left (by decide)), fun h => e9 (h.resolve_left (by decide)), fun _ => rfl, fun h => e11 (h.resolve_left (by decide)), fun h h' => hC (h.resolve_left (by decide)) (fun k => h' (.inr k))⟩
        | 11, ho =>
          cases Option.some.inj ho
          refine ⟨rfl, ?_⟩
          have ev : a.tmps[55]?.getD undef = .bool true := by rw [ha, e10 (hd ⟨10, .data⟩ (by simp) rfl)]; kernel_rfl
          refine wp_value (w' := w') (v := .bool true) (by simp [execOp, ev, go_sem]) ?_
          exact ⟨v45, v46, v47, v48, v49, v50, v51, v52, v53, v54, v55, (.bool true), ca, by rw [ha]; kernel_rfl, hB, fun h => e0 (h.resolve_left (by decide)), fun h => e1 (h.resolve_left (by decide)), fun h => e2 (h.resolve_left (by decide)), fun h => e3 (h.resolve_left (by decide)), fun h => e4 (h.resolve_left (by decide)), fun h => e5 (h.resolve_left (by decide)), fun h => e6 (h.resolve_left (by decide)), fun h => e7 (h.resolve_left (by decide)), fun h => e8 (h.resolve_left (by decide)), fun h => e9 (h.resolve_left (by decide)), fun h => e10 (h.resolve_left (by decide)), fun _ => rfl, fun h h' => hC (h.resolve_left (by decide)) (fun k => h' (.inr k))⟩
        | i + 12, ho => simp at ho
      case done =>
        rintro D a w' ⟨v45, v46, v47, v48, v49, v50, v51, v52, v53, v54, v55, v4, ca, ha, hB, e0, e1, e2, e3, e4, e5, e6, e7, e8, e9, e10, e11, hC⟩ hall
        obtain rfl := e0 (hall 0 (by decide))
        obtain rfl := e1 (hall 1 (by decide))
        obtain rfl := e2 (hall 2 (by decide))
        obtain rfl := e3 (hall 3 (by decide))
        obtain rfl := e4 (hall 4 (by decide))
        obtain rfl := e5 (hall 5 (by decide))
        obtain rfl := e6 (hall 6 (by decide))
        obtain rfl := e7 (hall 7 (by decide))
        obtain rfl := e8 (hall 8 (by decide))
        obtain rfl := e9 (hall 9 (by decide))
        obtain rfl := e10 (hall 10 (by decide))
        obtain rfl := e11 (hall 11 (by decide))
        clear hC hall e0 e1 e2 e3 e4 e5 e6 e7 e8 e9 e10 e11
        rw [ha]
        clear ha
        simp only [Act.put, List.setIfInBounds_toArray, List.set_cons_zero, List.set_cons_succ]
        go_wp2
        go_ret
        exact ⟨rfl, below_size B4 B4.size hB⟩
end Go.Proofs.Ytkkilenokpoaoaa
