/- RcOrder: the law's walk. -/
import Derived.Test.YtkkilenokpoaoaaTrn
import Derived.Test.YtkkilenokpoaoaaRepA
namespace Go.Proofs.Ytkkilenokpoaoaa
open Go.RowKit
set_option maxRecDepth 100000
theorem OwnP.mono {w : World} {b b' : Nat} {v : Value} {ps : List Pp} (h : OwnP w b' v ps) (hb : b ≤ b') : OwnP w b v ps := ownP_of (own_mono h.1 hb) h.wf
theorem play_order {c : Int} {vs us us2 : List (Int × Int)} {ps qs : List Pp} (hs : c = 14 → Srt vs) (hp : ps.Perm qs) (h1 : playAll c vs ps = some us) (h2 : playAll c vs qs = some us2) : us = us2 := by
  unfold playAll at h1 h2
  by_cases h13 : c = 13
  · rw [if_pos h13] at h1 h2
    exact cnt_order hp h1 h2
  · rw [if_neg h13] at h1 h2
    by_cases h14 : c = 14
    · rw [if_pos h14] at h1 h2
      exact bag_order (hs h14) hp h1 h2
    · rw [if_neg h14] at h1
      cases h1
/-- Each is not greater than the next, up to a place. -/
def Stp (vs : List (Int × Int)) (i : Nat) : Prop := ∀ j a b, j + 1 < i → vs[j]? = some a → vs[j + 1]? = some b → leV a b
theorem Stp.srt {vs : List (Int × Int)} {i : Nat} (h : Stp vs i) (hi : vs.length ≤ i) : Srt vs := srt_of_steps vs fun j a b ha hb => h j a b (by have := (List.getElem?_eq_some_iff.1 hb).1; omega) ha hb
theorem Stp.next {vs : List (Int × Int)} {j : Nat} {a b : Int × Int} (h : Stp vs (j + 1)) (ha : vs[j]? = some a) (hb : vs[j + 1]? = some b) (hl : leV a b) : Stp vs (j + 1 + 1) := by
  intro i x y hi hx hy
  by_cases e : i = j
  · subst e
    rw [ha] at hx
    rw [hb] at hy
    cases hx
    cases hy
    exact hl
  · exact h i x y (by omega) hx hy
/-- What holds ahead of each place that is looked at. -/
def OrdI (vs : List (Int × Int)) (sn : Nat) (w1 : World) (iv : Value) (wr : World) : Prop := ∃ j : Nat, (j + 1 ≤ sn ∨ j = 0) ∧ iv = .int .i64 ((j : Int) + 1) ∧ Stp vs (j + 1) ∧ Below w1.heap.size w1 wr
theorem ordI {vs : List (Int × Int)} {sn : Nat} {w1 wr : World} {iv : Value} (j : Nat) (h1 : j + 1 ≤ sn ∨ j = 0) (h2 : iv = .int .i64 ((j : Int) + 1)) (h3 : Stp vs (j + 1)) (h4 : Below w1.heap.size w1 wr) : OrdI vs sn w1 iv wr := ⟨j, h1, h2, h3, h4⟩
set_option maxHeartbeats 8000000 in
theorem rcOrder_law {w : World} {c : Int} {sa ba pa ta : Option Addr} {sn sc bn bc pn pc tn tc : Nat} {vs : List (Int × Int)} {bs : List Int} {ps : List Pp} {ts : List Int} (hO : IsO w c sa sn sc ba bn bc vs bs) (hsn : sn ≤ 8796093022208) (hbn : bn ≤ 140737488355328) (hP : IsP w pa pn pc ps) (hT : IsI w ta tn ts) :
    Calls Try.prog 4 #[.agg #[.int .i64 c, .slice sa sn sc, .slice ba bn bc], .slice pa pn pc, .slice ta tn tc] w fun e w' => e = .returned (.bool true) ∧ Below w.heap.size w w' := by
  have s1 : Hid (vs.length = sn) := hO.v.size
  have hcl := hO.cls
  have E0 := new1 w (objB c (.slice sa sn sc) (.slice ba bn bc))
  have B0 : Below w.heap.size w (w.alloc (objB c (.slice sa sn sc) (.slice ba bn bc))) := box_below
  have hO1 := hO.below B0
  have hP1 := hP.below B0
  have hT1 := hT.below B0
  unfold objB at E0 B0 hO1 hP1 hT1
  by_cases h100 : 100 < pn
  · have h100' : (100 : Int) < (pn : Int) := by omega
    go_enter Try.func4, Try.ntmps4
    go_wp2_with fail
    refine (known_true _).mono ?_
    rintro e w1 ⟨rfl, B⟩
    go_wp2
    go_ret
    exact ⟨rfl, below_size B0 B0.size B⟩
  have h100' : ¬ (100 : Int) < (pn : Int) := by omega
  have hpn : pn ≤ 100 := by omega
  go_enter Try.func4, Try.ntmps4
  go_wp2_with fail
  generalize w.alloc (.cells #[.int .i64 c, .slice sa sn sc, .slice ba bn bc] 38) = w1 at *
  clear hO hP hT
  go_loopw [7] (fun iv wr => OrdI vs sn w1 iv wr) (fun iv _ => sn - (intOf iv).toNat)
  case atStart => exact ordI 0 (.inr rfl) rfl (fun i x y hi => by omega) (Below.refl _ _)
  case round =>
    obtain ⟨j, hj, rfl, hst, hB1⟩ := hrel
    replace hst : Hid (Stp vs (j + 1)) := hst
    have E3 := (hB1.block _ (lt_of_block E0)).trans E0
    obtain ⟨z0, z1, z2, zf⟩ := obj_cells E3
    have IO := hO1.below hB1
    have IP := hP1.below hB1
    have IT := hT1.below hB1
    have Bw := below_size B0 B0.size hB1
    have hjb : (j : Int) + 1 ≤ 9223372036854775806 := by rcases hj with hj | hj <;> omega
    have hw7 : IntKind.i64.wrap ((j : Int) + 1 + 1) = (j : Int) + 1 + 1 := by rw [IntKind.wrap_i64]; omega
    have hw8 : IntKind.i64.wrap ((j : Int) + 1 - 1) = (j : Int) := by rw [IntKind.wrap_i64]; omega
    by_cases hlt : j + 1 < sn
    · have hltI : (j : Int) + 1 < (sn : Int) := by omega
      by_cases h14 : c = 14
      · obtain ⟨b, off, x0, x1, rfl, hbl, c0, c1, e0, _, _⟩ := IO.v.at_ j (by omega)
        obtain ⟨b', off', y0, y1, eb, _, d0, d1, e1, _, _⟩ := IO.v.at_ (j + 1) hlt
        simp only [Option.some.injEq, Addr.mk.injEq] at eb
        obtain ⟨rfl, rfl, _⟩ := eb
        have htn : ((j : Int) + 1).toNat = j + 1 := by omega
        have hj0 : (0 : Int) ≤ (j : Int) + 1 := by omega
        have hjI : (j : Int) < (sn : Int) := by omega
        have hlb : leV (x0, x1) (y0, y1) ∨ gtV (x0, x1) (y0, y1) = true := by
          by_cases hg : gtV (x0, x1) (y0, y1) = true
          · exact .inr hg
          · exact .inl (leV_of_not hg)
        have Bx := below_size hB1 hB1.size (below_size (box_below (w := wr) (o := .cells #[.int .i64 x0, .int .i64 x1] 60)) box_below.size (box_below (o := .cells #[.int .i64 y0, .int .i64 y1] 60)))
        have Ba : Below wr.heap.size wr (wr.alloc (.cells #[.int .i64 x0, .int .i64 x1] 60)) := box_below
        have z1' := (Ba.cell (p := ⟨w.heap.size, 1, none⟩) (lt_of_cell z1)).trans z1
        have d0' := (Ba.cell (p := ⟨b, off + (j + 1) * 2, none⟩) (lt_of_cell d0)).trans d0
        have d1' := (Ba.cell (p := ⟨b, off + (j + 1) * 2 + 1, none⟩) (lt_of_cell d1)).trans d1
        clear z2 zf hO1 hP1 hT1 IO IP IT
        by_cases hk1 : y0 < x0
        · clear hlb
          go_wp2_with fail
          refine (known_true _).mono ?_
          rintro e w9 ⟨rfl, B9⟩
          go_wp2
          go_ret
          exact ⟨rfl, below_size (below_size B0 B0.size Bx) (Nat.le_trans B0.size Bx.size) B9⟩
        · by_cases hk2 : x0 = y0
          · subst hk2
            by_cases hk3 : y1 < x1
            · clear hlb
              go_wp2_with fail
              refine (known_true _).mono ?_
              rintro e w9 ⟨rfl, B9⟩
              go_wp2
              go_ret
              exact ⟨rfl, below_size (below_size B0 B0.size Bx) (Nat.le_trans B0.size Bx.size) B9⟩
            · have hle : leV (x0, x1) (x0, y1) := .inr ⟨rfl, by simp only; omega⟩
              have hst2 : Hid (Stp vs (j + 1 + 1)) := hst.out.next e0.out e1.out hle
              clear hlb hst hle
              go_wp2
              go_roundw
              case rel => exact ordI (j + 1) (.inl (by omega)) (by go_num) hst2.out Bx
              case measure => simp [intOf]; omega
          · have hle : leV (x0, x1) (y0, y1) := .inl (by simp only; omega)
            have hst2 : Hid (Stp vs (j + 1 + 1)) := hst.out.next e0.out e1.out hle
            clear hlb hst hle
            go_wp2
            go_roundw
            case rel => exact ordI (j + 1) (.inl (by omega)) (by go_num) hst2.out Bx
            case measure => simp [intOf]; omega
      · have hS : Hid (c = 14 → Srt vs) := fun h => absurd h h14
        clear hst hlt hj hjb hw7 hw8
        go_upto_region 10 with fail
        clear z0 z1 z2 zf hB1 hltI
        refine wp_region_inv' (fun A D a w' => ∃ v62 v63 v64 v65 v61 v66 v67 v10 v11 ga gc rc ra rn rp rb rm rq re n10, a = (((((((((A.put (some 62) v62).put (some 63) v63).put (some 64) v64).put (some 65) v65).put (some 61) v61).put (some 66) v66).put (some 67) v67).put (some 10) v10).put (some 11) v11) ∧ Below wr.heap.size wr w' ∧ (D 0 → v62 = .agg #[.int .i64 c, .slice sa sn sc, .slice ba bn bc]) ∧ (D 1 → v63 = .slice pa pn pc) ∧ (D 2 → v64 = .slice ga pn gc) ∧ (D 3 → v65 = .tuple #[.agg #[.int .i64 rc, .slice ra rn rp, .slice rb rm rq], .int .i64 re]) ∧ (D 4 → v61 = .tuple #[.agg #[.int .i64 rc, .slice ra rn rp, .slice rb rm rq], .int .i64 re]) ∧ (D 5 → v66 = .agg #[.int .i64 rc, .slice ra rn rp, .slice rb rm rq]) ∧ (D 6 → v67 = .int .i64 re) ∧ (D 7 → v10 = .pointer (some ⟨n10, 0, none⟩)) ∧ (D 9 → v11 = .int .i64 re) ∧ (D 3 → RF wr.heap.size c bs (playAll c vs ps) w' rc ra rn rp rb rm rq re) ∧ (D 8 → w'.heap[n10]? = some (objB rc (.slice ra rn rp) (.slice rb rm rq))) ∧ (D 2 → ¬ D 3 → OwnP w' wr.heap.size (.slice ga pn gc) ps) ∧ (D 7 → ¬ D 8 → w'.heap[n10]? = some (objB 0 (.slice none 0 0) (.slice none 0 0)) ∧ wr.heap.size ≤ n10)) (by kernel_rfl) (by kernel_rfl) ?mono ?start ?step ?done
        case mono =>
          rintro D D' a w' hD ⟨v62, v63, v64, v65, v61, v66, v67, v10, v11, ga, gc, rc, ra, rn, rp, rb, rm, rq, re, n10, ha, hB, e0, e1, e2, e3, e4, e5, e6, e7, e9, hR, hQ, hG, hN⟩
          exact ⟨v62, v63, v64, v65, v61, v66, v67, v10, v11, ga, gc, rc, ra, rn, rp, rb, rm, rq, re, n10, ha, hB, fun h => e0 ((hD 0).2 h), fun h => e1 ((hD 1).2 h), fun h => e2 ((hD 2).2 h), fun h => e3 ((hD 3).2 h), fun h => e4 ((hD 4).2 h), fun h => e5 ((hD 5).2 h), fun h => e6 ((hD 6).2 h), fun h => e7 ((hD 7).2 h), fun h => e9 ((hD 9).2 h), fun h => hR ((hD 3).2 h), fun h => hQ ((hD 8).2 h), fun h h' => hG ((hD 2).2 h) (fun k => h' ((hD 3).1 k)), fun h h' => hN ((hD 7).2 h) (fun k => h' ((hD 8).1 k))⟩
        case start => exact ⟨undef, undef, undef, undef, undef, undef, undef, undef, undef, none, 0, 0, none, 0, 0, none, 0, 0, 0, 0, by kernel_rfl, (Below.refl _ _).drew, fun h => h.elim, fun h => h.elim, fun h => h.elim, fun h => h.elim, fun h => h.elim, fun h => h.elim, fun h => h.elim, fun h => h.elim, fun h => h.elim, fun h => h.elim, fun h => h.elim, fun h _ => h.elim, fun h _ => h.elim⟩
        case step =>
          intro i o ho D a w' hI hn hcl hd
          obtain ⟨v62, v63, v64, v65, v61, v66, v67, v10, v11, ga, gc, rc, ra, rn, rp, rb, rm, rq, re, n10, ha, hB, e0, e1, e2, e3, e4, e5, e6, e7, e9, hR, hQ, hG, hN⟩ := hI
          match i, ho with
          | 0, ho =>
            cases Option.some.inj ho
            have ev : a.tmps[3]?.getD undef = .pointer (some ⟨w.heap.size, 0, none⟩) := by rw [ha]; kernel_rfl
            obtain ⟨z0, z1, z2, zf⟩ := obj_cells ((hB.block _ (lt_of_block E3)).trans E3)
            refine wp_value (w' := w') (v := .agg #[.int .i64 c, .slice sa sn sc, .slice ba bn bc]) (by simp [execOp, ev, go_sem, z0, z1, z2]) ?_
            exact ⟨(.agg #[.int .i64 c, .slice sa sn sc, .slice ba bn bc]), v63, v64, v65, v61, v66, v67, v10, v11, ga, gc, rc, ra, rn, rp, rb, rm, rq, re, n10, by rw [ha]; kernel_rfl, hB, fun _ => rfl, fun h => e1 (h.resolve_left (by decide)), fun h => e2 (h.resolve_left (by decide)), fun h => e3 (h.resolve_left (by decide)), fun h => e4 (h.resolve_left (by decide)), fun h => e5 (h.resolve_left (by decide)), fun h => e6 (h.resolve_left (by decide)), fun h => e7 (h.resolve_left (by decide)), fun h => e9 (h.resolve_left (by decide)), fun h => hR (h.resolve_left (by decide)), fun h => hQ (h.resolve_left (by decide)), fun h h' => hG (h.resolve_left (by decide)) (fun k => h' (.inr k)), fun h h' => hN (h.resolve_left (by decide)) (fun k => h' (.inr k))⟩
          | 1, ho =>
            cases Option.some.inj ho
            have ev : a.tmps[1]?.getD undef = .slice pa pn pc := by rw [ha]; kernel_rfl
            refine wp_value (w' := w') (v := .slice pa pn pc) (by simp [execOp, ev, go_sem]) ?_
            exact ⟨v62, (.slice pa pn pc), v64, v65, v61, v66, v67, v10, v11, ga, gc, rc, ra, rn, rp, rb, rm, rq, re, n10, by rw [ha]; kernel_rfl, hB, fun h => e0 (h.resolve_left (by decide)), fun _ => rfl, fun h => e2 (h.resolve_left (by decide)), fun h => e3 (h.resolve_left (by decide)), fun h => e4 (h.resolve_left (by decide)), fun h => e5 (h.resolve_left (by decide)), fun h => e6 (h.resolve_left (by decide)), fun h => e7 (h.resolve_left (by decide)), fun h => e9 (h.resolve_left (by decide)), fun h => hR (h.resolve_left (by decide)), fun h => hQ (h.resolve_left (by decide)), fun h h' => hG (h.resolve_left (by decide)) (fun k => h' (.inr k)), fun h h' => hN (h.resolve_left (by decide)) (fun k => h' (.inr k))⟩
          | 2, ho =>
            cases Option.some.inj ho
            have ev : a.tmps[63]?.getD undef = .slice pa pn pc := by rw [ha, e1 (hd ⟨1, .data⟩ (by simp) rfl)]; kernel_rfl
            refine wp_enter (f := 14) (args := #[.slice pa pn pc]) (by simp [execOp, ev, go_sem]) ?_
            refine (given_any (IP.below hB) hpn).mono ?_
            rintro e w6 ⟨ga', gc', rfl, OG, HB⟩
            refine ⟨_, rfl, ?_⟩
            exact ⟨v62, v63, (.slice ga' pn gc'), v65, v61, v66, v67, v10, v11, ga', gc', rc, ra, rn, rp, rb, rm, rq, re, n10, by rw [ha]; kernel_rfl, below_size hB hB.size HB, fun h => e0 (h.resolve_left (by decide)), fun h => e1 (h.resolve_left (by decide)), fun _ => rfl, fun h => e3 (h.resolve_left (by decide)), fun h => e4 (h.resolve_left (by decide)), fun h => e5 (h.resolve_left (by decide)), fun h => e6 (h.resolve_left (by decide)), fun h => e7 (h.resolve_left (by decide)), fun h => e9 (h.resolve_left (by decide)), fun h => absurd (h.resolve_left (by decide)) (fun h => hn (hcl 3 _ rfl h ⟨2, .data⟩ (by simp) rfl)), fun h => absurd (h.resolve_left (by decide)) (fun h => (fun h => (fun h => (fun h => hn (hcl 3 _ rfl h ⟨2, .data⟩ (by simp) rfl)) (hcl 4 _ rfl h ⟨3, .data⟩ (by simp) rfl)) (hcl 5 _ rfl h ⟨4, .data⟩ (by simp) rfl)) (hcl 8 _ rfl h ⟨5, .data⟩ (by simp) rfl)), fun _ _ => OwnP.mono OG hB.size, fun h h' => ⟨(HB.block _ (lt_of_block (hN (h.resolve_left (by decide)) (fun k => h' (.inr k))).1)).trans (hN (h.resolve_left (by decide)) (fun k => h' (.inr k))).1, (hN (h.resolve_left (by decide)) (fun k => h' (.inr k))).2⟩⟩
          | 3, ho =>
            cases Option.some.inj ho
            have ev : a.tmps[62]?.getD undef = .agg #[.int .i64 c, .slice sa sn sc, .slice ba bn bc] := by rw [ha, e0 (hd ⟨0, .data⟩ (by simp) rfl)]; kernel_rfl
            have ev' : a.tmps[64]?.getD undef = .slice ga pn gc := by rw [ha, e2 (hd ⟨2, .data⟩ (by simp) rfl)]; kernel_rfl
            refine wp_enter (f := 20) (args := #[.agg #[.int .i64 c, .slice sa sn sc, .slice ba bn bc], .slice ga pn gc]) (by simp [execOp, ev, ev', go_sem]) ?_
            refine (replay_all (IO.below hB) hsn hbn (hG (hd ⟨2, .data⟩ (by simp) rfl) hn).isP).mono ?_
            rintro e w6 ⟨rc', ra', rn', rp', rb', rm', rq', re', rfl, FR, HB⟩
            refine ⟨_, rfl, ?_⟩
            exact ⟨v62, v63, v64, (.tuple #[.agg #[.int .i64 rc', .slice ra' rn' rp', .slice rb' rm' rq'], .int .i64 re']), v61, v66, v67, v10, v11, ga, gc, rc', ra', rn', rp', rb', rm', rq', re', n10, by rw [ha]; kernel_rfl, below_size hB hB.size HB, fun h => e0 (h.resolve_left (by decide)), fun h => e1 (h.resolve_left (by decide)), fun h => e2 (h.resolve_left (by decide)), fun _ => rfl, fun h => absurd (h.resolve_left (by decide)) (fun h => hn (hcl 4 _ rfl h ⟨3, .data⟩ (by simp) rfl)), fun h => absurd (h.resolve_left (by decide)) (fun h => (fun h => hn (hcl 4 _ rfl h ⟨3, .data⟩ (by simp) rfl)) (hcl 5 _ rfl h ⟨4, .data⟩ (by simp) rfl)), fun h => absurd (h.resolve_left (by decide)) (fun h => (fun h => hn (hcl 4 _ rfl h ⟨3, .data⟩ (by simp) rfl)) (hcl 6 _ rfl h ⟨4, .data⟩ (by simp) rfl)), fun h => e7 (h.resolve_left (by decide)), fun h => absurd (h.resolve_left (by decide)) (fun h => (fun h => (fun h => hn (hcl 4 _ rfl h ⟨3, .data⟩ (by simp) rfl)) (hcl 6 _ rfl h ⟨4, .data⟩ (by simp) rfl)) (hcl 9 _ rfl h ⟨6, .data⟩ (by simp) rfl)), fun _ => FR.mono hB.size, fun h => absurd (h.resolve_left (by decide)) (fun h => (fun h => (fun h => hn (hcl 4 _ rfl h ⟨3, .data⟩ (by simp) rfl)) (hcl 5 _ rfl h ⟨4, .data⟩ (by simp) rfl)) (hcl 8 _ rfl h ⟨5, .data⟩ (by simp) rfl)), fun _ h' => absurd (.inl rfl) h', fun h h' => ⟨(HB.block _ (lt_of_block (hN (h.resolve_left (by decide)) (fun k => h' (.inr k))).1)).trans (hN (h.resolve_left (by decide)) (fun k => h' (.inr k))).1, (hN (h.resolve_left (by decide)) (fun k => h' (.inr k))).2⟩⟩
          | 4, ho =>
            cases Option.some.inj ho
            have ev : a.tmps[65]?.getD undef = .tuple #[.agg #[.int .i64 rc, .slice ra rn rp, .slice rb rm rq], .int .i64 re] := by rw [ha, e3 (hd ⟨3, .data⟩ (by simp) rfl)]; kernel_rfl
            refine wp_value (w' := w') (v := .tuple #[.agg #[.int .i64 rc, .slice ra rn rp, .slice rb rm rq], .int .i64 re]) (by simp [execOp, ev, go_sem]) ?_
            exact ⟨v62, v63, v64, v65, (.tuple #[.agg #[.int .i64 rc, .slice ra rn rp, .slice rb rm rq], .int .i64 re]), v66, v67, v10, v11, ga, gc, rc, ra, rn, rp, rb, rm, rq, re, n10, by rw [ha]; kernel_rfl, hB, fun h => e0 (h.resolve_left (by decide)), fun h => e1 (h.resolve_left (by decide)), fun h => e2 (h.resolve_left (by decide)), fun h => e3 (h.resolve_left (by decide)), fun _ => rfl, fun h => e5 (h.resolve_left (by decide)), fun h => e6 (h.resolve_left (by decide)), fun h => e7 (h.resolve_left (by decide)), fun h => e9 (h.resolve_left (by decide)), fun h => hR (h.resolve_left (by decide)), fun h => hQ (h.resolve_left (by decide)), fun h h' => hG (h.resolve_left (by decide)) (fun k => h' (.inr k)), fun h h' => hN (h.resolve_left (by decide)) (fun k => h' (.inr k))⟩
          | 5, ho =>
            cases Option.some.inj ho
            have ev : a.tmps[61]?.getD undef = .tuple #[.agg #[.int .i64 rc, .slice ra rn rp, .slice rb rm rq], .int .i64 re] := by rw [ha, e4 (hd ⟨4, .data⟩ (by simp) rfl)]; kernel_rfl
            refine wp_value (w' := w') (v := .agg #[.int .i64 rc, .slice ra rn rp, .slice rb rm rq]) (by simp [execOp, ev, go_sem]) ?_
            exact ⟨v62, v63, v64, v65, v61, (.agg #[.int .i64 rc, .slice ra rn rp, .slice rb rm rq]), v67, v10, v11, ga, gc, rc, ra, rn, rp, rb, rm, rq, re, n10, by rw [ha]; kernel_rfl, hB, fun h => e0 (h.resolve_left (by decide)), fun h => e1 (h.resolve_left (by decide)), fun h => e2 (h.resolve_left (by decide)), fun h => e3 (h.resolve_left (by decide)), fun h => e4 (h.resolve_left (by decide)), fun _ => rfl, fun h => e6 (h.resolve_left (by decide)), fun h => e7 (h.resolve_left (by decide)), fun h => e9 (h.resolve_left (by decide)), fun h => hR (h.resolve_left (by decide)), fun h => hQ (h.resolve_left (by decide)), fun h h' => hG (h.resolve_left (by decide)) (fun k => h' (.inr k)), fun h h' => hN (h.resolve_left (by decide)) (fun k => h' (.inr k))⟩
          | 6, ho =>
            cases Option.some.inj ho
            have ev : a.tmps[61]?.getD undef = .tuple #[.agg #[.int .i64 rc, .slice ra rn rp, .slice rb rm rq], .int .i64 re] := by rw [ha, e4 (hd ⟨4, .data⟩ (by simp) rfl)]; kernel_rfl
            refine wp_value (w' := w') (v := .int .i64 re) (by simp [execOp, ev, go_sem]) ?_
            exact ⟨v62, v63, v64, v65, v61, v66, (.int .i64 re), v10, v11, ga, gc, rc, ra, rn, rp, rb, rm, rq, re, n10, by rw [ha]; kernel_rfl, hB, fun h => e0 (h.resolve_left (by decide)), fun h => e1 (h.resolve_left (by decide)), fun h => e2 (h.resolve_left (by decide)), fun h => e3 (h.resolve_left (by decide)), fun h => e4 (h.resolve_left (by decide)), fun h => e5 (h.resolve_left (by decide)), fun _ => rfl, fun h => e7 (h.resolve_left (by decide)), fun h => e9 (h.resolve_left (by decide)), fun h => hR (h.resolve_left (by decide)), fun h => hQ (h.resolve_left (by decide)), fun h h' => hG (h.resolve_left (by decide)) (fun k => h' (.inr k)), fun h h' => hN (h.resolve_left (by decide)) (fun k => h' (.inr k))⟩
          | 7, ho =>
            cases Option.some.inj ho
            refine wp_value (w' := w'.alloc (.cells #[.int .i64 0, .slice none 0 0, .slice none 0 0] 38)) (v := .pointer (some ⟨w'.heap.size, 0, none⟩)) (by simp [execOp, go_sem]) ?_
            exact ⟨v62, v63, v64, v65, v61, v66, v67, (.pointer (some ⟨w'.heap.size, 0, none⟩)), v11, ga, gc, rc, ra, rn, rp, rb, rm, rq, re, w'.heap.size, by rw [ha]; kernel_rfl, below_size hB hB.size box_below, fun h => e0 (h.resolve_left (by decide)), fun h => e1 (h.resolve_left (by decide)), fun h => e2 (h.resolve_left (by decide)), fun h => e3 (h.resolve_left (by decide)), fun h => e4 (h.resolve_left (by decide)), fun h => e5 (h.resolve_left (by decide)), fun h => e6 (h.resolve_left (by decide)), fun _ => rfl, fun h => e9 (h.resolve_left (by decide)), fun h => (hR (h.resolve_left (by decide))).below box_below, fun h => absurd (h.resolve_left (by decide)) (fun h => hn (hcl 8 _ rfl h ⟨7, .data⟩ (by simp) rfl)), fun h h' => (hG (h.resolve_left (by decide)) (fun k => h' (.inr k))).below box_below, fun _ _ => ⟨new1 _ _, hB.size⟩⟩
          | 8, ho =>
            cases Option.some.inj ho
            have ev : a.tmps[10]?.getD undef = .pointer (some ⟨n10, 0, none⟩) := by rw [ha, e7 (hd ⟨7, .data⟩ (by simp) rfl)]; kernel_rfl
            have ev' : a.tmps[66]?.getD undef = .agg #[.int .i64 rc, .slice ra rn rp, .slice rb rm rq] := by rw [ha, e5 (hd ⟨5, .data⟩ (by simp) rfl)]; kernel_rfl
            obtain ⟨E9, hn10⟩ := hN (hd ⟨7, .data⟩ (by simp) rfl) hn
            obtain ⟨z0, z1, z2, zf⟩ := obj_cells E9
            have zf0 := zf 0
            have zf1 := zf 1
            have zf2 := zf 2
            have hD3 : D 3 := hcl 4 _ rfl (hcl 5 _ rfl (hd ⟨5, .data⟩ (by simp) rfl) ⟨4, .data⟩ (by simp) rfl) ⟨3, .data⟩ (by simp) rfl
            refine wp_skip (w' := stO w' n10 rc (.slice ra rn rp) (.slice rb rm rq)) (by simp [execOp, Act.eval, ev, ev', go_sem, z0, z1, z2, zf0, zf1, zf2, stO]) ?_
            exact ⟨v62, v63, v64, v65, v61, v66, v67, v10, v11, ga, gc, rc, ra, rn, rp, rb, rm, rq, re, n10, by rw [ha]; kernel_rfl, stO_below hB hn10 _ _ _, fun h => e0 (h.resolve_left (by decide)), fun h => e1 (h.resolve_left (by decide)), fun h => e2 (h.resolve_left (by decide)), fun h => e3 (h.resolve_left (by decide)), fun h => e4 (h.resolve_left (by decide)), fun h => e5 (h.resolve_left (by decide)), fun h => e6 (h.resolve_left (by decide)), fun h => e7 (h.resolve_left (by decide)), fun h => e9 (h.resolve_left (by decide)), fun _ => (hR hD3).stO E9 _ _ _, fun _ => stO_blk E9 _ _ _, fun _ h' => absurd (.inr hD3) h', fun _ h' => absurd (.inl rfl) h'⟩
          | 9, ho =>
            cases Option.some.inj ho
            have ev : a.tmps[67]?.getD undef = .int .i64 re := by rw [ha, e6 (hd ⟨6, .data⟩ (by simp) rfl)]; kernel_rfl
            refine wp_value (w' := w') (v := .int .i64 re) (by simp [execOp, ev, go_sem]) ?_
            exact ⟨v62, v63, v64, v65, v61, v66, v67, v10, (.int .i64 re), ga, gc, rc, ra, rn, rp, rb, rm, rq, re, n10, by rw [ha]; kernel_rfl, hB, fun h => e0 (h.resolve_left (by decide)), fun h => e1 (h.resolve_left (by decide)), fun h => e2 (h.resolve_left (by decide)), fun h => e3 (h.resolve_left (by decide)), fun h => e4 (h.resolve_left (by decide)), fun h => e5 (h.resolve_left (by decide)), fun h => e6 (h.resolve_left (by decide)), fun h => e7 (h.resolve_left (by decide)), fun _ => rfl, fun h => hR (h.resolve_left (by decide)), fun h => hQ (h.resolve_left (by decide)), fun h h' => hG (h.resolve_left (by decide)) (fun k => h' (.inr k)), fun h h' => hN (h.resolve_left (by decide)) (fun k => h' (.inr k))⟩
          | i + 10, ho => simp at ho
        case done =>
          rintro D a w' ⟨v62, v63, v64, v65, v61, v66, v67, v10, v11, ga, gc, rc, ra, rn, rp, rb, rm, rq, re, n10, ha, hB, e0, e1, e2, e3, e4, e5, e6, e7, e9, hR, hQ, hG, hN⟩ hall
          obtain rfl := e0 (hall 0 (by decide))
          obtain rfl := e1 (hall 1 (by decide))
          obtain rfl := e2 (hall 2 (by decide))
          obtain rfl := e3 (hall 3 (by decide))
          obtain rfl := e4 (hall 4 (by decide))
          obtain rfl := e5 (hall 5 (by decide))
          obtain rfl := e6 (hall 6 (by decide))
          obtain rfl := e7 (hall 7 (by decide))
          obtain rfl := e9 (hall 9 (by decide))
          have FR1 := hR (hall 3 (by decide))
          have E10 := hQ (hall 8 (by decide))
          clear hG hN hR hQ hall e0 e1 e2 e3 e4 e5 e6 e7 e9
          rw [ha]
          clear ha
          simp only [Act.put, List.setIfInBounds_toArray, List.set_cons_zero, List.set_cons_succ]
          have E3b := (hB.block _ (lt_of_block E3)).trans E3
          have IOb := IO.below hB
          have IPb := IP.below hB
          have ITb := IT.below hB
          have B10 := below_size Bw Bw.size hB
          clear E3 IO IP IT hB Bw
          go_upto_region 11 with fail
          have E3 := E3b
          have IO := IOb
          have IP := IPb
          have IT := ITb
          clear E3b IOb IPb ITb
          generalize wr.heap.size = base0 at *
          generalize w' = w10 at *
          clear D a
          refine wp_region_inv' (fun A D a w' => ∃ v69 v70 v71 v72 v73 v74 v68 v75 v76 v12 v13 ga gc qa qc qs xc xa xn xp xb xm xq xe n12, a = (((((((((((A.put (some 69) v69).put (some 70) v70).put (some 71) v71).put (some 72) v72).put (some 73) v73).put (some 74) v74).put (some 68) v68).put (some 75) v75).put (some 76) v76).put (some 12) v12).put (some 13) v13) ∧ Below w10.heap.size w10 w' ∧ (D 0 → v69 = .agg #[.int .i64 c, .slice sa sn sc, .slice ba bn bc]) ∧ (D 1 → v70 = .slice pa pn pc) ∧ (D 2 → v71 = .slice ga pn gc) ∧ (D 3 → v72 = .slice ta tn tc) ∧ (D 4 → v73 = .slice qa pn qc) ∧ (D 5 → v74 = .tuple #[.agg #[.int .i64 xc, .slice xa xn xp, .slice xb xm xq], .int .i64 xe]) ∧ (D 6 → v68 = .tuple #[.agg #[.int .i64 xc, .slice xa xn xp, .slice xb xm xq], .int .i64 xe]) ∧ (D 7 → v75 = .agg #[.int .i64 xc, .slice xa xn xp, .slice xb xm xq]) ∧ (D 8 → v76 = .int .i64 xe) ∧ (D 9 → v12 = .pointer (some ⟨n12, 0, none⟩)) ∧ (D 11 → v13 = .int .i64 xe) ∧ (D 5 → RF w10.heap.size c bs (playAll c vs qs) w' xc xa xn xp xb xm xq xe ∧ qs.Perm ps) ∧ (D 10 → w'.heap[n12]? = some (objB xc (.slice xa xn xp) (.slice xb xm xq))) ∧ (D 2 → ¬ D 4 → OwnP w' w10.heap.size (.slice ga pn gc) ps) ∧ (D 4 → ¬ D 5 → OwnP w' w10.heap.size (.slice qa pn qc) qs ∧ qs.Perm ps) ∧ (D 9 → ¬ D 10 → w'.heap[n12]? = some (objB 0 (.slice none 0 0) (.slice none 0 0)) ∧ w10.heap.size ≤ n12)) (by kernel_rfl) (by kernel_rfl) ?mono ?start ?step ?done
          case mono =>
            rintro D D' a w' hD ⟨v69, v70, v71, v72, v73, v74, v68, v75, v76, v12, v13, ga, gc, qa, qc, qs, xc, xa, xn, xp, xb, xm, xq, xe, n12, ha, hB, e0, e1, e2, e3, e4, e5, e6, e7, e8, e9, e11, hR, hQ, hG, hU, hN⟩
            exact ⟨v69, v70, v71, v72, v73, v74, v68, v75, v76, v12, v13, ga, gc, qa, qc, qs, xc, xa, xn, xp, xb, xm, xq, xe, n12, ha, hB, fun h => e0 ((hD 0).2 h), fun h => e1 ((hD 1).2 h), fun h => e2 ((hD 2).2 h), fun h => e3 ((hD 3).2 h), fun h => e4 ((hD 4).2 h), fun h => e5 ((hD 5).2 h), fun h => e6 ((hD 6).2 h), fun h => e7 ((hD 7).2 h), fun h => e8 ((hD 8).2 h), fun h => e9 ((hD 9).2 h), fun h => e11 ((hD 11).2 h), fun h => hR ((hD 5).2 h), fun h => hQ ((hD 10).2 h), fun h h' => hG ((hD 2).2 h) (fun k => h' ((hD 4).1 k)), fun h h' => hU ((hD 4).2 h) (fun k => h' ((hD 5).1 k)), fun h h' => hN ((hD 9).2 h) (fun k => h' ((hD 10).1 k))⟩
          case start => exact ⟨undef, undef, undef, undef, undef, undef, undef, undef, undef, undef, undef, none, 0, none, 0, ([] : List Pp), 0, none, 0, 0, none, 0, 0, 0, 0, by kernel_rfl, (Below.refl _ _).drew, fun h => h.elim, fun h => h.elim, fun h => h.elim, fun h => h.elim, fun h => h.elim, fun h => h.elim, fun h => h.elim, fun h => h.elim, fun h => h.elim, fun h => h.elim, fun h => h.elim, fun h => h.elim, fun h => h.elim, fun h _ => h.elim, fun h _ => h.elim, fun h _ => h.elim⟩
          case step =>
            intro i o ho D a w' hI hn hcl hd
            obtain ⟨v69, v70, v71, v72, v73, v74, v68, v75, v76, v12, v13, ga, gc, qa, qc, qs, xc, xa, xn, xp, xb, xm, xq, xe, n12, ha, hB, e0, e1, e2, e3, e4, e5, e6, e7, e8, e9, e11, hR, hQ, hG, hU, hN⟩ := hI
            match i, ho with
            | 0, ho =>
              cases Option.some.inj ho
              have ev : a.tmps[3]?.getD undef = .pointer (some ⟨w.heap.size, 0, none⟩) := by rw [ha]; kernel_rfl
              obtain ⟨z0, z1, z2, zf⟩ := obj_cells ((hB.block _ (lt_of_block E3)).trans E3)
              refine wp_value (w' := w') (v := .agg #[.int .i64 c, .slice sa sn sc, .slice ba bn bc]) (by simp [execOp, ev, go_sem, z0, z1, z2]) ?_
              exact ⟨(.agg #[.int .i64 c, .slice sa sn sc, .slice ba bn bc]), v70, v71, v72, v73, v74, v68, v75, v76, v12, v13, ga, gc, qa, qc, qs, xc, xa, xn, xp, xb, xm, xq, xe, n12, by rw [ha]; kernel_rfl, hB, fun _ => rfl, fun h => e1 (h.resolve_left (by decide)), fun h => e2 (h.resolve_left (by decide)), fun h => e3 (h.resolve_left (by decide)), fun h => e4 (h.resolve_left (by decide)), fun h => e5 (h.resolve_left (by decide)), fun h => e6 (h.resolve_left (by decide)), fun h => e7 (h.resolve_left (by decide)), fun h => e8 (h.resolve_left (by decide)), fun h => e9 (h.resolve_left (by decide)), fun h => e11 (h.resolve_left (by decide)), fun h => hR (h.resolve_left (by decide)), fun h => hQ (h.resolve_left (by decide)), fun h h' => hG (h.resolve_left (by decide)) (fun k => h' (.inr k)), fun h h' => hU (h.resolve_left (by decide)) (fun k => h' (.inr k)), fun h h' => hN (h.resolve_left (by decide)) (fun k => h' (.inr k))⟩
            | 1, ho =>
              cases Option.some.inj ho
              have ev : a.tmps[1]?.getD undef = .slice pa pn pc := by rw [ha]; kernel_rfl
              refine wp_value (w' := w') (v := .slice pa pn pc) (by simp [execOp, ev, go_sem]) ?_
              exact ⟨v69, (.slice pa pn pc), v71, v72, v73, v74, v68, v75, v76, v12, v13, ga, gc, qa, qc, qs, xc, xa, xn, xp, xb, xm, xq, xe, n12, by rw [ha]; kernel_rfl, hB, fun h => e0 (h.resolve_left (by decide)), fun _ => rfl, fun h => e2 (h.resolve_left (by decide)), fun h => e3 (h.resolve_left (by decide)), fun h => e4 (h.resolve_left (by decide)), fun h => e5 (h.resolve_left (by decide)), fun h => e6 (h.resolve_left (by decide)), fun h => e7 (h.resolve_left (by decide)), fun h => e8 (h.resolve_left (by decide)), fun h => e9 (h.resolve_left (by decide)), fun h => e11 (h.resolve_left (by decide)), fun h => hR (h.resolve_left (by decide)), fun h => hQ (h.resolve_left (by decide)), fun h h' => hG (h.resolve_left (by decide)) (fun k => h' (.inr k)), fun h h' => hU (h.resolve_left (by decide)) (fun k => h' (.inr k)), fun h h' => hN (h.resolve_left (by decide)) (fun k => h' (.inr k))⟩
            | 2, ho =>
              cases Option.some.inj ho
              have ev : a.tmps[70]?.getD undef = .slice pa pn pc := by rw [ha, e1 (hd ⟨1, .data⟩ (by simp) rfl)]; kernel_rfl
              refine wp_enter (f := 14) (args := #[.slice pa pn pc]) (by simp [execOp, ev, go_sem]) ?_
              refine (given_any (IP.below hB) hpn).mono ?_
              rintro e w6 ⟨ga', gc', rfl, OG, HB⟩
              refine ⟨_, rfl, ?_⟩
              exact ⟨v69, v70, (.slice ga' pn gc'), v72, v73, v74, v68, v75, v76, v12, v13, ga', gc', qa, qc, qs, xc, xa, xn, xp, xb, xm, xq, xe, n12, by rw [ha]; kernel_rfl, below_size hB hB.size HB, fun h => e0 (h.resolve_left (by decide)), fun h => e1 (h.resolve_left (by decide)), fun _ => rfl, fun h => e3 (h.resolve_left (by decide)), fun h => e4 (h.resolve_left (by decide)), fun h => e5 (h.resolve_left (by decide)), fun h => e6 (h.resolve_left (by decide)), fun h => e7 (h.resolve_left (by decide)), fun h => e8 (h.resolve_left (by decide)), fun h => e9 (h.resolve_left (by decide)), fun h => e11 (h.resolve_left (by decide)), fun h => absurd (h.resolve_left (by decide)) (fun h => (fun h => hn (hcl 4 _ rfl h ⟨2, .data⟩ (by simp) rfl)) (hcl 5 _ rfl h ⟨4, .data⟩ (by simp) rfl)), fun h => absurd (h.resolve_left (by decide)) (fun h => (fun h => (fun h => (fun h => (fun h => hn (hcl 4 _ rfl h ⟨2, .data⟩ (by simp) rfl)) (hcl 5 _ rfl h ⟨4, .data⟩ (by simp) rfl)) (hcl 6 _ rfl h ⟨5, .data⟩ (by simp) rfl)) (hcl 7 _ rfl h ⟨6, .data⟩ (by simp) rfl)) (hcl 10 _ rfl h ⟨7, .data⟩ (by simp) rfl)), fun _ _ => OwnP.mono OG hB.size, fun h _ => absurd (h.resolve_left (by decide)) (fun h => hn (hcl 4 _ rfl h ⟨2, .data⟩ (by simp) rfl)), fun h h' => ⟨(HB.block _ (lt_of_block (hN (h.resolve_left (by decide)) (fun k => h' (.inr k))).1)).trans (hN (h.resolve_left (by decide)) (fun k => h' (.inr k))).1, (hN (h.resolve_left (by decide)) (fun k => h' (.inr k))).2⟩⟩
            | 3, ho =>
              cases Option.some.inj ho
              have ev : a.tmps[2]?.getD undef = .slice ta tn tc := by rw [ha]; kernel_rfl
              refine wp_value (w' := w') (v := .slice ta tn tc) (by simp [execOp, ev, go_sem]) ?_
              exact ⟨v69, v70, v71, (.slice ta tn tc), v73, v74, v68, v75, v76, v12, v13, ga, gc, qa, qc, qs, xc, xa, xn, xp, xb, xm, xq, xe, n12, by rw [ha]; kernel_rfl, hB, fun h => e0 (h.resolve_left (by decide)), fun h => e1 (h.resolve_left (by decide)), fun h => e2 (h.resolve_left (by decide)), fun _ => rfl, fun h => e4 (h.resolve_left (by decide)), fun h => e5 (h.resolve_left (by decide)), fun h => e6 (h.resolve_left (by decide)), fun h => e7 (h.resolve_left (by decide)), fun h => e8 (h.resolve_left (by decide)), fun h => e9 (h.resolve_left (by decide)), fun h => e11 (h.resolve_left (by decide)), fun h => hR (h.resolve_left (by decide)), fun h => hQ (h.resolve_left (by decide)), fun h h' => hG (h.resolve_left (by decide)) (fun k => h' (.inr k)), fun h h' => hU (h.resolve_left (by decide)) (fun k => h' (.inr k)), fun h h' => hN (h.resolve_left (by decide)) (fun k => h' (.inr k))⟩
            | 4, ho =>
              cases Option.some.inj ho
              have ev : a.tmps[71]?.getD undef = .slice ga pn gc := by rw [ha, e2 (hd ⟨2, .data⟩ (by simp) rfl)]; kernel_rfl
              have ev' : a.tmps[72]?.getD undef = .slice ta tn tc := by rw [ha, e3 (hd ⟨3, .data⟩ (by simp) rfl)]; kernel_rfl
              refine wp_enter (f := 21) (args := #[.slice ga pn gc, .slice ta tn tc]) (by simp [execOp, ev, ev', go_sem]) ?_
              refine (turned_any (tc := tc) (hG (hd ⟨2, .data⟩ (by simp) rfl) hn).isP hpn (IT.below hB)).mono ?_
              rintro e w6 ⟨qa', qc', qs', rfl, OQ, PQ, HB⟩
              refine ⟨_, rfl, ?_⟩
              exact ⟨v69, v70, v71, v72, (.slice qa' pn qc'), v74, v68, v75, v76, v12, v13, ga, gc, qa', qc', qs', xc, xa, xn, xp, xb, xm, xq, xe, n12, by rw [ha]; kernel_rfl, below_size hB hB.size HB, fun h => e0 (h.resolve_left (by decide)), fun h => e1 (h.resolve_left (by decide)), fun h => e2 (h.resolve_left (by decide)), fun h => e3 (h.resolve_left (by decide)), fun _ => rfl, fun h => e5 (h.resolve_left (by decide)), fun h => e6 (h.resolve_left (by decide)), fun h => e7 (h.resolve_left (by decide)), fun h => e8 (h.resolve_left (by decide)), fun h => e9 (h.resolve_left (by decide)), fun h => e11 (h.resolve_left (by decide)), fun h => absurd (h.resolve_left (by decide)) (fun h => hn (hcl 5 _ rfl h ⟨4, .data⟩ (by simp) rfl)), fun h => absurd (h.resolve_left (by decide)) (fun h => (fun h => (fun h => (fun h => hn (hcl 5 _ rfl h ⟨4, .data⟩ (by simp) rfl)) (hcl 6 _ rfl h ⟨5, .data⟩ (by simp) rfl)) (hcl 7 _ rfl h ⟨6, .data⟩ (by simp) rfl)) (hcl 10 _ rfl h ⟨7, .data⟩ (by simp) rfl)), fun _ h' => absurd (.inl rfl) h', fun _ _ => ⟨OwnP.mono OQ hB.size, PQ⟩, fun h h' => ⟨(HB.block _ (lt_of_block (hN (h.resolve_left (by decide)) (fun k => h' (.inr k))).1)).trans (hN (h.resolve_left (by decide)) (fun k => h' (.inr k))).1, (hN (h.resolve_left (by decide)) (fun k => h' (.inr k))).2⟩⟩
            | 5, ho =>
              cases Option.some.inj ho
              have ev : a.tmps[69]?.getD undef = .agg #[.int .i64 c, .slice sa sn sc, .slice ba bn bc] := by rw [ha, e0 (hd ⟨0, .data⟩ (by simp) rfl)]; kernel_rfl
              have ev' : a.tmps[73]?.getD undef = .slice qa pn qc := by rw [ha, e4 (hd ⟨4, .data⟩ (by simp) rfl)]; kernel_rfl
              refine wp_enter (f := 20) (args := #[.agg #[.int .i64 c, .slice sa sn sc, .slice ba bn bc], .slice qa pn qc]) (by simp [execOp, ev, ev', go_sem]) ?_
              refine (replay_all (IO.below hB) hsn hbn (hU (hd ⟨4, .data⟩ (by simp) rfl) hn).1.isP).mono ?_
              rintro e w6 ⟨xc', xa', xn', xp', xb', xm', xq', xe', rfl, FR, HB⟩
              refine ⟨_, rfl, ?_⟩
              exact ⟨v69, v70, v71, v72, v73, (.tuple #[.agg #[.int .i64 xc', .slice xa' xn' xp', .slice xb' xm' xq'], .int .i64 xe']), v68, v75, v76, v12, v13, ga, gc, qa, qc, qs, xc', xa', xn', xp', xb', xm', xq', xe', n12, by rw [ha]; kernel_rfl, below_size hB hB.size HB, fun h => e0 (h.resolve_left (by decide)), fun h => e1 (h.resolve_left (by decide)), fun h => e2 (h.resolve_left (by decide)), fun h => e3 (h.resolve_left (by decide)), fun h => e4 (h.resolve_left (by decide)), fun _ => rfl, fun h => absurd (h.resolve_left (by decide)) (fun h => hn (hcl 6 _ rfl h ⟨5, .data⟩ (by simp) rfl)), fun h => absurd (h.resolve_left (by decide)) (fun h => (fun h => hn (hcl 6 _ rfl h ⟨5, .data⟩ (by simp) rfl)) (hcl 7 _ rfl h ⟨6, .data⟩ (by simp) rfl)), fun h => absurd (h.resolve_left (by decide)) (fun h => (fun h => hn (hcl 6 _ rfl h ⟨5, .data⟩ (by simp) rfl)) (hcl 8 _ rfl h ⟨6, .data⟩ (by simp) rfl)), fun h => e9 (h.resolve_left (by decide)), fun h => absurd (h.resolve_left (by decide)) (fun h => (fun h => (fun h => hn (hcl 6 _ rfl h ⟨5, .data⟩ (by simp) rfl)) (hcl 8 _ rfl h ⟨6, .data⟩ (by simp) rfl)) (hcl 11 _ rfl h ⟨8, .data⟩ (by simp) rfl)), fun _ => ⟨FR.mono hB.size, (hU (hd ⟨4, .data⟩ (by simp) rfl) hn).2⟩, fun h => absurd (h.resolve_left (by decide)) (fun h => (fun h => (fun h => hn (hcl 6 _ rfl h ⟨5, .data⟩ (by simp) rfl)) (hcl 7 _ rfl h ⟨6, .data⟩ (by simp) rfl)) (hcl 10 _ rfl h ⟨7, .data⟩ (by simp) rfl)), fun _ h' => absurd (.inr (hd ⟨4, .data⟩ (by simp) rfl)) h', fun _ h' => absurd (.inl rfl) h', fun h h' => ⟨(HB.block _ (lt_of_block (hN (h.resolve_left (by decide)) (fun k => h' (.inr k))).1)).trans (hN (h.resolve_left (by decide)) (fun k => h' (.inr k))).1, (hN (h.resolve_left (by decide)) (fun k => h' (.inr k))).2⟩⟩
            | 6, ho =>
              cases Option.some.inj ho
              have ev : a.tmps[74]?.getD undef = .tuple #[.agg #[.int .i64 xc, .slice xa xn xp, .slice xb xm xq], .int .i64 xe] := by rw [ha, e5 (hd ⟨5, .data⟩ (by simp) rfl)]; kernel_rfl
              refine wp_value (w' := w') (v := .tuple #[.agg #[.int .i64 xc, .slice xa xn xp, .slice xb xm xq], .int .i64 xe]) (by simp [execOp, ev, go_sem]) ?_
              exact ⟨v69, v70, v71, v72, v73, v74, (.tuple #[.agg #[.int .i64 xc, .slice xa xn xp, .slice xb xm xq], .int .i64 xe]), v75, v76, v12, v13, ga, gc, qa, qc, qs, xc, xa, xn, xp, xb, xm, xq, xe, n12, by rw [ha]; kernel_rfl, hB, fun h => e0 (h.resolve_left (by decide)), fun h => e1 (h.resolve_left (by decide)), fun h => e2 (h.resolve_left (by decide)), fun h => e3 (h.resolve_left (by decide)), fun h => e4 (h.resolve_left (by decide)), fun h => e5 (h.resolve_left (by decide)), fun _ => rfl, fun h => e7 (h.resolve_left (by decide)), fun h => e8 (h.resolve_left (by decide)), fun h => e9 (h.resolve_left (by decide)), fun h => e11 (h.resolve_left (by decide)), fun h => hR (h.resolve_left (by decide)), fun h => hQ (h.resolve_left (by decide)), fun h h' => hG (h.resolve_left (by decide)) (fun k => h' (.inr k)), fun h h' => hU (h.resolve_left (by decide)) (fun k => h' (.inr k)), fun h h' => hN (h.resolve_left (by decide)) (fun k => h' (.inr k))⟩
            | 7, ho =>
              cases Option.some.inj ho
              have ev : a.tmps[68]?.getD undef = .tuple #[.agg #[.int .i64 xc, .slice xa xn xp, .slice xb xm xq], .int .i64 xe] := by rw [ha, e6 (hd ⟨6, .data⟩ (by simp) rfl)]; kernel_rfl
              refine wp_value (w' := w') (v := .agg #[.int .i64 xc, .slice xa xn xp, .slice xb xm xq]) (by simp [execOp, ev, go_sem]) ?_
              exact ⟨v69, v70, v71, v72, v73, v74, v68, (.agg #[.int .i64 xc, .slice xa xn xp, .slice xb xm xq]), v76, v12, v13, ga, gc, qa, qc, qs, xc, xa, xn, xp, xb, xm, xq, xe, n12, by rw [ha]; kernel_rfl, hB, fun h => e0 (h.resolve_left (by decide)), fun h => e1 (h.resolve_left (by decide)), fun h => e2 (h.resolve_left (by decide)), fun h => e3 (h.resolve_left (by decide)), fun h => e4 (h.resolve_left (by decide)), fun h => e5 (h.resolve_left (by decide)), fun h => e6 (h.resolve_left (by decide)), fun _ => rfl, fun h => e8 (h.resolve_left (by decide)), fun h => e9 (h.resolve_left (by decide)), fun h => e11 (h.resolve_left (by decide)), fun h => hR (h.resolve_left (by decide)), fun h => hQ (h.resolve_left (by decide)), fun h h' => hG (h.resolve_left (by decide)) (fun k => h' (.inr k)), fun h h' => hU (h.resolve_left (by decide)) (fun k => h' (.inr k)), fun h h' => hN (h.resolve_left (by decide)) (fun k => h' (.inr k))⟩
            | 8, ho =>
              cases Option.some.inj ho
              have ev : a.tmps[68]?.getD undef = .tuple #[.agg #[.int .i64 xc, .slice xa xn xp, .slice xb xm xq], .int .i64 xe] := by rw [ha, e6 (hd ⟨6, .data⟩ (by simp) rfl)]; kernel_rfl
              refine wp_value (w' := w') (v := .int .i64 xe) (by simp [execOp, ev, go_sem]) ?_
              exact ⟨v69, v70, v71, v72, v73, v74, v68, v75, (.int .i64 xe), v12, v13, ga, gc, qa, qc, qs, xc, xa, xn, xp, xb, xm, xq, xe, n12, by rw [ha]; kernel_rfl, hB, fun h => e0 (h.resolve_left (by decide)), fun h => e1 (h.resolve_left (by decide)), fun h => e2 (h.resolve_left (by decide)), fun h => e3 (h.resolve_left (by decide)), fun h => e4 (h.resolve_left (by decide)), fun h => e5 (h.resolve_left (by decide)), fun h => e6 (h.resolve_left (by decide)), fun h => e7 (h.resolve_left (by decide)), fun _ => rfl, fun h => e9 (h.resolve_left (by decide)), fun h => e11 (h.resolve_left (by decide)), fun h => hR (h.resolve_left (by decide)), fun h => hQ (h.resolve_left (by decide)), fun h h' => hG (h.resolve_left (by decide)) (fun k => h' (.inr k)), fun h h' => hU (h.resolve_left (by decide)) (fun k => h' (.inr k)), fun h h' => hN (h.resolve_left (by decide)) (fun k => h' (.inr k))⟩
            | 9, ho =>
              cases Option.some.inj ho
              refine wp_value (w' := w'.alloc (.cells #[.int .i64 0, .slice none 0 0, .slice none 0 0] 38)) (v := .pointer (some ⟨w'.heap.size, 0, none⟩)) (by simp [execOp, go_sem]) ?_
              exact ⟨v69, v70, v71, v72, v73, v74, v68, v75, v76, (.pointer (some ⟨w'.heap.size, 0, none⟩)), v13, ga, gc, qa, qc, qs, xc, xa, xn, xp, xb, xm, xq, xe, w'.heap.size, by rw [ha]; kernel_rfl, below_size hB hB.size box_below, fun h => e0 (h.resolve_left (by decide)), fun h => e1 (h.resolve_left (by decide)), fun h => e2 (h.resolve_left (by decide)), fun h => e3 (h.resolve_left (by decide)), fun h => e4 (h.resolve_left (by decide)), fun h => e5 (h.resolve_left (by decide)), fun h => e6 (h.resolve_left (by decide)), fun h => e7 (h.resolve_left (by decide)), fun h => e8 (h.resolve_left (by decide)), fun _ => rfl, fun h => e11 (h.resolve_left (by decide)), fun h => ⟨(hR (h.resolve_left (by decide))).1.below box_below, (hR (h.resolve_left (by decide))).2⟩, fun h => absurd (h.resolve_left (by decide)) (fun h => hn (hcl 10 _ rfl h ⟨9, .data⟩ (by simp) rfl)), fun h h' => (hG (h.resolve_left (by decide)) (fun k => h' (.inr k))).below box_below, fun h h' => ⟨(hU (h.resolve_left (by decide)) (fun k => h' (.inr k))).1.below box_below, (hU (h.resolve_left (by decide)) (fun k => h' (.inr k))).2⟩, fun _ _ => ⟨new1 _ _, hB.size⟩⟩
            | 10, ho =>
              cases Option.some.inj ho
              have ev : a.tmps[12]?.getD undef = .pointer (some ⟨n12, 0, none⟩) := by rw [ha, e9 (hd ⟨9, .data⟩ (by simp) rfl)]; kernel_rfl
              have ev' : a.tmps[75]?.getD undef = .agg #[.int .i64 xc, .slice xa xn xp, .slice xb xm xq] := by rw [ha, e7 (hd ⟨7, .data⟩ (by simp) rfl)]; kernel_rfl
              obtain ⟨E9, hn12⟩ := hN (hd ⟨9, .data⟩ (by simp) rfl) hn
              obtain ⟨z0, z1, z2, zf⟩ := obj_cells E9
              have zf0 := zf 0
              have zf1 := zf 1
              have zf2 := zf 2
              have hD5 : D 5 := hcl 6 _ rfl (hcl 7 _ rfl (hd ⟨7, .data⟩ (by simp) rfl) ⟨6, .data⟩ (by simp) rfl) ⟨5, .data⟩ (by simp) rfl
              have hD4 : D 4 := hcl 5 _ rfl hD5 ⟨4, .data⟩ (by simp) rfl
              refine wp_skip (w' := stO w' n12 xc (.slice xa xn xp) (.slice xb xm xq)) (by simp [execOp, Act.eval, ev, ev', go_sem, z0, z1, z2, zf0, zf1, zf2, stO]) ?_
              exact ⟨v69, v70, v71, v72, v73, v74, v68, v75, v76, v12, v13, ga, gc, qa, qc, qs, xc, xa, xn, xp, xb, xm, xq, xe, n12, by rw [ha]; kernel_rfl, stO_below hB hn12 _ _ _, fun h => e0 (h.resolve_left (by decide)), fun h => e1 (h.resolve_left (by decide)), fun h => e2 (h.resolve_left (by decide)), fun h => e3 (h.resolve_left (by decide)), fun h => e4 (h.resolve_left (by decide)), fun h => e5 (h.resolve_left (by decide)), fun h => e6 (h.resolve_left (by decide)), fun h => e7 (h.resolve_left (by decide)), fun h => e8 (h.resolve_left (by decide)), fun h => e9 (h.resolve_left (by decide)), fun h => e11 (h.resolve_left (by decide)), fun _ => ⟨(hR hD5).1.stO E9 _ _ _, (hR hD5).2⟩, fun _ => stO_blk E9 _ _ _, fun _ h' => absurd (.inr hD4) h', fun _ h' => absurd (.inr hD5) h', fun _ h' => absurd (.inl rfl) h'⟩
            | 11, ho =>
              cases Option.some.inj ho
              have ev : a.tmps[76]?.getD undef = .int .i64 xe := by rw [ha, e8 (hd ⟨8, .data⟩ (by simp) rfl)]; kernel_rfl
              refine wp_value (w' := w') (v := .int .i64 xe) (by simp [execOp, ev, go_sem]) ?_
              exact ⟨v69, v70, v71, v72, v73, v74, v68, v75, v76, v12, (.int .i64 xe), ga, gc, qa, qc, qs, xc, xa, xn, xp, xb, xm, xq, xe, n12, by rw [ha]; kernel_rfl, hB, fun h => e0 (h.resolve_left (by decide)), fun h => e1 (h.resolve_left (by decide)), fun h => e2 (h.resolve_left (by decide)), fun h => e3 (h.resolve_left (by decide)), fun h => e4 (h.resolve_left (by decide)), fun h => e5 (h.resolve_left (by decide)), fun h => e6 (h.resolve_left (by decide)), fun h => e7 (h.resolve_left (by decide)), fun h => e8 (h.resolve_left (by decide)), fun h => e9 (h.resolve_left (by decide)), fun _ => rfl, fun h => hR (h.resolve_left (by decide)), fun h => hQ (h.resolve_left (by decide)), fun h h' => hG (h.resolve_left (by decide)) (fun k => h' (.inr k)), fun h h' => hU (h.resolve_left (by decide)) (fun k => h' (.inr k)), fun h h' => hN (h.resolve_left (by decide)) (fun k => h' (.inr k))⟩
            | i + 12, ho => simp at ho
          case done =>
            rintro D a w' ⟨v69, v70, v71, v72, v73, v74, v68, v75, v76, v12, v13, ga, gc, qa, qc, qs, xc, xa, xn, xp, xb, xm, xq, xe, n12, ha, hB, e0, e1, e2, e3, e4, e5, e6, e7, e8, e9, e11, hR, hQ, hG, hU, hN⟩ hall
            obtain rfl := e0 (hall 0 (by decide))
            obtain rfl := e1 (hall 1 (by decide))
            obtain rfl := e2 (hall 2 (by decide))
            obtain rfl := e3 (hall 3 (by decide))
            obtain rfl := e4 (hall 4 (by decide))
            obtain rfl := e5 (hall 5 (by decide))
            obtain rfl := e6 (hall 6 (by decide))
            obtain rfl := e7 (hall 7 (by decide))
            obtain rfl := e8 (hall 8 (by decide))
            obtain rfl := e9 (hall 9 (by decide))
            obtain rfl := e11 (hall 11 (by decide))
            obtain ⟨FR2, hperm⟩ := hR (hall 5 (by decide))
            have E12 := hQ (hall 10 (by decide))
            clear hG hN hR hU hQ hall e0 e1 e2 e3 e4 e5 e6 e7 e8 e9 e11
            rw [ha]
            clear ha
            simp only [Act.put, List.setIfInBounds_toArray, List.set_cons_zero, List.set_cons_succ]
            have E10b := (hB.block _ (lt_of_block E10)).trans E10
            have FR1b := FR1.below hB
            have B12 := below_size B10 B10.size hB
            clear E10 FR1 hB B10 E3 IO IP IT
            generalize w' = w12 at *
            clear D a
            rcases FR1b with rfl | ⟨rfl, hc1, us, hR1, OV1, OB1⟩
            · go_wp2_with fail
              refine (known_true _).mono ?_
              rintro e w9 ⟨rfl, B9⟩
              go_wp2
              go_ret
              exact ⟨rfl, below_size B12 B12.size B9⟩
            · obtain rfl : c = rc := hc1.symm
              rcases FR2 with rfl | ⟨rfl, hc2, us2, hR2, OV2, OB2⟩
              · go_wp2_with fail
                refine (known_true _).mono ?_
                rintro e w9 ⟨rfl, B9⟩
                go_wp2
                go_ret
                exact ⟨rfl, below_size B12 B12.size B9⟩
              · obtain rfl : c = xc := hc2.symm
                have hus : us = us2 := play_order hS.out hperm.symm hR1 hR2
                subst hus
                obtain ⟨y0, y1, y2, yf⟩ := obj_cells E10b
                obtain ⟨z0, z1, z2, zf⟩ := obj_cells E12
                have hsm := same_yes (c := c) ⟨hcl, OV1.isV, OB1.isB⟩ ⟨hcl, OV2.isV, OB2.isB⟩
                clear E10b E12 OV1 OB1 OV2 OB2 hR1 hR2
                go_wp2_with fail
                refine hsm.mono ?_
                rintro e w9 ⟨rfl, B9⟩
                have B13 := below_size B12 B12.size B9
                clear y0 y1 y2 yf z0 z1 z2 zf
                go_wp2_with fail
                refine (known_true _).mono ?_
                rintro e w10 ⟨rfl, B14⟩
                go_wp2
                go_ret
                exact ⟨rfl, below_size B13 B13.size B14⟩
    · have hge : ¬ (j : Int) + 1 < (sn : Int) := by omega
      have hS : Hid (c = 14 → Srt vs) := fun _ => hst.out.srt (by rw [s1.out]; omega)
      clear hst hlt hj hjb hw7 hw8
      go_upto_region 10 with fail
      clear z0 z1 z2 zf hB1 hge
      refine wp_region_inv' (fun A D a w' => ∃ v62 v63 v64 v65 v61 v66 v67 v10 v11 ga gc rc ra rn rp rb rm rq re n10, a = (((((((((A.put (some 62) v62).put (some 63) v63).put (some 64) v64).put (some 65) v65).put (some 61) v61).put (some 66) v66).put (some 67) v67).put (some 10) v10).put (some 11) v11) ∧ Below wr.heap.size wr w' ∧ (D 0 → v62 = .agg #[.int .i64 c, .slice sa sn sc, .slice ba bn bc]) ∧ (D 1 → v63 = .slice pa pn pc) ∧ (D 2 → v64 = .slice ga pn gc) ∧ (D 3 → v65 = .tuple #[.agg #[.int .i64 rc, .slice ra rn rp, .slice rb rm rq], .int .i64 re]) ∧ (D 4 → v61 = .tuple #[.agg #[.int .i64 rc, .slice ra rn rp, .slice rb rm rq], .int .i64 re]) ∧ (D 5 → v66 = .agg #[.int .i64 rc, .slice ra rn rp, .slice rb rm rq]) ∧ (D 6 → v67 = .int .i64 re) ∧ (D 7 → v10 = .pointer (some ⟨n10, 0, none⟩)) ∧ (D 9 → v11 = .int .i64 re) ∧ (D 3 → RF wr.heap.size c bs (playAll c vs ps) w' rc ra rn rp rb rm rq re) ∧ (D 8 → w'.heap[n10]? = some (objB rc (.slice ra rn rp) (.slice rb rm rq))) ∧ (D 2 → ¬ D 3 → OwnP w' wr.heap.size (.slice ga pn gc) ps) ∧ (D 7 → ¬ D 8 → w'.heap[n10]? = some (objB 0 (.slice none 0 0) (.slice none 0 0)) ∧ wr.heap.size ≤ n10)) (by kernel_rfl) (by kernel_rfl) ?mono ?start ?step ?done
      case mono =>
        rintro D D' a w' hD ⟨v62, v63, v64, v65, v61, v66, v67, v10, v11, ga, gc, rc, ra, rn, rp, rb, rm, rq, re, n10, ha, hB, e0, e1, e2, e3, e4, e5, e6, e7, e9, hR, hQ, hG, hN⟩
        exact ⟨v62, v63, v64, v65, v61, v66, v67, v10, v11, ga, gc, rc, ra, rn, rp, rb, rm, rq, re, n10, ha, hB, fun h => e0 ((hD 0).2 h), fun h => e1 ((hD 1).2 h), fun h => e2 ((hD 2).2 h), fun h => e3 ((hD 3).2 h), fun h => e4 ((hD 4).2 h), fun h => e5 ((hD 5).2 h), fun h => e6 ((hD 6).2 h), fun h => e7 ((hD 7).2 h), fun h => e9 ((hD 9).2 h), fun h => hR ((hD 3).2 h), fun h => hQ ((hD 8).2 h), fun h h' => hG ((hD 2).2 h) (fun k => h' ((hD 3).1 k)), fun h h' => hN ((hD 7).2 h) (fun k => h' ((hD 8).1 k))⟩
      case start => exact ⟨undef, undef, undef, undef, undef, undef, undef, undef, undef, none, 0, 0, none, 0, 0, none, 0, 0, 0, 0, by kernel_rfl, (Below.refl _ _).drew, fun h => h.elim, fun h => h.elim, fun h => h.elim, fun h => h.elim, fun h => h.elim, fun h => h.elim, fun h => h.elim, fun h => h.elim, fun h => h.elim, fun h => h.elim, fun h => h.elim, fun h _ => h.elim, fun h _ => h.elim⟩
      case step =>
        intro i o ho D a w' hI hn hcl hd
        obtain ⟨v62, v63, v64, v65, v61, v66, v67, v10, v11, ga, gc, rc, ra, rn, rp, rb, rm, rq, re, n10, ha, hB, e0, e1, e2, e3, e4, e5, e6, e7, e9, hR, hQ, hG, hN⟩ := hI
        match i, ho with
        | 0, ho =>
          cases Option.some.inj ho
          have ev : a.tmps[3]?.getD undef = .pointer (some ⟨w.heap.size, 0, none⟩) := by rw [ha]; kernel_rfl
          obtain ⟨z0, z1, z2, zf⟩ := obj_cells ((hB.block _ (lt_of_block E3)).trans E3)
          refine wp_value (w' := w') (v := .agg #[.int .i64 c, .slice sa sn sc, .slice ba bn bc]) (by simp [execOp, ev, go_sem, z0, z1, z2]) ?_
          exact ⟨(.agg #[.int .i64 c, .slice sa sn sc, .slice ba bn bc]), v63, v64, v65, v61, v66, v67, v10, v11, ga, gc, rc, ra, rn, rp, rb, rm, rq, re, n10, by rw [ha]; kernel_rfl, hB, fun _ => rfl, fun h => e1 (h.resolve_left (by decide)), fun h => e2 (h.resolve_left (by decide)), fun h => e3 (h.resolve_left (by decide)), fun h => e4 (h.resolve_left (by decide)), fun h => e5 (h.resolve_left (by decide)), fun h => e6 (h.resolve_left (by decide)), fun h => e7 (h.resolve_left (by decide)), fun h => e9 (h.resolve_left (by decide)), fun h => hR (h.resolve_left (by decide)), fun h => hQ (h.resolve_left (by decide)), fun h h' => hG (h.resolve_left (by decide)) (fun k => h' (.inr k)), fun h h' => hN (h.resolve_left (by decide)) (fun k => h' (.inr k))⟩
        | 1, ho =>
          cases Option.some.inj ho
          have ev : a.tmps[1]?.getD undef = .slice pa pn pc := by rw [ha]; kernel_rfl
          refine wp_value (w' := w') (v := .slice pa pn pc) (by simp [execOp, ev, go_sem]) ?_
          exact ⟨v62, (.slice pa pn pc), v64, v65, v61, v66, v67, v10, v11, ga, gc, rc, ra, rn, rp, rb, rm, rq, re, n10, by rw [ha]; kernel_rfl, hB, fun h => e0 (h.resolve_left (by decide)), fun _ => rfl, fun h => e2 (h.resolve_left (by decide)), fun h => e3 (h.resolve_left (by decide)), fun h => e4 (h.resolve_left (by decide)), fun h => e5 (h.resolve_left (by decide)), fun h => e6 (h.resolve_left (by decide)), fun h => e7 (h.resolve_left (by decide)), fun h => e9 (h.resolve_left (by decide)), fun h => hR (h.resolve_left (by decide)), fun h => hQ (h.resolve_left (by decide)), fun h h' => hG (h.resolve_left (by decide)) (fun k => h' (.inr k)), fun h h' => hN (h.resolve_left (by decide)) (fun k => h' (.inr k))⟩
        | 2, ho =>
          cases Option.some.inj ho
          have ev : a.tmps[63]?.getD undef = .slice pa pn pc := by rw [ha, e1 (hd ⟨1, .data⟩ (by simp) rfl)]; kernel_rfl
          refine wp_enter (f := 14) (args := #[.slice pa pn pc]) (by simp [execOp, ev, go_sem]) ?_
          refine (given_any (IP.below hB) hpn).mono ?_
          rintro e w6 ⟨ga', gc', rfl, OG, HB⟩
          refine ⟨_, rfl, ?_⟩
          exact ⟨v62, v63, (.slice ga' pn gc'), v65, v61, v66, v67, v10, v11, ga', gc', rc, ra, rn, rp, rb, rm, rq, re, n10, by rw [ha]; kernel_rfl, below_size hB hB.size HB, fun h => e0 (h.resolve_left (by decide)), fun h => e1 (h.resolve_left (by decide)), fun _ => rfl, fun h => e3 (h.resolve_left (by decide)), fun h => e4 (h.resolve_left (by decide)), fun h => e5 (h.resolve_left (by decide)), fun h => e6 (h.resolve_left (by decide)), fun h => e7 (h.resolve_left (by decide)), fun h => e9 (h.resolve_left (by decide)), fun h => absurd (h.resolve_left (by decide)) (fun h => hn (hcl 3 _ rfl h ⟨2, .data⟩ (by simp) rfl)), fun h => absurd (h.resolve_left (by decide)) (fun h => (fun h => (fun h => (fun h => hn (hcl 3 _ rfl h ⟨2, .data⟩ (by simp) rfl)) (hcl 4 _ rfl h ⟨3, .data⟩ (by simp) rfl)) (hcl 5 _ rfl h ⟨4, .data⟩ (by simp) rfl)) (hcl 8 _ rfl h ⟨5, .data⟩ (by simp) rfl)), fun _ _ => OwnP.mono OG hB.size, fun h h' => ⟨(HB.block _ (lt_of_block (hN (h.resolve_left (by decide)) (fun k => h' (.inr k))).1)).trans (hN (h.resolve_left (by decide)) (fun k => h' (.inr k))).1, (hN (h.resolve_left (by decide)) (fun k => h' (.inr k))).2⟩⟩
        | 3, ho =>
          cases Option.some.inj ho
          have ev : a.tmps[62]?.getD undef = .agg #[.int .i64 c, .slice sa sn sc, .slice ba bn bc] := by rw [ha, e0 (hd ⟨0, .data⟩ (by simp) rfl)]; kernel_rfl
          have ev' : a.tmps[64]?.getD undef = .slice ga pn gc := by rw [ha, e2 (hd ⟨2, .data⟩ (by simp) rfl)]; kernel_rfl
          refine wp_enter (f := 20) (args := #[.agg #[.int .i64 c, .slice sa sn sc, .slice ba bn bc], .slice ga pn gc]) (by simp [execOp, ev, ev', go_sem]) ?_
          refine (replay_all (IO.below hB) hsn hbn (hG (hd ⟨2, .data⟩ (by simp) rfl) hn).isP).mono ?_
          rintro e w6 ⟨rc', ra', rn', rp', rb', rm', rq', re', rfl, FR, HB⟩
          refine ⟨_, rfl, ?_⟩
          exact ⟨v62, v63, v64, (.tuple #[.agg #[.int .i64 rc', .slice ra' rn' rp', .slice rb' rm' rq'], .int .i64 re']), v61, v66, v67, v10, v11, ga, gc, rc', ra', rn', rp', rb', rm', rq', re', n10, by rw [ha]; kernel_rfl, below_size hB hB.size HB, fun h => e0 (h.resolve_left (by decide)), fun h => e1 (h.resolve_left (by decide)), fun h => e2 (h.resolve_left (by decide)), fun _ => rfl, fun h => absurd (h.resolve_left (by decide)) (fun h => hn (hcl 4 _ rfl h ⟨3, .data⟩ (by simp) rfl)), fun h => absurd (h.resolve_left (by decide)) (fun h => (fun h => hn (hcl 4 _ rfl h ⟨3, .data⟩ (by simp) rfl)) (hcl 5 _ rfl h ⟨4, .data⟩ (by simp) rfl)), fun h => absurd (h.resolve_left (by decide)) (fun h => (fun h => hn (hcl 4 _ rfl h ⟨3, .data⟩ (by simp) rfl)) (hcl 6 _ rfl h ⟨4, .data⟩ (by simp) rfl)), fun h => e7 (h.resolve_left (by decide)), fun h => absurd (h.resolve_left (by decide)) (fun h => (fun h => (fun h => hn (hcl 4 _ rfl h ⟨3, .data⟩ (by simp) rfl)) (hcl 6 _ rfl h ⟨4, .data⟩ (by simp) rfl)) (hcl 9 _ rfl h ⟨6, .data⟩ (by simp) rfl)), fun _ => FR.mono hB.size, fun h => absurd (h.resolve_left (by decide)) (fun h => (fun h => (fun h => hn (hcl 4 _ rfl h ⟨3, .data⟩ (by simp) rfl)) (hcl 5 _ rfl h ⟨4, .data⟩ (by simp) rfl)) (hcl 8 _ rfl h ⟨5, .data⟩ (by simp) rfl)), fun _ h' => absurd (.inl rfl) h', fun h h' => ⟨(HB.block _ (lt_of_block (hN (h.resolve_left (by decide)) (fun k => h' (.inr k))).1)).trans (hN (h.resolve_left (by decide)) (fun k => h' (.inr k))).1, (hN (h.resolve_left (by decide)) (fun k => h' (.inr k))).2⟩⟩
        | 4, ho =>
          cases Option.some.inj ho
          have ev : a.tmps[65]?.getD undef = .tuple #[.agg #[.int .i64 rc, .slice ra rn rp, .slice rb rm rq], .int .i64 re] := by rw [ha, e3 (hd ⟨3, .data⟩ (by simp) rfl)]; kernel_rfl
          refine wp_value (w' := w') (v := .tuple #[.agg #[.int .i64 rc, .slice ra rn rp, .slice rb rm rq], .int .i64 re]) (by simp [execOp, ev, go_sem]) ?_
          exact ⟨v62, v63, v64, v65, (.tuple #[.agg #[.int .i64 rc, .slice ra rn rp, .slice rb rm rq], .int .i64 re]), v66, v67, v10, v11, ga, gc, rc, ra, rn, rp, rb, rm, rq, re, n10, by rw [ha]; kernel_rfl, hB, fun h => e0 (h.resolve_left (by decide)), fun h => e1 (h.resolve_left (by decide)), fun h => e2 (h.resolve_left (by decide)), fun h => e3 (h.resolve_left (by decide)), fun _ => rfl, fun h => e5 (h.resolve_left (by decide)), fun h => e6 (h.resolve_left (by decide)), fun h => e7 (h.resolve_left (by decide)), fun h => e9 (h.resolve_left (by decide)), fun h => hR (h.resolve_left (by decide)), fun h => hQ (h.resolve_left (by decide)), fun h h' => hG (h.resolve_left (by decide)) (fun k => h' (.inr k)), fun h h' => hN (h.resolve_left (by decide)) (fun k => h' (.inr k))⟩
        | 5, ho =>
          cases Option.some.inj ho
          have ev : a.tmps[61]?.getD undef = .tuple #[.agg #[.int .i64 rc, .slice ra rn rp, .slice rb rm rq], .int .i64 re] := by rw [ha, e4 (hd ⟨4, .data⟩ (by simp) rfl)]; kernel_rfl
          refine wp_value (w' := w') (v := .agg #[.int .i64 rc, .slice ra rn rp, .slice rb rm rq]) (by simp [execOp, ev, go_sem]) ?_
          exact ⟨v62, v63, v64, v65, v61, (.agg #[.int .i64 rc, .slice ra rn rp, .slice rb rm rq]), v67, v10, v11, ga, gc, rc, ra, rn, rp, rb, rm, rq, re, n10, by rw [ha]; kernel_rfl, hB, fun h => e0 (h.resolve_left (by decide)), fun h => e1 (h.resolve_left (by decide)), fun h => e2 (h.resolve_left (by decide)), fun h => e3 (h.resolve_left (by decide)), fun h => e4 (h.resolve_left (by decide)), fun _ => rfl, fun h => e6 (h.resolve_left (by decide)), fun h => e7 (h.resolve_left (by decide)), fun h => e9 (h.resolve_left (by decide)), fun h => hR (h.resolve_left (by decide)), fun h => hQ (h.resolve_left (by decide)), fun h h' => hG (h.resolve_left (by decide)) (fun k => h' (.inr k)), fun h h' => hN (h.resolve_left (by decide)) (fun k => h' (.inr k))⟩
        | 6, ho =>
          cases Option.some.inj ho
          have ev : a.tmps[61]?.getD undef = .tuple #[.agg #[.int .i64 rc, .slice ra rn rp, .slice rb rm rq], .int .i64 re] := by rw [ha, e4 (hd ⟨4, .data⟩ (by simp) rfl)]; kernel_rfl
          refine wp_value (w' := w') (v := .int .i64 re) (by simp [execOp, ev, go_sem]) ?_
          exact ⟨v62, v63, v64, v65, v61, v66, (.int .i64 re), v10, v11, ga, gc, rc, ra, rn, rp, rb, rm, rq, re, n10, by rw [ha]; kernel_rfl, hB, fun h => e0 (h.resolve_left (by decide)), fun h => e1 (h.resolve_left (by decide)), fun h => e2 (h.resolve_left (by decide)), fun h => e3 (h.resolve_left (by decide)), fun h => e4 (h.resolve_left (by decide)), fun h => e5 (h.resolve_left (by decide)), fun _ => rfl, fun h => e7 (h.resolve_left (by decide)), fun h => e9 (h.resolve_left (by decide)), fun h => hR (h.resolve_left (by decide)), fun h => hQ (h.resolve_left (by decide)), fun h h' => hG (h.resolve_left (by decide)) (fun k => h' (.inr k)), fun h h' => hN (h.resolve_left (by decide)) (fun k => h' (.inr k))⟩
        | 7, ho =>
          cases Option.some.inj ho
          refine wp_value (w' := w'.alloc (.cells #[.int .i64 0, .slice none 0 0, .slice none 0 0] 38)) (v := .pointer (some ⟨w'.heap.size, 0, none⟩)) (by simp [execOp, go_sem]) ?_
          exact ⟨v62, v63, v64, v65, v61, v66, v67, (.pointer (some ⟨w'.heap.size, 0, none⟩)), v11, ga, gc, rc, ra, rn, rp, rb, rm, rq, re, w'.heap.size, by rw [ha]; kernel_rfl, below_size hB hB.size box_below, fun h => e0 (h.resolve_left (by decide)), fun h => e1 (h.resolve_left (by decide)), fun h => e2 (h.resolve_left (by decide)), fun h => e3 (h.resolve_left (by decide)), fun h => e4 (h.resolve_left (by decide)), fun h => e5 (h.resolve_left (by decide)), fun h => e6 (h.resolve_left (by decide)), fun _ => rfl, fun h => e9 (h.resolve_left (by decide)), fun h => (hR (h.resolve_left (by decide))).below box_below, fun h => absurd (h.resolve_left (by decide)) (fun h => hn (hcl 8 _ rfl h ⟨7, .data⟩ (by simp) rfl)), fun h h' => (hG (h.resolve_left (by decide)) (fun k => h' (.inr k))).below box_below, fun _ _ => ⟨new1 _ _, hB.size⟩⟩
        | 8, ho =>
          cases Option.some.inj ho
          have ev : a.tmps[10]?.getD undef = .pointer (some ⟨n10, 0, none⟩) := by rw [ha, e7 (hd ⟨7, .data⟩ (by simp) rfl)]; kernel_rfl
          have ev' : a.tmps[66]?.getD undef = .agg #[.int .i64 rc, .slice ra rn rp, .slice rb rm rq] := by rw [ha, e5 (hd ⟨5, .data⟩ (by simp) rfl)]; kernel_rfl
          obtain ⟨E9, hn10⟩ := hN (hd ⟨7, .data⟩ (by simp) rfl) hn
          obtain ⟨z0, z1, z2, zf⟩ := obj_cells E9
          have zf0 := zf 0
          have zf1 := zf 1
          have zf2 := zf 2
          have hD3 : D 3 := hcl 4 _ rfl (hcl 5 _ rfl (hd ⟨5, .data⟩ (by simp) rfl) ⟨4, .data⟩ (by simp) rfl) ⟨3, .data⟩ (by simp) rfl
          refine wp_skip (w' := stO w' n10 rc (.slice ra rn rp) (.slice rb rm rq)) (by simp [execOp, Act.eval, ev, ev', go_sem, z0, z1, z2, zf0, zf1, zf2, stO]) ?_
          exact ⟨v62, v63, v64, v65, v61, v66, v67, v10, v11, ga, gc, rc, ra, rn, rp, rb, rm, rq, re, n10, by rw [ha]; kernel_rfl, stO_below hB hn10 _ _ _, fun h => e0 (h.resolve_left (by decide)), fun h => e1 (h.resolve_left (by decide)), fun h => e2 (h.resolve_left (by decide)), fun h => e3 (h.resolve_left (by decide)), fun h => e4 (h.resolve_left (by decide)), fun h => e5 (h.resolve_left (by decide)), fun h => e6 (h.resolve_left (by decide)), fun h => e7 (h.resolve_left (by decide)), fun h => e9 (h.resolve_left (by decide)), fun _ => (hR hD3).stO E9 _ _ _, fun _ => stO_blk E9 _ _ _, fun _ h' => absurd (.inr hD3) h', fun _ h' => absurd (.inl rfl) h'⟩
        | 9, ho =>
          cases Option.some.inj ho
          have ev : a.tmps[67]?.getD undef = .int .i64 re := by rw [ha, e6 (hd ⟨6, .data⟩ (by simp) rfl)]; kernel_rfl
          refine wp_value (w' := w') (v := .int .i64 re) (by simp [execOp, ev, go_sem]) ?_
          exact ⟨v62, v63, v64, v65, v61, v66, v67, v10, (.int .i64 re), ga, gc, rc, ra, rn, rp, rb, rm, rq, re, n10, by rw [ha]; kernel_rfl, hB, fun h => e0 (h.resolve_left (by decide)), fun h => e1 (h.resolve_left (by decide)), fun h => e2 (h.resolve_left (by decide)), fun h => e3 (h.resolve_left (by decide)), fun h => e4 (h.resolve_left (by decide)), fun h => e5 (h.resolve_left (by decide)), fun h => e6 (h.resolve_left (by decide)), fun h => e7 (h.resolve_left (by decide)), fun _ => rfl, fun h => hR (h.resolve_left (by decide)), fun h => hQ (h.resolve_left (by decide)), fun h h' => hG (h.resolve_left (by decide)) (fun k => h' (.inr k)), fun h h' => hN (h.resolve_left (by decide)) (fun k => h' (.inr k))⟩
        | i + 10, ho => simp at ho
      case done =>
        rintro D a w' ⟨v62, v63, v64, v65, v61, v66, v67, v10, v11, ga, gc, rc, ra, rn, rp, rb, rm, rq, re, n10, ha, hB, e0, e1, e2, e3, e4, e5, e6, e7, e9, hR, hQ, hG, hN⟩ hall
        obtain rfl := e0 (hall 0 (by decide))
        obtain rfl := e1 (hall 1 (by decide))
        obtain rfl := e2 (hall 2 (by decide))
        obtain rfl := e3 (hall 3 (by decide))
        obtain rfl := e4 (hall 4 (by decide))
        obtain rfl := e5 (hall 5 (by decide))
        obtain rfl := e6 (hall 6 (by decide))
        obtain rfl := e7 (hall 7 (by decide))
        obtain rfl := e9 (hall 9 (by decide))
        have FR1 := hR (hall 3 (by decide))
        have E10 := hQ (hall 8 (by decide))
        clear hG hN hR hQ hall e0 e1 e2 e3 e4 e5 e6 e7 e9
        rw [ha]
        clear ha
        simp only [Act.put, List.setIfInBounds_toArray, List.set_cons_zero, List.set_cons_succ]
        have E3b := (hB.block _ (lt_of_block E3)).trans E3
        have IOb := IO.below hB
        have IPb := IP.below hB
        have ITb := IT.below hB
        have B10 := below_size Bw Bw.size hB
        clear E3 IO IP IT hB Bw
        go_upto_region 11 with fail
        have E3 := E3b
        have IO := IOb
        have IP := IPb
        have IT := ITb
        clear E3b IOb IPb ITb
        generalize wr.heap.size = base0 at *
        generalize w' = w10 at *
        clear D a
        refine wp_region_inv' (fun A D a w' => ∃ v69 v70 v71 v72 v73 v74 v68 v75 v76 v12 v13 ga gc qa qc qs xc xa xn xp xb xm xq xe n12, a = (((((((((((A.put (some 69) v69).put (some 70) v70).put (some 71) v71).put (some 72) v72).put (some 73) v73).put (some 74) v74).put (some 68) v68).put (some 75) v75).put (some 76) v76).put (some 12) v12).put (some 13) v13) ∧ Below w10.heap.size w10 w' ∧ (D 0 → v69 = .agg #[.int .i64 c, .slice sa sn sc, .slice ba bn bc]) ∧ (D 1 → v70 = .slice pa pn pc) ∧ (D 2 → v71 = .slice ga pn gc) ∧ (D 3 → v72 = .slice ta tn tc) ∧ (D 4 → v73 = .slice qa pn qc) ∧ (D 5 → v74 = .tuple #[.agg #[.int .i64 xc, .slice xa xn xp, .slice xb xm xq], .int .i64 xe]) ∧ (D 6 → v68 = .tuple #[.agg #[.int .i64 xc, .slice xa xn xp, .slice xb xm xq], .int .i64 xe]) ∧ (D 7 → v75 = .agg #[.int .i64 xc, .slice xa xn xp, .slice xb xm xq]) ∧ (D 8 → v76 = .int .i64 xe) ∧ (D 9 → v12 = .pointer (some ⟨n12, 0, none⟩)) ∧ (D 11 → v13 = .int .i64 xe) ∧ (D 5 → RF w10.heap.size c bs (playAll c vs qs) w' xc xa xn xp xb xm xq xe ∧ qs.Perm ps) ∧ (D 10 → w'.heap[n12]? = some (objB xc (.slice xa xn xp) (.slice xb xm xq))) ∧ (D 2 → ¬ D 4 → OwnP w' w10.heap.size (.slice ga pn gc) ps) ∧ (D 4 → ¬ D 5 → OwnP w' w10.heap.size (.slice qa pn qc) qs ∧ qs.Perm ps) ∧ (D 9 → ¬ D 10 → w'.heap[n12]? = some (objB 0 (.slice none 0 0) (.slice none 0 0)) ∧ w10.heap.size ≤ n12)) (by kernel_rfl) (by kernel_rfl) ?mono ?start ?step ?done
        case mono =>
          rintro D D' a w' hD ⟨v69, v70, v71, v72, v73, v74, v68, v75, v76, v12, v13, ga, gc, qa, qc, qs, xc, xa, xn, xp, xb, xm, xq, xe, n12, ha, hB, e0, e1, e2, e3, e4, e5, e6, e7, e8, e9, e11, hR, hQ, hG, hU, hN⟩
          exact ⟨v69, v70, v71, v72, v73, v74, v68, v75, v76, v12, v13, ga, gc, qa, qc, qs, xc, xa, xn, xp, xb, xm, xq, xe, n12, ha, hB, fun h => e0 ((hD 0).2 h), fun h => e1 ((hD 1).2 h), fun h => e2 ((hD 2).2 h), fun h => e3 ((hD 3).2 h), fun h => e4 ((hD 4).2 h), fun h => e5 ((hD 5).2 h), fun h => e6 ((hD 6).2 h), fun h => e7 ((hD 7).2 h), fun h => e8 ((hD 8).2 h), fun h => e9 ((hD 9).2 h), fun h => e11 ((hD 11).2 h), fun h => hR ((hD 5).2 h), fun h => hQ ((hD 10).2 h), fun h h' => hG ((hD 2).2 h) (fun k => h' ((hD 4).1 k)), fun h h' => hU ((hD 4).2 h) (fun k => h' ((hD 5).1 k)), fun h h' => hN ((hD 9).2 h) (fun k => h' ((hD 10).1 k))⟩
        case start => exact ⟨undef, undef, undef, undef, undef, undef, undef, undef, undef, undef, undef, none, 0, none, 0, ([] : List Pp), 0, none, 0, 0, none, 0, 0, 0, 0, by kernel_rfl, (Below.refl _ _).drew, fun h => h.elim, fun h => h.elim, fun h => h.elim, fun h => h.elim, fun h => h.elim, fun h => h.elim, fun h => h.elim, fun h => h.elim, fun h => h.elim, fun h => h.elim, fun h => h.elim, fun h => h.elim, fun h => h.elim, fun h _ => h.elim, fun h _ => h.elim, fun h _ => h.elim⟩
        case step =>
          intro i o ho D a w' hI hn hcl hd
          obtain ⟨v69, v70, v71, v72, v73, v74, v68, v75, v76, v12, v13, ga, gc, qa, qc, qs, xc, xa, xn, xp, xb, xm, xq, xe, n12, ha, hB, e0, e1, e2, e3, e4, e5, e6, e7, e8, e9, e11, hR, hQ, hG, hU, hN⟩ := hI
          match i, ho with
          | 0, ho =>
            cases Option.some.inj ho
            have ev : a.tmps[3]?.getD undef = .pointer (some ⟨w.heap.size, 0, none⟩) := by rw [ha]; kernel_rfl
            obtain ⟨z0, z1, z2, zf⟩ := obj_cells ((hB.block _ (lt_of_block E3)).trans E3)
            refine wp_value (w' := w') (v := .agg #[.int .i64 c, .slice sa sn sc, .slice ba bn bc]) (by simp [execOp, ev, go_sem, z0, z1, z2]) ?_
            exact ⟨(.agg #[.int .i64 c, .slice sa sn sc, .slice ba bn bc]), v70, v71, v72, v73, v74, v68, v75, v76, v12, v13, ga, gc, qa, qc, qs, xc, xa, xn, xp, xb, xm, xq, xe, n12, by rw [ha]; kernel_rfl, hB, fun _ => rfl, fun h => e1 (h.resolve_left (by decide)), fun h => e2 (h.resolve_left (by decide)), fun h => e3 (h.resolve_left (by decide)), fun h => e4 (h.resolve_left (by decide)), fun h => e5 (h.resolve_left (by decide)), fun h => e6 (h.resolve_left (by decide)), fun h => e7 (h.resolve_left (by decide)), fun h => e8 (h.resolve_left (by decide)), fun h => e9 (h.resolve_left (by decide)), fun h => e11 (h.resolve_left (by decide)), fun h => hR (h.resolve_left (by decide)), fun h => hQ (h.resolve_left (by decide)), fun h h' => hG (h.resolve_left (by decide)) (fun k => h' (.inr k)), fun h h' => hU (h.resolve_left (by decide)) (fun k => h' (.inr k)), fun h h' => hN (h.resolve_left (by decide)) (fun k => h' (.inr k))⟩
          | 1, ho =>
            cases Option.some.inj ho
            have ev : a.tmps[1]?.getD undef = .slice pa pn pc := by rw [ha]; kernel_rfl
            refine wp_value (w' := w') (v := .slice pa pn pc) (by simp [execOp, ev, go_sem]) ?_
            exact ⟨v69, (.slice pa pn pc), v71, v72, v73, v74, v68, v75, v76, v12, v13, ga, gc, qa, qc, qs, xc, xa, xn, xp, xb, xm, xq, xe, n12, by rw [ha]; kernel_rfl, hB, fun h => e0 (h.resolve_left (by decide)), fun _ => rfl, fun h => e2 (h.resolve_left (by decide)), fun h => e3 (h.resolve_left (by decide)), fun h => e4 (h.resolve_left (by decide)), fun h => e5 (h.resolve_left (by decide)), fun h => e6 (h.resolve_left (by decide)), fun h => e7 (h.resolve_left (by decide)), fun h => e8 (h.resolve_left (by decide)), fun h => e9 (h.resolve_left (by decide)), fun h => e11 (h.resolve_left (by decide)), fun h => hR (h.resolve_left (by decide)), fun h => hQ (h.resolve_left (by decide)), fun h h' => hG (h.resolve_left (by decide)) (fun k => h' (.inr k)), fun h h' => hU (h.resolve_left (by decide)) (fun k => h' (.inr k)), fun h h' => hN (h.resolve_left (by decide)) (fun k => h' (.inr k))⟩
          | 2, ho =>
            cases Option.some.inj ho
            have ev : a.tmps[70]?.getD undef = .slice pa pn pc := by rw [ha, e1 (hd ⟨1, .data⟩ (by simp) rfl)]; kernel_rfl
            refine wp_enter (f := 14) (args := #[.slice pa pn pc]) (by simp [execOp, ev, go_sem]) ?_
            refine (given_any (IP.below hB) hpn).mono ?_
            rintro e w6 ⟨ga', gc', rfl, OG, HB⟩
            refine ⟨_, rfl, ?_⟩
            exact ⟨v69, v70, (.slice ga' pn gc'), v72, v73, v74, v68, v75, v76, v12, v13, ga', gc', qa, qc, qs, xc, xa, xn, xp, xb, xm, xq, xe, n12, by rw [ha]; kernel_rfl, below_size hB hB.size HB, fun h => e0 (h.resolve_left (by decide)), fun h => e1 (h.resolve_left (by decide)), fun _ => rfl, fun h => e3 (h.resolve_left (by decide)), fun h => e4 (h.resolve_left (by decide)), fun h => e5 (h.resolve_left (by decide)), fun h => e6 (h.resolve_left (by decide)), fun h => e7 (h.resolve_left (by decide)), fun h => e8 (h.resolve_left (by decide)), fun h => e9 (h.resolve_left (by decide)), fun h => e11 (h.resolve_left (by decide)), fun h => absurd (h.resolve_left (by decide)) (fun h => (fun h => hn (hcl 4 _ rfl h ⟨2, .data⟩ (by simp) rfl)) (hcl 5 _ rfl h ⟨4, .data⟩ (by simp) rfl)), fun h => absurd (h.resolve_left (by decide)) (fun h => (fun h => (fun h => (fun h => (fun h => hn (hcl 4 _ rfl h ⟨2, .data⟩ (by simp) rfl)) (hcl 5 _ rfl h ⟨4, .data⟩ (by simp) rfl)) (hcl 6 _ rfl h ⟨5, .data⟩ (by simp) rfl)) (hcl 7 _ rfl h ⟨6, .data⟩ (by simp) rfl)) (hcl 10 _ rfl h ⟨7, .data⟩ (by simp) rfl)), fun _ _ => OwnP.mono OG hB.size, fun h _ => absurd (h.resolve_left (by decide)) (fun h => hn (hcl 4 _ rfl h ⟨2, .data⟩ (by simp) rfl)), fun h h' => ⟨(HB.block _ (lt_of_block (hN (h.resolve_left (by decide)) (fun k => h' (.inr k))).1)).trans (hN (h.resolve_left (by decide)) (fun k => h' (.inr k))).1, (hN (h.resolve_left (by decide)) (fun k => h' (.inr k))).2⟩⟩
          | 3, ho =>
            cases Option.some.inj ho
            have ev : a.tmps[2]?.getD undef = .slice ta tn tc := by rw [ha]; kernel_rfl
            refine wp_value (w' := w') (v := .slice ta tn tc) (by simp [execOp, ev, go_sem]) ?_
            exact ⟨v69, v70, v71, (.slice ta tn tc), v73, v74, v68, v75, v76, v12, v13, ga, gc, qa, qc, qs, xc, xa, xn, xp, xb, xm, xq, xe, n12, by rw [ha]; kernel_rfl, hB, fun h => e0 (h.resolve_left (by decide)), fun h => e1 (h.resolve_left (by decide)), fun h => e2 (h.resolve_left (by decide)), fun _ => rfl, fun h => e4 (h.resolve_left (by decide)), fun h => e5 (h.resolve_left (by decide)), fun h => e6 (h.resolve_left (by decide)), fun h => e7 (h.resolve_left (by decide)), fun h => e8 (h.resolve_left (by decide)), fun h => e9 (h.resolve_left (by decide)), fun h => e11 (h.resolve_left (by decide)), fun h => hR (h.resolve_left (by decide)), fun h => hQ (h.resolve_left (by decide)), fun h h' => hG (h.resolve_left (by decide)) (fun k => h' (.inr k)), fun h h' => hU (h.resolve_left (by decide)) (fun k => h' (.inr k)), fun h h' => hN (h.resolve_left (by decide)) (fun k => h' (.inr k))⟩
          | 4, ho =>
            cases Option.some.inj ho
            have ev : a.tmps[71]?.getD undef = .slice ga pn gc := by rw [ha, e2 (hd ⟨2, .data⟩ (by simp) rfl)]; kernel_rfl
            have ev' : a.tmps[72]?.getD undef = .slice ta tn tc := by rw [ha, e3 (hd ⟨3, .data⟩ (by simp) rfl)]; kernel_rfl
            refine wp_enter (f := 21) (args := #[.slice ga pn gc, .slice ta tn tc]) (by simp [execOp, ev, ev', go_sem]) ?_
            refine (turned_any (tc := tc) (hG (hd ⟨2, .data⟩ (by simp) rfl) hn).isP hpn (IT.below hB)).mono ?_
            rintro e w6 ⟨qa', qc', qs', rfl, OQ, PQ, HB⟩
            refine ⟨_, rfl, ?_⟩
            exact ⟨v69, v70, v71, v72, (.slice qa' pn qc'), v74, v68, v75, v76, v12, v13, ga, gc, qa', qc', qs', xc, xa, xn, xp, xb, xm, xq, xe, n12, by rw [ha]; kernel_rfl, below_size hB hB.size HB, fun h => e0 (h.resolve_left (by decide)), fun h => e1 (h.resolve_left (by decide)), fun h => e2 (h.resolve_left (by decide)), fun h => e3 (h.resolve_left (by decide)), fun _ => rfl, fun h => e5 (h.resolve_left (by decide)), fun h => e6 (h.resolve_left (by decide)), fun h => e7 (h.resolve_left (by decide)), fun h => e8 (h.resolve_left (by decide)), fun h => e9 (h.resolve_left (by decide)), fun h => e11 (h.resolve_left (by decide)), fun h => absurd (h.resolve_left (by decide)) (fun h => hn (hcl 5 _ rfl h ⟨4, .data⟩ (by simp) rfl)), fun h => absurd (h.resolve_left (by decide)) (fun h => (fun h => (fun h => (fun h => hn (hcl 5 _ rfl h ⟨4, .data⟩ (by simp) rfl)) (hcl 6 _ rfl h ⟨5, .data⟩ (by simp) rfl)) (hcl 7 _ rfl h ⟨6, .data⟩ (by simp) rfl)) (hcl 10 _ rfl h ⟨7, .data⟩ (by simp) rfl)), fun _ h' => absurd (.inl rfl) h', fun _ _ => ⟨OwnP.mono OQ hB.size, PQ⟩, fun h h' => ⟨(HB.block _ (lt_of_block (hN (h.resolve_left (by decide)) (fun k => h' (.inr k))).1)).trans (hN (h.resolve_left (by decide)) (fun k => h' (.inr k))).1, (hN (h.resolve_left (by decide)) (fun k => h' (.inr k))).2⟩⟩
          | 5, ho =>
            cases Option.some.inj ho
            have ev : a.tmps[69]?.getD undef = .agg #[.int .i64 c, .slice sa sn sc, .slice ba bn bc] := by rw [ha, e0 (hd ⟨0, .data⟩ (by simp) rfl)]; kernel_rfl
            have ev' : a.tmps[73]?.getD undef = .slice qa pn qc := by rw [ha, e4 (hd ⟨4, .data⟩ (by simp) rfl)]; kernel_rfl
            refine wp_enter (f := 20) (args := #[.agg #[.int .i64 c, .slice sa sn sc, .slice ba bn bc], .slice qa pn qc]) (by simp [execOp, ev, ev', go_sem]) ?_
            refine (replay_all (IO.below hB) hsn hbn (hU (hd ⟨4, .data⟩ (by simp) rfl) hn).1.isP).mono ?_
            rintro e w6 ⟨xc', xa', xn', xp', xb', xm', xq', xe', rfl, FR, HB⟩
            refine ⟨_, rfl, ?_⟩
            exact ⟨v69, v70, v71, v72, v73, (.tuple #[.agg #[.int .i64 xc', .slice xa' xn' xp', .slice xb' xm' xq'], .int .i64 xe']), v68, v75, v76, v12, v13, ga, gc, qa, qc, qs, xc', xa', xn', xp', xb', xm', xq', xe', n12, by rw [ha]; kernel_rfl, below_size hB hB.size HB, fun h => e0 (h.resolve_left (by decide)), fun h => e1 (h.resolve_left (by decide)), fun h => e2 (h.resolve_left (by decide)), fun h => e3 (h.resolve_left (by decide)), fun h => e4 (h.resolve_left (by decide)), fun _ => rfl, fun h => absurd (h.resolve_left (by decide)) (fun h => hn (hcl 6 _ rfl h ⟨5, .data⟩ (by simp) rfl)), fun h => absurd (h.resolve_left (by decide)) (fun h => (fun h => hn (hcl 6 _ rfl h ⟨5, .data⟩ (by simp) rfl)) (hcl 7 _ rfl h ⟨6, .data⟩ (by simp) rfl)), fun h => absurd (h.resolve_left (by decide)) (fun h => (fun h => hn (hcl 6 _ rfl h ⟨5, .data⟩ (by simp) rfl)) (hcl 8 _ rfl h ⟨6, .data⟩ (by simp) rfl)), fun h => e9 (h.resolve_left (by decide)), fun h => absurd (h.resolve_left (by decide)) (fun h => (fun h => (fun h => hn (hcl 6 _ rfl h ⟨5, .data⟩ (by simp) rfl)) (hcl 8 _ rfl h ⟨6, .data⟩ (by simp) rfl)) (hcl 11 _ rfl h ⟨8, .data⟩ (by simp) rfl)), fun _ => ⟨FR.mono hB.size, (hU (hd ⟨4, .data⟩ (by simp) rfl) hn).2⟩, fun h => absurd (h.resolve_left (by decide)) (fun h => (fun h => (fun h => hn (hcl 6 _ rfl h ⟨5, .data⟩ (by simp) rfl)) (hcl 7 _ rfl h ⟨6, .data⟩ (by simp) rfl)) (hcl 10 _ rfl h ⟨7, .data⟩ (by simp) rfl)), fun _ h' => absurd (.inr (hd ⟨4, .data⟩ (by simp) rfl)) h', fun _ h' => absurd (.inl rfl) h', fun h h' => ⟨(HB.block _ (lt_of_block (hN (h.resolve_left (by decide)) (fun k => h' (.inr k))).1)).trans (hN (h.resolve_left (by decide)) (fun k => h' (.inr k))).1, (hN (h.resolve_left (by decide)) (fun k => h' (.inr k))).2⟩⟩
          | 6, ho =>
            cases Option.some.inj ho
            have ev : a.tmps[74]?.getD undef = .tuple #[.agg #[.int .i64 xc, .slice xa xn xp, .slice xb xm xq], .int .i64 xe] := by rw [ha, e5 (hd ⟨5, .data⟩ (by simp) rfl)]; kernel_rfl
            refine wp_value (w' := w') (v := .tuple #[.agg #[.int .i64 xc, .slice xa xn xp, .slice xb xm xq], .int .i64 xe]) (by simp [execOp, ev, go_sem]) ?_
            exact ⟨v69, v70, v71, v72, v73, v74, (.tuple #[.agg #[.int .i64 xc, .slice xa xn xp, .slice xb xm xq], .int .i64 xe]), v75, v76, v12, v13, ga, gc, qa, qc, qs, xc, xa, xn, xp, xb, xm, xq, xe, n12, by rw [ha]; kernel_rfl, hB, fun h => e0 (h.resolve_left (by decide)), fun h => e1 (h.resolve_left (by decide)), fun h => e2 (h.resolve_left (by decide)), fun h => e3 (h.resolve_left (by decide)), fun h => e4 (h.resolve_left (by decide)), fun h => e5 (h.resolve_left (by decide)), fun _ => rfl, fun h => e7 (h.resolve_left (by decide)), fun h => e8 (h.resolve_left (by decide)), fun h => e9 (h.resolve_left (by decide)), fun h => e11 (h.resolve_left (by decide)), fun h => hR (h.resolve_left (by decide)), fun h => hQ (h.resolve_left (by decide)), fun h h' => hG (h.resolve_left (by decide)) (fun k => h' (.inr k)), fun h h' => hU (h.resolve_left (by decide)) (fun k => h' (.inr k)), fun h h' => hN (h.resolve_left (by decide)) (fun k => h' (.inr k))⟩
          | 7, ho =>
            cases Option.some.inj ho
            have ev : a.tmps[68]?.getD undef = .tuple #[.agg #[.int .i64 xc, .slice xa xn xp, .slice xb xm xq], .int .i64 xe] := by rw [ha, e6 (hd ⟨6, .data⟩ (by simp) rfl)]; kernel_rfl
            refine wp_value (w' := w') (v := .agg #[.int .i64 xc, .slice xa xn xp, .slice xb xm xq]) (by simp [execOp, ev, go_sem]) ?_
            exact ⟨v69, v70, v71, v72, v73, v74, v68, (.agg #[.int .i64 xc, .slice xa xn xp, .slice xb xm xq]), v76, v12, v13, ga, gc, qa, qc, qs, xc, xa, xn, xp, xb, xm, xq, xe, n12, by rw [ha]; kernel_rfl, hB, fun h => e0 (h.resolve_left (by decide)), fun h => e1 (h.resolve_left (by decide)), fun h => e2 (h.resolve_left (by decide)), fun h => e3 (h.resolve_left (by decide)), fun h => e4 (h.resolve_left (by decide)), fun h => e5 (h.resolve_left (by decide)), fun h => e6 (h.resolve_left (by decide)), fun _ => rfl, fun h => e8 (h.resolve_left (by decide)), fun h => e9 (h.resolve_left (by decide)), fun h => e11 (h.resolve_left (by decide)), fun h => hR (h.resolve_left (by decide)), fun h => hQ (h.resolve_left (by decide)), fun h h' => hG (h.resolve_left (by decide)) (fun k => h' (.inr k)), fun h h' => hU (h.resolve_left (by decide)) (fun k => h' (.inr k)), fun h h' => hN (h.resolve_left (by decide)) (fun k => h' (.inr k))⟩
          | 8, ho =>
            cases Option.some.inj ho
            have ev : a.tmps[68]?.getD undef = .tuple #[.agg #[.int .i64 xc, .slice xa xn xp, .slice xb xm xq], .int .i64 xe] := by rw [ha, e6 (hd ⟨6, .data⟩ (by simp) rfl)]; kernel_rfl
            refine wp_value (w' := w') (v := .int .i64 xe) (by simp [execOp, ev, go_sem]) ?_
            exact ⟨v69, v70, v71, v72, v73, v74, v68, v75, (.int .i64 xe), v12, v13, ga, gc, qa, qc, qs, xc, xa, xn, xp, xb, xm, xq, xe, n12, by rw [ha]; kernel_rfl, hB, fun h => e0 (h.resolve_left (by decide)), fun h => e1 (h.resolve_left (by decide)), fun h => e2 (h.resolve_left (by decide)), fun h => e3 (h.resolve_left (by decide)), fun h => e4 (h.resolve_left (by decide)), fun h => e5 (h.resolve_left (by decide)), fun h => e6 (h.resolve_left (by decide)), fun h => e7 (h.resolve_left (by decide)), fun _ => rfl, fun h => e9 (h.resolve_left (by decide)), fun h => e11 (h.resolve_left (by decide)), fun h => hR (h.resolve_left (by decide)), fun h => hQ (h.resolve_left (by decide)), fun h h' => hG (h.resolve_left (by decide)) (fun k => h' (.inr k)), fun h h' => hU (h.resolve_left (by decide)) (fun k => h' (.inr k)), fun h h' => hN (h.resolve_left (by decide)) (fun k => h' (.inr k))⟩
          | 9, ho =>
            cases Option.some.inj ho
            refine wp_value (w' := w'.alloc (.cells #[.int .i64 0, .slice none 0 0, .slice none 0 0] 38)) (v := .pointer (some ⟨w'.heap.size, 0, none⟩)) (by simp [execOp, go_sem]) ?_
            exact ⟨v69, v70, v71, v72, v73, v74, v68, v75, v76, (.pointer (some ⟨w'.heap.size, 0, none⟩)), v13, ga, gc, qa, qc, qs, xc, xa, xn, xp, xb, xm, xq, xe, w'.heap.size, by rw [ha]; kernel_rfl, below_size hB hB.size box_below, fun h => e0 (h.resolve_left (by decide)), fun h => e1 (h.resolve_left (by decide)), fun h => e2 (h.resolve_left (by decide)), fun h => e3 (h.resolve_left (by decide)), fun h => e4 (h.resolve_left (by decide)), fun h => e5 (h.resolve_left (by decide)), fun h => e6 (h.resolve_left (by decide)), fun h => e7 (h.resolve_left (by decide)), fun h => e8 (h.resolve_left (by decide)), fun _ => rfl, fun h => e11 (h.resolve_left (by decide)), fun h => ⟨(hR (h.resolve_left (by decide))).1.below box_below, (hR (h.resolve_left (by decide))).2⟩, fun h => absurd (h.resolve_left (by decide)) (fun h => hn (hcl 10 _ rfl h ⟨9, .data⟩ (by simp) rfl)), fun h h' => (hG (h.resolve_left (by decide)) (fun k => h' (.inr k))).below box_below, fun h h' => ⟨(hU (h.resolve_left (by decide)) (fun k => h' (.inr k))).1.below box_below, (hU (h.resolve_left (by decide)) (fun k => h' (.inr k))).2⟩, fun _ _ => ⟨new1 _ _, hB.size⟩⟩
          | 10, ho =>
            cases Option.some.inj ho
            have ev : a.tmps[12]?.getD undef = .pointer (some ⟨n12, 0, none⟩) := by rw [ha, e9 (hd ⟨9, .data⟩ (by simp) rfl)]; kernel_rfl
            have ev' : a.tmps[75]?.getD undef = .agg #[.int .i64 xc, .slice xa xn xp, .slice xb xm xq] := by rw [ha, e7 (hd ⟨7, .data⟩ (by simp) rfl)]; kernel_rfl
            obtain ⟨E9, hn12⟩ := hN (hd ⟨9, .data⟩ (by simp) rfl) hn
            obtain ⟨z0, z1, z2, zf⟩ := obj_cells E9
            have zf0 := zf 0
            have zf1 := zf 1
            have zf2 := zf 2
            have hD5 : D 5 := hcl 6 _ rfl (hcl 7 _ rfl (hd ⟨7, .data⟩ (by simp) rfl) ⟨6, .data⟩ (by simp) rfl) ⟨5, .data⟩ (by simp) rfl
            have hD4 : D 4 := hcl 5 _ rfl hD5 ⟨4, .data⟩ (by simp) rfl
            refine wp_skip (w' := stO w' n12 xc (.slice xa xn xp) (.slice xb xm xq)) (by simp [execOp, Act.eval, ev, ev', go_sem, z0, z1, z2, zf0, zf1, zf2, stO]) ?_
            exact ⟨v69, v70, v71, v72, v73, v74, v68, v75, v76, v12, v13, ga, gc, qa, qc, qs, xc, xa, xn, xp, xb, xm, xq, xe, n12, by rw [ha]; kernel_rfl, stO_below hB hn12 _ _ _, fun h => e0 (h.resolve_left (by decide)), fun h => e1 (h.resolve_left (by decide)), fun h => e2 (h.resolve_left (by decide)), fun h => e3 (h.resolve_left (by decide)), fun h => e4 (h.resolve_left (by decide)), fun h => e5 (h.resolve_left (by decide)), fun h => e6 (h.resolve_left (by decide)), fun h => e7 (h.resolve_left (by decide)), fun h => e8 (h.resolve_left (by decide)), fun h => e9 (h.resolve_left (by decide)), fun h => e11 (h.resolve_left (by decide)), fun _ => ⟨(hR hD5).1.stO E9 _ _ _, (hR hD5).2⟩, fun _ => stO_blk E9 _ _ _, fun _ h' => absurd (.inr hD4) h', fun _ h' => absurd (.inr hD5) h', fun _ h' => absurd (.inl rfl) h'⟩
          | 11, ho =>
            cases Option.some.inj ho
            have ev : a.tmps[76]?.getD undef = .int .i64 xe := by rw [ha, e8 (hd ⟨8, .data⟩ (by simp) rfl)]; kernel_rfl
            refine wp_value (w' := w') (v := .int .i64 xe) (by simp [execOp, ev, go_sem]) ?_
            exact ⟨v69, v70, v71, v72, v73, v74, v68, v75, v76, v12, (.int .i64 xe), ga, gc, qa, qc, qs, xc, xa, xn, xp, xb, xm, xq, xe, n12, by rw [ha]; kernel_rfl, hB, fun h => e0 (h.resolve_left (by decide)), fun h => e1 (h.resolve_left (by decide)), fun h => e2 (h.resolve_left (by decide)), fun h => e3 (h.resolve_left (by decide)), fun h => e4 (h.resolve_left (by decide)), fun h => e5 (h.resolve_left (by decide)), fun h => e6 (h.resolve_left (by decide)), fun h => e7 (h.resolve_left (by decide)), fun h => e8 (h.resolve_left (by decide)), fun h => e9 (h.resolve_left (by decide)), fun _ => rfl, fun h => hR (h.resolve_left (by decide)), fun h => hQ (h.resolve_left (by decide)), fun h h' => hG (h.resolve_left (by decide)) (fun k => h' (.inr k)), fun h h' => hU (h.resolve_left (by decide)) (fun k => h' (.inr k)), fun h h' => hN (h.resolve_left (by decide)) (fun k => h' (.inr k))⟩
          | i + 12, ho => simp at ho
        case done =>
          rintro D a w' ⟨v69, v70, v71, v72, v73, v74, v68, v75, v76, v12, v13, ga, gc, qa, qc, qs, xc, xa, xn, xp, xb, xm, xq, xe, n12, ha, hB, e0, e1, e2, e3, e4, e5, e6, e7, e8, e9, e11, hR, hQ, hG, hU, hN⟩ hall
          obtain rfl := e0 (hall 0 (by decide))
          obtain rfl := e1 (hall 1 (by decide))
          obtain rfl := e2 (hall 2 (by decide))
          obtain rfl := e3 (hall 3 (by decide))
          obtain rfl := e4 (hall 4 (by decide))
          obtain rfl := e5 (hall 5 (by decide))
          obtain rfl := e6 (hall 6 (by decide))
          obtain rfl := e7 (hall 7 (by decide))
          obtain rfl := e8 (hall 8 (by decide))
          obtain rfl := e9 (hall 9 (by decide))
          obtain rfl := e11 (hall 11 (by decide))
          obtain ⟨FR2, hperm⟩ := hR (hall 5 (by decide))
          have E12 := hQ (hall 10 (by decide))
          clear hG hN hR hU hQ hall e0 e1 e2 e3 e4 e5 e6 e7 e8 e9 e11
          rw [ha]
          clear ha
          simp only [Act.put, List.setIfInBounds_toArray, List.set_cons_zero, List.set_cons_succ]
          have E10b := (hB.block _ (lt_of_block E10)).trans E10
          have FR1b := FR1.below hB
          have B12 := below_size B10 B10.size hB
          clear E10 FR1 hB B10 E3 IO IP IT
          generalize w' = w12 at *
          clear D a
          rcases FR1b with rfl | ⟨rfl, hc1, us, hR1, OV1, OB1⟩
          · go_wp2_with fail
            refine (known_true _).mono ?_
            rintro e w9 ⟨rfl, B9⟩
            go_wp2
            go_ret
            exact ⟨rfl, below_size B12 B12.size B9⟩
          · obtain rfl : c = rc := hc1.symm
            rcases FR2 with rfl | ⟨rfl, hc2, us2, hR2, OV2, OB2⟩
            · go_wp2_with fail
              refine (known_true _).mono ?_
              rintro e w9 ⟨rfl, B9⟩
              go_wp2
              go_ret
              exact ⟨rfl, below_size B12 B12.size B9⟩
            · obtain rfl : c = xc := hc2.symm
              have hus : us = us2 := play_order hS.out hperm.symm hR1 hR2
              subst hus
              obtain ⟨y0, y1, y2, yf⟩ := obj_cells E10b
              obtain ⟨z0, z1, z2, zf⟩ := obj_cells E12
              have hsm := same_yes (c := c) ⟨hcl, OV1.isV, OB1.isB⟩ ⟨hcl, OV2.isV, OB2.isB⟩
              clear E10b E12 OV1 OB1 OV2 OB2 hR1 hR2
              go_wp2_with fail
              refine hsm.mono ?_
              rintro e w9 ⟨rfl, B9⟩
              have B13 := below_size B12 B12.size B9
              clear y0 y1 y2 yf z0 z1 z2 zf
              go_wp2_with fail
              refine (known_true _).mono ?_
              rintro e w10 ⟨rfl, B14⟩
              go_wp2
              go_ret
              exact ⟨rfl, below_size B13 B13.size B14⟩
end Go.Proofs.Ytkkilenokpoaoaa
