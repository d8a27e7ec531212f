/- RcBags: the law's walk. -/
import Derived.Test.YtkkilenokpoaoaaBagsA
import Derived.Test.YtkkilenokpoaoaaKnow
namespace Go.Proofs.Ytkkilenokpoaoaa
open Go.RowKit
set_option maxRecDepth 100000
/-- What holds ahead of each round: all ops, the Bag that is empty, old memory. -/
structure BgI (w : World) (n : Int) (all : List Pp) (us : List (Int × Int)) (h : Nat) (oa : Option Addr) (oc : Nat) (wr : World) : Prop where
  bg : Bg n all us h
  own : OwnP wr (w.heap.size + 1) (.slice oa all.length oc) all
  obj : wr.heap[w.heap.size]? = some (objB 14 (.slice none 0 0) (.slice none 0 0))
  bel : Below w.heap.size w wr
  base : w.heap.size + 1 ≤ wr.heap.size
theorem BgI.grow {w : World} {n : Int} {all : List Pp} {us : List (Int × Int)} {h : Nat} {oa : Option Addr} {oc : Nat} {wr : World} (hI : BgI w n all us h oa oc wr) {w1 w2 : World} (B1 : Below wr.heap.size wr w1) (K : Kp (.slice oa all.length oc) w1 w2)
    {all' : List Pp} {us' : List (Int × Int)} {h' : Nat} (hb : Bg n all' us' h') {oa' : Option Addr} {oc' : Nat} (hO : OwnP w2 (w.heap.size + 1) (.slice oa' all'.length oc') all') : BgI w n all' us' h' oa' oc' w2 := by
  have O1 := hI.own.below B1
  have E1 := (B1.block _ (lt_of_block hI.obj)).trans hI.obj
  have B2 := below_size hI.bel hI.bel.size B1
  refine ⟨hb, hO, (K.block _ (lt_of_block E1) (own_ne O1.1 E1 (by decide))).trans E1, K.below B2 B2.size (fun g hg => by have := (own_block O1.1 hg).1; omega), ?_⟩
  have := hI.base
  have := B1.size
  have := K.size
  omega
theorem BgI.keep {w : World} {n : Int} {all : List Pp} {us : List (Int × Int)} {h : Nat} {oa : Option Addr} {oc : Nat} {wr w1 : World} (hI : BgI w n all us h oa oc wr) (B : Below wr.heap.size wr w1) : BgI w n all us h oa oc w1 :=
  ⟨hI.bg, hI.own.below B, (B.block _ (lt_of_block hI.obj)).trans hI.obj, below_size hI.bel hI.bel.size B, Nat.le_trans hI.base B.size⟩
theorem Kp.nilB {w w' : World} (h : Kp (.slice none 0 0) w w') : Below w.heap.size w w' := ⟨h.os, h.tape, h.output, h.size, fun j hj => h.block j hj (by simp [Value.ownBlock])⟩
set_option maxHeartbeats 4000000 in
theorem rcBags_law {w : World} {n : Int} {a pa : Option Addr} {len cap pn pc : Nat} {zs : List Int} {ps : List Pp} (hZ : IsI w a len zs) (hP : IsP w pa pn pc ps) :
    Calls Try.prog 6 #[.slice a len cap, .slice pa pn pc, .int .i64 n] w fun e w' => e = .returned (.bool true) ∧ Below w.heap.size w w' := by
  have s1 := hZ.size
  have s2 := hP.size
  by_cases h40 : 40 < len
  · have h40' : (40 : Int) < (len : Int) := by omega
    go_enter Try.func6, Try.ntmps6
    go_wp2_with fail
    refine (known_true _).mono ?_
    rintro e w1 ⟨rfl, B⟩
    go_wp2
    go_ret
    exact ⟨rfl, B⟩
  have h40' : ¬ (40 : Int) < (len : Int) := by omega
  by_cases h60 : 60 < pn
  · have h60' : (60 : Int) < (pn : Int) := by omega
    go_enter Try.func6, Try.ntmps6
    go_wp2_with fail
    refine (known_true _).mono ?_
    rintro e w1 ⟨rfl, B⟩
    go_wp2
    go_ret
    exact ⟨rfl, B⟩
  have h60' : ¬ (60 : Int) < (pn : Int) := by omega
  go_enter Try.func6, Try.ntmps6
  go_wp2_with fail
  generalize n.tmod 5 = n0 at *
  have hI0 : BgI w n0 [] [] 0 none 0 (w.alloc (objB 14 (.slice none 0 0) (.slice none 0 0))) := ⟨Bg.nil n0, ownP_of (n := 0) (World.ownsRow_nil _ _ _ _) (by intro p hp; cases hp), new1 _ _, box_below, by simp⟩
  unfold objB at hI0
  generalize w.alloc (.cells #[.int .i64 14, .slice none 0 0, .slice none 0 0] 38) = w1 at *
  go_loopw [8, 9, 10] (fun hv ov iv wr => ∃ (k h : Nat) (all : List Pp) (us : List (Int × Int)) (oa : Option Addr) (oc : Nat), k ≤ len ∧ all.length ≤ k ∧ iv = .int .i64 (k : Int) ∧ hv = .int .i64 (h : Int) ∧ ov = .slice oa all.length oc ∧ BgI w n0 all us h oa oc wr) (fun _ _ iv _ => len - (intOf iv).toNat)
  case atStart => exact ⟨0, 0, [], [], none, 0, by omega, by simp, rfl, rfl, rfl, hI0⟩
  case round =>
    obtain ⟨k, h, all, us, oa, oc, hk, hal, rfl, rfl, rfl, hI⟩ := hrel
    clear hI0
    by_cases hlt : k < len
    · obtain ⟨b, off, x, rfl, hbl, hx, hxk, hxi⟩ := (hZ.below hI.bel).at_ k hlt
      have hki : (k : Int) < (len : Int) := by omega
      have hy := tmod5 x
      have hP1 : IsP (wr.alloc (.cells #[.int .i64 0, .bool true, .int .i64 3, .int .i64 (x.tmod 5)] 66)) (some ⟨wr.heap.size, 0, none⟩) 1 1 [⟨0, true, 3, x.tmod 5⟩] := isP_lit wr [⟨0, true, 3, x.tmod 5⟩] 1 rfl (by decide) (by intro p hp; rw [List.mem_singleton] at hp; subst hp; unfold Pp.ok I64; simp only; omega)
      have B1 : Below wr.heap.size wr (wr.alloc (.cells #[.int .i64 0, .bool true, .int .i64 3, .int .i64 (x.tmod 5)] 66)) := box_below
      have hO1 := hI.own.below B1
      have hbg := hI.bg.add 0 (x.tmod 5) (by omega)
      have hhl : h ≤ all.length := by rw [← hI.bg.cnt]; exact Nat.le_trans (cN_le _ _) hI.bg.len
      have hw1 : IntKind.i64.wrap ((h : Int) + 1) = (h : Int) + 1 := by rw [IntKind.wrap_i64]; omega
      have hbs := hI.base
      have hl1 : all.length + 1 ≤ 4398046511104 := by omega
      obtain ⟨L, hL⟩ : ∃ L, Hid (all.length = L) := ⟨_, rfl⟩
      rw [hL.out] at hO1 hl1 ⊢
      go_wp2_with (at_builtin; refine app_opsK _ rfl _ _ rfl (w.heap.size + 1) _ all rfl hO1 _ 1 1 [⟨0, true, 3, x.tmod 5⟩] rfl hP1 (by rw [hL.out]; exact hl1) (by have := B1.size; omega) ?_)
      intro a' n' c' w2 O2 K2
      obtain rfl := ownP_len O2
      rw [← hL.out] at K2
      have hI2 := hI.grow B1 K2 hbg O2
      have hx2 : w2.cell? ⟨b, off + k, none⟩ = some (.int .i64 x) := by
        obtain ⟨b', off', x', e, _, hx', hxk', _⟩ := (hZ.below hI2.bel).at_ k hlt
        simp only [Option.some.injEq, Addr.mk.injEq] at e
        obtain ⟨rfl, rfl, _⟩ := e
        rw [hxk.out] at hxk'
        obtain rfl := Option.some.inj hxk'.out
        exact hx'
      have hlen : Hid ((all ++ [(⟨0, true, 3, x.tmod 5⟩ : Pp)]).length ≤ k + 1) := by rw [Hid, List.length_append]; simp; omega
      clear hO1 hP1 hx K2 O2 hbg hI B1 hhl hl1 hL
      generalize all ++ [(⟨0, true, 3, x.tmod 5⟩ : Pp)] = all2 at *
      generalize bIns us (3, x.tmod 5) = us2 at *
      by_cases hyn : x.tmod 5 = n0
      · rw [if_pos hyn] at hI2
        go_wp2
        go_roundw
        case rel => exact ⟨k + 1, h + 1, all2, us2, a', c', by omega, hlen.out, by go_num, by go_num, rfl, hI2⟩
        case measure => simp [intOf]; omega
      · rw [if_neg hyn] at hI2
        go_wp2
        go_roundw
        case rel => exact ⟨k + 1, h, all2, us2, a', c', by omega, hlen.out, by go_num, rfl, rfl, hI2⟩
        case measure => simp [intOf]; omega
    · have hge : ¬ (k : Int) < (len : Int) := by omega
      have hal1 : all.length ≤ 40 + 0 := by omega
      have hI0 := hI
      clear hI hlt hk hal
      go_wp2_with fail
      clear hge
      go_loopw [8, 9, 11] (fun hv ov iv wr => ∃ (k h : Nat) (all : List Pp) (us : List (Int × Int)) (oa : Option Addr) (oc : Nat), k ≤ pn ∧ all.length ≤ 40 + k ∧ iv = .int .i64 (k : Int) ∧ hv = .int .i64 (h : Int) ∧ ov = .slice oa all.length oc ∧ BgI w n0 all us h oa oc wr) (fun _ _ iv _ => pn - (intOf iv).toNat)
      case atStart => exact ⟨0, h, all, us, oa, oc, by omega, hal1, rfl, rfl, rfl, hI0⟩
      case round =>
        clear hI0 hal1
        obtain ⟨k, h, all, us, oa, oc, hk, hal, rfl, rfl, rfl, hI⟩ := hrel
        by_cases hlt : k < pn
        · obtain ⟨b, off, p, rfl, hbl, hpk, ⟨q0, qa, q2, q3⟩, hpo⟩ := (hP.below hI.bel).at_ k hlt
          have hki : (k : Int) < (pn : Int) := by omega
          have hk0 : (0 : Int) ≤ (k : Int) := by omega
          obtain ⟨pp, ad, pk, pN⟩ := p
          simp only at q0 qa q2 q3
          have hy := tmod5 pN
          have E12 := new1 wr (.cells #[.int .i64 3, .int .i64 (pN.tmod 5)] 60)
          have Ba : Below wr.heap.size wr (wr.alloc (.cells #[.int .i64 3, .int .i64 (pN.tmod 5)] 60)) := box_below
          replace qa := (Ba.cell (p := ⟨b, off + k * 4 + 1, none⟩) (lt_of_cell qa)).trans qa
          obtain ⟨L, hL⟩ : ∃ L, Hid (all.length = L) := ⟨_, rfl⟩
          rw [hL.out]
          go_upto_region 17 with fail
          generalize pN.tmod 5 = y at *
          clear q0 q2 q3
          generalize wr.alloc (.cells #[.int .i64 3, .int .i64 y] 60) = wa at *
          obtain ⟨b12, hb12⟩ : ∃ b, b = wr.heap.size := ⟨_, rfl⟩
          rw [← hb12] at E12 ⊢
          clear hb12
          refine wp_region_inv' (fun A D a w' => ∃ v68 v69 v70 v71 v72 v73 v74 v13 n13, a = ((((((((A.put (some 68) v68).put (some 69) v69).put (some 70) v70).put (some 71) v71).put (some 72) v72).put (some 73) v73).put (some 74) v74).put (some 13) v13) ∧ Below wa.heap.size wa w' ∧ (D 0 → v68 = .slice (some ⟨b, off, none⟩) pn pc) ∧ (D 1 → v69 = .int .i64 (k : Int)) ∧ (D 2 → v70 = .pointer (some ⟨b, off + k * 4, none⟩)) ∧ (D 3 → v71 = .pointer (some ⟨b, off + k * 4 + 1, none⟩)) ∧ (D 4 → v72 = .bool ad) ∧ (D 5 → v73 = .agg #[.int .i64 3, .int .i64 y]) ∧ (D 6 → v74 = .agg #[.int .i64 0, .bool ad, .int .i64 3, .int .i64 y]) ∧ (D 7 → v13 = .pointer (some ⟨n13, 0, none⟩)) ∧ (D 8 → w'.heap[n13]? = some (opB 0 ad 3 y)) ∧ (D 7 → ¬ D 8 → w'.heap[n13]? = some (opB 0 false 0 0) ∧ wa.heap.size ≤ n13)) (by kernel_rfl) (by kernel_rfl) ?mono ?start ?step ?done
          case mono =>
            rintro D D' a w' hD ⟨v68, v69, v70, v71, v72, v73, v74, v13, n13, ha, hB, e0, e1, e2, e3, e4, e5, e6, e7, hQ, hN⟩
            exact ⟨v68, v69, v70, v71, v72, v73, v74, v13, n13, ha, hB, fun h => e0 ((hD 0).2 h), fun h => e1 ((hD 1).2 h), fun h => e2 ((hD 2).2 h), fun h => e3 ((hD 3).2 h), fun h => e4 ((hD 4).2 h), fun h => e5 ((hD 5).2 h), fun h => e6 ((hD 6).2 h), fun h => e7 ((hD 7).2 h), fun h => hQ ((hD 8).2 h), fun h h' => hN ((hD 7).2 h) (fun k => h' ((hD 8).1 k))⟩
          case start => exact ⟨u68, u69, u70, u71, u72, u73, u74, u13, 0, by kernel_rfl, (Below.refl _ _).drew, fun h => h.elim, fun h => h.elim, fun h => h.elim, fun h => h.elim, fun h => h.elim, fun h => h.elim, fun h => h.elim, fun h => h.elim, fun h => h.elim, fun h _ => h.elim⟩
          case step =>
            intro i o ho D a w' hI hn hcl hd
            obtain ⟨v68, v69, v70, v71, v72, v73, v74, v13, n13, ha, hB, e0, e1, e2, e3, e4, e5, e6, e7, hQ, hN⟩ := hI
            match i, ho with
            | 0, ho =>
              cases Option.some.inj ho
              have ev : a.tmps[1]?.getD undef = .slice (some ⟨b, off, none⟩) pn pc := by rw [ha]; kernel_rfl
              refine wp_value (w' := w') (v := .slice (some ⟨b, off, none⟩) pn pc) (by simp [execOp, ev, go_sem]) ?_
              exact ⟨(.slice (some ⟨b, off, none⟩) pn pc), v69, v70, v71, v72, v73, v74, v13, n13, by rw [ha]; kernel_rfl, hB, fun _ => rfl, fun h => e1 (h.resolve_left (by decide)), fun h => e2 (h.resolve_left (by decide)), fun h => e3 (h.resolve_left (by decide)), fun h => e4 (h.resolve_left (by decide)), fun h => e5 (h.resolve_left (by decide)), fun h => e6 (h.resolve_left (by decide)), fun h => e7 (h.resolve_left (by decide)), fun h => hQ (h.resolve_left (by decide)), fun h h' => hN (h.resolve_left (by decide)) (fun k => h' (.inr k))⟩
            | 1, ho =>
              cases Option.some.inj ho
              have ev : a.tmps[11]?.getD undef = .int .i64 (k : Int) := by rw [ha]; kernel_rfl
              refine wp_value (w' := w') (v := .int .i64 (k : Int)) (by simp [execOp, ev, go_sem]) ?_
              exact ⟨v68, (.int .i64 (k : Int)), v70, v71, v72, v73, v74, v13, n13, by rw [ha]; kernel_rfl, hB, fun h => e0 (h.resolve_left (by decide)), fun _ => rfl, fun h => e2 (h.resolve_left (by decide)), fun h => e3 (h.resolve_left (by decide)), fun h => e4 (h.resolve_left (by decide)), fun h => e5 (h.resolve_left (by decide)), fun h => e6 (h.resolve_left (by decide)), fun h => e7 (h.resolve_left (by decide)), fun h => hQ (h.resolve_left (by decide)), fun h h' => hN (h.resolve_left (by decide)) (fun k => h' (.inr k))⟩
            | 2, ho =>
              cases Option.some.inj ho
              have ev : a.tmps[68]?.getD undef = .slice (some ⟨b, off, none⟩) pn pc := by rw [ha, e0 (hd ⟨0, .data⟩ (by simp) rfl)]; kernel_rfl
              have ev' : a.tmps[69]?.getD undef = .int .i64 (k : Int) := by rw [ha, e1 (hd ⟨1, .data⟩ (by simp) rfl)]; kernel_rfl
              refine wp_value (w' := w') (v := .pointer (some ⟨b, off + k * 4, none⟩)) (by simp [execOp, ev, ev', go_sem, hki, hk0]) ?_
              exact ⟨v68, v69, (.pointer (some ⟨b, off + k * 4, none⟩)), v71, v72, v73, v74, v13, n13, by rw [ha]; kernel_rfl, hB, fun h => e0 (h.resolve_left (by decide)), fun h => e1 (h.resolve_left (by decide)), fun _ => rfl, fun h => e3 (h.resolve_left (by decide)), fun h => e4 (h.resolve_left (by decide)), fun h => e5 (h.resolve_left (by decide)), fun h => e6 (h.resolve_left (by decide)), fun h => e7 (h.resolve_left (by decide)), fun h => hQ (h.resolve_left (by decide)), fun h h' => hN (h.resolve_left (by decide)) (fun k => h' (.inr k))⟩
            | 3, ho =>
              cases Option.some.inj ho
              have ev : a.tmps[70]?.getD undef = .pointer (some ⟨b, off + k * 4, none⟩) := by rw [ha, e2 (hd ⟨2, .data⟩ (by simp) rfl)]; kernel_rfl
              refine wp_value (w' := w') (v := .pointer (some ⟨b, off + k * 4 + 1, none⟩)) (by simp [execOp, ev, go_sem]) ?_
              exact ⟨v68, v69, v70, (.pointer (some ⟨b, off + k * 4 + 1, none⟩)), v72, v73, v74, v13, n13, by rw [ha]; kernel_rfl, hB, fun h => e0 (h.resolve_left (by decide)), fun h => e1 (h.resolve_left (by decide)), fun h => e2 (h.resolve_left (by decide)), fun _ => rfl, fun h => e4 (h.resolve_left (by decide)), fun h => e5 (h.resolve_left (by decide)), fun h => e6 (h.resolve_left (by decide)), fun h => e7 (h.resolve_left (by decide)), fun h => hQ (h.resolve_left (by decide)), fun h h' => hN (h.resolve_left (by decide)) (fun k => h' (.inr k))⟩
            | 4, ho =>
              cases Option.some.inj ho
              have ev : a.tmps[71]?.getD undef = .pointer (some ⟨b, off + k * 4 + 1, none⟩) := by rw [ha, e3 (hd ⟨3, .data⟩ (by simp) rfl)]; kernel_rfl
              have hc := (hB.cell (p := ⟨b, off + k * 4 + 1, none⟩) (lt_of_cell qa)).trans qa
              refine wp_value (w' := w') (v := .bool ad) (by simp [execOp, ev, go_sem, hc]) ?_
              exact ⟨v68, v69, v70, v71, (.bool ad), v73, v74, v13, n13, by rw [ha]; kernel_rfl, hB, fun h => e0 (h.resolve_left (by decide)), fun h => e1 (h.resolve_left (by decide)), fun h => e2 (h.resolve_left (by decide)), fun h => e3 (h.resolve_left (by decide)), fun _ => rfl, fun h => e5 (h.resolve_left (by decide)), fun h => e6 (h.resolve_left (by decide)), fun h => e7 (h.resolve_left (by decide)), fun h => hQ (h.resolve_left (by decide)), fun h h' => hN (h.resolve_left (by decide)) (fun k => h' (.inr k))⟩
            | 5, ho =>
              cases Option.some.inj ho
              have ev : a.tmps[12]?.getD undef = .pointer (some ⟨b12, 0, none⟩) := by rw [ha]; kernel_rfl
              obtain ⟨z0, z1⟩ := val_cells ((hB.block _ (lt_of_block E12)).trans E12)
              refine wp_value (w' := w') (v := .agg #[.int .i64 3, .int .i64 y]) (by simp [execOp, ev, go_sem, z0, z1]) ?_
              exact ⟨v68, v69, v70, v71, v72, (.agg #[.int .i64 3, .int .i64 y]), v74, v13, n13, by rw [ha]; kernel_rfl, hB, fun h => e0 (h.resolve_left (by decide)), fun h => e1 (h.resolve_left (by decide)), fun h => e2 (h.resolve_left (by decide)), fun h => e3 (h.resolve_left (by decide)), fun h => e4 (h.resolve_left (by decide)), fun _ => rfl, fun h => e6 (h.resolve_left (by decide)), fun h => e7 (h.resolve_left (by decide)), fun h => hQ (h.resolve_left (by decide)), fun h h' => hN (h.resolve_left (by decide)) (fun k => h' (.inr k))⟩
            | 6, ho =>
              cases Option.some.inj ho
              have ev : a.tmps[72]?.getD undef = .bool ad := by rw [ha, e4 (hd ⟨4, .data⟩ (by simp) rfl)]; kernel_rfl
              have ev' : a.tmps[73]?.getD undef = .agg #[.int .i64 3, .int .i64 y] := by rw [ha, e5 (hd ⟨5, .data⟩ (by simp) rfl)]; kernel_rfl
              refine wp_value (w' := w') (v := .agg #[.int .i64 0, .bool ad, .int .i64 3, .int .i64 y]) (by simp [execOp, ev, ev', go_sem]) ?_
              exact ⟨v68, v69, v70, v71, v72, v73, (.agg #[.int .i64 0, .bool ad, .int .i64 3, .int .i64 y]), v13, n13, by rw [ha]; kernel_rfl, hB, fun h => e0 (h.resolve_left (by decide)), fun h => e1 (h.resolve_left (by decide)), fun h => e2 (h.resolve_left (by decide)), fun h => e3 (h.resolve_left (by decide)), fun h => e4 (h.resolve_left (by decide)), fun h => e5 (h.resolve_left (by decide)), fun _ => rfl, fun h => e7 (h.resolve_left (by decide)), fun h => hQ (h.resolve_left (by decide)), fun h h' => hN (h.resolve_left (by decide)) (fun k => h' (.inr k))⟩
            | 7, ho =>
              cases Option.some.inj ho
              refine wp_value (w' := w'.alloc (.cells #[.int .i64 0, .bool false, .int .i64 0, .int .i64 0] 66)) (v := .pointer (some ⟨w'.heap.size, 0, none⟩)) (by simp [execOp, go_sem]) ?_
              exact ⟨v68, v69, v70, v71, v72, v73, v74, (.pointer (some ⟨w'.heap.size, 0, none⟩)), w'.heap.size, by rw [ha]; kernel_rfl, below_size hB hB.size box_below, fun h => e0 (h.resolve_left (by decide)), fun h => e1 (h.resolve_left (by decide)), fun h => e2 (h.resolve_left (by decide)), fun h => e3 (h.resolve_left (by decide)), fun h => e4 (h.resolve_left (by decide)), fun h => e5 (h.resolve_left (by decide)), fun h => e6 (h.resolve_left (by decide)), fun _ => rfl, fun h => absurd (h.resolve_left (by decide)) (fun h => hn (hcl 8 _ rfl h ⟨7, .data⟩ (by simp) rfl)), fun _ _ => ⟨new1 _ _, hB.size⟩⟩
            | 8, ho =>
              cases Option.some.inj ho
              have ev : a.tmps[13]?.getD undef = .pointer (some ⟨n13, 0, none⟩) := by rw [ha, e7 (hd ⟨7, .data⟩ (by simp) rfl)]; kernel_rfl
              have ev' : a.tmps[74]?.getD undef = .agg #[.int .i64 0, .bool ad, .int .i64 3, .int .i64 y] := by rw [ha, e6 (hd ⟨6, .data⟩ (by simp) rfl)]; kernel_rfl
              obtain ⟨E9, hn13⟩ := hN (hd ⟨7, .data⟩ (by simp) rfl) hn
              obtain ⟨z0, z1, z2, z3, zf⟩ := op_cells E9
              have zf0 := zf 0
              have zf1 := zf 1
              have zf2 := zf 2
              have zf3 := zf 3
              refine wp_skip (w' := stQ w' n13 0 ad 3 y) (by simp [execOp, Act.eval, ev, ev', go_sem, z0, z1, z2, z3, zf0, zf1, zf2, zf3, stQ]) ?_
              exact ⟨v68, v69, v70, v71, v72, v73, v74, v13, n13, by rw [ha]; kernel_rfl, stQ_below hB hn13 _ _ _ _, fun h => e0 (h.resolve_left (by decide)), fun h => e1 (h.resolve_left (by decide)), fun h => e2 (h.resolve_left (by decide)), fun h => e3 (h.resolve_left (by decide)), fun h => e4 (h.resolve_left (by decide)), fun h => e5 (h.resolve_left (by decide)), fun h => e6 (h.resolve_left (by decide)), fun h => e7 (h.resolve_left (by decide)), fun _ => stQ_blk E9 _ _ _ _, fun _ h' => absurd (.inl rfl) h'⟩
            | i + 9, ho => simp at ho
          case done =>
            rintro D a w' ⟨v68, v69, v70, v71, v72, v73, v74, v13, n13, ha, hB, e0, e1, e2, e3, e4, e5, e6, e7, hQ, hN⟩ hall
            obtain rfl := e0 (hall 0 (by decide))
            obtain rfl := e1 (hall 1 (by decide))
            obtain rfl := e2 (hall 2 (by decide))
            obtain rfl := e3 (hall 3 (by decide))
            obtain rfl := e4 (hall 4 (by decide))
            obtain rfl := e5 (hall 5 (by decide))
            obtain rfl := e6 (hall 6 (by decide))
            obtain rfl := e7 (hall 7 (by decide))
            have E13 := hQ (hall 8 (by decide))
            clear hN hQ hall e0 e1 e2 e3 e4 e5 e6 e7
            rw [ha]
            clear ha
            simp only [Act.put, List.setIfInBounds_toArray, List.set_cons_zero, List.set_cons_succ]
            have Bb := below_size Ba Ba.size hB
            have E12b := (hB.block _ (lt_of_block E12)).trans E12
            have Eo := (Bb.block _ (lt_of_block hI.obj)).trans hI.obj
            have Oall := hI.own.below Bb
            rw [hL.out] at Oall
            have hyo : (⟨0, ad, 3, y⟩ : Pp).ok := by unfold Pp.ok I64; simp only; omega
            have hLb : L + 1 ≤ 4398046511104 := by rw [← hL.out]; omega
            have hhl : h ≤ L := by rw [← hI.bg.cnt, ← hL.out]; exact Nat.le_trans (cN_le _ _) hI.bg.len
            have hL256 : all.length < 256 := by omega
            clear hB E12 qa Ba
            generalize w' = wb at *
            have Hnil : OwnP wb wb.heap.size (.slice none 0 0) [] := ownP_of (n := 0) (World.ownsRow_nil _ _ _ _) (by intro p hp; cases hp)
            go_wp2_with (at_builtin; refine app_opsK _ rfl _ _ rfl wb.heap.size _ [] rfl Hnil _ L oc all rfl Oall.isP (by simp; omega) (Nat.le_refl _) ?_)
            intro a1 n1 c1 w2 O1 K1
            have B2 := K1.nilB
            obtain rfl : L = n1 := by rw [ownP_len O1]; exact hL.out.symm
            have E13b := (B2.block _ (lt_of_block E13)).trans E13
            obtain ⟨z0, z1, z2, z3, zf⟩ := op_cells E13b
            have hP1 : IsP (w2.alloc (.cells #[.int .i64 0, .bool ad, .int .i64 3, .int .i64 y] 66)) (some ⟨w2.heap.size, 0, none⟩) 1 1 [⟨0, ad, 3, y⟩] := isP_lit w2 [⟨0, ad, 3, y⟩] 1 rfl (by decide) (by intro p hp; rw [List.mem_singleton] at hp; subst hp; exact hyo)
            have B3 : Below wb.heap.size wb (w2.alloc (.cells #[.int .i64 0, .bool ad, .int .i64 3, .int .i64 y] 66)) := below_size B2 B2.size box_below
            have O1b := O1.below (box_below (o := .cells #[.int .i64 0, .bool ad, .int .i64 3, .int .i64 y] 66))
            clear K1 Hnil
            go_wp2_with (at_builtin; refine app_opsK _ rfl _ _ rfl wb.heap.size _ all rfl O1b _ 1 1 [⟨0, ad, 3, y⟩] rfl hP1 (by rw [hL.out]; exact hLb) B3.size ?_)
            intro a2 n2 c2 w4 O2 K2
            have B4 : Below wb.heap.size wb w4 := K2.below B3 B3.size (fun g hg => (own_block O1b.1 hg).1)
            clear z0 z1 z2 z3 zf hP1 O1 O1b K2 B2 B3 E13b
            have Eo4 := (B4.block _ (lt_of_block Eo)).trans Eo
            obtain ⟨z0, z1, z2, zf⟩ := obj_cells Eo4
            have hnow := hI.bg.now ⟨0, ad, 3, y⟩
            have hrep := replay_bag (w := w4) (vs := []) (bs := []) ⟨by decide, isV_nil w4, isB_nil w4⟩ (Nat.zero_le _) (Nat.zero_le _) O2.isP
            rw [hnow] at hrep
            go_wp2_with fail
            refine hrep.mono ?_
            rintro e w5 ⟨hRep, B5⟩
            clear hrep hnow z0 z1 z2 zf O2
            have B6 := below_size B4 B4.size B5
            cases ad with
            | true =>
              rw [bagS_add (Nat.lt_of_le_of_lt hI.bg.len hL256)] at hRep
              by_cases hyn : y = n0
              · subst hyn
                obtain ⟨ra, rp, rb, rn, rq, rfl, OV, OB⟩ := hRep
                obtain ⟨M, hM⟩ : ∃ M, Hid ((bIns us (3, y)).length = M) := ⟨_, rfl⟩
                rw [hM.out] at OV ⊢
                have B7 := below_size B6 B6.size (box_below (o := objB 14 (.slice ra M rp) (.slice rb rn rq)))
                have E15 := new1 w5 (objB 14 (.slice ra M rp) (.slice rb rn rq))
                have OV7 := OV.below (box_below (o := objB 14 (.slice ra M rp) (.slice rb rn rq)))
                have E12c := (B7.block _ (lt_of_block E12b)).trans E12b
                have E13c := (B7.block _ (lt_of_block E13)).trans E13
                have Oall7 := Oall.below B7
                have hw5 := B6.size
                unfold objB at B7 E15 OV7 E12c E13c Oall7
                obtain ⟨y0, y1⟩ := val_cells E12c
                obtain ⟨z0, z1, z2, z3, zf⟩ := op_cells E13c
                have hP3 : IsP ((w5.alloc (.cells #[.int .i64 14, .slice ra M rp, .slice rb rn rq] 38)).alloc (.cells #[.int .i64 0, .bool true, .int .i64 3, .int .i64 y] 66)) (some ⟨w5.heap.size + 1, 0, none⟩) 1 1 [⟨0, true, 3, y⟩] := by
                  have := isP_lit (w5.alloc (.cells #[.int .i64 14, .slice ra M rp, .slice rb rn rq] 38)) [⟨0, true, 3, y⟩] 1 rfl (by decide) (by intro p hp; rw [List.mem_singleton] at hp; subst hp; exact hyo)
                  rwa [size1] at this
                have B8 := below_size B7 B7.size (box_below (o := .cells #[.int .i64 0, .bool true, .int .i64 3, .int .i64 y] 66))
                have Oall8 := Oall7.below (box_below (o := .cells #[.int .i64 0, .bool true, .int .i64 3, .int .i64 y] 66))
                have OV8 := OV7.below (box_below (o := .cells #[.int .i64 0, .bool true, .int .i64 3, .int .i64 y] 66))
                have E15b := old1 E15 (.cells #[.int .i64 0, .bool true, .int .i64 3, .int .i64 y] 66)
                have Br8 := below_size Bb Bb.size B8
                have hbs8 := Br8.size
                have hbs := hI.base
                have hw1 : IntKind.i64.wrap ((h : Int) + 1) = (h : Int) + 1 := by rw [IntKind.wrap_i64]; omega
                clear OV7 Oall7 B6 B7 B5 OB E12c E13c E15
                go_wp2_with (at_builtin; refine app_opsK _ rfl _ _ rfl (w.heap.size + 1) _ all rfl Oall8 _ 1 1 [⟨0, true, 3, y⟩] rfl hP3 (by rw [hL.out]; exact hLb) (by omega) ?_)
                intro a3 n3 c3 w9 O3 K3
                obtain rfl := ownP_len O3
                have E15c := (K3.block _ (lt_of_block E15b) (own_ne Oall8.1 E15b (by decide))).trans E15b
                have OV9 : OwnV w9 w4.heap.size (.slice ra M rp) (bIns us (3, y)) := ownV_of (own_same OV8.1 (fun g hg => by
                  obtain ⟨_, cur, hh⟩ := own_block OV8.1 hg
                  exact K3.block g (lt_of_block hh) (own_ne Oall8.1 hh (by decide)))) OV8.wf
                rw [← hL.out] at K3
                have hbg := hI.bg.add 0 y hL256
                have hcn0 : cN (bIns us (3, y)) y = h + 1 := by rw [hbg.cnt, if_pos rfl]
                have hcn : Hid (cN (bIns us (3, y)) y = h + 1) := hcn0
                clear hcn0
                rw [if_pos rfl] at hbg
                have hI9 := hI.grow Br8 K3 hbg O3
                have hcnt := count_any (w := w9) (c := 14) (ba := rb) (bn := rn) (bc := rq) y OV9.isV
                rw [hcn.out] at hcnt
                have hlen : Hid ((all ++ [(⟨0, true, 3, y⟩ : Pp)]).length ≤ 40 + (k + 1)) := by rw [Hid, List.length_append]; simp; omega
                clear hP3 Oall8 OV8 E15b Br8 B8 O3 K3 OV9 y0 y1 z0 z1 z2 z3 zf
                obtain ⟨z0, z1, z2, zf⟩ := obj_cells E15c
                generalize all ++ [(⟨0, true, 3, y⟩ : Pp)] = all2 at *
                generalize (bIns us (3, y)) = us2 at *
                rw [Int.natCast_add] at hcnt
                go_wp2_with fail
                refine hcnt.mono ?_
                rintro e w10 ⟨rfl, B10⟩
                have hI10 := hI9.keep B10
                clear hI9 hcnt z0 z1 z2 zf B10
                go_wp2
                go_roundw
                case rel => exact ⟨k + 1, h + 1, all2, us2, a3, c3, by omega, hlen.out, by go_num, by go_num, rfl, hI10⟩
                case measure => simp [intOf]; omega
              · obtain ⟨ra, rp, rb, rn, rq, rfl, OV, OB⟩ := hRep
                obtain ⟨M, hM⟩ : ∃ M, Hid ((bIns us (3, y)).length = M) := ⟨_, rfl⟩
                rw [hM.out] at OV ⊢
                have B7 := below_size B6 B6.size (box_below (o := objB 14 (.slice ra M rp) (.slice rb rn rq)))
                have E15 := new1 w5 (objB 14 (.slice ra M rp) (.slice rb rn rq))
                have OV7 := OV.below (box_below (o := objB 14 (.slice ra M rp) (.slice rb rn rq)))
                have E12c := (B7.block _ (lt_of_block E12b)).trans E12b
                have E13c := (B7.block _ (lt_of_block E13)).trans E13
                have Oall7 := Oall.below B7
                have hw5 := B6.size
                unfold objB at B7 E15 OV7 E12c E13c Oall7
                obtain ⟨y0, y1⟩ := val_cells E12c
                obtain ⟨z0, z1, z2, z3, zf⟩ := op_cells E13c
                have hP3 : IsP ((w5.alloc (.cells #[.int .i64 14, .slice ra M rp, .slice rb rn rq] 38)).alloc (.cells #[.int .i64 0, .bool true, .int .i64 3, .int .i64 y] 66)) (some ⟨w5.heap.size + 1, 0, none⟩) 1 1 [⟨0, true, 3, y⟩] := by
                  have := isP_lit (w5.alloc (.cells #[.int .i64 14, .slice ra M rp, .slice rb rn rq] 38)) [⟨0, true, 3, y⟩] 1 rfl (by decide) (by intro p hp; rw [List.mem_singleton] at hp; subst hp; exact hyo)
                  rwa [size1] at this
                have B8 := below_size B7 B7.size (box_below (o := .cells #[.int .i64 0, .bool true, .int .i64 3, .int .i64 y] 66))
                have Oall8 := Oall7.below (box_below (o := .cells #[.int .i64 0, .bool true, .int .i64 3, .int .i64 y] 66))
                have OV8 := OV7.below (box_below (o := .cells #[.int .i64 0, .bool true, .int .i64 3, .int .i64 y] 66))
                have E15b := old1 E15 (.cells #[.int .i64 0, .bool true, .int .i64 3, .int .i64 y] 66)
                have Br8 := below_size Bb Bb.size B8
                have hbs8 := Br8.size
                have hbs := hI.base
                clear OV7 Oall7 B6 B7 B5 OB E12c E13c E15
                go_wp2_with (at_builtin; refine app_opsK _ rfl _ _ rfl (w.heap.size + 1) _ all rfl Oall8 _ 1 1 [⟨0, true, 3, y⟩] rfl hP3 (by rw [hL.out]; exact hLb) (by omega) ?_)
                intro a3 n3 c3 w9 O3 K3
                obtain rfl := ownP_len O3
                have E15c := (K3.block _ (lt_of_block E15b) (own_ne Oall8.1 E15b (by decide))).trans E15b
                have OV9 : OwnV w9 w4.heap.size (.slice ra M rp) (bIns us (3, y)) := ownV_of (own_same OV8.1 (fun g hg => by
                  obtain ⟨_, cur, hh⟩ := own_block OV8.1 hg
                  exact K3.block g (lt_of_block hh) (own_ne Oall8.1 hh (by decide)))) OV8.wf
                rw [← hL.out] at K3
                have hbg := hI.bg.add 0 y hL256
                have hcn0 : cN (bIns us (3, y)) n0 = h + 0 := by rw [hbg.cnt, if_neg hyn]
                have hcn : Hid (cN (bIns us (3, y)) n0 = h + 0) := hcn0
                clear hcn0
                rw [if_neg hyn] at hbg
                have hI9 := hI.grow Br8 K3 hbg O3
                have hcnt := count_any (w := w9) (c := 14) (ba := rb) (bn := rn) (bc := rq) n0 OV9.isV
                rw [hcn.out] at hcnt
                have hlen : Hid ((all ++ [(⟨0, true, 3, y⟩ : Pp)]).length ≤ 40 + (k + 1)) := by rw [Hid, List.length_append]; simp; omega
                clear hP3 Oall8 OV8 E15b Br8 B8 O3 K3 OV9 y0 y1 z0 z1 z2 z3 zf
                obtain ⟨z0, z1, z2, zf⟩ := obj_cells E15c
                generalize all ++ [(⟨0, true, 3, y⟩ : Pp)] = all2 at *
                generalize (bIns us (3, y)) = us2 at *
                rw [Nat.add_zero] at hcnt
                go_wp2_with fail
                refine hcnt.mono ?_
                rintro e w10 ⟨rfl, B10⟩
                have hI10 := hI9.keep B10
                clear hI9 hcnt z0 z1 z2 zf B10
                go_wp2
                go_roundw
                case rel => exact ⟨k + 1, h + 0, all2, us2, a3, c3, by omega, hlen.out, by go_num, by go_num, rfl, hI10⟩
                case measure => simp [intOf]; omega
            | false =>
              by_cases hm : (3, y) ∈ us
              · rw [bagS_rem hm] at hRep
                by_cases hyn : y = n0
                · subst hyn
                  obtain ⟨ra, rp, rb, rn, rq, rfl, OV, OB⟩ := hRep
                  obtain ⟨M, hM⟩ : ∃ M, Hid ((bRem us (3, y)).length = M) := ⟨_, rfl⟩
                  rw [hM.out] at OV ⊢
                  have B7 := below_size B6 B6.size (box_below (o := objB 14 (.slice ra M rp) (.slice rb rn rq)))
                  have E15 := new1 w5 (objB 14 (.slice ra M rp) (.slice rb rn rq))
                  have OV7 := OV.below (box_below (o := objB 14 (.slice ra M rp) (.slice rb rn rq)))
                  have E12c := (B7.block _ (lt_of_block E12b)).trans E12b
                  have E13c := (B7.block _ (lt_of_block E13)).trans E13
                  have Oall7 := Oall.below B7
                  have hw5 := B6.size
                  unfold objB at B7 E15 OV7 E12c E13c Oall7
                  obtain ⟨y0, y1⟩ := val_cells E12c
                  obtain ⟨z0, z1, z2, z3, zf⟩ := op_cells E13c
                  have hP3 : IsP ((w5.alloc (.cells #[.int .i64 14, .slice ra M rp, .slice rb rn rq] 38)).alloc (.cells #[.int .i64 0, .bool false, .int .i64 3, .int .i64 y] 66)) (some ⟨w5.heap.size + 1, 0, none⟩) 1 1 [⟨0, false, 3, y⟩] := by
                    have := isP_lit (w5.alloc (.cells #[.int .i64 14, .slice ra M rp, .slice rb rn rq] 38)) [⟨0, false, 3, y⟩] 1 rfl (by decide) (by intro p hp; rw [List.mem_singleton] at hp; subst hp; exact hyo)
                    rwa [size1] at this
                  have B8 := below_size B7 B7.size (box_below (o := .cells #[.int .i64 0, .bool false, .int .i64 3, .int .i64 y] 66))
                  have Oall8 := Oall7.below (box_below (o := .cells #[.int .i64 0, .bool false, .int .i64 3, .int .i64 y] 66))
                  have OV8 := OV7.below (box_below (o := .cells #[.int .i64 0, .bool false, .int .i64 3, .int .i64 y] 66))
                  have E15b := old1 E15 (.cells #[.int .i64 0, .bool false, .int .i64 3, .int .i64 y] 66)
                  have Br8 := below_size Bb Bb.size B8
                  have hbs8 := Br8.size
                  have hbs := hI.base
                  have hpos : 0 < h := by rw [← hI.bg.has]; exact hm
                  have hposI : (0 : Int) < (h : Int) := by omega
                  have hw1 : IntKind.i64.wrap ((h : Int) - 1) = (h : Int) - 1 := by rw [IntKind.wrap_i64]; omega
                  clear OV7 Oall7 B6 B7 B5 OB E12c E13c E15
                  go_wp2_with (at_builtin; refine app_opsK _ rfl _ _ rfl (w.heap.size + 1) _ all rfl Oall8 _ 1 1 [⟨0, false, 3, y⟩] rfl hP3 (by rw [hL.out]; exact hLb) (by omega) ?_)
                  intro a3 n3 c3 w9 O3 K3
                  obtain rfl := ownP_len O3
                  have E15c := (K3.block _ (lt_of_block E15b) (own_ne Oall8.1 E15b (by decide))).trans E15b
                  have OV9 : OwnV w9 w4.heap.size (.slice ra M rp) (bRem us (3, y)) := ownV_of (own_same OV8.1 (fun g hg => by
                    obtain ⟨_, cur, hh⟩ := own_block OV8.1 hg
                    exact K3.block g (lt_of_block hh) (own_ne Oall8.1 hh (by decide)))) OV8.wf
                  rw [← hL.out] at K3
                  have hbg := hI.bg.rem 0 y hm
                  have hcn0 : cN (bRem us (3, y)) y = h - 1 := by rw [hbg.cnt, if_pos rfl]
                  have hcn : Hid (cN (bRem us (3, y)) y = h - 1) := hcn0
                  clear hcn0
                  rw [if_pos rfl] at hbg
                  have hI9 := hI.grow Br8 K3 hbg O3
                  have hcnt := count_any (w := w9) (c := 14) (ba := rb) (bn := rn) (bc := rq) y OV9.isV
                  rw [hcn.out] at hcnt
                  have hlen : Hid ((all ++ [(⟨0, false, 3, y⟩ : Pp)]).length ≤ 40 + (k + 1)) := by rw [Hid, List.length_append]; simp; omega
                  clear hP3 Oall8 OV8 E15b Br8 B8 O3 K3 OV9 y0 y1 z0 z1 z2 z3 zf
                  obtain ⟨z0, z1, z2, zf⟩ := obj_cells E15c
                  generalize all ++ [(⟨0, false, 3, y⟩ : Pp)] = all2 at *
                  generalize (bRem us (3, y)) = us2 at *
                  rw [show ((h - 1 : Nat) : Int) = (h : Int) - 1 by omega] at hcnt
                  go_wp2_with fail
                  refine hcnt.mono ?_
                  rintro e w10 ⟨rfl, B10⟩
                  have hI10 := hI9.keep B10
                  clear hI9 hcnt z0 z1 z2 zf B10
                  go_wp2
                  go_roundw
                  case rel => exact ⟨k + 1, h - 1, all2, us2, a3, c3, by omega, hlen.out, by go_num, by rw [show ((h - 1 : Nat) : Int) = (h : Int) - 1 by omega], rfl, hI10⟩
                  case measure => simp [intOf]; omega
                · obtain ⟨ra, rp, rb, rn, rq, rfl, OV, OB⟩ := hRep
                  obtain ⟨M, hM⟩ : ∃ M, Hid ((bRem us (3, y)).length = M) := ⟨_, rfl⟩
                  rw [hM.out] at OV ⊢
                  have B7 := below_size B6 B6.size (box_below (o := objB 14 (.slice ra M rp) (.slice rb rn rq)))
                  have E15 := new1 w5 (objB 14 (.slice ra M rp) (.slice rb rn rq))
                  have OV7 := OV.below (box_below (o := objB 14 (.slice ra M rp) (.slice rb rn rq)))
                  have E12c := (B7.block _ (lt_of_block E12b)).trans E12b
                  have E13c := (B7.block _ (lt_of_block E13)).trans E13
                  have Oall7 := Oall.below B7
                  have hw5 := B6.size
                  unfold objB at B7 E15 OV7 E12c E13c Oall7
                  obtain ⟨y0, y1⟩ := val_cells E12c
                  obtain ⟨z0, z1, z2, z3, zf⟩ := op_cells E13c
                  have hP3 : IsP ((w5.alloc (.cells #[.int .i64 14, .slice ra M rp, .slice rb rn rq] 38)).alloc (.cells #[.int .i64 0, .bool false, .int .i64 3, .int .i64 y] 66)) (some ⟨w5.heap.size + 1, 0, none⟩) 1 1 [⟨0, false, 3, y⟩] := by
                    have := isP_lit (w5.alloc (.cells #[.int .i64 14, .slice ra M rp, .slice rb rn rq] 38)) [⟨0, false, 3, y⟩] 1 rfl (by decide) (by intro p hp; rw [List.mem_singleton] at hp; subst hp; exact hyo)
                    rwa [size1] at this
                  have B8 := below_size B7 B7.size (box_below (o := .cells #[.int .i64 0, .bool false, .int .i64 3, .int .i64 y] 66))
                  have Oall8 := Oall7.below (box_below (o := .cells #[.int .i64 0, .bool false, .int .i64 3, .int .i64 y] 66))
                  have OV8 := OV7.below (box_below (o := .cells #[.int .i64 0, .bool false, .int .i64 3, .int .i64 y] 66))
                  have E15b := old1 E15 (.cells #[.int .i64 0, .bool false, .int .i64 3, .int .i64 y] 66)
                  have Br8 := below_size Bb Bb.size B8
                  have hbs8 := Br8.size
                  have hbs := hI.base
                  clear OV7 Oall7 B6 B7 B5 OB E12c E13c E15
                  go_wp2_with (at_builtin; refine app_opsK _ rfl _ _ rfl (w.heap.size + 1) _ all rfl Oall8 _ 1 1 [⟨0, false, 3, y⟩] rfl hP3 (by rw [hL.out]; exact hLb) (by omega) ?_)
                  intro a3 n3 c3 w9 O3 K3
                  obtain rfl := ownP_len O3
                  have E15c := (K3.block _ (lt_of_block E15b) (own_ne Oall8.1 E15b (by decide))).trans E15b
                  have OV9 : OwnV w9 w4.heap.size (.slice ra M rp) (bRem us (3, y)) := ownV_of (own_same OV8.1 (fun g hg => by
                    obtain ⟨_, cur, hh⟩ := own_block OV8.1 hg
                    exact K3.block g (lt_of_block hh) (own_ne Oall8.1 hh (by decide)))) OV8.wf
                  rw [← hL.out] at K3
                  have hbg := hI.bg.rem 0 y hm
                  have hcn0 : cN (bRem us (3, y)) n0 = h - 0 := by rw [hbg.cnt, if_neg hyn]
                  have hcn : Hid (cN (bRem us (3, y)) n0 = h - 0) := hcn0
                  clear hcn0
                  rw [if_neg hyn] at hbg
                  have hI9 := hI.grow Br8 K3 hbg O3
                  have hcnt := count_any (w := w9) (c := 14) (ba := rb) (bn := rn) (bc := rq) n0 OV9.isV
                  rw [hcn.out] at hcnt
                  have hlen : Hid ((all ++ [(⟨0, false, 3, y⟩ : Pp)]).length ≤ 40 + (k + 1)) := by rw [Hid, List.length_append]; simp; omega
                  clear hP3 Oall8 OV8 E15b Br8 B8 O3 K3 OV9 y0 y1 z0 z1 z2 z3 zf
                  obtain ⟨z0, z1, z2, zf⟩ := obj_cells E15c
                  generalize all ++ [(⟨0, false, 3, y⟩ : Pp)] = all2 at *
                  generalize (bRem us (3, y)) = us2 at *
                  rw [Nat.sub_zero] at hcnt
                  go_wp2_with fail
                  refine hcnt.mono ?_
                  rintro e w10 ⟨rfl, B10⟩
                  have hI10 := hI9.keep B10
                  clear hI9 hcnt z0 z1 z2 zf B10
                  go_wp2
                  go_roundw
                  case rel => exact ⟨k + 1, h - 0, all2, us2, a3, c3, by omega, hlen.out, by go_num, by rw [Nat.sub_zero], rfl, hI10⟩
                  case measure => simp [intOf]; omega
              · rw [bagS_not hm] at hRep
                by_cases hyn : y = n0
                · have hRep' : e = .returned (.tuple #[.agg #[.int .i64 0, .slice none 0 0, .slice none 0 0], .int .i64 30]) := hRep
                  subst hRep'
                  have B7 := below_size B6 B6.size (box_below (o := objB 0 (.slice none 0 0) (.slice none 0 0)))
                  have E12c := (B7.block _ (lt_of_block E12b)).trans E12b
                  have E13c := (B7.block _ (lt_of_block E13)).trans E13
                  have hI7 := hI.keep (below_size Bb Bb.size B7)
                  unfold objB at B7 E12c E13c hI7
                  obtain ⟨y0, y1⟩ := val_cells E12c
                  obtain ⟨z0, z1, z2, z3, zf⟩ := op_cells E13c
                  clear hRep
                  have h00 : h = 0 := by
                    rcases Nat.eq_zero_or_pos h with h0 | hp
                    · exact h0
                    · exact absurd (by rw [hyn]; exact hI.bg.has.2 hp) hm
                  have hpI : ¬ (0 : Int) < (h : Int) := by omega
                  replace h00 : Hid (h = 0) := h00
                  go_wp2
                  go_roundw
                  case rel => exact ⟨k + 1, h, all, us, oa, oc, by omega, by omega, by go_num, rfl, by rw [hL.out], hI7⟩
                  case measure => simp [intOf]; omega
                · have hRep' : e = .returned (.tuple #[.agg #[.int .i64 0, .slice none 0 0, .slice none 0 0], .int .i64 30]) := hRep
                  subst hRep'
                  have B7 := below_size B6 B6.size (box_below (o := objB 0 (.slice none 0 0) (.slice none 0 0)))
                  have E12c := (B7.block _ (lt_of_block E12b)).trans E12b
                  have E13c := (B7.block _ (lt_of_block E13)).trans E13
                  have hI7 := hI.keep (below_size Bb Bb.size B7)
                  unfold objB at B7 E12c E13c hI7
                  obtain ⟨y0, y1⟩ := val_cells E12c
                  obtain ⟨z0, z1, z2, z3, zf⟩ := op_cells E13c
                  clear hRep
                  go_wp2
                  go_roundw
                  case rel => exact ⟨k + 1, h, all, us, oa, oc, by omega, by omega, by go_num, rfl, by rw [hL.out], hI7⟩
                  case measure => simp [intOf]; omega
        · have hge : ¬ (k : Int) < (pn : Int) := by omega
          go_wp2_with fail
          refine (known_true _).mono ?_
          rintro e w9 ⟨rfl, B9⟩
          go_wp2
          go_ret
          exact ⟨rfl, below_size hI.bel hI.bel.size B9⟩
end Go.Proofs.Ytkkilenokpoaoaa
